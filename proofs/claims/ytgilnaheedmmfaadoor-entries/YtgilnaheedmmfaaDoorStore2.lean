import Derived.Test.YtgilnaheedmmfaaDoorStore
namespace Go.Proofs.YtgilnaheedmmfaaDoor
open Go.RowKit Go.Maps

theorem ownsMap_exact {P : Program} {k : TypeId} {R : Value → Option (DataW Value × List MemPlace)} {w : World} {b n : Nat} {l : List (Lit × DataW Value)} (h : w.ownsMap P k R b n (.map l)) : w.ownsMap P k R b l.length (.map l) := by
  obtain ⟨es, clock, hb, F, hs, hD⟩ := h
  refine ⟨es, clock, hb, F, ?_, hD⟩
  have : l = (es.toList.map (WideElems.rg P k R)).foldr DataW.insert [] := DataW.map.inj hD
  rw [this, length_sorted]
  simp

theorem MapAt.obj {w : World} {bm : Nat} {L : List Ent} (h : MapAt w bm L) : ∃ es clock, w.heap[bm]? = some (.map es clock) := by
  obtain ⟨es, clock, hb, _⟩ := h.map
  exact ⟨es, clock, hb⟩
theorem MapAt.mb_ne {w : World} {bm : Nat} {L : List Ent} (h : MapAt w bm L) {g : Nat} {cur : Array Value} {e : TypeId} {fr : Nat × Nat} (hg : w.heap[g]? = some (.cells cur e fr)) : g ≠ bm := by
  obtain ⟨es, clock, hb⟩ := h.obj
  intro e'; subst e'
  rw [hb] at hg; cases hg
theorem Pts.obj {w : World} {g cap : Nat} {xs : List Int} (h : Pts w g cap xs) : ∃ cur, w.heap[g]? = some (.cells cur 3 (0, 0)) := ownsRow_obj h rfl

/-- 'm[id] = entry'. -/
theorem MapAt.store {w : World} {bm : Nat} {L : List Ent} (h : MapAt w bm L) (id t0 t1 : Int) (xs : List Int) (g gc : Nat) (hid : I64 id) (hL : L.length ≤ 60) (hp : Pts w g gc xs) (hpos : 0 < xs.length ∧ xs.length ≤ 8) :
    ∃ w', (Instr.mapUpdate 120 (.map (some bm)) (.int .i64 id) (.agg #[.int .i64 id, .slice (some ⟨g, 0, none⟩) xs.length gc, .int .i64 t0, .int .i64 t1])).run Tryd.prog w = .ok () w' ∧ (∀ draw rb rc, MapAt w' bm (insE ⟨id, xs, t0, t1, draw, g, gc, rb, rc⟩ L)) ∧ Kept (fun k => k = bm) w w' := by
  obtain ⟨w', hrun, hown, hgrow⟩ := h.map.update key3 Tryd.underlying120 (by unfold maxLen; omega) (keyOf_int_mk Tryd.underlying3 hid) (show asIs (.agg #[.int .i64 id, .slice (some ⟨g, 0, none⟩) xs.length gc, .int .i64 t0, .int .i64 t1]) = some (.held (.agg #[.int .i64 id, .slice (some ⟨g, 0, none⟩) xs.length gc, .int .i64 t0, .int .i64 t1]), []) from rfl)
  refine ⟨w', hrun, fun draw rb rc => ?_, (Kept.refl _ w).grown hgrow (fun k hk _ => (Option.some.inj hk).symm)⟩
  have hown1 := hown
  rw [show (DataW.map (mdata L)).put (.int .i64 id) (.held (.agg #[.int .i64 id, .slice (some ⟨g, 0, none⟩) xs.length gc, .int .i64 t0, .int .i64 t1])) = _ from put_mdata ⟨id, xs, t0, t1, draw, g, gc, rb, rc⟩ L h.rising] at hown1
  have hown2 := ownsMap_exact hown1
  rw [mdata_length] at hown2
  refine ⟨hown2, ?_, ?_, rising_insE _ h.rising⟩
  · intro e he
    have hpe : Pts w e.mb e.mc e.pt := by
      rcases mem_insE he with rfl | he
      · exact hp
      · exact h.pts e he
    obtain ⟨cur, hcur⟩ := hpe.obj
    refine ownsRow_of_block hpe fun g hg => ?_
    obtain rfl : e.mb = g := by simpa [Value.ownBlock] using hg
    exact hgrow.block _ ((hpe.lt e.mb rfl).2) (fun e' => h.mb_ne hcur (Option.some.inj e'))
  · intro e he
    rcases mem_insE he with rfl | he
    · exact hpos
    · exact h.pos e he

theorem MapAt.drop {w : World} {bm : Nat} {L : List Ent} (h : MapAt w bm L) (id : Int) (hid : I64 id) :
    ∃ w', (Builtin.delete_ #[120, 3] 0 #[.map (some bm), .int .i64 id]).run Tryd.prog w = .ok (.tuple #[]) w' ∧ MapAt w' bm (delE id L) ∧ Kept (fun k => k = bm) w w' := by
  obtain ⟨w', hrun, hown, hturn⟩ := h.map.drop key3 Tryd.underlying120 (keyOf_int_mk Tryd.underlying3 hid) 0
  have hgrow := hturn.grown
  rw [del_mdata] at hown
  have hown2 := ownsMap_exact hown
  rw [mdata_length] at hown2
  refine ⟨w', hrun, ⟨hown2, ?_, fun e he => h.pos e (mem_delE he), rising_delE id h.rising⟩, (Kept.refl _ w).grown hgrow (fun k hk _ => (Option.some.inj hk).symm)⟩
  intro e he
  have hpe := h.pts e (mem_delE he)
  obtain ⟨cur, hcur⟩ := hpe.obj
  refine ownsRow_of_block hpe fun g hg => ?_
  obtain rfl : e.mb = g := by simpa [Value.ownBlock] using hg
  exact hgrow.block _ ((hpe.lt e.mb rfl).2) (fun e' => h.mb_ne hcur (Option.some.inj e'))
end Go.Proofs.YtgilnaheedmmfaaDoor
