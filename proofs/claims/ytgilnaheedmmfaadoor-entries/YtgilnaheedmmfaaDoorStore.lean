import Derived.Test.YtgilnaheedmmfaaDoorState
import Derived.Test.YtgilnaheedmmfaaDoorClone
namespace Go.Proofs.YtgilnaheedmmfaaDoor
open Go.RowKit Go.Maps

theorem key3 : Keyed Tryd.prog 3 := int_keyed Tryd.underlying3
theorem zero56 (w : World) : (zeroValue 56).run Tryd.prog w = .ok (.agg #[.int .i64 0, .slice none 0 0, .int .i64 0, .int .i64 0]) w := by kernel_rfl

/-- A number that is an int. -/
def I64 (n : Int) : Prop := (Lit.int .i64 n).wf = true

/-- The map in block bm holds the entries L, each with a point of its own. -/
structure MapAt (w : World) (bm : Nat) (L : List Ent) : Prop where
  map : w.ownsMap Tryd.prog 3 asIs bm L.length (.map (mdata L))
  pts : ∀ e ∈ L, Pts w e.mb e.mc e.pt
  pos : ∀ e ∈ L, 0 < e.pt.length ∧ e.pt.length ≤ 8
  rising : Rising L

theorem MapAt.block {w w' : World} {bm : Nat} {L : List Ent} (h : MapAt w bm L) (hb : w'.heap[bm]? = w.heap[bm]?) (hp : ∀ e ∈ L, w'.heap[e.mb]? = w.heap[e.mb]?) : MapAt w' bm L := by
  obtain ⟨es, clock, h1, h2⟩ := h.map
  exact ⟨⟨es, clock, hb.trans h1, h2⟩, fun e he => ownsRow_of_block (h.pts e he) fun g hg => by
    obtain rfl : e.mb = g := by simpa [Value.ownBlock] using hg
    exact hp e he, h.pos, h.rising⟩
theorem MapAt.lt {w : World} {bm : Nat} {L : List Ent} (h : MapAt w bm L) : bm < w.heap.size := h.map.lt
theorem MapAt.plt {w : World} {bm : Nat} {L : List Ent} (h : MapAt w bm L) : ∀ e ∈ L, e.mb < w.heap.size := fun e he => ((h.pts e he).lt e.mb rfl).2
theorem MapAt.below {w w' : World} {bm : Nat} {L : List Ent} (h : MapAt w bm L) (hb : Below w.heap.size w w') : MapAt w' bm L :=
  h.block (hb.block _ h.lt) fun e he => hb.block _ (h.plt e he)
theorem MapAt.alloc {w : World} {bm : Nat} {L : List Ent} (h : MapAt w bm L) (o : Obj) : MapAt (w.alloc o) bm L :=
  h.below ((Below.refl _ _).alloc (Nat.le_refl _) o)

theorem MapAt.look {w : World} {bm : Nat} {L : List Ent} (h : MapAt w bm L) (id : Int) (hid : I64 id) :
    (Instr.lookup 120 (.map (some bm)) (.int .i64 id) true).run Tryd.prog w = .ok (.tuple #[(match findE id L with | some e => mval e | none => .agg #[.int .i64 0, .slice none 0 0, .int .i64 0, .int .i64 0]), .bool (findE id L).isSome]) w := by
  obtain ⟨v, ps, hrun, hv⟩ := h.map.look_ok key3 Tryd.underlying120 (zero56 w) (zd := .held (.agg #[.int .i64 0, .slice none 0 0, .int .i64 0, .int .i64 0])) (zp := []) rfl (keyOf_int_mk Tryd.underlying3 hid)
  rw [has_mdata] at hrun
  rw [atKey_mdata] at hv
  simp only [asIs, Option.some.injEq, Prod.mk.injEq] at hv
  have hv1 := hv.1
  revert hv1 hrun
  cases findE id L with
  | none => intro hrun h; rw [hrun, DataW.held.inj h]
  | some e => intro hrun h; rw [hrun, DataW.held.inj h]

theorem MapAt.look_yes {w : World} {bm : Nat} {L : List Ent} (h : MapAt w bm L) (id : Int) (hid : I64 id) {e : Ent} (he : findE id L = some e) :
    (Instr.lookup 120 (.map (some bm)) (.int .i64 id) true).run Tryd.prog w = .ok (.tuple #[.agg #[.int .i64 e.id, .slice (some ⟨e.mb, 0, none⟩) e.pt.length e.mc, .int .i64 e.t0, .int .i64 e.t1], .bool true]) w := by
  rw [h.look id hid, he]; rfl
theorem MapAt.look_no {w : World} {bm : Nat} {L : List Ent} (h : MapAt w bm L) (id : Int) (hid : I64 id) (he : findE id L = none) :
    (Instr.lookup 120 (.map (some bm)) (.int .i64 id) true).run Tryd.prog w = .ok (.tuple #[.agg #[.int .i64 0, .slice none 0 0, .int .i64 0, .int .i64 0], .bool false]) w := by
  rw [h.look id hid, he]; rfl
theorem MapAt.count {w : World} {bm : Nat} {L : List Ent} (h : MapAt w bm L) : (Builtin.len_ #[120] 3 #[.map (some bm)]).run Tryd.prog w = .ok (.int .i64 L.length) w := by
  rw [h.map.len Tryd.underlying120 3, Maps.size_eq, mdata_length]

set_option maxHeartbeats 1000000 in
theorem find57_yes (bs bm : Nat) (id : Int) (L : List Ent) (e : Ent) (w : World) (hid : I64 id) (c1 : w.cell? ⟨bs, 1, none⟩ = some (.map (some bm))) (hm : MapAt w bm L) (he : findE id L = some e) :
    Calls Tryd.prog 57 #[.pointer (some ⟨bs, 0, none⟩), .int .i64 id] w fun ev w' => ev = .returned (.tuple #[.agg #[.int .i64 e.id, .slice (some ⟨e.mb, 0, none⟩) e.pt.length e.mc, .int .i64 e.t0, .int .i64 e.t1], .nilIface]) ∧ Below w.heap.size w w' := by
  have hl := fun o => (hm.alloc o).look_yes id hid he
  have hbs := block_lt_of_cell c1
  clear he hm
  go_enter Tryd.func57, Tryd.ntmps57
  go_wp2
  refine bodyPost_ret (v := .tuple #[.agg #[.int .i64 e.id, .slice (some ⟨e.mb, 0, none⟩) e.pt.length e.mc, .int .i64 e.t0, .int .i64 e.t1], .nilIface]) (by simp [results, Tryd.results57, go_sem]) rfl ⟨rfl, ?_⟩
  repeat (first | exact Below.refl _ _ | refine Below.setCell ?_ (by simp) _ | refine Below.alloc ?_ (by simp) _)

set_option maxHeartbeats 1000000 in
theorem find57_no (bs bm : Nat) (id : Int) (L : List Ent) (w : World) (hid : I64 id) (c1 : w.cell? ⟨bs, 1, none⟩ = some (.map (some bm))) (hm : MapAt w bm L) (he : findE id L = none) :
    Calls Tryd.prog 57 #[.pointer (some ⟨bs, 0, none⟩), .int .i64 id] w fun ev w' => (∃ s, ev = .returned (.tuple #[.agg #[.int .i64 0, .slice none 0 0, .int .i64 0, .int .i64 0], .iface 117 (.agg #[.string s, .int .i64 id, .iface 115 (.int .i64 5)])])) ∧ Below w.heap.size w w' := by
  have hl := fun o => (hm.alloc o).look_no id hid he
  have hbs := block_lt_of_cell c1
  clear he hm
  go_enter Tryd.func57, Tryd.ntmps57
  go_wp2
  refine bodyPost_ret (v := .tuple #[.agg #[.int .i64 0, .slice none 0 0, .int .i64 0, .int .i64 0], .iface 117 (.agg #[.string _, .int .i64 id, .iface 115 (.int .i64 5)])]) (by simp [results, Tryd.results57, go_sem]; rfl) rfl ⟨⟨_, rfl⟩, ?_⟩
  repeat (first | exact Below.refl _ _ | refine Below.setCell ?_ (by simp) _ | refine Below.alloc ?_ (by simp) _)

set_option maxHeartbeats 1000000 in
theorem count30_any (bs bm : Nat) (L : List Ent) (w : World) (c1 : w.cell? ⟨bs, 1, none⟩ = some (.map (some bm))) (hm : MapAt w bm L) :
    Calls Tryd.prog 30 #[.pointer (some ⟨bs, 0, none⟩)] w fun ev w' => ev = .returned (.int .i64 L.length) ∧ w = w' := by
  have hl := hm.count
  clear hm
  go_enter Tryd.func30, Tryd.ntmps30
  go_wp2
  go_ret
  exact ⟨rfl, rfl⟩

/-- What a region over the store reads, and that nothing old has turned. -/
def StS (w0 : World) (bs bm : Nat) (cap : Int) (L : List Ent) (wx : World) : Prop :=
  wx.cell? ⟨bs, 0, none⟩ = some (.int .i64 cap) ∧ wx.cell? ⟨bs, 1, none⟩ = some (.map (some bm)) ∧ MapAt wx bm L ∧ Below w0.heap.size w0 wx
theorem StS.both {w0 : World} {bs bm : Nat} {cap : Int} {L : List Ent} {wx : World} (h : StS w0 bs bm cap L wx) : StS w0 bs bm cap L wx ∧ wx.cell? ⟨bs, 0, none⟩ = some (.int .i64 cap) := ⟨h, h.1⟩
theorem StS.two {w0 : World} {bs bm : Nat} {cap : Int} {L : List Ent} {wx : World} (h : StS w0 bs bm cap L wx) : wx.cell? ⟨bs, 1, none⟩ = some (.map (some bm)) := h.2.1
theorem StS.three {w0 : World} {bs bm : Nat} {cap : Int} {L : List Ent} {wx : World} (h : StS w0 bs bm cap L wx) : MapAt wx bm L := h.2.2.1
theorem StS.four {w0 : World} {bs bm : Nat} {cap : Int} {L : List Ent} {wx : World} (h : StS w0 bs bm cap L wx) : Below w0.heap.size w0 wx := h.2.2.2
theorem StS.of_below {w0 : World} {bs bm : Nat} {cap : Int} {L : List Ent} {wx wy : World} (h : StS w0 bs bm cap L wx) (hb : Below wx.heap.size wx wy) : StS w0 bs bm cap L wy :=
  ⟨Below.at hb h.1 (block_lt_of_cell (a := ⟨bs, 0, none⟩) h.1), Below.at hb h.2.1 (block_lt_of_cell (a := ⟨bs, 1, none⟩) h.2.1), h.2.2.1.below hb, h.2.2.2.trans (hb.mono h.2.2.2.size)⟩
theorem StS.alloc {w0 : World} {bs bm : Nat} {cap : Int} {L : List Ent} {wx : World} (h : StS w0 bs bm cap L wx) (o : Obj) : StS w0 bs bm cap L (wx.alloc o) :=
  h.of_below ((Below.refl _ _).alloc (Nat.le_refl _) o)
theorem StS.drew {w0 : World} {bs bm : Nat} {cap : Int} {L : List Ent} {wx : World} (h : StS w0 bs bm cap L wx) : StS w0 bs bm cap L wx.drew :=
  h.of_below (Below.refl _ _).drew

set_option maxHeartbeats 1000000 in
/-- room, where an entry of this number is there. -/
theorem room55_yes (bs bm : Nat) (id : Int) (L : List Ent) (e : Ent) (w : World) (hid : I64 id) (c1 : w.cell? ⟨bs, 1, none⟩ = some (.map (some bm))) (hm : MapAt w bm L) (he : findE id L = some e) :
    Calls Tryd.prog 55 #[.pointer (some ⟨bs, 0, none⟩), .int .i64 id] w fun ev w' => ev = .returned .nilIface ∧ Below w.heap.size w w' := by
  go_enter Tryd.func55, Tryd.ntmps55
  go_wp2_with (go_at_call 57; refine (find57_yes bs bm id L e _ hid c1 hm he).mono ?_; rintro ev w' ⟨rfl, hb⟩)
  have hz : w.heap.size ≤ w'.heap.size := hb.size
  clear hm
  go_quiet ((go_at_call 70; exact Calls.quiet_of_same ((is_nil _).mono (fun _ _ h => ⟨h.1, h.2.symm⟩))))
  go_wp2
  go_ret
  refine ⟨rfl, ?_⟩
  refine below_drewN ?_ _
  repeat (first | exact hb | refine Below.setCell ?_ (by first | omega | (simp; done) | (simp; omega)) _ | refine Below.alloc ?_ (by first | omega | (simp; done) | (simp; omega)) _)

set_option maxHeartbeats 1000000 in
/-- room, where no entry of this number is there, and there is room. -/
theorem room55_no (bs bm : Nat) (id : Int) (L : List Ent) (w : World) (hid : I64 id) (cap : Int) (c0 : w.cell? ⟨bs, 0, none⟩ = some (.int .i64 cap)) (c1 : w.cell? ⟨bs, 1, none⟩ = some (.map (some bm))) (hm : MapAt w bm L) (he : findE id L = none)
    (hfull : ¬ cap ≤ L.length) :
    Calls Tryd.prog 55 #[.pointer (some ⟨bs, 0, none⟩), .int .i64 id] w fun ev w' => ev = .returned .nilIface ∧ Below w.heap.size w w' := by
  have hd : decide (cap ≤ L.length) = false := by simpa using hfull
  go_enter Tryd.func55, Tryd.ntmps55
  go_wp2_with (go_at_call 57; refine (find57_no bs bm id L _ hid c1 hm he).mono ?_; rintro ev w' ⟨⟨s, rfl⟩, hb⟩)
  have hS : StS w bs bm cap L w' := ⟨Below.at hb c0 (block_lt_of_cell c0), Below.at hb c1 (block_lt_of_cell c1), hm.below hb, hb⟩
  clear hm hb c0 c1 he hfull
  go_region_held3 (fun wx => StS w bs bm cap L wx ∧ wx.cell? ⟨bs, 0, none⟩ = some (.int .i64 cap)) ((refine StS.both ?_; repeat (first | exact hS | refine StS.drew ?_ | refine StS.alloc ?_ _)))
    (first
      | (go_at_call 70; refine (is_none s id _).mono ?_; rintro ev2 w2 ⟨rfl, rfl⟩)
      | (go_at_call 30; refine (count30_any bs bm L _ ?_ ?_).mono ?_; (refine StS.two (w0 := w) (cap := cap) (L := L) ?_; repeat (first | exact hS | refine StS.drew ?_ | refine StS.alloc ?_ _)); (refine StS.three (w0 := w) (bs := bs) (cap := cap) ?_; repeat (first | exact hS | refine StS.drew ?_ | refine StS.alloc ?_ _)); rintro ev2 w2 ⟨rfl, rfl⟩))
  go_wp2
  go_ret
  refine ⟨rfl, StS.four (bs := bs) (bm := bm) (cap := cap) (L := L) ?_⟩
  repeat (first | exact hS | refine StS.drew ?_ | refine StS.alloc ?_ _)
set_option maxHeartbeats 1000000 in
/-- room, where no entry of this number is there, and no room. -/
theorem room55_full (bs bm : Nat) (id : Int) (L : List Ent) (w : World) (hid : I64 id) (cap : Int) (c0 : w.cell? ⟨bs, 0, none⟩ = some (.int .i64 cap)) (c1 : w.cell? ⟨bs, 1, none⟩ = some (.map (some bm))) (hm : MapAt w bm L) (he : findE id L = none)
    (hfull : cap ≤ L.length) :
    Calls Tryd.prog 55 #[.pointer (some ⟨bs, 0, none⟩), .int .i64 id] w fun ev w' => (∃ s, ev = .returned (.iface 117 (.agg #[.string s, .int .i64 id, .iface 115 (.int .i64 4)]))) ∧ Below w.heap.size w w' := by
  have hd : decide (cap ≤ L.length) = true := by simpa using hfull
  go_enter Tryd.func55, Tryd.ntmps55
  go_wp2_with (go_at_call 57; refine (find57_no bs bm id L _ hid c1 hm he).mono ?_; rintro ev w' ⟨⟨s, rfl⟩, hb⟩)
  have hS : StS w bs bm cap L w' := ⟨Below.at hb c0 (block_lt_of_cell c0), Below.at hb c1 (block_lt_of_cell c1), hm.below hb, hb⟩
  clear hm hb c0 c1 he hfull
  go_region_held3 (fun wx => StS w bs bm cap L wx ∧ wx.cell? ⟨bs, 0, none⟩ = some (.int .i64 cap)) ((refine StS.both ?_; repeat (first | exact hS | refine StS.drew ?_ | refine StS.alloc ?_ _)))
    (first
      | (go_at_call 70; refine (is_none s id _).mono ?_; rintro ev2 w2 ⟨rfl, rfl⟩)
      | (go_at_call 30; refine (count30_any bs bm L _ ?_ ?_).mono ?_; (refine StS.two (w0 := w) (cap := cap) (L := L) ?_; repeat (first | exact hS | refine StS.drew ?_ | refine StS.alloc ?_ _)); (refine StS.three (w0 := w) (bs := bs) (cap := cap) ?_; repeat (first | exact hS | refine StS.drew ?_ | refine StS.alloc ?_ _)); rintro ev2 w2 ⟨rfl, rfl⟩))
  go_wp2
  go_ret
  refine ⟨⟨_, rfl⟩, StS.four (bs := bs) (bm := bm) (cap := cap) (L := L) ?_⟩
  repeat (first | exact hS | refine StS.drew ?_ | refine StS.alloc ?_ _)
end Go.Proofs.YtgilnaheedmmfaaDoor
