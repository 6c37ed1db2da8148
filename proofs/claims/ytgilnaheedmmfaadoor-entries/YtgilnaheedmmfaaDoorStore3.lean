import Derived.Test.YtgilnaheedmmfaaDoorStore2
namespace Go.Proofs.YtgilnaheedmmfaaDoor
open Go.RowKit Go.Maps

/-- There is room for this number. -/
def Room (cap : Int) (id : Int) (L : List Ent) : Prop := (findE id L).isSome = true ∨ ¬ cap ≤ L.length

theorem room55_ok (bs bm : Nat) (id : Int) (L : List Ent) (w : World) (hid : I64 id) (cap : Int) (c0 : w.cell? ⟨bs, 0, none⟩ = some (.int .i64 cap)) (c1 : w.cell? ⟨bs, 1, none⟩ = some (.map (some bm))) (hm : MapAt w bm L) (hr : Room cap id L) :
    Calls Tryd.prog 55 #[.pointer (some ⟨bs, 0, none⟩), .int .i64 id] w fun ev w' => ev = .returned .nilIface ∧ Below w.heap.size w w' := by
  cases he : findE id L with
  | some e => exact room55_yes bs bm id L e w hid c1 hm he
  | none =>
    rcases hr with h | h
    · rw [he] at h; cases h
    · exact room55_no bs bm id L w hid cap c0 c1 hm he h

set_option maxHeartbeats 1000000 in
theorem put28_full (bs bm : Nat) (id t0 t1 : Int) (pv : Value) (a : Option Addr) (pn pc : Nat) (_hpv : pv = .slice a pn pc) (L : List Ent) (w : World) (hid : I64 id) (cap : Int) (c0 : w.cell? ⟨bs, 0, none⟩ = some (.int .i64 cap)) (c1 : w.cell? ⟨bs, 1, none⟩ = some (.map (some bm))) (hm : MapAt w bm L)
    (he : findE id L = none) (hfull : cap ≤ L.length) :
    Calls Tryd.prog 28 #[.pointer (some ⟨bs, 0, none⟩), .agg #[.int .i64 id, .slice a pn pc, .int .i64 t0, .int .i64 t1]] w fun ev w' => (∃ s, ev = .returned (.iface 117 (.agg #[.string s, .int .i64 id, .iface 115 (.int .i64 4)]))) ∧ Below w.heap.size w w' := by
  have hb := block_lt_of_cell c0
  go_enter Tryd.func28, Tryd.ntmps28
  go_wp2_with fail
  refine (room55_full bs bm id L _ hid cap ?c0 ?c1 (hm.alloc _) he hfull).mono ?_
  case c0 => rw [World.cell?_alloc_lt _ _ _ (by exact hb)]; exact c0
  case c1 => rw [World.cell?_alloc_lt _ _ _ (by exact hb)]; exact c1
  rintro ev w1 ⟨⟨s, rfl⟩, hb1⟩
  go_wp2
  go_ret
  exact ⟨⟨s, rfl⟩, ((Below.refl _ _).alloc (Nat.le_refl _) _).trans (hb1.mono (by simp))⟩

theorem MapAt.cell_ne {w : World} {bm : Nat} {L : List Ent} (h : MapAt w bm L) {b o : Nat} {v : Value} (hc : w.cell? ⟨b, o, none⟩ = some v) : b ≠ bm := by
  obtain ⟨es, clock, hb⟩ := h.obj
  intro e; subst e
  simp [World.cell?, hb] at hc

def PutS (hs bs bm b off n pc : Nat) (id t0 t1 : Int) (w : World) : Prop :=
  w.cell? ⟨hs, 0, none⟩ = some (.int .i64 id) ∧ w.cell? ⟨hs, 1, none⟩ = some (.slice (some ⟨b, off, none⟩) n pc) ∧ w.cell? ⟨hs, 2, none⟩ = some (.int .i64 t0) ∧ w.cell? ⟨hs, 3, none⟩ = some (.int .i64 t1) ∧ w.cell? ⟨bs, 1, none⟩ = some (.map (some bm))
theorem PutS.kept {hs bs bm b off n pc : Nat} {id t0 t1 : Int} {w w' : World} {L : List Ent} (h : PutS hs bs bm b off n pc id t0 t1 w) (hm : MapAt w bm L) (hk : Kept (fun k => k = bm) w w') : PutS hs bs bm b off n pc id t0 t1 w' :=
  ⟨hk.cell h.1 (hm.cell_ne h.1), hk.cell h.2.1 (hm.cell_ne h.2.1), hk.cell h.2.2.1 (hm.cell_ne h.2.2.1), hk.cell h.2.2.2.1 (hm.cell_ne h.2.2.2.1), hk.cell h.2.2.2.2 (hm.cell_ne h.2.2.2.2)⟩

set_option maxHeartbeats 2000000 in
theorem put28_ok (bs bm : Nat) (id t0 t1 : Int) (xs : List Int) (b off pc : Nat) (L : List Ent) (w : World) (hid : I64 id) (cap : Int) (c0 : w.cell? ⟨bs, 0, none⟩ = some (.int .i64 cap)) (c1 : w.cell? ⟨bs, 1, none⟩ = some (.map (some bm))) (hm : MapAt w bm L)
    (hr : Room cap id L) (hL : L.length ≤ 60) (h0 : 0 < xs.length) (h8 : xs.length ≤ 8) (hc : ∀ i, i < xs.length → w.cell? ⟨b, off + i, none⟩ = some (.int .i64 (xs.getD i 0))) :
    Calls Tryd.prog 28 #[.pointer (some ⟨bs, 0, none⟩), .agg #[.int .i64 id, .slice (some ⟨b, off, none⟩) xs.length pc, .int .i64 t0, .int .i64 t1]] w fun ev w' => ev = .returned .nilIface ∧
      ∃ g gc, w.heap.size ≤ g ∧ (∀ draw rb rc, MapAt w' bm (insE ⟨id, xs, t0, t1, draw, g, gc, rb, rc⟩ L)) ∧ Kept (fun k => k = bm) w w' := by
  have hb := block_lt_of_cell c0
  have hbb : b < w.heap.size := block_lt_of_cell (hc 0 h0)
  have HC := hide hc
  clear hc
  go_enter Tryd.func28, Tryd.ntmps28
  go_wp2_with fail
  refine (room55_ok bs bm id L _ hid cap ?c0 ?c1 (hm.alloc _) hr).mono ?_
  case c0 => rw [World.cell?_alloc_lt _ _ _ (by exact hb)]; exact c0
  case c1 => rw [World.cell?_alloc_lt _ _ _ (by exact hb)]; exact c1
  rintro ev w1 ⟨rfl, hb1⟩
  have hbw : Below w.heap.size w w1 := ((Below.refl _ _).alloc (Nat.le_refl _) _).trans (hb1.mono (by simp))
  have k0 : w1.cell? ⟨w.heap.size, 0, none⟩ = some (.int .i64 id) := Below.at hb1 (by simp) (by simp)
  have k1 : w1.cell? ⟨w.heap.size, 1, none⟩ = some (.slice (some ⟨b, off, none⟩) xs.length pc) := Below.at hb1 (by simp) (by simp)
  have k2 : w1.cell? ⟨w.heap.size, 2, none⟩ = some (.int .i64 t0) := Below.at hb1 (by simp) (by simp)
  have k3 : w1.cell? ⟨w.heap.size, 3, none⟩ = some (.int .i64 t1) := Below.at hb1 (by simp) (by simp)
  have k4 := Below.at hbw c1 hb
  have hm1 := hm.below hbw
  have hz1 : w.heap.size ≤ w1.heap.size := hbw.size
  have HC1 : Hid (∀ i, i < xs.length → w1.cell? ⟨b, off + i, none⟩ = some (.int .i64 (xs.getD i 0))) := fun i hi => Below.at hbw (HC.out i hi) hbb
  have HM := hide hm1
  have HB := hide hbw
  clear HC hm c0 c1 hb1 hr hm1 hbw
  go_wp2
  have hS1 : PutS w.heap.size bs bm b off xs.length pc id t0 t1 w1 := ⟨k0, k1, k2, k3, k4⟩
  go_region_held3 (fun wx => wx.cell? ⟨w.heap.size, 0, none⟩ = some (.int .i64 id) ∧ wx.cell? ⟨w.heap.size, 1, none⟩ = some (.slice (some ⟨b, off, none⟩) xs.length pc) ∧ wx.cell? ⟨w.heap.size, 2, none⟩ = some (.int .i64 t0) ∧ wx.cell? ⟨w.heap.size, 3, none⟩ = some (.int .i64 t1) ∧ wx.cell? ⟨bs, 1, none⟩ = some (.map (some bm)))
    (first | (exact hS1) | (exact hS2) | (exact hS3))
    (first
      | (go_at_call 56; refine (copied56_any id t0 t1 xs b off pc _ h0 (by omega) ?_).mono ?_; (exact HC1.out); rintro ev2 w2 ⟨g, gc, rfl, hg, hp, hb2d⟩; have hb2 := Below.undrew hb2d; have hS2 := hS1.kept HM.out (Kept.of_below _ hb2); obtain ⟨w3, hrun, hm3, hk3⟩ := (HM.out.below hb2).store id t0 t1 xs g gc hid hL hp ⟨h0, h8⟩; have hS3 := hS2.kept (HM.out.below hb2) hk3))
  go_wp2
  go_ret
  refine ⟨rfl, g, gc, ?_, hm3, ?_⟩
  · have : w1.heap.size ≤ g := hg
    omega
  · refine ((Kept.of_below _ HB.out).below ?_).trans hk3 (fun _ _ h => h)
    exact hb2
end Go.Proofs.YtgilnaheedmmfaaDoor
