import Derived.Test.YtgilnaheedmmfaaDoorNear
namespace Go.Proofs.YtgilnaheedmmfaaDoor
open Go.RowKit Go.Maps

set_option maxHeartbeats 2000000 in
theorem get14_no (bb bs bm : Nat) (dim cap : Int) (id : Int) (L : List Ent) (w : World) (hid : I64 id) (h : BaseAt w bb bs bm dim cap L) (he : findE id L = none) :
    Calls Tryd.prog 14 #[.pointer (some ⟨bb, 0, none⟩), .int .i64 id] w fun ev w' => ev = .returned (.tuple #[.agg #[.int .i64 0, .slice none 0 0, .int .i64 0, .int .i64 0], .int .i64 5]) ∧ Below w.heap.size w w' := by
  have b6 := h.b6
  have hbb := block_lt_of_cell b6
  go_enter Tryd.func14, Tryd.ntmps14
  go_wp2_with fail
  refine (get29_no bs bm id L _ hid (h.alloc _).s1 (h.alloc _).map he).mono ?_
  rintro ev w1 ⟨⟨s, rfl⟩, hb1⟩
  have hz : w.heap.size < w1.heap.size := by have := hb1.size; simp at this; omega
  have hne : w.heap.size ≠ w1.heap.size := by omega
  have HH := hide ((h.alloc _).hdl.below hb1)
  have l0 : w1.cell? ⟨w.heap.size, 0, none⟩ = some (.int .i64 0) := Below.at hb1 (by simp) (by simp)
  have l1 : w1.cell? ⟨w.heap.size, 1, none⟩ = some (.slice none 0 0) := Below.at hb1 (by simp) (by simp)
  have l2 : w1.cell? ⟨w.heap.size, 2, none⟩ = some (.int .i64 0) := Below.at hb1 (by simp) (by simp)
  have l3 : w1.cell? ⟨w.heap.size, 3, none⟩ = some (.int .i64 0) := Below.at hb1 (by simp) (by simp)
  have fl : ∀ o, w1.frozen? ⟨w.heap.size, o, none⟩ = false := fun o => (hb1.frozen (p := ⟨_, o, none⟩) (by simp)).trans (by simp)
  have HB := hide hb1
  clear hb1 h b6
  go_wp2
  go_region_held3 (fun wx => wx.cell? ⟨w1.heap.size, 0, none⟩ = some (.int .i64 0) ∧ wx.cell? ⟨w1.heap.size, 1, none⟩ = some (.slice none 0 0) ∧ wx.cell? ⟨w1.heap.size, 2, none⟩ = some (.int .i64 0) ∧ wx.cell? ⟨w1.heap.size, 3, none⟩ = some (.int .i64 0))
    (first | (refine ⟨?_, ?_, ?_, ?_⟩ <;> (simp; done)) | (exact ⟨n0, n1, n2, n3⟩) | (refine ⟨?_, ?_, ?_, ?_⟩ <;> (repeat rw [World.cell?_setCell_far _ _ _ _ (by exact hne)]) <;> assumption))
    (first
      | (go_at_call 25; refine (errno_one s id 5 _ ?_).mono ?_; (exact HH.out.alloc _); rintro ev3 w3 ⟨rfl, hb3⟩; have n0 : w3.cell? ⟨w1.heap.size, 0, none⟩ = some (.int .i64 0) := Below.at hb3 (by simp) (by simp); have n1 : w3.cell? ⟨w1.heap.size, 1, none⟩ = some (.slice none 0 0) := Below.at hb3 (by simp) (by simp); have n2 : w3.cell? ⟨w1.heap.size, 2, none⟩ = some (.int .i64 0) := Below.at hb3 (by simp) (by simp); have n3 : w3.cell? ⟨w1.heap.size, 3, none⟩ = some (.int .i64 0) := Below.at hb3 (by simp) (by simp); have p0 : w3.cell? ⟨w.heap.size, 0, none⟩ = some (.int .i64 0) := Below.at hb3 (by simp [World.cell?_alloc_past, hz, l0]) (by simp; omega); have p1 : w3.cell? ⟨w.heap.size, 1, none⟩ = some (.slice none 0 0) := Below.at hb3 (by simp [World.cell?_alloc_past, hz, l1]) (by simp; omega); have p2 : w3.cell? ⟨w.heap.size, 2, none⟩ = some (.int .i64 0) := Below.at hb3 (by simp [World.cell?_alloc_past, hz, l2]) (by simp; omega); have p3 : w3.cell? ⟨w.heap.size, 3, none⟩ = some (.int .i64 0) := Below.at hb3 (by simp [World.cell?_alloc_past, hz, l3]) (by simp; omega); have fp : ∀ o, w3.frozen? ⟨w.heap.size, o, none⟩ = false := fun o => (hb3.frozen (p := ⟨_, o, none⟩) (by simp; omega)).trans ((World.frozen?_alloc_old _ _ _ (by simp; omega)).trans (fl o))))
  go_wp2
  refine bodyPost_ret (v := .tuple #[.agg #[.int .i64 0, .slice none 0 0, .int .i64 0, .int .i64 0], .int .i64 5]) (by simp [results, Tryd.results14, go_sem, p0, p1, p2, p3]) rfl ⟨rfl, ?_⟩
  have hb2 : Below w.heap.size w w1 := ((Below.refl _ _).alloc (Nat.le_refl _) _).trans (HB.out.mono (by simp))
  have hb4 : Below w.heap.size w w3 := ((hb2.alloc (by omega) _).drew).trans (hb3.mono (by simp; omega))
  repeat (first | exact hb4 | refine Below.setCell ?_ (by first | omega | (simp; done) | (simp; omega)) _ | refine Below.alloc ?_ (by first | omega | (simp; done) | (simp; omega)) _)
end Go.Proofs.YtgilnaheedmmfaaDoor
