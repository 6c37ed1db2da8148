import Derived.Test.YtgilnaheedmmfaaDoorNear2
namespace Go.Proofs.YtgilnaheedmmfaaDoor
open Go.RowKit Go.Maps

set_option maxHeartbeats 2000000 in
theorem get14_yes (bb bs bm : Nat) (dim cap : Int) (id : Int) (L : List Ent) (e : Ent) (w : World) (hid : I64 id) (h : BaseAt w bb bs bm dim cap L) (he : findE id L = some e) :
    Calls Tryd.prog 14 #[.pointer (some ⟨bb, 0, none⟩), .int .i64 id] w fun ev w' => ∃ g gc, ev = .returned (.tuple #[.agg #[.int .i64 e.id, .slice (some ⟨g, 0, none⟩) e.pt.length gc, .int .i64 e.t0, .int .i64 e.t1], .int .i64 0]) ∧ w.heap.size ≤ g ∧ Pts w' g gc e.pt ∧ Below w.heap.size w w' := by
  have b6 := h.b6
  have hbb := block_lt_of_cell b6
  go_enter Tryd.func14, Tryd.ntmps14
  go_wp2_with fail
  refine (get29_yes bs bm id L e _ hid (h.alloc _).s1 (h.alloc _).map he).mono ?_
  rintro ev w1 ⟨g, gc, rfl, hg, hp, hb1⟩
  have hz : w.heap.size < w1.heap.size := by have := hb1.size; simp at this; omega
  have hne : w.heap.size ≠ w1.heap.size := by omega
  have HH := hide ((h.alloc _).hdl.below hb1)
  have l0 : w1.cell? ⟨w.heap.size, 0, none⟩ = some (.int .i64 0) := Below.at hb1 (by simp) (by simp)
  have l1 : w1.cell? ⟨w.heap.size, 1, none⟩ = some (.slice none 0 0) := Below.at hb1 (by simp) (by simp)
  have l2 : w1.cell? ⟨w.heap.size, 2, none⟩ = some (.int .i64 0) := Below.at hb1 (by simp) (by simp)
  have l3 : w1.cell? ⟨w.heap.size, 3, none⟩ = some (.int .i64 0) := Below.at hb1 (by simp) (by simp)
  have fl : ∀ o, w1.frozen? ⟨w.heap.size, o, none⟩ = false := fun o => (hb1.frozen (p := ⟨_, o, none⟩) (by simp)).trans (by simp)
  have HB := hide hb1
  have HG := hide hg
  have HP := hide hp
  clear hb1 h b6 hg hp
  go_wp2
  go_region_held3 (fun wx => wx.cell? ⟨w1.heap.size, 0, none⟩ = some (.int .i64 e.id) ∧ wx.cell? ⟨w1.heap.size, 1, none⟩ = some (.slice (some ⟨g, 0, none⟩) e.pt.length gc) ∧ wx.cell? ⟨w1.heap.size, 2, none⟩ = some (.int .i64 e.t0) ∧ wx.cell? ⟨w1.heap.size, 3, none⟩ = some (.int .i64 e.t1))
    (first | (refine ⟨?_, ?_, ?_, ?_⟩ <;> (simp; done)) | (exact ⟨n0, n1, n2, n3⟩) | (refine ⟨?_, ?_, ?_, ?_⟩ <;> (repeat rw [World.cell?_setCell_far _ _ _ _ (by exact hne)]) <;> assumption))
    (first
      | (go_at_call 25; refine (errno_nil _).mono ?_; rintro ev3 w3 ⟨rfl, hb3⟩; have n0 : w3.cell? ⟨w1.heap.size, 0, none⟩ = some (.int .i64 e.id) := Below.at hb3 (by simp) (by simp); have n1 : w3.cell? ⟨w1.heap.size, 1, none⟩ = some (.slice (some ⟨g, 0, none⟩) e.pt.length gc) := Below.at hb3 (by simp) (by simp); have n2 : w3.cell? ⟨w1.heap.size, 2, none⟩ = some (.int .i64 e.t0) := Below.at hb3 (by simp) (by simp); have n3 : w3.cell? ⟨w1.heap.size, 3, none⟩ = some (.int .i64 e.t1) := Below.at hb3 (by simp) (by simp); have p0 : w3.cell? ⟨w.heap.size, 0, none⟩ = some (.int .i64 0) := Below.at hb3 (by simp [World.cell?_alloc_past, hz, l0]) (by simp; omega); have p1 : w3.cell? ⟨w.heap.size, 1, none⟩ = some (.slice none 0 0) := Below.at hb3 (by simp [World.cell?_alloc_past, hz, l1]) (by simp; omega); have p2 : w3.cell? ⟨w.heap.size, 2, none⟩ = some (.int .i64 0) := Below.at hb3 (by simp [World.cell?_alloc_past, hz, l2]) (by simp; omega); have p3 : w3.cell? ⟨w.heap.size, 3, none⟩ = some (.int .i64 0) := Below.at hb3 (by simp [World.cell?_alloc_past, hz, l3]) (by simp; omega); have fp : ∀ o, w3.frozen? ⟨w.heap.size, o, none⟩ = false := fun o => (hb3.frozen (p := ⟨_, o, none⟩) (by simp; omega)).trans ((World.frozen?_alloc_old _ _ _ (by simp; omega)).trans (fl o))))
  go_wp2
  refine bodyPost_ret (v := .tuple #[.agg #[.int .i64 e.id, .slice (some ⟨g, 0, none⟩) e.pt.length gc, .int .i64 e.t0, .int .i64 e.t1], .int .i64 0]) (by simp [results, Tryd.results14, go_sem, p0, p1, p2, p3]) rfl ⟨g, gc, rfl, ?_, ?_, ?_⟩
  · have := HG.out; simp at this; omega
  · have hg := HG.out
    simp at hg
    have hlt := (HP.out.lt g rfl).2
    refine ownsRow_of_block HP.out fun g' e' => ?_
    obtain rfl : g = g' := by simpa [Value.ownBlock] using e'
    repeat rw [Below.heap_setCell _ _ _ _ (by simp; omega)]
    rw [hb3.block g (by simp; omega)]
    exact Below.heap_alloc _ _ _ hlt
  · have hb2 : Below w.heap.size w w1 := ((Below.refl _ _).alloc (Nat.le_refl _) _).trans (HB.out.mono (by simp))
    have hb4 : Below w.heap.size w w3 := ((hb2.alloc (by omega) _).drew).trans (hb3.mono (by simp; omega))
    repeat (first | exact hb4 | refine Below.setCell ?_ (by first | omega | (simp; done) | (simp; omega)) _ | refine Below.alloc ?_ (by first | omega | (simp; done) | (simp; omega)) _)

set_option maxHeartbeats 2000000 in
theorem new12_bad (d c l m b t : Int) (w : World) (hg : Handle w) (hb : cfgB d c l m b t = false) :
    Calls Tryd.prog 12 #[.agg #[.int .i64 d, .int .i64 c, .int .i64 l, .int .i64 m, .int .i64 b, .int .i64 t]] w fun ev w' => ev = .returned (.tuple #[.pointer none, .int .i64 1]) ∧ Below w.heap.size w w' := by
  have HC : Hid (cfgCode d c l m b t = 1) := by simp [Hid, cfgCode, hb]
  clear hb
  go_enter Tryd.func12, Tryd.ntmps12
  go_wp2_with fail
  refine (config24_any d c l m b t _).mono ?_
  rintro ev w1 ⟨⟨x, rfl, hx⟩, hb1⟩
  rw [HC.out] at hx
  have hbw : Below w.heap.size w w1 := ((Below.refl _ _).alloc (Nat.le_refl _) _).trans (hb1.mono (by simp))
  rcases hx with ⟨h0, _⟩ | ⟨_, ⟨s, n, rfl⟩ | ⟨s, n, s2, n2, rfl⟩⟩
  · cases h0
  · go_wp2_with fail
    refine (errno_one s n 1 _ (hg.below hbw)).mono ?_
    rintro ev w2 ⟨rfl, hb2⟩
    go_wp2
    go_ret2
    exact ⟨rfl, hbw.trans (hb2.mono hbw.size)⟩
  · go_wp2_with fail
    refine (errno_two s s2 n n2 1 _ (hg.below hbw)).mono ?_
    rintro ev w2 ⟨rfl, hb2⟩
    go_wp2
    go_ret2
    exact ⟨rfl, hbw.trans (hb2.mono hbw.size)⟩

/-- A new base. -/
def newWorld (w1 : World) (d c l m b t : Int) : World :=
  ((w1.alloc (.map #[] 0)).alloc (.cells #[.int .i64 c, .map (some w1.heap.size)] 122)).alloc (.cells #[.int .i64 d, .int .i64 c, .int .i64 l, .int .i64 m, .int .i64 b, .int .i64 t, .pointer (some ⟨w1.heap.size + 1, 0, none⟩)] 79)

set_option maxHeartbeats 2000000 in
theorem new12_ok (d c l m b t : Int) (w : World) (hb : cfgB d c l m b t = true) :
    Calls Tryd.prog 12 #[.agg #[.int .i64 d, .int .i64 c, .int .i64 l, .int .i64 m, .int .i64 b, .int .i64 t]] w fun ev w' => ∃ w1, ev = .returned (.tuple #[.pointer (some ⟨w1.heap.size + 1 + 1, 0, none⟩), .int .i64 0]) ∧ Below w.heap.size w w1 ∧ w' = (newWorld w1 d c l m b t).drew := by
  have HC : Hid (cfgCode d c l m b t = 0) := by simp [Hid, cfgCode, hb]
  clear hb
  go_enter Tryd.func12, Tryd.ntmps12
  go_wp2_with fail
  refine (config24_any d c l m b t _).mono ?_
  rintro ev w1 ⟨⟨x, rfl, hx⟩, hb1⟩
  rw [HC.out] at hx
  have hbw : Below w.heap.size w w1 := ((Below.refl _ _).alloc (Nat.le_refl _) _).trans (hb1.mono (by simp))
  have hz : w.heap.size < w1.heap.size := by have := hb1.size; simp at this; omega
  rcases hx with ⟨_, rfl⟩ | ⟨h0, _⟩
  · have k0 : w1.cell? ⟨w.heap.size, 0, none⟩ = some (.int .i64 d) := Below.at hb1 (by simp) (by simp)
    have k1 : w1.cell? ⟨w.heap.size, 1, none⟩ = some (.int .i64 c) := Below.at hb1 (by simp) (by simp)
    have k2 : w1.cell? ⟨w.heap.size, 2, none⟩ = some (.int .i64 l) := Below.at hb1 (by simp) (by simp)
    have k3 : w1.cell? ⟨w.heap.size, 3, none⟩ = some (.int .i64 m) := Below.at hb1 (by simp) (by simp)
    have k4 : w1.cell? ⟨w.heap.size, 4, none⟩ = some (.int .i64 b) := Below.at hb1 (by simp) (by simp)
    have k5 : w1.cell? ⟨w.heap.size, 5, none⟩ = some (.int .i64 t) := Below.at hb1 (by simp) (by simp)
    clear hb1
    go_wp2
    go_region_held3 (fun wx => wx.cell? ⟨w.heap.size, 0, none⟩ = some (.int .i64 d) ∧ wx.cell? ⟨w.heap.size, 1, none⟩ = some (.int .i64 c) ∧ wx.cell? ⟨w.heap.size, 2, none⟩ = some (.int .i64 l) ∧ wx.cell? ⟨w.heap.size, 3, none⟩ = some (.int .i64 m) ∧ wx.cell? ⟨w.heap.size, 4, none⟩ = some (.int .i64 b) ∧ wx.cell? ⟨w.heap.size, 5, none⟩ = some (.int .i64 t))
      (first | (exact ⟨k0, k1, k2, k3, k4, k5⟩) | (refine ⟨?_, ?_, ?_, ?_, ?_, ?_⟩ <;> (repeat rw [show ∀ (W : World), W.drew.cell? = W.cell? from fun _ => rfl]) <;> (repeat rw [World.cell?_alloc_lt _ _ _ (by first | exact hz | (simp; omega))]) <;> assumption))
      (first
        | (go_at_call 26; refine (new26_any c _).mono ?_; rintro ev2 w2 ⟨rfl, rfl⟩))
    go_wp2
    go_ret2
    exact ⟨w1, rfl, hbw, rfl⟩
  · exact absurd rfl h0
end Go.Proofs.YtgilnaheedmmfaaDoor
