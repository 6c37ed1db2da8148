import Derived.Test.YtgilnaheedmmfaaDoorStep
namespace Go.Proofs.YtgilnaheedmmfaaDoor
open Go.RowKit Go.Maps

set_option maxHeartbeats 2000000 in
set_option maxRecDepth 20000 in
theorem step10_delY (W0 w : World) (bp bb bs bm br : Nat) (dim cap : Int) (la : Option Addr) (lc : Nat) (nsv nmv : Value) (nn : Nat) (L : List Ent) (id kk be t0 t1 draw : Int) (pn : Nat) (pa : Option Addr) (pc : Nat) (fa : Option Addr) (fn fc : Nat) (e : Ent)
    (h : PairAt W0 w bp bb bs bm br dim cap la lc nsv nmv nn L L) (hid : I64 id) (he : findE id L = some e) :
    Calls Tryd.prog 10 #[.pointer (some ⟨bp, 0, none⟩), .agg #[.int .i64 3, .int .i64 id, .int .i64 kk, .int .i64 be, .slice pa pn pc, .int .i64 t0, .int .i64 t1, .int .u64 draw, .slice fa fn fc]] w fun ev w' => ev = .returned (.bool true) ∧ StepOk W0 bp bb bs bm br dim cap nn w' := by
  have H := hide h
  have HE := hide he
  clear h he
  go_enter Tryd.func10, Tryd.ntmps10
  go_upto_region 7 with fail
  obtain ⟨w1, hw1⟩ : ∃ w1, w1 = w.alloc (.cells #[.int .i64 3, .int .i64 id, .int .i64 kk, .int .i64 be, .slice pa pn pc, .int .i64 t0, .int .i64 t1, .int .u64 draw, .slice fa fn fc] 49) := ⟨_, rfl⟩
  have h1 : PairAt W0 w1 bp bb bs bm br dim cap la lc nsv nmv nn L L := hw1 ▸ H.out.alloc _
  have hX1 : w1.heap[w.heap.size]? = some (.cells #[.int .i64 3, .int .i64 id, .int .i64 kk, .int .i64 be, .slice pa pn pc, .int .i64 t0, .int .i64 t1, .int .u64 draw, .slice fa fn fc] 49 (0, 0)) := by rw [hw1]; exact heap_alloc_new w _
  rw [← hw1]
  clear hw1
  have H1 := hide h1
  have HX1 := hide hX1
  have hS1 := opS hX1 h1.p0
  clear h1 hX1
  go_region_held3 (fun wx => wx.cell? ⟨bp, 0, none⟩ = some (.pointer (some ⟨bb, 0, none⟩)) ∧ wx.cell? ⟨w.heap.size, 1, none⟩ = some (.int .i64 id) ∧ wx.cell? ⟨w.heap.size, 4, none⟩ = some (.slice pa pn pc) ∧ wx.cell? ⟨w.heap.size, 5, none⟩ = some (.int .i64 t0) ∧ wx.cell? ⟨w.heap.size, 6, none⟩ = some (.int .i64 t1) ∧ wx.cell? ⟨w.heap.size, 7, none⟩ = some (.int .u64 draw))
    (first | (with_reducible exact hS1) | (with_reducible exact hS2) | (exact hS1))
    (first
      | (go_at_call 16; refine (delete16_yes bb bs bm dim cap id L e _ hid ?_ HE.out).mono ?_; (exact H1.out.base.below (Below.refl _ _).drew); rintro ev2 w2 ⟨rfl, hB2, hk2⟩; obtain ⟨h2, hX2⟩ := del_base H1.out HX1.out hk2 hB2; have hS2 := opS hX2 h2.p0))
  have H2 := hide h2
  have HX2 := hide hX2
  have hT1 := opS hX2 h2.p1
  clear h2 hX2 hB2 hk2 hS1 hS2
  go_upto_region 8 with fail
  go_region_held3 (fun wx => wx.cell? ⟨bp, 1, none⟩ = some (.pointer (some ⟨br, 0, none⟩)) ∧ wx.cell? ⟨w.heap.size, 1, none⟩ = some (.int .i64 id) ∧ wx.cell? ⟨w.heap.size, 4, none⟩ = some (.slice pa pn pc) ∧ wx.cell? ⟨w.heap.size, 5, none⟩ = some (.int .i64 t0) ∧ wx.cell? ⟨w.heap.size, 6, none⟩ = some (.int .i64 t1) ∧ wx.cell? ⟨w.heap.size, 7, none⟩ = some (.int .u64 draw))
    (first | (with_reducible exact hT1) | (with_reducible exact hT2) | (exact hT1))
    (first
      | (go_at_call 20; refine (delete20_yes br dim cap la lc L id e _ ?_ HE.out).mono ?_; (exact H2.out.ref.below (Below.refl _ _).drew); rintro ev3 w3 ⟨rfl, la3, lc3, hR3, hl3, hk3⟩; obtain ⟨h3, hX3⟩ := del_ref H2.out HX2.out hR3 hl3 hk3; have hT2 := opS hX3 h3.p1))
  have H3 := hide h3
  obtain ⟨y5, hy5⟩ := h3.p5
  have hfz := h3.book.frozen
  clear h3 hX3 hR3 hl3 hk3 hT1 hT2
  cases y5
  · go_wp2
    go_ret
    exact ⟨rfl, _, _, _, _, _, _, Nat.le_add_right _ _, H3.out.field (.bool false) (.inr ⟨rfl, _, rfl⟩)⟩
  · go_wp2
    go_ret
    exact ⟨rfl, _, _, _, _, _, _, Nat.le_add_right _ _, H3.out.field (.bool false) (.inr ⟨rfl, _, rfl⟩)⟩

set_option maxHeartbeats 2000000 in
set_option maxRecDepth 20000 in
theorem step10_delN (W0 w : World) (bp bb bs bm br : Nat) (dim cap : Int) (la : Option Addr) (lc : Nat) (nsv nmv : Value) (nn : Nat) (L : List Ent) (id kk be t0 t1 draw : Int) (pn : Nat) (pa : Option Addr) (pc : Nat) (fa : Option Addr) (fn fc : Nat)
    (h : PairAt W0 w bp bb bs bm br dim cap la lc nsv nmv nn L L) (hid : I64 id) (he : findE id L = none) :
    Calls Tryd.prog 10 #[.pointer (some ⟨bp, 0, none⟩), .agg #[.int .i64 3, .int .i64 id, .int .i64 kk, .int .i64 be, .slice pa pn pc, .int .i64 t0, .int .i64 t1, .int .u64 draw, .slice fa fn fc]] w fun ev w' => ev = .returned (.bool true) ∧ StepOk W0 bp bb bs bm br dim cap nn w' := by
  have H := hide h
  have HE := hide he
  clear h he
  go_enter Tryd.func10, Tryd.ntmps10
  go_upto_region 7 with fail
  obtain ⟨w1, hw1⟩ : ∃ w1, w1 = w.alloc (.cells #[.int .i64 3, .int .i64 id, .int .i64 kk, .int .i64 be, .slice pa pn pc, .int .i64 t0, .int .i64 t1, .int .u64 draw, .slice fa fn fc] 49) := ⟨_, rfl⟩
  have h1 : PairAt W0 w1 bp bb bs bm br dim cap la lc nsv nmv nn L L := hw1 ▸ H.out.alloc _
  have hX1 : w1.heap[w.heap.size]? = some (.cells #[.int .i64 3, .int .i64 id, .int .i64 kk, .int .i64 be, .slice pa pn pc, .int .i64 t0, .int .i64 t1, .int .u64 draw, .slice fa fn fc] 49 (0, 0)) := by rw [hw1]; exact heap_alloc_new w _
  rw [← hw1]
  clear hw1
  have H1 := hide h1
  have HX1 := hide hX1
  have hS1 := opS hX1 h1.p0
  clear h1 hX1
  go_region_held3 (fun wx => wx.cell? ⟨bp, 0, none⟩ = some (.pointer (some ⟨bb, 0, none⟩)) ∧ wx.cell? ⟨w.heap.size, 1, none⟩ = some (.int .i64 id) ∧ wx.cell? ⟨w.heap.size, 4, none⟩ = some (.slice pa pn pc) ∧ wx.cell? ⟨w.heap.size, 5, none⟩ = some (.int .i64 t0) ∧ wx.cell? ⟨w.heap.size, 6, none⟩ = some (.int .i64 t1) ∧ wx.cell? ⟨w.heap.size, 7, none⟩ = some (.int .u64 draw))
    (first | (with_reducible exact hS1) | (with_reducible exact hS2) | (exact hS1))
    (first
      | (go_at_call 16; refine (delete16_no bb bs bm dim cap id L _ hid ?_ HE.out).mono ?_; (exact H1.out.base.below (Below.refl _ _).drew); rintro ev2 w2 ⟨rfl, hb2⟩; have hb2 := Below.undrew hb2; have h2 := H1.out.below hb2; have hX2 := (hb2.block _ (Array.getElem?_eq_some_iff.1 HX1.out).1).trans HX1.out; have hS2 := opS hX2 h2.p0))
  have H2 := hide h2
  have HX2 := hide hX2
  have hT1 := opS hX2 h2.p1
  clear h2 hX2 hb2 hS1 hS2
  go_upto_region 8 with fail
  go_region_held3 (fun wx => wx.cell? ⟨bp, 1, none⟩ = some (.pointer (some ⟨br, 0, none⟩)) ∧ wx.cell? ⟨w.heap.size, 1, none⟩ = some (.int .i64 id) ∧ wx.cell? ⟨w.heap.size, 4, none⟩ = some (.slice pa pn pc) ∧ wx.cell? ⟨w.heap.size, 5, none⟩ = some (.int .i64 t0) ∧ wx.cell? ⟨w.heap.size, 6, none⟩ = some (.int .i64 t1) ∧ wx.cell? ⟨w.heap.size, 7, none⟩ = some (.int .u64 draw))
    (first | (with_reducible exact hT1) | (with_reducible exact hT2) | (exact hT1))
    (first
      | (go_at_call 20; refine (delete20_no br dim cap la lc L id _ ?_ HE.out).mono ?_; (exact H2.out.ref.below (Below.refl _ _).drew); rintro ev3 w3 ⟨rfl, hb3⟩; have hb3 := Below.undrew hb3; have h3 := H2.out.below hb3; have hX3 := (hb3.block _ (Array.getElem?_eq_some_iff.1 HX2.out).1).trans HX2.out; have hT2 := opS hX3 h3.p1))
  have H3 := hide h3
  obtain ⟨y5, hy5⟩ := h3.p5
  have hfz := h3.book.frozen
  clear h3 hX3 hb3 hT1 hT2
  cases y5
  · go_wp2
    go_ret
    exact ⟨rfl, _, _, _, _, _, _, Nat.le_add_right _ _, H3.out.field (.bool false) (.inr ⟨rfl, _, rfl⟩)⟩
  · go_wp2
    go_ret
    exact ⟨rfl, _, _, _, _, _, _, Nat.le_add_right _ _, H3.out.field (.bool true) (.inr ⟨rfl, _, rfl⟩)⟩

/-- One step, of the kinds up to 4. -/
theorem step10_any (W0 w : World) (bp bb bs bm br : Nat) (dim cap : Int) (la : Option Addr) (lc : Nat) (nsv nmv : Value) (nn : Nat) (L : List Ent) (kd id kk be t0 t1 draw : Int) (xs : List Int) (pa : Option Addr) (pc : Nat) (fa : Option Addr) (fn fc : Nat)
    (h : PairAt W0 w bp bb bs bm br dim cap la lc nsv nmv nn L L) (hv : IntsAt W0 (.slice pa xs.length pc) xs) (hid : I64 id) (hn : (xs.length + 6) * 8 ≤ 140737488355328) (hnn : (nn + 4) * 24 ≤ 140737488355328) (hkd : kd ≤ 4) :
    Calls Tryd.prog 10 #[.pointer (some ⟨bp, 0, none⟩), .agg #[.int .i64 kd, .int .i64 id, .int .i64 kk, .int .i64 be, .slice pa xs.length pc, .int .i64 t0, .int .i64 t1, .int .u64 draw, .slice fa fn fc]] w fun ev w' => ev = .returned (.bool true) ∧ StepOk W0 bp bb bs bm br dim cap nn w' := by
  by_cases h1 : kd = 1
  · subst h1; exact step10_put W0 w bp bb bs bm br dim cap la lc nsv nmv nn L id kk be t0 t1 draw xs pa pc fa fn fc h hv hid hn hnn
  by_cases h2 : kd = 2
  · subst h2; exact step10_get W0 w bp bb bs bm br dim cap la lc nsv nmv nn L id kk be t0 t1 draw xs.length pa pc fa fn fc h hid hnn
  by_cases h3 : kd = 3
  · subst h3
    cases he : findE id L with
    | none => exact step10_delN W0 w bp bb bs bm br dim cap la lc nsv nmv nn L id kk be t0 t1 draw xs.length pa pc fa fn fc h hid he
    | some e => exact step10_delY W0 w bp bb bs bm br dim cap la lc nsv nmv nn L id kk be t0 t1 draw xs.length pa pc fa fn fc e h hid he
  by_cases h4 : kd = 4
  · subst h4; exact step10_count W0 w bp bb bs bm br dim cap la lc nsv nmv nn L id kk be t0 t1 draw xs.length pa pc fa fn fc h
  exact step10_else W0 w bp bb bs bm br dim cap la lc nsv nmv nn L kd id kk be t0 t1 draw xs.length pa pc fa fn fc h (by simp [h1]) (by simp [h2]) (by simp [h3]) (by simp [h4]) (by simp; omega) (by simp; omega) (by simp; omega)
end Go.Proofs.YtgilnaheedmmfaaDoor
