import Derived.Test.YtgilnaheedmmfaaDoorPuts2
namespace Go.Proofs.YtgilnaheedmmfaaDoor
open Go.RowKit Go.Maps

section
variable {W0 w w2 w3 w4 : World} {bp bb bs bm br n : Nat} {dim cap : Int} {la : Option Addr} {lc : Nat} {nsv nmv nsv' nmv' lv' : Value} {nn n' : Nat} {L : List Ent} {cs : Array Value} {ys : List Int}
theorem puts_threeN (h : PairAt W0 w bp bb bs bm br dim cap la lc nsv nmv nn L L) (h2 : PairAt W0 w2 bp bb bs bm br dim cap la lc nsv nmv nn L L) (hX : w2.heap[w.heap.size]? = some (.cells cs 49 (0, 0))) (hk : Kept (fun k => k = w.heap.size + 1) w2 w3) (hyl : ys.length = n + 2) (hpy : Pts w3 (w.heap.size + 1) (n + 2) ys) :
    w3.heap[w.heap.size]? = some (.cells cs 49 (0, 0)) ∧ PairAt W0 w3 bp bb bs bm br dim cap la lc nsv nmv nn L L ∧ InS w3 bp (.slice (some ⟨w.heap.size + 1, 0, none⟩) (n + 2) (n + 2)) nsv nmv w3 (.slice (some ⟨w.heap.size + 1, 0, none⟩) (n + 2) (n + 2)) (n + 2) nsv nn nmv nn := by
  have hA := h.apart (A := w.heap.size + 1) (by omega)
  have h3 := h2.one hA hk
  refine ⟨(hk.block _ (Array.getElem?_eq_some_iff.1 hX).1 (by omega)).trans hX, h3, ?_⟩
  have hp : w3.ownsRow 0 3 1 (.slice (some ⟨w.heap.size + 1, 0, none⟩) (n + 2) (n + 2)) (n + 2) (ys.map (Value.int .i64)) := hyl ▸ hpy
  exact h3.book.ins hp fun g' hg' e => hA.nm (by rw [e, ← hg']; rfl)
theorem puts_fourN (h : PairAt W0 w bp bb bs bm br dim cap la lc nsv nmv nn L L) (h3 : PairAt W0 w3 bp bb bs bm br dim cap la lc nsv nmv nn L L) (hX : w3.heap[w.heap.size]? = some (.cells cs 49 (0, 0))) (hs : InS w3 bp (.slice (some ⟨w.heap.size + 1, 0, none⟩) (n + 2) (n + 2)) nsv nmv w4 lv' n' nsv' (nn + 4) nmv' (nn + 4)) :
    w4.heap[w.heap.size]? = some (.cells cs 49 (0, 0)) ∧ PairAt W0 w4 bp bb bs bm br dim cap la lc nsv' nmv' (nn + 4) L L := by
  have hA := h.apart (A := w.heap.size + 1) (by omega)
  have hB := h.apart (A := w.heap.size) (Nat.le_refl _)
  refine ⟨(hs.kept.block _ (Array.getElem?_eq_some_iff.1 hX).1 (fun hx => ?_)).trans hX, h3.ints' hA hs⟩
  rcases hx with e | e | e | e
  · exact hB.p e
  · simp [Value.ownBlock] at e
  · exact hB.ns e
  · exact hB.nm e
end

set_option maxHeartbeats 2000000 in
set_option maxRecDepth 20000 in
theorem puts18_no (W0 w : World) (bp bb bs bm br : Nat) (dim cap : Int) (la : Option Addr) (lc : Nat) (nsv nmv : Value) (nn : Nat) (L : List Ent) (kd id kk be t0 t1 draw : Int) (xs : List Int) (pa : Option Addr) (pc : Nat) (fv : Value) (hfv : ∃ a n c, fv = .slice a n c)
    (h : PairAt W0 w bp bb bs bm br dim cap la lc nsv nmv nn L L) (hv : IntsAt W0 (.slice pa xs.length pc) xs) (_hid : I64 id) (hn : (xs.length + 6) * 8 ≤ 140737488355328) (hnn : (nn + 4) * 24 ≤ 140737488355328)
    (r : Int) (hr0 : (r == 0) = false)
    (hput : ∀ W, BaseAt W bb bs bm dim cap L → (∀ o, IntsAt (W.alloc o) (.slice (some ⟨w.heap.size + 1, 0, none⟩) xs.length (xs.length + 2)) xs) → Calls Tryd.prog 13 #[.pointer (some ⟨bb, 0, none⟩), .int .i64 id, .slice (some ⟨w.heap.size + 1, 0, none⟩) xs.length (xs.length + 2), .agg #[.int .i64 t0, .int .i64 t1], .int .u64 draw] W fun ev w' => ev = .returned (.int .i64 r) ∧ Below W.heap.size W w')
    (href : ∀ W, RefAt W br dim cap la lc L → (∀ o, IntsAt (W.alloc o) (.slice pa xs.length pc) xs) → Calls Tryd.prog 36 #[.pointer (some ⟨br, 0, none⟩), .int .i64 id, .slice pa xs.length pc, .agg #[.int .i64 t0, .int .i64 t1], .int .u64 draw] W fun ev w' => ev = .returned (.int .i64 r) ∧ Below W.heap.size W w') :
    Calls Tryd.prog 18 #[.pointer (some ⟨bp, 0, none⟩), .agg #[.int .i64 kd, .int .i64 id, .int .i64 kk, .int .i64 be, .slice pa xs.length pc, .int .i64 t0, .int .i64 t1, .int .u64 draw, fv]] w fun ev w' => ev = .returned (.bool true) ∧ StepOk W0 bp bb bs bm br dim cap nn w' := by
  obtain ⟨fa, fl, fc, rfl⟩ := hfv
  have hxl : xs.length ≤ 17592186044416 := by omega
  have hvw := hv.below h.old
  have hva := hvw.below ((Below.refl _ _).alloc (Nat.le_refl _) (.cells #[.int .i64 kd, .int .i64 id, .int .i64 kk, .int .i64 be, .slice pa xs.length pc, .int .i64 t0, .int .i64 t1, .int .u64 draw, .slice fa fl fc] 49))
  have hn2 : (xs.length + 2) * 8 ≤ 140737488355328 := Nat.le_trans (Nat.mul_le_mul_right 8 (by omega)) hn
  have hpl := h.book.lt
  have H := hide h
  have HV := hide hv
  have HVA := hide hva
  have HPUT := hide hput
  have HREF := hide href
  have HN := hide hn
  have HN2 := hide hn2
  have HNN := hide hnn
  clear hvw hva hn hn2 hnn hv h hput href
  go_enter Tryd.func18, Tryd.ntmps18
  go_wp2_with fail
  refine (copied33_any xs (.slice pa xs.length pc) _ HVA.out HN2.out).mono ?_
  rintro ev w1 ⟨rfl, hp, hb⟩
  have hp1 : Pts w1 (w.heap.size + 1) (xs.length + 2) (xs ++ [77, 78]) := by simpa using hp
  have hX1 : w1.heap[w.heap.size]? = some (.cells #[.int .i64 kd, .int .i64 id, .int .i64 kk, .int .i64 be, .slice pa xs.length pc, .int .i64 t0, .int .i64 t1, .int .u64 draw, .slice fa fl fc] 49 (0, 0)) := (hb.block _ (by simp)).trans (heap_alloc_new w _)
  have hbw : Below w.heap.size w w1 := ((Below.refl _ _).alloc (Nat.le_refl _) _).trans (hb.mono (by simp))
  have h1 := H.out.below hbw
  have H1 := hide h1
  have HP1 := hide hp1
  have HX1 := hide hX1
  have HBW := hide hbw
  have hzw : w.heap.size + 1 < w1.heap.size := (hp1.lt (w.heap.size + 1) rfl).2
  have hp0 := h1.p0
  clear hp hb hp1 hX1 hbw h1
  have hS1 := opS HX1.out hp0
  have bz1 : (0 : Int) ≤ (xs.length : Int) := by omega
  have bz2 : (xs.length : Int) ≤ (xs.length : Int) + 2 := by omega
  have HVL : Hid (∀ o, IntsAt (w1.drew.alloc o) (.slice (some ⟨w.heap.size + 1, 0, none⟩) xs.length (xs.length + 2)) xs) := fun o => (ints_of_pts HP1.out (by omega) _ (by omega)).below (((Below.refl _ _).drew).alloc (Nat.le_refl _) o)
  go_wp2
  go_region_held3 (fun wx => wx.cell? ⟨bp, 0, none⟩ = some (.pointer (some ⟨bb, 0, none⟩)) ∧ wx.cell? ⟨w.heap.size, 1, none⟩ = some (.int .i64 id) ∧ wx.cell? ⟨w.heap.size, 4, none⟩ = some (.slice pa xs.length pc) ∧ wx.cell? ⟨w.heap.size, 5, none⟩ = some (.int .i64 t0) ∧ wx.cell? ⟨w.heap.size, 6, none⟩ = some (.int .i64 t1) ∧ wx.cell? ⟨w.heap.size, 7, none⟩ = some (.int .u64 draw))
    (first | (exact hS1) | (exact hS2))
    (first
      | (go_at_call 13; refine (HPUT.out _ ?_ ?_).mono ?_; (exact H1.out.base.below (Below.refl _ _).drew); (exact HVL.out); rintro ev2 w2 ⟨rfl, hb2d⟩; have hb2 := Below.undrew hb2d; have hX2 : w2.heap[w.heap.size]? = some (.cells #[.int .i64 kd, .int .i64 id, .int .i64 kk, .int .i64 be, .slice pa xs.length pc, .int .i64 t0, .int .i64 t1, .int .u64 draw, .slice fa fl fc] 49 (0, 0)) := (hb2.block _ (by omega)).trans HX1.out; have hS2 := opS hX2 (H1.out.below hb2).p0))
  have H2 := hide (H1.out.below hb2)
  have HP2 := hide (ownsRow_below HP1.out hb2)
  have HX2 := hide hX2
  clear hX2 hS1 hS2 hb2 hb2d HVL
  go_wp2_with fail
  refine (whole34_any xs (.slice pa xs.length pc) (w.heap.size + 1) (xs.length + 2) w2 HP2.out ?c1 ?c2).mono ?_
  case c1 => exact HV.out.below H2.out.old
  case c2 => exact fun b off n c e hx => by have := HV.out.lt b off n c e hx; have := H.out.old.size; omega
  rintro ev w3 ⟨rfl, ⟨ys, hyl, hpy⟩, hk3⟩
  obtain ⟨hX3, h3, hins⟩ := puts_threeN H.out H2.out HX2.out hk3 hyl hpy
  have HX3 := hide hX3
  have H3 := hide h3
  have HI := hide hins
  have hbp6 : (⟨bp, 6, none⟩ : Addr) = ⟨bp, 6, none⟩ := rfl
  clear hX3 h3 hins hyl hpy hk3
  go_wp2_with fail
  refine (ints35_any bp (some ⟨w.heap.size + 1, 0, none⟩) (xs.length + 2) (xs.length + 2) nsv nmv nn w3 HI.out HN.out HNN.out).mono ?_
  rintro ev w4 ⟨rfl, lv', nsv', nmv', hs4⟩
  obtain ⟨hX4, h4⟩ := puts_fourN H.out H3.out HX3.out hs4
  have HX4 := hide hX4
  have H4 := hide h4
  have hp1 := h4.p1
  have hS3 := opS hX4 hp1
  have HVL4 : Hid (∀ o, IntsAt (w4.drew.alloc o) (.slice pa xs.length pc) xs) := fun o => (HV.out.below h4.old).below (((Below.refl _ _).drew).alloc (Nat.le_refl _) o)
  clear hX4 h4 hs4 hp0
  go_wp2
  go_region_held3 (fun wx => wx.cell? ⟨bp, 1, none⟩ = some (.pointer (some ⟨br, 0, none⟩)) ∧ wx.cell? ⟨w.heap.size, 1, none⟩ = some (.int .i64 id) ∧ wx.cell? ⟨w.heap.size, 4, none⟩ = some (.slice pa xs.length pc) ∧ wx.cell? ⟨w.heap.size, 5, none⟩ = some (.int .i64 t0) ∧ wx.cell? ⟨w.heap.size, 6, none⟩ = some (.int .i64 t1) ∧ wx.cell? ⟨w.heap.size, 7, none⟩ = some (.int .u64 draw))
    (first | (exact hS3) | (exact hS5))
    (first
      | (go_at_call 36; refine (HREF.out _ ?_ ?_).mono ?_; (exact H4.out.ref.below (Below.refl _ _).drew); (exact HVL4.out); rintro ev5 w5 ⟨rfl, hb5d⟩; have hb5 := Below.undrew hb5d; have hX5 : w5.heap[w.heap.size]? = some (.cells #[.int .i64 kd, .int .i64 id, .int .i64 kk, .int .i64 be, .slice pa xs.length pc, .int .i64 t0, .int .i64 t1, .int .u64 draw, .slice fa fl fc] 49 (0, 0)) := (hb5.block _ (Array.getElem?_eq_some_iff.1 HX4.out).1).trans HX4.out; have hS5 := opS hX5 (H4.out.below hb5).p1))
  have H5 := hide (H4.out.below hb5)
  clear hb5 hb5d hX5 hS5 hS3
  go_wp2
  go_ret
  exact ⟨rfl, _, _, _, _, _, _, Nat.le_refl _, H5.out⟩
end Go.Proofs.YtgilnaheedmmfaaDoor
