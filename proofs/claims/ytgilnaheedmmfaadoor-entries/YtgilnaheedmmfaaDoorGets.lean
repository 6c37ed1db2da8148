import Derived.Test.YtgilnaheedmmfaaDoorPuts4
import Derived.Deep.DeepCutAuto
import Derived.Deep.RegionWith
namespace Go.Proofs.YtgilnaheedmmfaaDoor
open Go.RowKit Go.Maps

/-- The list that Get gave: nil, or of its own. -/
def GotL (s : Nat) (w : World) (xa : Option Addr) (xc : Nat) (xs : List Int) : Prop :=
  (xs = [] ∧ xa = none ∧ xc = 0) ∨ ∃ g, xa = some ⟨g, 0, none⟩ ∧ s ≤ g ∧ Pts w g xc xs
theorem GotL.kept {s A : Nat} {w w' : World} {xa : Option Addr} {xc : Nat} {xs : List Int} (h : GotL s w xa xc xs) (hk : Kept (fun k => k = A) w w') (hA : A < s) : GotL s w' xa xc xs := by
  rcases h with h | ⟨g, rfl, hg, hp⟩
  · exact .inl h
  · exact .inr ⟨g, rfl, hg, ownsRow_kept hp hk fun g' e => by
      obtain rfl : g = g' := by simpa [Value.ownBlock] using e
      omega⟩
theorem GotL.below {s : Nat} {w w' : World} {xa : Option Addr} {xc : Nat} {xs : List Int} (h : GotL s w xa xc xs) (hk : Below w.heap.size w w') : GotL s w' xa xc xs := by
  rcases h with h | ⟨g, rfl, hg, hp⟩
  · exact .inl h
  · exact .inr ⟨g, rfl, hg, ownsRow_below hp hk⟩
theorem GotL.mono {s t : Nat} {w : World} {xa : Option Addr} {xc : Nat} {xs : List Int} (h : GotL s w xa xc xs) (ht : t ≤ s) : GotL t w xa xc xs := by
  rcases h with h | ⟨g, rfl, hg, hp⟩
  · exact .inl h
  · exact .inr ⟨g, rfl, by omega, hp⟩

/-- What Get's first half leaves. -/
structure GetX (w1 wx : World) (i a b : Int) (xs : List Int) (xb : Nat) (xa : Option Addr) (xc : Nat) : Prop where
  old : Below w1.heap.size w1 wx
  lt : xb < wx.heap.size
  c0 : wx.cell? ⟨xb, 0, none⟩ = some (.int .i64 i)
  c1 : wx.cell? ⟨xb, 1, none⟩ = some (.slice xa xs.length xc)
  c2 : wx.cell? ⟨xb, 2, none⟩ = some (.int .i64 a)
  c3 : wx.cell? ⟨xb, 3, none⟩ = some (.int .i64 b)
  got : GotL w1.heap.size wx xa xc xs

theorem Kept.one {A : Nat} {w w' : World} (h : Kept (fun k => k = A) w w') (o : Nat) (u : Value) : Kept (fun k => k = A) w (w'.setCell ⟨A, o, none⟩ u) := h.setCell (p := ⟨A, o, none⟩) (fun _ => rfl) u

theorem GetX.late {w1 w2 : World} {i a b : Int} {xs : List Int} {xa : Option Addr} {xc : Nat} (hb : Below w1.heap.size w1 w2) (hg : GotL w1.heap.size w2 xa xc xs) :
    GetX w1 (w2.alloc (.cells #[.int .i64 i, .slice xa xs.length xc, .int .i64 a, .int .i64 b] 56)) i a b xs w2.heap.size xa xc :=
  ⟨hb.alloc hb.size _, by simp, by simp, by simp, by simp, by simp, hg.below ((Below.refl _ _).alloc (Nat.le_refl _) _)⟩
theorem GetX.early {w1 w2 : World} {o : Obj} {i a b : Int} {xs : List Int} {xa : Option Addr} {xc : Nat} {v0 v1 v2 v3 : Value} (hb1 : Below w1.heap.size w1 w2) (hb : Below (w1.alloc o).drew.heap.size (w1.alloc o).drew w2) (hg : GotL (w1.alloc o).drew.heap.size w2 xa xc xs)
    (n0 : w2.cell? ⟨w1.heap.size, 0, none⟩ = some v0) (n1 : w2.cell? ⟨w1.heap.size, 1, none⟩ = some v1) (n2 : w2.cell? ⟨w1.heap.size, 2, none⟩ = some v2) (n3 : w2.cell? ⟨w1.heap.size, 3, none⟩ = some v3) :
    GetX w1 ((((w2.setCell ⟨w1.heap.size, 0, none⟩ (.int .i64 i)).setCell ⟨w1.heap.size, 1, none⟩ (.slice xa xs.length xc)).setCell ⟨w1.heap.size, 2, none⟩ (.int .i64 a)).setCell ⟨w1.heap.size, 3, none⟩ (.int .i64 b)) i a b xs w1.heap.size xa xc := by
  have hz : w1.heap.size + 1 ≤ w2.heap.size := by have := hb.size; simp at this; omega
  have hk : Kept (fun k => k = w1.heap.size) w2 ((((w2.setCell ⟨w1.heap.size, 0, none⟩ (.int .i64 i)).setCell ⟨w1.heap.size, 1, none⟩ (.slice xa xs.length xc)).setCell ⟨w1.heap.size, 2, none⟩ (.int .i64 a)).setCell ⟨w1.heap.size, 3, none⟩ (.int .i64 b)) :=
    ((((Kept.refl _ _).one _ _).one _ _).one _ _).one _ _
  refine ⟨hb1.trans (hk.toBelow (by omega) (fun k e => by omega)), Nat.lt_of_lt_of_le (by omega) hk.size, ?_, ?_, ?_, ?_, (hg.kept hk (by simp)).mono (by simp)⟩
  · rw [World.cell?_setCell_other _ _ _ _ (by simp), World.cell?_setCell_other _ _ _ _ (by simp), World.cell?_setCell_other _ _ _ _ (by simp)]
    exact World.cell?_setCell_same _ _ _ n0
  · rw [World.cell?_setCell_other _ _ _ _ (by simp), World.cell?_setCell_other _ _ _ _ (by simp)]
    exact World.cell?_setCell_same _ _ _ ((World.cell?_setCell_other _ _ _ _ (by simp)).trans n1)
  · rw [World.cell?_setCell_other _ _ _ _ (by simp)]
    exact World.cell?_setCell_same _ _ _ ((World.cell?_setCell_other _ _ _ _ (by simp)).trans ((World.cell?_setCell_other _ _ _ _ (by simp)).trans n2))
  · exact World.cell?_setCell_same _ _ _ ((World.cell?_setCell_other _ _ _ _ (by simp)).trans ((World.cell?_setCell_other _ _ _ _ (by simp)).trans ((World.cell?_setCell_other _ _ _ _ (by simp)).trans n3)))

/-- What Get's second half leaves. -/
structure GetY (w1 wx : World) (i a b : Int) (n : Nat) (xb : Nat) (xa : Option Addr) (xc : Nat) : Prop where
  old : Below w1.heap.size w1 wx
  c0 : wx.cell? ⟨xb, 0, none⟩ = some (.int .i64 i)
  c1 : wx.cell? ⟨xb, 1, none⟩ = some (.slice xa n xc)
  c2 : wx.cell? ⟨xb, 2, none⟩ = some (.int .i64 a)
  c3 : wx.cell? ⟨xb, 3, none⟩ = some (.int .i64 b)
theorem GetY.late {w1 w2 : World} {i a b d : Int} {n : Nat} {xa : Option Addr} {xc : Nat} (hb : Below w1.heap.size w1 w2) :
    GetY w1 (w2.alloc (.cells #[.int .i64 i, .slice xa n xc, .int .i64 a, .int .i64 b, .int .u64 d] 90)) i a b n w2.heap.size xa xc :=
  ⟨hb.alloc hb.size _, by simp, by simp, by simp, by simp⟩
theorem GetY.early {w1 w2 : World} {i a b d : Int} {n : Nat} {xa : Option Addr} {xc : Nat} {v0 v1 v2 v3 : Value} (hb1 : Below w1.heap.size w1 w2)
    (n0 : w2.cell? ⟨w1.heap.size, 0, none⟩ = some v0) (n1 : w2.cell? ⟨w1.heap.size, 1, none⟩ = some v1) (n2 : w2.cell? ⟨w1.heap.size, 2, none⟩ = some v2) (n3 : w2.cell? ⟨w1.heap.size, 3, none⟩ = some v3) :
    GetY w1 (((((w2.setCell ⟨w1.heap.size, 0, none⟩ (.int .i64 i)).setCell ⟨w1.heap.size, 1, none⟩ (.slice xa n xc)).setCell ⟨w1.heap.size, 2, none⟩ (.int .i64 a)).setCell ⟨w1.heap.size, 3, none⟩ (.int .i64 b)).setCell ⟨w1.heap.size, 4, none⟩ (.int .u64 d)) i a b n w1.heap.size xa xc := by
  have hk : Kept (fun k => k = w1.heap.size) w2 (((((w2.setCell ⟨w1.heap.size, 0, none⟩ (.int .i64 i)).setCell ⟨w1.heap.size, 1, none⟩ (.slice xa n xc)).setCell ⟨w1.heap.size, 2, none⟩ (.int .i64 a)).setCell ⟨w1.heap.size, 3, none⟩ (.int .i64 b)).setCell ⟨w1.heap.size, 4, none⟩ (.int .u64 d)) :=
    (((((Kept.refl _ _).one _ _).one _ _).one _ _).one _ _).one _ _
  refine ⟨hb1.trans (hk.toBelow hb1.size (fun k e => by omega)), ?_, ?_, ?_, ?_⟩
  · rw [World.cell?_setCell_other _ _ _ _ (by simp), World.cell?_setCell_other _ _ _ _ (by simp), World.cell?_setCell_other _ _ _ _ (by simp), World.cell?_setCell_other _ _ _ _ (by simp)]
    exact World.cell?_setCell_same _ _ _ n0
  · rw [World.cell?_setCell_other _ _ _ _ (by simp), World.cell?_setCell_other _ _ _ _ (by simp), World.cell?_setCell_other _ _ _ _ (by simp)]
    exact World.cell?_setCell_same _ _ _ ((World.cell?_setCell_other _ _ _ _ (by simp)).trans n1)
  · rw [World.cell?_setCell_other _ _ _ _ (by simp), World.cell?_setCell_other _ _ _ _ (by simp)]
    exact World.cell?_setCell_same _ _ _ ((World.cell?_setCell_other _ _ _ _ (by simp)).trans ((World.cell?_setCell_other _ _ _ _ (by simp)).trans n2))
  · rw [World.cell?_setCell_other _ _ _ _ (by simp)]
    exact World.cell?_setCell_same _ _ _ ((World.cell?_setCell_other _ _ _ _ (by simp)).trans ((World.cell?_setCell_other _ _ _ _ (by simp)).trans ((World.cell?_setCell_other _ _ _ _ (by simp)).trans n3)))

set_option maxHeartbeats 2000000 in
set_option maxRecDepth 20000 in
theorem gets19_any (W0 w : World) (bp bb bs bm br : Nat) (dim cap : Int) (la : Option Addr) (lc : Nat) (nsv nmv : Value) (nn : Nat) (L : List Ent) (kd id kk be t0 t1 draw : Int) (pv fv : Value)
    (h : PairAt W0 w bp bb bs bm br dim cap la lc nsv nmv nn L L) (hnn : (nn + 4) * 24 ≤ 140737488355328)
    (i a b d r : Int) (xs : List Int) (ya : Option Addr) (yc : Nat) (h8 : xs.length ≤ 8)
    (hget : ∀ W, BaseAt W bb bs bm dim cap L → Calls Tryd.prog 14 #[.pointer (some ⟨bb, 0, none⟩), .int .i64 id] W fun ev w' => ∃ xa xc, ev = .returned (.tuple #[.agg #[.int .i64 i, .slice xa xs.length xc, .int .i64 a, .int .i64 b], .int .i64 r]) ∧ GotL W.heap.size w' xa xc xs ∧ Below W.heap.size W w')
    (href : ∀ W, RefAt W br dim cap la lc L → Calls Tryd.prog 37 #[.pointer (some ⟨br, 0, none⟩), .int .i64 id] W fun ev w' => ev = .returned (.tuple #[.agg #[.int .i64 i, .slice ya xs.length yc, .int .i64 a, .int .i64 b, .int .u64 d], .int .i64 r]) ∧ Below W.heap.size W w')
    (hya : ∀ W, RefAt W br dim cap la lc L → IntsAt W (.slice ya xs.length yc) xs) :
    Calls Tryd.prog 19 #[.pointer (some ⟨bp, 0, none⟩), .agg #[.int .i64 kd, .int .i64 id, .int .i64 kk, .int .i64 be, pv, .int .i64 t0, .int .i64 t1, .int .u64 draw, fv]] w fun ev w' => ev = .returned (.bool true) ∧ StepOk W0 bp bb bs bm br dim cap nn w' := by
  have hpl := h.book.lt
  have H := hide h
  have HGET := hide hget
  have HREF := hide href
  have HYA := hide hya
  have HNN := hide hnn
  clear hnn h hget href hya
  go_enter Tryd.func19, Tryd.ntmps19
  go_upto_region 1 with fail
  obtain ⟨w1, hw1⟩ : ∃ w1, w1 = w.alloc (.cells #[.int .i64 kd, .int .i64 id, .int .i64 kk, .int .i64 be, pv, .int .i64 t0, .int .i64 t1, .int .u64 draw, fv] 49) := ⟨_, rfl⟩
  have h1 : PairAt W0 w1 bp bb bs bm br dim cap la lc nsv nmv nn L L := hw1 ▸ H.out.alloc _
  have ho1 : w1.cell? ⟨w.heap.size, 1, none⟩ = some (.int .i64 id) := by rw [hw1]; simp
  have hz1 : w1.heap.size = w.heap.size + 1 := by rw [hw1]; simp
  rw [← hw1]
  clear hw1
  have H1 := hide h1
  have hp0 := h1.p0
  clear h1
  have hS1 := And.intro hp0 ho1
  go_cut [5, 6] (fun xv ev wx => ∃ xb xa xc, xv = .pointer (some ⟨xb, 0, none⟩) ∧ ev = .int .i64 r ∧ GetX w1 wx i a b xs xb xa xc)
  case first =>
    have hn1 : bp < w1.heap.size := by omega
    have hn2 : w.heap.size < w1.heap.size := by omega
    have hn3 : w1.heap.size ≠ bp := by omega
    have hn4 : w1.heap.size ≠ w.heap.size := by omega
    clear hz1
    go_region_held3 (fun wx => wx.cell? ⟨bp, 0, none⟩ = some (.pointer (some ⟨bb, 0, none⟩)) ∧ wx.cell? ⟨w.heap.size, 1, none⟩ = some (.int .i64 id))
      (first | (with_reducible exact hS1) | (with_reducible exact hS2) | (refine ⟨?_, ?_⟩ <;> (first | rw [World.cell?_setCell_far _ _ _ _ hn3, World.cell?_setCell_far _ _ _ _ hn3, World.cell?_setCell_far _ _ _ _ hn3, World.cell?_setCell_far _ _ _ _ hn3] | rw [World.cell?_setCell_far _ _ _ _ hn4, World.cell?_setCell_far _ _ _ _ hn4, World.cell?_setCell_far _ _ _ _ hn4, World.cell?_setCell_far _ _ _ _ hn4]) <;> (first | with_reducible exact hS2.1 | with_reducible exact hS2.2)) | (refine ⟨(World.cell?_alloc_lt _ _ _ hm1).trans ?_, (World.cell?_alloc_lt _ _ _ hm2).trans ?_⟩ <;> (first | with_reducible exact hS2.1 | with_reducible exact hS2.2)) | (refine ⟨(World.cell?_alloc_lt _ _ _ hn1).trans ?_, (World.cell?_alloc_lt _ _ _ hn2).trans ?_⟩ <;> (first | with_reducible exact hp0 | with_reducible exact ho1)) | ((simp [hp0, ho1]; done)) | ((simp [World.cell?_alloc_past, hm1, hm2, hS2.1, hS2.2]; done)))
      (first
        | (go_at_call 14; refine (HGET.out w1.drew ?_).mono ?_; (exact H1.out.base.below (Below.refl _ _).drew); rintro ev2 w2 ⟨xa, xc, rfl, hg, hb2⟩; have hb1 : Below w1.heap.size w1 w2 := Below.trans (Below.refl _ _).drew (hb2.mono (by simp)); have hm1 : bp < w2.heap.size := Nat.lt_of_lt_of_le hn1 hb1.size; have hm2 : w.heap.size < w2.heap.size := Nat.lt_of_lt_of_le hn2 hb1.size; have hS2 := And.intro (Below.at hb1 hp0 hn1) (Below.at hb1 ho1 hn2); have HG := hide hg; clear hg; have HB1 := hide hb1; clear hb1; have HB2 := hide hb2; clear hb2)
        | (go_at_call 14; refine (HGET.out _ ?_).mono ?_; (exact H1.out.base.below (by repeat (first | exact Below.refl _ _ | refine Below.drew ?_ | refine Below.alloc ?_ (by simp) _))); rintro ev2 w2 ⟨xa, xc, rfl, hg, hb2⟩; have hb1 : Below w1.heap.size w1 w2 := Below.trans (by repeat (first | exact Below.refl _ _ | refine Below.drew ?_ | refine Below.alloc ?_ (by simp) _)) (hb2.mono (by simp)); have hm1 : bp < w2.heap.size := Nat.lt_of_lt_of_le hn1 hb1.size; have hm2 : w.heap.size < w2.heap.size := Nat.lt_of_lt_of_le hn2 hb1.size; have hS2 := And.intro (Below.at hb1 hp0 hn1) (Below.at hb1 ho1 hn2); have n0 : w2.cell? ⟨w1.heap.size, 0, none⟩ = some (.int .i64 0) := Below.at hb2 (by (simp; done)) (by (simp; done)); have n1 : w2.cell? ⟨w1.heap.size, 1, none⟩ = some (.slice none 0 0) := Below.at hb2 (by (simp; done)) (by (simp; done)); have n2 : w2.cell? ⟨w1.heap.size, 2, none⟩ = some (.int .i64 0) := Below.at hb2 (by (simp; done)) (by (simp; done)); have n3 : w2.cell? ⟨w1.heap.size, 3, none⟩ = some (.int .i64 0) := Below.at hb2 (by (simp; done)) (by (simp; done)); have fz : ∀ o, w2.frozen? ⟨w1.heap.size, o, none⟩ = false := fun o => (hb2.frozen (p := ⟨_, o, none⟩) (by (simp; done))).trans (by (simp; done)); have HG := hide hg; clear hg; have HB1 := hide hb1; clear hb1; have HB2 := hide hb2; clear hb2))
    all_goals go_wp2_with fail
    all_goals go_meet
    · exact ⟨_, _, _, rfl, rfl, GetX.late HB1.out HG.out⟩
    · exact ⟨_, _, _, rfl, rfl, GetX.early HB1.out HB2.out HG.out n0 n1 n2 n3⟩
  case rest =>
    obtain ⟨xb, xa, xc, rfl, rfl, hx⟩ := hcut
    have HX := hide hx
    have h2 := H1.out.below hx.old
    have hp1 := h2.p1
    have H2 := hide h2
    have ho2 : wc.cell? ⟨w.heap.size, 1, none⟩ = some (.int .i64 id) := Below.at hx.old ho1 (by omega)
    have hT1 := And.intro hp1 ho2
    clear h2 hS1 hp0 ho1
    go_upto_region 2 with fail
    go_cut [7, 8] (fun yv ev wx => ∃ yb, yv = .pointer (some ⟨yb, 0, none⟩) ∧ ev = .int .i64 r ∧ GetY wc wx i a b xs.length yb ya yc)
    case first =>
      have hn1 : bp < wc.heap.size := by have := hx.old.size; omega
      have hn2 : w.heap.size < wc.heap.size := by have := hx.old.size; omega
      have hn3 : wc.heap.size ≠ bp := by omega
      have hn4 : wc.heap.size ≠ w.heap.size := by omega
      clear hz1 hx
      go_region_held3 (fun wx => wx.cell? ⟨bp, 1, none⟩ = some (.pointer (some ⟨br, 0, none⟩)) ∧ wx.cell? ⟨w.heap.size, 1, none⟩ = some (.int .i64 id))
        (first | (with_reducible exact hT1) | (with_reducible exact hT2) | (refine ⟨?_, ?_⟩ <;> (first | rw [World.cell?_setCell_far _ _ _ _ hn3, World.cell?_setCell_far _ _ _ _ hn3, World.cell?_setCell_far _ _ _ _ hn3, World.cell?_setCell_far _ _ _ _ hn3, World.cell?_setCell_far _ _ _ _ hn3] | rw [World.cell?_setCell_far _ _ _ _ hn4, World.cell?_setCell_far _ _ _ _ hn4, World.cell?_setCell_far _ _ _ _ hn4, World.cell?_setCell_far _ _ _ _ hn4, World.cell?_setCell_far _ _ _ _ hn4]) <;> (first | with_reducible exact hT2.1 | with_reducible exact hT2.2)) | (refine ⟨(World.cell?_alloc_lt _ _ _ hm1).trans ?_, (World.cell?_alloc_lt _ _ _ hm2).trans ?_⟩ <;> (first | with_reducible exact hT2.1 | with_reducible exact hT2.2)) | (refine ⟨(World.cell?_alloc_lt _ _ _ hn1).trans ?_, (World.cell?_alloc_lt _ _ _ hn2).trans ?_⟩ <;> (first | with_reducible exact hp1 | with_reducible exact ho2)) | ((simp [hp1, ho2]; done)) | ((simp [World.cell?_alloc_past, hm1, hm2, hT2.1, hT2.2]; done)))
        (first
          | (go_at_call 37; refine (HREF.out wc.drew ?_).mono ?_; (exact H2.out.ref.below (Below.refl _ _).drew); rintro ev2 w3 ⟨rfl, hb2⟩; have hb1 : Below wc.heap.size wc w3 := Below.trans (Below.refl _ _).drew (hb2.mono (by simp)); have hm1 : bp < w3.heap.size := Nat.lt_of_lt_of_le hn1 hb1.size; have hm2 : w.heap.size < w3.heap.size := Nat.lt_of_lt_of_le hn2 hb1.size; have hT2 := And.intro (Below.at hb1 hp1 hn1) (Below.at hb1 ho2 hn2); have HB1 := hide hb1; clear hb1; have HB2 := hide hb2; clear hb2)
          | (go_at_call 37; refine (HREF.out _ ?_).mono ?_; (exact H2.out.ref.below (by repeat (first | exact Below.refl _ _ | refine Below.drew ?_ | refine Below.alloc ?_ (by simp) _))); rintro ev2 w3 ⟨rfl, hb2⟩; have hb1 : Below wc.heap.size wc w3 := Below.trans (by repeat (first | exact Below.refl _ _ | refine Below.drew ?_ | refine Below.alloc ?_ (by simp) _)) (hb2.mono (by simp)); have hm1 : bp < w3.heap.size := Nat.lt_of_lt_of_le hn1 hb1.size; have hm2 : w.heap.size < w3.heap.size := Nat.lt_of_lt_of_le hn2 hb1.size; have hT2 := And.intro (Below.at hb1 hp1 hn1) (Below.at hb1 ho2 hn2); have n0 : w3.cell? ⟨wc.heap.size, 0, none⟩ = some (.int .i64 0) := Below.at hb2 (by (simp; done)) (by (simp; done)); have n1 : w3.cell? ⟨wc.heap.size, 1, none⟩ = some (.slice none 0 0) := Below.at hb2 (by (simp; done)) (by (simp; done)); have n2 : w3.cell? ⟨wc.heap.size, 2, none⟩ = some (.int .i64 0) := Below.at hb2 (by (simp; done)) (by (simp; done)); have n3 : w3.cell? ⟨wc.heap.size, 3, none⟩ = some (.int .i64 0) := Below.at hb2 (by (simp; done)) (by (simp; done)); have n4 : w3.cell? ⟨wc.heap.size, 4, none⟩ = some (.int .u64 0) := Below.at hb2 (by (simp; done)) (by (simp; done)); have fz : ∀ o, w3.frozen? ⟨wc.heap.size, o, none⟩ = false := fun o => (hb2.frozen (p := ⟨_, o, none⟩) (by (simp; done))).trans (by (simp; done)); have HB1 := hide hb1; clear hb1; have HB2 := hide hb2; clear hb2))
      all_goals go_wp2_with fail
      all_goals go_meet
      · exact ⟨_, rfl, rfl, GetY.late HB1.out⟩
      · exact ⟨_, rfl, rfl, GetY.early HB1.out n0 n1 n2 n3⟩
    case rest =>
      obtain ⟨yb, rfl, rfl, hy⟩ := hcut
      have x0 := Below.at hy.old hx.c0 hx.lt
      have x1 := Below.at hy.old hx.c1 hx.lt
      have x2 := Below.at hy.old hx.c2 hx.lt
      have x3 := Below.at hy.old hx.c3 hx.lt
      have y0 := hy.c0
      have y1 := hy.c1
      have y2 := hy.c2
      have y3 := hy.c3
      have H3 := hide (H2.out.below hy.old)
      have HG := hide (hx.got.below hy.old)
      clear hx hy hp1 ho2 hT1
      have HY := hide (HYA.out _ H3.out.ref)
      go_wp2
      go_loopw [9, 10] (fun ok iv wr => ∃ (k np : Nat), k ≤ xs.length ∧ iv = .int .i64 k ∧ ok = .bool true ∧ wr = wc.drewN np) (fun _ iv _ => xs.length - (intOf iv).toNat)
      case atStart => exact ⟨0, 0, Nat.zero_le _, rfl, rfl, rfl⟩
      case round =>
        obtain ⟨k, np, hk, rfl, rfl, rfl⟩ := hrel
        by_cases hlt : k < xs.length
        · obtain ⟨g, rfl, gx, hp⟩ : ∃ g, xa = some ⟨g, 0, none⟩ ∧ Hid (w1.heap.size ≤ g) ∧ Hid (Pts wc g xc xs) := by
            rcases HG.out with ⟨rfl, _⟩ | ⟨g, e, h1, h2⟩
            · simp at hlt
            · exact ⟨g, e, h1, h2⟩
          obtain ⟨yg, yo, rfl, hyc⟩ : ∃ yg yo, ya = some ⟨yg, yo, none⟩ ∧ wc.cell? ⟨yg, yo + k, none⟩ = some (.int .i64 (xs.getD k 0)) := by
            obtain ⟨a', c', e', _, _, hx⟩ := HY.out
            simp only [Value.slice.injEq] at e'
            obtain ⟨rfl, _, rfl⟩ := e'
            rcases hx with rfl | ⟨b, off, rfl, hc⟩
            · simp at hlt
            · exact ⟨b, off, rfl, hc k hlt⟩
          have hxc : wc.cell? ⟨g, k, none⟩ = some (.int .i64 (xs.getD k 0)) := hp.out.at hlt
          generalize xs.getD k 0 = x at *
          go_wp2
          go_quiet (fail)
          go_wp2
          refine ⟨⟨k + 1, np + nq, by omega, by go_num, rfl, ?_⟩, by simp [intOf]; omega⟩
          rfl
        · obtain rfl : k = xs.length := by omega
          have H4 := hide (H3.out.below (below_drewN (Below.refl _ _) np))
          rcases HG.out with ⟨hnil, rfl, rfl⟩ | ⟨g, rfl, gx, hp⟩
          · subst hnil
            have HI : Hid (InS (wc.drewN np).drew bp (.slice none 0 0) nsv nmv (wc.drewN np).drew (.slice none 0 0) 0 nsv nn nmv nn) := (H4.out.below (Below.refl _ _).drew).book.ins (xs := []) ⟨rfl, .inl ⟨rfl, rfl⟩⟩ (fun g e => by cases e)
            go_wp2
            go_region_with (first | (go_at_call 35; refine (ints35_any bp none 0 0 nsv nmv nn _ HI.out (by decide) HNN.out).mono ?_; rintro ev w4 ⟨rfl, lv', nsv', nmv', hs4⟩))
            have H5 := hide ((H4.out.below (Below.refl _ _).drew).intsN hs4)
            clear hs4
            go_wp2
            go_ret
            exact ⟨rfl, _, _, _, _, _, _, Nat.le_refl _, H5.out⟩
          · have hA := H1.out.apart (A := g) gx
            have hp4 : (wc.drewN np).drew.ownsRow 0 3 1 (.slice (some ⟨g, 0, none⟩) xs.length xc) xs.length (xs.map (Value.int .i64)) := ownsRow_below hp (below_drewN (Below.refl _ _) np).drew
            have HI : Hid (InS (wc.drewN np).drew bp (.slice (some ⟨g, 0, none⟩) xs.length xc) nsv nmv (wc.drewN np).drew (.slice (some ⟨g, 0, none⟩) xs.length xc) xs.length nsv nn nmv nn) := (H4.out.below (Below.refl _ _).drew).book.ins hp4 (fun g' e e2 => hA.nm (by rw [e2, ← e]; rfl))
            have HA := hide hA
            have hb8 : (xs.length + 4) * 8 ≤ 140737488355328 := by omega
            clear hA hp4 hp gx
            go_wp2
            go_region_with (first | (go_at_call 35; refine (ints35_any bp (some ⟨g, 0, none⟩) xs.length xc nsv nmv nn _ HI.out hb8 HNN.out).mono ?_; rintro ev w4 ⟨rfl, lv', nsv', nmv', hs4⟩))
            have H5 := hide ((H4.out.below (Below.refl _ _).drew).ints' HA.out hs4)
            clear hs4
            go_wp2
            go_ret
            exact ⟨rfl, _, _, _, _, _, _, Nat.le_refl _, H5.out⟩

theorem gets19_all (W0 w : World) (bp bb bs bm br : Nat) (dim cap : Int) (la : Option Addr) (lc : Nat) (nsv nmv : Value) (nn : Nat) (L : List Ent) (kd id kk be t0 t1 draw : Int) (pv fv : Value)
    (h : PairAt W0 w bp bb bs bm br dim cap la lc nsv nmv nn L L) (hid : I64 id) (hnn : (nn + 4) * 24 ≤ 140737488355328) :
    Calls Tryd.prog 19 #[.pointer (some ⟨bp, 0, none⟩), .agg #[.int .i64 kd, .int .i64 id, .int .i64 kk, .int .i64 be, pv, .int .i64 t0, .int .i64 t1, .int .u64 draw, fv]] w fun ev w' => ev = .returned (.bool true) ∧ StepOk W0 bp bb bs bm br dim cap nn w' := by
  cases he : findE id L with
  | none =>
    refine gets19_any W0 w bp bb bs bm br dim cap la lc nsv nmv nn L kd id kk be t0 t1 draw pv fv h hnn 0 0 0 0 5 [] none 0 (by simp) ?_ ?_ ?_
    · intro W hB
      refine (get14_no bb bs bm dim cap id L W hid hB he).mono ?_
      rintro ev w' ⟨rfl, hb⟩
      exact ⟨none, 0, rfl, .inl ⟨rfl, rfl, rfl⟩, hb⟩
    · exact fun W hR => get37_no br dim cap la lc L id W hR he
    · exact fun W hR => ⟨none, 0, rfl, by simp, by simp, .inl rfl⟩
  | some e =>
    have hm : e ∈ L := (findE_mem he).1
    have h8 : e.pt.length ≤ 8 := (h.base.map.pos e hm).2
    refine gets19_any W0 w bp bb bs bm br dim cap la lc nsv nmv nn L kd id kk be t0 t1 draw pv fv h hnn e.id e.t0 e.t1 e.draw 0 e.pt (some ⟨e.rb, 0, none⟩) e.rc h8 ?_ ?_ ?_
    · intro W hB
      refine (get14_yes bb bs bm dim cap id L e W hid hB he).mono ?_
      rintro ev w' ⟨g, gc, rfl, hg, hp, hb⟩
      exact ⟨_, _, rfl, .inr ⟨g, rfl, hg, hp⟩, hb⟩
    · exact fun W hR => get37_yes br dim cap la lc L id e W hR he
    · intro W hR
      have hp := hR.pts e hm
      exact ⟨_, _, rfl, ownsRow_len hp, by omega, .inr ⟨e.rb, 0, rfl, hp.cell⟩⟩
end Go.Proofs.YtgilnaheedmmfaaDoor
