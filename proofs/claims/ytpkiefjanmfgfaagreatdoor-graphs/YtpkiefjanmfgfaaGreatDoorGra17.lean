import Derived.Deep.DeepCutAuto
import Derived.Deep.RegionWith
import Derived.ProofKit
import Derived.OpenShut
import Derived.Deep.Slices
import Derived.SizedLaws
import Derived.Carry
import Derived.Test.YtpkiefjanmfgfaaGreatDoorGra16
namespace Go.Proofs.YtpkiefjanmfgfaaGreatDoor
open Go.RowKit Go.Maps

def GotL (s : Nat) (w : World) (xa : Option Addr) (xc : Nat) (xs : List Int) : Prop :=
  (xs = [] ∧ xa = none ∧ xc = 0) ∨ ∃ g, xa = some ⟨g, 0, none⟩ ∧ s ≤ g ∧ Pts w g xc xs
theorem GotL.kept {s A : Nat} {w w' : World} {xa : Option Addr} {xc : Nat} {xs : List Int} (h : GotL s w xa xc xs) (hk : Kept (fun k => k = A) w w') (hA : A < s) : GotL s w' xa xc xs := by
  rcases h with h | ⟨g, rfl, hg, hp⟩
  · exact .inl h
  · exact .inr ⟨g, rfl, hg, ownsRow_kept hp hk fun g' e => by
      obtain rfl : g = g' := by simpa [Value.ownBlock] using e
      omega⟩
theorem GotL.below {s : Nat} {w w' : World} {xa : Option Addr} {xc : Nat} {xs : List Int} (h : GotL s w xa xc xs) (hk : Below w.heap.size w w') : GotL s w' xa xc xs := by
  rcases h with h | ⟨g, rfl, hg, hp⟩
  · exact .inl h
  · exact .inr ⟨g, rfl, hg, ownsRow_below hp hk⟩
theorem GotL.mono {s t : Nat} {w : World} {xa : Option Addr} {xc : Nat} {xs : List Int} (h : GotL s w xa xc xs) (ht : t ≤ s) : GotL t w xa xc xs := by
  rcases h with h | ⟨g, rfl, hg, hp⟩
  · exact .inl h
  · exact .inr ⟨g, rfl, by omega, hp⟩

structure GetX (w1 wx : World) (i a b : Int) (xs : List Int) (xb : Nat) (xa : Option Addr) (xc : Nat) : Prop where
  old : Below w1.heap.size w1 wx
  lt : xb < wx.heap.size
  c0 : wx.cell? ⟨xb, 0, none⟩ = some (.int .i64 i)
  c1 : wx.cell? ⟨xb, 1, none⟩ = some (.slice xa xs.length xc)
  c2 : wx.cell? ⟨xb, 2, none⟩ = some (.int .i64 a)
  c3 : wx.cell? ⟨xb, 3, none⟩ = some (.int .i64 b)
  got : GotL w1.heap.size wx xa xc xs

theorem Kept.one {A : Nat} {w w' : World} (h : Kept (fun k => k = A) w w') (o : Nat) (u : Value) : Kept (fun k => k = A) w (w'.setCell ⟨A, o, none⟩ u) := h.setCell (p := ⟨A, o, none⟩) (fun _ => rfl) u

theorem GetX.late {w1 w2 : World} {i a b : Int} {xs : List Int} {xa : Option Addr} {xc : Nat} (hb : Below w1.heap.size w1 w2) (hg : GotL w1.heap.size w2 xa xc xs) :
    GetX w1 (w2.alloc (.cells #[.int .i64 i, .slice xa xs.length xc, .int .i64 a, .int .i64 b] 77)) i a b xs w2.heap.size xa xc :=
  ⟨hb.alloc hb.size _, by simp, by simp, by simp, by simp, by simp, hg.below ((Below.refl _ _).alloc (Nat.le_refl _) _)⟩
theorem GetX.early {w1 w2 : World} {o : Obj} {i a b : Int} {xs : List Int} {xa : Option Addr} {xc : Nat} {v0 v1 v2 v3 : Value} (hb1 : Below w1.heap.size w1 w2) (hb : Below (w1.alloc o).drew.heap.size (w1.alloc o).drew w2) (hg : GotL (w1.alloc o).drew.heap.size w2 xa xc xs)
    (n0 : w2.cell? ⟨w1.heap.size, 0, none⟩ = some v0) (n1 : w2.cell? ⟨w1.heap.size, 1, none⟩ = some v1) (n2 : w2.cell? ⟨w1.heap.size, 2, none⟩ = some v2) (n3 : w2.cell? ⟨w1.heap.size, 3, none⟩ = some v3) :
    GetX w1 ((((w2.setCell ⟨w1.heap.size, 0, none⟩ (.int .i64 i)).setCell ⟨w1.heap.size, 1, none⟩ (.slice xa xs.length xc)).setCell ⟨w1.heap.size, 2, none⟩ (.int .i64 a)).setCell ⟨w1.heap.size, 3, none⟩ (.int .i64 b)) i a b xs w1.heap.size xa xc := by
  have hz : w1.heap.size + 1 ≤ w2.heap.size := by have := hb.size; simp at this; omega
  have hk : Kept (fun k => k = w1.heap.size) w2 ((((w2.setCell ⟨w1.heap.size, 0, none⟩ (.int .i64 i)).setCell ⟨w1.heap.size, 1, none⟩ (.slice xa xs.length xc)).setCell ⟨w1.heap.size, 2, none⟩ (.int .i64 a)).setCell ⟨w1.heap.size, 3, none⟩ (.int .i64 b)) :=
    ((((Kept.refl _ _).one _ _).one _ _).one _ _).one _ _
  refine ⟨hb1.trans (hk.toBelow (by omega) (fun k e => by omega)), Nat.lt_of_lt_of_le (by omega) hk.size, ?_, ?_, ?_, ?_, (hg.kept hk (by simp)).mono (by simp)⟩
  · rw [World.cell?_setCell_other _ _ _ _ (by simp), World.cell?_setCell_other _ _ _ _ (by simp), World.cell?_setCell_other _ _ _ _ (by simp)]
    exact World.cell?_setCell_same _ _ _ n0
  · rw [World.cell?_setCell_other _ _ _ _ (by simp), World.cell?_setCell_other _ _ _ _ (by simp)]
    exact World.cell?_setCell_same _ _ _ ((World.cell?_setCell_other _ _ _ _ (by simp)).trans n1)
  · rw [World.cell?_setCell_other _ _ _ _ (by simp)]
    exact World.cell?_setCell_same _ _ _ ((World.cell?_setCell_other _ _ _ _ (by simp)).trans ((World.cell?_setCell_other _ _ _ _ (by simp)).trans n2))
  · exact World.cell?_setCell_same _ _ _ ((World.cell?_setCell_other _ _ _ _ (by simp)).trans ((World.cell?_setCell_other _ _ _ _ (by simp)).trans ((World.cell?_setCell_other _ _ _ _ (by simp)).trans n3)))

structure GetY (w1 wx : World) (i a b : Int) (n : Nat) (xb : Nat) (xa : Option Addr) (xc : Nat) : Prop where
  old : Below w1.heap.size w1 wx
  c0 : wx.cell? ⟨xb, 0, none⟩ = some (.int .i64 i)
  c1 : wx.cell? ⟨xb, 1, none⟩ = some (.slice xa n xc)
  c2 : wx.cell? ⟨xb, 2, none⟩ = some (.int .i64 a)
  c3 : wx.cell? ⟨xb, 3, none⟩ = some (.int .i64 b)
theorem GetY.late {w1 w2 : World} {i a b d : Int} {n : Nat} {xa : Option Addr} {xc : Nat} (hb : Below w1.heap.size w1 w2) :
    GetY w1 (w2.alloc (.cells #[.int .i64 i, .slice xa n xc, .int .i64 a, .int .i64 b, .int .u64 d] 135)) i a b n w2.heap.size xa xc :=
  ⟨hb.alloc hb.size _, by simp, by simp, by simp, by simp⟩
theorem GetY.early {w1 w2 : World} {i a b d : Int} {n : Nat} {xa : Option Addr} {xc : Nat} {v0 v1 v2 v3 : Value} (hb1 : Below w1.heap.size w1 w2)
    (n0 : w2.cell? ⟨w1.heap.size, 0, none⟩ = some v0) (n1 : w2.cell? ⟨w1.heap.size, 1, none⟩ = some v1) (n2 : w2.cell? ⟨w1.heap.size, 2, none⟩ = some v2) (n3 : w2.cell? ⟨w1.heap.size, 3, none⟩ = some v3) :
    GetY w1 (((((w2.setCell ⟨w1.heap.size, 0, none⟩ (.int .i64 i)).setCell ⟨w1.heap.size, 1, none⟩ (.slice xa n xc)).setCell ⟨w1.heap.size, 2, none⟩ (.int .i64 a)).setCell ⟨w1.heap.size, 3, none⟩ (.int .i64 b)).setCell ⟨w1.heap.size, 4, none⟩ (.int .u64 d)) i a b n w1.heap.size xa xc := by
  have hk : Kept (fun k => k = w1.heap.size) w2 (((((w2.setCell ⟨w1.heap.size, 0, none⟩ (.int .i64 i)).setCell ⟨w1.heap.size, 1, none⟩ (.slice xa n xc)).setCell ⟨w1.heap.size, 2, none⟩ (.int .i64 a)).setCell ⟨w1.heap.size, 3, none⟩ (.int .i64 b)).setCell ⟨w1.heap.size, 4, none⟩ (.int .u64 d)) :=
    (((((Kept.refl _ _).one _ _).one _ _).one _ _).one _ _).one _ _
  refine ⟨hb1.trans (hk.toBelow hb1.size (fun k e => by omega)), ?_, ?_, ?_, ?_⟩
  · rw [World.cell?_setCell_other _ _ _ _ (by simp), World.cell?_setCell_other _ _ _ _ (by simp), World.cell?_setCell_other _ _ _ _ (by simp), World.cell?_setCell_other _ _ _ _ (by simp)]
    exact World.cell?_setCell_same _ _ _ n0
  · rw [World.cell?_setCell_other _ _ _ _ (by simp), World.cell?_setCell_other _ _ _ _ (by simp), World.cell?_setCell_other _ _ _ _ (by simp)]
    exact World.cell?_setCell_same _ _ _ ((World.cell?_setCell_other _ _ _ _ (by simp)).trans n1)
  · rw [World.cell?_setCell_other _ _ _ _ (by simp), World.cell?_setCell_other _ _ _ _ (by simp)]
    exact World.cell?_setCell_same _ _ _ ((World.cell?_setCell_other _ _ _ _ (by simp)).trans ((World.cell?_setCell_other _ _ _ _ (by simp)).trans n2))
  · rw [World.cell?_setCell_other _ _ _ _ (by simp)]
    exact World.cell?_setCell_same _ _ _ ((World.cell?_setCell_other _ _ _ _ (by simp)).trans ((World.cell?_setCell_other _ _ _ _ (by simp)).trans ((World.cell?_setCell_other _ _ _ _ (by simp)).trans n3)))

set_option maxHeartbeats 2000000 in
set_option maxRecDepth 20000 in
theorem gets19_any (W0 w : World) (bp bb bs bm br : Nat) (cf : Cf) (gn : Net) (la : Option Addr) (lc : Nat) (nsv nmv : Value) (nn : Nat) (L : List Ent) (kd id kk be t0 t1 draw : Int) (pv fv : Value)
    (h : PairAt W0 w bp bb bs bm br cf gn la lc nsv nmv nn L L) (hlk : Lk gn nn) (hnn : (nn + 4) * 24 ≤ 140737488355328)
    (i a b d r : Int) (xs : List Int) (ya : Option Addr) (yc : Nat) (h8 : xs.length ≤ 8)
    (hget : ∀ W, BaseAt W bb bs bm cf gn L → Calls Tryz.prog 29 #[.pointer (some ⟨bb, 0, none⟩), .int .i64 id] W fun ev w' => ∃ xa xc, ev = .returned (.tuple #[.agg #[.int .i64 i, .slice xa xs.length xc, .int .i64 a, .int .i64 b], .int .i64 r]) ∧ GotL W.heap.size w' xa xc xs ∧ Below W.heap.size W w')
    (href : ∀ W, RefAt W br cf la lc L → Calls Tryz.prog 72 #[.pointer (some ⟨br, 0, none⟩), .int .i64 id] W fun ev w' => ev = .returned (.tuple #[.agg #[.int .i64 i, .slice ya xs.length yc, .int .i64 a, .int .i64 b, .int .u64 d], .int .i64 r]) ∧ Below W.heap.size W w')
    (hya : ∀ W, RefAt W br cf la lc L → IntsAt W (.slice ya xs.length yc) xs) :
    Calls Tryz.prog 36 #[.pointer (some ⟨bp, 0, none⟩), .agg #[.int .i64 kd, .int .i64 id, .int .i64 kk, .int .i64 be, pv, .int .i64 t0, .int .i64 t1, .int .u64 draw, fv]] w fun ev w' => ev = .returned (.bool true) ∧ StepOk W0 bp bb bs bm br cf nn w' := by
  have hpl := h.book.lt
  have H := hide h
  have HGET := hide hget
  have HREF := hide href
  have HYA := hide hya
  have HNN := hide hnn
  clear hnn h hget href hya
  go_enter Tryz.func36, Tryz.ntmps36
  go_upto_region 1 with fail
  obtain ⟨w1, hw1⟩ : ∃ w1, w1 = w.alloc (.cells #[.int .i64 kd, .int .i64 id, .int .i64 kk, .int .i64 be, pv, .int .i64 t0, .int .i64 t1, .int .u64 draw, fv] 49) := ⟨_, rfl⟩
  have h1 : PairAt W0 w1 bp bb bs bm br cf gn la lc nsv nmv nn L L := hw1 ▸ H.out.alloc _
  have ho1 : w1.cell? ⟨w.heap.size, 1, none⟩ = some (.int .i64 id) := by rw [hw1]; simp
  have hz1 : w1.heap.size = w.heap.size + 1 := by rw [hw1]; simp
  rw [← hw1]
  clear hw1
  have H1 := hide h1
  have hp0 := h1.p0
  clear h1
  have hS1 := And.intro hp0 ho1
  go_cut [5, 6] (fun xv ev wx => ∃ xb xa xc, xv = .pointer (some ⟨xb, 0, none⟩) ∧ ev = .int .i64 r ∧ GetX w1 wx i a b xs xb xa xc)
  case first =>
    have hn1 : bp < w1.heap.size := by omega
    have hn2 : w.heap.size < w1.heap.size := by omega
    have hn3 : w1.heap.size ≠ bp := by omega
    have hn4 : w1.heap.size ≠ w.heap.size := by omega
    clear hz1
    go_region_held3 (fun wx => wx.cell? ⟨bp, 0, none⟩ = some (.pointer (some ⟨bb, 0, none⟩)) ∧ wx.cell? ⟨w.heap.size, 1, none⟩ = some (.int .i64 id))
      (first | (with_reducible exact hS1) | (with_reducible exact hS2) | (refine ⟨?_, ?_⟩ <;> (first | rw [World.cell?_setCell_far _ _ _ _ hn3, World.cell?_setCell_far _ _ _ _ hn3, World.cell?_setCell_far _ _ _ _ hn3, World.cell?_setCell_far _ _ _ _ hn3] | rw [World.cell?_setCell_far _ _ _ _ hn4, World.cell?_setCell_far _ _ _ _ hn4, World.cell?_setCell_far _ _ _ _ hn4, World.cell?_setCell_far _ _ _ _ hn4]) <;> (first | with_reducible exact hS2.1 | with_reducible exact hS2.2)) | (refine ⟨(World.cell?_alloc_lt _ _ _ hm1).trans ?_, (World.cell?_alloc_lt _ _ _ hm2).trans ?_⟩ <;> (first | with_reducible exact hS2.1 | with_reducible exact hS2.2)) | (refine ⟨(World.cell?_alloc_lt _ _ _ hn1).trans ?_, (World.cell?_alloc_lt _ _ _ hn2).trans ?_⟩ <;> (first | with_reducible exact hp0 | with_reducible exact ho1)) | ((simp [hp0, ho1]; done)) | ((simp [World.cell?_alloc_past, hm1, hm2, hS2.1, hS2.2]; done)))
      (first
        | (go_at_call 29; refine (HGET.out w1.drew ?_).mono ?_; (exact H1.out.base.below (Below.refl _ _).drew); rintro ev2 w2 ⟨xa, xc, rfl, hg, hb2⟩; have hb1 : Below w1.heap.size w1 w2 := Below.trans (Below.refl _ _).drew (hb2.mono (by simp)); have hm1 : bp < w2.heap.size := Nat.lt_of_lt_of_le hn1 hb1.size; have hm2 : w.heap.size < w2.heap.size := Nat.lt_of_lt_of_le hn2 hb1.size; have hS2 := And.intro (Below.at hb1 hp0 hn1) (Below.at hb1 ho1 hn2); have HG := hide hg; clear hg; have HB1 := hide hb1; clear hb1; have HB2 := hide hb2; clear hb2)
        | (go_at_call 29; refine (HGET.out _ ?_).mono ?_; (exact H1.out.base.below (by repeat (first | exact Below.refl _ _ | refine Below.drew ?_ | refine Below.alloc ?_ (by simp) _))); rintro ev2 w2 ⟨xa, xc, rfl, hg, hb2⟩; have hb1 : Below w1.heap.size w1 w2 := Below.trans (by repeat (first | exact Below.refl _ _ | refine Below.drew ?_ | refine Below.alloc ?_ (by simp) _)) (hb2.mono (by simp)); have hm1 : bp < w2.heap.size := Nat.lt_of_lt_of_le hn1 hb1.size; have hm2 : w.heap.size < w2.heap.size := Nat.lt_of_lt_of_le hn2 hb1.size; have hS2 := And.intro (Below.at hb1 hp0 hn1) (Below.at hb1 ho1 hn2); have n0 : w2.cell? ⟨w1.heap.size, 0, none⟩ = some (.int .i64 0) := Below.at hb2 (by (simp; done)) (by (simp; done)); have n1 : w2.cell? ⟨w1.heap.size, 1, none⟩ = some (.slice none 0 0) := Below.at hb2 (by (simp; done)) (by (simp; done)); have n2 : w2.cell? ⟨w1.heap.size, 2, none⟩ = some (.int .i64 0) := Below.at hb2 (by (simp; done)) (by (simp; done)); have n3 : w2.cell? ⟨w1.heap.size, 3, none⟩ = some (.int .i64 0) := Below.at hb2 (by (simp; done)) (by (simp; done)); have fz : ∀ o, w2.frozen? ⟨w1.heap.size, o, none⟩ = false := fun o => (hb2.frozen (p := ⟨_, o, none⟩) (by (simp; done))).trans (by (simp; done)); have HG := hide hg; clear hg; have HB1 := hide hb1; clear hb1; have HB2 := hide hb2; clear hb2))
    all_goals go_wp2_with fail
    all_goals go_meet
    · exact ⟨_, _, _, rfl, rfl, GetX.late HB1.out HG.out⟩
    · exact ⟨_, _, _, rfl, rfl, GetX.early HB1.out HB2.out HG.out n0 n1 n2 n3⟩
  case rest =>
    obtain ⟨xb, xa, xc, rfl, rfl, hx⟩ := hcut
    have HX := hide hx
    have h2 := H1.out.below hx.old
    have hp1 := h2.p1
    have H2 := hide h2
    have ho2 : wc.cell? ⟨w.heap.size, 1, none⟩ = some (.int .i64 id) := Below.at hx.old ho1 (by omega)
    have hT1 := And.intro hp1 ho2
    clear h2 hS1 hp0 ho1
    go_upto_region 2 with fail
    go_cut [7, 8] (fun yv ev wx => ∃ yb, yv = .pointer (some ⟨yb, 0, none⟩) ∧ ev = .int .i64 r ∧ GetY wc wx i a b xs.length yb ya yc)
    case first =>
      have hn1 : bp < wc.heap.size := by have := hx.old.size; omega
      have hn2 : w.heap.size < wc.heap.size := by have := hx.old.size; omega
      have hn3 : wc.heap.size ≠ bp := by omega
      have hn4 : wc.heap.size ≠ w.heap.size := by omega
      clear hz1 hx
      go_region_held3 (fun wx => wx.cell? ⟨bp, 1, none⟩ = some (.pointer (some ⟨br, 0, none⟩)) ∧ wx.cell? ⟨w.heap.size, 1, none⟩ = some (.int .i64 id))
        (first | (with_reducible exact hT1) | (with_reducible exact hT2) | (refine ⟨?_, ?_⟩ <;> (first | rw [World.cell?_setCell_far _ _ _ _ hn3, World.cell?_setCell_far _ _ _ _ hn3, World.cell?_setCell_far _ _ _ _ hn3, World.cell?_setCell_far _ _ _ _ hn3, World.cell?_setCell_far _ _ _ _ hn3] | rw [World.cell?_setCell_far _ _ _ _ hn4, World.cell?_setCell_far _ _ _ _ hn4, World.cell?_setCell_far _ _ _ _ hn4, World.cell?_setCell_far _ _ _ _ hn4, World.cell?_setCell_far _ _ _ _ hn4]) <;> (first | with_reducible exact hT2.1 | with_reducible exact hT2.2)) | (refine ⟨(World.cell?_alloc_lt _ _ _ hm1).trans ?_, (World.cell?_alloc_lt _ _ _ hm2).trans ?_⟩ <;> (first | with_reducible exact hT2.1 | with_reducible exact hT2.2)) | (refine ⟨(World.cell?_alloc_lt _ _ _ hn1).trans ?_, (World.cell?_alloc_lt _ _ _ hn2).trans ?_⟩ <;> (first | with_reducible exact hp1 | with_reducible exact ho2)) | ((simp [hp1, ho2]; done)) | ((simp [World.cell?_alloc_past, hm1, hm2, hT2.1, hT2.2]; done)))
        (first
          | (go_at_call 72; refine (HREF.out wc.drew ?_).mono ?_; (exact H2.out.ref.below (Below.refl _ _).drew); rintro ev2 w3 ⟨rfl, hb2⟩; have hb1 : Below wc.heap.size wc w3 := Below.trans (Below.refl _ _).drew (hb2.mono (by simp)); have hm1 : bp < w3.heap.size := Nat.lt_of_lt_of_le hn1 hb1.size; have hm2 : w.heap.size < w3.heap.size := Nat.lt_of_lt_of_le hn2 hb1.size; have hT2 := And.intro (Below.at hb1 hp1 hn1) (Below.at hb1 ho2 hn2); have HB1 := hide hb1; clear hb1; have HB2 := hide hb2; clear hb2)
          | (go_at_call 72; refine (HREF.out _ ?_).mono ?_; (exact H2.out.ref.below (by repeat (first | exact Below.refl _ _ | refine Below.drew ?_ | refine Below.alloc ?_ (by simp) _))); rintro ev2 w3 ⟨rfl, hb2⟩; have hb1 : Below wc.heap.size wc w3 := Below.trans (by repeat (first | exact Below.refl _ _ | refine Below.drew ?_ | refine Below.alloc ?_ (by simp) _)) (hb2.mono (by simp)); have hm1 : bp < w3.heap.size := Nat.lt_of_lt_of_le hn1 hb1.size; have hm2 : w.heap.size < w3.heap.size := Nat.lt_of_lt_of_le hn2 hb1.size; have hT2 := And.intro (Below.at hb1 hp1 hn1) (Below.at hb1 ho2 hn2); have n0 : w3.cell? ⟨wc.heap.size, 0, none⟩ = some (.int .i64 0) := Below.at hb2 (by (simp; done)) (by (simp; done)); have n1 : w3.cell? ⟨wc.heap.size, 1, none⟩ = some (.slice none 0 0) := Below.at hb2 (by (simp; done)) (by (simp; done)); have n2 : w3.cell? ⟨wc.heap.size, 2, none⟩ = some (.int .i64 0) := Below.at hb2 (by (simp; done)) (by (simp; done)); have n3 : w3.cell? ⟨wc.heap.size, 3, none⟩ = some (.int .i64 0) := Below.at hb2 (by (simp; done)) (by (simp; done)); have n4 : w3.cell? ⟨wc.heap.size, 4, none⟩ = some (.int .u64 0) := Below.at hb2 (by (simp; done)) (by (simp; done)); have fz : ∀ o, w3.frozen? ⟨wc.heap.size, o, none⟩ = false := fun o => (hb2.frozen (p := ⟨_, o, none⟩) (by (simp; done))).trans (by (simp; done)); have HB1 := hide hb1; clear hb1; have HB2 := hide hb2; clear hb2))
      all_goals go_wp2_with fail
      all_goals go_meet
      · exact ⟨_, rfl, rfl, GetY.late HB1.out⟩
      · exact ⟨_, rfl, rfl, GetY.early HB1.out n0 n1 n2 n3⟩
    case rest =>
      obtain ⟨yb, rfl, rfl, hy⟩ := hcut
      have x0 := Below.at hy.old hx.c0 hx.lt
      have x1 := Below.at hy.old hx.c1 hx.lt
      have x2 := Below.at hy.old hx.c2 hx.lt
      have x3 := Below.at hy.old hx.c3 hx.lt
      have y0 := hy.c0
      have y1 := hy.c1
      have y2 := hy.c2
      have y3 := hy.c3
      have H3 := hide (H2.out.below hy.old)
      have HG := hide (hx.got.below hy.old)
      clear hx hy hp1 ho2 hT1
      have HY := hide (HYA.out _ H3.out.ref)
      go_wp2
      go_loopw [9, 10] (fun ok iv wr => ∃ (k np : Nat), k ≤ xs.length ∧ iv = .int .i64 k ∧ ok = .bool true ∧ wr = wc.drewN np) (fun _ iv _ => xs.length - (intOf iv).toNat)
      case atStart => exact ⟨0, 0, Nat.zero_le _, rfl, rfl, rfl⟩
      case round =>
        obtain ⟨k, np, hk, rfl, rfl, rfl⟩ := hrel
        by_cases hlt : k < xs.length
        · obtain ⟨g, rfl, gx, hp⟩ : ∃ g, xa = some ⟨g, 0, none⟩ ∧ Hid (w1.heap.size ≤ g) ∧ Hid (Pts wc g xc xs) := by
            rcases HG.out with ⟨rfl, _⟩ | ⟨g, e, h1, h2⟩
            · simp at hlt
            · exact ⟨g, e, h1, h2⟩
          obtain ⟨yg, yo, rfl, hyc⟩ : ∃ yg yo, ya = some ⟨yg, yo, none⟩ ∧ wc.cell? ⟨yg, yo + k, none⟩ = some (.int .i64 (xs.getD k 0)) := by
            obtain ⟨a', c', e', _, _, hx⟩ := HY.out
            simp only [Value.slice.injEq] at e'
            obtain ⟨rfl, _, rfl⟩ := e'
            rcases hx with rfl | ⟨b, off, rfl, hc⟩
            · simp at hlt
            · exact ⟨b, off, rfl, hc k hlt⟩
          have hxc : wc.cell? ⟨g, k, none⟩ = some (.int .i64 (xs.getD k 0)) := hp.out.at hlt
          generalize xs.getD k 0 = x at *
          go_wp2
          go_quiet (fail)
          go_wp2
          refine ⟨⟨k + 1, np + nq, by omega, by go_num, rfl, ?_⟩, by simp [intOf]; omega⟩
          rfl
        · obtain rfl : k = xs.length := by omega
          have H4 := hide (H3.out.below (below_drewN (Below.refl _ _) np))
          rcases HG.out with ⟨hnil, rfl, rfl⟩ | ⟨g, rfl, gx, hp⟩
          · subst hnil
            have HI : Hid (InS (wc.drewN np).drew bp (.slice none 0 0) nsv nmv (wc.drewN np).drew (.slice none 0 0) 0 nsv nn nmv nn) := (H4.out.below (Below.refl _ _).drew).book.ins (xs := []) ⟨rfl, .inl ⟨rfl, rfl⟩⟩ (fun g e => by cases e)
            go_wp2
            go_region_with (first | (go_at_call 70; refine (ints35_any bp none 0 0 nsv nmv nn _ HI.out (by decide) HNN.out).mono ?_; rintro ev w4 ⟨rfl, lv', nsv', nmv', hs4⟩))
            have H5 := hide ((H4.out.below (Below.refl _ _).drew).intsN hs4)
            clear hs4
            go_wp2
            go_ret
            exact ⟨rfl, _, _, _, _, _, _, _, Nat.le_refl _, H5.out, hlk.mono (Nat.le_add_right _ _)⟩
          · have hA := H1.out.apart (A := g) gx
            have hp4 : (wc.drewN np).drew.ownsRow 0 3 1 (.slice (some ⟨g, 0, none⟩) xs.length xc) xs.length (xs.map (Value.int .i64)) := ownsRow_below hp (below_drewN (Below.refl _ _) np).drew
            have HI : Hid (InS (wc.drewN np).drew bp (.slice (some ⟨g, 0, none⟩) xs.length xc) nsv nmv (wc.drewN np).drew (.slice (some ⟨g, 0, none⟩) xs.length xc) xs.length nsv nn nmv nn) := (H4.out.below (Below.refl _ _).drew).book.ins hp4 (fun g' e e2 => hA.nm (by rw [e2, ← e]; rfl))
            have HA := hide hA
            have hb8 : (xs.length + 4) * 8 ≤ 140737488355328 := by omega
            clear hA hp4 hp gx
            go_wp2
            go_region_with (first | (go_at_call 70; refine (ints35_any bp (some ⟨g, 0, none⟩) xs.length xc nsv nmv nn _ HI.out hb8 HNN.out).mono ?_; rintro ev w4 ⟨rfl, lv', nsv', nmv', hs4⟩))
            have H5 := hide ((H4.out.below (Below.refl _ _).drew).ints' HA.out hs4)
            clear hs4
            go_wp2
            go_ret
            exact ⟨rfl, _, _, _, _, _, _, _, Nat.le_refl _, H5.out, hlk.mono (Nat.le_add_right _ _)⟩

theorem gets19_all (W0 w : World) (bp bb bs bm br : Nat) (cf : Cf) (gn : Net) (la : Option Addr) (lc : Nat) (nsv nmv : Value) (nn : Nat) (L : List Ent) (kd id kk be t0 t1 draw : Int) (pv fv : Value)
    (h : PairAt W0 w bp bb bs bm br cf gn la lc nsv nmv nn L L) (hlk : Lk gn nn) (hid : I64 id) (hnn : (nn + 4) * 24 ≤ 140737488355328) :
    Calls Tryz.prog 36 #[.pointer (some ⟨bp, 0, none⟩), .agg #[.int .i64 kd, .int .i64 id, .int .i64 kk, .int .i64 be, pv, .int .i64 t0, .int .i64 t1, .int .u64 draw, fv]] w fun ev w' => ev = .returned (.bool true) ∧ StepOk W0 bp bb bs bm br cf nn w' := by
  cases he : findE id L with
  | none =>
    refine gets19_any W0 w bp bb bs bm br cf gn la lc nsv nmv nn L kd id kk be t0 t1 draw pv fv h hlk hnn 0 0 0 0 5 [] none 0 (by simp) ?_ ?_ ?_
    · intro W hB
      refine (get14_no bb bs bm cf gn id L W hid hB he).mono ?_
      rintro ev w' ⟨rfl, hb⟩
      exact ⟨none, 0, rfl, .inl ⟨rfl, rfl, rfl⟩, hb⟩
    · exact fun W hR => get37_no br cf la lc L id W hR he
    · exact fun W hR => ⟨none, 0, rfl, by simp, by simp, .inl rfl⟩
  | some e =>
    have hm : e ∈ L := (findE_mem he).1
    have h8 : e.pt.length ≤ 8 := (h.base.map.pos e hm).2
    refine gets19_any W0 w bp bb bs bm br cf gn la lc nsv nmv nn L kd id kk be t0 t1 draw pv fv h hlk hnn e.id e.t0 e.t1 e.draw 0 e.pt (some ⟨e.rb, 0, none⟩) e.rc h8 ?_ ?_ ?_
    · intro W hB
      refine (get14_yes bb bs bm cf gn id L e W hid hB he).mono ?_
      rintro ev w' ⟨g, gc, rfl, hg, hp, hb⟩
      exact ⟨_, _, rfl, .inr ⟨g, rfl, hg, hp⟩, hb⟩
    · exact fun W hR => get37_yes br cf la lc L id e W hR he
    · intro W hR
      have hp := hR.pts e hm
      exact ⟨_, _, rfl, ownsRow_len hp, by omega, .inr ⟨e.rb, 0, rfl, hp.cell⟩⟩
end Go.Proofs.YtpkiefjanmfgfaaGreatDoor
namespace Go.Proofs.YtpkiefjanmfgfaaGreatDoor
open Go.RowKit Go.Maps

section
variable {W0 w w1 w2 : World} {bp bb bs bm br X : Nat} {cf : Cf} {gn gn' : Net} {id : Int} {la : Option Addr} {lc : Nat} {nsv nmv : Value} {nn : Nat} {L : List Ent} {cs : Array Value}
theorem del_base (h : PairAt W0 w bp bb bs bm br cf gn la lc nsv nmv nn L L) (hX : w.heap[X]? = some (.cells cs 49 (0, 0))) (hk : Kept (fun k => k = bm ∨ gn.F k) w.drew w1) (hB : BaseAt w1 bb bs bm cf gn' (delE id L)) (hf : ∀ k, gn'.F k → gn.F k ∨ w.drew.heap.size ≤ k) (hXF : ¬ gn.F X) (hlk : gn.like gn') :
    PairAt W0 w1 bp bb bs bm br cf gn' la lc nsv nmv nn (delE id L) L ∧ w1.heap[X]? = some (.cells cs 49 (0, 0)) := by
  have hk' : Kept (fun k => k = bm ∨ gn.F k) w w1 := (Kept.refl _ w).drew.trans hk (fun _ _ h => h)
  obtain ⟨p0, p1, p2, p3, p4, p5, bk, rf, tb, ts, old, hx⟩ := h.turned hk'
  obtain ⟨l1, l2, l3, l4, l5⟩ := hlk
  refine ⟨⟨p0, p1, l3 ▸ p2, l3 ▸ p3, (by rw [l4]; exact p4), (by rw [l5]; exact p5), bk, hB, rf, tb, ts, ⟨fun e he e1 => ?_, h.am.2⟩, old, h.pos, h.lbp, h.lbb, h.lbm, h.lbr, h.lla, h.lns, h.lnm, h.pfNew hf, l2 ▸ hx, fun k hk => ?_, ?_⟩, (hk'.block X (Array.getElem?_eq_some_iff.1 hX).1 (fun e => e.elim (h.base.map.mb_ne hX) hXF)).trans hX⟩
  · exact h.am.1 e (mem_delE he) e1
  · rw [l2] at hk
    have q := h.xa k hk
    have hlt := h.x.lt hk
    exact ⟨q.old, q.p, q.b, q.s, q.m, q.r, q.ns, q.nm, q.l, fun e he => q.mb e (mem_delE he), q.rb, fun e => (hf k e).elim q.f (fun e => by have : w.heap.size ≤ k := e; omega)⟩
  · rw [l2]; exact h.xn
theorem del_ref {la' : Option Addr} {lc' : Nat} (h : PairAt W0 w bp bb bs bm br cf gn la lc nsv nmv nn (delE id L) L) (hX : w.heap[X]? = some (.cells cs 49 (0, 0))) (hR : RefAt w1 br cf la' lc' (delE id L)) (hl : ∀ g, (Value.slice la' (delE id L).length lc').ownBlock = some g → w.drew.heap.size ≤ g) (hk : Kept (fun k => k = br) w.drew w1) :
    PairAt W0 w1 bp bb bs bm br cf gn la' lc' nsv nmv nn (delE id L) (delE id L) ∧ w1.heap[X]? = some (.cells cs 49 (0, 0)) := by
  have hk' : Kept (fun k => k = br) w w1 := (Kept.refl _ w).drew.trans hk (fun _ _ h => h)
  obtain ⟨cr, hcr⟩ := h.ref.typ
  refine ⟨h.refTurned (hk'.mono fun k _ e => .inl e) hR (fun g hg => Nat.le_trans h.old.size (hl g hg)) (fun e he => h.am.2 e (mem_delE he)) (fun k hf => ⟨fun e => (by have h1 := (h.base.foot k hf).1; have h2 : w.heap.size ≤ k := hl k e; omega), fun e he => (h.pf k hf).2.2.2.2.2.2 e (mem_delE he)⟩) (fun k hlt hx => ⟨fun e => (by have h2 : w.heap.size ≤ k := hl k e; omega), fun e he => (h.xa k hx).rb e (mem_delE he)⟩), (hk'.block X (Array.getElem?_eq_some_iff.1 hX).1 (ne_of_elem hX hcr (by decide))).trans hX⟩
end

set_option maxHeartbeats 2000000 in
set_option maxRecDepth 20000 in
theorem step10_put (W0 w : World) (bp bb bs bm br : Nat) (cf : Cf) (gn : Net) (la : Option Addr) (lc : Nat) (nsv nmv : Value) (nn : Nat) (L : List Ent) (id kk be t0 t1 draw : Int) (xs : List Int) (pa : Option Addr) (pc : Nat) (fa : Option Addr) (fn fc : Nat)
    (h : PairAt W0 w bp bb bs bm br cf gn la lc nsv nmv nn L L) (hlk : Lk gn nn) (hv : IntsAt W0 (.slice pa xs.length pc) xs) (hid : I64 id) (hn : (xs.length + 6) * 8 ≤ 140737488355328) (hnn : (nn + 4) * 24 ≤ 140737488355328) (hdr : 0 ≤ draw ∧ draw < 18446744073709551616) :
    Calls Tryz.prog 15 #[.pointer (some ⟨bp, 0, none⟩), .agg #[.int .i64 1, .int .i64 id, .int .i64 kk, .int .i64 be, .slice pa xs.length pc, .int .i64 t0, .int .i64 t1, .int .u64 draw, .slice fa fn fc]] w fun ev w' => ev = .returned (.bool true) ∧ StepOk W0 bp bb bs bm br cf nn w' := by
  have H := hide h
  have HV := hide hv
  have HN := hide hn
  have HNN := hide hnn
  clear h hv hn hnn
  go_enter Tryz.func15, Tryz.ntmps15
  go_wp2_with fail
  refine (puts18_any W0 _ bp bb bs bm br cf gn la lc nsv nmv nn L 1 id kk be t0 t1 draw xs pa pc _ ⟨_, _, _, rfl⟩ (H.out.alloc _) hlk HV.out hid HN.out HNN.out hdr).mono ?_
  rintro ev w1 ⟨rfl, hs⟩
  go_wp2
  go_ret
  exact ⟨rfl, hs⟩

set_option maxHeartbeats 2000000 in
set_option maxRecDepth 20000 in
theorem step10_get (W0 w : World) (bp bb bs bm br : Nat) (cf : Cf) (gn : Net) (la : Option Addr) (lc : Nat) (nsv nmv : Value) (nn : Nat) (L : List Ent) (id kk be t0 t1 draw : Int) (pn : Nat) (pa : Option Addr) (pc : Nat) (fa : Option Addr) (fn fc : Nat)
    (h : PairAt W0 w bp bb bs bm br cf gn la lc nsv nmv nn L L) (hlk : Lk gn nn) (hid : I64 id) (hnn : (nn + 4) * 24 ≤ 140737488355328) :
    Calls Tryz.prog 15 #[.pointer (some ⟨bp, 0, none⟩), .agg #[.int .i64 2, .int .i64 id, .int .i64 kk, .int .i64 be, .slice pa pn pc, .int .i64 t0, .int .i64 t1, .int .u64 draw, .slice fa fn fc]] w fun ev w' => ev = .returned (.bool true) ∧ StepOk W0 bp bb bs bm br cf nn w' := by
  have H := hide h
  have HNN := hide hnn
  clear h hnn
  go_enter Tryz.func15, Tryz.ntmps15
  go_wp2_with fail
  refine (gets19_all W0 _ bp bb bs bm br cf gn la lc nsv nmv nn L 2 id kk be t0 t1 draw _ _ (H.out.alloc _) hlk hid HNN.out).mono ?_
  rintro ev w1 ⟨rfl, hs⟩
  go_wp2
  go_ret
  exact ⟨rfl, hs⟩

set_option maxHeartbeats 2000000 in
set_option maxRecDepth 20000 in
theorem step10_count (W0 w : World) (bp bb bs bm br : Nat) (cf : Cf) (gn : Net) (la : Option Addr) (lc : Nat) (nsv nmv : Value) (nn : Nat) (L : List Ent) (id kk be t0 t1 draw : Int) (pn : Nat) (pa : Option Addr) (pc : Nat) (fa : Option Addr) (fn fc : Nat)
    (h : PairAt W0 w bp bb bs bm br cf gn la lc nsv nmv nn L L) (hlk : Lk gn nn) :
    Calls Tryz.prog 15 #[.pointer (some ⟨bp, 0, none⟩), .agg #[.int .i64 4, .int .i64 id, .int .i64 kk, .int .i64 be, .slice pa pn pc, .int .i64 t0, .int .i64 t1, .int .u64 draw, .slice fa fn fc]] w fun ev w' => ev = .returned (.bool true) ∧ StepOk W0 bp bb bs bm br cf nn w' := by
  have H := hide h
  have hp0 := h.p0
  have hp1 := h.p1
  have hr6 := h.ref.r6
  have hbp := h.book.lt
  have hbr := h.ref.lt
  clear h
  go_enter Tryz.func15, Tryz.ntmps15
  go_wp2_with fail
  refine (count15_any bb bs bm cf gn L _ (H.out.alloc _).base).mono ?_
  rintro ev w1 ⟨rfl, rfl⟩
  go_wp2
  go_ret
  exact ⟨rfl, _, _, _, _, _, _, _, Nat.le_add_right _ _, H.out.alloc _, hlk⟩

set_option maxHeartbeats 2000000 in
set_option maxRecDepth 20000 in
theorem step10_else (W0 w : World) (bp bb bs bm br : Nat) (cf : Cf) (gn : Net) (la : Option Addr) (lc : Nat) (nsv nmv : Value) (nn : Nat) (L : List Ent) (kd id kk be t0 t1 draw : Int) (pn : Nat) (pa : Option Addr) (pc : Nat) (fa : Option Addr) (fn fc : Nat)
    (h : PairAt W0 w bp bb bs bm br cf gn la lc nsv nmv nn L L) (hlk : Lk gn nn) (b1 : (kd == 1) = false) (b2 : (kd == 2) = false) (b3 : (kd == 3) = false) (b4 : (kd == 4) = false) (b5 : (kd == 5) = false) (b6 : (kd == 6) = false) (b7 : (kd == 7) = false) :
    Calls Tryz.prog 15 #[.pointer (some ⟨bp, 0, none⟩), .agg #[.int .i64 kd, .int .i64 id, .int .i64 kk, .int .i64 be, .slice pa pn pc, .int .i64 t0, .int .i64 t1, .int .u64 draw, .slice fa fn fc]] w fun ev w' => ev = .returned (.bool true) ∧ StepOk W0 bp bb bs bm br cf nn w' := by
  have H := hide h
  clear h
  go_enter Tryz.func15, Tryz.ntmps15
  go_wp2
  go_ret
  exact ⟨rfl, _, _, _, _, _, _, _, Nat.le_add_right _ _, H.out.alloc _, hlk⟩
end Go.Proofs.YtpkiefjanmfgfaaGreatDoor
namespace Go.Proofs.YtpkiefjanmfgfaaGreatDoor
open Go.RowKit Go.Maps

set_option maxHeartbeats 2000000 in
set_option maxRecDepth 20000 in
theorem step10_delY (W0 w : World) (bp bb bs bm br : Nat) (cf : Cf) (gn : Net) (la : Option Addr) (lc : Nat) (nsv nmv : Value) (nn : Nat) (L : List Ent) (id kk be t0 t1 draw : Int) (pn : Nat) (pa : Option Addr) (pc : Nat) (fa : Option Addr) (fn fc : Nat) (e : Ent)
    (h : PairAt W0 w bp bb bs bm br cf gn la lc nsv nmv nn L L) (hlk : Lk gn nn) (hid : I64 id) (he : findE id L = some e) :
    Calls Tryz.prog 15 #[.pointer (some ⟨bp, 0, none⟩), .agg #[.int .i64 3, .int .i64 id, .int .i64 kk, .int .i64 be, .slice pa pn pc, .int .i64 t0, .int .i64 t1, .int .u64 draw, .slice fa fn fc]] w fun ev w' => ev = .returned (.bool true) ∧ StepOk W0 bp bb bs bm br cf nn w' := by
  have H := hide h
  have HE := hide he
  have HXF : Hid (¬ gn.F w.heap.size) := (h.apart (Nat.le_refl _)).f
  clear h he
  go_enter Tryz.func15, Tryz.ntmps15
  go_upto_region 7 with fail
  obtain ⟨w1, hw1⟩ : ∃ w1, w1 = w.alloc (.cells #[.int .i64 3, .int .i64 id, .int .i64 kk, .int .i64 be, .slice pa pn pc, .int .i64 t0, .int .i64 t1, .int .u64 draw, .slice fa fn fc] 49) := ⟨_, rfl⟩
  have h1 : PairAt W0 w1 bp bb bs bm br cf gn la lc nsv nmv nn L L := hw1 ▸ H.out.alloc _
  have hX1 : w1.heap[w.heap.size]? = some (.cells #[.int .i64 3, .int .i64 id, .int .i64 kk, .int .i64 be, .slice pa pn pc, .int .i64 t0, .int .i64 t1, .int .u64 draw, .slice fa fn fc] 49 (0, 0)) := by rw [hw1]; exact heap_alloc_new w _
  rw [← hw1]
  clear hw1
  have H1 := hide h1
  have HX1 := hide hX1
  have hS1 := opS hX1 h1.p0
  clear h1 hX1
  go_region_held3 (fun wx => wx.cell? ⟨bp, 0, none⟩ = some (.pointer (some ⟨bb, 0, none⟩)) ∧ wx.cell? ⟨w.heap.size, 1, none⟩ = some (.int .i64 id) ∧ wx.cell? ⟨w.heap.size, 4, none⟩ = some (.slice pa pn pc) ∧ wx.cell? ⟨w.heap.size, 5, none⟩ = some (.int .i64 t0) ∧ wx.cell? ⟨w.heap.size, 6, none⟩ = some (.int .i64 t1) ∧ wx.cell? ⟨w.heap.size, 7, none⟩ = some (.int .u64 draw))
    (first | (with_reducible exact hS1) | (with_reducible exact hS2) | (exact hS1))
    (first
      | (go_at_call 24; refine (delete16_yes bb bs bm cf gn id L e _ hid ?_ HE.out).mono ?_; (exact H1.out.base.below (Below.refl _ _).drew); rintro ev2 w2 ⟨rfl, gn', hB2, hk2, hf2, hlk2⟩; obtain ⟨h2, hX2⟩ := del_base H1.out HX1.out hk2 hB2 hf2 HXF.out hlk2; have hS2 := opS hX2 h2.p0))
  have H2 := hide h2
  have HX2 := hide hX2
  have hT1 := opS hX2 h2.p1
  clear h2 hX2 hB2 hk2 hf2 hS1 hS2
  go_upto_region 8 with fail
  go_region_held3 (fun wx => wx.cell? ⟨bp, 1, none⟩ = some (.pointer (some ⟨br, 0, none⟩)) ∧ wx.cell? ⟨w.heap.size, 1, none⟩ = some (.int .i64 id) ∧ wx.cell? ⟨w.heap.size, 4, none⟩ = some (.slice pa pn pc) ∧ wx.cell? ⟨w.heap.size, 5, none⟩ = some (.int .i64 t0) ∧ wx.cell? ⟨w.heap.size, 6, none⟩ = some (.int .i64 t1) ∧ wx.cell? ⟨w.heap.size, 7, none⟩ = some (.int .u64 draw))
    (first | (with_reducible exact hT1) | (with_reducible exact hT2) | (exact hT1))
    (first
      | (go_at_call 37; refine (delete20_yes br cf la lc L id e _ ?_ HE.out).mono ?_; (exact H2.out.ref.below (Below.refl _ _).drew); rintro ev3 w3 ⟨rfl, la3, lc3, hR3, hl3, hk3⟩; obtain ⟨h3, hX3⟩ := del_ref H2.out HX2.out hR3 hl3 hk3; have hT2 := opS hX3 h3.p1))
  have H3 := hide h3
  obtain ⟨⟨y5, hye⟩, hy5⟩ := h3.p5
  have hfz := h3.book.frozen
  simp only at hy5
  have HYE := hide hye
  clear hye h3 hX3 hR3 hl3 hk3 hT1 hT2
  cases y5
  · go_wp2
    go_ret
    exact ⟨rfl, _, _, _, _, _, _, _, Nat.le_add_right _ _, H3.out.field5 false, hlk.gone hlk2⟩
  · go_wp2
    go_ret
    exact ⟨rfl, _, _, _, _, _, _, _, Nat.le_add_right _ _, H3.out.field5 false, hlk.gone hlk2⟩

set_option maxHeartbeats 2000000 in
set_option maxRecDepth 20000 in
theorem step10_delN (W0 w : World) (bp bb bs bm br : Nat) (cf : Cf) (gn : Net) (la : Option Addr) (lc : Nat) (nsv nmv : Value) (nn : Nat) (L : List Ent) (id kk be t0 t1 draw : Int) (pn : Nat) (pa : Option Addr) (pc : Nat) (fa : Option Addr) (fn fc : Nat)
    (h : PairAt W0 w bp bb bs bm br cf gn la lc nsv nmv nn L L) (hlk : Lk gn nn) (hid : I64 id) (he : findE id L = none) :
    Calls Tryz.prog 15 #[.pointer (some ⟨bp, 0, none⟩), .agg #[.int .i64 3, .int .i64 id, .int .i64 kk, .int .i64 be, .slice pa pn pc, .int .i64 t0, .int .i64 t1, .int .u64 draw, .slice fa fn fc]] w fun ev w' => ev = .returned (.bool true) ∧ StepOk W0 bp bb bs bm br cf nn w' := by
  have H := hide h
  have HE := hide he
  clear h he
  go_enter Tryz.func15, Tryz.ntmps15
  go_upto_region 7 with fail
  obtain ⟨w1, hw1⟩ : ∃ w1, w1 = w.alloc (.cells #[.int .i64 3, .int .i64 id, .int .i64 kk, .int .i64 be, .slice pa pn pc, .int .i64 t0, .int .i64 t1, .int .u64 draw, .slice fa fn fc] 49) := ⟨_, rfl⟩
  have h1 : PairAt W0 w1 bp bb bs bm br cf gn la lc nsv nmv nn L L := hw1 ▸ H.out.alloc _
  have hX1 : w1.heap[w.heap.size]? = some (.cells #[.int .i64 3, .int .i64 id, .int .i64 kk, .int .i64 be, .slice pa pn pc, .int .i64 t0, .int .i64 t1, .int .u64 draw, .slice fa fn fc] 49 (0, 0)) := by rw [hw1]; exact heap_alloc_new w _
  rw [← hw1]
  clear hw1
  have H1 := hide h1
  have HX1 := hide hX1
  have hS1 := opS hX1 h1.p0
  clear h1 hX1
  go_region_held3 (fun wx => wx.cell? ⟨bp, 0, none⟩ = some (.pointer (some ⟨bb, 0, none⟩)) ∧ wx.cell? ⟨w.heap.size, 1, none⟩ = some (.int .i64 id) ∧ wx.cell? ⟨w.heap.size, 4, none⟩ = some (.slice pa pn pc) ∧ wx.cell? ⟨w.heap.size, 5, none⟩ = some (.int .i64 t0) ∧ wx.cell? ⟨w.heap.size, 6, none⟩ = some (.int .i64 t1) ∧ wx.cell? ⟨w.heap.size, 7, none⟩ = some (.int .u64 draw))
    (first | (with_reducible exact hS1) | (with_reducible exact hS2) | (exact hS1))
    (first
      | (go_at_call 24; refine (delete16_no bb bs bm cf gn id L _ hid ?_ HE.out).mono ?_; (exact H1.out.base.below (Below.refl _ _).drew); rintro ev2 w2 ⟨rfl, hb2⟩; have hb2 := Below.undrew hb2; have h2 := H1.out.below hb2; have hX2 := (hb2.block _ (Array.getElem?_eq_some_iff.1 HX1.out).1).trans HX1.out; have hS2 := opS hX2 h2.p0))
  have H2 := hide h2
  have HX2 := hide hX2
  have hT1 := opS hX2 h2.p1
  clear h2 hX2 hb2 hS1 hS2
  go_upto_region 8 with fail
  go_region_held3 (fun wx => wx.cell? ⟨bp, 1, none⟩ = some (.pointer (some ⟨br, 0, none⟩)) ∧ wx.cell? ⟨w.heap.size, 1, none⟩ = some (.int .i64 id) ∧ wx.cell? ⟨w.heap.size, 4, none⟩ = some (.slice pa pn pc) ∧ wx.cell? ⟨w.heap.size, 5, none⟩ = some (.int .i64 t0) ∧ wx.cell? ⟨w.heap.size, 6, none⟩ = some (.int .i64 t1) ∧ wx.cell? ⟨w.heap.size, 7, none⟩ = some (.int .u64 draw))
    (first | (with_reducible exact hT1) | (with_reducible exact hT2) | (exact hT1))
    (first
      | (go_at_call 37; refine (delete20_no br cf la lc L id _ ?_ HE.out).mono ?_; (exact H2.out.ref.below (Below.refl _ _).drew); rintro ev3 w3 ⟨rfl, hb3⟩; have hb3 := Below.undrew hb3; have h3 := H2.out.below hb3; have hX3 := (hb3.block _ (Array.getElem?_eq_some_iff.1 HX2.out).1).trans HX2.out; have hT2 := opS hX3 h3.p1))
  have H3 := hide h3
  obtain ⟨⟨y5, hye⟩, hy5⟩ := h3.p5
  have hfz := h3.book.frozen
  simp only at hy5
  have HYE := hide hye
  clear hye h3 hX3 hb3 hT1 hT2
  cases y5
  · go_wp2
    go_ret
    exact ⟨rfl, _, _, _, _, _, _, _, Nat.le_add_right _ _, H3.out.field5 false, by rw [Net.pt_eq HYE.out]; exact hlk⟩
  · go_wp2
    go_ret
    exact ⟨rfl, _, _, _, _, _, _, _, Nat.le_add_right _ _, H3.out.field5 true, by rw [Net.pt_eq HYE.out]; exact hlk⟩

theorem step10_any (W0 w : World) (bp bb bs bm br : Nat) (cf : Cf) (gn : Net) (la : Option Addr) (lc : Nat) (nsv nmv : Value) (nn : Nat) (L : List Ent) (kd id kk be t0 t1 draw : Int) (xs : List Int) (pa : Option Addr) (pc : Nat) (fa : Option Addr) (fn fc : Nat)
    (h : PairAt W0 w bp bb bs bm br cf gn la lc nsv nmv nn L L) (hlk : Lk gn nn) (hv : IntsAt W0 (.slice pa xs.length pc) xs) (hid : I64 id) (hn : (xs.length + 6) * 8 ≤ 140737488355328) (hnn : (nn + 4) * 24 ≤ 140737488355328) (hdr : 0 ≤ draw ∧ draw < 18446744073709551616) (hkd : kd ≤ 4) :
    Calls Tryz.prog 15 #[.pointer (some ⟨bp, 0, none⟩), .agg #[.int .i64 kd, .int .i64 id, .int .i64 kk, .int .i64 be, .slice pa xs.length pc, .int .i64 t0, .int .i64 t1, .int .u64 draw, .slice fa fn fc]] w fun ev w' => ev = .returned (.bool true) ∧ StepOk W0 bp bb bs bm br cf nn w' := by
  by_cases h1 : kd = 1
  · subst h1; exact step10_put W0 w bp bb bs bm br cf gn la lc nsv nmv nn L id kk be t0 t1 draw xs pa pc fa fn fc h hlk hv hid hn hnn hdr
  by_cases h2 : kd = 2
  · subst h2; exact step10_get W0 w bp bb bs bm br cf gn la lc nsv nmv nn L id kk be t0 t1 draw xs.length pa pc fa fn fc h hlk hid hnn
  by_cases h3 : kd = 3
  · subst h3
    cases he : findE id L with
    | none => exact step10_delN W0 w bp bb bs bm br cf gn la lc nsv nmv nn L id kk be t0 t1 draw xs.length pa pc fa fn fc h hlk hid he
    | some e => exact step10_delY W0 w bp bb bs bm br cf gn la lc nsv nmv nn L id kk be t0 t1 draw xs.length pa pc fa fn fc e h hlk hid he
  by_cases h4 : kd = 4
  · subst h4; exact step10_count W0 w bp bb bs bm br cf gn la lc nsv nmv nn L id kk be t0 t1 draw xs.length pa pc fa fn fc h hlk
  exact step10_else W0 w bp bb bs bm br cf gn la lc nsv nmv nn L kd id kk be t0 t1 draw xs.length pa pc fa fn fc h hlk (by simp [h1]) (by simp [h2]) (by simp [h3]) (by simp [h4]) (by simp; omega) (by simp; omega) (by simp; omega)
end Go.Proofs.YtpkiefjanmfgfaaGreatDoor
namespace Go.Proofs.YtpkiefjanmfgfaaGreatDoor
open Go.RowKit Go.Maps

set_option maxHeartbeats 2000000 in
set_option maxRecDepth 20000 in
theorem begun9_no (d c l m b t : Int) (w : World) (hg : Handle w) (hc : cfgB d c l m b t = false) :
    Calls Tryz.prog 14 #[.agg #[.int .i64 d, .int .i64 c, .int .i64 l, .int .i64 m, .int .i64 b, .int .i64 t]] w fun ev w' => ev = .returned (.tuple #[.pointer none, .bool true]) ∧ Below w.heap.size w w' := by
  have HC := hide hc
  clear hc
  go_enter Tryz.func14, Tryz.ntmps14
  go_wp2_with fail
  refine (new12_bad d c l m b t _ (hg.alloc _) HC.out).mono ?_
  rintro ev w1 ⟨rfl, hb1⟩
  have k0 : w1.cell? ⟨w.heap.size, 0, none⟩ = some (.int .i64 d) := Below.at hb1 (by simp) (by simp)
  have k1 : w1.cell? ⟨w.heap.size, 1, none⟩ = some (.int .i64 c) := Below.at hb1 (by simp) (by simp)
  have k2 : w1.cell? ⟨w.heap.size, 2, none⟩ = some (.int .i64 l) := Below.at hb1 (by simp) (by simp)
  have k3 : w1.cell? ⟨w.heap.size, 3, none⟩ = some (.int .i64 m) := Below.at hb1 (by simp) (by simp)
  have k4 : w1.cell? ⟨w.heap.size, 4, none⟩ = some (.int .i64 b) := Below.at hb1 (by simp) (by simp)
  have k5 : w1.cell? ⟨w.heap.size, 5, none⟩ = some (.int .i64 t) := Below.at hb1 (by simp) (by simp)
  have hbw : Below w.heap.size w w1 := ((Below.refl _ _).alloc (Nat.le_refl _) _).trans (hb1.mono (by simp))
  have HBW := hide hbw
  clear hb1 hbw
  go_wp2_with fail
  refine (config17_any d c l m b t _).mono ?_
  rintro ev w2 ⟨rfl, hb2⟩
  rw [HC.out]
  have HB2 := hide hb2
  clear hb2
  go_wp2
  go_ret2
  exact ⟨rfl, HBW.out.trans (HB2.out.mono HBW.out.size)⟩

theorem pair_new {W0 w2 w3 : World} {d c l m b t : Int} {bb bs bm : Nat} {gn : Net} {cs ct : Array Value} (h0 : 0 < W0.heap.size) (hold : Below W0.heap.size W0 w2) (hb3 : Below w2.heap.size w2 w3) (hB : BaseAt w2 bb bs bm ⟨d, c, l, m, b, t⟩ gn [])
    (hts : w2.heap[bs]? = some (.cells cs 155 (0, 0))) (htb : w2.heap[bb]? = some (.cells ct 102 (0, 0))) (hbb : W0.heap.size ≤ bb) (hbm : W0.heap.size ≤ bm) (hF : ∀ k, gn.F k → W0.heap.size ≤ k) (_hlo : gn.looks = 0) (hex : gn.ex = Bks.nil) (hlw : gn.lows = 0 ∧ gn.lst = 0 ∧ gn.pt = false) :
    PairAt W0 ((w3.alloc (.cells #[.int .i64 d, .int .i64 c, .int .i64 l, .int .i64 m, .int .i64 b, .int .i64 t, .slice none 0 0] 92)).alloc (.cells #[.pointer (some ⟨bb, 0, none⟩), .pointer (some ⟨w3.heap.size, 0, none⟩), .int .i64 0, .int .i64 0, .int .i64 0, .bool false, .int .i64 0, .int .i64 0, .slice none 0 0, .slice none 0 0, .slice none 0 0, .slice none 0 0, .slice none 0 0, .slice none 0 0, .slice none 0 0, .slice none 0 0] 41))
      (w3.heap.size + 1) bb bs bm w3.heap.size ⟨d, c, l, m, b, t⟩ gn none 0 (.slice none 0 0) (.slice none 0 0) 0 [] [] := by
  have hz2 := (Array.getElem?_eq_some_iff.1 htb).1
  have hzs := (Array.getElem?_eq_some_iff.1 hts).1
  have hz3 := hb3.size
  have hz1 := hold.size
  obtain ⟨w4, hw4⟩ : ∃ w4, w4 = w3.alloc (.cells #[.int .i64 d, .int .i64 c, .int .i64 l, .int .i64 m, .int .i64 b, .int .i64 t, .slice none 0 0] 92) := ⟨_, rfl⟩
  rw [← hw4]
  have hz4 : w4.heap.size = w3.heap.size + 1 := by rw [hw4]; simp
  obtain ⟨w5, hw5⟩ : ∃ w5, w5 = w4.alloc (.cells #[.pointer (some ⟨bb, 0, none⟩), .pointer (some ⟨w3.heap.size, 0, none⟩), .int .i64 0, .int .i64 0, .int .i64 0, .bool false, .int .i64 0, .int .i64 0, .slice none 0 0, .slice none 0 0, .slice none 0 0, .slice none 0 0, .slice none 0 0, .slice none 0 0, .slice none 0 0, .slice none 0 0] 41) := ⟨_, rfl⟩
  rw [← hw5]
  have hp : w5.heap[w3.heap.size + 1]? = some (.cells #[.pointer (some ⟨bb, 0, none⟩), .pointer (some ⟨w3.heap.size, 0, none⟩), .int .i64 0, .int .i64 0, .int .i64 0, .bool false, .int .i64 0, .int .i64 0, .slice none 0 0, .slice none 0 0, .slice none 0 0, .slice none 0 0, .slice none 0 0, .slice none 0 0, .slice none 0 0, .slice none 0 0] 41 (0, 0)) := by
    rw [hw5, ← hz4]; exact heap_alloc_new _ _
  have hr : w5.heap[w3.heap.size]? = some (.cells #[.int .i64 d, .int .i64 c, .int .i64 l, .int .i64 m, .int .i64 b, .int .i64 t, .slice none 0 0] 92 (0, 0)) := by
    rw [hw5, Below.heap_alloc _ _ _ (by omega), hw4]; exact heap_alloc_new _ _
  have hb5 : Below w3.heap.size w3 w5 := by
    rw [hw5, hw4]
    exact ((Below.refl _ _).alloc (Nat.le_refl _) _).alloc (by simp) _
  have hb25 : Below w2.heap.size w2 w5 := hb3.trans (hb5.mono hz3)
  clear hw4 hw5
  have nil32 : ∀ e, w5.ownsRow 0 e 1 (.slice none 0 0) 0 [] := fun e => ⟨rfl, .inl ⟨rfl, rfl⟩⟩
  refine ⟨?_, ?_, ?_, ?_, ⟨⟨0, hlw.2.1.symm⟩, ?_⟩, ⟨⟨false, hlw.2.2.symm⟩, ?_⟩, ⟨⟨_, hp⟩, ⟨0, ?_⟩, ⟨0, ?_⟩, ?_, ?_, ⟨[], nil32 32⟩, ⟨[], nil32 3⟩⟩, hB.below hb25, ⟨⟨_, hr⟩, ?_, ?_, ?_, ?_, ?_, ?_, ⟨rfl, .inl ⟨rfl, rfl⟩⟩, fun e he => (by simp at he), by simp [Rising], by simp⟩,
    ⟨_, (hb25.block _ hz2).trans htb⟩, ⟨_, (hb25.block _ hzs).trans hts⟩, ⟨fun e he => (by simp at he), fun e he => by simp at he⟩, hold.trans (hb25.mono hz1), h0, by omega, hbb, hbm, by omega, fun g hg => (by cases hg), fun g hg => (by cases hg), fun g hg => (by cases hg), fun k hf => ⟨hF k hf, by have := (hB.foot k hf).1; omega, by have := (hB.foot k hf).1; omega, fun e => (by cases e), fun e => (by cases e), fun e => (by cases e), fun e he => absurd he List.not_mem_nil⟩, hex ▸ ⟨?_, ?_, ?_, ?_, ?_, ?_, ⟨[], nil32 58⟩, ⟨[], nil32 3⟩, ⟨[], nil32 81⟩, ⟨[], nil32 3⟩, ⟨[], nil32 31⟩, ⟨[], nil32 3⟩, fun g e => (by cases e), fun g e => (by cases e)⟩, fun k hk => absurd (hex ▸ hk) (Bks.own_nil k), by rw [hex]; decide⟩ <;> (try rw [hlw.1]) <;>
    first
      | (simp only [World.cell?, hp]; rfl)
      | (simp only [World.cell?, hr]; rfl)

set_option maxHeartbeats 2000000 in
set_option maxRecDepth 20000 in
theorem begun9_yes (W0 : World) (d c l m b t : Int) (w : World) (hg : Handle w) (hW : Below W0.heap.size W0 w) (h0 : 0 < W0.heap.size) (hc : cfgB d c l m b t = true) :
    Calls Tryz.prog 14 #[.agg #[.int .i64 d, .int .i64 c, .int .i64 l, .int .i64 m, .int .i64 b, .int .i64 t]] w fun ev w' => ∃ bp bb bs bm br gn, ev = .returned (.tuple #[.pointer (some ⟨bp, 0, none⟩), .bool true]) ∧ PairAt W0 w' bp bb bs bm br ⟨d, c, l, m, b, t⟩ gn none 0 (.slice none 0 0) (.slice none 0 0) 0 [] [] ∧ Lk gn 0 := by
  have HC := hide hc
  clear hc
  go_enter Tryz.func14, Tryz.ntmps14
  go_wp2_with fail
  refine (new12_ok d c l m b t _ (hg.alloc _) HC.out).mono ?_
  rintro ev w2 ⟨bb, bs, bm, gn, cs, ct, rfl, hB, hts, htb, hb1, hbb, hbs, hbm, hF, hlo, hex, hlw⟩
  have hbw : Below w.heap.size w w2 := ((Below.refl _ _).alloc (Nat.le_refl _) _).trans (hb1.mono (by simp))
  have hz : w.heap.size < w2.heap.size := by have := hb1.size; simp at this; omega
  have k0 : w2.cell? ⟨w.heap.size, 0, none⟩ = some (.int .i64 d) := Below.at hb1 (by simp) (by simp)
  have k1 : w2.cell? ⟨w.heap.size, 1, none⟩ = some (.int .i64 c) := Below.at hb1 (by simp) (by simp)
  have k2 : w2.cell? ⟨w.heap.size, 2, none⟩ = some (.int .i64 l) := Below.at hb1 (by simp) (by simp)
  have k3 : w2.cell? ⟨w.heap.size, 3, none⟩ = some (.int .i64 m) := Below.at hb1 (by simp) (by simp)
  have k4 : w2.cell? ⟨w.heap.size, 4, none⟩ = some (.int .i64 b) := Below.at hb1 (by simp) (by simp)
  have k5 : w2.cell? ⟨w.heap.size, 5, none⟩ = some (.int .i64 t) := Below.at hb1 (by simp) (by simp)
  have HB := hide hB
  have HOLD : Hid (Below W0.heap.size W0 w2) := hW.trans (hbw.mono hW.size)
  have HBB : Hid (W0.heap.size ≤ bb) := by have := hW.size; simp at hbb; show _ ≤ _; omega
  have HBM : Hid (W0.heap.size ≤ bm) := by have := hW.size; simp at hbm; show _ ≤ _; omega
  have HFF : Hid (∀ k, gn.F k → W0.heap.size ≤ k) := fun k hk => by have := hF k hk; have := hW.size; simp at *; omega
  have HLO := hide hlo
  have HEX := hide hex
  have HLW := hide hlw
  have HTS := hide hts
  have HTB := hide htb
  have hz2 : w.heap.size < w2.heap.size := hz
  clear hb1 hbw hB hts htb hW hbb hbs hbm hF hz hlo hex hlw
  go_wp2_with fail
  refine (config17_any d c l m b t _).mono ?_
  rintro ev w3 ⟨rfl, hb3⟩
  rw [HC.out]
  have q0 := Below.at hb3 k0 hz2
  have q1 := Below.at hb3 k1 hz2
  have q2 := Below.at hb3 k2 hz2
  have q3 := Below.at hb3 k3 hz2
  have q4 := Below.at hb3 k4 hz2
  have q5 := Below.at hb3 k5 hz2
  have HB3 := hide hb3
  clear hb3 k0 k1 k2 k3 k4 k5
  go_wp2
  go_ret2
  exact ⟨w3.heap.size + 1, bb, bs, bm, w3.heap.size, gn, rfl, pair_new h0 HOLD.out HB3.out HB.out HTS.out HTB.out HBB.out HBM.out HFF.out HLO.out HEX.out HLW.out, by rw [HLW.out.1, HLO.out], by rw [HLO.out]; omega, by rw [HLO.out]; omega, fun e => by rw [HLW.out.2.2] at e; cases e⟩
end Go.Proofs.YtpkiefjanmfgfaaGreatDoor
namespace Go.Proofs.YtpkiefjanmfgfaaGreatDoor
open Go.RowKit Go.Maps

theorem ints_seven {w : World} {A : Nat} {o : Obj} (h : w.cell? ⟨A, 0, none⟩ = some (.int .i64 7)) : IntsAt (w.alloc o) (.slice (some ⟨A, 0, none⟩) ([7] : List Int).length 1) [7] := by
  refine ⟨_, _, rfl, by simp, by simp, .inr ⟨A, 0, rfl, fun i hi => ?_⟩⟩
  obtain rfl : i = 0 := by simp at hi; omega
  exact (World.cell?_alloc_lt _ _ _ (block_lt_of_cell (a := ⟨A, 0, none⟩) h)).trans h

theorem i64_five : I64 5 := by unfold I64; decide
theorem find_five (g gc : Nat) : findE 5 (insE ⟨5, [7], 1, 2, ((0 : Nat) : Int), g, gc, 0, 0⟩ []) = some ⟨5, [7], 1, 2, ((0 : Nat) : Int), g, gc, 0, 0⟩ := by simp [insE, findE]
theorem del_five (g gc : Nat) : delE 5 (insE ⟨5, [7], 1, 2, ((0 : Nat) : Int), g, gc, 0, 0⟩ []) = [] := by simp [insE, delE]

set_option maxHeartbeats 2000000 in
set_option maxRecDepth 20000 in
theorem awake8_any (w : World) (hg : Handle w) :
    Calls Tryz.prog 13 #[] w fun ev w' => ev = .returned (.bool true) ∧ Below w.heap.size w w' := by
  go_enter Tryz.func13, Tryz.ntmps13
  go_wp2_with fail
  refine (new12_ok 1 2 2 0 1 0 _ hg (by decide)).mono ?_
  rintro ev w2 ⟨bb, bs, bm, gn, _, _, rfl, hB, _, _, hb2, _, _, hzm, hgF, _⟩
  have HB := hide hB
  have HB2 := hide hb2
  have HGF := hide hgF
  clear hB hb2 hgF
  go_wp2_with fail
  obtain ⟨w3, hw3⟩ : ∃ w3, w3 = w2.alloc (.cells #[.int .i64 7] 3) := ⟨_, rfl⟩
  have h7 : w3.cell? ⟨w2.heap.size, 0, none⟩ = some (.int .i64 7) := by rw [hw3]; simp
  have hB3 : BaseAt w3 bb bs bm ⟨1, 2, 2, 0, 1, 0⟩ gn [] := hw3 ▸ HB.out.alloc _
  have hb3 : Below w.heap.size w w3 := hw3 ▸ HB2.out.alloc HB2.out.size _
  rw [← hw3]
  clear hw3
  refine (put13_ok bb bs bm ⟨1, 2, 2, 0, 1, 0⟩ gn 5 1 2 0 [7] w2.heap.size 0 1 [] w3 i64_five (by decide) hB3 (by decide) (fun _ => ints_seven h7) (.inr (by decide)) (by decide) (by decide) ?_).mono ?_
  · intro i hi
    obtain rfl : i = 0 := by simp at hi; omega
    exact h7
  rintro ev w4 ⟨rfl, g, gc, gn4, hg4, hB4, hk4, hf4, _⟩
  have hB4 := hB4 0 0
  have hb4 : Below w.heap.size w w4 := hb3.trans (hk4.toBelow hb3.size (fun k e => e.elim (fun e => by rw [e]; exact hzm) (HGF.out k)))
  have HGF4 : Hid (∀ k, gn4.F k → w.heap.size ≤ k) := fun k hk => (hf4 k hk).elim (HGF.out k) (fun e => Nat.le_trans hb3.size e)
  have HB4 := hide hB4
  have HBL4 := hide hb4
  clear hB4 hb4 hk4 hg4 hB3 hb3 h7 hf4
  go_wp2_with fail
  refine (get14_yes bb bs bm _ _ 5 _ ⟨5, [7], 1, 2, ((0 : Nat) : Int), g, gc, 0, 0⟩ w4 i64_five HB4.out (find_five g gc)).mono ?_
  rintro ev w5 ⟨g5, gc5, rfl, hg5, hp5, hb5⟩
  have hB5 := HB4.out.below hb5
  have hb5w : Below w.heap.size w w5 := HBL4.out.trans (hb5.mono HBL4.out.size)
  have hlen5 : 1 ≤ gc5 := ownsRow_len hp5
  have HGF5 : Hid (¬ gn4.F g5) := fun e => by have := (HB4.out.foot _ e).1; omega
  have HXF : Hid (¬ gn4.F w5.heap.size) := fun e => by have := (hB5.foot _ e).1; omega
  have HP5 : Hid (Pts w5 g5 gc5 [7]) := hp5
  have HB5 := hide hB5
  have HBL5 := hide hb5w
  have hgl : g5 < w5.heap.size := (hp5.lt g5 rfl).2
  clear hB5 hb5w hp5 hb5 hg5
  go_wp2_with fail
  obtain ⟨w6, hw6⟩ : ∃ w6, w6 = w5.alloc (.cells #[.int .i64 5, .slice (some ⟨g5, 0, none⟩) 1 gc5, .int .i64 1, .int .i64 2] 77) := ⟨_, rfl⟩
  rw [← hw6]
  have hz6 : w6.heap.size = w5.heap.size + 1 := by rw [hw6]; simp
  have hb56 : Below w5.heap.size w5 w6 := hw6 ▸ (Below.refl _ _).alloc (Nat.le_refl _) _
  have hx6 : w6.heap[w5.heap.size]? = some (.cells #[.int .i64 5, .slice (some ⟨g5, 0, none⟩) 1 gc5, .int .i64 1, .int .i64 2] 77 (0, 0)) := by rw [hw6]; exact heap_alloc_new _ _
  clear hw6
  have HB6 := hide (HB5.out.below hb56)
  have HP6 := hide (ownsRow_below HP5.out hb56)
  have HBL6 : Hid (Below w.heap.size w w6) := HBL5.out.trans (hb56.mono HBL5.out.size)
  have HX6 := hide hx6
  clear hx6 hb56
  refine (count15_any bb bs bm _ _ _ w6 HB6.out).mono ?_
  rintro ev w7 ⟨rfl, rfl⟩
  go_wp2_with fail
  refine (delete16_yes bb bs bm _ _ 5 _ _ w6 i64_five HB6.out (find_five g gc)).mono ?_
  rintro ev w8 ⟨rfl, gn8, hB8, hk8, _⟩
  rw [del_five] at hB8
  have hx8 := (hk8.block w5.heap.size (by omega) (fun e => e.elim (HB6.out.map.mb_ne HX6.out) HXF.out)).trans HX6.out
  have hp8 : Pts w8 g5 gc5 [7] := ownsRow_kept HP6.out hk8 fun g' hg' => by
    obtain ⟨cu, hcu⟩ := ownsRow_obj HP6.out hg'
    obtain rfl : g5 = g' := by simpa [Value.ownBlock] using hg'
    exact fun e => e.elim (HB6.out.map.mb_ne hcu) HGF5.out
  have hb8 : Below w.heap.size w w8 := HBL6.out.trans (hk8.toBelow HBL6.out.size (fun k e => e.elim (fun e => by rw [e]; exact hzm) (HGF4.out k)))
  have hz8 : w5.heap.size < w8.heap.size := by have := hk8.size; omega
  have HB8 := hide hB8
  have HX8 := hide hx8
  have HP8 := hide hp8
  have HBL8 := hide hb8
  clear hB8 hx8 hp8 hb8 hk8
  go_wp2_with fail
  refine (get14_no bb bs bm _ _ 5 [] w8 i64_five HB8.out rfl).mono ?_
  rintro ev w9 ⟨rfl, hb9⟩
  have hx9 := (hb9.block _ hz8).trans HX8.out
  have hp9 := ownsRow_below HP8.out hb9
  have HBL9 : Hid (Below w.heap.size w w9) := HBL8.out.trans (hb9.mono HBL8.out.size)
  have hz9 : w5.heap.size < w9.heap.size := Nat.lt_of_lt_of_le hz8 hb9.size
  have hg9 : g5 < w9.heap.size := (hp9.lt g5 rfl).2
  have c1 : w9.cell? ⟨w5.heap.size, 1, none⟩ = some (.slice (some ⟨g5, 0, none⟩) 1 gc5) := by simp only [World.cell?, hx9]; rfl
  have c3 : w9.cell? ⟨w5.heap.size, 3, none⟩ = some (.int .i64 2) := by simp only [World.cell?, hx9]; rfl
  have c7 : w9.cell? ⟨g5, 0, none⟩ = some (.int .i64 7) := Pts.at (xs := [7]) hp9 (i := 0) (by simp)
  clear hx9 hp9 hb9 hz6
  go_wp2
  go_ret
  exact ⟨rfl, HBL9.out.alloc HBL9.out.size _⟩
end Go.Proofs.YtpkiefjanmfgfaaGreatDoor
namespace Go.Proofs.YtpkiefjanmfgfaaGreatDoor
open Go.RowKit Go.Maps

structure OpAt (w : World) (b o : Nat) (kd id kk be t0 t1 draw : Int) (xs : List Int) (pa : Option Addr) (pc : Nat) (fa : Option Addr) (fn fc : Nat) : Prop where
  c0 : w.cell? ⟨b, o, none⟩ = some (.int .i64 kd)
  c1 : w.cell? ⟨b, o + 1, none⟩ = some (.int .i64 id)
  c2 : w.cell? ⟨b, o + 2, none⟩ = some (.int .i64 kk)
  c3 : w.cell? ⟨b, o + 3, none⟩ = some (.int .i64 be)
  c4 : w.cell? ⟨b, o + 4, none⟩ = some (.slice pa xs.length pc)
  c5 : w.cell? ⟨b, o + 5, none⟩ = some (.int .i64 t0)
  c6 : w.cell? ⟨b, o + 6, none⟩ = some (.int .i64 t1)
  c7 : w.cell? ⟨b, o + 7, none⟩ = some (.int .u64 draw)
  c8 : w.cell? ⟨b, o + 8, none⟩ = some (.slice fa fn fc)
  pt : IntsAt w (.slice pa xs.length pc) xs
  wf : I64 id
  dr : 0 ≤ draw ∧ draw < 18446744073709551616
  sz : (xs.length + 6) * 8 ≤ 140737488355328
structure ScriptAt (w : World) (a : Option Addr) (len : Nat) : Prop where
  sz : len * 104 ≤ 140737488355328
  op : ∀ i, i < len → ∃ b off, a = some ⟨b, off, none⟩ ∧ ∃ kd id kk be t0 t1 draw xs pa pc fa fn fc, OpAt w b (off + i * 9) kd id kk be t0 t1 draw xs pa pc fa fn fc
theorem OpAt.below {w w' : World} {b o : Nat} {kd id kk be t0 t1 draw : Int} {xs : List Int} {pa : Option Addr} {pc : Nat} {fa : Option Addr} {fn fc : Nat} (h : OpAt w b o kd id kk be t0 t1 draw xs pa pc fa fn fc) (hb : Below w.heap.size w w') : OpAt w' b o kd id kk be t0 t1 draw xs pa pc fa fn fc :=
  have hl := block_lt_of_cell h.c0
  ⟨Below.at hb h.c0 hl, Below.at hb h.c1 hl, Below.at hb h.c2 hl, Below.at hb h.c3 hl, Below.at hb h.c4 hl, Below.at hb h.c5 hl, Below.at hb h.c6 hl, Below.at hb h.c7 hl, Below.at hb h.c8 hl, h.pt.below hb, h.wf, h.dr, h.sz⟩
theorem ScriptAt.below {w w' : World} {a : Option Addr} {len : Nat} (h : ScriptAt w a len) (hb : Below w.heap.size w w') : ScriptAt w' a len :=
  ⟨h.sz, fun i hi => by
    obtain ⟨b, off, e, kd, id, kk, be, t0, t1, draw, xs, pa, pc, fa, fn, fc, ho⟩ := h.op i hi
    exact ⟨b, off, e, kd, id, kk, be, t0, t1, draw, xs, pa, pc, fa, fn, fc, ho.below hb⟩⟩

end Go.Proofs.YtpkiefjanmfgfaaGreatDoor
namespace Go.Proofs.YtpkiefjanmfgfaaGreatDoor
open Go.RowKit Go.Maps

end Go.Proofs.YtpkiefjanmfgfaaGreatDoor
namespace Go.Proofs.YtpkiefjanmfgfaaGreatDoor
open Go.ChangeShapes Go.WideShapes Go.RowKit

theorem cells23 : Tryz.prog.cellsOf 23 = 6 := by kernel_rfl
theorem cells32 : Tryz.prog.cellsOf 32 = 1 := by kernel_rfl
theorem cells43 : Tryz.prog.cellsOf 43 = 2 := by kernel_rfl
theorem cells44 : Tryz.prog.cellsOf 44 = 1 := by kernel_rfl
theorem cells45 : Tryz.prog.cellsOf 45 = 1 := by kernel_rfl
theorem cells47 : Tryz.prog.cellsOf 47 = 1 := by kernel_rfl
theorem cells49 : Tryz.prog.cellsOf 49 = 9 := by kernel_rfl
theorem bytes3 : Tryz.prog.bytesOf 3 = 8 := by kernel_rfl
theorem bytes49 : Tryz.prog.bytesOf 49 = 104 := by kernel_rfl

theorem addr_plain {w : World} {a : Addr} {v : Value} (h : w.cell? a = some v) : a = ⟨a.block, a.off, none⟩ := by
  obtain ⟨b, o, s⟩ := a
  cases s with
  | none => rfl
  | some x =>
    simp only [World.cell?] at h
    split at h <;> simp at h
theorem addr_at (b o i : Nat) : (⟨b, o, none⟩ : Addr).add i = ⟨b, o + i, none⟩ := by
  unfold Addr.add
  split
  · subst_vars; rfl
  · rfl

section
variable {H : Type} {enc : TypeId × Value → H} {W : World} {sp : Nat → Bool} {hd : Bool}

set_option maxRecDepth 100000 in
theorem cfg_open {b0 : Nat} {r : Reach} {v : Value} {d : DataW H} {p : List MemPlace} (hv : Value.okWide Tryz.prog W r b0 23 v) (h : DataW.Trod enc Tryz.prog W 0 sp hd 23 v d p) :
    ∃ a0 a1 a2 a3 a4 a5 : Int, v = .agg #[.int .i64 a0, .int .i64 a1, .int .i64 a2, .int .i64 a3, .int .i64 a4, .int .i64 a5] := by
  obtain ⟨cs, rfl, hsz⟩ := okWide_struct Tryz.underlying23 hv
  rw [cells23] at hsz
  obtain ⟨l⟩ := cs
  match l, hsz with
  | [c0, c1, c2, c3, c4, c5], _ =>
    obtain ⟨fuel, hf⟩ := h
    obtain ⟨xs, n, _, _, _, hlen, hx⟩ := DataW.trod_struct Tryz.underlying23 hf
    match xs, hlen with
    | [y0, y1, y2, y3, y4, y5], _ =>
      have g0 := hx 0 _ rfl
      have g1 := hx 1 _ rfl
      have g2 := hx 2 _ rfl
      have g3 := hx 3 _ rfl
      have g4 := hx 4 _ rfl
      have g5 := hx 5 _ rfl
      simp [Value.cells, cells3] at g0 g1 g2 g3 g4 g5
      obtain ⟨a0, e0, _⟩ := DataW.trod_int Tryz.underlying3 g0
      obtain ⟨a1, e1, _⟩ := DataW.trod_int Tryz.underlying3 g1
      obtain ⟨a2, e2, _⟩ := DataW.trod_int Tryz.underlying3 g2
      obtain ⟨a3, e3, _⟩ := DataW.trod_int Tryz.underlying3 g3
      obtain ⟨a4, e4, _⟩ := DataW.trod_int Tryz.underlying3 g4
      obtain ⟨a5, e5, _⟩ := DataW.trod_int Tryz.underlying3 g5
      simp at e0 e1 e2 e3 e4 e5
      subst e0; subst e1; subst e2; subst e3; subst e4; subst e5
      exact ⟨a0, a1, a2, a3, a4, a5, rfl⟩

theorem point_open {n : Nat} {c : Value} {x : DataW H × List MemPlace} (h : DataW.trod enc Tryz.prog W 0 (fun _ => true) hd n 32 [c] = some x) (hw : ∀ k ∈ x.1.weights Tryz.prog 32, k ≤ reachBytes) :
    ∃ (xs : List Int) (pa : Option Addr) (pc : Nat), c = .slice pa xs.length pc ∧ IntsAt W (.slice pa xs.length pc) xs ∧ (xs.length + 6) * 8 ≤ 140737488355328 := by
  rcases open_ints Tryz.underlying32 Tryz.underlying3 cells3 h with ⟨e, _⟩ | ⟨a, len, cap, zs, e, _, hl, hm, hz, rfl, hc, _⟩
  · simp at e
    subst e
    exact ⟨[], none, 0, rfl, ⟨none, 0, rfl, Nat.le_refl _, by simp, .inl rfl⟩, by simp⟩
  · simp at e hz
    subst e
    have hlen : (zs.take len).length = len := by simp; omega
    have hb : ((lits (H := H) .i64 (zs.take len)).length + (lits (H := H) .i64 (zs.drop len)).length) * Tryz.prog.bytesOf 3 ≤ reachBytes := hw _ (by simp only [DataW.weights, Tryz.underlying32]; exact List.mem_cons_self)
    simp [lits, bytes3, reachBytes] at hb
    have hb2 : len * 8 ≤ 140737488351232 := by omega
    refine ⟨zs.take len, some a, cap, by rw [hlen], ⟨some a, cap, rfl, by omega, by omega, ?_⟩, by rw [hlen]; omega⟩
    by_cases h0 : len = 0
    · left; subst h0; simp
    · right
      have e0 := hc 0 (by omega)
      have ea : a = ⟨a.block, a.off, none⟩ := addr_plain (a := a) (by simpa [Addr.add] using e0)
      refine ⟨a.block, a.off, by rw [← ea], fun i hi => ?_⟩
      rw [hlen] at hi
      have := hc i (by omega)
      rw [ea, addr_at] at this
      rw [this]
      simp [List.getD_eq_getElem?_getD, hi]
end
end Go.Proofs.YtpkiefjanmfgfaaGreatDoor
