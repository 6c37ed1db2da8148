import Derived.Test.YtpkiefjanmfgfaaGreatDoorQui16
import Derived.Test.YtpkiefjanmfgfaaGreatDoorQui21
import Derived.Test.YtpkiefjanmfgfaaGreatDoorQui22
namespace Go.Proofs.YtpkiefjanmfgfaaGreatDoor
open Go.RowKit

theorem LentAt.no {w0 w : World} {A : Nat} {mv : Value} {Z : Nat} {F : List (List Cnd)} {ks : List Nat} (h : LentAt w0 w A mv Z F ks) {k : Nat} {arr : Array Value} {e : TypeId} {f : Nat × Nat} (hk : w.heap[k]? = some (.cells arr e f)) (he : e ≠ 72) : k ∉ ks := fun hm => by
  obtain ⟨i, hi, e2⟩ := List.mem_iff_getElem.1 hm
  have h1 := h.cls i (by rw [← h.len]; exact hi)
  rw [List.getD_eq_getElem?_getD, List.getElem?_eq_getElem hi] at h1
  simp only [Option.getD_some, e2] at h1
  exact ne_of_elem hk h1 he rfl
theorem LentAt.later {w0 w wr : World} {A : Nat} {mv : Value} {Z : Nat} {F : List (List Cnd)} {ks : List Nat} (h : LentAt w0 w A mv Z F ks) (hk : Kept (fun k => k ∈ ks) w wr) :
    wr.heap[A]? = some (.cells (List.zipWith cutS ks F ++ [Value.slice (some ⟨Z, 0, none⟩) 1 1]).toArray 73 (0, 0)) ∧ wr.ownsRow 0 73 1 mv F.length (List.zipWith fullS ks F) ∧ wr.heap[Z]? = some (.cells #[.int .i64 78, .int .i64 0, .int .i64 0] 72 (0, 0)) := by
  refine ⟨(hk.block _ (Array.getElem?_eq_some_iff.1 h.all).1 (h.no h.all (by decide))).trans h.all, ownsRow_kept h.mine hk fun g hg => ?_, (hk.block _ (Array.getElem?_eq_some_iff.1 h.z).1 h.zk).trans h.z⟩
  obtain ⟨c, hc⟩ := ownsRow_obj h.mine hg
  exact h.no hc (by decide)
theorem zip_at {α : Type} (f : Nat → List Cnd → α) {ks : List Nat} {F : List (List Cnd)} (hl : ks.length = F.length) {i : Nat} (hi : i < F.length) : (List.zipWith f ks F)[i]? = some (f (ks.getD i 0) (F.getD i [])) := by
  rw [List.getElem?_zipWith, List.getD_eq_getElem?_getD, List.getD_eq_getElem?_getD, List.getElem?_eq_getElem (by omega), List.getElem?_eq_getElem hi]; rfl

theorem KpS.next {w w4 wq : World} {allv mv fv : Value} {F : List (List Cnd)} {ks : List Nat} {k kk : Nat} (h : KpS w w4 allv mv fv F ks k) (hk : Kept (fun x => x = kk) w4 wq) (hkm : kk ∈ ks) (hne : ∀ j, k + 1 ≤ j → j < F.length → ks.getD j 0 ≠ kk) (hX : w.heap.size ≠ kk) (hY : w.heap.size + 1 ≠ kk) : KpS w wq allv mv fv F ks (k + 1) := by
  have st : ∀ {x : Nat} {o : Obj}, w4.heap[x]? = some o → x ≠ kk → wq.heap[x]? = some o := fun hx hn => (hk.block _ (Array.getElem?_eq_some_iff.1 hx).1 hn).trans hx
  exact ⟨st h.b0 hX, st h.b1 hY, h.kept.trans hk (fun x _ e => e ▸ hkm), fun j h1 h2 => st (h.cls j (by omega) h2) (hne j h1 h2)⟩

set_option maxHeartbeats 4000000 in
set_option maxRecDepth 20000 in
theorem kept75 (w0 w : World) (A : Nat) (mv : Value) (Z : Nat) (F : List (List Cnd)) (ks : List Nat) (fv : Value) (h : LentAt w0 w A mv Z F ks) (hold : Below w0.heap.size w0 w) (hf : FiltAt w0 fv F) (hm : ∀ c ∈ F, (c.length + 1) * 24 ≤ 140737488355328) (hn : (F.length + 1) * 24 ≤ 140737488355328) :
    Calls Tryz.prog 75 #[.agg #[.slice (some ⟨A, 0, none⟩) (F.length + 1) (F.length + 1), mv], .agg #[fv]] w fun ev w' => ev = .returned (.bool true) ∧ Kept (fun k => k ∈ ks) w w' := by
  obtain ⟨fa, fcap, rfl, _⟩ := id hf
  obtain ⟨ma, mn, mc, hmv⟩ : ∃ ma mn mc, mv = .slice ma mn mc := by
    rcases h.mine.2 with ⟨e, _⟩ | ⟨_, _, _, e, _⟩
    · exact ⟨_, _, _, e⟩
    · exact ⟨_, _, _, e⟩
  subst hmv
  have hS0 : KpS w ((w.alloc (.cells #[.slice (some ⟨A, 0, none⟩) (F.length + 1) (F.length + 1), .slice ma mn mc] 141)).alloc (.cells #[.slice fa F.length fcap] 47)) (.slice (some ⟨A, 0, none⟩) (F.length + 1) (F.length + 1)) (.slice ma mn mc) (.slice fa F.length fcap) F ks 0 := by
    have hb : Below w.heap.size w ((w.alloc (.cells #[.slice (some ⟨A, 0, none⟩) (F.length + 1) (F.length + 1), .slice ma mn mc] 141)).alloc (.cells #[.slice fa F.length fcap] 47)) := ((Below.refl _ _).alloc (Nat.le_refl _) _).alloc (by simp) _
    exact ⟨(Below.heap_alloc _ _ _ (by simp)).trans (heap_alloc_new _ _), heap_alloc2_new _ _ _, Kept.of_below _ hb, fun j _ hj => (hb.block _ (Array.getElem?_eq_some_iff.1 (h.cls j hj)).1).trans (h.cls j hj)⟩
  have HLT : Hid (∀ wr, Kept (fun k => k ∈ ks) w wr → wr.heap[A]? = some (.cells (List.zipWith cutS ks F ++ [Value.slice (some ⟨Z, 0, none⟩) 1 1]).toArray 73 (0, 0)) ∧ wr.ownsRow 0 73 1 (.slice ma mn mc) F.length (List.zipWith fullS ks F) ∧ wr.heap[Z]? = some (.cells #[.int .i64 78, .int .i64 0, .int .i64 0] 72 (0, 0))) := fun wr hk => h.later hk
  have HFT : Hid (∀ wr, Kept (fun k => k ∈ ks) w wr → FiltAt wr (.slice fa F.length fcap) F) := fun wr hk => hf.below (hold.trans (hk.toBelow hold.size fun k hk => h.new k hk))
  have H := hide h
  have HM := hide hm
  have HS0 := hide hS0
  have hln := h.len
  obtain ⟨q1, q2, q3⟩ := h.later hS0.kept
  have z0 := cells_at q3 0 rfl
  have an : ((w.alloc (.cells #[.slice (some ⟨A, 0, none⟩) (F.length + 1) (F.length + 1), .slice ma mn mc] 141)).alloc (.cells #[.slice fa F.length fcap] 47)).cell? ⟨A, F.length, none⟩ = some (.slice (some ⟨Z, 0, none⟩) 1 1) := by
    have hzl : (List.zipWith cutS ks F).length = F.length := by simp; omega
    simp only [World.cell?, q1]
    simp [hzl]
  have x0 := cells_at hS0.b0 0 rfl
  have x1 := cells_at hS0.b1 0 rfl
  have hfl : F.length ≤ 17592186044416 := by omega
  clear h hm hf hS0 q1 q2 q3 hold
  go_enter Tryz.func75, Tryz.ntmps75
  go_wp2
  generalize hwe : (w.alloc (.cells #[.slice (some ⟨A, 0, none⟩) (F.length + 1) (F.length + 1), .slice ma mn mc] 141)).alloc (.cells #[.slice fa F.length fcap] 47) = w1 at HS0 ⊢
  clear hwe z0 an x0 x1
  obtain ⟨X, hX⟩ : ∃ X, X = w.heap.size := ⟨_, rfl⟩
  obtain ⟨Y, hY⟩ : ∃ Y, Y = w.heap.size + 1 := ⟨_, rfl⟩
  rw [← hY, ← hX]
  have HX := hide hX
  have HY := hide hY
  clear hX hY
  go_loopw [6, 7, 8, 9, 10, 11, 12] (fun ok i _ _ _ _ _ wr => ∃ k : Nat, ok = .bool true ∧ i = .int .i64 k ∧ k ≤ F.length ∧ Hid (KpS w wr (.slice (some ⟨A, 0, none⟩) (F.length + 1) (F.length + 1)) (.slice ma mn mc) (.slice fa F.length fcap) F ks k)) (fun _ i _ _ _ _ _ _ => F.length - (intOf i).toNat)
  case atStart => exact ⟨0, rfl, rfl, Nat.zero_le _, HS0⟩
  case round =>
    clear HS0
    obtain ⟨k, rfl, rfl, hk, hr⟩ := hrel
    by_cases hlt : k < F.length
    · obtain ⟨b, off, ua, uc, rfl, hu, hcu⟩ := (HFT.out _ hr.out.kept).clause hlt
      obtain ⟨l1, l2, _⟩ := HLT.out _ hr.out.kept
      have a0 : wr.cell? ⟨A, k, none⟩ = some (cutS (ks.getD k 0) (F.getD k [])) := by
        simp only [World.cell?, l1]
        have := zip_at cutS hln hlt
        have h2 := (List.getElem?_eq_some_iff.1 this).1
        simp [List.getElem?_append_left h2, this]
      obtain ⟨mg, rfl⟩ : ∃ mg, ma = some ⟨mg, 0, none⟩ := by
        rcases l2.2 with ⟨_, h0⟩ | ⟨g, _, _, e, _⟩
        · omega
        · simp only [Value.slice.injEq] at e
          exact ⟨g, e.1⟩
      have hmn : mn = F.length := by
        rcases l2.2 with ⟨_, h0⟩ | ⟨g, _, _, e, _⟩
        · omega
        · simp only [Value.slice.injEq] at e
          exact e.2.1
      subst hmn
      have m0 : wr.cell? ⟨mg, k, none⟩ = some (fullS (ks.getD k 0) (F.getD k [])) := ownsRow_cell l2 (zip_at fullS hln hlt)
      have hmg : mg < wr.heap.size := (l2.lt mg rfl).2
      have hcl := hr.out.cls k (Nat.le_refl _) hlt
      have hcm := HM.out (F.getD k []) (by rw [List.getD_eq_getElem?_getD, List.getElem?_eq_getElem hlt]; exact List.getElem_mem hlt)
      have hkm : ks.getD k 0 ∈ ks := by rw [List.getD_eq_getElem?_getD, List.getElem?_eq_getElem (by omega)]; exact List.getElem_mem _
      have hne : ∀ j, k + 1 ≤ j → j < F.length → ks.getD j 0 ≠ ks.getD k 0 := fun j h1 h2 e => by
        rw [List.getD_eq_getElem?_getD, List.getD_eq_getElem?_getD, List.getElem?_eq_getElem (show j < ks.length by omega), List.getElem?_eq_getElem (show k < ks.length by omega)] at e
        simp only [Option.getD_some] at e
        exact (List.pairwise_iff_getElem.1 H.out.nod) k j (by omega) (by omega) (by omega) e.symm
      generalize F.getD k [] = c at hu hcu a0 m0 hcl hcm
      generalize ks.getD k 0 = kk at a0 m0 hcl hkm hne
      unfold cutS at a0
      unfold fullS at m0
      have hc1 : c.length ≤ 17592186044416 := by omega
      have HSC : Hid (∀ W, Below wr.heap.size wr W → Calls Tryz.prog 123 #[.slice (some ⟨kk, 0, none⟩) c.length (c.length + 1), .slice ua c.length uc] W fun ev w' => ev = .returned (.bool true) ∧ Below W.heap.size W w') := fun W hW => sameConds123 _ _ c W ((hcl.conds hc1).below hW) (hcu.below hW)
      have xc0 : wr.cell? ⟨X, 0, none⟩ = some (.slice (some ⟨A, 0, none⟩) (F.length + 1) (F.length + 1)) := by rw [HX.out]; exact cells_at hr.out.b0 0 rfl
      have xc1 : wr.cell? ⟨X, 1, none⟩ = some (.slice (some ⟨mg, 0, none⟩) F.length mc) := by rw [HX.out]; exact cells_at hr.out.b0 1 rfl
      have yc0 : wr.cell? ⟨Y, 0, none⟩ = some (.slice (some ⟨b, off, none⟩) F.length fcap) := by rw [HY.out]; exact cells_at hr.out.b1 0 rfl
      have hlast := hcl.last
      have HSB : Hid (∀ W, Below wr.heap.size wr W → W.cell? ⟨X, 0, none⟩ = some (.slice (some ⟨A, 0, none⟩) (F.length + 1) (F.length + 1)) ∧ W.cell? ⟨A, k, none⟩ = some (.slice (some ⟨kk, 0, none⟩) c.length (c.length + 1)) ∧ W.cell? ⟨Y, 0, none⟩ = some (.slice (some ⟨b, off, none⟩) F.length fcap) ∧ W.cell? ⟨b, off + k, none⟩ = some (.slice ua c.length uc)) := fun W hW => ⟨cell_below xc0 hW, cell_below a0 hW, cell_below yc0 hW, cell_below hu hW⟩
      have HSD : Hid (∀ W, Below wr.heap.size wr W → W.cell? ⟨X, 1, none⟩ = some (.slice (some ⟨mg, 0, none⟩) F.length mc) ∧ W.cell? ⟨mg, k, none⟩ = some (.slice (some ⟨kk, 0, none⟩) (c.length + 1) (c.length + 1)) ∧ W.cell? ⟨Y, 0, none⟩ = some (.slice (some ⟨b, off, none⟩) F.length fcap) ∧ W.cell? ⟨b, off + k, none⟩ = some (.slice ua c.length uc)) := fun W hW => ⟨cell_below xc1 hW, cell_below m0 hW, cell_below yc0 hW, cell_below hu hW⟩
      have HE : Hid (∀ W, Below wr.heap.size wr W → W.cell? ⟨X, 0, none⟩ = some (.slice (some ⟨A, 0, none⟩) (F.length + 1) (F.length + 1)) ∧ W.cell? ⟨A, k, none⟩ = some (.slice (some ⟨kk, 0, none⟩) c.length (c.length + 1)) ∧ W.cell? ⟨X, 1, none⟩ = some (.slice (some ⟨mg, 0, none⟩) F.length mc) ∧ W.cell? ⟨mg, k, none⟩ = some (.slice (some ⟨kk, 0, none⟩) (c.length + 1) (c.length + 1)) ∧ W.cell? ⟨kk, c.length * 3, none⟩ = some (.int .i64 77)) := fun W hW => ⟨cell_below xc0 hW, cell_below a0 hW, cell_below xc1 hW, cell_below m0 hW, cell_below hlast hW⟩
      have hXk : w.heap.size ≠ kk := ne_of_elem hr.out.b0 hcl (by decide)
      have hYk : w.heap.size + 1 ≠ kk := ne_of_elem hr.out.b1 hcl (by decide)
      have hAk : A ≠ kk := ne_of_elem l1 hcl (by decide)
      have hMk : mg ≠ kk := by
        obtain ⟨cm, hcm⟩ := ownsRow_obj l2 (g := mg) rfl
        exact ne_of_elem hcm hcl (by decide)
      have HNX : Hid (w.heap.size ≠ kk ∧ w.heap.size + 1 ≠ kk) := ⟨hXk, hYk⟩
      have HNA : Hid (X ≠ kk ∧ A ≠ kk ∧ mg ≠ kk) := ⟨by rw [HX.out]; exact hXk, hAk, hMk⟩
      clear hXk hYk hAk hMk
      have HCL := hide hcl
      have HKM := hide hkm
      have HNE := hide hne
      clear l1 l2 a0 m0 hcl hcm hcu xc0 xc1 hlast hkm hne HFT HLT hmg
      have bd1 : k < F.length + 1 := by omega
      have bd2 : (k : Int) < (F.length : Int) + 1 := by omega
      have bd3 : (0 : Int) ≤ (c.length : Int) := by omega
      have bd4 : (c.length : Int) ≤ (c.length : Int) + 1 := by omega
      as_aux_lemma =>
      go_wp2
      clear yc0 hu
      go_region_held3 (fun wx => wx.cell? ⟨X, 0, none⟩ = some (.slice (some ⟨A, 0, none⟩) (F.length + 1) (F.length + 1)) ∧ wx.cell? ⟨A, k, none⟩ = some (.slice (some ⟨kk, 0, none⟩) c.length (c.length + 1)) ∧ wx.cell? ⟨Y, 0, none⟩ = some (.slice (some ⟨b, off, none⟩) F.length fcap) ∧ wx.cell? ⟨b, off + k, none⟩ = some (.slice ua c.length uc))
        ((refine HSB.out _ ?_; repeat (first | with_reducible exact hb3 | exact Below.refl _ _ | refine Below.drew ?_)))
        (first | (go_at_call 123; refine (HSC.out _ (Below.refl _ _).drew).mono ?_; rintro e3 w3 ⟨rfl, b3⟩; have hb3 : Below wr.heap.size wr w3 := Below.undrew b3))
      have HB3 := hide hb3
      clear hb3 b3
      go_wp2
      go_region_held3 (fun wx => wx.cell? ⟨X, 1, none⟩ = some (.slice (some ⟨mg, 0, none⟩) F.length mc) ∧ wx.cell? ⟨mg, k, none⟩ = some (.slice (some ⟨kk, 0, none⟩) (c.length + 1) (c.length + 1)) ∧ wx.cell? ⟨Y, 0, none⟩ = some (.slice (some ⟨b, off, none⟩) F.length fcap) ∧ wx.cell? ⟨b, off + k, none⟩ = some (.slice ua c.length uc))
        ((refine HSD.out _ ?_; repeat (first | with_reducible exact HB3.out | with_reducible exact hb4 | refine Below.drew ?_)))
        (first | (go_at_call 123; refine (HSC.out _ HB3.out.drew).mono ?_; rintro e4 w4 ⟨rfl, b4⟩; have hb4 : Below wr.heap.size wr w4 := HB3.out.trans ((Below.undrew b4).mono HB3.out.size)))
      obtain ⟨e1, e2, e3, e4, e5⟩ := HE.out _ hb4
      have HB4 := hide hb4
      clear hb4 b4
      go_wp2
      have HC4 : Hid (ClsAt w4 kk c) := (HB4.out.block _ (Array.getElem?_eq_some_iff.1 HCL.out).1).trans HCL.out
      have HK4 := hide (hr.out.on HB4.out)
      have HE4 : Hid (∀ W, Kept (fun x => x = kk) w4 W → W.cell? ⟨X, 0, none⟩ = some (.slice (some ⟨A, 0, none⟩) (F.length + 1) (F.length + 1)) ∧ W.cell? ⟨A, k, none⟩ = some (.slice (some ⟨kk, 0, none⟩) c.length (c.length + 1)) ∧ W.cell? ⟨X, 1, none⟩ = some (.slice (some ⟨mg, 0, none⟩) F.length mc) ∧ W.cell? ⟨mg, k, none⟩ = some (.slice (some ⟨kk, 0, none⟩) (c.length + 1) (c.length + 1))) := fun W hW => ⟨hW.cell e1 HNA.out.1, hW.cell e2 HNA.out.2.1, hW.cell e3 HNA.out.1, hW.cell e4 HNA.out.2.2⟩
      clear e1 e2 e3 e4 e5 HCL HE HSB HSD HSC HB3 HB4
      go_loopw [11] (fun i wq => ∃ q : Nat, i = .int .i64 q ∧ q ≤ c.length + 1 ∧ Hid (OverAt wq kk c.length q) ∧ Hid (Kept (fun x => x = kk) w4 wq)) (fun i _ => c.length + 1 - (intOf i).toNat)
      case atStart => exact ⟨0, rfl, Nat.zero_le _, HC4.out.over, Kept.refl _ _⟩
      case round =>
        rename World => wq
        obtain ⟨q, rfl, hq, HO, HKQ⟩ := hrel
        obtain ⟨f1, f2, f3, f4⟩ := HE4.out _ HKQ.out
        by_cases hql : q ≤ c.length
        · obtain ⟨u0, hu0⟩ := HO.out.at (o := q * 3) (by omega)
          obtain ⟨u1, hu1⟩ := HO.out.at (o := q * 3 + 1) (by omega)
          obtain ⟨u2, hu2⟩ := HO.out.at (o := q * 3 + 2) (by omega)
          have hfz := HO.out.frozen
          have hql2 : (q : Int) ≤ (c.length : Int) := by omega
          have hql3 : q < c.length + 1 := by omega
          have hql4 : (q : Int) < (c.length : Int) + 1 := by omega
          clear f1 f2
          go_wp2
          exact ⟨⟨q + 1, by go_num, by omega, HO.out.step (by omega) _ _, ((HKQ.out.setG _ _).setG _ _).setG _ _⟩, by simp [intOf]; omega⟩
        · obtain rfl : q = c.length + 1 := by omega
          have HKN := hide (HK4.out.next HKQ.out HKM.out HNE.out HNX.out.1 HNX.out.2)
          clear f3 f4 HKQ HE4 HK4 hr
          go_wp2
          go_loop [6, 12] (fun ok i => ∃ q : Nat, ok = .bool true ∧ i = .int .i64 q ∧ q ≤ c.length) (fun _ i => c.length - (intOf i).toNat)
          case atStart => exact ⟨0, rfl, rfl, Nat.zero_le _⟩
          case round =>
            obtain ⟨q, rfl, rfl, hq⟩ := hrel
            by_cases hql : q < c.length
            · have h9 := HO.out.nine (j := q) (by omega)
              go_wp2
              exact ⟨⟨q + 1, rfl, by go_num, by omega⟩, by simp [intOf]; omega⟩
            · go_wp2
              exact ⟨⟨k + 1, rfl, by go_num, by omega, HKN⟩, by simp [intOf]; omega⟩
    · go_wp2
      go_ret
      exact ⟨rfl, hr.out.kept⟩
end Go.Proofs.YtpkiefjanmfgfaaGreatDoor
namespace Go.Proofs.YtpkiefjanmfgfaaGreatDoor
open Go.RowKit Go.Maps

theorem ne_type {w : World} {a b : Nat} {c1 c2 : Array Value} {e1 e2 : TypeId} {f1 f2 : Nat × Nat} (h1 : w.heap[a]? = some (.cells c1 e1 f1)) (h2 : w.heap[b]? = some (.cells c2 e2 f2)) (hne : e1 ≠ e2) : a ≠ b := ne_of_elem h1 h2 hne

section
variable {W0 w w' : World} {bp bb bs bm br : Nat} {cf : Cf} {gn : Net} {la : Option Addr} {lc : Nat} {nsv nmv : Value} {nn : Nat} {L M : List Ent}

def Net.hits (gn : Net) (hsv hmv : Value) : Net := { gn with ex := { gn.ex with hsv := hsv, hmv := hmv, nh := gn.ex.nh + 4 } }

theorem PairAt.hits {lv lv' hsv' hmv' : Value} {X n' : Nat} {m m' : Int} (h : PairAt W0 w bp bb bs bm br cf gn la lc nsv nmv nn L M) (hA : ∀ g, lv.ownBlock = some g → Apart W0 g bp bb bs bm br gn la lc nsv nmv L M) (hx : gn.ex.nh + 4 ≤ nn)
    (hs : HiS w bp lv gn.ex.hsv gn.ex.hmv X m m' w' lv' n' hsv' (gn.ex.nh + 4) hmv' (gn.ex.nh + 4)) : PairAt W0 w' bp bb bs bm br cf (gn.hits hsv' hmv') la lc nsv nmv nn L M := by
  obtain ⟨x4, h4⟩ := h.p4
  obtain ⟨x5, h5⟩ := h.p5
  obtain ⟨b6, h6⟩ := h.book.c6
  obtain ⟨cb, hcb⟩ := h.tb
  obtain ⟨cs, hcs⟩ := h.ts
  obtain ⟨ys, hys⟩ := h.book.hs
  obtain ⟨zs, hzs⟩ := h.book.hm
  have hk := hs.kept
  have x1 : ∀ k, gn.ex.hsv.ownBlock = some k → Apt W0 k bp bb bs bm br gn la lc nsv nmv L M := fun k e => h.xa k (.inl e)
  have x2 : ∀ k, gn.ex.hmv.ownBlock = some k → Apt W0 k bp bb bs bm br gn la lc nsv nmv L M := fun k e => h.xa k (.inr (.inl e))
  have no : ∀ {b : Nat}, b ≠ bp → (∀ g, lv.ownBlock = some g → g ≠ b) → (∀ g, gn.ex.hsv.ownBlock = some g → g ≠ b) → (∀ g, gn.ex.hmv.ownBlock = some g → g ≠ b) → ¬ (b = bp ∨ lv.ownBlock = some b ∨ gn.ex.hsv.ownBlock = some b ∨ gn.ex.hmv.ownBlock = some b) := fun h1 h2 h3 h4 hx => by
    rcases hx with e | e | e | e
    · exact h1 e
    · exact h2 _ e rfl
    · exact h3 _ e rfl
    · exact h4 _ e rfl
  obtain ⟨cp, hcp⟩ := h.book.typ
  obtain ⟨cr, hcr⟩ := h.ref.typ
  have hbb := no (b := bb) (ne_type hcb hcp (by decide)) (fun g e => (hA g e).b) (fun g e => (x1 g e).b) (fun g e => (x2 g e).b)
  have hbs := no (b := bs) (ne_type hcs hcp (by decide)) (fun g e => (hA g e).s) (fun g e => (x1 g e).s) (fun g e => (x2 g e).s)
  have hbm := no (b := bm) (fun e => h.base.map.mb_ne hcp e.symm) (fun g e => (hA g e).m) (fun g e => (x1 g e).m) (fun g e => (x2 g e).m)
  have hbr := no (b := br) (ne_type hcr hcp (by decide)) (fun g e => (hA g e).r) (fun g e => (x1 g e).r) (fun g e => (x2 g e).r)
  have hpos := h.pos
  have hlbp := h.lbp
  have h00 := no (b := 0) (by omega) (fun g e => by have := (hA g e).old; omega) (fun g e => by have := (x1 g e).old; omega) (fun g e => by have := (x2 g e).old; omega)
  have noPm : ∀ e ∈ L, ¬ (e.mb = bp ∨ lv.ownBlock = some e.mb ∨ gn.ex.hsv.ownBlock = some e.mb ∨ gn.ex.hmv.ownBlock = some e.mb) := fun e he => by
    obtain ⟨c, hc⟩ := (h.base.map.pts e he).obj
    exact no (ne_type hc hcp (by decide)) (fun g q => (hA g q).mb e he) (fun g q => (x1 g q).mb e he) (fun g q => (x2 g q).mb e he)
  have noPr : ∀ e ∈ M, ¬ (e.rb = bp ∨ lv.ownBlock = some e.rb ∨ gn.ex.hsv.ownBlock = some e.rb ∨ gn.ex.hmv.ownBlock = some e.rb) := fun e he => by
    obtain ⟨c, hc⟩ := (h.ref.pts e he).obj
    exact no (ne_type hc hcp (by decide)) (fun g q => (hA g q).rb e he) (fun g q => (x1 g q).rb e he) (fun g q => (x2 g q).rb e he)
  have noF : ∀ k, gn.F k → ¬ (k = bp ∨ lv.ownBlock = some k ∨ gn.ex.hsv.ownBlock = some k ∨ gn.ex.hmv.ownBlock = some k) := fun k hf => no (h.pf k hf).2.1 (fun g q e => (hA g q).f (e ▸ hf)) (fun g q e => (x1 g q).f (e ▸ hf)) (fun g q e => (x2 g q).f (e ▸ hf))
  have noN : ∀ g, nsv.ownBlock = some g → ¬ (g = bp ∨ lv.ownBlock = some g ∨ gn.ex.hsv.ownBlock = some g ∨ gn.ex.hmv.ownBlock = some g) := fun g hg => by
    obtain ⟨c, hc⟩ := ownsRow_obj hys hg
    exact no (ne_type hc hcp (by decide)) (fun k q e => (hA k q).ns (e ▸ hg)) (fun k q e => (x1 k q).ns (e ▸ hg)) (fun k q e => (x2 k q).ns (e ▸ hg))
  have noM : ∀ g, nmv.ownBlock = some g → ¬ (g = bp ∨ lv.ownBlock = some g ∨ gn.ex.hsv.ownBlock = some g ∨ gn.ex.hmv.ownBlock = some g) := fun g hg => by
    obtain ⟨c, hc⟩ := ownsRow_obj hzs hg
    exact no (ne_type hc hcp (by decide)) (fun k q e => (hA k q).nm (e ▸ hg)) (fun k q e => (x1 k q).nm (e ▸ hg)) (fun k q e => (x2 k q).nm (e ▸ hg))
  have noL : ∀ g, (Value.slice la M.length lc).ownBlock = some g → ¬ (g = bp ∨ lv.ownBlock = some g ∨ gn.ex.hsv.ownBlock = some g ∨ gn.ex.hmv.ownBlock = some g) := fun g hg => by
    obtain ⟨c, hc⟩ := ownsRow_obj h.ref.row hg
    exact no (ne_type hc hcp (by decide)) (fun k q e => (hA k q).l (e ▸ hg)) (fun k q e => (x1 k q).l (e ▸ hg)) (fun k q e => (x2 k q).l (e ▸ hg))
  have hold : Below W0.heap.size w w' := hk.toBelow h.old.size fun k hk => by
    rcases hk with e | e | e | e
    · rw [e]; exact h.lbp
    · exact (hA k e).old
    · exact (x1 k e).old
    · exact (x2 k e).old
  have hB : BaseAt w' bb bs bm cf (gn.hits hsv' hmv') L := by
    have q := h.base.keptS hk hbb hbs hbm h00 noPm noF
    exact ⟨q.b0, q.b2, q.b3, q.b4, q.b5, q.b6, q.b7, q.b8, q.s0, q.s1, q.map, q.hdl, q.g, q.ok, q.lv, q.few, q.ints, q.len, q.crd, q.drw, q.foot, q.cfok⟩
  have apt : ∀ {k : Nat}, Apt W0 k bp bb bs bm br gn la lc nsv nmv L M → Apt W0 k bp bb bs bm br (gn.hits hsv' hmv') la lc nsv nmv L M := fun q => ⟨q.old, q.p, q.b, q.s, q.m, q.r, q.ns, q.nm, q.l, q.mb, q.rb, q.f⟩
  have fresh : ∀ {k : Nat}, w.heap.size ≤ k → Apt W0 k bp bb bs bm br (gn.hits hsv' hmv') la lc nsv nmv L M := fun hk => apt (h.apart hk).toApt
  obtain ⟨g1, q1⟩ := h.x.gs
  obtain ⟨g2, q2⟩ := h.x.gm
  obtain ⟨g3, q3⟩ := h.x.ls
  obtain ⟨g4, q4⟩ := h.x.lm
  have lne : ∀ {g k : Nat}, lv.ownBlock = some g → gn.ex.own k → g ≠ k := fun hg hk e => (hA _ hg).x (e ▸ hk)
  obtain ⟨f1, r1⟩ := h.x.hs
  obtain ⟨f2, r2⟩ := h.x.hm
  have rows : ∀ {e sz n : Nat} {v : Value} {xs : List Value}, w.ownsRow 0 e sz v n xs → e ≠ 41 → (∀ k, v.ownBlock = some k → gn.ex.own k) → e ≠ 58 → (∀ g, v.ownBlock = some g → gn.ex.hmv.ownBlock ≠ some g) → w'.ownsRow 0 e sz v n xs := fun {e sz n v xs} hr h1 h2 h3 h4 => ownsRow_kept hr hk fun g hg => by
    obtain ⟨c, hc⟩ := ownsRow_obj hr hg
    refine no (ne_type hc hcp h1) (fun k q => lne q (h2 g hg)) (fun k q e => ?_) (fun k q e => h4 g hg (e ▸ q))
    obtain ⟨c2, hc2⟩ := ownsRow_obj r1 q
    exact ne_type hc hc2 h3 e.symm
  have lo : ∀ {o : Nat} {v : Value}, o ≠ 7 ∧ o ≠ 10 ∧ o ≠ 11 → w.cell? ⟨bp, o, none⟩ = some v → w'.cell? ⟨bp, o, none⟩ = some v := fun ho hv => hs.low _ _ ho hv
  have mlt : ∀ g, gn.ex.gmv.ownBlock = some g ∨ gn.ex.lmv.ownBlock = some g → g < w.heap.size := fun g e => e.elim (fun e => h.x.lt (.inr (.inr (.inr (.inl e))))) (fun e => h.x.lt (.inr (.inr (.inr (.inr (.inr e))))))
  have hX : XAt w' bp (gn.hits hsv' hmv').ex := by
    refine ⟨hs.c8, hs.c9, lo (by omega) h.x.c12, lo (by omega) h.x.c13, lo (by omega) h.x.c14, lo (by omega) h.x.c15, hs.hs, hs.hm, ⟨g1, rows q1 (by decide) (fun k e => .inr (.inr (.inl e))) (by decide) ?_⟩, ⟨g2, rows q2 (by decide) (fun k e => .inr (.inr (.inr (.inl e)))) (by decide) ?_⟩, ⟨g3, rows q3 (by decide) (fun k e => .inr (.inr (.inr (.inr (.inl e))))) (by decide) ?_⟩, ⟨g4, rows q4 (by decide) (fun k e => .inr (.inr (.inr (.inr (.inr e))))) (by decide) ?_⟩, ⟨fun g e => ?_, h.x.dj.2⟩⟩
    · intro g hg e
      obtain ⟨c1, hc1⟩ := ownsRow_obj q1 hg
      obtain ⟨c2, hc2⟩ := ownsRow_obj r2 e
      exact ne_type hc1 hc2 (by decide) rfl
    · intro g hg e
      exact (h.x.dj.1 g e).1 hg
    · intro g hg e
      obtain ⟨c1, hc1⟩ := ownsRow_obj q3 hg
      obtain ⟨c2, hc2⟩ := ownsRow_obj r2 e
      exact ne_type hc1 hc2 (by decide) rfl
    · intro g hg e
      exact (h.x.dj.1 g e).2 hg
    · rcases hs.lm g e with e1 | e1
      · exact h.x.dj.1 g e1
      · exact ⟨fun e2 => by have := mlt g (.inl e2); omega, fun e2 => by have := mlt g (.inr e2); omega⟩
  refine ⟨lo (by omega) h.p0, lo (by omega) h.p1, lo (by omega) h.p2, lo (by omega) h.p3, ⟨x4, lo (by omega) h4⟩, ⟨x5, lo (by omega) h5⟩, ⟨hs.typ, ⟨b6, lo (by omega) h6⟩, hs.c7, lo (by omega) h.book.c8, lo (by omega) h.book.c9, ⟨ys, ownsRow_kept hys hk noN⟩, ⟨zs, ownsRow_kept hzs hk noM⟩⟩, hB, h.ref.keptS hk hbr noL noPr,
    ⟨cb, (hk.block _ (Array.getElem?_eq_some_iff.1 hcb).1 hbb).trans hcb⟩, ⟨cs, (hk.block _ (Array.getElem?_eq_some_iff.1 hcs).1 hbs).trans hcs⟩, h.am, h.old.trans hold, h.pos, h.lbp, h.lbb, h.lbm, h.lbr, h.lla, h.lns, h.lnm, h.pf, hX, fun k hk2 => ?_, ?_⟩
  · rcases hk2 with e | e | e | e | e | e
    · exact (hs.ls k e).elim (fun e => apt (x1 k e)) fresh
    · exact (hs.lm k e).elim (fun e => apt (x2 k e)) fresh
    · exact apt (h.xa k (.inr (.inr (.inl e))))
    · exact apt (h.xa k (.inr (.inr (.inr (.inl e)))))
    · exact apt (h.xa k (.inr (.inr (.inr (.inr (.inl e))))))
    · exact apt (h.xa k (.inr (.inr (.inr (.inr (.inr e))))))
  · have q := h.xn
    exact ⟨hx, q.2⟩
end
end Go.Proofs.YtpkiefjanmfgfaaGreatDoor
namespace Go.Proofs.YtpkiefjanmfgfaaGreatDoor
open Go.RowKit Go.Maps

section
variable {W0 w w' : World} {bp bb bs bm br : Nat} {cf : Cf} {gn : Net} {la : Option Addr} {lc : Nat} {nsv nmv : Value} {nn : Nat} {L M : List Ent}
theorem PairAt.away {S : Nat → Prop} (h : PairAt W0 w bp bb bs bm br cf gn la lc nsv nmv nn L M) (hA : ∀ k, S k → Apart W0 k bp bb bs bm br gn la lc nsv nmv L M) (hk : Kept S w w') : PairAt W0 w' bp bb bs bm br cf gn la lc nsv nmv nn L M := by
  obtain ⟨x4, h4⟩ := h.p4
  obtain ⟨x5, h5⟩ := h.p5
  obtain ⟨cb, hcb⟩ := h.tb
  obtain ⟨cs, hcs⟩ := h.ts
  have h0 := h.pos
  have np : ¬ S bp := fun e => (hA _ e).p rfl
  have nb : ¬ S bb := fun e => (hA _ e).b rfl
  have ns : ¬ S bs := fun e => (hA _ e).s rfl
  refine ⟨hk.cell h.p0 np, hk.cell h.p1 np, hk.cell h.p2 np, hk.cell h.p3 np, ⟨x4, hk.cell h4 np⟩, ⟨x5, hk.cell h5 np⟩, h.book.keptS hk np (fun g hg e => (hA _ e).ns hg) (fun g hg e => (hA _ e).nm hg), h.base.keptS hk nb ns (fun e => (hA _ e).m rfl) (fun e => by have := (hA _ e).old; omega) (fun e he q => (hA _ q).mb e he rfl) (fun k hf e => (hA _ e).f hf), h.ref.keptS hk (fun e => (hA _ e).r rfl) (fun g hg e => (hA _ e).l hg) (fun e he q => (hA _ q).rb e he rfl),
    ⟨cb, (hk.block _ (Array.getElem?_eq_some_iff.1 hcb).1 nb).trans hcb⟩, ⟨cs, (hk.block _ (Array.getElem?_eq_some_iff.1 hcs).1 ns).trans hcs⟩, h.am, h.old.trans (hk.toBelow h.old.size (fun k e => (hA _ e).old)), h.pos, h.lbp, h.lbb, h.lbm, h.lbr, h.lla, h.lns, h.lnm, h.pf, h.x.keptS hk np (fun k hx e => (hA _ e).x hx), h.xa, h.xn⟩
end

theorem LentAt.keptS {S : Nat → Prop} {w0 w w' : World} {A : Nat} {mv : Value} {Z : Nat} {F : List (List Cnd)} {ks : List Nat} (h : LentAt w0 w A mv Z F ks) (hk : Kept S w w') (hS : ∀ k, S k → k < w0.heap.size ∨ (k ≠ A ∧ k ≠ Z ∧ k ∉ ks ∧ mv.ownBlock ≠ some k)) : LentAt w0 w' A mv Z F ks := by
  have st : ∀ {k : Nat} {o : Obj}, w.heap[k]? = some o → ¬ S k → w'.heap[k]? = some o := fun hk2 hn => (hk.block _ (Array.getElem?_eq_some_iff.1 hk2).1 hn).trans hk2
  have memk : ∀ i, i < F.length → ks.getD i 0 ∈ ks := fun i hi => by
    rw [List.getD_eq_getElem?_getD, List.getElem?_eq_getElem (by rw [h.len]; exact hi)]
    exact List.getElem_mem _
  refine ⟨st h.all (fun e => ?_), ownsRow_kept h.mine hk (fun g hg e => ?_), h.len, fun i hi => st (h.cls i hi) (fun e => ?_), h.nod, st h.z (fun e => ?_), h.zk, h.new, h.znew, h.anew, h.mnew⟩
  · rcases hS _ e with q | q
    · have := h.anew; omega
    · exact q.1 rfl
  · rcases hS _ e with q | q
    · have := h.mnew g hg; omega
    · exact q.2.2.2 hg
  · have hm := memk i hi
    rcases hS _ e with q | q
    · have := h.new _ hm; omega
    · exact q.2.2.1 hm
  · rcases hS _ e with q | q
    · have := h.znew; omega
    · exact q.2.1 rfl
theorem LentAt.filt {w0 w : World} {A : Nat} {mv : Value} {Z : Nat} {F : List (List Cnd)} {ks : List Nat} (h : LentAt w0 w A mv Z F ks) (hm : ∀ c ∈ F, c.length ≤ 17592186044416) (hn : F.length ≤ 17592186044416) : FiltAt w (.slice (some ⟨A, 0, none⟩) F.length (F.length + 1)) F := by
  refine ⟨_, _, rfl, by omega, hn, .inr ⟨A, 0, rfl, fun i hi => ?_⟩⟩
  have hz := zip_at cutS h.len hi
  have h2 := (List.getElem?_eq_some_iff.1 hz).1
  refine ⟨cutS (ks.getD i 0) (F.getD i []), ?_, (h.cls i hi).conds (hm _ (by rw [List.getD_eq_getElem?_getD, List.getElem?_eq_getElem hi]; exact List.getElem_mem hi))⟩
  simp only [World.cell?, h.all]
  simp [List.getElem?_append_left h2, hz]

set_option maxHeartbeats 400000 in
theorem looks31 (bb : Nat) (n : Int) (w : World) (b8 : w.cell? ⟨bb, 8, none⟩ = some (.int .i64 n)) : Calls Tryz.prog 31 #[.pointer (some ⟨bb, 0, none⟩)] w fun ev w' => ev = .returned (.int .i64 n) ∧ w = w' := by
  go_enter Tryz.func31, Tryz.ntmps31
  go_wp2
  go_ret
  exact ⟨rfl, rfl⟩
end Go.Proofs.YtpkiefjanmfgfaaGreatDoor
namespace Go.Proofs.YtpkiefjanmfgfaaGreatDoor
open Go.RowKit Go.Maps

def SeOk (cf : Cf) (gn : Net) (L : List Ent) (xs : List Int) (F : List (List Cnd)) (k beam : Int) (l : List Hit) (n : Int) : Prop :=
  (schCode cf.dim xs k beam F ≠ 0 → l = [] ∧ n = 0) ∧ (schCode cf.dim xs k beam F = 0 → l = (srR cf gn L xs F (max k beam)).2.take (min k ((srR cf gn L xs F (max k beam)).2.length : Int)).toNat ∧ n = ((srR cf gn L xs F (max k beam)).1.length : Int))

theorem searchU (bb bs bm : Nat) (cf : Cf) (gn : Net) (L : List Ent) (pv : Value) (xs : List Int) (k beam : Int) (fv : Value) (F : List (List Cnd)) (w : World) (h : BaseAt w bb bs bm cf gn L) (htb : ∃ cs, w.heap[bb]? = some (.cells cs 102 (0, 0))) (hts : ∃ cs, w.heap[bs]? = some (.cells cs 155 (0, 0))) (hr : IRow w pv xs) (hp : IntsAt w pv xs) (hf : FiltAt w fv F) (hlo : 0 ≤ gn.looks ∧ gn.looks ≤ 4000000000000000000) :
    Calls Tryz.prog 26 #[.pointer (some ⟨bb, 0, none⟩), pv, .int .i64 k, .int .i64 beam, .agg #[fv]] w fun ev w' => ∃ v l n, ev = .returned (.tuple #[v, .int .i64 (schCode cf.dim xs k beam F)]) ∧ HRow w' v l ∧ (∀ g, v.ownBlock = some g → w.heap.size ≤ g) ∧
      BaseAt w' bb bs bm cf { gn with looks := gn.looks + n } L ∧ Kept (fun k => k = bb) w w' ∧ (∃ cs, w'.heap[bb]? = some (.cells cs 102 (0, 0))) ∧ SeOk cf gn L xs F k beam l n := by
  by_cases hc : schCode cf.dim xs k beam F = 0
  · rw [hc]
    refine (search25_ok bb bs bm cf gn L pv xs k beam fv F w h htb hts hr hf hc hlo).mono ?_
    rintro ev w' ⟨v, rfl, h1, h2, h3, h4, h5, _⟩
    exact ⟨v, _, _, rfl, h1, h2, h3, h4, h5, fun e => absurd hc e, fun _ => ⟨rfl, rfl⟩⟩
  · refine (search25_no bb bs bm cf gn L pv xs k beam fv F w h hp hf _ rfl hc).mono ?_
    rintro ev w' ⟨rfl, hb⟩
    obtain ⟨cs, hcs⟩ := htb
    have hB := h.below hb
    refine ⟨_, [], 0, rfl, ⟨rfl, .inl ⟨rfl, rfl⟩⟩, fun g e => (by cases e), ?_, Kept.of_below _ hb, ⟨cs, (hb.block _ (heap_lt hcs)).trans hcs⟩, fun _ => ⟨rfl, rfl⟩, fun e => absurd e hc⟩
    rw [Int.add_zero]
    exact hB

section
variable {W0 w w' : World} {bp bb bs bm br : Nat} {cf : Cf} {gn : Net} {la : Option Addr} {lc : Nat} {nsv nmv : Value} {nn : Nat} {L M : List Ent}
theorem PairAt.looked {n : Int} (h : PairAt W0 w bp bb bs bm br cf gn la lc nsv nmv nn L M) (hk : Kept (fun k => k = bb) w w') (hB : BaseAt w' bb bs bm cf { gn with looks := n } L) (ht : ∃ cs, w'.heap[bb]? = some (.cells cs 102 (0, 0))) : PairAt W0 w' bp bb bs bm br cf { gn with looks := n } la lc nsv nmv nn L M := by
  obtain ⟨x4, h4⟩ := h.p4
  obtain ⟨x5, h5⟩ := h.p5
  obtain ⟨cb, hcb⟩ := h.tb
  obtain ⟨cs, hcs⟩ := h.ts
  obtain ⟨cp, hcp⟩ := h.book.typ
  obtain ⟨cr, hcr⟩ := h.ref.typ
  obtain ⟨ys, hys⟩ := h.book.hs
  obtain ⟨zs, hzs⟩ := h.book.hm
  have ne : ∀ {b : Nat} {c : Array Value} {e : TypeId}, w.heap[b]? = some (.cells c e (0, 0)) → e ≠ 102 → b ≠ bb := fun hb h1 => ne_of_elem hb hcb h1
  have np : bp ≠ bb := ne hcp (by decide)
  refine ⟨hk.cell h.p0 np, hk.cell h.p1 np, hk.cell h.p2 np, hk.cell h.p3 np, ⟨x4, hk.cell h4 np⟩, ⟨x5, hk.cell h5 np⟩, h.book.keptS hk np (fun g hg => ?_) (fun g hg => ?_), hB, h.ref.keptS hk (ne hcr (by decide)) (fun g hg => ?_) (fun e he => ?_), ht, ⟨cs, (hk.block _ (heap_lt hcs) (ne hcs (by decide))).trans hcs⟩, h.am, h.old.trans (hk.toBelow h.old.size (fun k e => by rw [e]; exact h.lbb)), h.pos, h.lbp, h.lbb, h.lbm, h.lbr, h.lla, h.lns, h.lnm, h.pf, h.x.keptS hk np (fun k hx => (h.xa k hx).b), fun k hx => ?_, h.xn⟩
  · obtain ⟨c, hc⟩ := ownsRow_obj hys hg
    exact ne hc (by decide)
  · obtain ⟨c, hc⟩ := ownsRow_obj hzs hg
    exact ne hc (by decide)
  · obtain ⟨c, hc⟩ := ownsRow_obj h.ref.row hg
    exact ne hc (by decide)
  · obtain ⟨c, hc⟩ := (h.ref.pts e he).obj
    exact ne hc (by decide)
  · have q := h.xa k hx
    exact ⟨q.old, q.p, q.b, q.s, q.m, q.r, q.ns, q.nm, q.l, q.mb, q.rb, q.f⟩
theorem PairAt.low (h : PairAt W0 w bp bb bs bm br cf gn la lc nsv nmv nn L M) (n : Int) : PairAt W0 ((w.setCell ⟨bp, 2, none⟩ (.int .i64 n)).setCell ⟨bp, 3, none⟩ (.int .i64 n)) bp bb bs bm br cf { gn with lows := n } la lc nsv nmv nn L M := by
  obtain ⟨x4, h4⟩ := h.p4
  obtain ⟨x5, h5⟩ := h.p5
  obtain ⟨cb, hcb⟩ := h.tb
  obtain ⟨cs, hcs⟩ := h.ts
  obtain ⟨cp, hcp⟩ := h.book.typ
  obtain ⟨cr, hcr⟩ := h.ref.typ
  have hk : Kept (fun k => k = bp) w ((w.setCell ⟨bp, 2, none⟩ (.int .i64 n)).setCell ⟨bp, 3, none⟩ (.int .i64 n)) := ((Kept.refl (fun k => k = bp) w).setCell (p := ⟨bp, 2, none⟩) (fun _ => rfl) _).setCell (p := ⟨bp, 3, none⟩) (fun _ => rfl) _
  have ne : ∀ {b : Nat} {c : Array Value} {e : TypeId}, w.heap[b]? = some (.cells c e (0, 0)) → e ≠ 41 → b ≠ bp := fun hb h1 => ne_of_elem hb hcp h1
  have far : ∀ k, k ≠ 2 → k ≠ 3 → ((w.setCell ⟨bp, 2, none⟩ (.int .i64 n)).setCell ⟨bp, 3, none⟩ (.int .i64 n)).cell? ⟨bp, k, none⟩ = w.cell? ⟨bp, k, none⟩ := fun k h2 h3 => (World.cell?_setCell_other _ _ _ _ (by simp <;> omega)).trans (World.cell?_setCell_other _ _ _ _ (by simp <;> omega))
  have c2 : (w.setCell ⟨bp, 2, none⟩ (.int .i64 n)).cell? ⟨bp, 2, none⟩ = some (.int .i64 n) := World.cell?_setCell_same _ _ _ h.p2
  have c3 : (w.setCell ⟨bp, 2, none⟩ (.int .i64 n)).cell? ⟨bp, 3, none⟩ = some (.int .i64 gn.lows) := (World.cell?_setCell_other _ _ _ _ (by simp)).trans h.p3
  have hpos := h.pos
  have hlbp := h.lbp
  have hB := h.base.keptS hk (ne hcb (by decide)) (ne hcs (by decide)) (fun e => h.base.map.mb_ne hcp e.symm) (by omega) (fun e he => by obtain ⟨c, hc⟩ := (h.base.map.pts e he).obj; exact ne hc (by decide)) (fun k hf => (h.pf k hf).2.1)
  refine ⟨(far 0 (by omega) (by omega)).trans h.p0, (far 1 (by omega) (by omega)).trans h.p1, (World.cell?_setCell_other _ _ _ _ (by simp)).trans c2, World.cell?_setCell_same _ _ _ c3, ⟨x4, (far 4 (by omega) (by omega)).trans h4⟩, ⟨x5, (far 5 (by omega) (by omega)).trans h5⟩, (h.book.setF (by omega) _).setF (by omega) _, ⟨hB.b0, hB.b2, hB.b3, hB.b4, hB.b5, hB.b6, hB.b7, hB.b8, hB.s0, hB.s1, hB.map, hB.hdl, hB.g, hB.ok, hB.lv, hB.few, hB.ints, hB.len, hB.crd, hB.drw, hB.foot, hB.cfok⟩, h.ref.keptS hk (ne hcr (by decide)) (fun g hg => ?_) (fun e he => ?_),
    ⟨cb, (hk.block _ (heap_lt hcb) (ne hcb (by decide))).trans hcb⟩, ⟨cs, (hk.block _ (heap_lt hcs) (ne hcs (by decide))).trans hcs⟩, h.am, h.old.trans (hk.toBelow h.old.size (fun k e => by rw [e]; exact h.lbp)), h.pos, h.lbp, h.lbb, h.lbm, h.lbr, h.lla, h.lns, h.lnm, h.pf, h.x.rows hk (fun k hx => (h.xa k hx).p) (fun o v ho hv => (far o (by omega) (by omega)).trans hv), fun k hx => ?_, h.xn⟩
  · obtain ⟨c, hc⟩ := ownsRow_obj h.ref.row hg
    exact ne hc (by decide)
  · obtain ⟨c, hc⟩ := (h.ref.pts e he).obj
    exact ne hc (by decide)
  · have q := h.xa k hx
    exact ⟨q.old, q.p, q.b, q.s, q.m, q.r, q.ns, q.nm, q.l, q.mb, q.rb, q.f⟩
end
end Go.Proofs.YtpkiefjanmfgfaaGreatDoor
