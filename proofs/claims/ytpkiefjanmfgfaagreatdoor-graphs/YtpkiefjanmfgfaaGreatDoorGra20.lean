import Derived.Test.YtpkiefjanmfgfaaGreatDoorGra01
import Derived.Test.YtpkiefjanmfgfaaGreatDoorGra02
import Derived.Test.YtpkiefjanmfgfaaGreatDoorGra06
import Derived.Test.YtpkiefjanmfgfaaGreatDoorGra12
import Derived.Test.YtpkiefjanmfgfaaGreatDoorGra13
import Derived.Test.YtpkiefjanmfgfaaGreatDoorGra15
import Derived.Test.YtpkiefjanmfgfaaGreatDoorGra18
import Derived.Test.YtpkiefjanmfgfaaGreatDoorGra19
namespace Go.Proofs.YtpkiefjanmfgfaaGreatDoor
open Go.RowKit Go.Maps

theorem FiltAt.clause {w : World} {a : Option Addr} {n cap : Nat} {F : List (List Cnd)} (h : FiltAt w (.slice a n cap) F) {i : Nat} (hi : i < F.length) : ∃ b off ua uc, a = some ⟨b, off, none⟩ ∧ w.cell? ⟨b, off + i, none⟩ = some (.slice ua (F.getD i []).length uc) ∧ CondsAt w (.slice ua (F.getD i []).length uc) (F.getD i []) := by
  obtain ⟨a', cap', e, _, _, hx⟩ := h
  simp only [Value.slice.injEq] at e
  obtain ⟨rfl, _, rfl⟩ := e
  rcases hx with rfl | ⟨b, off, rfl, hc⟩
  · exact absurd hi (Nat.not_lt_zero _)
  · obtain ⟨u, hu, hcu⟩ := hc i hi
    have h2 := hcu
    obtain ⟨ua, uc, rfl, _⟩ := h2
    exact ⟨b, off, ua, uc, rfl, hu, hcu⟩
theorem CondsAt.cond {w : World} {a : Option Addr} {n cap : Nat} {cs : List Cnd} (h : CondsAt w (.slice a n cap) cs) {i : Nat} (hi : i < cs.length) : ∃ b off, a = some ⟨b, off, none⟩ ∧ w.cell? ⟨b, off + i * 3, none⟩ = some (.int .i64 (cs.getD i (0, 0, 0)).1) ∧ w.cell? ⟨b, off + i * 3 + 1, none⟩ = some (.int .i64 (cs.getD i (0, 0, 0)).2.1) ∧ w.cell? ⟨b, off + i * 3 + 2, none⟩ = some (.int .i64 (cs.getD i (0, 0, 0)).2.2) := by
  obtain ⟨a', cap', e, _, _, hx⟩ := h
  simp only [Value.slice.injEq] at e
  obtain ⟨rfl, _, rfl⟩ := e
  rcases hx with rfl | ⟨b, off, rfl, hc⟩
  · exact absurd hi (Nat.not_lt_zero _)
  · exact ⟨b, off, rfl, hc i hi⟩

set_option maxHeartbeats 1000000 in
set_option maxRecDepth 20000 in
theorem holdsR (t o v t0 t1 : Int) (w : World) (ht : t = 0 ∨ t = 1) : Calls Tryz.prog 157 #[.agg #[.int .i64 t, .int .i64 o, .int .i64 v], .agg #[.int .i64 t0, .int .i64 t1]] w fun e w' => e = .returned (.bool (holdB t0 t1 (t, o, v))) ∧ Below w.heap.size w w' := by
  have hB : ∀ o1 o2, Below w.heap.size w ((w.alloc o1).alloc o2) := fun o1 o2 => ((Below.refl _ _).alloc (Nat.le_refl _) _).alloc (by simp) _
  have HV : Hid (holdB t0 t1 (t, o, v) = if o = 0 then decide ((if t = 0 then t0 else t1) = v) else if o = 1 then decide ((if t = 0 then t0 else t1) ≠ v) else if o = 2 then decide ((if t = 0 then t0 else t1) < v) else decide (v ≤ (if t = 0 then t0 else t1))) := rfl
  generalize holdB t0 t1 (t, o, v) = hv at HV
  rcases ht with rfl | rfl
  all_goals
    by_cases h0 : o = 0
    · subst h0
      go_enter Tryz.func157, Tryz.ntmps157
      go_wp2
      go_ret
      exact ⟨by rw [HV.out]; simp [BEq.beq], hB _ _⟩
    · have d0 : (o == 0) = false := by simpa using h0
      by_cases h1 : o = 1
      · subst h1
        go_enter Tryz.func157, Tryz.ntmps157
        go_wp2
        go_ret
        exact ⟨by rw [HV.out]; simp [bne, BEq.beq], hB _ _⟩
      · have d1 : (o == 1) = false := by simpa using h1
        by_cases h2 : o = 2
        · subst h2
          go_enter Tryz.func157, Tryz.ntmps157
          go_wp2
          go_ret
          exact ⟨by rw [HV.out]; simp, hB _ _⟩
        · have d2 : (o == 2) = false := by simpa using h2
          go_enter Tryz.func157, Tryz.ntmps157
          go_wp2
          go_ret
          exact ⟨by rw [HV.out]; simp [h0, h1, h2], hB _ _⟩

set_option maxHeartbeats 4000000 in
set_option maxRecDepth 20000 in
theorem wrongR (v : Value) (F : List (List Cnd)) (w : World) (h : FiltAt w v F) : Calls Tryz.prog 124 #[.agg #[v]] w fun e w' => e = .returned (.bool (!filtB F)) ∧ Below w.heap.size w w' := by
  have h' := h
  obtain ⟨a, cap, rfl, hcap, hm, _⟩ := h'
  have hB0 : Below w.heap.size w (w.alloc (.cells #[.slice a F.length cap] 47)) := (Below.refl _ _).alloc (Nat.le_refl _) _
  obtain ⟨fb, hfb⟩ : ∃ fb, fb = filtB F := ⟨_, rfl⟩
  rw [← hfb]
  by_cases h6 : F.length ≤ 6
  · have hd : decide (6 < (F.length : Int)) = false := decide_eq_false (by omega)
    have HCB : Hid (fb = F.all clauseB) := by
      show _ = _
      rw [hfb]
      unfold filtB
      simp [h6]
    have hz0 : (w.alloc (.cells #[.slice a F.length cap] 47)).heap[w.heap.size]? = some (.cells #[.slice a F.length cap] 47 (0, 0)) := heap_alloc_new _ _
    have HF := hide h
    have HB0 := hide hB0
    have HZ0 := hide hz0
    clear h hB0 hz0 hfb
    go_enter Tryz.func124, Tryz.ntmps124
    go_wp2
    generalize hwe : w.alloc (.cells #[.slice a F.length cap] 47) = w1 at HB0 HZ0 ⊢
    clear hwe
    go_loopw [3, 4, 5, 6, 7] (fun i _ _ _ _ wr => ∃ k : Nat, i = .int .i64 k ∧ k ≤ F.length ∧ Hid ((F.take k).all clauseB = true) ∧ Hid (Below w.heap.size w wr) ∧ Hid (wr.heap[w.heap.size]? = some (.cells #[.slice a F.length cap] 47 (0, 0)))) (fun i _ _ _ _ _ => F.length - (intOf i).toNat)
    case atStart => exact ⟨0, rfl, Nat.zero_le _, rfl, HB0.out, HZ0.out⟩
    case round =>
      obtain ⟨k, rfl, hk, HA, HB, HZ⟩ := hrel
      have z0 := cells_at HZ.out 0 rfl
      by_cases hlt : k < F.length
      · obtain ⟨b, off, ua, uc, rfl, hu, hcu⟩ := (HF.out.below HB.out).clause hlt
        have HS : Hid ((F.take (k + 1)).all clauseB = ((F.take k).all clauseB && clauseB (F.getD k []))) := hide (all_take_succ clauseB F k [] hlt)
        have HBD : Hid (clauseB (F.getD k []) = false → F.all clauseB = false) := fun h => all_bad hlt h
        generalize F.getD k [] = cs at hu hcu HS HBD
        by_cases hc6 : cs.length ≤ 6
        · have hd6 : decide (6 < (cs.length : Int)) = false := decide_eq_false (by omega)
          have HCC : Hid (clauseB cs = cs.all condB) := by
            show _ = _
            unfold clauseB
            simp [hc6]
          have HCU := hide hcu
          have HU := hide hu
          clear hu hcu z0
          have z0 := cells_at HZ.out 0 rfl
          have hu := HU.out
          go_wp2
          clear z0 hu
          go_loopw [4, 5, 6, 7] (fun i _ _ _ wq => ∃ j : Nat, i = .int .i64 j ∧ j ≤ cs.length ∧ Hid ((cs.take j).all condB = true) ∧ Hid (Below wr.heap.size wr wq)) (fun i _ _ _ _ => cs.length - (intOf i).toNat)
          case atStart => exact ⟨0, rfl, Nat.zero_le _, rfl, Below.refl _ _⟩
          case round =>
            rename World => wq
            obtain ⟨j, rfl, hj, HAJ, HBJ⟩ := hrel
            have z0 := cell_below (cells_at HZ.out 0 rfl) HBJ.out
            have hu := cell_below HU.out HBJ.out
            have HBW := hide (HB.out.trans (HBJ.out.mono HB.out.size))
            by_cases hjl : j < cs.length
            · obtain ⟨b2, off2, rfl, c0, c1, c2⟩ := (HCU.out.below HBJ.out).cond hjl
              have HSJ : Hid ((cs.take (j + 1)).all condB = ((cs.take j).all condB && condB (cs.getD j (0, 0, 0)))) := hide (all_take_succ condB cs j _ hjl)
              have HBDJ : Hid (condB (cs.getD j (0, 0, 0)) = false → cs.all condB = false) := fun h => all_bad hjl h
              generalize cs.getD j (0, 0, 0) = c at c0 c1 c2 HSJ HBDJ
              obtain ⟨t, o, x⟩ := c
              simp only at c0 c1 c2
              have HCD : Hid (condB (t, o, x) = (inB t 0 1 && inB o 0 3)) := rfl
              have hal : Below wq.heap.size wq (wq.alloc (.cells #[.int .i64 t, .int .i64 o, .int .i64 x] 72)) := (Below.refl _ _).alloc (Nat.le_refl _) _
              have HBA := hide (HBJ.out.trans (hal.mono HBJ.out.size))
              have HBWA := hide (HBW.out.trans (hal.mono HBW.out.size))
              clear hal
              cases h1 : inB t 0 1
              · have HBAD : Hid (fb = false) := by
                  show _ = _
                  rw [HCB.out]
                  refine HBD.out ?_
                  rw [HCC.out]
                  refine HBDJ.out ?_
                  rw [HCD.out, h1]; rfl
                go_wp2_with (go_at_call 67; refine (in_any _ _ _ _).mono ?_; rintro e w' ⟨rfl, rfl⟩)
                go_ret
                exact ⟨by rw [HBAD.out]; rfl, HBWA.out⟩
              · cases h2 : inB o 0 3
                · have HBAD : Hid (fb = false) := by
                    show _ = _
                    rw [HCB.out]
                    refine HBD.out ?_
                    rw [HCC.out]
                    refine HBDJ.out ?_
                    rw [HCD.out, h1, h2]; rfl
                  go_wp2_with (go_at_call 67; refine (in_any _ _ _ _).mono ?_; rintro e w' ⟨rfl, rfl⟩)
                  go_ret
                  exact ⟨by rw [HBAD.out]; rfl, HBWA.out⟩
                · go_wp2_with (go_at_call 67; refine (in_any _ _ _ _).mono ?_; rintro e w' ⟨rfl, rfl⟩)
                  refine ⟨⟨j + 1, by go_num, by omega, ?_, HBA.out⟩, by simp [intOf]; omega⟩
                  show _ = _
                  rw [HSJ.out, HAJ.out, HCD.out, h1, h2]; rfl
            · go_wp2
              obtain rfl : j = cs.length := by omega
              have hall := HAJ.out
              rw [List.take_length] at hall
              refine ⟨⟨k + 1, by go_num, by omega, ?_, HBW.out, (HBJ.out.block _ (heap_lt HZ.out)).trans HZ.out⟩, by simp [intOf]; omega⟩
              show _ = _
              rw [HS.out, HA.out, HCC.out, hall]; rfl
        · have hd6 : decide (6 < (cs.length : Int)) = true := decide_eq_true (by omega)
          have hcb : clauseB cs = false := by
            unfold clauseB
            simp [hc6]
          clear hcu
          go_wp2
          go_ret
          exact ⟨by rw [HCB.out, HBD.out hcb]; rfl, HB.out⟩
      · go_wp2
        go_ret
        obtain rfl : k = F.length := by omega
        have := HA.out
        rw [List.take_length] at this
        exact ⟨by rw [HCB.out, this]; rfl, HB.out⟩
  · have hd : decide (6 < (F.length : Int)) = true := decide_eq_true (by omega)
    have hcb : fb = false := by
      rw [hfb]
      unfold filtB
      simp [h6]
    go_enter Tryz.func124, Tryz.ntmps124
    go_wp2
    go_ret
    exact ⟨by rw [hcb]; rfl, hB0⟩
end Go.Proofs.YtpkiefjanmfgfaaGreatDoor
namespace Go.Proofs.YtpkiefjanmfgfaaGreatDoor
open Go.RowKit Go.Maps

set_option maxHeartbeats 4000000 in
set_option maxRecDepth 20000 in
theorem passesR (v : Value) (F : List (List Cnd)) (t0 t1 : Int) (w : World) (h : FiltAt w v F) (hok : F.all clauseB = true) : Calls Tryz.prog 125 #[.agg #[v], .agg #[.int .i64 t0, .int .i64 t1]] w fun e w' => e = .returned (.bool (passB F t0 t1)) ∧ Below w.heap.size w w' := by
  have h' := h
  obtain ⟨a, cap, rfl, hcap, hm, _⟩ := h'
  have hB0 : Below w.heap.size w ((w.alloc (.cells #[.slice a F.length cap] 47)).alloc (.cells #[.int .i64 t0, .int .i64 t1] 43)) := ((Below.refl _ _).alloc (Nat.le_refl _) _).alloc (by simp) _
  have hz0 : ((w.alloc (.cells #[.slice a F.length cap] 47)).alloc (.cells #[.int .i64 t0, .int .i64 t1] 43)).heap[w.heap.size]? = some (.cells #[.slice a F.length cap] 47 (0, 0)) := (Below.heap_alloc _ _ _ (by simp)).trans (heap_alloc_new _ _)
  have hz1 : ((w.alloc (.cells #[.slice a F.length cap] 47)).alloc (.cells #[.int .i64 t0, .int .i64 t1] 43)).heap[w.heap.size + 1]? = some (.cells #[.int .i64 t0, .int .i64 t1] 43 (0, 0)) := heap_alloc2_new _ _ _
  have HF := hide h
  have HB0 := hide hB0
  have HOK := hide hok
  have HZ0 := hide hz0
  have HZ1 := hide hz1
  obtain ⟨av, hav⟩ : ∃ av, av = passB F t0 t1 := ⟨_, rfl⟩
  have HAV := hide hav
  rw [← hav]
  clear h hB0 hok hz0 hz1 hav
  go_enter Tryz.func125, Tryz.ntmps125
  go_wp2
  generalize hwe : (w.alloc (.cells #[.slice a F.length cap] 47)).alloc (.cells #[.int .i64 t0, .int .i64 t1] 43) = w1 at HB0 HZ0 HZ1 ⊢
  clear hwe
  go_loopw [5, 6, 7, 8] (fun i _ _ _ wr => ∃ k : Nat, i = .int .i64 k ∧ k ≤ F.length ∧ Hid ((F.take k).any (fun cs => cs.all (holdB t0 t1)) = false) ∧ Hid (Below w.heap.size w wr) ∧ Hid (wr.heap[w.heap.size]? = some (.cells #[.slice a F.length cap] 47 (0, 0))) ∧ Hid (wr.heap[w.heap.size + 1]? = some (.cells #[.int .i64 t0, .int .i64 t1] 43 (0, 0)))) (fun i _ _ _ _ => F.length - (intOf i).toNat)
  case atStart => exact ⟨0, rfl, Nat.zero_le _, rfl, HB0.out, HZ0.out, HZ1.out⟩
  case round =>
    obtain ⟨k, rfl, hk, HA, HB, HZ, HT⟩ := hrel
    have z0 := cells_at HZ.out 0 rfl
    by_cases hlt : k < F.length
    · obtain ⟨b, off, ua, uc, rfl, hu, hcu⟩ := (HF.out.below HB.out).clause hlt
      have HS : Hid ((F.take (k + 1)).any (fun cs => cs.all (holdB t0 t1)) = ((F.take k).any (fun cs => cs.all (holdB t0 t1)) || (F.getD k []).all (holdB t0 t1))) := hide (any_take_succ (fun cs : List Cnd => cs.all (holdB t0 t1)) F k [] hlt)
      have HBD : Hid ((F.getD k []).all (holdB t0 t1) = true → F.any (fun cs => cs.all (holdB t0 t1)) = true) := fun h => any_hit (d := []) hlt h
      have hcb : (F.getD k []).all condB = true := by
        have := List.all_eq_true.1 HOK.out (F.getD k []) (by simp [List.getD_eq_getElem?_getD, hlt])
        unfold clauseB at this
        simp at this
        simpa using this.2
      have HCB := hide hcb
      clear hcb
      generalize F.getD k [] = cs at hu hcu HS HBD HCB
      have hcl : cs.length ≤ 17592186044416 := by
        obtain ⟨_, _, _, _, h2, _⟩ := hcu
        exact h2
      have HCU := hide hcu
      have HU := hide hu
      clear hcu hu
      go_wp2
      clear z0
      go_loopw [6, 7, 8] (fun al i _ wq => ∃ j : Nat, i = .int .i64 j ∧ j ≤ cs.length ∧ al = .bool ((cs.take j).all (holdB t0 t1)) ∧ Hid (Below wr.heap.size wr wq)) (fun _ i _ _ => cs.length - (intOf i).toNat)
      case atStart => exact ⟨0, rfl, Nat.zero_le _, rfl, Below.refl _ _⟩
      case round =>
        rename World => wq
        obtain ⟨j, rfl, hj, rfl, HBJ⟩ := hrel
        have z0 := cell_below (cells_at HZ.out 0 rfl) HBJ.out
        have hu := cell_below HU.out HBJ.out
        have HBW := hide (HB.out.trans (HBJ.out.mono HB.out.size))
        by_cases hjl : j < cs.length
        · obtain ⟨b2, off2, rfl, c0, c1, c2⟩ := (HCU.out.below HBJ.out).cond hjl
          have HSJ : Hid ((cs.take (j + 1)).all (holdB t0 t1) = ((cs.take j).all (holdB t0 t1) && holdB t0 t1 (cs.getD j (0, 0, 0)))) := hide (all_take_succ (holdB t0 t1) cs j _ hjl)
          have htc := tag_cases (List.all_eq_true.1 HCB.out (cs.getD j (0, 0, 0)) (by simp [List.getD_eq_getElem?_getD, hjl]))
          generalize cs.getD j (0, 0, 0) = c at c0 c1 c2 HSJ htc
          obtain ⟨t, o, x⟩ := c
          simp only at c0 c1 c2 htc
          have q0 := cell_below (cells_at HT.out 0 rfl) HBJ.out
          have q1 := cell_below (cells_at HT.out 1 rfl) HBJ.out
          have hhd := holdsR t o x t0 t1 wq.drew htc
          have HHD := hide hhd
          have HSB : Hid (∀ W, Below wq.heap.size wq W → W.cell? ⟨w.heap.size, 0, none⟩ = some (.slice (some ⟨b, off, none⟩) F.length cap) ∧ W.cell? ⟨b, off + k, none⟩ = some (.slice (some ⟨b2, off2, none⟩) cs.length uc) ∧ W.cell? ⟨b2, off2 + j * 3, none⟩ = some (.int .i64 t) ∧ W.cell? ⟨b2, off2 + j * 3 + 1, none⟩ = some (.int .i64 o) ∧ W.cell? ⟨b2, off2 + j * 3 + 2, none⟩ = some (.int .i64 x) ∧ W.cell? ⟨w.heap.size + 1, 0, none⟩ = some (.int .i64 t0) ∧ W.cell? ⟨w.heap.size + 1, 1, none⟩ = some (.int .i64 t1)) := fun W hW => ⟨cell_below z0 hW, cell_below hu hW, cell_below c0 hW, cell_below c1 hW, cell_below c2 hW, cell_below q0 hW, cell_below q1 hW⟩
          clear hhd c0 c1 c2 q0 q1
          as_aux_lemma =>
          generalize holdB t0 t1 (t, o, x) = hb at HHD HSJ
          generalize (cs.take j).all (holdB t0 t1) = ab at HSJ
          go_wp2
          clear z0 hu
          go_region_held3 (fun wx => wx.cell? ⟨w.heap.size, 0, none⟩ = some (.slice (some ⟨b, off, none⟩) F.length cap) ∧ wx.cell? ⟨b, off + k, none⟩ = some (.slice (some ⟨b2, off2, none⟩) cs.length uc) ∧ wx.cell? ⟨b2, off2 + j * 3, none⟩ = some (.int .i64 t) ∧ wx.cell? ⟨b2, off2 + j * 3 + 1, none⟩ = some (.int .i64 o) ∧ wx.cell? ⟨b2, off2 + j * 3 + 2, none⟩ = some (.int .i64 x) ∧ wx.cell? ⟨w.heap.size + 1, 0, none⟩ = some (.int .i64 t0) ∧ wx.cell? ⟨w.heap.size + 1, 1, none⟩ = some (.int .i64 t1))
            ((refine HSB.out _ ?_; repeat (first | with_reducible exact hb3 | exact Below.refl _ _ | refine Below.drew ?_)))
            (first | (go_at_call 157; refine HHD.out.mono ?_; rintro e3 w3 ⟨rfl, b3⟩; have hb3 : Below wq.heap.size wq w3 := Below.undrew b3))
          have HB3 := hide (HBJ.out.trans (hb3.mono HBJ.out.size))
          clear hb3 b3
          cases ab
          · go_wp2
            refine ⟨⟨j + 1, by go_num, by omega, ?_, HB3.out⟩, by simp [intOf]; omega⟩
            rw [HSJ.out]; rfl
          · go_wp2
            refine ⟨⟨j + 1, by go_num, by omega, ?_, HB3.out⟩, by simp [intOf]; omega⟩
            rw [HSJ.out]; simp
        · obtain rfl : j = cs.length := by omega
          have hal : cs.take cs.length = cs := List.take_length
          rw [hal]
          have HZ2 := hide ((HBJ.out.block _ (heap_lt HZ.out)).trans HZ.out)
          have HT2 := hide ((HBJ.out.block _ (heap_lt HT.out)).trans HT.out)
          generalize hgv : cs.all (holdB t0 t1) = gv at HS HBD
          clear hgv
          as_aux_lemma =>
          cases gv with
          | true =>
            go_wp2
            go_ret
            refine ⟨?_, HBW.out⟩
            rw [HAV.out]
            unfold passB
            rw [HBD.out (by first | exact rfl | exact trivial)]; rfl
          | false =>
            go_wp2
            refine ⟨⟨k + 1, by go_num, by omega, ?_, HBW.out, HZ2.out, HT2.out⟩, by simp [intOf]; omega⟩
            show _ = _
            rw [HS.out, HA.out]; rfl
    · have HAV2 : Hid (av = decide ((F.length : Int) = 0)) := by
        show _ = _
        obtain rfl : k = F.length := by omega
        have := HA.out
        rw [List.take_length] at this
        rw [HAV.out]
        unfold passB
        rw [this]
        simp [List.length_eq_zero_iff]
      go_wp2
      go_ret
      exact ⟨by rw [HAV2.out]; simp [BEq.beq], HB.out⟩

set_option maxHeartbeats 2000000 in
set_option maxRecDepth 20000 in
theorem refusedR (br : Nat) (cf : Cf) (la : Option Addr) (lc : Nat) (L : List Ent) (pv : Value) (xs : List Int) (k beam : Int) (fv : Value) (F : List (List Cnd)) (w : World) (h : RefAt w br cf la lc L) (hp : IntsAt w pv xs) (hf : FiltAt w fv F) :
    Calls Tryz.prog 76 #[.pointer (some ⟨br, 0, none⟩), pv, .int .i64 k, .int .i64 beam, .agg #[fv]] w fun e w' => e = .returned (.int .i64 (schCode cf.dim xs k beam F)) ∧ Below w.heap.size w w' := by
  have hB0 : Below w.heap.size w (w.alloc (.cells #[fv] 47)) := (Below.refl _ _).alloc (Nat.le_refl _) _
  have hpt := point59_any xs pv cf.dim br (w.alloc (.cells #[fv] 47)) (by
    obtain ⟨a, cap, rfl, h1, h2, h3⟩ := hp
    refine ⟨a, cap, rfl, h1, h2, h3.imp id ?_⟩
    rintro ⟨b, off, rfl, hc⟩
    exact ⟨b, off, rfl, fun i hi => cell_below (hc i hi) hB0⟩) (cell_below h.r0 hB0)
  have hwr := wrongR fv F (w.alloc (.cells #[fv] 47)) (hf.below hB0)
  obtain ⟨pa, pcap, rfl, _⟩ := hp
  have hf2 := hf
  obtain ⟨fa, fcap, rfl, _⟩ := hf2
  have HPT := hide hpt
  have HWR := hide hwr
  have HB0 := hide hB0
  have HSC : Hid (schCode cf.dim xs k beam F = if ptCode cf.dim xs ≠ 0 then ptCode cf.dim xs else if inB k 1 60 = true ∧ inB beam 1 100 = true then okCode (filtB F) else 6) := rfl
  clear hpt hf hB0 hwr h
  generalize schCode cf.dim xs k beam F = sc at HSC
  generalize filtB F = fb at HWR HSC
  generalize ptCode cf.dim xs = pc at HPT HSC
  go_enter Tryz.func76, Tryz.ntmps76
  go_wp2_with fail
  refine HPT.out.mono ?_
  rintro e1 w1 ⟨rfl, rfl⟩
  go_wp2_with fail
  refine HWR.out.mono ?_
  rintro e2 w2 ⟨rfl, hb2⟩
  have HB2 := hide (HB0.out.trans (hb2.mono HB0.out.size))
  clear hb2
  by_cases hpc : pc = 0
  · subst hpc
    have HSC2 : Hid (sc = if inB k 1 60 = true ∧ inB beam 1 100 = true then okCode fb else 6) := by
      have := HSC.out
      show sc = _
      simpa using this
    cases hk : inB k 1 60
    · go_wp2_with (go_at_call 67; refine (in_any _ _ _ _).mono ?_; rintro e w' ⟨rfl, rfl⟩)
      go_ret
      exact ⟨by rw [HSC2.out, hk, if_neg (by simp)]; rfl, HB2.out⟩
    · cases hb : inB beam 1 100
      · go_wp2_with (go_at_call 67; refine (in_any _ _ _ _).mono ?_; rintro e w' ⟨rfl, rfl⟩)
        go_ret
        exact ⟨by rw [HSC2.out, hb, if_neg (by simp)]; rfl, HB2.out⟩
      · cases fb
        · go_wp2_with (go_at_call 67; refine (in_any _ _ _ _).mono ?_; rintro e w' ⟨rfl, rfl⟩)
          go_ret
          exact ⟨by rw [HSC2.out, hk, hb, if_pos ⟨rfl, rfl⟩]; rfl, HB2.out⟩
        · go_wp2_with (go_at_call 67; refine (in_any _ _ _ _).mono ?_; rintro e w' ⟨rfl, rfl⟩)
          go_ret
          exact ⟨by rw [HSC2.out, hk, hb, if_pos ⟨rfl, rfl⟩]; rfl, HB2.out⟩
  · have HSC2 : Hid (sc = pc) := by
      have := HSC.out
      rw [if_pos hpc] at this
      exact this
    have hne : (pc != 0) = true := by simpa using hpc
    cases hk : inB k 1 60
    · go_wp2_with (go_at_call 67; refine (in_any _ _ _ _).mono ?_; rintro e w' ⟨rfl, rfl⟩)
      go_ret
      exact ⟨by rw [HSC2.out]; rfl, HB2.out⟩
    · go_wp2_with (go_at_call 67; refine (in_any _ _ _ _).mono ?_; rintro e w' ⟨rfl, rfl⟩)
      go_ret
      exact ⟨by rw [HSC2.out]; rfl, HB2.out⟩
end Go.Proofs.YtpkiefjanmfgfaaGreatDoor
namespace Go.Proofs.YtpkiefjanmfgfaaGreatDoor
open Go.RowKit

theorem IntsAt.cell {w : World} {a : Option Addr} {n c : Nat} {xs : List Int} (h : IntsAt w (.slice a n c) xs) {i : Nat} (hi : i < xs.length) : ∃ b off, a = some ⟨b, off, none⟩ ∧ w.cell? ⟨b, off + i, none⟩ = some (.int .i64 (xs.getD i 0)) := by
  obtain ⟨a', c', e, h1, h2, h3⟩ := h
  simp only [Value.slice.injEq] at e
  obtain ⟨rfl, rfl, rfl⟩ := e
  rcases h3 with rfl | ⟨b, off, rfl, hc⟩
  · simp at hi
  · exact ⟨b, off, rfl, hc i hi⟩

theorem IntsAt.belowD {w w' : World} {v : Value} {xs : List Int} (h : IntsAt w v xs) (hb : Below w.heap.size w w') : IntsAt w' v xs := by
  obtain ⟨a, cap, rfl, h1, h2, h3⟩ := h
  refine ⟨a, cap, rfl, h1, h2, h3.imp id ?_⟩
  rintro ⟨b, off, rfl, hc⟩
  exact ⟨b, off, rfl, fun i hi => Below.at hb (hc i hi) (block_lt_of_cell (hc i hi))⟩
theorem crd_get {l : List Int} (hl : ∀ x ∈ l, Crd x) (n : Nat) : Crd (l.getD n 0) := by
  rw [List.getD_eq_getElem?_getD]
  rcases Nat.lt_or_ge n l.length with h | h
  · rw [List.getElem?_eq_getElem h]; exact hl _ (List.getElem_mem h)
  · rw [List.getElem?_eq_none h]; unfold Crd; simp

set_option maxHeartbeats 2000000 in
set_option maxRecDepth 20000 in
theorem distR (br : Nat) (m : Int) (v1 : Value) (p q : List Int) (g gc : Nat) (w : World) (hm : m = 0 ∨ m = 1 ∨ m = 2) (r3 : w.cell? ⟨br, 3, none⟩ = some (.int .i64 m)) (h1 : IntsAt w v1 p) (h2 : Pts w g gc q) (hl : p.length = q.length) (hp : ∀ x ∈ p, Crd x) (hq : ∀ x ∈ q, Crd x) (h8 : p.length ≤ 100) :
    Calls Tryz.prog 126 #[.pointer (some ⟨br, 0, none⟩), v1, .slice (some ⟨g, 0, none⟩) q.length gc] w fun e w' => e = .returned (.int .i64 (distL m p q)) ∧ Below w.heap.size w w' := by
  have h1' := h1
  obtain ⟨a1, c1, rfl, _⟩ := h1'
  have H1 := hide h1
  have H2 := hide h2
  have HP := hide hp
  have HQ := hide hq
  have HL := hide hl
  clear h1 h2 hp hq hl
  go_enter Tryz.func126, Tryz.ntmps126
  go_wp2
  go_loopw [7, 8, 9, 30, 37, 46] (fun sm i _ _ _ _ wr => ∃ k : Nat, sm = .int .i64 (sumTo m p q k) ∧ i = .int .i64 k ∧ k ≤ p.length ∧ Hid (∃ n, wr = w.drewN n)) (fun _ i _ _ _ _ _ => p.length - (intOf i).toNat)
  case atStart => exact ⟨0, rfl, rfl, Nat.zero_le _, 0, rfl⟩
  case round =>
    obtain ⟨k, rfl, rfl, hk, hw⟩ := hrel
    obtain ⟨n0, hw0⟩ := id hw.out
    by_cases hlt : k < p.length
    · have hlt2 : k < q.length := by rw [← HL.out]; exact hlt
      obtain ⟨b, off, rfl, x1'⟩ := H1.out.cell hlt
      have x1 : wr.cell? ⟨b, off + k, none⟩ = some (.int .i64 (p.getD k 0)) := by rw [hw0]; exact x1'
      have x2 : wr.cell? ⟨g, k, none⟩ = some (.int .i64 (q.getD k 0)) := by
        rw [hw0]
        have := H2.out.cell k hlt2
        rwa [Nat.zero_add] at this
      have y3 : wr.cell? ⟨br, 3, none⟩ = some (.int .i64 m) := by rw [hw0]; exact r3
      have hc1 := crd_get HP.out k
      have hc2 := crd_get HQ.out k
      have hsm := sumTo_le (m := m) HP.out HQ.out k
      have HSS : Hid (sumTo m p q (k + 1) = sumTo m p q k + partI m (p.getD k 0) (q.getD k 0)) := rfl
      generalize sumTo m p q k = s at hsm HSS ⊢
      generalize p.getD k 0 = x at x1 hc1 HSS
      generalize q.getD k 0 = y at x2 hc2 HSS
      have hW : Hid (∀ j, ∃ n, wr.drewN j = w.drewN n) := fun j => ⟨n0 + j, by rw [hw0]; simp⟩
      clear hw0 hw x1'
      have hpr := prod_le hc1 hc2
      unfold Crd at hc1 hc2
      have hsq := sq_le (x := x - y) (by omega) (by omega)
      have w1 : IntKind.i64.wrap (x - y) = x - y := by rw [IntKind.wrap_i64]; omega
      have w3 : IntKind.i64.wrap ((x - y) * (x - y)) = (x - y) * (x - y) := by rw [IntKind.wrap_i64]; omega
      have w4 : IntKind.i64.wrap (s + (x - y) * (x - y)) = s + (x - y) * (x - y) := by rw [IntKind.wrap_i64]; omega
      have w5 : IntKind.i64.wrap (x * y) = x * y := by rw [IntKind.wrap_i64]; omega
      have w6 : IntKind.i64.wrap (s - x * y) = s - x * y := by rw [IntKind.wrap_i64]; omega
      have w7 : IntKind.i64.wrap (s + (x - y)) = s + (x - y) := by rw [IntKind.wrap_i64]; omega
      have w8 : IntKind.i64.wrap (-(x - y)) = -(x - y) := by rw [IntKind.wrap_i64]; omega
      have w9 : IntKind.i64.wrap (s + -(x - y)) = s + -(x - y) := by rw [IntKind.wrap_i64]; omega
      clear hsm hpr hsq
      rcases hm with rfl | rfl | rfl
      · go_wp2
        go_quiet (fail)
        go_wp2
        refine ⟨⟨k + 1, by rw [HSS.out]; simp [partI], by go_num, by omega, hW.out _⟩, by simp [intOf]; omega⟩
      · by_cases hd : x - y < 0
        · have hdd : decide (x - y < 0) = true := decide_eq_true hd
          go_wp2
          go_quiet (fail)
          go_wp2
          refine ⟨⟨k + 1, ?_, by go_num, by omega, hW.out _⟩, by simp [intOf]; omega⟩
          have e : partI 1 x y = -(x - y) := by unfold partI; rw [if_neg (by omega), if_pos rfl]; omega
          rw [HSS.out, e]
        · have hdd : decide (x - y < 0) = false := decide_eq_false hd
          go_wp2
          go_quiet (fail)
          go_wp2
          refine ⟨⟨k + 1, ?_, by go_num, by omega, hW.out _⟩, by simp [intOf]; omega⟩
          have e : partI 1 x y = x - y := by unfold partI; rw [if_neg (by omega), if_pos rfl]; omega
          rw [HSS.out, e]
      · go_wp2
        go_quiet (fail)
        go_wp2
        go_quiet (fail)
        go_wp2
        refine ⟨⟨k + 1, by rw [HSS.out]; simp [partI]; omega, by go_num, by omega, hW.out _⟩, by simp [intOf]; omega⟩
    · obtain rfl : k = p.length := by omega
      have hs := sumTo_all m p q HL.out
      have HS := hide hs
      have HW : Hid (Below w.heap.size w wr) := by rw [hw0]; exact below_drewN (Below.refl _ _) _
      clear hs hw0
      go_wp2
      go_ret
      exact ⟨by rw [HS.out]; rfl, HW.out⟩
end Go.Proofs.YtpkiefjanmfgfaaGreatDoor
namespace Go.Proofs.YtpkiefjanmfgfaaGreatDoor
open Go.RowKit

theorem lvl_cond (x links : Nat) (h : 2 ≤ links) : x ≤ 18446744073709551615 / links ↔ ¬ 0 < x * links / 18446744073709551616 := by
  rw [Nat.le_div_iff_mul_le (by omega)]
  have := Nat.div_pos_iff (a := x * links) (b := 18446744073709551616)
  omega

set_option maxHeartbeats 2000000 in
set_option maxRecDepth 20000 in
theorem levelR (br d links top : Nat) (w : World) (r2 : w.cell? ⟨br, 2, none⟩ = some (.int .i64 (links : Int))) (r5 : w.cell? ⟨br, 5, none⟩ = some (.int .i64 (top : Int))) (hd : d < 18446744073709551616) (hl2 : 2 ≤ links) (hl : links ≤ 1000) (ht : top ≤ 100) :
    Calls Tryz.prog 81 #[.pointer (some ⟨br, 0, none⟩), .int .u64 d] w fun e w' => e = .returned (.int .i64 (lvlR links top d)) ∧ w = w' := by
  have hcv : IntKind.u64.wrap (links : Int) = (links : Int) := by rw [IntKind.wrap_u64]; omega
  go_enter Tryz.func81, Tryz.ntmps81
  go_wp2
  go_loop [5, 6] (fun i dv => ∃ (k e : Nat), dv = .int .u64 e ∧ i = .int .i64 k ∧ k ≤ top ∧ e < 18446744073709551616 ∧ Hid (lvlR links top d = lvlR links (top - k) e + k)) (fun i _ => top - (intOf i).toNat)
  case atStart => exact ⟨0, d, rfl, rfl, Nat.zero_le _, hd, rfl⟩
  case round =>
    obtain ⟨k, e, rfl, rfl, hk, he, HE⟩ := hrel
    by_cases hlt : k < top
    · have hltd : decide ((k : Int) < (top : Int)) = true := decide_eq_true (by omega)
      have hstep : lvlR links (top - k) e = if 0 < e * links / 18446744073709551616 then 0 else lvlR links (top - (k + 1)) (e * links % 18446744073709551616) + 1 := by
        have e1 : top - k = (top - (k + 1)) + 1 := by omega
        rw [e1]; rfl
      have HST := hide hstep
      have hcd := lvl_cond e links hl2
      have hz : (links : Int) ≠ 0 := by omega
      clear hstep
      by_cases h0 : 0 < e * links / 18446744073709551616
      · have h1 : ¬ e ≤ 18446744073709551615 / links := fun h => hcd.1 h h0
        have h1d : decide ((e : Int) ≤ 18446744073709551615 / (links : Int)) = false := decide_eq_false (by
          rw [show (18446744073709551615 : Int) / (links : Int) = ((18446744073709551615 / links : Nat) : Int) from (by simp)]
          omega)
        have HH := hide h0
        clear h0 h1 hcd
        go_wp2
        go_ret
        exact ⟨by rw [HE.out, HST.out, if_pos HH.out]; simp, rfl⟩
      · have h1 : e ≤ 18446744073709551615 / links := hcd.2 h0
        have h2 : e * links < 18446744073709551616 := by
          have := Nat.div_pos_iff (a := e * links) (b := 18446744073709551616)
          omega
        have h1d : decide ((e : Int) ≤ 18446744073709551615 / (links : Int)) = true := decide_eq_true (by
          rw [show (18446744073709551615 : Int) / (links : Int) = ((18446744073709551615 / links : Nat) : Int) from (by simp)]
          omega)
        have h3 : IntKind.u64.wrap ((e : Int) * (links : Int)) = ((e * links : Nat) : Int) := by rw [IntKind.wrap_u64]; push_cast; omega
        have HH := hide h0
        have H2 := hide h2
        clear h0 h1 hcd h2
        go_wp2
        refine ⟨⟨k + 1, e * links, rfl, by go_num, by omega, H2.out, ?_⟩, by simp [intOf]; omega⟩
        show _ = _
        rw [HE.out, HST.out, if_neg HH.out, Nat.mod_eq_of_lt H2.out]; omega
    · have hltd : decide ((k : Int) < (top : Int)) = false := decide_eq_false (by omega)
      go_wp2
      go_ret
      obtain rfl : k = top := by omega
      exact ⟨by rw [HE.out, Nat.sub_self]; simp [lvlR], rfl⟩
end Go.Proofs.YtpkiefjanmfgfaaGreatDoor
namespace Go.Proofs.YtpkiefjanmfgfaaGreatDoor
open Go.RowKit Go.Maps

def hitsL (m : Int) (xs : List Int) (F : List (List Cnd)) (L : List Ent) : List Hit := (L.filter fun e => passB F e.t0 e.t1).map fun e => (e.id, distL m xs e.pt)
theorem hitsL_no {m : Int} {xs : List Int} {F : List (List Cnd)} {L : List Ent} {k : Nat} (hk : k < L.length) (h : passB F L[k].t0 L[k].t1 = false) : hitsL m xs F (L.take (k + 1)) = hitsL m xs F (L.take k) := by
  unfold hitsL
  rw [List.take_succ_eq_append_getElem hk, List.filter_append, List.map_append]
  simp [h]
theorem hitsL_yes {m : Int} {xs : List Int} {F : List (List Cnd)} {L : List Ent} {k : Nat} (hk : k < L.length) (h : passB F L[k].t0 L[k].t1 = true) : hitsL m xs F (L.take (k + 1)) = hitsL m xs F (L.take k) ++ [(L[k].id, distL m xs L[k].pt)] := by
  unfold hitsL
  rw [List.take_succ_eq_append_getElem hk, List.filter_append, List.map_append]
  simp [h]
theorem hitsL_len (m : Int) (xs : List Int) (F : List (List Cnd)) (L : List Ent) : (hitsL m xs F L).length ≤ L.length := by
  unfold hitsL
  simpa using List.length_filter_le _ _
theorem hitsL_lt {m : Int} {xs : List Int} {F : List (List Cnd)} {L : List Ent} (hr : Rising L) {k : Nat} (hk : k < L.length) : ∀ x ∈ hitsL m xs F (L.take k), x.1 < L[k].id := by
  intro x hx
  unfold hitsL at hx
  obtain ⟨e, he, rfl⟩ := List.mem_map.1 hx
  have he2 := (List.mem_filter.1 he).1
  obtain ⟨i, hi, rfl⟩ := List.mem_iff_getElem.1 he2
  simp only [List.getElem_take]
  have hi2 : i < k := by simp at hi; omega
  exact (List.pairwise_iff_getElem.1 hr) i k (by omega) hk hi2

theorem sink_sorted {A B : List Hit} {x : Hit} (hs : (A ++ B).Pairwise hle) (hb : ∀ b ∈ B, x.2 < b.2) (hid : ∀ a ∈ A, a.1 < x.1) (ha : A = [] ∨ ∃ A' y, A = A' ++ [y] ∧ y.2 ≤ x.2) : (A ++ x :: B).Pairwise hle := by
  rw [List.pairwise_append] at hs ⊢
  obtain ⟨h1, h2, h3⟩ := hs
  refine ⟨h1, List.pairwise_cons.2 ⟨fun b hb' => .inl (hb b hb'), h2⟩, fun a ha' y hy => ?_⟩
  rcases List.mem_cons.1 hy with rfl | hy
  · have hle2 : a.2 ≤ y.2 := by
      rcases ha with rfl | ⟨A', z, rfl, hz⟩
      · simp at ha'
      · rcases List.mem_append.1 ha' with h | h
        · have := (List.pairwise_append.1 h1).2.2 a h z (by simp)
          unfold hle at this
          omega
        · rw [List.mem_singleton.1 h]; exact hz
    have := hid a ha'
    unfold hle
    omega
  · exact h3 a ha' y hy
theorem nth_mid (A B : List Hit) (x : Hit) : nth (A ++ x :: B) A.length = x := by simp [nth, List.getD_eq_getElem?_getD]
theorem nth_last (A B : List Hit) (x y : Hit) : nth ((A ++ [y]) ++ x :: B) ((A ++ [y]).length - 1) = y := by simp [nth, List.getD_eq_getElem?_getD]
theorem sink_set (A B : List Hit) (x y : Hit) : (((A ++ [y]) ++ x :: B).set (A ++ [y]).length y).set ((A ++ [y]).length - 1) x = A ++ x :: y :: B := by
  simp

structure NrS (w wr : World) (fv v : Value) (l : List Hit) : Prop where
  row : HRow wr v l
  new : ∀ g, v.ownBlock = some g → w.heap.size < g
  below : Below w.heap.size w wr
  box : wr.heap[w.heap.size]? = some (.cells #[fv] 47 (0, 0))
theorem NrS.on {w wr wq : World} {fv v : Value} {l : List Hit} (h : NrS w wr fv v l) (hb : Below wr.heap.size wr wq) : NrS w wq fv v l :=
  ⟨ownsRow_below h.row hb, h.new, h.below.trans (hb.mono h.below.size), (hb.block _ (heap_lt h.box)).trans h.box⟩
theorem NrS.grown {w wr wq : World} {fv v : Value} {l : List Hit} {g cap : Nat} {x : Hit} (h : NrS w wr fv v l) (ho : wq.ownsRow 0 63 2 (.slice (some ⟨g, 0, none⟩) (l.length + 1) cap) (l.length + 1) (hcells l ++ [.int .i64 x.1, .int .i64 x.2])) (hg : wr.grownBy wq v.ownBlock) (hat : v.ownBlock = some g ∨ wr.heap.size ≤ g) : NrS w wq fv (.slice (some ⟨g, 0, none⟩) (l.length + 1) cap) (l ++ [x]) := by
  have hlt := heap_lt h.box
  refine ⟨?_, fun g' e => ?_, ?_, ?_⟩
  · unfold HRow
    rw [hcells_append, List.length_append]
    exact ho
  · obtain rfl : g = g' := by simpa [Value.ownBlock] using e
    exact hat.elim (h.new g) (fun e => by omega)
  · exact h.below.grown hg h.below.size (fun k e => Nat.le_of_lt (h.new k e))
  · exact (hg.block _ hlt (fun e => by have := h.new _ e.symm; omega)).trans h.box
theorem NrS.put {w wr : World} {fv : Value} {g n cap : Nat} {l : List Hit} (h : NrS w wr fv (.slice (some ⟨g, 0, none⟩) n cap) l) (hn : n = l.length) (k : Nat) (x : Hit) : NrS w ((wr.setCell ⟨g, k * 2, none⟩ (.int .i64 x.1)).setCell ⟨g, k * 2 + 1, none⟩ (.int .i64 x.2)) fv (.slice (some ⟨g, 0, none⟩) n cap) (l.set k x) := by
  have hg := h.new g rfl
  refine ⟨?_, h.new, (h.below.setCell (by exact Nat.le_of_lt hg) _).setCell (by exact Nat.le_of_lt hg) _, ?_⟩
  · unfold HRow
    rw [List.length_set]
    subst hn
    exact HRow.set h.row k x
  · rw [Below.heap_setCell _ _ _ _ (by show _ ≠ g; omega), Below.heap_setCell _ _ _ _ (by show _ ≠ g; omega)]
    exact h.box

set_option maxHeartbeats 4000000 in
set_option maxRecDepth 20000 in
theorem nearestR (br : Nat) (cf : Cf) (la : Option Addr) (lc : Nat) (L : List Ent) (pv : Value) (xs : List Int) (fv : Value) (F : List (List Cnd)) (w : World) (h : RefAt w br cf la lc L) (hp : IntsAt w pv xs) (hf : FiltAt w fv F) (hok : F.all clauseB = true) (hm : cf.metric = 0 ∨ cf.metric = 1 ∨ cf.metric = 2) (hx : ∀ x ∈ xs, Crd x) (hlen : ∀ e ∈ L, e.pt.length = xs.length) (hcrd : ∀ e ∈ L, ∀ x ∈ e.pt, Crd x) (h8 : xs.length ≤ 100) :
    Calls Tryz.prog 78 #[.pointer (some ⟨br, 0, none⟩), pv, .agg #[fv]] w fun ev w' => ∃ v l, ev = .returned v ∧ NrS w w' fv v l ∧ l.Pairwise hle ∧ l.Perm (hitsL cf.metric xs F L) := by
  have h' := h
  have hbr := h.lt
  obtain ⟨pa, pcap, rfl, _⟩ := id hp
  obtain ⟨fa, fcap, rfl, _⟩ := id hf
  have hS0 : NrS w (w.alloc (.cells #[.slice fa F.length fcap] 47)) (.slice fa F.length fcap) (.slice none 0 0) [] := ⟨⟨rfl, .inl ⟨rfl, rfl⟩⟩, fun g e => (by cases e), (Below.refl _ _).alloc (Nat.le_refl _) _, heap_alloc_new _ _⟩
  obtain ⟨i0, hi63, hz0, hz1, hz2⟩ := info_parts info63
  have H := hide h
  have HP := hide hp
  have HF := hide hf
  have HOK := hide hok
  have HX := hide hx
  have HLN := hide hlen
  have HCR := hide hcrd
  have HS0 := hide hS0
  have hsm := h.small
  clear h hp hf hok hx hlen hcrd hS0 h'
  go_enter Tryz.func78, Tryz.ntmps78
  go_wp2
  generalize hwe : w.alloc (.cells #[.slice fa F.length fcap] 47) = w1 at HS0 ⊢
  clear hwe
  go_loopw [7, 8, 9, 10, 11, 12] (fun v i _ _ _ _ wr => ∃ (k : Nat) (u : Value) (l : List Hit), u = v ∧ i = .int .i64 k ∧ k ≤ L.length ∧ Hid (NrS w wr (.slice fa F.length fcap) u l) ∧ Hid (l.Pairwise hle) ∧ Hid (l.Perm (hitsL cf.metric xs F (L.take k)))) (fun _ i _ _ _ _ _ => L.length - (intOf i).toNat)
  case atStart => exact ⟨0, _, [], rfl, rfl, Nat.zero_le _, HS0, List.Pairwise.nil, by simp [Hid, hitsL]⟩
  case round =>
    obtain ⟨k, v, l, hv, rfl, hk, HN, HPW, HPM⟩ := hrel
    subst hv
    have hR := H.out.below HN.out.below
    have r6 := hR.r6
    by_cases hlt : k < L.length
    · obtain ⟨g, rfl⟩ := hR.addr (by omega)
      have e0 := ref_cell hR.row hlt (j := 0) (by omega) rfl
      have e1 := ref_cell hR.row hlt (j := 1) (by omega) rfl
      have e2 := ref_cell hR.row hlt (j := 2) (by omega) rfl
      have e3 := ref_cell hR.row hlt (j := 3) (by omega) rfl
      have hmem : L[k] ∈ L := List.getElem_mem hlt
      have hids := hitsL_lt (m := cf.metric) (xs := xs) (F := F) H.out.rising hlt
      have hno := hitsL_no (m := cf.metric) (xs := xs) (F := F) hlt
      have hyes := hitsL_yes (m := cf.metric) (xs := xs) (F := F) hlt
      have hpt := hR.pts _ hmem
      have hln := HLN.out _ hmem
      have hcr := HCR.out _ hmem
      have hll : l.length ≤ 60 := by
        have h1 := HPM.out.length_eq
        have h2 := hitsL_len cf.metric xs F (L.take k)
        simp at h2
        omega
      generalize L[k] = e at *
      have HPS : Hid (∀ W, Below wr.heap.size wr W → Calls Tryz.prog 125 #[.agg #[.slice fa F.length fcap], .agg #[.int .i64 e.t0, .int .i64 e.t1]] W fun e' w' => e' = .returned (.bool (passB F e.t0 e.t1)) ∧ Below W.heap.size W w') := fun W hW => passesR _ F e.t0 e.t1 W ((HF.out.below HN.out.below).below hW) HOK.out
      have HDS : Hid (∀ W, Below wr.heap.size wr W → Calls Tryz.prog 126 #[.pointer (some ⟨br, 0, none⟩), .slice pa xs.length pcap, .slice (some ⟨e.rb, 0, none⟩) e.pt.length e.rc] W fun e' w' => e' = .returned (.int .i64 (distL cf.metric xs e.pt)) ∧ Below W.heap.size W w') := fun W hW =>
        distR br cf.metric _ xs e.pt e.rb e.rc W hm (cell_below hR.r3 hW) (IntsAt.belowD (IntsAt.belowD HP.out HN.out.below) hW) (ownsRow_below hpt hW) hln.symm HX.out hcr h8
      have b0 := cells_at HN.out.box 0 rfl
      have HSB : Hid (∀ W, Below wr.heap.size wr W → W.cell? ⟨br, 6, none⟩ = some (.slice (some ⟨g, 0, none⟩) L.length lc) ∧ W.cell? ⟨w.heap.size, 0, none⟩ = some (.slice fa F.length fcap) ∧ W.cell? ⟨g, k * 5 + 2, none⟩ = some (.int .i64 e.t0) ∧ W.cell? ⟨g, k * 5 + 3, none⟩ = some (.int .i64 e.t1)) := fun W hW => ⟨cell_below r6 hW, cell_below b0 hW, cell_below e2 hW, cell_below e3 hW⟩
      have HE : Hid (∀ W, Below wr.heap.size wr W → W.cell? ⟨br, 6, none⟩ = some (.slice (some ⟨g, 0, none⟩) L.length lc) ∧ W.cell? ⟨g, k * 5, none⟩ = some (.int .i64 e.id) ∧ W.cell? ⟨g, k * 5 + 1, none⟩ = some (.slice (some ⟨e.rb, 0, none⟩) e.pt.length e.rc)) := fun W hW => ⟨cell_below r6 hW, cell_below e0 hW, cell_below e1 hW⟩
      have HIDS := hide hids
      have HNO := hide hno
      have HYES := hide hyes
      clear hids hno hyes hpt hln hcr e0 e1 e2 e3 b0 hR
      generalize passB F e.t0 e.t1 = pb at HPS HNO HYES
      generalize distL cf.metric xs e.pt = dv at HDS HYES
      as_aux_lemma =>
      go_wp2
      clear r6
      go_region_held3 (fun wx => wx.cell? ⟨br, 6, none⟩ = some (.slice (some ⟨g, 0, none⟩) L.length lc) ∧ wx.cell? ⟨w.heap.size, 0, none⟩ = some (.slice fa F.length fcap) ∧ wx.cell? ⟨g, k * 5 + 2, none⟩ = some (.int .i64 e.t0) ∧ wx.cell? ⟨g, k * 5 + 3, none⟩ = some (.int .i64 e.t1))
        ((refine HSB.out _ ?_; repeat (first | with_reducible exact hb3 | exact Below.refl _ _ | refine Below.drew ?_)))
        (first | (go_at_call 125; refine (HPS.out _ (Below.refl _ _).drew).mono ?_; rintro e3 w3 ⟨rfl, b3⟩; have hb3 : Below wr.heap.size wr w3 := Below.undrew b3))
      have HB3 := hide hb3
      clear hb3 b3
      cases pb with
      | false =>
        go_wp2
        refine ⟨⟨k + 1, v, l, rfl, by go_num, by omega, HN.out.on HB3.out, HPW, by rw [HNO.out rfl]; exact HPM⟩, by simp [intOf]; omega⟩
      | true =>
        obtain ⟨q6, q0, q1⟩ := HE.out _ HB3.out
        go_wp2_with fail
        refine (HDS.out _ HB3.out).mono ?_
        rintro ev4 w4 ⟨rfl, hb4⟩
        have hb4w : Below wr.heap.size wr w4 := HB3.out.trans (hb4.mono HB3.out.size)
        obtain ⟨p6, p0, p1⟩ := HE.out _ hb4w
        have HN4 := hide (HN.out.on hb4w)
        clear q6 q0 q1 hb4 hb4w
        have hfit := row_fit l.length (by omega)
        go_wp2_with (at_builtin; refine wpList_append_lies _ rfl _ _ 58 rfl 0 63 i0 (.agg #[.int .i64 0, .int .i64 0]) 2 16 Tryz.underlying58 hi63 hz0 hz1 hz2 rfl (by decide) _ l.length (hcells l) rfl (HN4.out.row.alloc _) ⟨w4.heap.size, 0, none⟩ 1 1 [.int .i64 e.id, .int .i64 dv] rfl rfl (World.news_of_block (cs := #[.int .i64 e.id, .int .i64 dv]) (t := 63) (fr := (0, 0)) (heap_alloc_new _ _)) (by simp [Value.oneCell']) (by decide) hfit.1 hfit.2 (Nat.zero_le _) (w4.heap.size + 1) (by simp) ?_; intro g1 cap1 w5 ho1 hg1 hl1 hlt1; have HN5 := hide ((HN4.out.on ((Below.refl _ _).alloc (Nat.le_refl _) _)).grown (x := (e.id, dv)) ho1 hg1 (hl1.imp (fun e => e) (fun e => by simp; omega))); clear ho1 hg1 hl1)
        have HQ : Hid ((l ++ [(e.id, dv)]).Perm (hitsL cf.metric xs F (L.take (k + 1)))) := by
          show List.Perm _ _
          rw [HYES.out (by first | exact rfl | exact trivial)]
          exact HPM.out.append_right _
        have HID : Hid (∀ a ∈ l, a.1 < e.id) := fun a ha => HIDS.out a (HPM.out.mem_iff.1 ha)
        clear HPM HIDS HYES HNO HE HSB HPS HDS HN4 HN HB3 p6 p0 p1 hfit
        go_loopw [11, 12] (fun i _ wq => ∃ (A B : List Hit), i = .int .i64 A.length ∧ Hid (NrS w wq (.slice fa F.length fcap) (.slice (some ⟨g1, 0, none⟩) (l.length + 1) cap1) (A ++ (e.id, dv) :: B)) ∧ Hid (A ++ B = l) ∧ Hid (∀ b ∈ B, dv < b.2)) (fun i _ _ => (intOf i).toNat)
        case atStart => exact ⟨l, [], by go_num, HN5, by simp [Hid], fun b hb => absurd hb List.not_mem_nil⟩
        case round =>
          rename World => wq
          obtain ⟨A, B, rfl, HM, HAB, HBB⟩ := hrel
          have hlen : (A ++ (e.id, dv) :: B).length = l.length + 1 := by rw [← HAB.out]; simp; omega
          have hdone : ∀ W, NrS w W (.slice fa F.length fcap) (.slice (some ⟨g1, 0, none⟩) (l.length + 1) cap1) (A ++ (e.id, dv) :: B) → (A = [] ∨ ∃ A' y, A = A' ++ [y] ∧ y.2 ≤ dv) → ∃ (l_1 : List Hit), Hid (NrS w W (.slice fa F.length fcap) (.slice (some ⟨g1, 0, none⟩) (l.length + 1) cap1) l_1) ∧ Hid (l_1.Pairwise hle) ∧ Hid (l_1.Perm (hitsL cf.metric xs F (L.take (k + 1)))) := fun W hW hA => by
            refine ⟨_, hW, ?_, ?_⟩
            · exact sink_sorted (by rw [HAB.out]; exact HPW.out) HBB.out (fun a ha => HID.out a (by rw [← HAB.out]; simp [ha])) hA
            · refine List.Perm.trans ?_ HQ.out
              rw [← HAB.out, List.append_assoc]
              exact List.Perm.append_left _ (List.perm_append_singleton _ _).symm
          have HDN := hide hdone
          clear hdone
          rcases List.eq_nil_or_concat A with rfl | ⟨A', y, rfl⟩
          · have hd0 : decide ((0 : Int) < (([] : List Hit).length : Int)) = false := rfl
            go_wp2
            go_quiet (fail)
            go_wp2
            obtain ⟨l1, n1, n2, n3⟩ := HDN.out _ (HM.out.on (below_drewN (Below.refl _ _) _)) (.inl (by first | exact rfl | exact trivial))
            exact ⟨⟨k + 1, _, l1, rfl, by go_num, by omega, n1, n2, n3⟩, by simp [intOf]; omega⟩
          · have hl1 : (A' ++ [y]).length = A'.length + 1 := by simp
            rw [List.concat_eq_append] at *
            have hrow : wq.ownsRow 0 63 2 (.slice (some ⟨g1, 0, none⟩) (l.length + 1) cap1) (l.length + 1) (hcells (A' ++ [y] ++ (e.id, dv) :: B)) := by
              have := HM.out.row
              unfold HRow at this
              rwa [hlen] at this
            have x1 := HRow.at1 hrow (k := A'.length + 1) (by simp)
            have x0 := HRow.at0 hrow (k := A'.length + 1) (by simp)
            have y1 := HRow.at1 hrow (k := A'.length) (by simp)
            have y0 := HRow.at0 hrow (k := A'.length) (by simp)
            have nx : nth (A' ++ [y] ++ (e.id, dv) :: B) (A'.length + 1) = (e.id, dv) := by have := nth_mid (A' ++ [y]) B (e.id, dv); rwa [hl1] at this
            have ny : nth (A' ++ [y] ++ (e.id, dv) :: B) A'.length = y := by have := nth_last A' B (e.id, dv) y; rwa [hl1] at this
            rw [nx] at x1 x0
            rw [ny] at y1 y0
            simp only at x1 x0
            have hfz := ownsRow_frozen hrow
            have hgl := (hrow.lt g1 rfl).2
            have hd0 : decide ((0 : Int) < ((A' ++ [y]).length : Int)) = true := decide_eq_true (by simp)
            have hAl : A'.length < l.length := by rw [← HAB.out]; simp
            have HL1 := hide hl1
            have HLN := hide hlen
            clear hlen hrow nx ny
            rw [hl1] at hd0 ⊢
            clear hl1
            obtain ⟨yi, yd⟩ := y
            simp only at y1 y0
            by_cases hlt : dv < yd
            · have hlt2 : decide (dv < yd) = true := decide_eq_true hlt
              go_wp2
              go_quiet (fail)
              have HM2 := hide (HM.out.on (below_drewN (Below.refl _ _) nq))
              have u0 : (wq.drewN nq).cell? ⟨g1, (A'.length + 1) * 2, none⟩ = some (.int .i64 e.id) := x0
              have u1 : (wq.drewN nq).cell? ⟨g1, (A'.length + 1) * 2 + 1, none⟩ = some (.int .i64 dv) := x1
              have z0 : (wq.drewN nq).cell? ⟨g1, A'.length * 2, none⟩ = some (.int .i64 yi) := y0
              have z1 : (wq.drewN nq).cell? ⟨g1, A'.length * 2 + 1, none⟩ = some (.int .i64 yd) := y1
              have hfz2 : ∀ j, (wq.drewN nq).frozen? ⟨g1, j, none⟩ = false := hfz
              have hgl2 : g1 < (wq.drewN nq).heap.size := by simpa using hgl
              generalize wq.drewN nq = wz at HM2 u0 u1 z0 z1 hfz2 hgl2 ⊢
              clear x0 x1 y0 y1 hfz hgl HM HDN
              go_wp2
              have hq := (HM2.out.put HLN.out.symm (A'.length + 1) (yi, yd)).put (by rw [List.length_set]; exact HLN.out.symm) A'.length (e.id, dv)
              have hss := sink_set A' B (e.id, dv) (yi, yd)
              rw [HL1.out, Nat.add_sub_cancel] at hss
              rw [hss] at hq
              refine ⟨⟨A', (yi, yd) :: B, rfl, hq.on ((Below.refl _ _).alloc (Nat.le_refl _) _), by rw [← HAB.out]; simp [Hid], fun b hb => ?_⟩, by simp [intOf]⟩
              rcases List.mem_cons.1 hb with rfl | hb
              · exact hlt
              · exact HBB.out b hb
            · have hlt2 : decide (dv < yd) = false := decide_eq_false hlt
              go_wp2
              go_quiet (fail)
              go_wp2
              obtain ⟨l1, n1, n2, n3⟩ := HDN.out _ (HM.out.on (below_drewN (Below.refl _ _) _)) (.inr ⟨A', (yi, yd), by first | exact rfl | trivial, by show yd ≤ dv; omega⟩)
              exact ⟨⟨k + 1, _, l1, rfl, by go_num, by omega, n1, n2, n3⟩, by simp [intOf]; omega⟩
    · obtain rfl : k = L.length := by omega
      go_wp2
      go_ret
      exact ⟨_, l, rfl, HN.out, HPW.out, by have := HPM.out; rwa [List.take_length] at this⟩
end Go.Proofs.YtpkiefjanmfgfaaGreatDoor
namespace Go.Proofs.YtpkiefjanmfgfaaGreatDoor
open Go.RowKit Go.Maps

def placesL (cf : Cf) : List Ent → Int
  | [] => 0
  | e :: L => lvlOf cf e.draw + 1 + placesL cf L
theorem placesL_append (cf : Cf) : ∀ (L M : List Ent), placesL cf (L ++ M) = placesL cf L + placesL cf M
  | [], M => by simp [placesL]
  | e :: L, M => by rw [List.cons_append, placesL, placesL_append cf L M, placesL]; omega
theorem placesL_ge (cf : Cf) : ∀ (L : List Ent), (L.length : Int) ≤ placesL cf L
  | [] => by simp [placesL]
  | e :: L => by
    have := placesL_ge cf L
    have h : 0 ≤ lvlOf cf e.draw := by unfold lvlOf; omega
    simp only [placesL, List.length_cons]
    omega
theorem placesL_le {cf : Cf} (h : CfOk cf) : ∀ (L : List Ent), placesL cf L ≤ 6 * (L.length : Int)
  | [] => by simp [placesL]
  | e :: L => by
    have := placesL_le h L
    have := lvlOf_le h e.draw
    simp only [placesL, List.length_cons]
    omega

theorem levelR' (br : Nat) (cf : Cf) (d : Int) (w : World) (r2 : w.cell? ⟨br, 2, none⟩ = some (.int .i64 cf.links)) (r5 : w.cell? ⟨br, 5, none⟩ = some (.int .i64 cf.top)) (hd : 0 ≤ d ∧ d < 18446744073709551616) (hc : CfOk cf) :
    Calls Tryz.prog 81 #[.pointer (some ⟨br, 0, none⟩), .int .u64 d] w fun e w' => e = .returned (.int .i64 (lvlOf cf d)) ∧ w = w' := by
  have h1 := hc.l2
  have h2 := hc.l8
  have h3 := hc.t0
  have h4 := hc.t5
  have e1 : ((cf.links.toNat : Nat) : Int) = cf.links := by omega
  have e2 : ((cf.top.toNat : Nat) : Int) = cf.top := by omega
  have e3 : ((d.toNat : Nat) : Int) = d := by omega
  have := levelR br d.toNat cf.links.toNat cf.top.toNat w (by rw [e1]; exact r2) (by rw [e2]; exact r5) (by omega) (by omega) (by omega) (by omega)
  rw [e3] at this
  exact this

set_option maxHeartbeats 2000000 in
set_option maxRecDepth 20000 in
theorem placesR (bp br : Nat) (cf : Cf) (la : Option Addr) (lc : Nat) (L : List Ent) (w : World) (p1 : w.cell? ⟨bp, 1, none⟩ = some (.pointer (some ⟨br, 0, none⟩))) (h : RefAt w br cf la lc L) (hc : CfOk cf) (hd : ∀ e ∈ L, 0 ≤ e.draw ∧ e.draw < 18446744073709551616) :
    Calls Tryz.prog 80 #[.pointer (some ⟨bp, 0, none⟩)] w fun ev w' => ev = .returned (.int .i64 (placesL cf L)) ∧ Below w.heap.size w w' := by
  have r6 := h.r6
  have hsm := h.small
  have H := hide h
  have HC := hide hc
  have HD := hide hd
  clear h hc hd
  go_enter Tryz.func80, Tryz.ntmps80
  go_wp2
  go_loopw [3, 4, 5] (fun n i _ wr => ∃ k : Nat, i = .int .i64 k ∧ n = .int .i64 (placesL cf (L.take k)) ∧ k ≤ L.length ∧ Hid (∃ n, wr = w.drewN n)) (fun _ i _ _ => L.length - (intOf i).toNat)
  case atStart => exact ⟨0, rfl, rfl, Nat.zero_le _, 0, rfl⟩
  case round =>
    obtain ⟨k, rfl, rfl, hk, hw⟩ := hrel
    obtain ⟨n0, hw0⟩ := id hw.out
    have q1 : wr.cell? ⟨bp, 1, none⟩ = some (.pointer (some ⟨br, 0, none⟩)) := by rw [hw0]; exact p1
    have q6 : wr.cell? ⟨br, 6, none⟩ = some (.slice la L.length lc) := by rw [hw0]; exact r6
    by_cases hlt : k < L.length
    · obtain ⟨g, rfl⟩ := H.out.addr (by omega)
      have e4 := ref_cell H.out.row hlt (j := 4) (by omega) rfl
      have q4 : wr.cell? ⟨g, k * 5 + 4, none⟩ = some (.int .u64 L[k].draw) := by rw [hw0]; exact e4
      have hlv := levelR' br cf L[k].draw wr.drew (by rw [hw0]; exact H.out.r2) (by rw [hw0]; exact H.out.r5) (HD.out _ (List.getElem_mem hlt)) HC.out
      have hst : placesL cf (L.take (k + 1)) = placesL cf (L.take k) + (lvlOf cf L[k].draw + 1) := by
        rw [List.take_succ_eq_append_getElem hlt, placesL_append]; simp [placesL]
      have hl := lvlOf_le HC.out L[k].draw
      have h1 := placesL_le HC.out (L.take k)
      have h2 := placesL_ge cf (L.take k)
      have h3 : (L.take k).length = k := by simp; omega
      rw [h3] at h1 h2
      generalize lvlOf cf L[k].draw = lv at hlv hst hl
      generalize L[k].draw = dr at q4 hlv
      generalize placesL cf (L.take k) = s at h1 h2 hst ⊢
      have HLV := hide hlv
      have HST := hide hst
      have w1 : IntKind.i64.wrap (s + lv) = s + lv := by rw [IntKind.wrap_i64]; omega
      have w2 : IntKind.i64.wrap (s + lv + 1) = s + lv + 1 := by rw [IntKind.wrap_i64]; omega
      have hW : Hid (∀ j, ∃ n, wr.drewN j = w.drewN n) := fun j => ⟨n0 + j, by rw [hw0]; simp⟩
      clear hlv hst hl h1 h2 h3 hw0 hw e4
      go_wp2
      go_region_held3 (fun wx => wx.cell? ⟨bp, 1, none⟩ = some (.pointer (some ⟨br, 0, none⟩)) ∧ wx.cell? ⟨br, 6, none⟩ = some (.slice (some ⟨g, 0, none⟩) L.length lc) ∧ wx.cell? ⟨g, k * 5 + 4, none⟩ = some (.int .u64 dr))
        (exact ⟨q1, q6, q4⟩)
        (first | (go_at_call 81; refine HLV.out.mono ?_; rintro e3 w3 ⟨rfl, rfl⟩))
      go_wp2
      refine ⟨⟨k + 1, by go_num, by rw [HST.out]; simp; omega, by omega, hW.out 1⟩, by simp [intOf]; omega⟩
    · obtain rfl : k = L.length := by omega
      have HW : Hid (Below w.heap.size w wr) := by rw [hw0]; exact below_drewN (Below.refl _ _) _
      have ht : L.take L.length = L := List.take_length
      rw [ht]
      clear hw0 ht
      go_wp2
      go_ret
      exact ⟨rfl, HW.out⟩
end Go.Proofs.YtpkiefjanmfgfaaGreatDoor
