import Derived.Laws.CopyOwn
import Derived.Deep.Cut
import Derived.Deep.DeepMust
import Derived.Test.YtpkiefjanmfgfaaGreatDoorQui02
import Derived.Test.YtpkiefjanmfgfaaGreatDoorQui09
import Derived.Test.YtpkiefjanmfgfaaGreatDoorQui13
namespace Go.Proofs.YtpkiefjanmfgfaaGreatDoor
open Go.RowKit Go.Maps

theorem any_take_succ {α : Type} (p : α → Bool) (xs : List α) (k : Nat) (d : α) (h : k < xs.length) : (xs.take (k + 1)).any p = ((xs.take k).any p || p (xs.getD k d)) := by
  rw [List.take_succ_eq_append_getElem h, List.any_append]
  simp [List.getD_eq_getElem?_getD, h]
theorem any_hit {α : Type} {p : α → Bool} {xs : List α} {k : Nat} {d : α} (h : k < xs.length) (hb : p (xs.getD k d) = true) : xs.any p = true := by
  rw [List.any_eq_true]
  refine ⟨xs.getD k d, ?_, hb⟩
  simp [List.getD_eq_getElem?_getD, h]

set_option maxHeartbeats 2000000 in
set_option maxRecDepth 20000 in
theorem passes52 (v : Value) (F : List (List Cnd)) (t0 t1 : Int) (w : World) (h : FiltAt w v F) (hok : F.all clauseB = true) : Calls Tryz.prog 55 #[.agg #[v], .agg #[.int .i64 t0, .int .i64 t1]] w fun e w' => e = .returned (.bool (passB F t0 t1)) ∧ Below w.heap.size w w' := by
  obtain ⟨a, cap, rfl, hcap, hm, hx⟩ := h
  have hB0 : Below w.heap.size w ((w.alloc (.cells #[.slice a F.length cap] 47)).alloc (.cells #[.int .i64 t0, .int .i64 t1] 43)) := ((Below.refl _ _).alloc (Nat.le_refl _) _).alloc (by simp) _
  have hz0 : ((w.alloc (.cells #[.slice a F.length cap] 47)).alloc (.cells #[.int .i64 t0, .int .i64 t1] 43)).heap[w.heap.size]? = some (.cells #[.slice a F.length cap] 47 (0, 0)) := (Below.heap_alloc _ _ _ (by simp)).trans (heap_alloc_new _ _)
  have hz1 : ((w.alloc (.cells #[.slice a F.length cap] 47)).alloc (.cells #[.int .i64 t0, .int .i64 t1] 43)).heap[w.heap.size + 1]? = some (.cells #[.int .i64 t0, .int .i64 t1] 43 (0, 0)) := heap_alloc2_new _ _ _
  have HX := hide hx
  have HB0 := hide hB0
  have HOK := hide hok
  have HZ0 := hide hz0
  have HZ1 := hide hz1
  obtain ⟨av, hav⟩ : ∃ av, av = passB F t0 t1 := ⟨_, rfl⟩
  have HAV := hide hav
  rw [← hav]
  clear hx hB0 hok hz0 hz1 hav
  go_enter Tryz.func55, Tryz.ntmps55
  go_wp2
  generalize hwe : (w.alloc (.cells #[.slice a F.length cap] 47)).alloc (.cells #[.int .i64 t0, .int .i64 t1] 43) = w1 at HB0 HZ0 HZ1 ⊢
  clear hwe
  go_loopw [6, 10] (fun _ i wr => ∃ k : Nat, i = .int .i64 k ∧ k ≤ F.length ∧ Hid ((F.take k).any (fun cs => cs.all (holdB t0 t1)) = false) ∧ Hid (Below w.heap.size w wr) ∧ Hid (wr.heap[w.heap.size]? = some (.cells #[.slice a F.length cap] 47 (0, 0))) ∧ Hid (wr.heap[w.heap.size + 1]? = some (.cells #[.int .i64 t0, .int .i64 t1] 43 (0, 0)))) (fun _ i _ => F.length - (intOf i).toNat)
  case atStart => exact ⟨0, rfl, Nat.zero_le _, rfl, HB0.out, HZ0.out, HZ1.out⟩
  case round =>
    obtain ⟨k, rfl, hk, HA, HB, HT0, HT1⟩ := hrel
    by_cases hlt : k < F.length
    · obtain ⟨b, off, rfl, hc⟩ : ∃ b off, a = some ⟨b, off, none⟩ ∧ ∀ i, i < F.length → ∃ u, w.cell? ⟨b, off + i, none⟩ = some u ∧ CondsAt w u (F.getD i []) := by
        rcases HX.out with rfl | h
        · exact absurd hlt (Nat.not_lt_zero _)
        · exact h
      obtain ⟨u, hu, hcu⟩ := hc k hlt
      have y0 := cell_below hu HB.out
      have hcr := hcu.below HB.out
      have HS : Hid ((F.take (k + 1)).any (fun cs => cs.all (holdB t0 t1)) = ((F.take k).any (fun cs => cs.all (holdB t0 t1)) || (F.getD k []).all (holdB t0 t1))) := hide (any_take_succ (fun cs : List Cnd => cs.all (holdB t0 t1)) F k [] hlt)
      have HBD : Hid ((F.getD k []).all (holdB t0 t1) = true → F.any (fun cs => cs.all (holdB t0 t1)) = true) := fun h => any_hit (d := []) hlt h
      have hcb : (F.getD k []).all condB = true := by
        have := List.all_eq_true.1 HOK.out (F.getD k []) (by simp [List.getD_eq_getElem?_getD, hlt])
        unfold clauseB at this
        simp at this
        simpa using this.2
      generalize F.getD k [] = cs at hcr HS HBD hcb
      have hal := allHold98 u cs t0 t1 wr hcr hcb
      obtain ⟨ua, uc, rfl, _⟩ := hcr
      have q0 := cells_at HT1.out 0 rfl
      have q1 := cells_at HT1.out 1 rfl
      have HAL := hide hal
      clear hal hc hu hcu hcb
      generalize cs.all (holdB t0 t1) = hv at HAL HS HBD
      go_wp2_with fail
      refine HAL.out.mono ?_
      rintro e3 w3 ⟨rfl, hb3⟩
      have HB3 := hide (HB.out.trans (hb3.mono HB.out.size))
      have HT03 := hide ((hb3.block _ (heap_lt HT0.out)).trans HT0.out)
      have HT13 := hide ((hb3.block _ (heap_lt HT1.out)).trans HT1.out)
      clear hb3 y0 q0 q1
      cases hv with
      | true =>
        go_wp2
        go_ret
        refine ⟨?_, HB3.out⟩
        rw [HAV.out]
        unfold passB
        rw [HBD.out (by first | exact rfl | exact trivial)]; rfl
      | false =>
        go_wp2
        refine ⟨⟨k + 1, by go_num, by omega, ?_, HB3.out, HT03.out, HT13.out⟩, by simp [intOf]; omega⟩
        show _ = _
        rw [HS.out, HA.out]; rfl
    · have z0 := cells_at HT0.out 0 rfl
      have HAV2 : Hid (av = decide ((F.length : Int) = 0)) := by
        show _ = _
        obtain rfl : k = F.length := by omega
        have := HA.out
        rw [List.take_length] at this
        rw [HAV.out]
        unfold passB
        rw [this]
        simp [List.length_eq_zero_iff]
      clear HX
      go_wp2
      go_ret
      exact ⟨by rw [HAV2.out]; simp [BEq.beq], HB.out⟩

theorem hcells_take_src {w : World} {g n cap : Nat} {l : List Hit} (h : w.ownsRow 0 63 2 (.slice (some ⟨g, 0, none⟩) n cap) n (hcells l)) {m : Nat} : ∀ j u, (hcells (l.take m))[j]? = some u → w.cell? ((⟨g, 0, none⟩ : Addr).add j) = some u := by
  intro j u hj
  rw [addr_add, Nat.zero_add]
  refine ownsRow_cell h ?_
  have e : hcells l = hcells (l.take m) ++ hcells (l.drop m) := by
    rw [← hcells_append, List.take_append_drop]
  rw [e, List.getElem?_append_left (List.getElem?_eq_some_iff.1 hj).1]
  exact hj
set_option maxHeartbeats 1000000 in
theorem cloneH (sa : Option Addr) (xs : List Hit) (cap : Nat) (w : World) (hl : xs.length ≤ 1000) (hsrc : ∃ g, sa = some ⟨g, 0, none⟩ ∧ ∀ j u, (hcells xs)[j]? = some u → w.cell? ((⟨g, 0, none⟩ : Addr).add j) = some u) :
    Calls Tryz.prog 60 #[.slice sa xs.length cap] w fun e w' => ∃ v', e = .returned v' ∧ HRow w' v' xs ∧ (∀ g, v'.ownBlock = some g → w.heap.size ≤ g) ∧ Below w.heap.size w w' := by
  obtain ⟨g, rfl, hs⟩ := hsrc
  obtain ⟨i0, hi, hz0, hz1, hz2⟩ := info_parts info63
  have hn := fun w => Go.run_eql_slice_nil (P := Tryz.prog) w 58 63 (some ⟨g, 0, none⟩) xs.length cap Tryz.underlying58
  have hown := World.ownsRow_made (base := w.heap.size) (e := 63) (size := 2) w #[] 0 (Nat.le_refl _) (by simp [maxLen]) (by simp)
  have HN : Hid (0 < xs.length → ∃ a, (some ⟨g, 0, none⟩ : Option Addr) = some a ∧ ∀ j u, (hcells xs)[j]? = some u → (w.alloc (.cells #[] 63)).cell? (a.add j) = some u) := fun _ => ⟨_, rfl, fun j u hj => by
    have h1 := hs j u hj
    rw [addr_add] at h1 ⊢
    exact cell_below h1 ((Below.refl _ _).alloc (Nat.le_refl _) _)⟩
  clear hs
  go_enter Tryz.func60, Tryz.ntmps60
  go_wp2_with (at_builtin; go_must (refine wpList_append_any _ rfl _ _ 58 rfl w.heap.size 63 i0 (.agg #[.int .i64 0, .int .i64 0]) 2 16 Tryz.underlying58 hi hz0 hz1 hz2 rfl (by decide) (.slice (some ⟨w.heap.size, 0, none⟩) 0 0) 0 [] rfl hown (some ⟨g, 0, none⟩) xs.length cap (hcells xs) rfl (hcells_length xs) HN.out (hcells_one xs) (by unfold maxLen; omega) (by omega) (by simp) ?_); intro v1 w1 ho hgr hat; have HO := hide ho; have HG := hide hgr; have HAT := hide hat; clear ho hgr hat)
  go_ret
  refine ⟨_, rfl, ?_, fun g' e => ?_, ?_⟩
  · have := HO.out
    rw [Nat.zero_add, List.nil_append] at this
    exact ownsRow_zero this
  · have e' : v1.ownBlock = some g' := e
    rcases HAT.out with h | h
    · rw [h] at e'
      have : w.heap.size = g' := by simpa [Value.ownBlock] using e'
      omega
    · rw [h] at e'
      have : w.heap.size + 1 = g' := by simpa using e'
      omega
  · exact ((Below.refl w.heap.size w).alloc (Nat.le_refl _) _).grown HG.out (by simp) (fun k hk => Nat.le_of_eq (by simpa [Value.ownBlock] using hk))
set_option maxHeartbeats 1000000 in
theorem cloneH_nil (w : World) : Calls Tryz.prog 60 #[.slice none 0 0] w fun e w' => e = .returned (.slice none 0 0) ∧ w = w' := by
  have hn := fun w => Go.run_eql_slice_nil (P := Tryz.prog) w 58 63 none 0 0 Tryz.underlying58
  go_enter Tryz.func60, Tryz.ntmps60
  go_wp2
  go_ret
  exact ⟨rfl, rfl⟩
end Go.Proofs.YtpkiefjanmfgfaaGreatDoor
namespace Go.Proofs.YtpkiefjanmfgfaaGreatDoor
open Go.RowKit Go.Maps

theorem FiltAt.clause {w : World} {a : Option Addr} {n cap : Nat} {F : List (List Cnd)} (h : FiltAt w (.slice a n cap) F) {i : Nat} (hi : i < F.length) : ∃ b off ua uc, a = some ⟨b, off, none⟩ ∧ w.cell? ⟨b, off + i, none⟩ = some (.slice ua (F.getD i []).length uc) ∧ CondsAt w (.slice ua (F.getD i []).length uc) (F.getD i []) := by
  obtain ⟨a', cap', e, _, _, hx⟩ := h
  simp only [Value.slice.injEq] at e
  obtain ⟨rfl, _, rfl⟩ := e
  rcases hx with rfl | ⟨b, off, rfl, hc⟩
  · exact absurd hi (Nat.not_lt_zero _)
  · obtain ⟨u, hu, hcu⟩ := hc i hi
    have h2 := hcu
    obtain ⟨ua, uc, rfl, _⟩ := h2
    exact ⟨b, off, ua, uc, rfl, hu, hcu⟩
theorem CondsAt.cond {w : World} {a : Option Addr} {n cap : Nat} {cs : List Cnd} (h : CondsAt w (.slice a n cap) cs) {i : Nat} (hi : i < cs.length) : ∃ b off, a = some ⟨b, off, none⟩ ∧ w.cell? ⟨b, off + i * 3, none⟩ = some (.int .i64 (cs.getD i (0, 0, 0)).1) ∧ w.cell? ⟨b, off + i * 3 + 1, none⟩ = some (.int .i64 (cs.getD i (0, 0, 0)).2.1) ∧ w.cell? ⟨b, off + i * 3 + 2, none⟩ = some (.int .i64 (cs.getD i (0, 0, 0)).2.2) := by
  obtain ⟨a', cap', e, _, _, hx⟩ := h
  simp only [Value.slice.injEq] at e
  obtain ⟨rfl, _, rfl⟩ := e
  rcases hx with rfl | ⟨b, off, rfl, hc⟩
  · exact absurd hi (Nat.not_lt_zero _)
  · exact ⟨b, off, rfl, hc i hi⟩

set_option maxHeartbeats 1000000 in
set_option maxRecDepth 20000 in
theorem holdsR (t o v t0 t1 : Int) (w : World) (ht : t = 0 ∨ t = 1) : Calls Tryz.prog 157 #[.agg #[.int .i64 t, .int .i64 o, .int .i64 v], .agg #[.int .i64 t0, .int .i64 t1]] w fun e w' => e = .returned (.bool (holdB t0 t1 (t, o, v))) ∧ Below w.heap.size w w' := by
  have hB : ∀ o1 o2, Below w.heap.size w ((w.alloc o1).alloc o2) := fun o1 o2 => ((Below.refl _ _).alloc (Nat.le_refl _) _).alloc (by simp) _
  have HV : Hid (holdB t0 t1 (t, o, v) = if o = 0 then decide ((if t = 0 then t0 else t1) = v) else if o = 1 then decide ((if t = 0 then t0 else t1) ≠ v) else if o = 2 then decide ((if t = 0 then t0 else t1) < v) else decide (v ≤ (if t = 0 then t0 else t1))) := rfl
  generalize holdB t0 t1 (t, o, v) = hv at HV
  rcases ht with rfl | rfl
  all_goals
    by_cases h0 : o = 0
    · subst h0
      go_enter Tryz.func157, Tryz.ntmps157
      go_wp2
      go_ret
      exact ⟨by rw [HV.out]; simp [BEq.beq], hB _ _⟩
    · have d0 : (o == 0) = false := by simpa using h0
      by_cases h1 : o = 1
      · subst h1
        go_enter Tryz.func157, Tryz.ntmps157
        go_wp2
        go_ret
        exact ⟨by rw [HV.out]; simp [bne, BEq.beq], hB _ _⟩
      · have d1 : (o == 1) = false := by simpa using h1
        by_cases h2 : o = 2
        · subst h2
          go_enter Tryz.func157, Tryz.ntmps157
          go_wp2
          go_ret
          exact ⟨by rw [HV.out]; simp, hB _ _⟩
        · have d2 : (o == 2) = false := by simpa using h2
          go_enter Tryz.func157, Tryz.ntmps157
          go_wp2
          go_ret
          exact ⟨by rw [HV.out]; simp [h0, h1, h2], hB _ _⟩

set_option maxHeartbeats 4000000 in
set_option maxRecDepth 20000 in
theorem wrongR (v : Value) (F : List (List Cnd)) (w : World) (h : FiltAt w v F) : Calls Tryz.prog 124 #[.agg #[v]] w fun e w' => e = .returned (.bool (!filtB F)) ∧ Below w.heap.size w w' := by
  have h' := h
  obtain ⟨a, cap, rfl, hcap, hm, _⟩ := h'
  have hB0 : Below w.heap.size w (w.alloc (.cells #[.slice a F.length cap] 47)) := (Below.refl _ _).alloc (Nat.le_refl _) _
  obtain ⟨fb, hfb⟩ : ∃ fb, fb = filtB F := ⟨_, rfl⟩
  rw [← hfb]
  by_cases h6 : F.length ≤ 6
  · have hd : decide (6 < (F.length : Int)) = false := decide_eq_false (by omega)
    have HCB : Hid (fb = F.all clauseB) := by
      show _ = _
      rw [hfb]
      unfold filtB
      simp [h6]
    have hz0 : (w.alloc (.cells #[.slice a F.length cap] 47)).heap[w.heap.size]? = some (.cells #[.slice a F.length cap] 47 (0, 0)) := heap_alloc_new _ _
    have HF := hide h
    have HB0 := hide hB0
    have HZ0 := hide hz0
    clear h hB0 hz0 hfb
    go_enter Tryz.func124, Tryz.ntmps124
    go_wp2
    generalize hwe : w.alloc (.cells #[.slice a F.length cap] 47) = w1 at HB0 HZ0 ⊢
    clear hwe
    go_loopw [3, 4, 5, 6, 7] (fun i _ _ _ _ wr => ∃ k : Nat, i = .int .i64 k ∧ k ≤ F.length ∧ Hid ((F.take k).all clauseB = true) ∧ Hid (Below w.heap.size w wr) ∧ Hid (wr.heap[w.heap.size]? = some (.cells #[.slice a F.length cap] 47 (0, 0)))) (fun i _ _ _ _ _ => F.length - (intOf i).toNat)
    case atStart => exact ⟨0, rfl, Nat.zero_le _, rfl, HB0.out, HZ0.out⟩
    case round =>
      obtain ⟨k, rfl, hk, HA, HB, HZ⟩ := hrel
      have z0 := cells_at HZ.out 0 rfl
      by_cases hlt : k < F.length
      · obtain ⟨b, off, ua, uc, rfl, hu, hcu⟩ := (HF.out.below HB.out).clause hlt
        have HS : Hid ((F.take (k + 1)).all clauseB = ((F.take k).all clauseB && clauseB (F.getD k []))) := hide (all_take_succ clauseB F k [] hlt)
        have HBD : Hid (clauseB (F.getD k []) = false → F.all clauseB = false) := fun h => all_bad hlt h
        generalize F.getD k [] = cs at hu hcu HS HBD
        by_cases hc6 : cs.length ≤ 6
        · have hd6 : decide (6 < (cs.length : Int)) = false := decide_eq_false (by omega)
          have HCC : Hid (clauseB cs = cs.all condB) := by
            show _ = _
            unfold clauseB
            simp [hc6]
          have HCU := hide hcu
          have HU := hide hu
          clear hu hcu z0
          have z0 := cells_at HZ.out 0 rfl
          have hu := HU.out
          go_wp2
          clear z0 hu
          go_loopw [4, 5, 6, 7] (fun i _ _ _ wq => ∃ j : Nat, i = .int .i64 j ∧ j ≤ cs.length ∧ Hid ((cs.take j).all condB = true) ∧ Hid (Below wr.heap.size wr wq)) (fun i _ _ _ _ => cs.length - (intOf i).toNat)
          case atStart => exact ⟨0, rfl, Nat.zero_le _, rfl, Below.refl _ _⟩
          case round =>
            rename World => wq
            obtain ⟨j, rfl, hj, HAJ, HBJ⟩ := hrel
            have z0 := cell_below (cells_at HZ.out 0 rfl) HBJ.out
            have hu := cell_below HU.out HBJ.out
            have HBW := hide (HB.out.trans (HBJ.out.mono HB.out.size))
            by_cases hjl : j < cs.length
            · obtain ⟨b2, off2, rfl, c0, c1, c2⟩ := (HCU.out.below HBJ.out).cond hjl
              have HSJ : Hid ((cs.take (j + 1)).all condB = ((cs.take j).all condB && condB (cs.getD j (0, 0, 0)))) := hide (all_take_succ condB cs j _ hjl)
              have HBDJ : Hid (condB (cs.getD j (0, 0, 0)) = false → cs.all condB = false) := fun h => all_bad hjl h
              generalize cs.getD j (0, 0, 0) = c at c0 c1 c2 HSJ HBDJ
              obtain ⟨t, o, x⟩ := c
              simp only at c0 c1 c2
              have HCD : Hid (condB (t, o, x) = (inB t 0 1 && inB o 0 3)) := rfl
              have hal : Below wq.heap.size wq (wq.alloc (.cells #[.int .i64 t, .int .i64 o, .int .i64 x] 72)) := (Below.refl _ _).alloc (Nat.le_refl _) _
              have HBA := hide (HBJ.out.trans (hal.mono HBJ.out.size))
              have HBWA := hide (HBW.out.trans (hal.mono HBW.out.size))
              clear hal
              cases h1 : inB t 0 1
              · have HBAD : Hid (fb = false) := by
                  show _ = _
                  rw [HCB.out]
                  refine HBD.out ?_
                  rw [HCC.out]
                  refine HBDJ.out ?_
                  rw [HCD.out, h1]; rfl
                go_wp2_with (go_at_call 67; refine (in_any _ _ _ _).mono ?_; rintro e w' ⟨rfl, rfl⟩)
                go_ret
                exact ⟨by rw [HBAD.out]; rfl, HBWA.out⟩
              · cases h2 : inB o 0 3
                · have HBAD : Hid (fb = false) := by
                    show _ = _
                    rw [HCB.out]
                    refine HBD.out ?_
                    rw [HCC.out]
                    refine HBDJ.out ?_
                    rw [HCD.out, h1, h2]; rfl
                  go_wp2_with (go_at_call 67; refine (in_any _ _ _ _).mono ?_; rintro e w' ⟨rfl, rfl⟩)
                  go_ret
                  exact ⟨by rw [HBAD.out]; rfl, HBWA.out⟩
                · go_wp2_with (go_at_call 67; refine (in_any _ _ _ _).mono ?_; rintro e w' ⟨rfl, rfl⟩)
                  refine ⟨⟨j + 1, by go_num, by omega, ?_, HBA.out⟩, by simp [intOf]; omega⟩
                  show _ = _
                  rw [HSJ.out, HAJ.out, HCD.out, h1, h2]; rfl
            · go_wp2
              obtain rfl : j = cs.length := by omega
              have hall := HAJ.out
              rw [List.take_length] at hall
              refine ⟨⟨k + 1, by go_num, by omega, ?_, HBW.out, (HBJ.out.block _ (heap_lt HZ.out)).trans HZ.out⟩, by simp [intOf]; omega⟩
              show _ = _
              rw [HS.out, HA.out, HCC.out, hall]; rfl
        · have hd6 : decide (6 < (cs.length : Int)) = true := decide_eq_true (by omega)
          have hcb : clauseB cs = false := by
            unfold clauseB
            simp [hc6]
          clear hcu
          go_wp2
          go_ret
          exact ⟨by rw [HCB.out, HBD.out hcb]; rfl, HB.out⟩
      · go_wp2
        go_ret
        obtain rfl : k = F.length := by omega
        have := HA.out
        rw [List.take_length] at this
        exact ⟨by rw [HCB.out, this]; rfl, HB.out⟩
  · have hd : decide (6 < (F.length : Int)) = true := decide_eq_true (by omega)
    have hcb : fb = false := by
      rw [hfb]
      unfold filtB
      simp [h6]
    go_enter Tryz.func124, Tryz.ntmps124
    go_wp2
    go_ret
    exact ⟨by rw [hcb]; rfl, hB0⟩
end Go.Proofs.YtpkiefjanmfgfaaGreatDoor
namespace Go.Proofs.YtpkiefjanmfgfaaGreatDoor
open Go.RowKit

set_option maxHeartbeats 1000000 in
set_option maxRecDepth 20000 in
theorem sameConds123 (v1 v2 : Value) (cs : List Cnd) (w : World) (h1 : CondsAt w v1 cs) (h2 : CondsAt w v2 cs) :
    Calls Tryz.prog 123 #[v1, v2] w fun ev w' => ev = .returned (.bool true) ∧ Below w.heap.size w w' := by
  obtain ⟨a1, c1, rfl, _, hm, _⟩ := id h1
  obtain ⟨a2, c2, rfl, _⟩ := id h2
  have H1 := hide h1
  have H2 := hide h2
  clear h1 h2
  go_enter Tryz.func123, Tryz.ntmps123
  go_wp2
  go_loopw [5] (fun i wr => ∃ k : Nat, i = .int .i64 k ∧ k ≤ cs.length ∧ Hid (∃ n, wr = w.drewN n)) (fun i _ => cs.length - (intOf i).toNat)
  case atStart => exact ⟨0, rfl, Nat.zero_le _, 0, rfl⟩
  case round =>
    obtain ⟨k, rfl, hk, hw⟩ := hrel
    obtain ⟨n0, hw0⟩ := id hw.out
    by_cases hlt : k < cs.length
    · obtain ⟨b, off, rfl, x0, x1, x2⟩ := H1.out.cond hlt
      obtain ⟨b', off', rfl, y0, y1, y2⟩ := H2.out.cond hlt
      have u0 : wr.cell? ⟨b, off + k * 3, none⟩ = some (.int .i64 (cs.getD k (0, 0, 0)).1) := by rw [hw0]; exact x0
      have u1 : wr.cell? ⟨b, off + k * 3 + 1, none⟩ = some (.int .i64 (cs.getD k (0, 0, 0)).2.1) := by rw [hw0]; exact x1
      have u2 : wr.cell? ⟨b, off + k * 3 + 2, none⟩ = some (.int .i64 (cs.getD k (0, 0, 0)).2.2) := by rw [hw0]; exact x2
      have z0 : wr.cell? ⟨b', off' + k * 3, none⟩ = some (.int .i64 (cs.getD k (0, 0, 0)).1) := by rw [hw0]; exact y0
      have z1 : wr.cell? ⟨b', off' + k * 3 + 1, none⟩ = some (.int .i64 (cs.getD k (0, 0, 0)).2.1) := by rw [hw0]; exact y1
      have z2 : wr.cell? ⟨b', off' + k * 3 + 2, none⟩ = some (.int .i64 (cs.getD k (0, 0, 0)).2.2) := by rw [hw0]; exact y2
      have hW : Hid (∀ j, ∃ n, wr.drewN j = w.drewN n) := fun j => ⟨n0 + j, by rw [hw0]; simp⟩
      generalize cs.getD k (0, 0, 0) = c at u0 u1 u2 z0 z1 z2
      obtain ⟨t, o, x⟩ := c
      simp only at u0 u1 u2 z0 z1 z2
      clear x0 x1 x2 y0 y1 y2 hw0 hw
      go_wp2
      go_quiet (fail)
      go_wp2
      exact ⟨⟨k + 1, by go_num, by omega, hW.out _⟩, by simp [intOf]; omega⟩
    · have HB : Hid (Below w.heap.size w wr) := by rw [hw0]; exact below_drewN (Below.refl _ _) _
      clear hw0
      go_wp2
      go_ret
      exact ⟨rfl, HB.out⟩
end Go.Proofs.YtpkiefjanmfgfaaGreatDoor
namespace Go.Proofs.YtpkiefjanmfgfaaGreatDoor
open Go.RowKit

theorem run_copy_wide {P : Program} (w : World) (dT sT ty elem : TypeId) (g o dLen dCap : Nat) (a : Addr) (sLen sCap n size : Nat) (cur : Array Value) (t : TypeId) (cs : List Value)
    (hu : P.underlying dT = some (.slice elem)) (hs : (P.info? elem).map (·.size) = some size)
    (hg : w.heap[g]? = some (.cells cur t (0, 0))) (hn : n = Nat.min sLen dLen) (hc : cs.length = n * size)
    (hsrc : ∀ j v, cs[j]? = some v → w.cell? (a.add j) = some v) (hfit : o + cs.length ≤ cur.size) (h1 : ∀ v ∈ cs, v.oneCell' = true) :
    (Builtin.copy_ #[dT, sT] ty #[.slice (some ⟨g, o, none⟩) dLen dCap, .slice (some a) sLen sCap]).run P w =
      .ok (goInt n) (w.setRow g (cur.toList.take o ++ cs ++ cur.toList.drop (o + cs.length)).toArray) := by
  have hl := run_loadCells_list (P := P) w a cs hsrc
  have hst := run_storeCells_at P g o t cs 0 cur w hg (by simpa using hfit) h1
  cases hq : P.info? elem with
  | none => simp [hq] at hs
  | some i =>
    have hi : i.size = size := by simpa [hq] using hs
    simp [Builtin.copy_, run_underlying hu, Builtin.lenOf, Builtin.firstCells, sizeOf, typeInfo, hq, hi, ← hn, ← hc, hl, hst]
theorem run_copy_none' {P : Program} (w : World) (dT sT ty elem : TypeId) (d a : Option Addr) (dLen dCap sLen sCap size : Nat) (hu : P.underlying dT = some (.slice elem)) (hs : (P.info? elem).map (·.size) = some size) (hn : Nat.min sLen dLen = 0) :
    (Builtin.copy_ #[dT, sT] ty #[.slice d dLen dCap, .slice a sLen sCap]).run P w = .ok (goInt 0) w := by
  cases hq : P.info? elem with
  | none => simp [hq] at hs
  | some i =>
    have hl : ∀ (x : Addr), (loadCells x 0).run P w = .ok #[] w := fun x => by simpa using run_loadCells_list (P := P) w x [] (by simp)
    cases d <;> cases a <;> simp [Builtin.copy_, run_underlying hu, Builtin.lenOf, Builtin.firstCells, sizeOf, typeInfo, hq, hn, storeCells, hl]

theorem wpList_copy_wide {P : Program} {w : World} {ops : Array Oper} {rest : List Oper} {o : Oper} {a : Act} {Q : Exit → Act → World → Prop} (hgd : o.guard = none) (d s : Operand) (dT sT : TypeId)
    (ho : o.op = .call { callee := .builtin .copy, args := #[d, s], argTypes := #[dT, sT] }) (elem : TypeId) (hu : P.underlying dT = some (.slice elem)) (size : Nat) (hsz : (P.info? elem).map (·.size) = some size)
    (dp sp : Option Addr) (dLen dCap sLen sCap : Nat) (hd : a.eval d = .slice dp dLen dCap) (hs : a.eval s = .slice sp sLen sCap)
    (g off n : Nat) (cur : List Value) (t : TypeId) (hg : w.heap[g]? = some (.cells cur.toArray t (0, 0))) (cs : List Value) (hn : n = Nat.min sLen dLen) (hc : cs.length = n * size)
    (hpos : 0 < n → dp = some ⟨g, off, none⟩ ∧ ∃ ad, sp = some ad ∧ ∀ j v, cs[j]? = some v → w.cell? (ad.add j) = some v)
    (hfit : off + cs.length ≤ cur.length) (h1 : ∀ v ∈ cs, v.oneCell' = true) (B : Nat) (w0 : World) (hb : Below B w0 w) (hBg : B ≤ g)
    (h : ∀ w', Hid (w'.heap[g]? = some (.cells (splice cur off cs).toArray t (0, 0))) → Below B w0 w' → Kept (fun k => k = g) w w' → wpList P ops Q rest (a.put o.dst (goInt n)) w') :
    wpList P ops Q (o :: rest) a w := by
  refine wpList_plain hgd fun K hK => ?_
  by_cases h0 : n = 0
  · have hrun := run_copy_none' (P := P) w dT sT o.type elem dp sp dLen dCap sLen sCap size hu hsz (hn.symm.trans h0)
    obtain rfl : cs = [] := List.eq_nil_of_length_eq_zero (by rw [hc, h0, Nat.zero_mul])
    have h2 := h w (show _ = _ by simpa [splice] using hg) hb (Kept.refl _ _)
    unfold Oper.wp
    simp [execOp, ho, resolve, invoke, builtin, hd, hs, hrun, Result.andThen]
    rw [h0] at h2
    exact hK _ _ h2
  · obtain ⟨rfl, ad, rfl, hsrc⟩ := hpos (by omega)
    have hrun := run_copy_wide (P := P) w dT sT o.type elem g off dLen dCap ad sLen sCap n size cur.toArray t cs hu hsz hg hn hc hsrc (by simpa using hfit) h1
    unfold Oper.wp
    simp [execOp, ho, resolve, invoke, builtin, hd, hs, hrun, Result.andThen]
    refine hK _ _ (h _ (show _ = _ by simpa [splice] using setRow_heap w g _ _ t _ hg) (by simpa using below_setRow hb hBg _) ?_)
    exact ⟨rfl, rfl, rfl, by simp [World.setRow], fun k _ hk => setRow_other w g k _ hk⟩
end Go.Proofs.YtpkiefjanmfgfaaGreatDoor
namespace Go.Proofs.YtpkiefjanmfgfaaGreatDoor
open Go.RowKit

section
variable {w0 w : World} {bp : Nat} {lv0 nsv0 nmv0 lv nsv nmv : Value} {nl ns nm : Nat}
theorem InS.mark (h : InS w0 bp lv0 nsv0 nmv0 w lv nl nsv ns nmv nm) (nx : Int) (nq : Nat) : InS w0 bp lv0 nsv0 nmv0 ((w.setCell ⟨bp, 7, none⟩ (.int .i64 nx)).drewN nq) lv nl nsv ns nmv nm := by
  obtain ⟨b6, h6⟩ := h.c6
  obtain ⟨b7, h7⟩ := h.c7
  obtain ⟨ys, hy⟩ := h.hs
  obtain ⟨zs, hz⟩ := h.hm
  obtain ⟨ls, hls⟩ := h.hl
  obtain ⟨cs, hc⟩ := h.typ
  have rs : ∀ {e : Nat} {v : Value} {n : Nat} {l : List Value}, e ≠ 41 → w.ownsRow 0 e 1 v n l → ((w.setCell ⟨bp, 7, none⟩ (.int .i64 nx)).drewN nq).ownsRow 0 e 1 v n l := fun {e v n l} he hr => ownsRow_drewN (ownsRow_of_block hr fun g hv => Below.heap_setCell _ _ _ _ (by
    obtain ⟨c2, h2⟩ := ownsRow_obj hr hv
    exact (ne_of_elem hc h2 (fun e' => he e'.symm)).symm)) nq
  refine ⟨⟨_, by rw [heap_drewN]; exact heap_setCell_same _ _ _ _ _ _ hc⟩, fun o v ho hv => (World.cell?_setCell_other w ⟨bp, 7, none⟩ ⟨bp, o, none⟩ _ (by simp <;> omega)).trans (h.low o v ho hv), ⟨b6, ?_⟩, ⟨nx, World.cell?_setCell_same w ⟨bp, 7, none⟩ _ h7⟩, ?_, ?_, ⟨ls, rs (by decide) hls⟩, ⟨ys, rs (by decide) hy⟩, ⟨zs, rs (by decide) hz⟩, h.apart, h.ll, h.ls, h.lm, (h.kept.setCell (fun _ => .inl rfl) _).drewN nq⟩
  · exact (World.cell?_setCell_other w ⟨bp, 7, none⟩ ⟨bp, 6, none⟩ _ (by simp)).trans h6
  · exact (World.cell?_setCell_other w ⟨bp, 7, none⟩ ⟨bp, 8, none⟩ _ (by simp)).trans h.c8
  · exact (World.cell?_setCell_other w ⟨bp, 7, none⟩ ⟨bp, 9, none⟩ _ (by simp)).trans h.c9

theorem InS.setL {g n c : Nat} (h : InS w0 bp lv0 nsv0 nmv0 w (.slice (some ⟨g, 0, none⟩) n c) n nsv ns nmv nm) (j : Nat) (u : Value) : InS w0 bp lv0 nsv0 nmv0 (w.setCell ⟨g, j, none⟩ u) (.slice (some ⟨g, 0, none⟩) n c) n nsv ns nmv nm := by
  obtain ⟨b6, h6⟩ := h.c6
  obtain ⟨b7, h7⟩ := h.c7
  obtain ⟨ys, hy⟩ := h.hs
  obtain ⟨zs, hz⟩ := h.hm
  obtain ⟨ls, hls⟩ := h.hl
  obtain ⟨cs, hc⟩ := h.typ
  obtain ⟨cl, hcl⟩ := ownsRow_obj hls (g := g) rfl
  have hne : g ≠ bp := ne_of_elem hcl hc (by decide)
  have cl : ∀ {o : Nat} {v : Value}, w.cell? ⟨bp, o, none⟩ = some v → (w.setCell ⟨g, j, none⟩ u).cell? ⟨bp, o, none⟩ = some v := fun hh => by
    rw [World.cell?_setCell_far _ _ _ _ (by exact hne)]; exact hh
  refine ⟨⟨cs, (Below.heap_setCell _ _ _ _ hne.symm).trans hc⟩, fun o v ho hv => cl (h.low o v ho hv), ⟨b6, cl h6⟩, ⟨b7, cl h7⟩, cl h.c8, cl h.c9, ⟨_, ownsRow_set hls j u⟩, ⟨ys, ownsRow_of_block hy fun g' hv => Below.heap_setCell _ _ _ _ ?_⟩, ⟨zs, ownsRow_of_block hz fun g' hv => Below.heap_setCell _ _ _ _ ?_⟩, h.apart, h.ll, h.ls, h.lm, h.kept.setCell (fun hlt => ?_) _⟩
  · obtain ⟨c2, h2⟩ := ownsRow_obj hy hv
    exact ne_of_elem h2 hcl (by decide)
  · intro e
    have e' : g' = g := e
    subst e'
    exact h.apart g' rfl hv
  · rcases h.ll g rfl with e | e
    · exact .inr (.inl e)
    · exact absurd e (by have : g < w0.heap.size := hlt; omega)
end

theorem bd1 (nn : Nat) (h : (nn + 4) * 24 ≤ 140737488355328) : ∀ q, q < 4 → (nn + q + 1) * 24 ≤ 140737488355328 := fun q _ => Nat.le_trans (Nat.mul_le_mul_right 24 (by omega)) h
theorem bd2 (nn : Nat) (h : (nn + 4) * 24 ≤ 140737488355328) : ∀ q, q < 4 → (nn + q + 1) * 8 ≤ 140737488355328 := fun q hq => Nat.le_trans (Nat.mul_le_mul_left (nn + q + 1) (by decide)) (bd1 nn h q hq)
theorem bd3 (n : Nat) (h : (n + 4) * 8 ≤ 140737488355328) : ∀ q, q < 4 → (n + q + 1) * 8 ≤ 140737488355328 := fun q _ => Nat.le_trans (Nat.mul_le_mul_right 8 (by omega)) h
theorem md3 (n : Nat) (h : (n + 4) * 8 ≤ 140737488355328) : ∀ q, q < 4 → n + q + 1 ≤ maxLen := by intro q hq; unfold maxLen; omega
theorem md1 (nn : Nat) (h : (nn + 4) * 24 ≤ 140737488355328) : ∀ q, q < 4 → nn + q + 1 ≤ maxLen := md3 nn (Nat.le_trans (Nat.mul_le_mul_left (nn + 4) (by decide)) h)
theorem cell_one_new' (w : World) (x : Value) (t : TypeId) (H0 : Nat) (h : H0 = w.heap.size) : ∀ j u, [x][j]? = some u → (w.alloc (.cells #[x] t)).cell? ((⟨H0, 0, none⟩ : Addr).add j) = some u := by
  subst h
  exact cell_one_new w x t
theorem one_of_row {w : World} {base e size n : Nat} {v : Value} {xs : List Value} (h : w.ownsRow base e size v n xs) : ∀ u ∈ [v], u.oneCell' = true := by
  intro u hu
  simp at hu
  subst hu
  exact ownsRow_oneCell h

set_option maxHeartbeats 1000000 in
set_option maxRecDepth 10000 in
theorem ints35_any (bp : Nat) (a : Option Addr) (n c : Nat) (nsv nmv : Value) (nn : Nat) (w : World) (h : InS w bp (.slice a n c) nsv nmv w (.slice a n c) n nsv nn nmv nn) (hn : (n + 4) * 8 ≤ 140737488355328) (hnn : (nn + 4) * 24 ≤ 140737488355328) :
    Calls Tryz.prog 70 #[.pointer (some ⟨bp, 6, none⟩), .slice a n c] w fun ev w' => ev = .returned (.tuple #[]) ∧ ∃ lv' nsv' nmv', InS w bp (.slice a n c) nsv nmv w' lv' (n + 4) nsv' (nn + 4) nmv' (nn + 4) := by
  have hn2 : n ≤ 17592186044416 := by omega
  have B1 := hide (bd1 nn hnn)
  have B2 := hide (bd2 nn hnn)
  have B3 := hide (bd3 n hn)
  have M1 := hide (md1 nn hnn)
  have M3 := hide (md3 n hn)
  clear hn hnn
  obtain ⟨i3, hi3, hz30, hz31, hz32⟩ := info_parts info3
  obtain ⟨i32, hi32, hz320, hz321, hz322⟩ := info_parts info32
  obtain ⟨b6, h6⟩ := h.c6
  obtain ⟨b7, h7⟩ := h.c7
  have h7f := h.frozen 7
  have H := hide h
  clear h
  go_enter Tryz.func70, Tryz.ntmps70
  go_wp2_with fail
  refine (mark58_any bp b6 b7 _ h6 h7 h7f).mono ?_
  rintro ev w1 ⟨m, nx, nq, rfl, rfl⟩
  have H1 := hide (H.out.mark nx nq)
  generalize (w.setCell ⟨bp, 7, none⟩ (.int .i64 nx)).drewN nq = w1 at *
  clear h6 h7 h7f
  go_wp2
  go_loopw [5] (fun i wr => ∃ k : Nat, k ≤ n ∧ i = .int .i64 k ∧ Hid (InS w bp (.slice a n c) nsv nmv wr (.slice a n c) n nsv nn nmv nn)) (fun i _ => n - (intOf i).toNat)
  case atStart => exact ⟨0, Nat.zero_le _, rfl, H1⟩
  case round =>
    obtain ⟨k, hk, rfl, hr⟩ := hrel
    by_cases hlt : k < n
    · obtain ⟨xs, hxs⟩ := hr.out.hl
      rcases hxs.2 with ⟨_, h0⟩ | ⟨g, cap, cur, hv, _⟩
      · omega
      simp only [Value.slice.injEq] at hv
      obtain ⟨rfl, _, rfl⟩ := hv
      have hxl : xs.length = n := by simpa using hxs.1
      have hcx : wr.cell? ⟨g, k, none⟩ = some xs[k] := ownsRow_cell hxs (List.getElem?_eq_getElem (by omega))
      have hfx := ownsRow_frozen hxs k
      generalize xs[k] = x at hcx
      clear hxs hxl
      go_wp2
      exact ⟨⟨k + 1, by omega, by go_num, hr.out.setL k _⟩, by simp [intOf]; omega⟩
    · have H2 : Hid (InS w bp (.slice a n c) nsv nmv wr (.slice a n c) n nsv nn nmv nn) := hr
      clear hr H1
      go_wp2
      go_loopw [1, 6] (fun l i wr => ∃ (k : Nat) (al : Option Addr) (cl : Nat) (nsv' nmv' : Value), k ≤ 4 ∧ i = .int .i64 k ∧ l = .slice al (n + k) cl ∧ Hid (InS w bp (.slice a n c) nsv nmv wr (.slice al (n + k) cl) (n + k) nsv' (nn + k) nmv' (nn + k))) (fun _ i _ => 4 - (intOf i).toNat)
      case atStart => exact ⟨0, a, c, nsv, nmv, Nat.zero_le _, rfl, rfl, H2⟩
      case round =>
        clear H2
        obtain ⟨q, al, cl, nsv', nmv', hq, rfl, rfl, hr⟩ := hrel
        by_cases hlt : q < 4
        · have c8 := hr.out.c8
          have hbl := hr.out.lt
          obtain ⟨ls, hls⟩ := hr.out.hl
          obtain ⟨ys, hys⟩ := hr.out.hs
          have HL1 := hide (one_of_row hls)
          have HYS := hide hys
          clear hls hys
          go_upto_region 9 with (at_builtin; refine wpList_append_lies _ rfl _ _ 31 rfl 0 32 i32 (.slice none 0 0) 1 24 Tryz.underlying31 hi32 hz320 hz321 hz322 rfl (by decide) nsv' (nn + q) ys rfl (HYS.out.alloc _) ⟨wr.heap.size, 0, none⟩ 1 1 [.slice al (n + q) cl] rfl rfl (cell_one_new _ _ _) HL1.out (by decide) (M1.out q hlt) (B1.out q hlt) (Nat.zero_le _) (wr.heap.size + 1) (by simp) ?_; intro g1 cap1 w2 ho1 hg1 hl1 hlt1; obtain ⟨hS2, k8, k9, kf⟩ := hr.out.stepN ho1 hg1 (hl1.imp (fun e => e.symm) (fun e => congrArg some e)); obtain ⟨zs, hzs⟩ := hS2.hm; have HS2 := hide hS2; have HZS := hide hzs; clear hS2 hzs ho1 hg1 hl1)
          go_upto_region 10 with (at_builtin; go_must (refine wpList_append_lies _ rfl _ _ 32 rfl 0 3 i3 (.int .i64 0) 1 8 Tryz.underlying32 hi3 hz30 hz31 hz32 rfl (by decide) nmv' (nn + q) zs rfl (HZS.out.alloc _) ⟨w2.heap.size, 0, none⟩ 1 1 [.int .i64 (wrap64 (-m))] rfl rfl (cell_one_new' _ _ _ _ (by simp)) (ints_oneCell .i64 [wrap64 (-m)]) (by decide) (M1.out q hlt) (B2.out q hlt) (Nat.zero_le _) (w2.heap.size + 1) (by simp) ?_); intro g2 cap2 w3 ho2 hg2 hl2 hlt2; obtain ⟨hS3, m9, mf⟩ := HS2.out.stepM ho2 hg2 (hl2.imp (fun e => e.symm) (fun e => (congrArg some e).trans (by simp))); obtain ⟨ls, hls⟩ := hS3.hl; have HS3 := hide hS3; have HLS := hide hls; clear hS3 hls ho2 hg2 hl2)
          go_wp2_with (at_builtin; go_must (refine wpList_append_lies _ rfl _ _ 32 rfl 0 3 i3 (.int .i64 0) 1 8 Tryz.underlying32 hi3 hz30 hz31 hz32 rfl (by decide) (.slice al (n + q) cl) (n + q) ls rfl (HLS.out.alloc _) ⟨w3.heap.size, 0, none⟩ 1 1 [.int .i64 (wrap64 (-m))] rfl rfl (cell_one_new' _ _ _ _ (by simp)) (ints_oneCell .i64 [wrap64 (-m)]) (by decide) (M3.out q hlt) (B3.out q hlt) (Nat.zero_le _) (w3.heap.size + 1) (by simp) ?_); intro g3 cap3 w4 ho3 hg3 hl3 hlt3; have HS4 := hide (HS3.out.stepL ho3 hg3 (hl3.imp (fun e => e.symm) (fun e => (congrArg some e).trans (by simp)))))
          refine ⟨⟨q + 1, some ⟨g3, 0, none⟩, cap3, _, _, by omega, by go_num, rfl, HS4⟩, by simp [intOf]; omega⟩
        · obtain rfl : q = 4 := by omega
          go_wp2
          go_end0
          exact ⟨rfl, _, _, _, hr.out⟩
end Go.Proofs.YtpkiefjanmfgfaaGreatDoor
namespace Go.Proofs.YtpkiefjanmfgfaaGreatDoor
open Go.RowKit

theorem info72 : (Tryz.prog.info? 72).map (fun i => (i.zero, i.size, i.bytes)) = some (some (.agg #[.int .i64 0, .int .i64 0, .int .i64 0]), 3, 24) := by kernel_rfl
theorem info73 : (Tryz.prog.info? 73).map (fun i => (i.zero, i.size, i.bytes)) = some (some (.slice none 0 0), 1, 24) := by kernel_rfl
theorem size72 : (Tryz.prog.info? 72).map (·.size) = some 3 := by kernel_rfl

def ccell (c : Cnd) : List Value := [.int .i64 c.1, .int .i64 c.2.1, .int .i64 c.2.2]
def ccells (cs : List Cnd) : List Value := cs.flatMap ccell
theorem ccells_append (a b : List Cnd) : ccells (a ++ b) = ccells a ++ ccells b := by simp [ccells]
theorem ccells_len : ∀ cs : List Cnd, (ccells cs).length = cs.length * 3
  | [] => rfl
  | c :: cs => by
    have := ccells_len cs
    unfold ccells at this ⊢
    simp only [List.flatMap_cons, List.length_append, this, List.length_cons]
    simp [ccell]
    omega
theorem ccells_get : ∀ (cs : List Cnd) (k j : Nat) (_ : k < cs.length), j < 3 → (ccells cs)[k * 3 + j]? = (ccell (cs.getD k (0, 0, 0)))[j]?
  | c :: cs, 0, j, _, hj => by
    unfold ccells
    rw [List.flatMap_cons, List.getElem?_append_left (by simp [ccell]; omega)]
    simp
  | c :: cs, k + 1, j, hk, hj => by
    have ih := ccells_get cs k j (by simpa using hk) hj
    unfold ccells at ih ⊢
    rw [List.flatMap_cons, List.getElem?_append_right (by simp [ccell]; omega)]
    have e1 : (k + 1) * 3 + j - (ccell c).length = k * 3 + j := by simp [ccell]; omega
    rw [e1, ih]
    simp
theorem ccells_one (cs : List Cnd) : ∀ u ∈ ccells cs, u.oneCell' = true := by
  intro u hu
  obtain ⟨e, _, he⟩ := List.mem_flatMap.1 hu
  simp [ccell] at he
  rcases he with rfl | rfl | rfl <;> rfl

def cutS (k : Nat) (c : List Cnd) : Value := .slice (some ⟨k, 0, none⟩) c.length (c.length + 1)
def fullS (k : Nat) (c : List Cnd) : Value := .slice (some ⟨k, 0, none⟩) (c.length + 1) (c.length + 1)
def ClsAt (w : World) (k : Nat) (c : List Cnd) : Prop := w.heap[k]? = some (.cells (ccells (c ++ [(77, 0, 0)])).toArray 72 (0, 0))

structure LdS (w0 w : World) (fv : Value) (F : List (List Cnd)) (ks : List Nat) (mv : Value) : Prop where
  box : w.heap[w0.heap.size]? = some (.cells #[fv] 47 (0, 0))
  res : w.heap[w0.heap.size + 1]? = some (.cells #[.slice none 0 0, .slice none 0 0] 141 (0, 0))
  all : w.heap[w0.heap.size + 2]? = some (.cells (List.zipWith cutS ks F ++ List.replicate (F.length + 1 - ks.length) (Value.slice none 0 0)).toArray 73 (0, 0))
  g : w.heap[w0.heap.size + 3]? = some (.cells #[.slice (some ⟨w0.heap.size + 2, 0, none⟩) (F.length + 1) (F.length + 1), mv] 141 (0, 0))
  mine : w.ownsRow 0 73 1 mv ks.length (List.zipWith fullS ks F)
  len : ks.length ≤ F.length
  cls : ∀ i, i < ks.length → ClsAt w (ks.getD i 0) (F.getD i [])
  nod : ks.Nodup
  new : ∀ k ∈ ks, w0.heap.size + 4 ≤ k
  mnew : ∀ g, mv.ownBlock = some g → w0.heap.size + 4 ≤ g
  below : Below w0.heap.size w0 w

theorem blk_grownL {w w1 : World} {o b : Obj} {X : Nat} {row : Option Nat} (h : w.heap[X]? = some b) (hg : (w.alloc o).grownBy w1 row) (hne : row ≠ some X) : w1.heap[X]? = some b := by
  have hlt := (Array.getElem?_eq_some_iff.1 h).1
  exact (hg.block X (by simp; omega) (fun e => hne e.symm)).trans ((Below.heap_alloc _ _ _ hlt).trans h)

section
variable {w0 w w' : World} {fv mv mv' : Value} {F : List (List Cnd)} {ks : List Nat}
theorem LdS.on (h : LdS w0 w fv F ks mv) (hb : Below w.heap.size w w') : LdS w0 w' fv F ks mv := by
  have st : ∀ {k : Nat} {o : Obj}, w.heap[k]? = some o → w'.heap[k]? = some o := fun hk => (hb.block _ (Array.getElem?_eq_some_iff.1 hk).1).trans hk
  exact ⟨st h.box, st h.res, st h.all, st h.g, ownsRow_below h.mine hb, h.len, fun i hi => st (h.cls i hi), h.nod, h.new, h.mnew, h.below.trans (hb.mono h.below.size)⟩
theorem zip_snoc {α β γ : Type} (f : α → β → γ) : ∀ (ks : List α) (F : List β) (k : α) (c : β), F[ks.length]? = some c → List.zipWith f (ks ++ [k]) F = List.zipWith f ks F ++ [f k c]
  | [], c0 :: F, k, c, h => by simp at h; simp [h]
  | k0 :: ks, c0 :: F, k, c, h => by
    have ih := zip_snoc f ks F k c (by simpa using h)
    simp [ih]
  | [], [], _, _, h => by simp at h
  | _ :: _, [], _, _, h => by simp at h
theorem LdS.step {K : Nat} {c : List Cnd} {o : Obj} {w5 : World} (h : LdS w0 w fv F ks mv) (hc : F[ks.length]? = some c) (hK : ClsAt w K c) (hKn : K ∉ ks) (hK4 : w0.heap.size + 4 ≤ K)
    (ho : w5.ownsRow 0 73 1 mv' (ks.length + 1) (List.zipWith fullS ks F ++ [fullS K c])) (hg : (w.alloc o).grownBy w5 mv.ownBlock) (hl : mv'.ownBlock = mv.ownBlock ∨ mv'.ownBlock = some (w.heap.size + 1)) :
    w5.cell? ⟨w0.heap.size + 3, 1, none⟩ = some mv ∧ w5.frozen? ⟨w0.heap.size + 3, 1, none⟩ = false ∧
      (w5.setCell ⟨w0.heap.size + 3, 1, none⟩ mv').cell? ⟨w0.heap.size + 3, 0, none⟩ = some (.slice (some ⟨w0.heap.size + 2, 0, none⟩) (F.length + 1) (F.length + 1)) ∧
      (w5.setCell ⟨w0.heap.size + 3, 1, none⟩ mv').cell? ⟨w0.heap.size + 2, ks.length, none⟩ = some (.slice none 0 0) ∧ (w5.setCell ⟨w0.heap.size + 3, 1, none⟩ mv').frozen? ⟨w0.heap.size + 2, ks.length, none⟩ = false ∧
      LdS w0 ((w5.setCell ⟨w0.heap.size + 3, 1, none⟩ mv').setCell ⟨w0.heap.size + 2, ks.length, none⟩ (cutS K c)) fv F (ks ++ [K]) mv' := by
  have hlt : ks.length < F.length := by
    rcases Nat.lt_or_ge ks.length F.length with h | h
    · exact h
    · rw [List.getElem?_eq_none h] at hc; cases hc
  have st : ∀ {k : Nat} {b : Obj}, w.heap[k]? = some b → mv.ownBlock ≠ some k → w5.heap[k]? = some b := fun hk hne => blk_grownL hk hg hne
  have mne : ∀ k, k < w0.heap.size + 4 → mv.ownBlock ≠ some k := fun k hk e => by have := h.mnew k e; omega
  have gK : ∀ {k : Nat} {cs : List Cnd}, ClsAt w k cs → mv.ownBlock ≠ some k := fun hk e => by
    obtain ⟨c2, h2⟩ := ownsRow_obj h.mine e
    exact ne_of_elem hk h2 (by decide) rfl
  have b5 := st h.box (mne _ (by omega))
  have r5 := st h.res (mne _ (by omega))
  have a5 := st h.all (mne _ (by omega))
  have g5 := st h.g (mne _ (by omega))
  have hsz := h.below.size
  have hz3 := (Array.getElem?_eq_some_iff.1 h.g).1
  have mn' : ∀ g, mv'.ownBlock = some g → w0.heap.size + 4 ≤ g := fun g e => by
    rcases hl with e1 | e1
    · exact h.mnew g (e1 ▸ e)
    · rw [e] at e1; have := Option.some.inj e1; omega
  obtain ⟨w6, hw6⟩ : ∃ w6, w6 = w5.setCell ⟨w0.heap.size + 3, 1, none⟩ mv' := ⟨_, rfl⟩
  have g6 : w6.heap[w0.heap.size + 3]? = some (.cells #[.slice (some ⟨w0.heap.size + 2, 0, none⟩) (F.length + 1) (F.length + 1), mv'] 141 (0, 0)) := by
    rw [hw6, heap_setCell_same _ _ _ _ _ _ g5]; simp
  have far6 : ∀ {k : Nat}, k ≠ w0.heap.size + 3 → w6.heap[k]? = w5.heap[k]? := fun hk => by rw [hw6]; exact Below.heap_setCell _ _ _ _ hk
  have a6 := (far6 (k := w0.heap.size + 2) (by omega)).trans a5
  obtain ⟨w7, hw7⟩ : ∃ w7, w7 = w6.setCell ⟨w0.heap.size + 2, ks.length, none⟩ (cutS K c) := ⟨_, rfl⟩
  have far7 : ∀ {k : Nat}, k ≠ w0.heap.size + 2 → w7.heap[k]? = w6.heap[k]? := fun hk => by rw [hw7]; exact Below.heap_setCell _ _ _ _ hk
  have hzl : (List.zipWith cutS ks F).length = ks.length := by simp; omega
  have hrep : List.replicate (F.length + 1 - ks.length) (Value.slice none 0 0) = .slice none 0 0 :: List.replicate (F.length + 1 - (ks.length + 1)) (Value.slice none 0 0) := by
    rw [show F.length + 1 - ks.length = (F.length + 1 - (ks.length + 1)) + 1 by omega]; rfl
  have hcell : w6.cell? ⟨w0.heap.size + 2, ks.length, none⟩ = some (.slice none 0 0) := by
    simp only [World.cell?, a6]
    rw [hrep]
    simp [hzl]
  have a7 : w7.heap[w0.heap.size + 2]? = some (.cells (List.zipWith cutS (ks ++ [K]) F ++ List.replicate (F.length + 1 - (ks ++ [K]).length) (Value.slice none 0 0)).toArray 73 (0, 0)) := by
    rw [hw7, heap_setCell_same _ _ _ _ _ _ a6, zip_snoc cutS ks F K c hc, hrep]
    simp [List.set_append_right, hzl]
  have g7 := (far7 (k := w0.heap.size + 3) (by omega)).trans g6
  have far : ∀ {k : Nat}, k ≠ w0.heap.size + 3 → k ≠ w0.heap.size + 2 → w7.heap[k]? = w5.heap[k]? := fun h1 h2 => (far7 h2).trans (far6 h1)
  refine ⟨cells_at g5 1 rfl, cells_frozen g5 1, hw6 ▸ cells_at g6 0 rfl, hw6 ▸ hcell, hw6 ▸ cells_frozen a6 _, hw6 ▸ hw7 ▸ ⟨(far (by omega) (by omega)).trans b5, (far (by omega) (by omega)).trans r5, a7, g7, ?_, by simp; omega, ?_, ?_, ?_, mn', ?_⟩⟩
  · rw [zip_snoc fullS ks F K c hc]
    simp only [List.length_append, List.length_cons, List.length_nil, Nat.zero_add]
    exact ownsRow_of_block ho fun g hv => far (by have := mn' g hv; omega) (by have := mn' g hv; omega)
  · intro i hi
    simp only [List.length_append, List.length_cons, List.length_nil, Nat.zero_add] at hi
    by_cases e : i = ks.length
    · subst e
      have e1 : (ks ++ [K]).getD ks.length 0 = K := by simp [List.getD_eq_getElem?_getD]
      have e2 : F.getD ks.length [] = c := by rw [List.getD_eq_getElem?_getD, hc]; rfl
      rw [e1, e2]
      exact (far (by omega) (by omega)).trans (st hK (gK hK))
    · have hi2 : i < ks.length := by omega
      have e1 : (ks ++ [K]).getD i 0 = ks.getD i 0 := by rw [List.getD_eq_getElem?_getD, List.getElem?_append_left hi2, List.getD_eq_getElem?_getD]
      rw [e1]
      have h1 := h.cls i hi2
      have h2 : w0.heap.size + 4 ≤ ks.getD i 0 := h.new _ (by rw [List.getD_eq_getElem?_getD, List.getElem?_eq_getElem hi2]; exact List.getElem_mem hi2)
      exact (far (by omega) (by omega)).trans (st h1 (gK h1))
  · rw [List.nodup_append]
    exact ⟨h.nod, by simp, fun a ha b hb => by rw [List.mem_singleton.1 hb]; exact fun e => hKn (e ▸ ha)⟩
  · intro k hk
    rcases List.mem_append.1 hk with e | e
    · exact h.new k e
    · rw [List.mem_singleton.1 e]; exact hK4
  · have hb5 : Below w0.heap.size w0 w5 := (h.below.alloc h.below.size o).grown hg (by simp; omega) (fun k e => by have := h.mnew k e; omega)
    rw [hw7, hw6]
    exact (hb5.setCell (by show _ ≤ w0.heap.size + 3; omega) _).setCell (by show _ ≤ w0.heap.size + 2; omega) _
end
end Go.Proofs.YtpkiefjanmfgfaaGreatDoor
