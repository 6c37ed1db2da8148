import Derived.Test.YtpkiefjanmfgfaaGreatDoorQui01
import Derived.Test.YtpkiefjanmfgfaaGreatDoorQui02
import Derived.Test.YtpkiefjanmfgfaaGreatDoorQui06
import Derived.Test.YtpkiefjanmfgfaaGreatDoorQui11
import Derived.Test.YtpkiefjanmfgfaaGreatDoorQui14
import Derived.Test.YtpkiefjanmfgfaaGreatDoorQui15
import Derived.Test.YtpkiefjanmfgfaaGreatDoorQui17
namespace Go.Proofs.YtpkiefjanmfgfaaGreatDoor
open Go.RowKit Go.Maps

set_option maxHeartbeats 4000000 in
set_option maxRecDepth 20000 in
theorem passesR (v : Value) (F : List (List Cnd)) (t0 t1 : Int) (w : World) (h : FiltAt w v F) (hok : F.all clauseB = true) : Calls Tryz.prog 125 #[.agg #[v], .agg #[.int .i64 t0, .int .i64 t1]] w fun e w' => e = .returned (.bool (passB F t0 t1)) ∧ Below w.heap.size w w' := by
  have h' := h
  obtain ⟨a, cap, rfl, hcap, hm, _⟩ := h'
  have hB0 : Below w.heap.size w ((w.alloc (.cells #[.slice a F.length cap] 47)).alloc (.cells #[.int .i64 t0, .int .i64 t1] 43)) := ((Below.refl _ _).alloc (Nat.le_refl _) _).alloc (by simp) _
  have hz0 : ((w.alloc (.cells #[.slice a F.length cap] 47)).alloc (.cells #[.int .i64 t0, .int .i64 t1] 43)).heap[w.heap.size]? = some (.cells #[.slice a F.length cap] 47 (0, 0)) := (Below.heap_alloc _ _ _ (by simp)).trans (heap_alloc_new _ _)
  have hz1 : ((w.alloc (.cells #[.slice a F.length cap] 47)).alloc (.cells #[.int .i64 t0, .int .i64 t1] 43)).heap[w.heap.size + 1]? = some (.cells #[.int .i64 t0, .int .i64 t1] 43 (0, 0)) := heap_alloc2_new _ _ _
  have HF := hide h
  have HB0 := hide hB0
  have HOK := hide hok
  have HZ0 := hide hz0
  have HZ1 := hide hz1
  obtain ⟨av, hav⟩ : ∃ av, av = passB F t0 t1 := ⟨_, rfl⟩
  have HAV := hide hav
  rw [← hav]
  clear h hB0 hok hz0 hz1 hav
  go_enter Tryz.func125, Tryz.ntmps125
  go_wp2
  generalize hwe : (w.alloc (.cells #[.slice a F.length cap] 47)).alloc (.cells #[.int .i64 t0, .int .i64 t1] 43) = w1 at HB0 HZ0 HZ1 ⊢
  clear hwe
  go_loopw [5, 6, 7, 8] (fun i _ _ _ wr => ∃ k : Nat, i = .int .i64 k ∧ k ≤ F.length ∧ Hid ((F.take k).any (fun cs => cs.all (holdB t0 t1)) = false) ∧ Hid (Below w.heap.size w wr) ∧ Hid (wr.heap[w.heap.size]? = some (.cells #[.slice a F.length cap] 47 (0, 0))) ∧ Hid (wr.heap[w.heap.size + 1]? = some (.cells #[.int .i64 t0, .int .i64 t1] 43 (0, 0)))) (fun i _ _ _ _ => F.length - (intOf i).toNat)
  case atStart => exact ⟨0, rfl, Nat.zero_le _, rfl, HB0.out, HZ0.out, HZ1.out⟩
  case round =>
    obtain ⟨k, rfl, hk, HA, HB, HZ, HT⟩ := hrel
    have z0 := cells_at HZ.out 0 rfl
    by_cases hlt : k < F.length
    · obtain ⟨b, off, ua, uc, rfl, hu, hcu⟩ := (HF.out.below HB.out).clause hlt
      have HS : Hid ((F.take (k + 1)).any (fun cs => cs.all (holdB t0 t1)) = ((F.take k).any (fun cs => cs.all (holdB t0 t1)) || (F.getD k []).all (holdB t0 t1))) := hide (any_take_succ (fun cs : List Cnd => cs.all (holdB t0 t1)) F k [] hlt)
      have HBD : Hid ((F.getD k []).all (holdB t0 t1) = true → F.any (fun cs => cs.all (holdB t0 t1)) = true) := fun h => any_hit (d := []) hlt h
      have hcb : (F.getD k []).all condB = true := by
        have := List.all_eq_true.1 HOK.out (F.getD k []) (by simp [List.getD_eq_getElem?_getD, hlt])
        unfold clauseB at this
        simp at this
        simpa using this.2
      have HCB := hide hcb
      clear hcb
      generalize F.getD k [] = cs at hu hcu HS HBD HCB
      have hcl : cs.length ≤ 17592186044416 := by
        obtain ⟨_, _, _, _, h2, _⟩ := hcu
        exact h2
      have HCU := hide hcu
      have HU := hide hu
      clear hcu hu
      go_wp2
      clear z0
      go_loopw [6, 7, 8] (fun al i _ wq => ∃ j : Nat, i = .int .i64 j ∧ j ≤ cs.length ∧ al = .bool ((cs.take j).all (holdB t0 t1)) ∧ Hid (Below wr.heap.size wr wq)) (fun _ i _ _ => cs.length - (intOf i).toNat)
      case atStart => exact ⟨0, rfl, Nat.zero_le _, rfl, Below.refl _ _⟩
      case round =>
        rename World => wq
        obtain ⟨j, rfl, hj, rfl, HBJ⟩ := hrel
        have z0 := cell_below (cells_at HZ.out 0 rfl) HBJ.out
        have hu := cell_below HU.out HBJ.out
        have HBW := hide (HB.out.trans (HBJ.out.mono HB.out.size))
        by_cases hjl : j < cs.length
        · obtain ⟨b2, off2, rfl, c0, c1, c2⟩ := (HCU.out.below HBJ.out).cond hjl
          have HSJ : Hid ((cs.take (j + 1)).all (holdB t0 t1) = ((cs.take j).all (holdB t0 t1) && holdB t0 t1 (cs.getD j (0, 0, 0)))) := hide (all_take_succ (holdB t0 t1) cs j _ hjl)
          have htc := tag_cases (List.all_eq_true.1 HCB.out (cs.getD j (0, 0, 0)) (by simp [List.getD_eq_getElem?_getD, hjl]))
          generalize cs.getD j (0, 0, 0) = c at c0 c1 c2 HSJ htc
          obtain ⟨t, o, x⟩ := c
          simp only at c0 c1 c2 htc
          have q0 := cell_below (cells_at HT.out 0 rfl) HBJ.out
          have q1 := cell_below (cells_at HT.out 1 rfl) HBJ.out
          have hhd := holdsR t o x t0 t1 wq.drew htc
          have HHD := hide hhd
          have HSB : Hid (∀ W, Below wq.heap.size wq W → W.cell? ⟨w.heap.size, 0, none⟩ = some (.slice (some ⟨b, off, none⟩) F.length cap) ∧ W.cell? ⟨b, off + k, none⟩ = some (.slice (some ⟨b2, off2, none⟩) cs.length uc) ∧ W.cell? ⟨b2, off2 + j * 3, none⟩ = some (.int .i64 t) ∧ W.cell? ⟨b2, off2 + j * 3 + 1, none⟩ = some (.int .i64 o) ∧ W.cell? ⟨b2, off2 + j * 3 + 2, none⟩ = some (.int .i64 x) ∧ W.cell? ⟨w.heap.size + 1, 0, none⟩ = some (.int .i64 t0) ∧ W.cell? ⟨w.heap.size + 1, 1, none⟩ = some (.int .i64 t1)) := fun W hW => ⟨cell_below z0 hW, cell_below hu hW, cell_below c0 hW, cell_below c1 hW, cell_below c2 hW, cell_below q0 hW, cell_below q1 hW⟩
          clear hhd c0 c1 c2 q0 q1
          as_aux_lemma =>
          generalize holdB t0 t1 (t, o, x) = hb at HHD HSJ
          generalize (cs.take j).all (holdB t0 t1) = ab at HSJ
          go_wp2
          clear z0 hu
          go_region_held3 (fun wx => wx.cell? ⟨w.heap.size, 0, none⟩ = some (.slice (some ⟨b, off, none⟩) F.length cap) ∧ wx.cell? ⟨b, off + k, none⟩ = some (.slice (some ⟨b2, off2, none⟩) cs.length uc) ∧ wx.cell? ⟨b2, off2 + j * 3, none⟩ = some (.int .i64 t) ∧ wx.cell? ⟨b2, off2 + j * 3 + 1, none⟩ = some (.int .i64 o) ∧ wx.cell? ⟨b2, off2 + j * 3 + 2, none⟩ = some (.int .i64 x) ∧ wx.cell? ⟨w.heap.size + 1, 0, none⟩ = some (.int .i64 t0) ∧ wx.cell? ⟨w.heap.size + 1, 1, none⟩ = some (.int .i64 t1))
            ((refine HSB.out _ ?_; repeat (first | with_reducible exact hb3 | exact Below.refl _ _ | refine Below.drew ?_)))
            (first | (go_at_call 157; refine HHD.out.mono ?_; rintro e3 w3 ⟨rfl, b3⟩; have hb3 : Below wq.heap.size wq w3 := Below.undrew b3))
          have HB3 := hide (HBJ.out.trans (hb3.mono HBJ.out.size))
          clear hb3 b3
          cases ab
          · go_wp2
            refine ⟨⟨j + 1, by go_num, by omega, ?_, HB3.out⟩, by simp [intOf]; omega⟩
            rw [HSJ.out]; rfl
          · go_wp2
            refine ⟨⟨j + 1, by go_num, by omega, ?_, HB3.out⟩, by simp [intOf]; omega⟩
            rw [HSJ.out]; simp
        · obtain rfl : j = cs.length := by omega
          have hal : cs.take cs.length = cs := List.take_length
          rw [hal]
          have HZ2 := hide ((HBJ.out.block _ (heap_lt HZ.out)).trans HZ.out)
          have HT2 := hide ((HBJ.out.block _ (heap_lt HT.out)).trans HT.out)
          generalize hgv : cs.all (holdB t0 t1) = gv at HS HBD
          clear hgv
          as_aux_lemma =>
          cases gv with
          | true =>
            go_wp2
            go_ret
            refine ⟨?_, HBW.out⟩
            rw [HAV.out]
            unfold passB
            rw [HBD.out (by first | exact rfl | exact trivial)]; rfl
          | false =>
            go_wp2
            refine ⟨⟨k + 1, by go_num, by omega, ?_, HBW.out, HZ2.out, HT2.out⟩, by simp [intOf]; omega⟩
            show _ = _
            rw [HS.out, HA.out]; rfl
    · have HAV2 : Hid (av = decide ((F.length : Int) = 0)) := by
        show _ = _
        obtain rfl : k = F.length := by omega
        have := HA.out
        rw [List.take_length] at this
        rw [HAV.out]
        unfold passB
        rw [this]
        simp [List.length_eq_zero_iff]
      go_wp2
      go_ret
      exact ⟨by rw [HAV2.out]; simp [BEq.beq], HB.out⟩

set_option maxHeartbeats 2000000 in
set_option maxRecDepth 20000 in
theorem refusedR (br : Nat) (cf : Cf) (la : Option Addr) (lc : Nat) (L : List Ent) (pv : Value) (xs : List Int) (k beam : Int) (fv : Value) (F : List (List Cnd)) (w : World) (h : RefAt w br cf la lc L) (hp : IntsAt w pv xs) (hf : FiltAt w fv F) :
    Calls Tryz.prog 76 #[.pointer (some ⟨br, 0, none⟩), pv, .int .i64 k, .int .i64 beam, .agg #[fv]] w fun e w' => e = .returned (.int .i64 (schCode cf.dim xs k beam F)) ∧ Below w.heap.size w w' := by
  have hB0 : Below w.heap.size w (w.alloc (.cells #[fv] 47)) := (Below.refl _ _).alloc (Nat.le_refl _) _
  have hpt := point59_any xs pv cf.dim br (w.alloc (.cells #[fv] 47)) (by
    obtain ⟨a, cap, rfl, h1, h2, h3⟩ := hp
    refine ⟨a, cap, rfl, h1, h2, h3.imp id ?_⟩
    rintro ⟨b, off, rfl, hc⟩
    exact ⟨b, off, rfl, fun i hi => cell_below (hc i hi) hB0⟩) (cell_below h.r0 hB0)
  have hwr := wrongR fv F (w.alloc (.cells #[fv] 47)) (hf.below hB0)
  obtain ⟨pa, pcap, rfl, _⟩ := hp
  have hf2 := hf
  obtain ⟨fa, fcap, rfl, _⟩ := hf2
  have HPT := hide hpt
  have HWR := hide hwr
  have HB0 := hide hB0
  have HSC : Hid (schCode cf.dim xs k beam F = if ptCode cf.dim xs ≠ 0 then ptCode cf.dim xs else if inB k 1 60 = true ∧ inB beam 1 100 = true then okCode (filtB F) else 6) := rfl
  clear hpt hf hB0 hwr h
  generalize schCode cf.dim xs k beam F = sc at HSC
  generalize filtB F = fb at HWR HSC
  generalize ptCode cf.dim xs = pc at HPT HSC
  go_enter Tryz.func76, Tryz.ntmps76
  go_wp2_with fail
  refine HPT.out.mono ?_
  rintro e1 w1 ⟨rfl, rfl⟩
  go_wp2_with fail
  refine HWR.out.mono ?_
  rintro e2 w2 ⟨rfl, hb2⟩
  have HB2 := hide (HB0.out.trans (hb2.mono HB0.out.size))
  clear hb2
  by_cases hpc : pc = 0
  · subst hpc
    have HSC2 : Hid (sc = if inB k 1 60 = true ∧ inB beam 1 100 = true then okCode fb else 6) := by
      have := HSC.out
      show sc = _
      simpa using this
    cases hk : inB k 1 60
    · go_wp2_with (go_at_call 67; refine (in_any _ _ _ _).mono ?_; rintro e w' ⟨rfl, rfl⟩)
      go_ret
      exact ⟨by rw [HSC2.out, hk, if_neg (by simp)]; rfl, HB2.out⟩
    · cases hb : inB beam 1 100
      · go_wp2_with (go_at_call 67; refine (in_any _ _ _ _).mono ?_; rintro e w' ⟨rfl, rfl⟩)
        go_ret
        exact ⟨by rw [HSC2.out, hb, if_neg (by simp)]; rfl, HB2.out⟩
      · cases fb
        · go_wp2_with (go_at_call 67; refine (in_any _ _ _ _).mono ?_; rintro e w' ⟨rfl, rfl⟩)
          go_ret
          exact ⟨by rw [HSC2.out, hk, hb, if_pos ⟨rfl, rfl⟩]; rfl, HB2.out⟩
        · go_wp2_with (go_at_call 67; refine (in_any _ _ _ _).mono ?_; rintro e w' ⟨rfl, rfl⟩)
          go_ret
          exact ⟨by rw [HSC2.out, hk, hb, if_pos ⟨rfl, rfl⟩]; rfl, HB2.out⟩
  · have HSC2 : Hid (sc = pc) := by
      have := HSC.out
      rw [if_pos hpc] at this
      exact this
    have hne : (pc != 0) = true := by simpa using hpc
    cases hk : inB k 1 60
    · go_wp2_with (go_at_call 67; refine (in_any _ _ _ _).mono ?_; rintro e w' ⟨rfl, rfl⟩)
      go_ret
      exact ⟨by rw [HSC2.out]; rfl, HB2.out⟩
    · go_wp2_with (go_at_call 67; refine (in_any _ _ _ _).mono ?_; rintro e w' ⟨rfl, rfl⟩)
      go_ret
      exact ⟨by rw [HSC2.out]; rfl, HB2.out⟩
end Go.Proofs.YtpkiefjanmfgfaaGreatDoor
namespace Go.Proofs.YtpkiefjanmfgfaaGreatDoor
open Go.RowKit

theorem IntsAt.cell {w : World} {a : Option Addr} {n c : Nat} {xs : List Int} (h : IntsAt w (.slice a n c) xs) {i : Nat} (hi : i < xs.length) : ∃ b off, a = some ⟨b, off, none⟩ ∧ w.cell? ⟨b, off + i, none⟩ = some (.int .i64 (xs.getD i 0)) := by
  obtain ⟨a', c', e, h1, h2, h3⟩ := h
  simp only [Value.slice.injEq] at e
  obtain ⟨rfl, rfl, rfl⟩ := e
  rcases h3 with rfl | ⟨b, off, rfl, hc⟩
  · simp at hi
  · exact ⟨b, off, rfl, hc i hi⟩

theorem IntsAt.belowD {w w' : World} {v : Value} {xs : List Int} (h : IntsAt w v xs) (hb : Below w.heap.size w w') : IntsAt w' v xs := by
  obtain ⟨a, cap, rfl, h1, h2, h3⟩ := h
  refine ⟨a, cap, rfl, h1, h2, h3.imp id ?_⟩
  rintro ⟨b, off, rfl, hc⟩
  exact ⟨b, off, rfl, fun i hi => Below.at hb (hc i hi) (block_lt_of_cell (hc i hi))⟩
theorem crd_get {l : List Int} (hl : ∀ x ∈ l, Crd x) (n : Nat) : Crd (l.getD n 0) := by
  rw [List.getD_eq_getElem?_getD]
  rcases Nat.lt_or_ge n l.length with h | h
  · rw [List.getElem?_eq_getElem h]; exact hl _ (List.getElem_mem h)
  · rw [List.getElem?_eq_none h]; unfold Crd; simp

set_option maxHeartbeats 2000000 in
set_option maxRecDepth 20000 in
theorem distR (br : Nat) (m : Int) (v1 : Value) (p q : List Int) (g gc : Nat) (w : World) (hm : m = 0 ∨ m = 1 ∨ m = 2) (r3 : w.cell? ⟨br, 3, none⟩ = some (.int .i64 m)) (h1 : IntsAt w v1 p) (h2 : Pts w g gc q) (hl : p.length = q.length) (hp : ∀ x ∈ p, Crd x) (hq : ∀ x ∈ q, Crd x) (h8 : p.length ≤ 100) :
    Calls Tryz.prog 126 #[.pointer (some ⟨br, 0, none⟩), v1, .slice (some ⟨g, 0, none⟩) q.length gc] w fun e w' => e = .returned (.int .i64 (distL m p q)) ∧ Below w.heap.size w w' := by
  have h1' := h1
  obtain ⟨a1, c1, rfl, _⟩ := h1'
  have H1 := hide h1
  have H2 := hide h2
  have HP := hide hp
  have HQ := hide hq
  have HL := hide hl
  clear h1 h2 hp hq hl
  go_enter Tryz.func126, Tryz.ntmps126
  go_wp2
  go_loopw [7, 8, 9, 30, 37, 46] (fun sm i _ _ _ _ wr => ∃ k : Nat, sm = .int .i64 (sumTo m p q k) ∧ i = .int .i64 k ∧ k ≤ p.length ∧ Hid (∃ n, wr = w.drewN n)) (fun _ i _ _ _ _ _ => p.length - (intOf i).toNat)
  case atStart => exact ⟨0, rfl, rfl, Nat.zero_le _, 0, rfl⟩
  case round =>
    obtain ⟨k, rfl, rfl, hk, hw⟩ := hrel
    obtain ⟨n0, hw0⟩ := id hw.out
    by_cases hlt : k < p.length
    · have hlt2 : k < q.length := by rw [← HL.out]; exact hlt
      obtain ⟨b, off, rfl, x1'⟩ := H1.out.cell hlt
      have x1 : wr.cell? ⟨b, off + k, none⟩ = some (.int .i64 (p.getD k 0)) := by rw [hw0]; exact x1'
      have x2 : wr.cell? ⟨g, k, none⟩ = some (.int .i64 (q.getD k 0)) := by
        rw [hw0]
        have := H2.out.cell k hlt2
        rwa [Nat.zero_add] at this
      have y3 : wr.cell? ⟨br, 3, none⟩ = some (.int .i64 m) := by rw [hw0]; exact r3
      have hc1 := crd_get HP.out k
      have hc2 := crd_get HQ.out k
      have hsm := sumTo_le (m := m) HP.out HQ.out k
      have HSS : Hid (sumTo m p q (k + 1) = sumTo m p q k + partI m (p.getD k 0) (q.getD k 0)) := rfl
      generalize sumTo m p q k = s at hsm HSS ⊢
      generalize p.getD k 0 = x at x1 hc1 HSS
      generalize q.getD k 0 = y at x2 hc2 HSS
      have hW : Hid (∀ j, ∃ n, wr.drewN j = w.drewN n) := fun j => ⟨n0 + j, by rw [hw0]; simp⟩
      clear hw0 hw x1'
      have hpr := prod_le hc1 hc2
      unfold Crd at hc1 hc2
      have hsq := sq_le (x := x - y) (by omega) (by omega)
      have w1 : IntKind.i64.wrap (x - y) = x - y := by rw [IntKind.wrap_i64]; omega
      have w3 : IntKind.i64.wrap ((x - y) * (x - y)) = (x - y) * (x - y) := by rw [IntKind.wrap_i64]; omega
      have w4 : IntKind.i64.wrap (s + (x - y) * (x - y)) = s + (x - y) * (x - y) := by rw [IntKind.wrap_i64]; omega
      have w5 : IntKind.i64.wrap (x * y) = x * y := by rw [IntKind.wrap_i64]; omega
      have w6 : IntKind.i64.wrap (s - x * y) = s - x * y := by rw [IntKind.wrap_i64]; omega
      have w7 : IntKind.i64.wrap (s + (x - y)) = s + (x - y) := by rw [IntKind.wrap_i64]; omega
      have w8 : IntKind.i64.wrap (-(x - y)) = -(x - y) := by rw [IntKind.wrap_i64]; omega
      have w9 : IntKind.i64.wrap (s + -(x - y)) = s + -(x - y) := by rw [IntKind.wrap_i64]; omega
      clear hsm hpr hsq
      rcases hm with rfl | rfl | rfl
      · go_wp2
        go_quiet (fail)
        go_wp2
        refine ⟨⟨k + 1, by rw [HSS.out]; simp [partI], by go_num, by omega, hW.out _⟩, by simp [intOf]; omega⟩
      · by_cases hd : x - y < 0
        · have hdd : decide (x - y < 0) = true := decide_eq_true hd
          go_wp2
          go_quiet (fail)
          go_wp2
          refine ⟨⟨k + 1, ?_, by go_num, by omega, hW.out _⟩, by simp [intOf]; omega⟩
          have e : partI 1 x y = -(x - y) := by unfold partI; rw [if_neg (by omega), if_pos rfl]; omega
          rw [HSS.out, e]
        · have hdd : decide (x - y < 0) = false := decide_eq_false hd
          go_wp2
          go_quiet (fail)
          go_wp2
          refine ⟨⟨k + 1, ?_, by go_num, by omega, hW.out _⟩, by simp [intOf]; omega⟩
          have e : partI 1 x y = x - y := by unfold partI; rw [if_neg (by omega), if_pos rfl]; omega
          rw [HSS.out, e]
      · go_wp2
        go_quiet (fail)
        go_wp2
        go_quiet (fail)
        go_wp2
        refine ⟨⟨k + 1, by rw [HSS.out]; simp [partI]; omega, by go_num, by omega, hW.out _⟩, by simp [intOf]; omega⟩
    · obtain rfl : k = p.length := by omega
      have hs := sumTo_all m p q HL.out
      have HS := hide hs
      have HW : Hid (Below w.heap.size w wr) := by rw [hw0]; exact below_drewN (Below.refl _ _) _
      clear hs hw0
      go_wp2
      go_ret
      exact ⟨by rw [HS.out]; rfl, HW.out⟩
end Go.Proofs.YtpkiefjanmfgfaaGreatDoor
namespace Go.Proofs.YtpkiefjanmfgfaaGreatDoor
open Go.RowKit Go.Maps

def hitsL (m : Int) (xs : List Int) (F : List (List Cnd)) (L : List Ent) : List Hit := (L.filter fun e => passB F e.t0 e.t1).map fun e => (e.id, distL m xs e.pt)
theorem hitsL_no {m : Int} {xs : List Int} {F : List (List Cnd)} {L : List Ent} {k : Nat} (hk : k < L.length) (h : passB F L[k].t0 L[k].t1 = false) : hitsL m xs F (L.take (k + 1)) = hitsL m xs F (L.take k) := by
  unfold hitsL
  rw [List.take_succ_eq_append_getElem hk, List.filter_append, List.map_append]
  simp [h]
theorem hitsL_yes {m : Int} {xs : List Int} {F : List (List Cnd)} {L : List Ent} {k : Nat} (hk : k < L.length) (h : passB F L[k].t0 L[k].t1 = true) : hitsL m xs F (L.take (k + 1)) = hitsL m xs F (L.take k) ++ [(L[k].id, distL m xs L[k].pt)] := by
  unfold hitsL
  rw [List.take_succ_eq_append_getElem hk, List.filter_append, List.map_append]
  simp [h]
theorem hitsL_len (m : Int) (xs : List Int) (F : List (List Cnd)) (L : List Ent) : (hitsL m xs F L).length ≤ L.length := by
  unfold hitsL
  simpa using List.length_filter_le _ _
theorem hitsL_lt {m : Int} {xs : List Int} {F : List (List Cnd)} {L : List Ent} (hr : Rising L) {k : Nat} (hk : k < L.length) : ∀ x ∈ hitsL m xs F (L.take k), x.1 < L[k].id := by
  intro x hx
  unfold hitsL at hx
  obtain ⟨e, he, rfl⟩ := List.mem_map.1 hx
  have he2 := (List.mem_filter.1 he).1
  obtain ⟨i, hi, rfl⟩ := List.mem_iff_getElem.1 he2
  simp only [List.getElem_take]
  have hi2 : i < k := by simp at hi; omega
  exact (List.pairwise_iff_getElem.1 hr) i k (by omega) hk hi2

theorem sink_sorted {A B : List Hit} {x : Hit} (hs : (A ++ B).Pairwise hle) (hb : ∀ b ∈ B, x.2 < b.2) (hid : ∀ a ∈ A, a.1 < x.1) (ha : A = [] ∨ ∃ A' y, A = A' ++ [y] ∧ y.2 ≤ x.2) : (A ++ x :: B).Pairwise hle := by
  rw [List.pairwise_append] at hs ⊢
  obtain ⟨h1, h2, h3⟩ := hs
  refine ⟨h1, List.pairwise_cons.2 ⟨fun b hb' => .inl (hb b hb'), h2⟩, fun a ha' y hy => ?_⟩
  rcases List.mem_cons.1 hy with rfl | hy
  · have hle2 : a.2 ≤ y.2 := by
      rcases ha with rfl | ⟨A', z, rfl, hz⟩
      · simp at ha'
      · rcases List.mem_append.1 ha' with h | h
        · have := (List.pairwise_append.1 h1).2.2 a h z (by simp)
          unfold hle at this
          omega
        · rw [List.mem_singleton.1 h]; exact hz
    have := hid a ha'
    unfold hle
    omega
  · exact h3 a ha' y hy
theorem nth_mid (A B : List Hit) (x : Hit) : nth (A ++ x :: B) A.length = x := by simp [nth, List.getD_eq_getElem?_getD]
theorem nth_last (A B : List Hit) (x y : Hit) : nth ((A ++ [y]) ++ x :: B) ((A ++ [y]).length - 1) = y := by simp [nth, List.getD_eq_getElem?_getD]
theorem sink_set (A B : List Hit) (x y : Hit) : (((A ++ [y]) ++ x :: B).set (A ++ [y]).length y).set ((A ++ [y]).length - 1) x = A ++ x :: y :: B := by
  simp

structure NrS (w wr : World) (fv v : Value) (l : List Hit) : Prop where
  row : HRow wr v l
  new : ∀ g, v.ownBlock = some g → w.heap.size < g
  below : Below w.heap.size w wr
  box : wr.heap[w.heap.size]? = some (.cells #[fv] 47 (0, 0))
theorem NrS.on {w wr wq : World} {fv v : Value} {l : List Hit} (h : NrS w wr fv v l) (hb : Below wr.heap.size wr wq) : NrS w wq fv v l :=
  ⟨ownsRow_below h.row hb, h.new, h.below.trans (hb.mono h.below.size), (hb.block _ (heap_lt h.box)).trans h.box⟩
theorem NrS.grown {w wr wq : World} {fv v : Value} {l : List Hit} {g cap : Nat} {x : Hit} (h : NrS w wr fv v l) (ho : wq.ownsRow 0 63 2 (.slice (some ⟨g, 0, none⟩) (l.length + 1) cap) (l.length + 1) (hcells l ++ [.int .i64 x.1, .int .i64 x.2])) (hg : wr.grownBy wq v.ownBlock) (hat : v.ownBlock = some g ∨ wr.heap.size ≤ g) : NrS w wq fv (.slice (some ⟨g, 0, none⟩) (l.length + 1) cap) (l ++ [x]) := by
  have hlt := heap_lt h.box
  refine ⟨?_, fun g' e => ?_, ?_, ?_⟩
  · unfold HRow
    rw [hcells_append, List.length_append]
    exact ho
  · obtain rfl : g = g' := by simpa [Value.ownBlock] using e
    exact hat.elim (h.new g) (fun e => by omega)
  · exact h.below.grown hg h.below.size (fun k e => Nat.le_of_lt (h.new k e))
  · exact (hg.block _ hlt (fun e => by have := h.new _ e.symm; omega)).trans h.box
theorem NrS.put {w wr : World} {fv : Value} {g n cap : Nat} {l : List Hit} (h : NrS w wr fv (.slice (some ⟨g, 0, none⟩) n cap) l) (hn : n = l.length) (k : Nat) (x : Hit) : NrS w ((wr.setCell ⟨g, k * 2, none⟩ (.int .i64 x.1)).setCell ⟨g, k * 2 + 1, none⟩ (.int .i64 x.2)) fv (.slice (some ⟨g, 0, none⟩) n cap) (l.set k x) := by
  have hg := h.new g rfl
  refine ⟨?_, h.new, (h.below.setCell (by exact Nat.le_of_lt hg) _).setCell (by exact Nat.le_of_lt hg) _, ?_⟩
  · unfold HRow
    rw [List.length_set]
    subst hn
    exact HRow.set h.row k x
  · rw [Below.heap_setCell _ _ _ _ (by show _ ≠ g; omega), Below.heap_setCell _ _ _ _ (by show _ ≠ g; omega)]
    exact h.box

set_option maxHeartbeats 4000000 in
set_option maxRecDepth 20000 in
theorem nearestR (br : Nat) (cf : Cf) (la : Option Addr) (lc : Nat) (L : List Ent) (pv : Value) (xs : List Int) (fv : Value) (F : List (List Cnd)) (w : World) (h : RefAt w br cf la lc L) (hp : IntsAt w pv xs) (hf : FiltAt w fv F) (hok : F.all clauseB = true) (hm : cf.metric = 0 ∨ cf.metric = 1 ∨ cf.metric = 2) (hx : ∀ x ∈ xs, Crd x) (hlen : ∀ e ∈ L, e.pt.length = xs.length) (hcrd : ∀ e ∈ L, ∀ x ∈ e.pt, Crd x) (h8 : xs.length ≤ 100) :
    Calls Tryz.prog 78 #[.pointer (some ⟨br, 0, none⟩), pv, .agg #[fv]] w fun ev w' => ∃ v l, ev = .returned v ∧ NrS w w' fv v l ∧ l.Pairwise hle ∧ l.Perm (hitsL cf.metric xs F L) := by
  have h' := h
  have hbr := h.lt
  obtain ⟨pa, pcap, rfl, _⟩ := id hp
  obtain ⟨fa, fcap, rfl, _⟩ := id hf
  have hS0 : NrS w (w.alloc (.cells #[.slice fa F.length fcap] 47)) (.slice fa F.length fcap) (.slice none 0 0) [] := ⟨⟨rfl, .inl ⟨rfl, rfl⟩⟩, fun g e => (by cases e), (Below.refl _ _).alloc (Nat.le_refl _) _, heap_alloc_new _ _⟩
  obtain ⟨i0, hi63, hz0, hz1, hz2⟩ := info_parts info63
  have H := hide h
  have HP := hide hp
  have HF := hide hf
  have HOK := hide hok
  have HX := hide hx
  have HLN := hide hlen
  have HCR := hide hcrd
  have HS0 := hide hS0
  have hsm := h.small
  clear h hp hf hok hx hlen hcrd hS0 h'
  go_enter Tryz.func78, Tryz.ntmps78
  go_wp2
  generalize hwe : w.alloc (.cells #[.slice fa F.length fcap] 47) = w1 at HS0 ⊢
  clear hwe
  go_loopw [7, 8, 9, 10, 11, 12] (fun v i _ _ _ _ wr => ∃ (k : Nat) (u : Value) (l : List Hit), u = v ∧ i = .int .i64 k ∧ k ≤ L.length ∧ Hid (NrS w wr (.slice fa F.length fcap) u l) ∧ Hid (l.Pairwise hle) ∧ Hid (l.Perm (hitsL cf.metric xs F (L.take k)))) (fun _ i _ _ _ _ _ => L.length - (intOf i).toNat)
  case atStart => exact ⟨0, _, [], rfl, rfl, Nat.zero_le _, HS0, List.Pairwise.nil, by simp [Hid, hitsL]⟩
  case round =>
    obtain ⟨k, v, l, hv, rfl, hk, HN, HPW, HPM⟩ := hrel
    subst hv
    have hR := H.out.below HN.out.below
    have r6 := hR.r6
    by_cases hlt : k < L.length
    · obtain ⟨g, rfl⟩ := hR.addr (by omega)
      have e0 := ref_cell hR.row hlt (j := 0) (by omega) rfl
      have e1 := ref_cell hR.row hlt (j := 1) (by omega) rfl
      have e2 := ref_cell hR.row hlt (j := 2) (by omega) rfl
      have e3 := ref_cell hR.row hlt (j := 3) (by omega) rfl
      have hmem : L[k] ∈ L := List.getElem_mem hlt
      have hids := hitsL_lt (m := cf.metric) (xs := xs) (F := F) H.out.rising hlt
      have hno := hitsL_no (m := cf.metric) (xs := xs) (F := F) hlt
      have hyes := hitsL_yes (m := cf.metric) (xs := xs) (F := F) hlt
      have hpt := hR.pts _ hmem
      have hln := HLN.out _ hmem
      have hcr := HCR.out _ hmem
      have hll : l.length ≤ 60 := by
        have h1 := HPM.out.length_eq
        have h2 := hitsL_len cf.metric xs F (L.take k)
        simp at h2
        omega
      generalize L[k] = e at *
      have HPS : Hid (∀ W, Below wr.heap.size wr W → Calls Tryz.prog 125 #[.agg #[.slice fa F.length fcap], .agg #[.int .i64 e.t0, .int .i64 e.t1]] W fun e' w' => e' = .returned (.bool (passB F e.t0 e.t1)) ∧ Below W.heap.size W w') := fun W hW => passesR _ F e.t0 e.t1 W ((HF.out.below HN.out.below).below hW) HOK.out
      have HDS : Hid (∀ W, Below wr.heap.size wr W → Calls Tryz.prog 126 #[.pointer (some ⟨br, 0, none⟩), .slice pa xs.length pcap, .slice (some ⟨e.rb, 0, none⟩) e.pt.length e.rc] W fun e' w' => e' = .returned (.int .i64 (distL cf.metric xs e.pt)) ∧ Below W.heap.size W w') := fun W hW =>
        distR br cf.metric _ xs e.pt e.rb e.rc W hm (cell_below hR.r3 hW) (IntsAt.belowD (IntsAt.belowD HP.out HN.out.below) hW) (ownsRow_below hpt hW) hln.symm HX.out hcr h8
      have b0 := cells_at HN.out.box 0 rfl
      have HSB : Hid (∀ W, Below wr.heap.size wr W → W.cell? ⟨br, 6, none⟩ = some (.slice (some ⟨g, 0, none⟩) L.length lc) ∧ W.cell? ⟨w.heap.size, 0, none⟩ = some (.slice fa F.length fcap) ∧ W.cell? ⟨g, k * 5 + 2, none⟩ = some (.int .i64 e.t0) ∧ W.cell? ⟨g, k * 5 + 3, none⟩ = some (.int .i64 e.t1)) := fun W hW => ⟨cell_below r6 hW, cell_below b0 hW, cell_below e2 hW, cell_below e3 hW⟩
      have HE : Hid (∀ W, Below wr.heap.size wr W → W.cell? ⟨br, 6, none⟩ = some (.slice (some ⟨g, 0, none⟩) L.length lc) ∧ W.cell? ⟨g, k * 5, none⟩ = some (.int .i64 e.id) ∧ W.cell? ⟨g, k * 5 + 1, none⟩ = some (.slice (some ⟨e.rb, 0, none⟩) e.pt.length e.rc)) := fun W hW => ⟨cell_below r6 hW, cell_below e0 hW, cell_below e1 hW⟩
      have HIDS := hide hids
      have HNO := hide hno
      have HYES := hide hyes
      clear hids hno hyes hpt hln hcr e0 e1 e2 e3 b0 hR
      generalize passB F e.t0 e.t1 = pb at HPS HNO HYES
      generalize distL cf.metric xs e.pt = dv at HDS HYES
      as_aux_lemma =>
      go_wp2
      clear r6
      go_region_held3 (fun wx => wx.cell? ⟨br, 6, none⟩ = some (.slice (some ⟨g, 0, none⟩) L.length lc) ∧ wx.cell? ⟨w.heap.size, 0, none⟩ = some (.slice fa F.length fcap) ∧ wx.cell? ⟨g, k * 5 + 2, none⟩ = some (.int .i64 e.t0) ∧ wx.cell? ⟨g, k * 5 + 3, none⟩ = some (.int .i64 e.t1))
        ((refine HSB.out _ ?_; repeat (first | with_reducible exact hb3 | exact Below.refl _ _ | refine Below.drew ?_)))
        (first | (go_at_call 125; refine (HPS.out _ (Below.refl _ _).drew).mono ?_; rintro e3 w3 ⟨rfl, b3⟩; have hb3 : Below wr.heap.size wr w3 := Below.undrew b3))
      have HB3 := hide hb3
      clear hb3 b3
      cases pb with
      | false =>
        go_wp2
        refine ⟨⟨k + 1, v, l, rfl, by go_num, by omega, HN.out.on HB3.out, HPW, by rw [HNO.out rfl]; exact HPM⟩, by simp [intOf]; omega⟩
      | true =>
        obtain ⟨q6, q0, q1⟩ := HE.out _ HB3.out
        go_wp2_with fail
        refine (HDS.out _ HB3.out).mono ?_
        rintro ev4 w4 ⟨rfl, hb4⟩
        have hb4w : Below wr.heap.size wr w4 := HB3.out.trans (hb4.mono HB3.out.size)
        obtain ⟨p6, p0, p1⟩ := HE.out _ hb4w
        have HN4 := hide (HN.out.on hb4w)
        clear q6 q0 q1 hb4 hb4w
        have hfit := row_fit l.length (by omega)
        go_wp2_with (at_builtin; refine wpList_append_lies _ rfl _ _ 58 rfl 0 63 i0 (.agg #[.int .i64 0, .int .i64 0]) 2 16 Tryz.underlying58 hi63 hz0 hz1 hz2 rfl (by decide) _ l.length (hcells l) rfl (HN4.out.row.alloc _) ⟨w4.heap.size, 0, none⟩ 1 1 [.int .i64 e.id, .int .i64 dv] rfl rfl (World.news_of_block (cs := #[.int .i64 e.id, .int .i64 dv]) (t := 63) (fr := (0, 0)) (heap_alloc_new _ _)) (by simp [Value.oneCell']) (by decide) hfit.1 hfit.2 (Nat.zero_le _) (w4.heap.size + 1) (by simp) ?_; intro g1 cap1 w5 ho1 hg1 hl1 hlt1; have HN5 := hide ((HN4.out.on ((Below.refl _ _).alloc (Nat.le_refl _) _)).grown (x := (e.id, dv)) ho1 hg1 (hl1.imp (fun e => e) (fun e => by simp; omega))); clear ho1 hg1 hl1)
        have HQ : Hid ((l ++ [(e.id, dv)]).Perm (hitsL cf.metric xs F (L.take (k + 1)))) := by
          show List.Perm _ _
          rw [HYES.out (by first | exact rfl | exact trivial)]
          exact HPM.out.append_right _
        have HID : Hid (∀ a ∈ l, a.1 < e.id) := fun a ha => HIDS.out a (HPM.out.mem_iff.1 ha)
        clear HPM HIDS HYES HNO HE HSB HPS HDS HN4 HN HB3 p6 p0 p1 hfit
        go_loopw [11, 12] (fun i _ wq => ∃ (A B : List Hit), i = .int .i64 A.length ∧ Hid (NrS w wq (.slice fa F.length fcap) (.slice (some ⟨g1, 0, none⟩) (l.length + 1) cap1) (A ++ (e.id, dv) :: B)) ∧ Hid (A ++ B = l) ∧ Hid (∀ b ∈ B, dv < b.2)) (fun i _ _ => (intOf i).toNat)
        case atStart => exact ⟨l, [], by go_num, HN5, by simp [Hid], fun b hb => absurd hb List.not_mem_nil⟩
        case round =>
          rename World => wq
          obtain ⟨A, B, rfl, HM, HAB, HBB⟩ := hrel
          have hlen : (A ++ (e.id, dv) :: B).length = l.length + 1 := by rw [← HAB.out]; simp; omega
          have hdone : ∀ W, NrS w W (.slice fa F.length fcap) (.slice (some ⟨g1, 0, none⟩) (l.length + 1) cap1) (A ++ (e.id, dv) :: B) → (A = [] ∨ ∃ A' y, A = A' ++ [y] ∧ y.2 ≤ dv) → ∃ (l_1 : List Hit), Hid (NrS w W (.slice fa F.length fcap) (.slice (some ⟨g1, 0, none⟩) (l.length + 1) cap1) l_1) ∧ Hid (l_1.Pairwise hle) ∧ Hid (l_1.Perm (hitsL cf.metric xs F (L.take (k + 1)))) := fun W hW hA => by
            refine ⟨_, hW, ?_, ?_⟩
            · exact sink_sorted (by rw [HAB.out]; exact HPW.out) HBB.out (fun a ha => HID.out a (by rw [← HAB.out]; simp [ha])) hA
            · refine List.Perm.trans ?_ HQ.out
              rw [← HAB.out, List.append_assoc]
              exact List.Perm.append_left _ (List.perm_append_singleton _ _).symm
          have HDN := hide hdone
          clear hdone
          rcases List.eq_nil_or_concat A with rfl | ⟨A', y, rfl⟩
          · have hd0 : decide ((0 : Int) < (([] : List Hit).length : Int)) = false := rfl
            go_wp2
            go_quiet (fail)
            go_wp2
            obtain ⟨l1, n1, n2, n3⟩ := HDN.out _ (HM.out.on (below_drewN (Below.refl _ _) _)) (.inl (by first | exact rfl | exact trivial))
            exact ⟨⟨k + 1, _, l1, rfl, by go_num, by omega, n1, n2, n3⟩, by simp [intOf]; omega⟩
          · have hl1 : (A' ++ [y]).length = A'.length + 1 := by simp
            rw [List.concat_eq_append] at *
            have hrow : wq.ownsRow 0 63 2 (.slice (some ⟨g1, 0, none⟩) (l.length + 1) cap1) (l.length + 1) (hcells (A' ++ [y] ++ (e.id, dv) :: B)) := by
              have := HM.out.row
              unfold HRow at this
              rwa [hlen] at this
            have x1 := HRow.at1 hrow (k := A'.length + 1) (by simp)
            have x0 := HRow.at0 hrow (k := A'.length + 1) (by simp)
            have y1 := HRow.at1 hrow (k := A'.length) (by simp)
            have y0 := HRow.at0 hrow (k := A'.length) (by simp)
            have nx : nth (A' ++ [y] ++ (e.id, dv) :: B) (A'.length + 1) = (e.id, dv) := by have := nth_mid (A' ++ [y]) B (e.id, dv); rwa [hl1] at this
            have ny : nth (A' ++ [y] ++ (e.id, dv) :: B) A'.length = y := by have := nth_last A' B (e.id, dv) y; rwa [hl1] at this
            rw [nx] at x1 x0
            rw [ny] at y1 y0
            simp only at x1 x0
            have hfz := ownsRow_frozen hrow
            have hgl := (hrow.lt g1 rfl).2
            have hd0 : decide ((0 : Int) < ((A' ++ [y]).length : Int)) = true := decide_eq_true (by simp)
            have hAl : A'.length < l.length := by rw [← HAB.out]; simp
            have HL1 := hide hl1
            have HLN := hide hlen
            clear hlen hrow nx ny
            rw [hl1] at hd0 ⊢
            clear hl1
            obtain ⟨yi, yd⟩ := y
            simp only at y1 y0
            by_cases hlt : dv < yd
            · have hlt2 : decide (dv < yd) = true := decide_eq_true hlt
              go_wp2
              go_quiet (fail)
              have HM2 := hide (HM.out.on (below_drewN (Below.refl _ _) nq))
              have u0 : (wq.drewN nq).cell? ⟨g1, (A'.length + 1) * 2, none⟩ = some (.int .i64 e.id) := x0
              have u1 : (wq.drewN nq).cell? ⟨g1, (A'.length + 1) * 2 + 1, none⟩ = some (.int .i64 dv) := x1
              have z0 : (wq.drewN nq).cell? ⟨g1, A'.length * 2, none⟩ = some (.int .i64 yi) := y0
              have z1 : (wq.drewN nq).cell? ⟨g1, A'.length * 2 + 1, none⟩ = some (.int .i64 yd) := y1
              have hfz2 : ∀ j, (wq.drewN nq).frozen? ⟨g1, j, none⟩ = false := hfz
              have hgl2 : g1 < (wq.drewN nq).heap.size := by simpa using hgl
              generalize wq.drewN nq = wz at HM2 u0 u1 z0 z1 hfz2 hgl2 ⊢
              clear x0 x1 y0 y1 hfz hgl HM HDN
              go_wp2
              have hq := (HM2.out.put HLN.out.symm (A'.length + 1) (yi, yd)).put (by rw [List.length_set]; exact HLN.out.symm) A'.length (e.id, dv)
              have hss := sink_set A' B (e.id, dv) (yi, yd)
              rw [HL1.out, Nat.add_sub_cancel] at hss
              rw [hss] at hq
              refine ⟨⟨A', (yi, yd) :: B, rfl, hq.on ((Below.refl _ _).alloc (Nat.le_refl _) _), by rw [← HAB.out]; simp [Hid], fun b hb => ?_⟩, by simp [intOf]⟩
              rcases List.mem_cons.1 hb with rfl | hb
              · exact hlt
              · exact HBB.out b hb
            · have hlt2 : decide (dv < yd) = false := decide_eq_false hlt
              go_wp2
              go_quiet (fail)
              go_wp2
              obtain ⟨l1, n1, n2, n3⟩ := HDN.out _ (HM.out.on (below_drewN (Below.refl _ _) _)) (.inr ⟨A', (yi, yd), by first | exact rfl | trivial, by show yd ≤ dv; omega⟩)
              exact ⟨⟨k + 1, _, l1, rfl, by go_num, by omega, n1, n2, n3⟩, by simp [intOf]; omega⟩
    · obtain rfl : k = L.length := by omega
      go_wp2
      go_ret
      exact ⟨_, l, rfl, HN.out, HPW.out, by have := HPM.out; rwa [List.take_length] at this⟩
end Go.Proofs.YtpkiefjanmfgfaaGreatDoor
namespace Go.Proofs.YtpkiefjanmfgfaaGreatDoor

structure FInv (want : Int → Bool) (width : Int) (s : AS) : Prop where
  hp : Hp s.Fd
  nod : (s.Fd.map (·.1)).Nodup
  sub : ∀ h ∈ s.Fd, h.1 ∈ s.met ∧ want h.1 = true
  cnt : (s.Fd.length : Int) = min width ((s.met.filter want).length : Int)
theorem popL_nodup {l : List Hit} (h : (l.map (·.1)).Nodup) : ((popL 150 l).map (·.1)).Nodup := by
  cases l with
  | nil => simp [popL, downL]
  | cons x l =>
    have hp := (popL_perm (fk := 150) (x := x) (l := l)).map (·.1)
    rw [hp.nodup_iff]
    rw [List.map_cons, List.nodup_cons] at h
    exact h.2
theorem FInv.meet {want : Int → Bool} {width : Int} {s : AS} (h : FInv want width s) (_hw : 0 < width) (dd : Int → Int) (id : Int) : FInv want width (meetL dd want width s id) := by
  unfold meetL
  split
  · exact h
  · rename_i hm
    by_cases hwt : want id = true
    · have e : (List.filter want (id :: s.met)).length = (s.met.filter want).length + 1 := by rw [List.filter_cons_of_pos hwt]; rfl
      have hpn : ((pushL 150 s.Fd (id, dd id)).map (·.1)).Nodup := by
        rw [((pushL_perm s.Fd (id, dd id)).map (·.1)).nodup_iff, List.map_cons, List.nodup_cons]
        refine ⟨fun hx => ?_, h.nod⟩
        obtain ⟨y, hy, e⟩ := List.mem_map.1 hx
        have e' : y.1 = id := e
        exact hm (e' ▸ (h.sub y hy).1)
      have hps : ∀ y ∈ pushL 150 s.Fd (id, dd id), y.1 ∈ id :: s.met ∧ want y.1 = true := fun y hy => by
        rcases mem_pushL hy with rfl | hy
        · exact ⟨List.mem_cons_self, hwt⟩
        · exact ⟨List.mem_cons_of_mem _ (h.sub y hy).1, (h.sub y hy).2⟩
      have hc := h.cnt
      refine ⟨?_, ?_, fun y hy => ?_, ?_⟩
      · simp only [hwt, if_true]
        unfold addL
        split
        · exact popL_heap (pushL_heap h.hp _)
        · exact pushL_heap h.hp _
      · simp only [hwt, if_true]
        unfold addL
        split
        · exact popL_nodup hpn
        · exact hpn
      · simp only [hwt, if_true] at hy
        unfold addL at hy
        split at hy
        · exact hps y (mem_popL hy)
        · exact hps y hy
      · simp only [hwt, if_true]
        show ((addL width s.Fd (id, dd id)).length : Int) = min width ((List.filter want (id :: s.met)).length : Int)
        rw [e]
        unfold addL
        split
        · rename_i h1
          rw [pushL_length] at h1
          rw [popL_length, pushL_length]
          omega
        · rename_i h1
          rw [pushL_length] at h1
          rw [pushL_length]
          omega
    · have hwf : want id = false := by simpa using hwt
      refine ⟨?_, ?_, fun y hy => ?_, ?_⟩
      · simp only [hwf]; exact h.hp
      · simp only [hwf]; exact h.nod
      · simp only [hwf] at hy
        exact ⟨List.mem_cons_of_mem _ (h.sub y hy).1, (h.sub y hy).2⟩
      · simp only [hwf]
        show ((if false = true then _ else s.Fd).length : Int) = min width ((List.filter want (id :: s.met)).length : Int)
        rw [List.filter_cons_of_neg (by rw [hwf]; decide)]
        exact h.cnt
theorem FInv.meetAll {want : Int → Bool} {width : Int} (hw : 0 < width) (dd : Int → Int) : ∀ {l : List Int} {s : AS}, FInv want width s → FInv want width (meetAll dd want width s l)
  | [], _, h => h
  | x :: l, _, h => FInv.meetAll (l := l) hw dd (h.meet hw dd x)
theorem FInv.run {want : Int → Bool} {width : Int} (hw : 0 < width) (dd : Int → Int) {nb : Int → List Int} : ∀ (n : Nat) {s : AS}, FInv want width s → FInv want width (runS dd want width nb n s)
  | 0, _, h => h
  | n + 1, s, h => by
    unfold runS
    split
    · have hp : FInv want width (popS s) := ⟨h.hp, h.nod, h.sub, h.cnt⟩
      exact FInv.run hw dd n (hp.meetAll hw dd)
    · exact h

def Cl (nb : Int → List Int) (ex : Int → Prop) (s : AS) : Prop := ∀ x ∈ s.met, ex x ∨ (∃ h ∈ s.C, h.1 = x) ∨ ∀ y ∈ nb x, y ∈ s.met
theorem meetL_met {dd : Int → Int} {want : Int → Bool} {width : Int} {s : AS} {id : Int} : (∀ x ∈ s.met, x ∈ (meetL dd want width s id).met) ∧ id ∈ (meetL dd want width s id).met := by
  unfold meetL
  split
  · rename_i h; exact ⟨fun x hx => hx, h⟩
  · exact ⟨fun x hx => List.mem_cons_of_mem _ hx, List.mem_cons_self⟩
theorem Cl.meet {nb : Int → List Int} {ex : Int → Prop} {s : AS} (h : Cl nb ex s) (dd : Int → Int) (want : Int → Bool) (width : Int) (id : Int) : Cl nb ex (meetL dd want width s id) := by
  have hmono := (meetL_met (dd := dd) (want := want) (width := width) (s := s) (id := id)).1
  intro x hx
  by_cases hin : x ∈ s.met
  · rcases h x hin with h1 | ⟨y, hy, e⟩ | h1
    · exact .inl h1
    · refine .inr (.inl ⟨y, ?_, e⟩)
      unfold meetL
      split
      · exact hy
      · exact ((pushL_perm s.C (id, dd id)).mem_iff).2 (List.mem_cons_of_mem _ hy)
    · exact .inr (.inr fun y hy => hmono y (h1 y hy))
  · unfold meetL at hx ⊢
    split at hx
    · exact absurd hx hin
    · rename_i hm
      rcases List.mem_cons.1 hx with rfl | hx
      · rw [if_neg hm]
        exact .inr (.inl ⟨(x, dd x), ((pushL_perm s.C (x, dd x)).mem_iff).2 List.mem_cons_self, rfl⟩)
      · exact absurd hx hin
theorem Cl.meetAll {nb : Int → List Int} {ex : Int → Prop} (dd : Int → Int) (want : Int → Bool) (width : Int) : ∀ {l : List Int} {s : AS}, Cl nb ex s → Cl nb ex (meetAll dd want width s l)
  | [], _, h => h
  | x :: l, _, h => Cl.meetAll (l := l) dd want width (h.meet dd want width x)
theorem meetAll_met (dd : Int → Int) (want : Int → Bool) (width : Int) : ∀ {l : List Int} {s : AS}, (∀ x ∈ s.met, x ∈ (meetAll dd want width s l).met) ∧ ∀ x ∈ l, x ∈ (meetAll dd want width s l).met
  | [], _ => ⟨fun x hx => hx, fun x hx => absurd hx List.not_mem_nil⟩
  | y :: l, s => by
    have h1 := meetL_met (dd := dd) (want := want) (width := width) (s := s) (id := y)
    have h2 := meetAll_met dd want width (l := l) (s := meetL dd want width s y)
    refine ⟨fun x hx => h2.1 x (h1.1 x hx), fun x hx => ?_⟩
    rcases List.mem_cons.1 hx with rfl | hx
    · exact h2.1 x h1.2
    · exact h2.2 x hx
theorem Cl.step {nb : Int → List Int} {s : AS} (h : Cl nb (fun _ => False) s) (dd : Int → Int) (want : Int → Bool) (width : Int) (hC : 0 < s.C.length) : Cl nb (fun _ => False) (stepS dd want width nb s) := by
  obtain ⟨t, C', hCe⟩ : ∃ t C', s.C = t :: C' := by
    cases hc : s.C with
    | nil => rw [hc] at hC; exact absurd hC (Nat.lt_irrefl _)
    | cons t C' => exact ⟨t, C', rfl⟩
  have hp : Cl nb (fun x => x = t.1) (popS s) := fun x hx => by
    rcases h x hx with h1 | ⟨y, hy, e⟩ | h1
    · exact h1.elim
    · rw [hCe] at hy
      rcases List.mem_cons.1 hy with rfl | hy
      · exact .inl e.symm
      · refine .inr (.inl ⟨y, ?_, e⟩)
        show y ∈ popL 104 s.C
        rw [hCe]
        exact ((popL_perm (fk := 104) (x := t) (l := C')).mem_iff).2 hy
    · exact .inr (.inr h1)
  have ht : nth s.C 0 = t := by rw [hCe]; rfl
  intro x hx
  unfold stepS at hx ⊢
  rw [ht] at hx ⊢
  rcases hp.meetAll dd want width x hx with h1 | h1 | h1
  · subst h1
    exact .inr (.inr fun y hy => (meetAll_met dd want width (l := nb t.1) (s := popS s)).2 y hy)
  · exact .inr (.inl h1)
  · exact .inr (.inr h1)
theorem run_end {ids : List Int} {dd : Int → Int} (want : Int → Bool) (width : Int) {nb : Int → List Int} (hnb : ∀ i ∈ ids, ∀ x ∈ nb i, x ∈ ids) : ∀ (n : Nat) {s : AS}, ASOk ids dd s → s.mu ids.length ≤ n → Cl nb (fun _ => False) s → onward width (runS dd want width nb n s) = false ∧ Cl nb (fun _ => False) (runS dd want width nb n s) ∧ (∀ x ∈ s.met, x ∈ (runS dd want width nb n s).met) ∧ ASOk ids dd (runS dd want width nb n s)
  | 0, s, h, hm, hc => by
    have : s.C.length = 0 := by unfold AS.mu at hm; omega
    refine ⟨?_, hc, fun x hx => hx, h⟩
    show onward width s = false
    unfold onward
    rw [this]; rfl
  | n + 1, s, h, hm, hc => by
    unfold runS
    split
    · rename_i ho
      obtain ⟨h1, h2⟩ := h.step want width hnb ho
      have hC : 0 < s.C.length := by
        unfold onward at ho
        simp at ho
        exact ho.1
      obtain ⟨a, b, c, d⟩ := run_end want width hnb n h1 (by omega) (hc.step dd want width hC)
      refine ⟨a, b, fun x hx => c x ?_, d⟩
      unfold stepS
      exact (meetAll_met dd want width (s := popS s)).1 x hx
    · rename_i ho
      exact ⟨by simpa using ho, hc, fun x hx => hx, h⟩

theorem alongR_spec {ids : List Int} {dd : Int → Int} {want : Int → Bool} {width : Int} {nb : Int → List Int} {kn : List (Int × Int)} {st : List Hit} (hw : 0 < width) (hnb : ∀ i ∈ ids, ∀ x ∈ nb i, x ∈ ids) (hkn : KnOk ids dd kn) (hst : ∀ x ∈ st, x.1 ∈ ids) :
    (alongR dd want width nb ids.length kn st).2.Pairwise hle ∧ ((alongR dd want width nb ids.length kn st).2.map (·.1)).Nodup ∧ (∀ h ∈ (alongR dd want width nb ids.length kn st).2, h.1 ∈ ids ∧ h.2 = dd h.1 ∧ want h.1 = true) ∧
      ((alongR dd want width nb ids.length kn st).2.length : Int) ≤ width ∧ (width ≤ ((alongR dd want width nb ids.length kn st).2.length : Int) ∨ ∃ M : List Int, (∀ x ∈ st, x.1 ∈ M) ∧ (∀ x ∈ M, ∀ y ∈ nb x, y ∈ M) ∧ ((alongR dd want width nb ids.length kn st).2.length : Int) = min width ((M.filter want).length : Int)) := by
  have hsl : ∀ x ∈ st.map (·.1), x ∈ ids := fun x hx => by
    obtain ⟨y, hy, rfl⟩ := List.mem_map.1 hx
    exact hst y hy
  have h0 : FInv want width (begS kn) := ⟨fun i _ hl => absurd hl (Nat.not_lt_zero _), List.nodup_nil, fun _ hx => absurd hx List.not_mem_nil, by show (0 : Int) = min width 0; omega⟩
  have hc0 : Cl nb (fun _ => False) (begS kn) := fun x hx => absurd hx List.not_mem_nil
  have h1 := h0.meetAll hw dd (l := st.map (·.1))
  have hc1 := hc0.meetAll dd want width (l := st.map (·.1))
  obtain ⟨ha, _⟩ := ASOk.meetAll want width (l := st.map (·.1)) hkn.beg hsl
  have hm1 := (meetAll_met dd want width (l := st.map (·.1)) (s := begS kn)).2
  obtain ⟨e1, e2, e3, e4⟩ := run_end want width hnb ((meetAll dd want width (begS kn) (st.map (·.1))).mu ids.length) ha (Nat.le_refl _) hc1
  have hf := h1.run hw dd (nb := nb) ((meetAll dd want width (begS kn) (st.map (·.1))).mu ids.length)
  unfold alongR
  simp only
  generalize runS dd want width nb ((meetAll dd want width (begS kn) (st.map (·.1))).mu ids.length) (meetAll dd want width (begS kn) (st.map (·.1))) = sF at e1 e2 e3 e4 hf
  have hperm := drainL_perm sF.Fd.length sF.Fd rfl
  refine ⟨drainL_sorted _ _ rfl hf.hp, ?_, fun h hh => ?_, ?_, ?_⟩
  · rw [(hperm.map (·.1)).nodup_iff]; exact hf.nod
  · have hm := hperm.mem_iff.1 hh
    exact ⟨e4.sub _ (e4.fm h hm).1, (e4.fm h hm).2, (hf.sub h hm).2⟩
  · rw [drainL_length]
    have := hf.cnt
    omega
  · rw [drainL_length]
    unfold onward at e1
    rcases Nat.eq_zero_or_pos sF.C.length with hz | hz
    · right
      have hCn : sF.C = [] := List.eq_nil_of_length_eq_zero hz
      refine ⟨sF.met, fun x hx => e3 _ (hm1 _ (List.mem_map.2 ⟨x, hx, rfl⟩)), fun x hx y hy => ?_, hf.cnt⟩
      rcases e2 x hx with h | ⟨z, hz', _⟩ | h
      · exact h.elim
      · rw [hCn] at hz'; cases hz'
      · exact h y hy
    · left
      have : leadsL width sF.Fd (nth sF.C 0) = false := by
        simpa [hz] using e1
      unfold leadsL at this
      split at this
      · cases this
      · omega

theorem chain_all {lk : Int × Int → List Int} {ch : List Int} (hn : ch.Nodup) {M : List Int} (hM : ∀ x ∈ M, ∀ y ∈ reachedL lk ch x 0, y ∈ M) {x : Int} (hx : x ∈ ch) (hxM : x ∈ M) : ∀ y ∈ ch, y ∈ M := by
  have hb : ∀ x ∈ M, ∀ y ∈ besideL ch x, y ∈ M := fun x hx y hy => hM x hx y (by unfold reachedL; rw [if_pos rfl]; exact List.mem_append.2 (.inr hy))
  have hidx : ∀ k (hk : k < ch.length), ch.idxOf ch[k] = k := fun k hk => hn.idxOf_getElem k hk
  have hgd : ∀ k (hk : k < ch.length), ch.getD k 0 = ch[k] := fun k hk => by rw [List.getD_eq_getElem?_getD, List.getElem?_eq_getElem hk]; rfl
  have hup : ∀ k (hk : k + 1 < ch.length), ch[k] ∈ M → ch[k + 1] ∈ M := fun k hk h => hb _ h _ (by
    unfold besideL
    rw [if_pos (List.getElem_mem _), hidx k (by omega)]
    refine List.mem_append.2 (.inr ?_)
    unfold behind1
    rw [if_pos hk, hgd (k + 1) hk]
    exact List.mem_singleton.2 rfl)
  have hdn : ∀ k (hk : k + 1 < ch.length), ch[k + 1] ∈ M → ch[k] ∈ M := fun k hk h => hb _ h _ (by
    unfold besideL
    rw [if_pos (List.getElem_mem _), hidx (k + 1) hk]
    refine List.mem_append.2 (.inl ?_)
    unfold ahead1
    rw [if_pos (by omega), Nat.add_sub_cancel, hgd k (by omega)]
    exact List.mem_singleton.2 rfl)
  obtain ⟨k0, hk0, rfl⟩ := List.getElem_of_mem hx
  have up : ∀ d (hd : k0 + d < ch.length), ch[k0 + d] ∈ M := by
    intro d
    induction d with
    | zero => intro _; exact hxM
    | succ d ih => intro hd; exact hup (k0 + d) hd (ih (by omega))
  have dn : ∀ d, d ≤ k0 → ∀ hd : k0 - d < ch.length, ch[k0 - d] ∈ M := by
    intro d
    induction d with
    | zero => intro _ _; exact hxM
    | succ d ih =>
      intro hle hd
      have h1 := ih (by omega) (by omega)
      have e : k0 - d = k0 - (d + 1) + 1 := by omega
      have h2 : ch[k0 - (d + 1) + 1]'(by omega) ∈ M := by
        have : ch[k0 - (d + 1) + 1]'(by omega) = ch[k0 - d]'(by omega) := by congr 1; omega
        rw [this]; exact h1
      exact hdn (k0 - (d + 1)) (by omega) h2
  intro y hy
  obtain ⟨j, hj, rfl⟩ := List.getElem_of_mem hy
  rcases Nat.le_total k0 j with h | h
  · have := up (j - k0) (by omega)
    have e : ch[k0 + (j - k0)]'(by omega) = ch[j] := by congr 1; omega
    rw [← e]; exact this
  · have := dn (k0 - j) (by omega) (by omega)
    have e : ch[k0 - (k0 - j)]'(by omega) = ch[j] := by congr 1; omega
    rw [← e]; exact this
end Go.Proofs.YtpkiefjanmfgfaaGreatDoor
namespace Go.Proofs.YtpkiefjanmfgfaaGreatDoor
open Go.RowKit Go.Maps

def qd (m : Int) (xs : List Int) (L : List Ent) (id : Int) : Int := distL m xs (ptOf L id)
def qw (F : List (List Cnd)) (L : List Ent) (id : Int) : Bool := match findE id L with | some e => passB F e.t0 e.t1 | none => false
theorem field77t (i : Int) (s : Value) (a b : Int) (w : World) : (Instr.field 77 (.agg #[.int .i64 i, s, .int .i64 a, .int .i64 b]) 2).run Tryz.prog w = .ok (.agg #[.int .i64 a, .int .i64 b]) w := by kernel_rfl
theorem enter52 (args : Array Value) (w : World) : (callFunc 52 args).run Tryz.prog w = .ok (.enter 52 args) w := by kernel_rfl
theorem enter54 (args : Array Value) (w : World) : (callFunc 54 args).run Tryz.prog w = .ok (.enter 54 args) w := by kernel_rfl

set_option maxHeartbeats 1000000 in
set_option maxRecDepth 20000 in
theorem search49 (b5 b6 bb bs bm : Nat) (m : Int) (dim : Nat) (pv : Value) (xs : List Int) (id : Int) (L : List Ent) (w : World) (h : PtsAt w bb bs bm m dim L) (h5 : w.cell? ⟨b5, 0, none⟩ = some (.pointer (some ⟨bb, 0, none⟩))) (h6 : w.cell? ⟨b6, 0, none⟩ = some pv) (hr : IRow w pv xs) (hl : xs.length = dim) (hx : ∀ x ∈ xs, Crd x) (h8 : dim ≤ 100) (hid : I64 id) (he : (findE id L).isSome = true) :
    Calls Tryz.prog 52 #[.int .i64 id, .pointer (some ⟨b5, 0, none⟩), .pointer (some ⟨b6, 0, none⟩)] w fun ev w' => ev = .returned (.int .i64 (qd m xs L id)) ∧ Below w.heap.size w w' := by
  obtain ⟨e, he⟩ := Option.isSome_iff_exists.1 he
  have hqd : qd m xs L id = distL m xs e.pt := by unfold qd ptOf; rw [he]
  rw [hqd]
  have hds := distance50 bb bs bm m dim pv xs id L e w h hid he hr hl hx h8
  obtain ⟨pa, pc, rfl, _⟩ := IRow_slice hr
  have HD := hide hds
  clear hds hqd h hr he hx hl
  generalize distL m xs e.pt = dv at HD ⊢
  go_enter Tryz.func52, Tryz.ntmps52
  go_wp2_with (go_at_call 53; refine HD.out.mono ?_; rintro e2 w2 ⟨rfl, hb2⟩)
  go_ret
  exact ⟨rfl, hb2⟩

set_option maxHeartbeats 1000000 in
set_option maxRecDepth 20000 in
theorem search51 (b5 b9 bb bs bm : Nat) (fv : Value) (F : List (List Cnd)) (id : Int) (L : List Ent) (w : World) (h6 : w.cell? ⟨bb, 6, none⟩ = some (.pointer (some ⟨bs, 0, none⟩))) (hs1 : w.cell? ⟨bs, 1, none⟩ = some (.map (some bm))) (hm : MapAt w bm L) (h5 : w.cell? ⟨b5, 0, none⟩ = some (.pointer (some ⟨bb, 0, none⟩))) (h9 : w.cell? ⟨b9, 0, none⟩ = some fv) (hf : FiltAt w fv F) (hok : F.all clauseB = true) (hid : I64 id) (he : (findE id L).isSome = true) :
    Calls Tryz.prog 54 #[.int .i64 id, .pointer (some ⟨b9, 0, none⟩), .pointer (some ⟨b5, 0, none⟩)] w fun ev w' => ev = .returned (.bool (qw F L id)) ∧ Below w.heap.size w w' := by
  obtain ⟨e, he⟩ := Option.isSome_iff_exists.1 he
  have hqw : qw F L id = passB F e.t0 e.t1 := by unfold qw; rw [he]
  rw [hqw]
  have hpk := peek53 bs bm id L e w.drew hid hs1 (hm.below (Below.refl _ _).drew) he
  have hps := fun W (hW : Below w.heap.size w W) => passes52 fv F e.t0 e.t1 W (hf.below hW) hok
  have hfd := field77t e.id (.slice (some ⟨e.mb, 0, none⟩) e.pt.length e.mc) e.t0 e.t1
  have hf2 := hf
  obtain ⟨fa, fc, rfl, _⟩ := hf2
  have HPK := hide hpk
  have HPS := hide hps
  have HSB : Hid (∀ W, Below w.heap.size w W → W.cell? ⟨b9, 0, none⟩ = some (.slice fa F.length fc) ∧ W.cell? ⟨b5, 0, none⟩ = some (.pointer (some ⟨bb, 0, none⟩)) ∧ W.cell? ⟨bb, 6, none⟩ = some (.pointer (some ⟨bs, 0, none⟩))) := fun W hW => ⟨cell_below h9 hW, cell_below h5 hW, cell_below h6 hW⟩
  generalize passB F e.t0 e.t1 = pb at HPS
  clear hpk hps hqw hm hf h6 hs1 h5 h9
  go_enter Tryz.func54, Tryz.ntmps54
  go_wp2
  go_region_held3 (fun wx => wx.cell? ⟨b9, 0, none⟩ = some (.slice fa F.length fc) ∧ wx.cell? ⟨b5, 0, none⟩ = some (.pointer (some ⟨bb, 0, none⟩)) ∧ wx.cell? ⟨bb, 6, none⟩ = some (.pointer (some ⟨bs, 0, none⟩)))
    ((refine HSB.out _ ?_; repeat (first | with_reducible exact hb4 | with_reducible exact hb3 | exact Below.refl _ _ | refine Below.drew ?_)))
    (first
      | (go_at_call 56; refine HPK.out.mono ?_; rintro e2 w2 ⟨rfl, hb2⟩; have hb3 := Below.undrew hb2; have hps2 := HPS.out w2 hb3)
      | (go_at_call 55; refine hps2.mono ?_; rintro e3 w3 ⟨rfl, b4⟩; have hb4 := hb3.trans (b4.mono hb3.size)))
  go_wp2
  go_ret
  exact ⟨rfl, hb4⟩

noncomputable def cellV (w : World) (b o : Nat) : Value := (w.cell? ⟨b, o, none⟩).getD undef
theorem cellV_some {w : World} {b o : Nat} {v : Value} (h : w.cell? ⟨b, o, none⟩ = some v) : w.cell? ⟨b, o, none⟩ = some (cellV w b o) := by
  unfold cellV; rw [h]; rfl
theorem cellV_eq {w : World} {b o : Nat} {v : Value} (h : w.cell? ⟨b, o, none⟩ = some v) : cellV w b o = v := by
  unfold cellV; rw [h]; rfl

noncomputable def srR (cf : Cf) (gn : Net) (L : List Ent) (xs : List Int) (F : List (List Cnd)) (width : Int) : List (Int × Int) × List Hit :=
  let d := downR (qd cf.metric xs L) gn.lev gn.lk gn.ch (gn.lev.map (·.1)).length [] 0
  alongR (qd cf.metric xs L) (qw F L) width (fun i => reachedL gn.lk gn.ch i 0) (gn.lev.map (·.1)).length d.1 d.2

theorem srch_boxes (w : World) (a b c : Value) : (((w.alloc (.cells #[a] 38)).alloc (.cells #[b] 32)).alloc (.cells #[c] 47)).heap[w.heap.size]? = some (.cells #[a] 38 (0, 0)) ∧ (((w.alloc (.cells #[a] 38)).alloc (.cells #[b] 32)).alloc (.cells #[c] 47)).heap[w.heap.size + 1]? = some (.cells #[b] 32 (0, 0)) ∧ (((w.alloc (.cells #[a] 38)).alloc (.cells #[b] 32)).alloc (.cells #[c] 47)).heap[w.heap.size + 1 + 1]? = some (.cells #[c] 47 (0, 0)) ∧ (((w.alloc (.cells #[a] 38)).alloc (.cells #[b] 32)).alloc (.cells #[c] 47)).heap.size = w.heap.size + 3 ∧ Below w.heap.size w (((w.alloc (.cells #[a] 38)).alloc (.cells #[b] 32)).alloc (.cells #[c] 47)) := by
  refine ⟨?_, ?_, ?_, by simp, (((Below.refl _ _).alloc (Nat.le_refl _) _).alloc (by simp) _).alloc (by simp; omega) _⟩
  · exact (Below.heap_alloc _ _ _ (by simp; omega)).trans ((Below.heap_alloc _ _ _ (by simp)).trans (heap_alloc_new _ _))
  · exact (Below.heap_alloc _ _ _ (by simp)).trans (heap_alloc2_new _ _ _)
  · have := heap_alloc2_new (w.alloc (.cells #[a] 38)) (.cells #[b] 32) (.cells #[c] 47)
    simpa using this
theorem IntsAt.belowI {w w' : World} {v : Value} {xs : List Int} (h : IntsAt w v xs) (hb : Below w.heap.size w w') : IntsAt w' v xs := by
  obtain ⟨a, cap, rfl, h1, h2, h3⟩ := h
  refine ⟨a, cap, rfl, h1, h2, h3.imp id ?_⟩
  rintro ⟨b, off, rfl, hc⟩
  exact ⟨b, off, rfl, fun i hi => cell_below (hc i hi) hb⟩

set_option maxHeartbeats 2000000 in
set_option maxRecDepth 20000 in
theorem search25_no (bb bs bm : Nat) (cf : Cf) (gn : Net) (L : List Ent) (pv : Value) (xs : List Int) (k beam : Int) (fv : Value) (F : List (List Cnd)) (w : World) (h : BaseAt w bb bs bm cf gn L) (hp : IntsAt w pv xs) (hf : FiltAt w fv F) (r : Int) (hr : schCode cf.dim xs k beam F = r) (hbad : r ≠ 0) :
    Calls Tryz.prog 26 #[.pointer (some ⟨bb, 0, none⟩), pv, .int .i64 k, .int .i64 beam, .agg #[fv]] w fun ev w' => ev = .returned (.tuple #[.slice none 0 0, .int .i64 r]) ∧ Below w.heap.size w w' := by
  have hsc := fun W (hW : Below w.heap.size w W) => search47 cf.dim pv xs k beam fv F W (hp.belowI hW) (hf.below hW)
  rw [hr] at hsc
  obtain ⟨pa, pc, rfl, _⟩ := hp
  obtain ⟨fa, fc, rfl, _⟩ := hf
  obtain ⟨x0, x1, x2, xz, hB⟩ := srch_boxes w (.pointer (some ⟨bb, 0, none⟩)) (.slice pa xs.length pc) (.slice fa F.length fc)
  have HB := hide hB
  have HX0 := hide x0
  have HX1 := hide x1
  have HX2 := hide x2
  have H := hide h
  have HSC := hide hsc
  clear hsc hB hr h x0 x1 x2 xz
  go_enter Tryz.func26, Tryz.ntmps26
  go_wp2
  generalize hwe : ((w.alloc (.cells #[.pointer (some ⟨bb, 0, none⟩)] 38)).alloc (.cells #[.slice pa xs.length pc] 32)).alloc (.cells #[.slice fa F.length fc] 47) = w1 at HB HX0 HX1 HX2 ⊢
  clear hwe
  have q0 := cells_at HX0.out 0 rfl
  have q1 := cells_at HX1.out 0 rfl
  have q2 := cells_at HX2.out 0 rfl
  have q3 := cell_below H.out.b0 HB.out
  have HSB : Hid (∀ W, Below w1.heap.size w1 W → W.cell? ⟨w.heap.size, 0, none⟩ = some (.pointer (some ⟨bb, 0, none⟩)) ∧ W.cell? ⟨w.heap.size + 1, 0, none⟩ = some (.slice pa xs.length pc) ∧ W.cell? ⟨w.heap.size + 1 + 1, 0, none⟩ = some (.slice fa F.length fc) ∧ W.cell? ⟨bb, 0, none⟩ = some (.int .i64 cf.dim)) := fun W hW => ⟨cell_below q0 hW, cell_below q1 hW, cell_below q2 hW, cell_below q3 hW⟩
  clear q0 q1 q2 q3
  go_region_held3 (fun wx => wx.cell? ⟨w.heap.size, 0, none⟩ = some (.pointer (some ⟨bb, 0, none⟩)) ∧ wx.cell? ⟨w.heap.size + 1, 0, none⟩ = some (.slice pa xs.length pc) ∧ wx.cell? ⟨w.heap.size + 1 + 1, 0, none⟩ = some (.slice fa F.length fc) ∧ wx.cell? ⟨bb, 0, none⟩ = some (.int .i64 cf.dim))
    ((refine HSB.out _ ?_; repeat (first | with_reducible exact hb2 | exact Below.refl _ _ | refine Below.drew ?_)))
    (first | (go_at_call 50; refine (HSC.out w1.drew HB.out.drew).mono ?_; rintro e2 w2 ⟨⟨u, rfl, hu⟩, b2⟩; have hb2 : Below w1.heap.size w1 w2 := Below.undrew b2; obtain ⟨ux, rfl⟩ := hu.shape hbad))
  have HB2 := hide (HB.out.trans (hb2.mono HB.out.size))
  have her := errno_deep r _ w2 hu (H.out.hdl.below HB2.out)
  have HER := hide her
  clear her hu b2 hb2 HSB
  go_wp2_with fail
  refine HER.out.mono ?_
  rintro e3 w3 ⟨rfl, hb3⟩
  have HB3 := hide (HB2.out.trans (hb3.mono HB2.out.size))
  clear hb3
  go_wp2
  go_ret2
  exact ⟨rfl, HB3.out⟩
end Go.Proofs.YtpkiefjanmfgfaaGreatDoor
