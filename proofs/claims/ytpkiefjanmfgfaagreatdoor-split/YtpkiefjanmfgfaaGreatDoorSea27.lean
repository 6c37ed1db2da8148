import Derived.Test.YtpkiefjanmfgfaaGreatDoorSea25
import Derived.Test.YtpkiefjanmfgfaaGreatDoorSea26
namespace Go.Proofs.YtpkiefjanmfgfaaGreatDoor
open Go.RowKit Go.Maps

theorem HRow.addr {w : World} {a : Option Addr} {n c : Nat} {l : List Hit} (h : HRow w (.slice a n c) l) (hl : 0 < l.length) : ∃ g, a = some ⟨g, 0, none⟩ := by
  obtain ⟨a', c', e, ha⟩ := HRow.slice h
  obtain ⟨g, hg⟩ := ha hl
  injection e with e1
  exact ⟨g, e1.trans hg⟩

set_option maxHeartbeats 8000000 in
set_option maxRecDepth 20000 in
theorem split9 (sa : Option Addr) (len cap : Nat) (links metric beam tag op value x0 y0 k0 : Int) (h1 : I64 links) (h2 : I64 metric) (h3 : I64 beam) (h4 : I64 tag) (h5 : I64 op) (h6 : I64 value) (h7 : I64 x0) (h8 : I64 y0) (h9 : I64 k0) (w : World) (hg : Handle w) (hs : KScriptAt w sa len) :
    Calls Tryz.prog 9 #[.slice sa len cap, .int .i64 links, .int .i64 metric, .int .i64 beam, .int .i64 tag, .int .i64 op, .int .i64 value, .int .i64 x0, .int .i64 y0, .int .i64 k0] w fun ev w' => ev = .returned (.bool true) ∧ Below w.heap.size w w' := by
  have HM := hide (made18 sa len cap links metric beam h1 h2 h3 w hg hs)
  have ht2 := pickI_in (c := tag) (n := 2) (by omega)
  have ho4 := pickI_in (c := op) (n := 4) (by omega)
  have HT2 := hide (fun W => pick17 tag 2 h4 (by omega) W)
  have HT3 := hide (fun W => pick17 tag 3 h4 (by omega) W)
  have HO4 := hide (fun W => pick17 op 4 h5 (by omega) W)
  have HV4 := hide (fun W => pick17 value 4 h6 (by omega) W)
  have HD1 : Hid ((keepCf links metric beam).dim = 2 ∧ (keepCf links metric beam).cap = 60) := ⟨rfl, rfl⟩
  clear hs
  generalize keepCf links metric beam = cf at *
  generalize pickI tag 2 = t at *
  generalize pickI tag 3 = t3 at *
  generalize pickI op 4 = o at *
  generalize pickI value 4 = v4 at *
  obtain ⟨v, hv⟩ : ∃ v, v = if 0 < t3 then v4 else value := ⟨_, rfl⟩
  have HV := hide hv
  clear hv
  go_enter Tryz.func9, Tryz.ntmps9
  go_wp2_with fail
  refine HM.out.mono ?_
  rintro ev w1 ⟨bb, bs, bm, gn, L, rfl, hK1, h50, hl1⟩
  have HK1 := hide hK1
  have HL1 := hide hl1
  clear hK1 h50 hl1 HM
  go_wp2_with fail
  go_fit (HT2.out _)
  rintro ev' w' ⟨rfl, rfl⟩
  go_wp2_with fail
  go_fit (HO4.out _)
  rintro ev' w' ⟨rfl, rfl⟩
  go_wp2_with fail
  go_fit (HT3.out _)
  rintro ev' w' ⟨rfl, rfl⟩
  go_upto_if 56 with fail
  go_cut [58] (fun _ wx => wx = w1.alloc (.cells #[.int .i64 t, .int .i64 o, .int .i64 v] 72))
  case first =>
    by_cases hq : 0 < t3
    · have hd : decide (0 < t3) = true := decide_eq_true hq
      obtain rfl : v = v4 := by rw [HV.out, if_pos hq]
      go_wp2_with fail
      go_fit (HV4.out _)
      rintro ev' w' ⟨rfl, rfl⟩
      go_wp2_with fail
      go_meet
      exact rfl
    · have hd : decide (0 < t3) = false := decide_eq_false hq
      obtain rfl : v = value := by rw [HV.out, if_neg hq]
      go_wp2_with fail
      go_meet
      exact rfl
  case rest =>
    subst hcut
    clear HV HV4 HT2 HT3 HO4
    go_upto_block 0 with fail
    go_cut [63] (fun _ wx => wx = (w1.alloc (.cells #[.int .i64 t, .int .i64 o, .int .i64 v] 72)).alloc (.cells #[.int .i64 t, .int .i64 (oppI o), .int .i64 v] 72))
    case first =>
      obtain rfl | rfl | rfl | rfl : o = 0 ∨ o = 1 ∨ o = 2 ∨ o = 3 := by omega
      all_goals
        go_wp2_with fail
        go_meet
        exact rfl
    case rest =>
      subst hcut
      obtain ⟨w3, hw3⟩ : ∃ w3, w3 = (w1.alloc (.cells #[.int .i64 t, .int .i64 o, .int .i64 v] 72)).alloc (.cells #[.int .i64 t, .int .i64 (oppI o), .int .i64 v] 72) := ⟨_, rfl⟩
      have hb3 : Below w1.heap.size w1 w3 := hw3 ▸ ((Below.refl _ _).alloc (Nat.le_refl _) _).alloc (by simp) _
      have hA : w3.heap[w1.heap.size]? = some (.cells #[.int .i64 t, .int .i64 o, .int .i64 v] 72 (0, 0)) := by
        rw [hw3]
        exact (((Below.refl (w1.alloc (.cells #[.int .i64 t, .int .i64 o, .int .i64 v] 72)).heap.size _).alloc (Nat.le_refl _) _).block _ (by simp)).trans (heap_alloc_new _ _)
      have hB : w3.heap[w1.heap.size + 1]? = some (.cells #[.int .i64 t, .int .i64 (oppI o), .int .i64 v] 72 (0, 0)) := by
        rw [hw3]
        have := heap_alloc_new (w1.alloc (.cells #[.int .i64 t, .int .i64 o, .int .i64 v] 72)) (.cells #[.int .i64 t, .int .i64 (oppI o), .int .i64 v] 72)
        simpa using this
      rw [← hw3]
      clear hw3
      have hS3 : SpS w w3 bb bs bm cf L w1.heap.size (w1.heap.size + 1) t o v 60 [] := ⟨⟨gn, HK1.out.below hb3, HL1.out⟩, hA, hB, fun _ h => absurd h List.not_mem_nil⟩
      have HS3 := hide hS3
      clear hA hB hb3 hS3 HK1 HL1
      generalize w1.heap.size = A at *
      have ho3 : 0 ≤ o ∧ o ≤ 3 := by omega
      have HCX := hide (fun W => coord20 x0 h7 W)
      have HCY := hide (fun W => coord20 y0 h8 W)
      have hX := coordI_crd x0
      have hY := coordI_crd y0
      generalize coordI x0 = X at HCX hX
      generalize coordI y0 = Y at HCY hY
      have HW := hide (fun W (h : SpS w W bb bs bm cf L A (A + 1) t o v 60 []) => h.step (by omega) X Y (.slice none 0 0) [] HD1.out.1 hX hY (filt_none _) (by decide))
      have HLE := hide (fun W n rs (h : SpS w W bb bs bm cf L A (A + 1) t o v n rs) hn fv (hf : FiltAt W fv [[(t, o, v)]]) => h.step hn X Y fv _ HD1.out.1 hX hY hf (filtB_one ht2 ho3))
      have HRI := hide (fun W n rs (h : SpS w W bb bs bm cf L A (A + 1) t o v n rs) hn fv (hf : FiltAt W fv [[(t, oppI o, v)]]) => h.step hn X Y fv _ HD1.out.1 hX hY hf (filtB_one ht2 (oppI_in ho3)))
      have HBO := hide (fun W n rs (h : SpS w W bb bs bm cf L A (A + 1) t o v n rs) hn fv (hf : FiltAt W fv [[(t, o, v)], [(t, oppI o, v)]]) => h.step hn X Y fv _ HD1.out.1 hX hY hf (filtB_two ht2 ho3 ht2 (oppI_in ho3)))
      have HNO := hide (fun W n rs (h : SpS w W bb bs bm cf L A (A + 1) t o v n rs) hn fv (hf : FiltAt W fv [[(t, o, v), (t, oppI o, v)]]) => h.step hn X Y fv _ HD1.out.1 hX hY hf (filtB_both ht2 ho3 ht2 (oppI_in ho3)))
      have HSE := hide (fun W n rs (h : SpS w W bb bs bm cf L A (A + 1) t o v n rs) hn k hk pv fv hr hp (hf : FiltAt W fv [[(t, o, v)]]) => h.search hn X Y k pv fv _ HD1.out.1 hX hY hk hr hp hf (filtB_one ht2 ho3))
      have hrs := HS3.out.rising
      have h60 := HS3.out.few
      simp only [tell_both ho3] at HBO
      simp only [tell_none ho3, List.length_nil] at HNO
      have hsum := tell_sum (t := t) (v := v) ho3 cf.metric [X, Y] L
      have hwl : (tellL cf.metric [X, Y] [] L).length = L.length := by rw [tellL_len, passL_none]
      have hpar := fun i hi => any_parts (t := t) (v := v) ho3 (m := cf.metric) (xs := [X, Y]) hrs (i := i) hi
      have hles := tellL_sorted cf.metric [X, Y] [[(t, o, v)]] L
      have hlen := tellL_nodup (m := cf.metric) (xs := [X, Y]) (F := [[(t, o, v)]]) hrs
      rw [← hwl] at hsum h60
      generalize tellL cf.metric [X, Y] [] L = whole at *
      generalize tellL cf.metric [X, Y] [[(t, o, v)]] L = left at *
      generalize tellL cf.metric [X, Y] [[(t, oppI o, v)]] L = right at *
      have HWL := hide hwl
      have HPAR := hide hpar
      have HLES := hide hles
      have HLEN := hide hlen
      have hll : left.length ≤ 60 := by omega
      have hrl : right.length ≤ 60 := by omega
      have hsum' : (left.length : Int) + right.length = whole.length := by omega
      have HDX := hide (And.intro hX hY)
      clear hwl hpar hles hlen hrs hsum hX hY ho4
      go_wp2_with fail
      go_fit (HCX.out _)
      rintro ev' w' ⟨rfl, rfl⟩
      go_wp2_with fail
      go_fit (HCY.out _)
      rintro ev' w' ⟨rfl, rfl⟩
      go_wp2_with fail
      go_fit (HW.out w3 HS3.out)
      rintro ev w4 ⟨a1, c1, rfl, hS4⟩
      have HS4 := hide hS4
      obtain ⟨x0', x1', x2'⟩ := hS4.a
      clear hS4 HS3 HW HCX HCY
      go_wp2_with fail
      go_fit (HLE.out _ _ _ (HS4.out.below (fworld1 w4 t o v).1) (by decide) _ (fworld1 w4 t o v).2)
      rintro ev w5 ⟨a2, c2, rfl, hS5⟩
      have HS5 := hide hS5
      clear x0' x1' x2'
      obtain ⟨x0', x1', x2'⟩ := hS5.b
      clear hS5 HS4 HLE
      go_wp2_with fail
      go_fit (HRI.out _ _ _ (HS5.out.below (fworld1 w5 t (oppI o) v).1) (by decide) _ (fworld1 w5 t (oppI o) v).2)
      rintro ev w6 ⟨a3, c3, rfl, hS6⟩
      have HS6 := hide hS6
      clear x0' x1' x2'
      obtain ⟨x0', x1', x2'⟩ := hS6.a
      obtain ⟨y0', y1', y2'⟩ := hS6.b
      have z6 := heap_lt hS6.hB
      have z6' := heap_lt hS6.hA
      clear hS6 HS5 HRI
      go_wp2_with fail
      go_fit (HBO.out _ _ _ (HS6.out.below (fworld2 w6 t o v t (oppI o) v).1) (by decide) _ (fworld2 w6 t o v t (oppI o) v).2)
      rintro ev w7 ⟨a4, c4, rfl, hS7⟩
      have HS7 := hide hS7
      clear x0' x1' x2' y0' y1' y2' z6 z6'
      obtain ⟨x0', x1', x2'⟩ := hS7.a
      obtain ⟨y0', y1', y2'⟩ := hS7.b
      have z7 := heap_lt hS7.hB
      have z7' := heap_lt hS7.hA
      clear hS7 HS6 HBO
      go_wp2_with fail
      go_fit (HNO.out _ _ _ (HS7.out.below (fworld12 w7 t o v t (oppI o) v).1) (by decide) _ (fworld12 w7 t o v t (oppI o) v).2)
      rintro ev w8 ⟨a5, c5, rfl, hS8⟩
      have HS8 := hide hS8
      have HCN := hide hS8.count
      have HSM := hide (same25 _ _ whole w8 (hS8.rows.tail.tail.tail.tail.head) (hS8.rows.tail.head) (by omega))
      rw [← HWL.out] at HCN
      clear x0' x1' x2' y0' y1' y2' z7 z7' hS8 HS7 HNO
      go_wp2_with fail
      go_fit HCN.out
      rintro ev' w' ⟨rfl, rfl⟩
      go_wp2_with fail
      go_fit HSM.out
      rintro ev w9 ⟨rfl, hb9⟩
      have HS9 := hide (HS8.out.below hb9)
      clear hb9 HS8 HSM HCN
      obtain ⟨n9, hn9, HS9⟩ : ∃ n9 : Int, n9 ≤ 900 ∧ Hid (SpS w w9 bb bs bm cf L A (A + 1) t o v n9 [(.slice a5 0 c5, []), (.slice a4 whole.length c4, whole), (.slice a3 right.length c3, right), (.slice a2 left.length c2, left), (.slice a1 whole.length c1, whole)]) := ⟨_, by decide, HS9⟩
      go_wp2
      go_loopw [36] (fun iv wr => ∃ k : Nat, iv = .int .i64 k ∧ k ≤ whole.length ∧ Hid (SpS w wr bb bs bm cf L A (A + 1) t o v n9 [(.slice a5 0 c5, []), (.slice a4 whole.length c4, whole), (.slice a3 right.length c3, right), (.slice a2 left.length c2, left), (.slice a1 whole.length c1, whole)])) (fun iv _ => whole.length - (intOf iv).toNat)
      case atStart => exact ⟨0, rfl, Nat.zero_le _, HS9.out⟩
      case round =>
        obtain ⟨k, rfl, hk, HS⟩ := hrel
        by_cases hlt : k < whole.length
        · obtain ⟨g, rfl⟩ := HRow.addr (HS.out.rows.tail.tail.tail.tail.head) (by omega)
          have x0' := HRow.at0 (HS.out.rows.tail.tail.tail.tail.head) hlt
          have HH1 := hide (fun W (hb : Below wr.heap.size wr W) => has27 (.slice a2 left.length c2) left (nth whole k).1 W (ownsRow_below HS.out.rows.tail.tail.tail.head hb) (by omega))
          have HH2 := hide (fun W (hb : Below wr.heap.size wr W) => has27 (.slice a3 right.length c3) right (nth whole k).1 W (ownsRow_below HS.out.rows.tail.tail.head hb) (by omega))
          rw [HPAR.out k hlt] at HH2
          generalize (left.any fun x => x.1 == (nth whole k).1) = bl at HH1 HH2
          generalize (nth whole k).1 = id at HH1 HH2 x0'
          have HX := hide (fun W (hb : Below wr.heap.size wr W) => cell_below x0' hb)
          go_wp2
          go_region_held3 (fun wx => wx.cell? ⟨g, k * 2, none⟩ = some (.int .i64 id))
            ((refine HX.out _ ?_; repeat (first | exact Below.refl _ _ | refine Below.drew ?_)))
            (first
              | (go_at_call 27; with_reducible refine (HH1.out _ ?_).mono ?_; (repeat (first | exact Below.refl _ _ | refine Below.drew ?_)); rintro ev' w' ⟨rfl, rfl⟩)
              | (go_at_call 27; with_reducible refine (HH2.out _ ?_).mono ?_; (repeat (first | exact Below.refl _ _ | refine Below.drew ?_)); rintro ev' w' ⟨rfl, rfl⟩))
          cases bl
          · go_wp2
            exact ⟨⟨k + 1, by go_num, by omega, HS.out.below (Below.refl _ _).drew⟩, by simp [intOf]; omega⟩
          · go_wp2
            exact ⟨⟨k + 1, by go_num, by omega, HS.out.below (Below.refl _ _).drew⟩, by simp [intOf]; omega⟩
        · obtain rfl : k = whole.length := by omega
          clear hk hlt HPAR
          have HPK := hide (fun W => pick17 k0 60 h9 (by omega) W)
          have ik := pickI_in (c := k0) (n := 60) (by omega)
          generalize pickI k0 60 = kq at HPK ik
          obtain ⟨kk, hkk⟩ : ∃ kk, kk = 1 + kq := ⟨_, rfl⟩
          have ekk : IntKind.i64.wrap (1 + kq) = kk := by rw [IntKind.wrap_i64]; omega
          have ekk2 : wrap64 (1 + kq) = kk := by unfold wrap64; omega
          have HKB : Hid (1 ≤ kk ∧ kk ≤ 60) := by show _ ∧ _; omega
          clear ik hkk
          obtain ⟨x0', x1', x2'⟩ := HS.out.a
          have z9 := heap_lt HS.out.hA
          obtain ⟨wp, hwp⟩ : ∃ wp, wp = wr.alloc (.cells #[.int .i64 X, .int .i64 Y] 3) := ⟨_, rfl⟩
          have hA5 : Pts wp wr.heap.size 2 [X, Y] := two_row (by rw [hwp]; exact heap_alloc_new _ _)
          have hSp : SpS w wp bb bs bm cf L A (A + 1) t o v n9 _ := hwp ▸ HS.out.below ((Below.refl _ _).alloc (Nat.le_refl _) (.cells #[.int .i64 X, .int .i64 Y] 3))
          have hz : wp.heap.size = wr.heap.size + 1 := by rw [hwp]; simp
          have hfw := fworld1 wp t o v
          have hse := HSE.out _ _ _ (hSp.below hfw.1) (by omega) kk HKB.out (.slice (some ⟨wr.heap.size, 0, none⟩) 2 2) _ (ownsRow_below hA5 hfw.1) (two_ints (ownsRow_below hA5 hfw.1)) hfw.2
          rw [hz, hwp] at hse
          have HSE9 := hide hse
          clear hwp hA5 hSp hz hfw hse HSE
          go_wp2_with fail
          go_fit (HPK.out _)
          rintro ev' w' ⟨rfl, rfl⟩
          go_wp2_with fail
          go_fit HSE9.out
          rintro ev w10 ⟨a6, few, c6, rfl, hR6, hS10⟩
          have hfl := hR6.len
          have HSB := hide hR6.sub
          have HOR := hide (ordered23 (.slice a6 few.length c6) few w10 hS10.rows.head (hR6.ordd HLES.out HLEN.out) (by omega))
          have HS10 := hide hS10
          have HH := hide (fun id => has27 (.slice a2 left.length c2) left id w10 hS10.rows.tail.tail.tail.tail.head (by omega))
          have hfl60 : few.length ≤ 60 := by omega
          have HFL := hide hfl
          clear hR6 hS10 HSE9 HPK hfl x0' x1' x2' z9 HS HS9 HLES HLEN
          by_cases hkl : (left.length : Int) < kk
          · have hd : decide ((left.length : Int) < kk) = true := decide_eq_true hkl
            go_wp2
            go_loop [40] (fun iv => ∃ k : Nat, iv = .int .i64 k ∧ k ≤ few.length) (fun iv => few.length - (intOf iv).toNat)
            case atStart => exact ⟨0, rfl, Nat.zero_le _⟩
            case round =>
              obtain ⟨k, rfl, hk⟩ := hrel
              by_cases hlt : k < few.length
              · obtain ⟨g, rfl⟩ := HRow.addr HS10.out.rows.head (by omega)
                have x0' := HRow.at0 HS10.out.rows.head hlt
                have hh := HH.out (nth few k).1
                rw [any_sub HSB.out hlt] at hh
                generalize (nth few k).1 = id at hh x0'
                have HHk := hide hh
                clear hh
                go_wp2_with fail
                go_fit HHk.out
                rintro ev' w' ⟨rfl, rfl⟩
                go_wp2
                exact ⟨⟨k + 1, by go_num, by omega⟩, by simp [intOf]; omega⟩
              · obtain rfl : k = few.length := by omega
                have hqb : ((few.length : Int) == (left.length : Int)) = true := by have := HFL.out; simp; omega
                go_wp2_with fail
                go_fit HOR.out
                rintro ev w11 ⟨rfl, hb11⟩
                have HB11 := hide (HS10.out.below hb11).old
                clear hb11
                go_wp2
                go_ret
                exact ⟨rfl, HB11.out⟩
          · have hd : decide ((left.length : Int) < kk) = false := decide_eq_false hkl
            go_wp2
            go_loop [40] (fun iv => ∃ k : Nat, iv = .int .i64 k ∧ k ≤ few.length) (fun iv => few.length - (intOf iv).toNat)
            case atStart => exact ⟨0, rfl, Nat.zero_le _⟩
            case round =>
              obtain ⟨k, rfl, hk⟩ := hrel
              by_cases hlt : k < few.length
              · obtain ⟨g, rfl⟩ := HRow.addr HS10.out.rows.head (by omega)
                have x0' := HRow.at0 HS10.out.rows.head hlt
                have hh := HH.out (nth few k).1
                rw [any_sub HSB.out hlt] at hh
                generalize (nth few k).1 = id at hh x0'
                have HHk := hide hh
                clear hh
                go_wp2_with fail
                go_fit HHk.out
                rintro ev' w' ⟨rfl, rfl⟩
                go_wp2
                exact ⟨⟨k + 1, by go_num, by omega⟩, by simp [intOf]; omega⟩
              · obtain rfl : k = few.length := by omega
                have hqb : ((few.length : Int) == kk) = true := by have := HFL.out; simp; omega
                go_wp2_with fail
                go_fit HOR.out
                rintro ev w11 ⟨rfl, hb11⟩
                have HB11 := hide (HS10.out.below hb11).old
                clear hb11
                go_wp2
                go_ret
                exact ⟨rfl, HB11.out⟩
end Go.Proofs.YtpkiefjanmfgfaaGreatDoor
namespace Go.Proofs.YtpkiefjanmfgfaaGreatDoor
open Go.ChangeShapes Go.WideShapes Go.ChangeAt Go.RowKit

/-- What the row's list gives: the variable's one cell. -/
theorem handle_split {W : World} (h : laidMetH Tryz.prog Rows.splitRow.laid W) : Handle W := by
  have h' : laidMet Tryz.prog [] W ∧ handlesMet Tryz.prog Rows.splitRow.laid W := h
  obtain ⟨name, u, ty, e1, e2, e3, e4, e5⟩ := h'.2 _ (List.mem_singleton.2 rfl)
  have en : name = [101, 114, 114, 111, 114] := (Option.some.inj e1).symm
  subst en
  obtain rfl := Option.some.inj (rtypeRow.symm.trans e2)
  have hm : ty ∈ (List.range 313).filter fun t => Tryz.prog.rowNamed t [101, 114, 114, 111, 114] := List.mem_filter.2 ⟨List.mem_range.2 (by rw [← typesSize]; exact e3), e4⟩
  rw [errRow] at hm
  obtain rfl := List.mem_singleton.1 hm
  have hh : typeHandle Tryz.prog 104 = .pointer (some ⟨1, 104, none⟩) := by kernel_rfl
  rw [hh] at e5
  unfold Handle
  simpa using World.var?_cell errVar e5 0

set_option maxRecDepth 100000 in
/-- The law, from what came in to what it leaves. -/
theorem split_contract (H : Type) (enc : TypeId × Value → H) (W : World) (base : Nat) (args : Array Value) (ds gs : List (DataW H)) (before : List MemPlace)
    (hval : ∀ (j : Nat) t v, Tryz.f9.params[j]? = some t → args[j]? = some v → Value.okWide Tryz.prog W .any base t v)
    (hW : DataW.Whole enc Tryz.prog Tryz.f9.params.toList Rows.splitSpec.vars false W args.toList ds gs before)
    (hz : (DataW.weightsEach Tryz.prog (Tryz.f9.params.toList ++ Rows.splitSpec.plain.varTypes Tryz.prog) (ds ++ gs)).all (· ≤ reachBytes) = true) (hL : laidMetH Tryz.prog Rows.splitRow.laid W) :
    Calls Tryz.prog 9 args W fun e W' => ∃ v, e = .returned v ∧ Rows.splitSpec.post enc Tryz.prog Tryz.f9 false true false false W args v W' := by
  have hW' := hW
  obtain ⟨p, q, hA0, hV, rfl, hfz, hnd⟩ := hW
  have hA : DataW.TrodAll enc Tryz.prog W 0 (fun _ => true) true Tryz.f9.params.toList args.toList ds p := hA0
  rw [Tryz.params9] at hA hval hz
  obtain ⟨v0, vs0, d0, ds0, p0, q0, hargs, rfl, rfl, h0, r0⟩ := trodAll_cons hA
  obtain ⟨v1, vs1, d1, ds1, p1, q1, rfl, rfl, rfl, h1, r1⟩ := trodAll_cons r0
  obtain ⟨v2, vs2, d2, ds2, p2, q2, rfl, rfl, rfl, h2, r2⟩ := trodAll_cons r1
  obtain ⟨v3, vs3, d3, ds3, p3, q3, rfl, rfl, rfl, h3, r3⟩ := trodAll_cons r2
  obtain ⟨v4, vs4, d4, ds4, p4, q4, rfl, rfl, rfl, h4, r4⟩ := trodAll_cons r3
  obtain ⟨v5, vs5, d5, ds5, p5, q5, rfl, rfl, rfl, h5, r5⟩ := trodAll_cons r4
  obtain ⟨v6, vs6, d6, ds6, p6, q6, rfl, rfl, rfl, h6, r6⟩ := trodAll_cons r5
  obtain ⟨v7, vs7, d7, ds7, p7, q7, rfl, rfl, rfl, h7, r7⟩ := trodAll_cons r6
  obtain ⟨v8, vs8, d8, ds8, p8, q8, rfl, rfl, rfl, h8, r8⟩ := trodAll_cons r7
  obtain ⟨v9, vs9, d9, ds9, p9, q9, rfl, rfl, rfl, h9, r9⟩ := trodAll_cons r8
  obtain ⟨rfl, rfl, rfl⟩ := trodAll_nil r9
  obtain rfl : args = #[v0, v1, v2, v3, v4, v5, v6, v7, v8, v9] := by cases args; simp_all
  obtain ⟨rfl, rfl⟩ := trodVars_none hV
  have hlt := hW'.lt
  obtain ⟨sa, len, cap, rfl, hs⟩ := kscript_open (hval 0 51 v0 rfl rfl) h0 (fun k hk => by
    have := List.all_eq_true.1 hz k (DataW.weights_mem_each (j := 0) rfl rfl k hk)
    simpa using this)
  obtain ⟨a1, rfl, w1⟩ := int_open (hval 1 3 v1 rfl rfl) h1
  obtain ⟨a2, rfl, w2⟩ := int_open (hval 2 3 v2 rfl rfl) h2
  obtain ⟨a3, rfl, w3⟩ := int_open (hval 3 3 v3 rfl rfl) h3
  obtain ⟨a4, rfl, w4⟩ := int_open (hval 4 3 v4 rfl rfl) h4
  obtain ⟨a5, rfl, w5⟩ := int_open (hval 5 3 v5 rfl rfl) h5
  obtain ⟨a6, rfl, w6⟩ := int_open (hval 6 3 v6 rfl rfl) h6
  obtain ⟨a7, rfl, w7⟩ := int_open (hval 7 3 v7 rfl rfl) h7
  obtain ⟨a8, rfl, w8⟩ := int_open (hval 8 3 v8 rfl rfl) h8
  obtain ⟨a9, rfl, w9⟩ := int_open (hval 9 3 v9 rfl rfl) h9
  refine (split9 sa len cap a1 a2 a3 a4 a5 a6 a7 a8 a9 w1 w2 w3 w4 w5 w6 w7 w8 w9 W (handle_split hL) hs).mono fun e W' ⟨he, hb⟩ => ?_
  subst he
  refine ⟨_, rfl, _, _, _, [], p0 ++ (p1 ++ (p2 ++ (p3 ++ (p4 ++ (p5 ++ (p6 ++ (p7 ++ (p8 ++ (p9 ++ []))))))))), [], hW', ?_, ?_, ?_, hb.frame _, fun h => by cases h⟩
  · exact trodAll_cons_mk (shut_bool Tryz.underlying4 _) trodAll_mk0
  · exact (trodAll_cons_mk (Below.trod laidOut read51 (by rw [typesSize]; decide) h0 hb (fun x hx => hlt x (by simp [hx]))) (trodAll_cons_mk (Below.trod laidOut read3 (by rw [typesSize]; decide) h1 hb (fun x hx => hlt x (by simp [hx]))) (trodAll_cons_mk (Below.trod laidOut read3 (by rw [typesSize]; decide) h2 hb (fun x hx => hlt x (by simp [hx]))) (trodAll_cons_mk (Below.trod laidOut read3 (by rw [typesSize]; decide) h3 hb (fun x hx => hlt x (by simp [hx]))) (trodAll_cons_mk (Below.trod laidOut read3 (by rw [typesSize]; decide) h4 hb (fun x hx => hlt x (by simp [hx]))) (trodAll_cons_mk (Below.trod laidOut read3 (by rw [typesSize]; decide) h5 hb (fun x hx => hlt x (by simp [hx]))) (trodAll_cons_mk (Below.trod laidOut read3 (by rw [typesSize]; decide) h6 hb (fun x hx => hlt x (by simp [hx]))) (trodAll_cons_mk (Below.trod laidOut read3 (by rw [typesSize]; decide) h7 hb (fun x hx => hlt x (by simp [hx]))) (trodAll_cons_mk (Below.trod laidOut read3 (by rw [typesSize]; decide) h8 hb (fun x hx => hlt x (by simp [hx]))) (trodAll_cons_mk (Below.trod laidOut read3 (by rw [typesSize]; decide) h9 hb (fun x hx => hlt x (by simp [hx]))) trodAll_mk0))))))))))
  · rfl

noncomputable def splitArgs : Array Value := #[.slice none 0 0, .int .i64 0, .int .i64 0, .int .i64 0, .int .i64 0, .int .i64 0, .int .i64 0, .int .i64 0, .int .i64 0, .int .i64 0]
theorem split_met (os : Os) : laidMetH Tryz.prog Rows.splitRow.laid ((laidWorld os).forCall (fun _ _ => 0) ⟨#[], splitArgs, []⟩).memory :=
  laidMetH_of_parts (laidMet_nil _ _) (by kernel_rfl)
theorem split_reads (os : Os) {H : Type} (enc : TypeId × Value → H) : ∃ places, DataW.whole enc Tryz.prog ((laidWorld os).forCall (fun _ _ => 0) ⟨#[], splitArgs, []⟩).memory Tryz.f9.params.toList Rows.splitSpec.vars false splitArgs.toList 8 = some ([.nil, .lit (.int .i64 0), .lit (.int .i64 0), .lit (.int .i64 0), .lit (.int .i64 0), .lit (.int .i64 0), .lit (.int .i64 0), .lit (.int .i64 0), .lit (.int .i64 0), .lit (.int .i64 0)], [], places) :=
  ⟨[], by kernel_rfl⟩

set_option maxRecDepth 100000 in
theorem split_lifted (os : Os) (started : os.Started) (H : Type) (enc : TypeId × Value → H) (F : Stop.Interp) :
    ReturnsInHanded {} Tryz.checked os 9 .any ((OpenSpec.ofChange Rows.splitSpec).preRow enc Tryz.prog Tryz.f9 Rows.splitRow.domain false Rows.splitRow.laid) (((OpenSpec.ofChange Rows.splitSpec).at F).post enc Tryz.prog Tryz.f9 false true false false) := by
  obtain ⟨places, hx⟩ := split_reads os enc
  refine returnsInHanded_of_row (C := Tryz.checked) (s := OpenSpec.ofChange Rows.splitSpec) knob started (by kernel_rfl) Tryz.func9
    (witness_row_at (enc := enc) (C := Tryz.checked) false (laidWorld os) splitArgs rfl (by kernel_rfl) (by kernel_rfl) (by kernel_rfl)
      (OpenSpec.preRow_of_cond 8 hx (by kernel_rfl) (fun k hk => by cases hk) (by kernel_rfl) (split_met os))) ?_
  intro W base args ds gs before hval hW _ _ hz hL _ _
  exact split_contract H enc W base args ds gs before hval hW hz hL

set_option maxRecDepth 100000 in
theorem split_said : Rows.SplitSaid :=
  OpenClaim.holds_of_cond 9 Tryz.f9 rfl rfl rfl rfl rfl rfl rfl ⟨rfl, rfl, rfl, rfl, rfl⟩ rfl rfl rfl rfl rfl (by kernel_rfl) Tryz.func9 (by kernel_rfl)
    (of_decide_eq_true (by kernel_rfl)) (by unfold Func.isWrapper; first | (rw [if_pos (by decide +kernel)]; kernel_rfl) | (rw [if_neg (by decide +kernel)]; exact ⟨rfl, rfl⟩))
    (fun os started H enc _ F => by rw [OpenClaim.pre_eq_preRow]; exact split_lifted os started H enc F)

/-- No parameter wants a stand-in; the program's own looks are on: what the card asks. -/
theorem split_plain (f : FuncId) (fn : Func) (hf : Tryz.pinned.checked.prog.funcNamed "nearby/nearbykeep.Split" = some f) (hfn : Tryz.pinned.checked.prog.funcs[f]? = some fn) :
    true = Tryz.pinned.checked.prog.looks [] ∧ ∀ (j : Nat) t, fn.params[j]? = some t → Tryz.pinned.checked.prog.wantsStandIn t = false := by
  obtain rfl : f = 9 := Option.some.inj ((show Tryz.prog.funcNamed "nearby/nearbykeep.Split" = some 9 by kernel_rfl).symm.trans hf) |>.symm
  obtain rfl : fn = Tryz.f9 := (Option.some.inj (Tryz.func9.symm.trans hfn)).symm
  refine ⟨by kernel_rfl, fun j t ht => ?_⟩
  rw [Tryz.params9] at ht
  have hm := Array.mem_of_getElem? ht
  simp at hm
  rcases hm with rfl | rfl
  · exact (show Tryz.prog.wantsStandIn 51 = false by kernel_rfl)
  · exact (show Tryz.prog.wantsStandIn 3 = false by kernel_rfl)

/-- The card. -/
theorem split_card : Rows.SplitCardSaid :=
  Claim7.holds_tied_plain_at .later [] _ _ _ _ split_said (fun _ h => by cases h) (by kernel_rfl) (fun _ h => by cases h) split_row_tie rfl ⟨rfl, rfl⟩ (by kernel_rfl) rfl split_plain (by kernel_rfl)
#print axioms split_card
end Go.Proofs.YtpkiefjanmfgfaaGreatDoor
