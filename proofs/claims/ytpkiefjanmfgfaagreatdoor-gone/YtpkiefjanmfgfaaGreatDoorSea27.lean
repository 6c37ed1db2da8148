import Derived.Test.YtpkiefjanmfgfaaGreatDoorSea25
import Derived.Test.YtpkiefjanmfgfaaGreatDoorSea26
namespace Go.Proofs.YtpkiefjanmfgfaaGreatDoor
open Go.RowKit Go.Maps

theorem HRow.addr' {w : World} {a : Option Addr} {n c : Nat} {l : List Hit} (h : HRow w (.slice a n c) l) (hl : 0 < l.length) : ∃ g, a = some ⟨g, 0, none⟩ := by
  obtain ⟨a', c', e, ha⟩ := HRow.slice h
  obtain ⟨g, hg⟩ := ha hl
  injection e with e1
  exact ⟨g, e1.trans hg⟩
/-- Without the one at i. -/
theorem tell_del {m : Int} {xs : List Int} {L : List Ent} (hr : Rising L) {i : Nat} (hi : i < (tellL m xs [] L).length) :
    tellL m xs [] (delE (nth (tellL m xs [] L) i).1 L) = (tellL m xs [] L).take i ++ (tellL m xs [] L).drop (i + 1) := by
  have e1 : nth (tellL m xs [] L) i = (tellL m xs [] L)[i] := by simp [nth, List.getD_eq_getElem?_getD, hi]
  have hsub : ((tellL m xs [] L).take i ++ (tellL m xs [] L).drop (i + 1)).Sublist (tellL m xs [] L) := by
    rw [← List.eraseIdx_eq_take_drop_succ]
    exact List.eraseIdx_sublist _ _
  have hnd := tellL_nodup (m := m) (xs := xs) (F := []) hr
  have hn := nodup_of_ids hnd
  refine sorted_uniq (tellL_sorted _ _ _ _) ((tellL_sorted _ _ _ _).sublist hsub) (nodup_of_ids (tellL_nodup (rising_delE _ hr))) (hn.sublist hsub) fun x => ?_
  have hL : x ∈ tellL m xs [] (delE (nth (tellL m xs [] L) i).1 L) ↔ x ∈ tellL m xs [] L ∧ x.1 ≠ (nth (tellL m xs [] L) i).1 := by
    rw [tellL_mem, tellL_mem]
    constructor
    · rintro ⟨e, he, hp, rfl⟩
      have h1 := List.mem_filter.1 he
      exact ⟨⟨e, h1.1, hp, rfl⟩, by simpa using h1.2⟩
    · rintro ⟨⟨e, he, hp, rfl⟩, hne⟩
      exact ⟨e, List.mem_filter.2 ⟨he, by simpa using hne⟩, hp, rfl⟩
  rw [hL, e1, ← List.eraseIdx_eq_take_drop_succ, List.mem_eraseIdx_iff_getElem]
  constructor
  · rintro ⟨hm, hne⟩
    obtain ⟨j, hj, rfl⟩ := List.mem_iff_getElem.1 hm
    exact ⟨j, hj, fun e => hne (by subst e; rfl), rfl⟩
  · rintro ⟨j, hj, hne, rfl⟩
    refine ⟨List.getElem_mem hj, fun e => ?_⟩
    rcases Nat.lt_or_gt_of_ne hne with h | h
    · have := (List.pairwise_iff_getElem.1 hnd) j i (by simpa using hj) (by simpa using hi) h
      simp at this
      exact this e
    · have := (List.pairwise_iff_getElem.1 hnd) i j (by simpa using hi) (by simpa using hj) h
      simp at this
      exact this e.symm
theorem tell_find {m : Int} {xs : List Int} {L : List Ent} (_hr : Rising L) {i : Nat} (hi : i < (tellL m xs [] L).length) : ∃ e, findE (nth (tellL m xs [] L) i).1 L = some e ∧ e ∈ L := by
  have e1 : nth (tellL m xs [] L) i = (tellL m xs [] L)[i] := by simp [nth, List.getD_eq_getElem?_getD, hi]
  obtain ⟨e, he, _, hx⟩ := tellL_mem.1 (List.getElem_mem hi)
  rw [e1, hx]
  cases hf : findE e.id L with
  | none =>
    have := List.find?_eq_none.1 hf e he
    simp at this
  | some y => exact ⟨y, rfl, (findE_mem hf).1⟩
theorem tell_len0 (m : Int) (xs : List Int) (L : List Ent) : (tellL m xs [] L).length = L.length := by rw [tellL_len, passL_none]
theorem any_gone {l all : List Hit} (h : l.Sublist all) {m : Int} {xs : List Int} {L : List Ent} {id : Int} (ha : all = tellL m xs [] (delE id L)) : (l.any fun x => x.1 == id) = false := by
  refine List.any_eq_false.2 fun x hx => ?_
  have hm := h.subset hx
  rw [ha] at hm
  obtain ⟨e, he, _, rfl⟩ := tellL_mem.1 hm
  have := (List.mem_filter.1 he).2
  simpa using this
/-- The source of an append: hits from i on. -/
theorem hcells_drop_src {w : World} {g n cap : Nat} {l : List Hit} (h : w.ownsRow 0 63 2 (.slice (some ⟨g, 0, none⟩) n cap) n (hcells l)) {m : Nat} (hm : m ≤ l.length) : ∀ j u, (hcells (l.drop m))[j]? = some u → w.cell? ((⟨g, m * 2, none⟩ : Addr).add j) = some u := by
  intro j u hj
  rw [addr_add]
  refine ownsRow_cell h ?_
  have e : hcells l = hcells (l.take m) ++ hcells (l.drop m) := by
    rw [← hcells_append, List.take_append_drop]
  have hl : (hcells (l.take m)).length = m * 2 := by rw [hcells_length]; simp; omega
  rw [e, List.getElem?_append_right (by omega), hl, show m * 2 + j - m * 2 = j by omega]
  exact hj
end Go.Proofs.YtpkiefjanmfgfaaGreatDoor
namespace Go.Proofs.YtpkiefjanmfgfaaGreatDoor
open Go.RowKit Go.Maps

set_option maxHeartbeats 8000000 in
set_option maxRecDepth 20000 in
theorem gone8 (sa : Option Addr) (len cap : Nat) (links metric beam : Int) (pa : Option Addr) (pc : Nat) (ord : List Int) (x0 y0 k0 : Int) (h1 : I64 links) (h2 : I64 metric) (h3 : I64 beam) (h5 : I64 x0) (h6 : I64 y0) (h7 : I64 k0) (w : World) (hor : IntsAt w (.slice pa ord.length pc) ord) (hoi : ∀ x ∈ ord, I64 x) (hg : Handle w) (hs : KScriptAt w sa len) :
    Calls Tryz.prog 8 #[.slice sa len cap, .int .i64 links, .int .i64 metric, .int .i64 beam, .slice pa ord.length pc, .int .i64 x0, .int .i64 y0, .int .i64 k0] w fun ev w' => ev = .returned (.bool true) ∧ Below w.heap.size w w' := by
  have HM := hide (made18 sa len cap links metric beam h1 h2 h3 w hg hs)
  have HD1 : Hid ((keepCf links metric beam).dim = 2 ∧ (keepCf links metric beam).cap = 60) := ⟨rfl, rfl⟩
  have HO := hide hor
  have HOI := hide hoi
  have hol : ord.length ≤ 17592186044416 := by
    obtain ⟨_, _, _, _, h, _⟩ := hor
    exact h
  clear hs hor hoi
  generalize keepCf links metric beam = cf at *
  have HPK := hide (fun W => pick17 k0 60 h7 (by omega) W)
  have ik := pickI_in (c := k0) (n := 60) (by omega)
  generalize pickI k0 60 = kq at HPK ik
  obtain ⟨kk, hkk⟩ : ∃ kk, kk = 1 + kq := ⟨_, rfl⟩
  have ekk : IntKind.i64.wrap (1 + kq) = kk := by rw [IntKind.wrap_i64]; omega
  have ekk2 : wrap64 (1 + kq) = kk := by unfold wrap64; omega
  have HKB : Hid (1 ≤ kk ∧ kk ≤ 60) := by show _ ∧ _; omega
  clear ik hkk
  have HCX := hide (fun W => coord20 x0 h5 W)
  have HCY := hide (fun W => coord20 y0 h6 W)
  have hX := coordI_crd x0
  have hY := coordI_crd y0
  generalize coordI x0 = X at HCX hX
  generalize coordI y0 = Y at HCY hY
  go_enter Tryz.func8, Tryz.ntmps8
  go_wp2_with fail
  go_fit HM.out
  rintro ev w1 ⟨bb, bs, bm, gn1, L1, rfl, hK1, h50, hl1⟩
  have HK1 := hide hK1
  have HL1 := hide hl1
  have hn50 := h50.len hK1.base.map.rising
  clear hK1 h50 hl1 HM
  go_wp2_with fail
  go_fit (HPK.out _)
  rintro ev' w' ⟨rfl, rfl⟩
  go_wp2_with fail
  go_fit (HCX.out _)
  rintro ev' w' ⟨rfl, rfl⟩
  go_wp2_with fail
  go_fit (HCY.out _)
  rintro ev' w' ⟨rfl, rfl⟩
  go_wp2_with fail
  go_fit (all22 X Y (.slice none 0 0) [] w1 HK1.out HD1.out.1 hX hY (filt_none _) (by decide) (by have := HL1.out; omega))
  rintro ev w2 ⟨v2, n2, rfl, hr2, hv2, hK2, _, hn2⟩
  have haw : Hid (∀ g, v2.ownBlock = some g → ¬ gn1.F g) := fun g hg => HK1.out.fresh (hv2 g hg)
  obtain ⟨a2, c2, rfl, _⟩ := HRow.slice hr2
  have HK2 := hide hK2
  have HR2 := hide hr2
  have HL2 : Hid (0 ≤ n2 ∧ n2 ≤ 120) := by have := HL1.out; show _ ∧ _; omega
  have HCN := hide (count15_any bb bs bm cf _ L1 w2 hK2.base)
  rw [← tell_len0 cf.metric [X, Y]] at HCN hn50
  clear hK2 hr2 hv2 hn2 HPK HCX HCY HK1 HL1
  go_wp2_with fail
  go_fit HCN.out
  rintro ev' w' ⟨rfl, rfl⟩
  go_wp2
  go_loopw [18, 20, 21, 22, 23, 24, 25, 26, 27, 28, 29, 30, 31, 32, 33] (fun lv nv iv _ _ _ _ _ _ _ _ _ _ _ _ wr => ∃ (i : Nat) (L : List Ent) (gn : Net) (a : Option Addr) (c : Nat), lv = .slice a (tellL cf.metric [X, Y] [] L).length c ∧ nv = .int .i64 (tellL cf.metric [X, Y] [] L).length ∧ iv = .int .i64 i ∧ i + (tellL cf.metric [X, Y] [] L).length ≤ 60 ∧ Hid (KB w wr bb bs bm cf gn L) ∧ Hid (HRow wr (.slice a (tellL cf.metric [X, Y] [] L).length c) (tellL cf.metric [X, Y] [] L)) ∧ Hid (∀ g, Value.ownBlock (.slice a (tellL cf.metric [X, Y] [] L).length c) = some g → ¬ gn.F g) ∧ Hid (0 ≤ gn.looks ∧ gn.looks ≤ 120 + 120 * i)) (fun _ nv _ _ _ _ _ _ _ _ _ _ _ _ _ _ => (intOf nv).toNat)
  case atStart => exact ⟨0, L1, _, a2, c2, rfl, rfl, rfl, by omega, HK2.out, HR2.out, haw.out, HL2.out⟩
  case round =>
    obtain ⟨i, L, gn, a, c, rfl, rfl, rfl, hi60, HK, HR, HAW, HL⟩ := hrel
    by_cases hlt : 0 < (tellL cf.metric [X, Y] [] L).length
    · obtain ⟨g, rfl⟩ := HRow.addr' HR.out hlt
      have hlt' : decide (0 < ((tellL cf.metric [X, Y] [] L).length : Int)) = true := decide_eq_true (by omega)
      go_upto_if 74 with fail
      go_cut [22] (fun cv wx => ∃ q, cv = .int .i64 q ∧ I64 q ∧ wr = wx)
      case first =>
        by_cases hio : i < ord.length
        · obtain ⟨b, off, rfl, hc⟩ := IntsAt.cell HO.out hio
          have hcr := cell_below hc HK.out.old
          have hmem : I64 (ord.getD i 0) := HOI.out _ (by rw [List.getD_eq_getElem?_getD, List.getElem?_eq_getElem hio]; exact List.getElem_mem hio)
          have hd : decide ((i : Int) < (ord.length : Int)) = true := decide_eq_true (by omega)
          generalize ord.getD i 0 = q at hcr hmem
          clear hc
          go_wp2_with fail
          go_meet
          exact ⟨q, rfl, hmem, rfl⟩
        · have hd : decide ((i : Int) < (ord.length : Int)) = false := decide_eq_false (by omega)
          go_wp2_with fail
          go_meet
          exact ⟨0, rfl, i64_small (by omega) (by omega), rfl⟩
      case rest =>
        obtain ⟨q, rfl, hqI, rfl⟩ := hcut
        have hpi := pickI_in (c := q) (n := ((tellL cf.metric [X, Y] [] L).length : Int)) (by omega)
        have hpk := fun W => pick17 q ((tellL cf.metric [X, Y] [] L).length : Int) hqI (by omega) W
        obtain ⟨j, hj⟩ : ∃ j : Nat, pickI q ((tellL cf.metric [X, Y] [] L).length : Int) = j := Int.eq_ofNat_of_zero_le hpi.1
        rw [hj] at hpi hpk
        have hjl : j < (tellL cf.metric [X, Y] [] L).length := by omega
        have hrs := HK.out.base.map.rising
        obtain ⟨e, hfe, hem⟩ := tell_find (m := cf.metric) (xs := [X, Y]) hrs hjl
        have hdl := tell_del (m := cf.metric) (xs := [X, Y]) hrs hjl
        have hidI : I64 (nth (tellL cf.metric [X, Y] [] L) j).1 := by have := HK.out.base.ints e hem; rw [(findE_mem hfe).2] at this; exact this
        have hx0 := HRow.at0 HR.out hjl
        have hcap : (tellL cf.metric [X, Y] [] L).length ≤ c := ownsRow_len HR.out
        generalize hgl : tellL cf.metric [X, Y] [] L = l at *
        have HGL := hide hgl
        clear hgl
        have HDEL := hide (delK (nth l j).1 e hidI HK.out hfe)
        generalize (nth l j).1 = id at *
        have HPK := hide hpk
        have HDL := hide hdl
        clear hpk hdl hfe hem hrs hqI hj hpi
        go_wp2_with fail
        go_fit (HPK.out _)
        rintro ev' w' ⟨rfl, rfl⟩
        go_wp2_with fail
        go_fit HDEL.out
        rintro ev w5 ⟨rfl, gn5, hK5, hk5, hF5, hl5⟩
        have hR5 := HK.out.rowTurned HR.out HAW.out hk5
        have HK5 := hide hK5
        have HR5 := hide hR5
        have HL5 : Hid (0 ≤ gn5.looks ∧ gn5.looks ≤ 120 + 120 * i) := by rw [hl5]; exact HL.out
        clear hK5 hR5 hk5 hF5 hl5 hx0 HDEL HPK
        obtain ⟨i0, hi, hz0, hz1, hz2⟩ := info_parts info63
        have HNIL : Hid (w5.ownsRow 0 63 2 (.slice none 0 0) 0 []) := ⟨rfl, .inl ⟨rfl, rfl⟩⟩
        have HN1 : Hid (0 < j → ∃ a, (some ⟨g, 0, none⟩ : Option Addr) = some a ∧ ∀ k u, (hcells (l.take j))[k]? = some u → w5.cell? (a.add k) = some u) := fun _ => ⟨_, rfl, hcells_take_src HR5.out⟩
        have hlt1 : (hcells (l.take j)).length = j * 2 := by rw [hcells_length]; simp; omega
        go_upto_region 20 with (at_builtin; go_must (refine wpList_append_any _ rfl _ _ 58 rfl 0 63 i0 (.agg #[.int .i64 0, .int .i64 0]) 2 16 Tryz.underlying58 hi hz0 hz1 hz2 rfl (by decide) (.slice none 0 0) 0 [] rfl HNIL.out (some ⟨g, 0, none⟩) j c (hcells (l.take j)) rfl hlt1 HN1.out (hcells_one _) (by unfold maxLen; omega) (by omega) (Nat.zero_le _) ?_); intro v6 w6 ho6 hg6 hat6)
        have hb6 : Below w5.heap.size w5 w6 := (Below.refl w5.heap.size w5).grown hg6 (Nat.le_refl _) (fun k hk => by cases hk)
        rw [Nat.zero_add, List.nil_append] at ho6
        have HO6 := hide ho6
        have hv6 : ∀ k, v6.ownBlock = some k → w5.heap.size ≤ k := fun k hk => by
          rcases hat6 with h | h
          · rw [h] at hk; cases hk
          · rw [h] at hk; injection hk with hk; omega
        have HV6 := hide hv6
        have HB6 := hide hb6
        have hR6 := ownsRow_below HR5.out hb6
        have HR6 := hide hR6
        clear ho6 hg6 hat6 hb6 hv6 hR6 HNIL HN1 hlt1
        have hdrl : (hcells (l.drop (j + 1))).length = (l.length - (j + 1)) * 2 := by rw [hcells_length]; simp
        have hl2 : (l.take j ++ l.drop (j + 1)).length = j + (l.length - (j + 1)) := by simp; omega
        have hl260 : (l.take j ++ l.drop (j + 1)).length + 1 = l.length := by rw [hl2]; omega
        have h2c : hcells (l.take j) ++ hcells (l.drop (j + 1)) = hcells (l.take j ++ l.drop (j + 1)) := (hcells_append _ _).symm
        generalize hl2d : l.take j ++ l.drop (j + 1) = l2 at *
        have fin : ∀ v7 w7, w7.ownsRow 0 63 2 v7 (j + (l.length - (j + 1))) (hcells (l.take j) ++ hcells (l.drop (j + 1))) → w6.grownBy w7 v6.ownBlock → (v7.ownBlock = v6.ownBlock ∨ v7.ownBlock = some w6.heap.size) → ∃ a' c', v7 = .slice a' l2.length c' ∧ HRow w7 (.slice a' l2.length c') l2 ∧ Below w5.heap.size w5 w7 ∧ ∀ k, Value.ownBlock (.slice a' l2.length c') = some k → w5.heap.size ≤ k := fun v7 w7 ho hgr hat => by
          rw [h2c, ← hl2] at ho
          obtain ⟨a', c', rfl, _⟩ := HRow.slice ho
          refine ⟨a', c', rfl, ho, HB6.out.grown hgr HB6.out.size HV6.out, fun k hk => ?_⟩
          rcases hat with h | h
          · exact HV6.out k (h ▸ hk)
          · rw [h] at hk; injection hk with hk; have := HB6.out.size; omega
        have HFIN := hide fin
        clear fin h2c hl2
        go_cut [18] (fun lv wx => ∃ a' c', lv = .slice a' l2.length c' ∧ HRow wx (.slice a' l2.length c') l2 ∧ Below w5.heap.size w5 wx ∧ ∀ k, Value.ownBlock (.slice a' l2.length c') = some k → w5.heap.size ≤ k)
        case first =>
          by_cases hcj : c = j + 1
          · have hm0 : l.length - (j + 1) = 0 := by omega
            go_wp2_with (at_builtin; go_must (refine wpList_append_any _ rfl _ _ 58 rfl 0 63 i0 (.agg #[.int .i64 0, .int .i64 0]) 2 16 Tryz.underlying58 hi hz0 hz1 hz2 rfl (by decide) v6 j (hcells (l.take j)) rfl HO6.out _ _ _ (hcells (l.drop (j + 1))) rfl (by rw [hdrl]; first | rfl | omega) (fun h => by omega) (hcells_one _) (by unfold maxLen; omega) (by omega) (Nat.zero_le _) ?_); intro v7 w7 ho7 hg7 hat7; have H7 := hide (HFIN.out v7 w7 (by first | exact ho7 | (rw [hm0]; exact ho7)) hg7 hat7); clear ho7 hg7 hat7)
            go_meet
            exact H7.out
          · have HN2 : Hid (0 < l.length - (j + 1) → ∃ a, (some ⟨g, (j + 1) * 2, none⟩ : Option Addr) = some a ∧ ∀ k u, (hcells (l.drop (j + 1)))[k]? = some u → w6.cell? (a.add k) = some u) := fun _ => ⟨_, rfl, hcells_drop_src HR6.out (by omega)⟩
            go_wp2_with (at_builtin; go_must (refine wpList_append_any _ rfl _ _ 58 rfl 0 63 i0 (.agg #[.int .i64 0, .int .i64 0]) 2 16 Tryz.underlying58 hi hz0 hz1 hz2 rfl (by decide) v6 j (hcells (l.take j)) rfl HO6.out (some ⟨g, (j + 1) * 2, none⟩) (l.length - (j + 1)) (c - (j + 1)) (hcells (l.drop (j + 1))) rfl hdrl HN2.out (hcells_one _) (by unfold maxLen; omega) (by omega) (Nat.zero_le _) ?_); intro v7 w7 ho7 hg7 hat7; have H7 := hide (HFIN.out v7 w7 ho7 hg7 hat7); clear ho7 hg7 hat7)
            go_meet
            exact H7.out
        case rest =>
          obtain ⟨a7, c7, rfl, hr7, hb7, hv7⟩ := hcut
          have hK7 := HK5.out.below hb7
          have hdlen : (delE id L).length = l2.length := by rw [← tell_len0 cf.metric [X, Y], HDL.out]
          have HCN7 := hide (count15_any bb bs bm cf gn5 (delE id L) wc hK7.base)
          rw [hdlen] at HCN7
          have HK7 := hide hK7
          have HR7 := hide hr7
          have HV7 := hide hv7
          clear hK7 hr7 hv7 hb7 hdlen HFIN HO6 HV6 HB6 HR6 HR5 HR hcap hdrl HL HK HAW
          go_wp2_with fail
          go_fit HCN7.out
          rintro ev' w' ⟨rfl, rfl⟩
          go_wp2_with fail
          go_fit (all22 X Y (.slice none 0 0) [] wc HK7.out HD1.out.1 hX hY (filt_none _) (by decide) (by have := HL5.out; omega))
          rintro ev w8 ⟨v8, n8, rfl, hr8, _, hK8, hk8, hn8⟩
          rw [HDL.out] at hr8
          have hr78 := HK7.out.rowLooked HR7.out hk8
          have HSM := hide (same25 v8 _ l2 w8 hr8 hr78 (by omega))
          obtain ⟨a8, c8, rfl, _⟩ := HRow.slice hr8
          have HK8 := hide hK8
          have HR8 := hide hr78
          have HN8 : Hid (0 ≤ n8 ∧ n8 ≤ 180 + 120 * (i : Int)) := by have := HL5.out; show _ ∧ _; omega
          clear hK8 hr78 hr8 hk8 hn8 HCN7 HK7 HR7
          go_wp2_with fail
          go_fit HSM.out
          rintro ev w9 ⟨rfl, hb9⟩
          have HK9 := hide (HK8.out.below hb9)
          have HR9 := hide (ownsRow_below HR8.out hb9)
          clear hb9 HSM HK8 HR8
          go_wp2_with fail
          obtain ⟨w10, hw10⟩ : ∃ w10, w10 = w9.alloc (.cells #[.int .i64 X, .int .i64 Y] 3) := ⟨_, rfl⟩
          have hA10 : Pts w10 w9.heap.size 2 [X, Y] := two_row (by rw [hw10]; exact heap_alloc_new _ _)
          have hb10 : Below w9.heap.size w9 w10 := hw10 ▸ (Below.refl _ _).alloc (Nat.le_refl _) _
          rw [← hw10]
          clear hw10
          have hK10 := HK9.out.below hb10
          have hr10 := ownsRow_below HR9.out hb10
          go_fit (searchK (.slice (some ⟨w9.heap.size, 0, none⟩) 2 2) [X, Y] kk 1 (.slice none 0 0) [] w10 hK10 hA10 (two_ints hA10) (filt_none _) (by have := HN8.out; show 0 ≤ n8 ∧ n8 ≤ _; omega) (schCode_two HD1.out.1 hX hY HKB.out (by omega) (by decide)))
          rintro ev w11 ⟨v11, few, n11, rfl, hf11, _, hK11, hk11, hn11, hRL⟩
          have hr11 := hK10.rowLooked hr10 hk11
          have hods := hRL.ordd (tellL_sorted _ _ _ _) (tellL_nodup hK10.base.map.rising)
          have hany := any_gone hRL.sub (m := cf.metric) (xs := [X, Y]) (L := L) (id := id) rfl
          rw [HDL.out] at hRL
          have hfl := hRL.len
          have hf60 : few.length ≤ 60 := by omega
          have hhi := has27 v11 few id w11 hf11 (by omega)
          rw [hany] at hhi
          have HHI := hide hhi
          have HOR := hide (ordered23 v11 few w11 hf11 hods (by omega))
          have HSB := hide hRL.sub
          obtain ⟨a11, c11, rfl, _⟩ := HRow.slice hf11
          have HFL := hide hfl
          have HK11 := hide hK11
          have HR11 := hide hr11
          have HF11 := hide hf11
          have HN11 : Hid (0 ≤ n11 ∧ n11 ≤ 240 + 120 * (i : Int)) := by
            have h1 := HN8.out
            have h2 : n8 + (few.length : Int) ≤ n11 := hn11.1
            have h3 : n11 ≤ n8 + 60 := hn11.2
            show _ ∧ _
            omega
          clear hfl hK11 hr11 hf11 hn11 hRL hhi hany hods hK10 hr10 hA10 hb10 hk11 HK9 HR9 HN8
          by_cases hkl : (l2.length : Int) < kk
          · have hd : decide ((l2.length : Int) < kk) = true := decide_eq_true hkl
            have hqb : ((few.length : Int) == (l2.length : Int)) = true := by have := HFL.out; simp; omega
            have HQ : Hid ((few.length : Int) = (l2.length : Int)) := by have := HFL.out; show _ = _; omega
            go_wp2_with fail
            go_fit HHI.out
            rintro ev' w' ⟨rfl, rfl⟩
            go_wp2_with fail
            go_fit HOR.out
            rintro ev w12 ⟨rfl, hb12⟩
            have HK12 := hide (HK11.out.below hb12)
            have HR12 := hide (ownsRow_below HR11.out hb12)
            have HF12 := hide (ownsRow_below HF11.out hb12)
            clear hb12 HOR HHI hqb
            go_wp2
            go_loop [33] (fun iv => ∃ k : Nat, iv = .int .i64 k ∧ k ≤ few.length) (fun iv => few.length - (intOf iv).toNat)
            case atStart => exact ⟨0, rfl, Nat.zero_le _⟩
            case round =>
              obtain ⟨k, rfl, hk⟩ := hrel
              by_cases hltk : k < few.length
              · obtain ⟨fg, rfl⟩ := HRow.addr' HF12.out (by omega)
                have y0' := HRow.at0 HF12.out hltk
                have hh := has27 (.slice a7 l2.length c7) l2 (nth few k).1 w12 HR12.out (by omega)
                rw [any_sub HSB.out hltk] at hh
                generalize (nth few k).1 = fid at hh y0'
                have HHk := hide hh
                clear hh
                go_wp2_with fail
                go_fit HHk.out
                rintro ev' w' ⟨rfl, rfl⟩
                go_wp2
                exact ⟨⟨k + 1, by go_num, by omega⟩, by simp [intOf]; omega⟩
              · obtain rfl : k = few.length := by omega
                go_wp2
                refine ⟨⟨i + 1, delE id L, _, a7, c7, by rw [HDL.out], by rw [HDL.out], by go_num, by rw [HDL.out]; omega, HK12.out, by rw [HDL.out]; exact HR12.out, by rw [HDL.out]; exact fun k hk => HK5.out.fresh (HV7.out k hk), ?_⟩, ?_⟩
                rotate_left
                · rw [HGL.out]
                  simp only [intOf, Int.toNat_natCast]
                  omega
                show 0 ≤ n11 ∧ n11 ≤ 120 + 120 * ((i + 1 : Nat) : Int)
                have := HN11.out
                omega
          · have hd : decide ((l2.length : Int) < kk) = false := decide_eq_false hkl
            have hqb : ((few.length : Int) == kk) = true := by have := HFL.out; simp; omega
            have HQ : Hid ((few.length : Int) = kk) := by have := HFL.out; show _ = _; omega
            go_wp2_with fail
            go_fit HHI.out
            rintro ev' w' ⟨rfl, rfl⟩
            go_wp2_with fail
            go_fit HOR.out
            rintro ev w12 ⟨rfl, hb12⟩
            have HK12 := hide (HK11.out.below hb12)
            have HR12 := hide (ownsRow_below HR11.out hb12)
            have HF12 := hide (ownsRow_below HF11.out hb12)
            clear hb12 HOR HHI hqb
            go_wp2
            go_loop [33] (fun iv => ∃ k : Nat, iv = .int .i64 k ∧ k ≤ few.length) (fun iv => few.length - (intOf iv).toNat)
            case atStart => exact ⟨0, rfl, Nat.zero_le _⟩
            case round =>
              obtain ⟨k, rfl, hk⟩ := hrel
              by_cases hltk : k < few.length
              · obtain ⟨fg, rfl⟩ := HRow.addr' HF12.out (by omega)
                have y0' := HRow.at0 HF12.out hltk
                have hh := has27 (.slice a7 l2.length c7) l2 (nth few k).1 w12 HR12.out (by omega)
                rw [any_sub HSB.out hltk] at hh
                generalize (nth few k).1 = fid at hh y0'
                have HHk := hide hh
                clear hh
                go_wp2_with fail
                go_fit HHk.out
                rintro ev' w' ⟨rfl, rfl⟩
                go_wp2
                exact ⟨⟨k + 1, by go_num, by omega⟩, by simp [intOf]; omega⟩
              · obtain rfl : k = few.length := by omega
                go_wp2
                refine ⟨⟨i + 1, delE id L, _, a7, c7, by rw [HDL.out], by rw [HDL.out], by go_num, by rw [HDL.out]; omega, HK12.out, by rw [HDL.out]; exact HR12.out, by rw [HDL.out]; exact fun k hk => HK5.out.fresh (HV7.out k hk), ?_⟩, ?_⟩
                rotate_left
                · rw [HGL.out]
                  simp only [intOf, Int.toNat_natCast]
                  omega
                show 0 ≤ n11 ∧ n11 ≤ 120 + 120 * ((i + 1 : Nat) : Int)
                have := HN11.out
                omega
    · have h0 : (tellL cf.metric [X, Y] [] L).length = 0 := by omega
      rw [h0]
      go_wp2
      go_ret
      exact ⟨rfl, HK.out.old⟩
end Go.Proofs.YtpkiefjanmfgfaaGreatDoor
namespace Go.Proofs.YtpkiefjanmfgfaaGreatDoor
open Go.ChangeShapes Go.WideShapes Go.ChangeAt Go.RowKit

set_option maxRecDepth 100000 in
/-- A list of numbers that came in, and what its numbers are. -/
theorem pt_openI {H : Type} {enc : TypeId × Value → H} {W : World} {hd : Bool} {b0 : Nat} {r : Reach} {v : Value} {d : DataW H} {p : List MemPlace} (hv : Value.okWide Tryz.prog W r b0 32 v) (h : DataW.Trod enc Tryz.prog W 0 (fun _ => true) hd 32 v d p) (hw : ∀ k ∈ d.weights Tryz.prog 32, k ≤ reachBytes) :
    ∃ (xs : List Int) (pa : Option Addr) (pc : Nat), v = .slice pa xs.length pc ∧ IntsAt W (.slice pa xs.length pc) xs ∧ ∀ x ∈ xs, I64 x := by
  obtain ⟨sa, len0, cap0, rfl⟩ := okWide_slice Tryz.underlying32 hv
  obtain ⟨fuel, hf⟩ := h
  have hf' : DataW.trod enc Tryz.prog W 0 (fun _ => true) hd fuel 32 [.slice sa len0 cap0] = some (d, p) := hf
  rcases open_ints Tryz.underlying32 Tryz.underlying3 cells3 hf' with ⟨e, _⟩ | ⟨a, len, cap, zs, e, _, hl, hm, hz, hx, hc, hwf⟩
  · simp at e
    obtain ⟨rfl, rfl, rfl⟩ := e
    exact ⟨[], none, 0, rfl, ⟨none, 0, rfl, Nat.le_refl _, by simp, .inl rfl⟩, fun _ h => absurd h List.not_mem_nil⟩
  · simp at e hz
    obtain ⟨rfl, rfl, rfl⟩ := e
    simp only [Prod.mk.injEq] at hx
    obtain ⟨rfl, _⟩ := hx
    have hlen : (zs.take len0).length = len0 := by simp; omega
    have hb : ((lits (H := H) .i64 (zs.take len0)).length + (lits (H := H) .i64 (zs.drop len0)).length) * Tryz.prog.bytesOf 3 ≤ reachBytes := hw _ (by simp only [DataW.weights, Tryz.underlying32]; exact List.mem_cons_self)
    simp [lits, bytes3, reachBytes] at hb
    refine ⟨zs.take len0, some a, cap0, by rw [hlen], ⟨some a, cap0, rfl, by omega, by omega, ?_⟩, fun x hx => hwf x (List.mem_of_mem_take hx)⟩
    by_cases h0 : len0 = 0
    · left; subst h0; simp
    · right
      have e0 := hc 0 (by omega)
      have ea : a = ⟨a.block, a.off, none⟩ := addr_plain (a := a) (by simpa [Addr.add] using e0)
      refine ⟨a.block, a.off, by rw [← ea], fun i hi => ?_⟩
      rw [hlen] at hi
      have := hc i (by omega)
      rw [ea, addr_at] at this
      rw [this]
      simp [List.getD_eq_getElem?_getD, hi]
end Go.Proofs.YtpkiefjanmfgfaaGreatDoor
namespace Go.Proofs.YtpkiefjanmfgfaaGreatDoor
open Go.ChangeShapes Go.WideShapes Go.ChangeAt Go.RowKit

/-- What the row's list gives: the variable's one cell. -/
theorem handle_gone {W : World} (h : laidMetH Tryz.prog Rows.goneRow.laid W) : Handle W := by
  have h' : laidMet Tryz.prog [] W ∧ handlesMet Tryz.prog Rows.goneRow.laid W := h
  obtain ⟨name, u, ty, e1, e2, e3, e4, e5⟩ := h'.2 _ (List.mem_singleton.2 rfl)
  have en : name = [101, 114, 114, 111, 114] := (Option.some.inj e1).symm
  subst en
  obtain rfl := Option.some.inj (rtypeRow.symm.trans e2)
  have hm : ty ∈ (List.range 313).filter fun t => Tryz.prog.rowNamed t [101, 114, 114, 111, 114] := List.mem_filter.2 ⟨List.mem_range.2 (by rw [← typesSize]; exact e3), e4⟩
  rw [errRow] at hm
  obtain rfl := List.mem_singleton.1 hm
  have hh : typeHandle Tryz.prog 104 = .pointer (some ⟨1, 104, none⟩) := by kernel_rfl
  rw [hh] at e5
  unfold Handle
  simpa using World.var?_cell errVar e5 0

set_option maxRecDepth 100000 in
/-- The law, from what came in to what it leaves. -/
theorem gone_contract (H : Type) (enc : TypeId × Value → H) (W : World) (base : Nat) (args : Array Value) (ds gs : List (DataW H)) (before : List MemPlace)
    (hval : ∀ (j : Nat) t v, Tryz.f8.params[j]? = some t → args[j]? = some v → Value.okWide Tryz.prog W .any base t v)
    (hW : DataW.Whole enc Tryz.prog Tryz.f8.params.toList Rows.goneSpec.vars false W args.toList ds gs before)
    (hz : (DataW.weightsEach Tryz.prog (Tryz.f8.params.toList ++ Rows.goneSpec.plain.varTypes Tryz.prog) (ds ++ gs)).all (· ≤ reachBytes) = true) (hL : laidMetH Tryz.prog Rows.goneRow.laid W) :
    Calls Tryz.prog 8 args W fun e W' => ∃ v, e = .returned v ∧ Rows.goneSpec.post enc Tryz.prog Tryz.f8 false true false false W args v W' := by
  have hW' := hW
  obtain ⟨p, q, hA0, hV, rfl, hfz, hnd⟩ := hW
  have hA : DataW.TrodAll enc Tryz.prog W 0 (fun _ => true) true Tryz.f8.params.toList args.toList ds p := hA0
  rw [Tryz.params8] at hA hval hz
  obtain ⟨v0, vs0, d0, ds0, p0, q0, hargs, rfl, rfl, h0, r0⟩ := trodAll_cons hA
  obtain ⟨v1, vs1, d1, ds1, p1, q1, rfl, rfl, rfl, h1, r1⟩ := trodAll_cons r0
  obtain ⟨v2, vs2, d2, ds2, p2, q2, rfl, rfl, rfl, h2, r2⟩ := trodAll_cons r1
  obtain ⟨v3, vs3, d3, ds3, p3, q3, rfl, rfl, rfl, h3, r3⟩ := trodAll_cons r2
  obtain ⟨v4, vs4, d4, ds4, p4, q4, rfl, rfl, rfl, h4, r4⟩ := trodAll_cons r3
  obtain ⟨v5, vs5, d5, ds5, p5, q5, rfl, rfl, rfl, h5, r5⟩ := trodAll_cons r4
  obtain ⟨v6, vs6, d6, ds6, p6, q6, rfl, rfl, rfl, h6, r6⟩ := trodAll_cons r5
  obtain ⟨v7, vs7, d7, ds7, p7, q7, rfl, rfl, rfl, h7, r7⟩ := trodAll_cons r6
  obtain ⟨rfl, rfl, rfl⟩ := trodAll_nil r7
  obtain rfl : args = #[v0, v1, v2, v3, v4, v5, v6, v7] := by cases args; simp_all
  obtain ⟨rfl, rfl⟩ := trodVars_none hV
  have hlt := hW'.lt
  obtain ⟨sa, len, cap, rfl, hs⟩ := kscript_open (hval 0 51 v0 rfl rfl) h0 (fun k hk => by
    have := List.all_eq_true.1 hz k (DataW.weights_mem_each (j := 0) rfl rfl k hk)
    simpa using this)
  obtain ⟨a1, rfl, w1⟩ := int_open (hval 1 3 v1 rfl rfl) h1
  obtain ⟨a2, rfl, w2⟩ := int_open (hval 2 3 v2 rfl rfl) h2
  obtain ⟨a3, rfl, w3⟩ := int_open (hval 3 3 v3 rfl rfl) h3
  obtain ⟨xs4, pa4, pc4, rfl, w4, o4⟩ := pt_openI (hval 4 32 v4 rfl rfl) h4 (fun k hk => by
    have := List.all_eq_true.1 hz k (DataW.weights_mem_each (j := 4) rfl rfl k hk)
    simpa using this)
  obtain ⟨a5, rfl, w5⟩ := int_open (hval 5 3 v5 rfl rfl) h5
  obtain ⟨a6, rfl, w6⟩ := int_open (hval 6 3 v6 rfl rfl) h6
  obtain ⟨a7, rfl, w7⟩ := int_open (hval 7 3 v7 rfl rfl) h7
  refine (gone8 sa len cap a1 a2 a3 pa4 pc4 xs4 a5 a6 a7 w1 w2 w3 w5 w6 w7 W w4 o4 (handle_gone hL) hs).mono fun e W' ⟨he, hb⟩ => ?_
  subst he
  refine ⟨_, rfl, _, _, _, [], p0 ++ (p1 ++ (p2 ++ (p3 ++ (p4 ++ (p5 ++ (p6 ++ (p7 ++ []))))))), [], hW', ?_, ?_, ?_, hb.frame _, fun h => by cases h⟩
  · exact trodAll_cons_mk (shut_bool Tryz.underlying4 _) trodAll_mk0
  · exact (trodAll_cons_mk (Below.trod laidOut read51 (by rw [typesSize]; decide) h0 hb (fun x hx => hlt x (by simp [hx]))) (trodAll_cons_mk (Below.trod laidOut read3 (by rw [typesSize]; decide) h1 hb (fun x hx => hlt x (by simp [hx]))) (trodAll_cons_mk (Below.trod laidOut read3 (by rw [typesSize]; decide) h2 hb (fun x hx => hlt x (by simp [hx]))) (trodAll_cons_mk (Below.trod laidOut read3 (by rw [typesSize]; decide) h3 hb (fun x hx => hlt x (by simp [hx]))) (trodAll_cons_mk (Below.trod laidOut read32 (by rw [typesSize]; decide) h4 hb (fun x hx => hlt x (by simp [hx]))) (trodAll_cons_mk (Below.trod laidOut read3 (by rw [typesSize]; decide) h5 hb (fun x hx => hlt x (by simp [hx]))) (trodAll_cons_mk (Below.trod laidOut read3 (by rw [typesSize]; decide) h6 hb (fun x hx => hlt x (by simp [hx]))) (trodAll_cons_mk (Below.trod laidOut read3 (by rw [typesSize]; decide) h7 hb (fun x hx => hlt x (by simp [hx]))) trodAll_mk0))))))))
  · rfl

noncomputable def goneArgs : Array Value := #[.slice none 0 0, .int .i64 0, .int .i64 0, .int .i64 0, .slice none 0 0, .int .i64 0, .int .i64 0, .int .i64 0]
theorem gone_met (os : Os) : laidMetH Tryz.prog Rows.goneRow.laid ((laidWorld os).forCall (fun _ _ => 0) ⟨#[], goneArgs, []⟩).memory :=
  laidMetH_of_parts (laidMet_nil _ _) (by kernel_rfl)
theorem gone_reads (os : Os) {H : Type} (enc : TypeId × Value → H) : ∃ places, DataW.whole enc Tryz.prog ((laidWorld os).forCall (fun _ _ => 0) ⟨#[], goneArgs, []⟩).memory Tryz.f8.params.toList Rows.goneSpec.vars false goneArgs.toList 8 = some ([.nil, .lit (.int .i64 0), .lit (.int .i64 0), .lit (.int .i64 0), .nil, .lit (.int .i64 0), .lit (.int .i64 0), .lit (.int .i64 0)], [], places) :=
  ⟨[], by kernel_rfl⟩

set_option maxRecDepth 100000 in
theorem gone_lifted (os : Os) (started : os.Started) (H : Type) (enc : TypeId × Value → H) (F : Stop.Interp) :
    ReturnsInHanded {} Tryz.checked os 8 .any ((OpenSpec.ofChange Rows.goneSpec).preRow enc Tryz.prog Tryz.f8 Rows.goneRow.domain false Rows.goneRow.laid) (((OpenSpec.ofChange Rows.goneSpec).at F).post enc Tryz.prog Tryz.f8 false true false false) := by
  obtain ⟨places, hx⟩ := gone_reads os enc
  refine returnsInHanded_of_row (C := Tryz.checked) (s := OpenSpec.ofChange Rows.goneSpec) knob started (by kernel_rfl) Tryz.func8
    (witness_row_at (enc := enc) (C := Tryz.checked) false (laidWorld os) goneArgs rfl (by kernel_rfl) (by kernel_rfl) (by kernel_rfl)
      (OpenSpec.preRow_of_cond 8 hx (by kernel_rfl) (fun k hk => by cases hk) (by kernel_rfl) (gone_met os))) ?_
  intro W base args ds gs before hval hW _ _ hz hL _ _
  exact gone_contract H enc W base args ds gs before hval hW hz hL

set_option maxRecDepth 100000 in
theorem gone_said : Rows.GoneSaid :=
  OpenClaim.holds_of_cond 8 Tryz.f8 rfl rfl rfl rfl rfl rfl rfl ⟨rfl, rfl, rfl, rfl, rfl⟩ rfl rfl rfl rfl rfl (by kernel_rfl) Tryz.func8 (by kernel_rfl)
    (of_decide_eq_true (by kernel_rfl)) (by unfold Func.isWrapper; first | (rw [if_pos (by decide +kernel)]; kernel_rfl) | (rw [if_neg (by decide +kernel)]; exact ⟨rfl, rfl⟩))
    (fun os started H enc _ F => by rw [OpenClaim.pre_eq_preRow]; exact gone_lifted os started H enc F)

/-- No parameter wants a stand-in; the program's own looks are on: what the card asks. -/
theorem gone_plain (f : FuncId) (fn : Func) (hf : Tryz.pinned.checked.prog.funcNamed "nearby/nearbykeep.Gone" = some f) (hfn : Tryz.pinned.checked.prog.funcs[f]? = some fn) :
    true = Tryz.pinned.checked.prog.looks [] ∧ ∀ (j : Nat) t, fn.params[j]? = some t → Tryz.pinned.checked.prog.wantsStandIn t = false := by
  obtain rfl : f = 8 := Option.some.inj ((show Tryz.prog.funcNamed "nearby/nearbykeep.Gone" = some 8 by kernel_rfl).symm.trans hf) |>.symm
  obtain rfl : fn = Tryz.f8 := (Option.some.inj (Tryz.func8.symm.trans hfn)).symm
  refine ⟨by kernel_rfl, fun j t ht => ?_⟩
  rw [Tryz.params8] at ht
  have hm := Array.mem_of_getElem? ht
  simp at hm
  rcases hm with rfl | rfl | rfl | rfl
  · exact (show Tryz.prog.wantsStandIn 51 = false by kernel_rfl)
  · exact (show Tryz.prog.wantsStandIn 3 = false by kernel_rfl)
  · exact (show Tryz.prog.wantsStandIn 32 = false by kernel_rfl)
  · exact (show Tryz.prog.wantsStandIn 3 = false by kernel_rfl)

/-- The card. -/
theorem gone_card : Rows.GoneCardSaid :=
  Claim7.holds_tied_plain_at .later [] _ _ _ _ gone_said (fun _ h => by cases h) (by kernel_rfl) (fun _ h => by cases h) gone_row_tie rfl ⟨rfl, rfl⟩ (by kernel_rfl) rfl gone_plain (by kernel_rfl)
#print axioms gone_card
end Go.Proofs.YtpkiefjanmfgfaaGreatDoor
