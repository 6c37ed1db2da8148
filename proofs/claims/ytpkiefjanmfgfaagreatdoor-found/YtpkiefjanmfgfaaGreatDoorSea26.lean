import Derived.Test.YtpkiefjanmfgfaaGreatDoorSea25
namespace Go.Proofs.YtpkiefjanmfgfaaGreatDoor
open Go.RowKit Go.Maps

theorem partI_nonneg {m a b : Int} (hm : m = 0 ∨ m = 1) : 0 ≤ partI m a b := by
  unfold partI
  rcases hm with rfl | rfl
  · simp only [if_true]
    rcases Int.le_total 0 (a - b) with h | h
    · exact Int.mul_nonneg h h
    · exact Int.mul_nonneg_of_nonpos_of_nonpos h h
  · simp only [show ¬ (1 : Int) = 0 by omega, if_false, if_true]
    omega
theorem distL_nonneg {m : Int} (hm : m = 0 ∨ m = 1) : ∀ p q : List Int, 0 ≤ distL m p q
  | a :: p, b :: q => by
    have := distL_nonneg hm p q
    have := partI_nonneg (a := a) (b := b) hm
    simp only [distL]
    omega
  | [], _ => by simp [distL]
  | _ :: _, [] => by simp [distL]
theorem distL_self {m : Int} (hm : m = 0 ∨ m = 1) : ∀ p : List Int, distL m p p = 0
  | a :: p => by
    have h1 := distL_self hm p
    have h2 : partI m a a = 0 := by
      unfold partI
      rcases hm with rfl | rfl <;> simp
    simp only [distL, h1, h2]
    rfl
  | [] => by simp [distL]
/-- Where the entry at the asked point stands: behind none but others at its own point. -/
theorem found_at {l : List Hit} (hs : l.Pairwise hle) (hn : (l.map (·.1)).Nodup) (h0 : ∀ x ∈ l, 0 ≤ x.2) (hm : (1000, 0) ∈ l) : ∃ j, j < l.length ∧ nth l j = (1000, 0) ∧ ∀ i, i < j → (nth l i).2 = 0 ∧ (nth l i).1 ≠ 1000 := by
  obtain ⟨j, hj, he⟩ := List.mem_iff_getElem.1 hm
  have en : ∀ i (hi : i < l.length), nth l i = l[i] := fun i hi => by simp [nth, List.getD_eq_getElem?_getD, hi]
  refine ⟨j, hj, (en j hj).trans he, fun i hi => ?_⟩
  have hil : i < l.length := by omega
  have h1 := (List.pairwise_iff_getElem.1 hs) i j hil hj hi
  have h2 := (List.pairwise_iff_getElem.1 hn) i j (by simpa using hil) (by simpa using hj) hi
  have h3 := h0 l[i] (List.getElem_mem hil)
  rw [en i hil]
  rw [he] at h1
  simp only [List.getElem_map, he] at h2
  unfold hle at h1
  simp only at h1
  exact ⟨by omega, h2⟩
theorem passL_none (L : List Ent) : passL [] L = L := by
  unfold passL
  refine List.filter_eq_self.2 fun e _ => ?_
  simp [passB]
theorem mem_insE_self (x : Ent) : ∀ L : List Ent, x ∈ insE x L
  | [] => by simp [insE]
  | y :: r => by
    unfold insE
    split
    · simp
    · split
      · simp
      · exact List.mem_cons_of_mem _ (mem_insE_self x r)

/-- What 'Found' keeps: n entries beside the one numbered 1000. -/
structure FnInv (n : Nat) (L : List Ent) : Prop where
  one : ∀ e : Ent, e.id = 1000 → (insE e L).length = n + 1
  room : Room 60 1000 L
theorem FnInv.first {L : List Ent} (h : K50 L) (hr : Rising L) : FnInv L.length L := by
  have hf : findE 1000 L = none := by
    cases he : findE 1000 L with
    | none => rfl
    | some e =>
      have h1 := findE_mem he
      have := h e h1.1
      omega
  exact ⟨fun e he => length_insE_none e (by rw [he]; exact hf), .inr (by have := h.len hr; omega)⟩
theorem FnInv.next {n : Nat} {L : List Ent} (h : FnInv n L) (hr : Rising L) (e : Ent) (he : e.id = 1000) : FnInv n (insE e L) := by
  have hf : findE 1000 (insE e L) = some e := by rw [← he]; exact findE_ins_self
  refine ⟨fun x hx => ?_, .inl (by rw [hf]; rfl)⟩
  rw [length_insE_some x (rising_insE e hr) (e := e) (by rw [hx]; exact hf)]
  exact h.one e he
/-- What is told behind the put. -/
theorem found_tell {n : Nat} {L : List Ent} {m x y : Int} {draw g gc : Nat} (hm : m = 0 ∨ m = 1) (h : FnInv n L) (hr : Rising L) :
    (tellL m [x, y] [] (insE ⟨1000, [x, y], 9, 9, draw, g, gc, 0, 0⟩ L)).length = n + 1 ∧ Ordd (tellL m [x, y] [] (insE ⟨1000, [x, y], 9, 9, draw, g, gc, 0, 0⟩ L)) ∧
      ∃ j, j < n + 1 ∧ nth (tellL m [x, y] [] (insE ⟨1000, [x, y], 9, 9, draw, g, gc, 0, 0⟩ L)) j = (1000, 0) ∧ ∀ i, i < j → (nth (tellL m [x, y] [] (insE ⟨1000, [x, y], 9, 9, draw, g, gc, 0, 0⟩ L)) i).2 = 0 ∧ (nth (tellL m [x, y] [] (insE ⟨1000, [x, y], 9, 9, draw, g, gc, 0, 0⟩ L)) i).1 ≠ 1000 := by
  have hr2 := rising_insE ⟨1000, [x, y], 9, 9, draw, g, gc, 0, 0⟩ hr
  have hlen : (tellL m [x, y] [] (insE ⟨1000, [x, y], 9, 9, draw, g, gc, 0, 0⟩ L)).length = n + 1 := by
    rw [tellL_len, passL_none]
    exact h.one _ rfl
  have hn := tellL_nodup (m := m) (xs := [x, y]) (F := []) hr2
  refine ⟨hlen, ordd_of (tellL_sorted _ _ _ _) hn, ?_⟩
  have := found_at (tellL_sorted m [x, y] [] (insE ⟨1000, [x, y], 9, 9, draw, g, gc, 0, 0⟩ L)) hn (fun x' hx => by
    obtain ⟨e, _, _, rfl⟩ := tellL_mem.1 hx
    exact distL_nonneg hm _ _) (tellL_mem.2 ⟨_, mem_insE_self _ _, by simp [passB], by simp [distL_self hm]⟩)
  rw [hlen] at this
  exact this

theorem i64_wrap {n : Int} (h : I64 n) : IntKind.i64.wrap n = n := by
  have := i64_bounds h
  rw [IntKind.wrap_i64]
  omega
theorem i64_coord (c : Int) : I64 (coordI c) ∧ -20 ≤ coordI c ∧ coordI c ≤ 20 := by
  have h := pickI_in (c := c) (n := 41) (by omega)
  have e1 : IntKind.i64.min = -9223372036854775808 := by decide
  have e2 : IntKind.i64.max = 9223372036854775807 := by decide
  unfold coordI I64
  simp only [Lit.wf, e1, e2]
  refine ⟨?_, by omega, by omega⟩
  simp
  omega

set_option maxHeartbeats 8000000 in
set_option maxRecDepth 20000 in
theorem found7 (sa : Option Addr) (len cap : Nat) (links metric beam x0 y0 : Int) (draw : Nat) (h1 : I64 links) (h2 : I64 metric) (h3 : I64 beam) (h4 : I64 x0) (h5 : I64 y0) (hdr : draw < 18446744073709551616) (w : World) (hg : Handle w) (hs : KScriptAt w sa len) :
    Calls Tryz.prog 7 #[.slice sa len cap, .int .i64 links, .int .i64 metric, .int .i64 beam, .int .i64 x0, .int .i64 y0, .int .u64 draw] w fun ev w' => ev = .returned (.bool true) ∧ Below w.heap.size w w' := by
  have p1 := pick17 metric 2 h2 (by omega) w
  have im := pickI_in (c := metric) (n := 2) (by omega)
  generalize pickI metric 2 = m at *
  have hm3 : pickI m 3 = m := by unfold pickI; rw [if_neg (by omega)]; omega
  have hM := made18 sa len cap links m beam h1 (i64_small im.1 (by omega)) h3 w hg hs
  have hcm : (keepCf links m beam).metric = m := hm3
  have HM := hide hM
  have HP1 := hide p1
  clear hM p1 hs hm3
  have hcd : (keepCf links m beam).dim = 2 := rfl
  have hcc : (keepCf links m beam).cap = 60 := rfl
  generalize keepCf links m beam = cf at *
  go_enter Tryz.func7, Tryz.ntmps7
  go_wp2_with fail
  refine HP1.out.mono ?_
  rintro ev' w' ⟨rfl, rfl⟩
  go_wp2_with fail
  refine HM.out.mono ?_
  rintro ev w1 ⟨bb, bs, bm, gn0, L0, rfl, hK, h50, hl⟩
  have hn50 := h50.len hK.base.map.rising
  have HF0 : Hid (FnInv L0.length L0) := FnInv.first h50 hK.base.map.rising
  have HK0 := hide hK
  have HL0 := hide hl
  clear hK hl h50 HM HP1
  go_wp2_with fail
  refine (count15_any bb bs bm _ _ _ _ HK0.out.base).mono ?_
  rintro ev' w' ⟨rfl, rfl⟩
  go_wp2
  go_loopw [4, 5, 17, 18, 19, 20, 21, 22] (fun xv yv tv _ _ _ _ _ wr => ∃ (t : Nat) (x y : Int) (L : List Ent) (gn : Net), t ≤ 2 ∧ xv = .int .i64 x ∧ yv = .int .i64 y ∧ tv = .int .i64 t ∧ I64 x ∧ I64 y ∧ (t = 0 ∨ (-20 ≤ x ∧ x ≤ 20)) ∧ Hid (KB w wr bb bs bm cf gn L) ∧ Hid (FnInv L0.length L) ∧ Hid (0 ≤ gn.looks ∧ gn.looks ≤ 60 + 60 * t)) (fun _ _ tv _ _ _ _ _ _ => 2 - (intOf tv).toNat)
  case atStart => exact ⟨0, x0, y0, L0, gn0, by omega, rfl, rfl, rfl, h4, h5, .inl rfl, HK0.out, HF0.out, by have := HL0.out; show _ ∧ _; omega⟩
  case round =>
    obtain ⟨t, x, y, L, gn, ht, rfl, rfl, rfl, hx, hy, hxt, HK, HF, HL⟩ := hrel
    by_cases hlt : t < 2
    · have hI7 : I64 (x + 7 * t) := by
        rcases hxt with rfl | hxt
        · simp only [Int.natCast_zero, Int.mul_zero, Int.add_zero]
          exact hx
        · have e1 : IntKind.i64.min = -9223372036854775808 := by decide
          have e2 : IntKind.i64.max = 9223372036854775807 := by decide
          unfold I64; simp only [Lit.wf, e1, e2]; simp; omega
      have e8 : wrap64 (x + 7 * t) = x + 7 * t := by unfold wrap64; have := i64_bounds hI7; omega
      have hcx := fun W => coord20 (x + 7 * t) hI7 W
      have hcy := fun W => coord20 y hy W
      have hX := coordI_crd (x + 7 * t)
      have hY := coordI_crd y
      have hX2 := i64_coord (x + 7 * t)
      have hY2 := i64_coord y
      generalize coordI (x + 7 * t) = X at hcx hX hX2
      generalize coordI y = Y at hcy hY hY2
      have HCX := hide hcx
      have HCY := hide hcy
      clear hcx hcy hI7
      go_wp2_with fail
      refine (HCX.out _).mono ?_
      rintro ev' w' ⟨rfl, rfl⟩
      go_wp2_with fail
      refine (HCY.out _).mono ?_
      rintro ev' w' ⟨rfl, rfl⟩
      go_wp2_with fail
      obtain ⟨w3, hw3⟩ : ∃ w3, w3 = wr.alloc (.cells #[.int .i64 X, .int .i64 Y] 3) := ⟨_, rfl⟩
      have hA : Pts w3 wr.heap.size 2 [X, Y] := two_row (by rw [hw3]; exact heap_alloc_new _ _)
      have hK3 : KB w w3 bb bs bm cf gn L := hw3 ▸ HK.out.alloc _
      rw [← hw3]
      clear hw3
      refine (putK 1000 9 9 draw X Y wr.heap.size (i64_small (by omega) (by omega)) hdr hK3 hcd hX hY (by rw [hcc]; exact HF.out.room) hA).mono ?_
      rintro ev w4 ⟨rfl, g, gc, gn4, hK4, _, _, hl4⟩
      have hfn := HF.out.next hK3.base.map.rising ⟨1000, [X, Y], 9, 9, draw, g, gc, 0, 0⟩ rfl
      have hft := found_tell (x := X) (y := Y) (draw := draw) (g := g) (gc := gc) (show m = 0 ∨ m = 1 by omega) HF.out hK3.base.map.rising
      have hone := HF.out.one ⟨1000, [X, Y], 9, 9, draw, g, gc, 0, 0⟩ rfl
      rw [← hcm] at hft
      generalize insE ⟨1000, [X, Y], 9, 9, draw, g, gc, 0, 0⟩ L = L4 at *
      have hl44 : 0 ≤ gn4.looks ∧ gn4.looks ≤ 60 + 60 * t := by rw [hl4]; exact HL.out
      have HK4 := hide hK4
      have HFN := hide hfn
      have HFT := hide hft
      have HL4 := hide hl44
      clear hK4 hK3 hA hfn hft hl4 hl44
      go_wp2_with fail
      refine (all22 X Y (.slice none 0 0) [] w4 HK4.out hcd hX hY (filt_none _) (by decide) (by have := HL4.out; omega)).mono ?_
      rintro ev w5 ⟨v, n5, rfl, hr5, _, hK5, _, hn5⟩
      obtain ⟨f1, f2, j, hj, f3, f4⟩ := HFT.out
      generalize tellL cf.metric [X, Y] [] L4 = l at *
      obtain ⟨va, vc, rfl, hva⟩ := HRow.slice hr5
      obtain ⟨vg, rfl⟩ := hva (by omega)
      have hl55 : 0 ≤ n5 ∧ n5 ≤ 60 + 60 * ((t + 1 : Nat) : Int) := by have := HL4.out; omega
      have hor := ordered23 _ l w5 hr5 f2 (by omega)
      have HK5 := hide hK5
      have HR5 := hide hr5
      have HL5 := hide hl55
      have HOR := hide hor
      have HF3 := hide f3
      have HF4 := hide f4
      clear hK5 hr5 hl55 hor f2 f3 f4 HFT hva hn5
      have hcn := count15_any bb bs bm cf _ L4 w5 HK5.out.base
      have HCN := hide hcn
      clear hcn
      rw [hone, ← f1] at HCN
      have F1 : Hid ((l.length : Int) = (L0.length : Int) + 1) := by show _ = _; omega
      have hjl : j < l.length := by omega
      have hll : l.length ≤ 51 := by omega
      clear f1 hone hj
      go_wp2_with fail
      refine HCN.out.mono ?_
      rintro ev' w' ⟨rfl, rfl⟩
      go_wp2_with fail
      refine HOR.out.mono ?_
      rintro ev w6 ⟨rfl, hb6⟩
      have hR6 := ownsRow_below HR5.out hb6
      have hK6 := HK5.out.below hb6
      have HR6 := hide hR6
      have HK6 := hide hK6
      clear hR6 hK6 hb6 HOR HCN HK5 HR5
      go_wp2
      go_loop [22] (fun iv => ∃ k : Nat, iv = .int .i64 k ∧ k ≤ j) (fun iv => j - (intOf iv).toNat)
      case atStart => exact ⟨0, rfl, Nat.zero_le _⟩
      case round =>
        obtain ⟨k, rfl, hk⟩ := hrel
        have y0 := HRow.at0 HR6.out (k := k) (by omega)
        have y1 := HRow.at1 HR6.out (k := k) (by omega)
        by_cases hkj : k < j
        · obtain ⟨q1, q2⟩ := HF4.out k hkj
          generalize nth l k = z at y0 y1 q1 q2
          obtain ⟨zi, zd⟩ := z
          simp only at q1 q2 y0 y1
          subst q1
          have hd : (zi == 1000) = false := by simpa using q2
          have hd2 : (zi != 1000) = true := by simpa using q2
          have hk0 : k < L0.length := by have := F1.out; omega
          go_wp2
          exact ⟨⟨k + 1, by go_num, by omega⟩, by simp [intOf]; omega⟩
        · obtain rfl : k = j := by omega
          rw [HF3.out] at y0 y1
          simp only at y0 y1
          go_wp2
          exact ⟨⟨t + 1, X, Y, L4, _, by omega, rfl, rfl, by go_num, hX2.1, hY2.1, .inr hX2.2, HK6.out, HFN.out, HL5.out⟩, by simp [intOf]; omega⟩
    · obtain rfl : t = 2 := by omega
      go_wp2
      go_ret
      exact ⟨rfl, HK.out.old⟩
end Go.Proofs.YtpkiefjanmfgfaaGreatDoor
namespace Go.Proofs.YtpkiefjanmfgfaaGreatDoor
open Go.ChangeShapes Go.WideShapes Go.ChangeAt Go.RowKit

/-- What the row's list gives: the variable's one cell. -/
theorem handle_found {W : World} (h : laidMetH Tryz.prog Rows.foundRow.laid W) : Handle W := by
  have h' : laidMet Tryz.prog [] W ∧ handlesMet Tryz.prog Rows.foundRow.laid W := h
  obtain ⟨name, u, ty, e1, e2, e3, e4, e5⟩ := h'.2 _ (List.mem_singleton.2 rfl)
  have en : name = [101, 114, 114, 111, 114] := (Option.some.inj e1).symm
  subst en
  obtain rfl := Option.some.inj (rtypeRow.symm.trans e2)
  have hm : ty ∈ (List.range 313).filter fun t => Tryz.prog.rowNamed t [101, 114, 114, 111, 114] := List.mem_filter.2 ⟨List.mem_range.2 (by rw [← typesSize]; exact e3), e4⟩
  rw [errRow] at hm
  obtain rfl := List.mem_singleton.1 hm
  have hh : typeHandle Tryz.prog 104 = .pointer (some ⟨1, 104, none⟩) := by kernel_rfl
  rw [hh] at e5
  unfold Handle
  simpa using World.var?_cell errVar e5 0

set_option maxRecDepth 100000 in
/-- The law, from what came in to what it leaves. -/
theorem found_contract (H : Type) (enc : TypeId × Value → H) (W : World) (base : Nat) (args : Array Value) (ds gs : List (DataW H)) (before : List MemPlace)
    (hval : ∀ (j : Nat) t v, Tryz.f7.params[j]? = some t → args[j]? = some v → Value.okWide Tryz.prog W .any base t v)
    (hW : DataW.Whole enc Tryz.prog Tryz.f7.params.toList Rows.foundSpec.vars false W args.toList ds gs before)
    (hz : (DataW.weightsEach Tryz.prog (Tryz.f7.params.toList ++ Rows.foundSpec.plain.varTypes Tryz.prog) (ds ++ gs)).all (· ≤ reachBytes) = true) (hL : laidMetH Tryz.prog Rows.foundRow.laid W) :
    Calls Tryz.prog 7 args W fun e W' => ∃ v, e = .returned v ∧ Rows.foundSpec.post enc Tryz.prog Tryz.f7 false true false false W args v W' := by
  have hW' := hW
  obtain ⟨p, q, hA0, hV, rfl, hfz, hnd⟩ := hW
  have hA : DataW.TrodAll enc Tryz.prog W 0 (fun _ => true) true Tryz.f7.params.toList args.toList ds p := hA0
  rw [Tryz.params7] at hA hval hz
  obtain ⟨v0, vs0, d0, ds0, p0, q0, hargs, rfl, rfl, h0, r0⟩ := trodAll_cons hA
  obtain ⟨v1, vs1, d1, ds1, p1, q1, rfl, rfl, rfl, h1, r1⟩ := trodAll_cons r0
  obtain ⟨v2, vs2, d2, ds2, p2, q2, rfl, rfl, rfl, h2, r2⟩ := trodAll_cons r1
  obtain ⟨v3, vs3, d3, ds3, p3, q3, rfl, rfl, rfl, h3, r3⟩ := trodAll_cons r2
  obtain ⟨v4, vs4, d4, ds4, p4, q4, rfl, rfl, rfl, h4, r4⟩ := trodAll_cons r3
  obtain ⟨v5, vs5, d5, ds5, p5, q5, rfl, rfl, rfl, h5, r5⟩ := trodAll_cons r4
  obtain ⟨v6, vs6, d6, ds6, p6, q6, rfl, rfl, rfl, h6, r6⟩ := trodAll_cons r5
  obtain ⟨rfl, rfl, rfl⟩ := trodAll_nil r6
  obtain rfl : args = #[v0, v1, v2, v3, v4, v5, v6] := by cases args; simp_all
  obtain ⟨rfl, rfl⟩ := trodVars_none hV
  have hlt := hW'.lt
  obtain ⟨sa, len, cap, rfl, hs⟩ := kscript_open (hval 0 51 v0 rfl rfl) h0 (fun k hk => by
    have := List.all_eq_true.1 hz k (DataW.weights_mem_each (j := 0) rfl rfl k hk)
    simpa using this)
  obtain ⟨a1, rfl, w1⟩ := int_open (hval 1 3 v1 rfl rfl) h1
  obtain ⟨a2, rfl, w2⟩ := int_open (hval 2 3 v2 rfl rfl) h2
  obtain ⟨a3, rfl, w3⟩ := int_open (hval 3 3 v3 rfl rfl) h3
  obtain ⟨a4, rfl, w4⟩ := int_open (hval 4 3 v4 rfl rfl) h4
  obtain ⟨a5, rfl, w5⟩ := int_open (hval 5 3 v5 rfl rfl) h5
  obtain ⟨a6, rfl, w6⟩ := u64_open (hval 6 44 v6 rfl rfl) h6
  refine (found7 sa len cap a1 a2 a3 a4 a5 a6 w1 w2 w3 w4 w5 w6 W (handle_found hL) hs).mono fun e W' ⟨he, hb⟩ => ?_
  subst he
  refine ⟨_, rfl, _, _, _, [], p0 ++ (p1 ++ (p2 ++ (p3 ++ (p4 ++ (p5 ++ (p6 ++ [])))))), [], hW', ?_, ?_, ?_, hb.frame _, fun h => by cases h⟩
  · exact trodAll_cons_mk (shut_bool Tryz.underlying4 _) trodAll_mk0
  · exact (trodAll_cons_mk (Below.trod laidOut read51 (by rw [typesSize]; decide) h0 hb (fun x hx => hlt x (by simp [hx]))) (trodAll_cons_mk (Below.trod laidOut read3 (by rw [typesSize]; decide) h1 hb (fun x hx => hlt x (by simp [hx]))) (trodAll_cons_mk (Below.trod laidOut read3 (by rw [typesSize]; decide) h2 hb (fun x hx => hlt x (by simp [hx]))) (trodAll_cons_mk (Below.trod laidOut read3 (by rw [typesSize]; decide) h3 hb (fun x hx => hlt x (by simp [hx]))) (trodAll_cons_mk (Below.trod laidOut read3 (by rw [typesSize]; decide) h4 hb (fun x hx => hlt x (by simp [hx]))) (trodAll_cons_mk (Below.trod laidOut read3 (by rw [typesSize]; decide) h5 hb (fun x hx => hlt x (by simp [hx]))) (trodAll_cons_mk (Below.trod laidOut read44 (by rw [typesSize]; decide) h6 hb (fun x hx => hlt x (by simp [hx]))) trodAll_mk0)))))))
  · rfl

noncomputable def foundArgs : Array Value := #[.slice none 0 0, .int .i64 0, .int .i64 0, .int .i64 0, .int .i64 0, .int .i64 0, .int .u64 0]
theorem found_met (os : Os) : laidMetH Tryz.prog Rows.foundRow.laid ((laidWorld os).forCall (fun _ _ => 0) ⟨#[], foundArgs, []⟩).memory :=
  laidMetH_of_parts (laidMet_nil _ _) (by kernel_rfl)
theorem found_reads (os : Os) {H : Type} (enc : TypeId × Value → H) : ∃ places, DataW.whole enc Tryz.prog ((laidWorld os).forCall (fun _ _ => 0) ⟨#[], foundArgs, []⟩).memory Tryz.f7.params.toList Rows.foundSpec.vars false foundArgs.toList 8 = some ([.nil, .lit (.int .i64 0), .lit (.int .i64 0), .lit (.int .i64 0), .lit (.int .i64 0), .lit (.int .i64 0), .lit (.int .u64 0)], [], places) :=
  ⟨[], by kernel_rfl⟩

set_option maxRecDepth 100000 in
theorem found_lifted (os : Os) (started : os.Started) (H : Type) (enc : TypeId × Value → H) (F : Stop.Interp) :
    ReturnsInHanded {} Tryz.checked os 7 .any ((OpenSpec.ofChange Rows.foundSpec).preRow enc Tryz.prog Tryz.f7 Rows.foundRow.domain false Rows.foundRow.laid) (((OpenSpec.ofChange Rows.foundSpec).at F).post enc Tryz.prog Tryz.f7 false true false false) := by
  obtain ⟨places, hx⟩ := found_reads os enc
  refine returnsInHanded_of_row (C := Tryz.checked) (s := OpenSpec.ofChange Rows.foundSpec) knob started (by kernel_rfl) Tryz.func7
    (witness_row_at (enc := enc) (C := Tryz.checked) false (laidWorld os) foundArgs rfl (by kernel_rfl) (by kernel_rfl) (by kernel_rfl)
      (OpenSpec.preRow_of_cond 8 hx (by kernel_rfl) (fun k hk => by cases hk) (by kernel_rfl) (found_met os))) ?_
  intro W base args ds gs before hval hW _ _ hz hL _ _
  exact found_contract H enc W base args ds gs before hval hW hz hL

set_option maxRecDepth 100000 in
theorem found_said : Rows.FoundSaid :=
  OpenClaim.holds_of_cond 7 Tryz.f7 rfl rfl rfl rfl rfl rfl rfl ⟨rfl, rfl, rfl, rfl, rfl⟩ rfl rfl rfl rfl rfl (by kernel_rfl) Tryz.func7 (by kernel_rfl)
    (of_decide_eq_true (by kernel_rfl)) (by unfold Func.isWrapper; first | (rw [if_pos (by decide +kernel)]; kernel_rfl) | (rw [if_neg (by decide +kernel)]; exact ⟨rfl, rfl⟩))
    (fun os started H enc _ F => by rw [OpenClaim.pre_eq_preRow]; exact found_lifted os started H enc F)

/-- No parameter wants a stand-in; the program's own looks are on: what the card asks. -/
theorem found_plain (f : FuncId) (fn : Func) (hf : Tryz.pinned.checked.prog.funcNamed "nearby/nearbykeep.Found" = some f) (hfn : Tryz.pinned.checked.prog.funcs[f]? = some fn) :
    true = Tryz.pinned.checked.prog.looks [] ∧ ∀ (j : Nat) t, fn.params[j]? = some t → Tryz.pinned.checked.prog.wantsStandIn t = false := by
  obtain rfl : f = 7 := Option.some.inj ((show Tryz.prog.funcNamed "nearby/nearbykeep.Found" = some 7 by kernel_rfl).symm.trans hf) |>.symm
  obtain rfl : fn = Tryz.f7 := (Option.some.inj (Tryz.func7.symm.trans hfn)).symm
  refine ⟨by kernel_rfl, fun j t ht => ?_⟩
  rw [Tryz.params7] at ht
  have hm := Array.mem_of_getElem? ht
  simp at hm
  rcases hm with rfl | rfl | rfl
  · exact (show Tryz.prog.wantsStandIn 51 = false by kernel_rfl)
  · exact (show Tryz.prog.wantsStandIn 3 = false by kernel_rfl)
  · exact (show Tryz.prog.wantsStandIn 44 = false by kernel_rfl)

/-- The card. -/
theorem found_card : Rows.FoundCardSaid :=
  Claim7.holds_tied_plain_at .later [] _ _ _ _ found_said (fun _ h => by cases h) (by kernel_rfl) (fun _ h => by cases h) found_row_tie rfl ⟨rfl, rfl⟩ (by kernel_rfl) rfl found_plain (by kernel_rfl)
#print axioms found_card
end Go.Proofs.YtpkiefjanmfgfaaGreatDoor
