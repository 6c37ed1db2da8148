import Derived.Test.YtpkiefjanmfgfaaGreatDoorSea25
namespace Go.Proofs.YtpkiefjanmfgfaaGreatDoor
open Go.RowKit Go.Maps

theorem partI_nonneg {m a b : Int} (hm : m = 0 ∨ m = 1) : 0 ≤ partI m a b := by
  unfold partI
  rcases hm with rfl | rfl
  · simp only [if_true]
    rcases Int.le_total 0 (a - b) with h | h
    · exact Int.mul_nonneg h h
    · exact Int.mul_nonneg_of_nonpos_of_nonpos h h
  · simp only [show ¬ (1 : Int) = 0 by omega, if_false, if_true]
    omega
theorem distL_nonneg {m : Int} (hm : m = 0 ∨ m = 1) : ∀ p q : List Int, 0 ≤ distL m p q
  | a :: p, b :: q => by
    have := distL_nonneg hm p q
    have := partI_nonneg (a := a) (b := b) hm
    simp only [distL]
    omega
  | [], _ => by simp [distL]
  | _ :: _, [] => by simp [distL]
theorem distL_self {m : Int} (hm : m = 0 ∨ m = 1) : ∀ p : List Int, distL m p p = 0
  | a :: p => by
    have h1 := distL_self hm p
    have h2 : partI m a a = 0 := by
      unfold partI
      rcases hm with rfl | rfl <;> simp
    simp only [distL, h1, h2]
    rfl
  | [] => by simp [distL]
/-- Where the entry at the asked point stands: behind none but others at its own point. -/
theorem found_at {l : List Hit} (hs : l.Pairwise hle) (hn : (l.map (·.1)).Nodup) (h0 : ∀ x ∈ l, 0 ≤ x.2) (hm : (1000, 0) ∈ l) : ∃ j, j < l.length ∧ nth l j = (1000, 0) ∧ ∀ i, i < j → (nth l i).2 = 0 ∧ (nth l i).1 ≠ 1000 := by
  obtain ⟨j, hj, he⟩ := List.mem_iff_getElem.1 hm
  have en : ∀ i (hi : i < l.length), nth l i = l[i] := fun i hi => by simp [nth, List.getD_eq_getElem?_getD, hi]
  refine ⟨j, hj, (en j hj).trans he, fun i hi => ?_⟩
  have hil : i < l.length := by omega
  have h1 := (List.pairwise_iff_getElem.1 hs) i j hil hj hi
  have h2 := (List.pairwise_iff_getElem.1 hn) i j (by simpa using hil) (by simpa using hj) hi
  have h3 := h0 l[i] (List.getElem_mem hil)
  rw [en i hil]
  rw [he] at h1
  simp only [List.getElem_map, he] at h2
  unfold hle at h1
  simp only at h1
  exact ⟨by omega, h2⟩
theorem passL_none (L : List Ent) : passL [] L = L := by
  unfold passL
  refine List.filter_eq_self.2 fun e _ => ?_
  simp [passB]
theorem mem_insE_self (x : Ent) : ∀ L : List Ent, x ∈ insE x L
  | [] => by simp [insE]
  | y :: r => by
    unfold insE
    split
    · simp
    · split
      · simp
      · exact List.mem_cons_of_mem _ (mem_insE_self x r)

/-- What 'Found' keeps: n entries beside the one numbered 1000. -/
structure FnInv (n : Nat) (L : List Ent) : Prop where
  one : ∀ e : Ent, e.id = 1000 → (insE e L).length = n + 1
  room : Room 60 1000 L
theorem FnInv.first {L : List Ent} (h : K50 L) (hr : Rising L) : FnInv L.length L := by
  have hf : findE 1000 L = none := by
    cases he : findE 1000 L with
    | none => rfl
    | some e =>
      have h1 := findE_mem he
      have := h e h1.1
      omega
  exact ⟨fun e he => length_insE_none e (by rw [he]; exact hf), .inr (by have := h.len hr; omega)⟩
theorem FnInv.next {n : Nat} {L : List Ent} (h : FnInv n L) (hr : Rising L) (e : Ent) (he : e.id = 1000) : FnInv n (insE e L) := by
  have hf : findE 1000 (insE e L) = some e := by rw [← he]; exact findE_ins_self
  refine ⟨fun x hx => ?_, .inl (by rw [hf]; rfl)⟩
  rw [length_insE_some x (rising_insE e hr) (e := e) (by rw [hx]; exact hf)]
  exact h.one e he
/-- What is told behind the put. -/
theorem found_tell {n : Nat} {L : List Ent} {m x y : Int} {draw g gc : Nat} (hm : m = 0 ∨ m = 1) (h : FnInv n L) (hr : Rising L) :
    (tellL m [x, y] [] (insE ⟨1000, [x, y], 9, 9, draw, g, gc, 0, 0⟩ L)).length = n + 1 ∧ Ordd (tellL m [x, y] [] (insE ⟨1000, [x, y], 9, 9, draw, g, gc, 0, 0⟩ L)) ∧
      ∃ j, j < n + 1 ∧ nth (tellL m [x, y] [] (insE ⟨1000, [x, y], 9, 9, draw, g, gc, 0, 0⟩ L)) j = (1000, 0) ∧ ∀ i, i < j → (nth (tellL m [x, y] [] (insE ⟨1000, [x, y], 9, 9, draw, g, gc, 0, 0⟩ L)) i).2 = 0 ∧ (nth (tellL m [x, y] [] (insE ⟨1000, [x, y], 9, 9, draw, g, gc, 0, 0⟩ L)) i).1 ≠ 1000 := by
  have hr2 := rising_insE ⟨1000, [x, y], 9, 9, draw, g, gc, 0, 0⟩ hr
  have hlen : (tellL m [x, y] [] (insE ⟨1000, [x, y], 9, 9, draw, g, gc, 0, 0⟩ L)).length = n + 1 := by
    rw [tellL_len, passL_none]
    exact h.one _ rfl
  have hn := tellL_nodup (m := m) (xs := [x, y]) (F := []) hr2
  refine ⟨hlen, ordd_of (tellL_sorted _ _ _ _) hn, ?_⟩
  have := found_at (tellL_sorted m [x, y] [] (insE ⟨1000, [x, y], 9, 9, draw, g, gc, 0, 0⟩ L)) hn (fun x' hx => by
    obtain ⟨e, _, _, rfl⟩ := tellL_mem.1 hx
    exact distL_nonneg hm _ _) (tellL_mem.2 ⟨_, mem_insE_self _ _, by simp [passB], by simp [distL_self hm]⟩)
  rw [hlen] at this
  exact this

theorem i64_wrap {n : Int} (h : I64 n) : IntKind.i64.wrap n = n := by
  have := i64_bounds h
  rw [IntKind.wrap_i64]
  omega
theorem i64_coord (c : Int) : I64 (coordI c) ∧ -20 ≤ coordI c ∧ coordI c ≤ 20 := by
  have h := pickI_in (c := c) (n := 41) (by omega)
  have e1 : IntKind.i64.min = -9223372036854775808 := by decide
  have e2 : IntKind.i64.max = 9223372036854775807 := by decide
  unfold coordI I64
  simp only [Lit.wf, e1, e2]
  refine ⟨?_, by omega, by omega⟩
  simp
  omega

set_option maxHeartbeats 8000000 in
set_option maxRecDepth 20000 in
theorem found7 (sa : Option Addr) (len cap : Nat) (links metric beam x0 y0 : Int) (draw : Nat) (h1 : I64 links) (h2 : I64 metric) (h3 : I64 beam) (h4 : I64 x0) (h5 : I64 y0) (hdr : draw < 18446744073709551616) (w : World) (hg : Handle w) (hs : KScriptAt w sa len) :
    Calls Tryz.prog 7 #[.slice sa len cap, .int .i64 links, .int .i64 metric, .int .i64 beam, .int .i64 x0, .int .i64 y0, .int .u64 draw] w fun ev w' => ev = .returned (.bool true) ∧ Below w.heap.size w w' := by
  have p1 := pick17 metric 2 h2 (by omega) w
  have im := pickI_in (c := metric) (n := 2) (by omega)
  generalize pickI metric 2 = m at *
  have hm3 : pickI m 3 = m := by unfold pickI; rw [if_neg (by omega)]; omega
  have hM := made18 sa len cap links m beam h1 (i64_small im.1 (by omega)) h3 w hg hs
  have hcm : (keepCf links m beam).metric = m := hm3
  have HM := hide hM
  have HP1 := hide p1
  clear hM p1 hs hm3
  have hcd : (keepCf links m beam).dim = 2 := rfl
  have hcc : (keepCf links m beam).cap = 60 := rfl
  generalize keepCf links m beam = cf at *
  go_enter Tryz.func7, Tryz.ntmps7
  go_wp2_with fail
  refine HP1.out.mono ?_
  rintro ev' w' ⟨rfl, rfl⟩
  go_wp2_with fail
  refine HM.out.mono ?_
  rintro ev w1 ⟨bb, bs, bm, gn0, L0, rfl, hK, h50, hl⟩
  have hn50 := h50.len hK.base.map.rising
  have HF0 : Hid (FnInv L0.length L0) := FnInv.first h50 hK.base.map.rising
  have HK0 := hide hK
  have HL0 := hide hl
  clear hK hl h50 HM HP1
  go_wp2_with fail
  refine (count15_any bb bs bm _ _ _ _ HK0.out.base).mono ?_
  rintro ev' w' ⟨rfl, rfl⟩
  go_wp2
  go_loopw [4, 5, 17, 18, 19, 20, 21, 22] (fun xv yv tv _ _ _ _ _ wr => ∃ (t : Nat) (x y : Int) (L : List Ent) (gn : Net), t ≤ 2 ∧ xv = .int .i64 x ∧ yv = .int .i64 y ∧ tv = .int .i64 t ∧ I64 x ∧ I64 y ∧ (t = 0 ∨ (-20 ≤ x ∧ x ≤ 20)) ∧ Hid (KB w wr bb bs bm cf gn L) ∧ Hid (FnInv L0.length L) ∧ Hid (0 ≤ gn.looks ∧ gn.looks ≤ 60 + 60 * t)) (fun _ _ tv _ _ _ _ _ _ => 2 - (intOf tv).toNat)
  case atStart => exact ⟨0, x0, y0, L0, gn0, by omega, rfl, rfl, rfl, h4, h5, .inl rfl, HK0.out, HF0.out, by have := HL0.out; show _ ∧ _; omega⟩
  case round =>
    obtain ⟨t, x, y, L, gn, ht, rfl, rfl, rfl, hx, hy, hxt, HK, HF, HL⟩ := hrel
    by_cases hlt : t < 2
    · have hI7 : I64 (x + 7 * t) := by
        rcases hxt with rfl | hxt
        · simp only [Int.natCast_zero, Int.mul_zero, Int.add_zero]
          exact hx
        · have e1 : IntKind.i64.min = -9223372036854775808 := by decide
          have e2 : IntKind.i64.max = 9223372036854775807 := by decide
          unfold I64; simp only [Lit.wf, e1, e2]; simp; omega
      have e8 : wrap64 (x + 7 * t) = x + 7 * t := by unfold wrap64; have := i64_bounds hI7; omega
      have hcx := fun W => coord20 (x + 7 * t) hI7 W
      have hcy := fun W => coord20 y hy W
      have hX := coordI_crd (x + 7 * t)
      have hY := coordI_crd y
      have hX2 := i64_coord (x + 7 * t)
      have hY2 := i64_coord y
      generalize coordI (x + 7 * t) = X at hcx hX hX2
      generalize coordI y = Y at hcy hY hY2
      have HCX := hide hcx
      have HCY := hide hcy
      clear hcx hcy hI7
      go_wp2_with fail
      refine (HCX.out _).mono ?_
      rintro ev' w' ⟨rfl, rfl⟩
      go_wp2_with fail
      refine (HCY.out _).mono ?_
      rintro ev' w' ⟨rfl, rfl⟩
      go_wp2_with fail
      obtain ⟨w3, hw3⟩ : ∃ w3, w3 = wr.alloc (.cells #[.int .i64 X, .int .i64 Y] 3) := ⟨_, rfl⟩
      have hA : Pts w3 wr.heap.size 2 [X, Y] := two_row (by rw [hw3]; exact heap_alloc_new _ _)
      have hK3 : KB w w3 bb bs bm cf gn L := hw3 ▸ HK.out.alloc _
      rw [← hw3]
      clear hw3
      refine (putK 1000 9 9 draw X Y wr.heap.size (i64_small (by omega) (by omega)) hdr hK3 hcd hX hY (by rw [hcc]; exact HF.out.room) hA).mono ?_
      rintro ev w4 ⟨rfl, g, gc, gn4, hK4, _, _, hl4⟩
      have hfn := HF.out.next hK3.base.map.rising ⟨1000, [X, Y], 9, 9, draw, g, gc, 0, 0⟩ rfl
      have hft := found_tell (x := X) (y := Y) (draw := draw) (g := g) (gc := gc) (show m = 0 ∨ m = 1 by omega) HF.out hK3.base.map.rising
      have hone := HF.out.one ⟨1000, [X, Y], 9, 9, draw, g, gc, 0, 0⟩ rfl
      rw [← hcm] at hft
      generalize insE ⟨1000, [X, Y], 9, 9, draw, g, gc, 0, 0⟩ L = L4 at *
      have hl44 : 0 ≤ gn4.looks ∧ gn4.looks ≤ 60 + 60 * t := by rw [hl4]; exact HL.out
      have HK4 := hide hK4
      have HFN := hide hfn
      have HFT := hide hft
      have HL4 := hide hl44
      clear hK4 hK3 hA hfn hft hl4 hl44
      go_wp2_with fail
      refine (all22 X Y (.slice none 0 0) [] w4 HK4.out hcd hX hY (filt_none _) (by decide) (by have := HL4.out; omega)).mono ?_
      rintro ev w5 ⟨v, n5, rfl, hr5, _, hK5, _, hn5⟩
      obtain ⟨f1, f2, j, hj, f3, f4⟩ := HFT.out
      generalize tellL cf.metric [X, Y] [] L4 = l at *
      obtain ⟨va, vc, rfl, hva⟩ := HRow.slice hr5
      obtain ⟨vg, rfl⟩ := hva (by omega)
      have hl55 : 0 ≤ n5 ∧ n5 ≤ 60 + 60 * ((t + 1 : Nat) : Int) := by have := HL4.out; omega
      have hor := ordered23 _ l w5 hr5 f2 (by omega)
      have HK5 := hide hK5
      have HR5 := hide hr5
      have HL5 := hide hl55
      have HOR := hide hor
      have HF3 := hide f3
      have HF4 := hide f4
      clear hK5 hr5 hl55 hor f2 f3 f4 HFT hva hn5
      have hcn := count15_any bb bs bm cf _ L4 w5 HK5.out.base
      have HCN := hide hcn
      clear hcn
      rw [hone, ← f1] at HCN
      have F1 : Hid ((l.length : Int) = (L0.length : Int) + 1) := by show _ = _; omega
      have hjl : j < l.length := by omega
      have hll : l.length ≤ 51 := by omega
      clear f1 hone hj
      go_wp2_with fail
      refine HCN.out.mono ?_
      rintro ev' w' ⟨rfl, rfl⟩
      go_wp2_with fail
      refine HOR.out.mono ?_
      rintro ev w6 ⟨rfl, hb6⟩
      have hR6 := ownsRow_below HR5.out hb6
      have hK6 := HK5.out.below hb6
      have HR6 := hide hR6
      have HK6 := hide hK6
      clear hR6 hK6 hb6 HOR HCN HK5 HR5
      go_wp2
      go_loop [22] (fun iv => ∃ k : Nat, iv = .int .i64 k ∧ k ≤ j) (fun iv => j - (intOf iv).toNat)
      case atStart => exact ⟨0, rfl, Nat.zero_le _⟩
      case round =>
        obtain ⟨k, rfl, hk⟩ := hrel
        have y0 := HRow.at0 HR6.out (k := k) (by omega)
        have y1 := HRow.at1 HR6.out (k := k) (by omega)
        by_cases hkj : k < j
        · obtain ⟨q1, q2⟩ := HF4.out k hkj
          generalize nth l k = z at y0 y1 q1 q2
          obtain ⟨zi, zd⟩ := z
          simp only at q1 q2 y0 y1
          subst q1
          have hd : (zi == 1000) = false := by simpa using q2
          have hd2 : (zi != 1000) = true := by simpa using q2
          have hk0 : k < L0.length := by have := F1.out; omega
          go_wp2
          exact ⟨⟨k + 1, by go_num, by omega⟩, by simp [intOf]; omega⟩
        · obtain rfl : k = j := by omega
          rw [HF3.out] at y0 y1
          simp only at y0 y1
          go_wp2
          exact ⟨⟨t + 1, X, Y, L4, _, by omega, rfl, rfl, by go_num, hX2.1, hY2.1, .inr hX2.2, HK6.out, HFN.out, HL5.out⟩, by simp [intOf]; omega⟩
    · obtain rfl : t = 2 := by omega
      go_wp2
      go_ret
      exact ⟨rfl, HK.out.old⟩
end Go.Proofs.YtpkiefjanmfgfaaGreatDoor
namespace Go.Proofs.YtpkiefjanmfgfaaGreatDoor
open Go.RowKit Go.Maps

/-- What a search can know of an entry. -/
def keyE (e : Ent) : Int × List Int × Int × Int := (e.id, e.pt, e.t0, e.t1)
theorem hitsL_key {m : Int} {xs : List Int} {F : List (List Cnd)} {L M : List Ent} (h : L.map keyE = M.map keyE) : hitsL m xs F L = hitsL m xs F M := by
  have e : ∀ X : List Ent, hitsL m xs F X = ((X.map keyE).filter fun k => passB F k.2.2.1 k.2.2.2).map fun k => (k.1, distL m xs k.2.1) := fun X => by
    unfold hitsL
    rw [List.filter_map, List.map_map]
    rfl
  rw [e, e, h]
theorem tellL_key {m : Int} {xs : List Int} {F : List (List Cnd)} {L M : List Ent} (h : L.map keyE = M.map keyE) : tellL m xs F L = tellL m xs F M := by
  unfold tellL
  rw [hitsL_key h]
/-- Those from a number on. -/
def fromE (i : Int) (L : List Ent) : List Ent := L.filter fun e => decide (i ≤ e.id)
theorem from_none {i : Int} {L : List Ent} (h : findE i L = none) : fromE i L = fromE (i + 1) L := by
  unfold fromE
  refine List.filter_congr fun e he => ?_
  have h1 : ¬ e.id = i := by
    have := List.find?_eq_none.1 h e he
    simpa using this
  by_cases h2 : i ≤ e.id
  · simp [h2, show i + 1 ≤ e.id by omega]
  · simp [h2, show ¬ i + 1 ≤ e.id by omega]
theorem from_some {i : Int} : ∀ {L : List Ent} {e : Ent}, Rising L → findE i L = some e → fromE i L = e :: fromE (i + 1) L
  | [], e, _, h => by cases h
  | x :: r, e, hr, h => by
    obtain ⟨h1, h2⟩ := List.pairwise_cons.1 hr
    by_cases hx : x.id = i
    · have he : x = e := by simpa [findE, hx] using h
      subst he
      have h3 : fromE i r = fromE (i + 1) r := by
        unfold fromE
        refine List.filter_congr fun y hy => ?_
        have := h1 y hy
        simp [show i ≤ y.id by omega, show i + 1 ≤ y.id by omega]
      unfold fromE at h3 ⊢
      rw [List.filter_cons, List.filter_cons]
      simp [hx, h3, show ¬ i + 1 ≤ i by omega]
    · have hf : findE i r = some e := by
        unfold findE at h ⊢
        rw [List.find?_cons] at h
        simpa [hx] using h
      have hm := findE_mem hf
      have h3 := h1 e hm.1
      have ih := from_some h2 hf
      unfold fromE at ih ⊢
      rw [List.filter_cons, List.filter_cons]
      simp only [show ¬ i ≤ x.id by omega, show ¬ i + 1 ≤ x.id by omega, decide_false, Bool.false_eq_true, if_false]
      exact ih
theorem insE_front {x : Ent} {M : List Ent} (h : ∀ e ∈ M, x.id < e.id) : insE x M = x :: M := by
  cases M with
  | nil => rfl
  | cons y r =>
    unfold insE
    rw [if_pos (h y (by simp))]
theorem from_high {L : List Ent} (h : K50 L) : fromE 50 L = [] := by
  unfold fromE
  refine List.filter_eq_nil_iff.2 fun e he => ?_
  have := h e he
  simp
  omega
theorem from_low {L : List Ent} (h : K50 L) : fromE 0 L = L := by
  unfold fromE
  refine List.filter_eq_self.2 fun e he => ?_
  have := h e he
  simp
  omega
theorem key_from {L M : List Ent} {i : Int} (h : M.map keyE = (fromE i L).map keyE) : ∀ e ∈ M, i ≤ e.id := fun e he => by
  have : keyE e ∈ (fromE i L).map keyE := h ▸ List.mem_map.2 ⟨e, he, rfl⟩
  obtain ⟨y, hy, hk⟩ := List.mem_map.1 this
  have h1 : y.id = e.id := congrArg (·.1) hk
  have h2 := (List.mem_filter.1 hy).2
  simp at h2
  omega

section
variable {W0 W1 w w' : World} {bb bs bm A : Nat} {cf : Cf} {gn : Net} {L : List Ent}
theorem KB.weaken (h : KB W1 w bb bs bm cf gn L) (hb : Below W0.heap.size W0 W1) : KB W0 w bb bs bm cf gn L :=
  ⟨h.base, h.tb, h.ts, hb.trans (h.old.mono hb.size), Nat.le_trans hb.size h.lbb, Nat.le_trans hb.size h.lbm, fun k hk => Nat.le_trans hb.size (h.pf k hk)⟩
/-- A base behind another base's search. -/
theorem KB.other (h : KB W0 w bb bs bm cf gn L) (hA : ∃ c, w.heap[A]? = some (.cells c 102 (0, 0))) (hne : A ≠ bb) (hF : ∀ k, gn.F k → k ≠ A) (h0 : 0 < W0.heap.size) (hA0 : W0.heap.size ≤ A) (hk : Kept (fun k => k = A) w w') : KB W0 w' bb bs bm cf gn L := by
  obtain ⟨cb, hcb⟩ := h.tb
  obtain ⟨cs, hcs⟩ := h.ts
  obtain ⟨cA, hA⟩ := hA
  have ns : bs ≠ A := ne_of_elem hcs hA (by decide)
  refine ⟨h.base.keptS hk (fun e => hne e.symm) ns (fun e => h.base.map.mb_ne hA e.symm) (by omega) (fun e he => ?_) hF, ⟨cb, (hk.block _ (heap_lt hcb) (fun e => hne e.symm)).trans hcb⟩, ⟨cs, (hk.block _ (heap_lt hcs) ns).trans hcs⟩, h.old.trans (hk.toBelow h.old.size (fun k e => by rw [e]; exact hA0)), h.lbb, h.lbm, h.pf⟩
  obtain ⟨c, hc⟩ := (h.base.map.pts e he).obj
  exact ne_of_elem hc hA (by decide)
end
end Go.Proofs.YtpkiefjanmfgfaaGreatDoor
namespace Go.Proofs.YtpkiefjanmfgfaaGreatDoor
open Go.RowKit Go.Maps

theorem u64_nat (n : Int) : ∃ d : Nat, IntKind.u64.wrap n = d ∧ d < 18446744073709551616 := by
  have h1 : 0 ≤ n % 18446744073709551616 := Int.emod_nonneg _ (by decide)
  have h2 : n % 18446744073709551616 < 18446744073709551616 := Int.emod_lt_of_pos _ (by decide)
  refine ⟨(n % 18446744073709551616).toNat, ?_, by omega⟩
  rw [IntKind.wrap_u64]
  omega
theorem RightL.wide {l l' all : List Hit} {k : Int} (h : RightL l all k 100) (h' : RightL l' all k 100) (ha : all.length ≤ 60) : l' = l := by
  have h1 := h.exact (.inr (by omega))
  have h2 := h'.exact (.inr (by omega))
  have h3 := h.len
  have h4 := h'.len
  rw [h1, h2, show l'.length = l.length by omega]
theorem schCode_two {x y k beam : Int} {dim : Int} (hd : dim = 2) (hx : Crd x) (hy : Crd y) (hk : 1 ≤ k ∧ k ≤ 60) (hb : 1 ≤ beam ∧ beam ≤ 100) {F : List (List Cnd)} (hF : filtB F = true) : schCode dim [x, y] k beam F = 0 := by
  unfold schCode
  rw [hd, two_code hx hy, hF]
  have h1 : inB k 1 60 = true := by simp only [inB, Bool.and_eq_true, decide_eq_true_eq]; exact hk
  have h2 : inB beam 1 100 = true := by simp only [inB, Bool.and_eq_true, decide_eq_true_eq]; exact hb
  simp [h1, h2, okCode]

set_option maxHeartbeats 8000000 in
set_option maxRecDepth 20000 in
theorem alike10 (sa : Option Addr) (len cap : Nat) (links metric beam other : Int) (draw : Nat) (x0 y0 k0 : Int) (h1 : I64 links) (h2 : I64 metric) (h3 : I64 beam) (h4 : I64 other) (_hdr : draw < 18446744073709551616) (h6 : I64 x0) (h7 : I64 y0) (h8 : I64 k0) (w : World) (hg : Handle w) (hs : KScriptAt w sa len) :
    Calls Tryz.prog 10 #[.slice sa len cap, .int .i64 links, .int .i64 metric, .int .i64 beam, .int .i64 other, .int .u64 draw, .int .i64 x0, .int .i64 y0, .int .i64 k0] w fun ev w' => ev = .returned (.bool true) ∧ Below w.heap.size w w' := by
  have hM := made18 sa len cap links metric beam h1 h2 h3 w hg hs
  have HM := hide hM
  have hpos := hg.lt
  clear hM hs
  go_enter Tryz.func10, Tryz.ntmps10
  go_wp2_with fail
  refine HM.out.mono ?_
  rintro ev w1 ⟨b1, s1, m1, gn1, L, rfl, hK1, h50, hl1⟩
  have hg1 : Handle w1 := hK1.base.hdl
  have HK1 := hide hK1
  have H50 := hide h50
  have HL1 := hide hl1
  clear hK1 h50 hl1 HM
  go_wp2_with fail
  refine (base28 other metric other h4 h2 h4 w1 hg1).mono ?_
  rintro ev w2 ⟨b2, s2, m2, gn2, rfl, hK2, hl2⟩
  have HK2 := hide hK2
  have HL2 := hide hl2
  have HD1 : Hid ((keepCf links metric beam).dim = 2 ∧ (keepCf links metric beam).cap = 60) := ⟨rfl, rfl⟩
  have HD2 : Hid ((keepCf other metric other).dim = 2 ∧ (keepCf other metric other).cap = 60) := ⟨rfl, rfl⟩
  have HDM : Hid ((keepCf other metric other).metric = (keepCf links metric beam).metric) := rfl
  generalize keepCf links metric beam = cf1 at *
  generalize keepCf other metric other = cf2 at *
  clear hK2 hl2
  go_wp2
  go_loopw [21, 22, 23, 24] (fun iv _ _ _ wr => ∃ (k : Nat) (M : List Ent) (gn : Net), iv = .int .i64 ((k : Int) - 1) ∧ k ≤ 50 ∧ Hid (KB w1 wr b2 s2 m2 cf2 gn M) ∧ Hid (M.map keyE = (fromE k L).map keyE) ∧ Hid (0 ≤ gn.looks ∧ gn.looks ≤ 60)) (fun iv _ _ _ _ => (intOf iv + 1).toNat)
  case atStart => exact ⟨50, [], gn2, rfl, by omega, HK2.out, by show _ = _; rw [show ((50 : Nat) : Int) = 50 from rfl, from_high H50.out], HL2.out⟩
  case round =>
    obtain ⟨k, M, gn, rfl, hk, HK, HM, HL⟩ := hrel
    by_cases hlt : 0 < k
    · obtain ⟨j, rfl⟩ : ∃ j, k = j + 1 := ⟨k - 1, by omega⟩
      have ej : ((j + 1 : Nat) : Int) - 1 = j := by omega
      rw [ej]
      have hK1r := HK1.out.below HK.out.old
      cases he : findE j L with
      | none =>
        have HG := hide (get14_no b1 s1 m1 cf1 gn1 j L wr (i64_small (by omega) (by omega)) hK1r.base he)
        have HFN := hide (from_none he)
        clear he hK1r
        go_wp2_with fail
        refine HG.out.mono ?_
        rintro ev w5 ⟨rfl, hb5⟩
        have HK5 := hide ((HK.out.below hb5).alloc (.cells #[.int .i64 0, .slice none 0 0, .int .i64 0, .int .i64 0] 77))
        clear hb5 HG
        go_wp2
        refine ⟨⟨j, M, gn, by go_num, by omega, HK5.out, ?_, HL.out⟩, by simp [intOf]⟩
        show _ = _
        rw [HFN.out]
        exact HM.out
      | some e =>
        have HG := hide (get14_yes b1 s1 m1 cf1 gn1 j L e wr (i64_small (by omega) (by omega)) hK1r.base he)
        have HFS := hide (from_some HK1.out.base.map.rising he)
        have hm := findE_mem he
        have hpt := HK1.out.base.len e hm.1
        rw [HD1.out.1] at hpt
        have hp2 : e.pt.length = 2 := by omega
        have hcr := HK1.out.base.crd e hm.1
        have hcode : ptCode cf2.dim e.pt = 0 := by
          obtain ⟨a, b, hab⟩ : ∃ a b, e.pt = [a, b] := by
            match e.pt, hp2 with
            | [a, b], _ => exact ⟨a, b, rfl⟩
          rw [hab] at hcr ⊢
          rw [HD2.out.1]
          exact two_code (hcr a (by simp)) (hcr b (by simp))
        have HCD := hide hcode
        have hid := hm.2
        clear he hK1r hpt hcr hcode hm
        go_wp2_with fail
        refine HG.out.mono ?_
        rintro ev w5 ⟨g5, gc5, rfl, hg5, hp5, hb5⟩
        rw [hid, hp2]
        have hroom : Room cf2.cap j M := .inr (by
          have e1 : M.length = (fromE ((j + 1 : Nat) : Int) L).length := by have := congrArg List.length HM.out; simpa using this
          have e2 : (fromE ((j + 1 : Nat) : Int) L).length ≤ L.length := List.length_filter_le _ _
          have e3 := H50.out.len HK1.out.base.map.rising
          rw [HD2.out.2]
          omega)
        obtain ⟨w6, hw6⟩ : ∃ w6, w6 = w5.alloc (.cells #[.int .i64 j, .slice (some ⟨g5, 0, none⟩) 2 gc5, .int .i64 e.t0, .int .i64 e.t1] 77) := ⟨_, rfl⟩
        have hb6 : Below w5.heap.size w5 w6 := hw6 ▸ (Below.refl _ _).alloc (Nat.le_refl _) _
        have hX6 : w6.heap[w5.heap.size]? = some (.cells #[.int .i64 j, .slice (some ⟨g5, 0, none⟩) 2 gc5, .int .i64 e.t0, .int .i64 e.t1] 77 (0, 0)) := by rw [hw6]; exact heap_alloc_new _ _
        have hp6 := ownsRow_below hp5 hb6
        have hK6 := (HK.out.below hb5).below hb6
        have hput := (fun d (hd : d < 18446744073709551616) => putX (j : Int) e.t0 e.t1 d e.pt g5 gc5 (i64_small (by omega) (by omega)) hd hK6 HCD.out (by omega) (by omega) hroom hp6)
        rw [hp2] at hput
        have HPUT := hide hput
        have HX6 := hide hX6
        have HNF6 : Hid (¬ (w5.heap.size = m2 ∨ gn.F w5.heap.size)) := fun h => h.elim (fun h => by have := (HK.out.below hb5).base.map.lt; omega) ((HK.out.below hb5).fresh (Nat.le_refl _))
        have hzz : w5.heap.size < w6.heap.size := heap_lt hX6
        clear hX6 hp6 hK6 hp5 hroom hb5 hb6 HG hput
        go_wp2_with fail
        obtain ⟨d, hdd, hdl⟩ := u64_nat (↑draw * (↑j + 1))
        rw [hdd, ← hw6]
        clear hw6
        refine (HPUT.out d hdl).mono ?_
        rintro ev w7 ⟨rfl, g7, gc7, gn7, hK7, hk7, _, hl7⟩
        have hX7 := (hk7.block _ hzz HNF6.out).trans HX6.out
        have x0 : w7.cell? ⟨w5.heap.size, 0, none⟩ = some (.int .i64 j) := cells_at hX7 0 rfl
        have x1 : w7.cell? ⟨w5.heap.size, 1, none⟩ = some (.slice (some ⟨g5, 0, none⟩) 2 gc5) := cells_at hX7 1 rfl
        have hzz7 := heap_lt hX7
        have HK7 := hide hK7
        have HL7 : Hid (0 ≤ gn7.looks ∧ gn7.looks ≤ 60) := by rw [hl7]; exact HL.out
        clear hK7 hk7 hX7 HPUT hl7
        go_wp2
        refine ⟨⟨j, _, gn7, by go_num, by omega, HK7.out, ?_, HL7.out⟩, by simp [intOf]⟩
        show _ = _
        rw [insE_front (fun x hx => by have := key_from HM.out x hx; simp only; omega), HFS.out]
        simp only [List.map_cons, keyE, hid]
        exact congrArg _ HM.out
    · obtain rfl : k = 0 := by omega
      have hpk := fun W => pick17 k0 60 h8 (by omega) W
      have ik := pickI_in (c := k0) (n := 60) (by omega)
      have hcx := fun W => coord20 x0 h6 W
      have hcy := fun W => coord20 y0 h7 W
      have hX := coordI_crd x0
      have hY := coordI_crd y0
      generalize pickI k0 60 = kq at hpk ik
      generalize coordI x0 = X at hcx hX
      generalize coordI y0 = Y at hcy hY
      obtain ⟨kk, hkk⟩ : ∃ kk, kk = 1 + kq := ⟨_, rfl⟩
      have ekk : IntKind.i64.wrap (1 + kq) = kk := by rw [IntKind.wrap_i64]; omega
      have ekk2 : wrap64 (1 + kq) = kk := by unfold wrap64; omega
      have hkb : 1 ≤ kk ∧ kk ≤ 60 := by omega
      have HPK := hide hpk
      have HCX := hide hcx
      have HCY := hide hcy
      have HKB := hide hkb
      clear hpk hcx hcy hkk hkb ik
      go_wp2_with fail
      refine (HPK.out _).mono ?_
      rintro ev' w' ⟨rfl, rfl⟩
      go_wp2_with fail
      refine (HCX.out _).mono ?_
      rintro ev' w' ⟨rfl, rfl⟩
      go_wp2_with fail
      refine (HCY.out _).mono ?_
      rintro ev' w' ⟨rfl, rfl⟩
      go_wp2_with fail
      obtain ⟨w5, hw5⟩ : ∃ w5, w5 = wr.alloc (.cells #[.int .i64 X, .int .i64 Y] 3) := ⟨_, rfl⟩
      have hA5 : Pts w5 wr.heap.size 2 [X, Y] := two_row (by rw [hw5]; exact heap_alloc_new _ _)
      have hK15 : KB w w5 b1 s1 m1 cf1 gn1 L := hw5 ▸ (HK1.out.below HK.out.old).alloc _
      have hK25 : KB w1 w5 b2 s2 m2 cf2 gn M := hw5 ▸ HK.out.alloc _
      rw [← hw5]
      clear hw5
      have hb1 : b1 < w1.heap.size := block_lt_of_cell HK1.out.base.b0
      have hb2 := hK25.lbb
      have HF1 : Hid (∀ k, gn1.F k → k ≠ b2) := fun k hk => by have := (HK1.out.base.foot k hk).1; omega
      have HF2 : Hid (∀ k, gn.F k → k ≠ b1) := fun k hk => by have := hK25.pf k hk; omega
      refine (searchK (.slice (some ⟨wr.heap.size, 0, none⟩) 2 2) [X, Y] kk 100 (.slice none 0 0) [] w5 hK15 hA5 (two_ints hA5) (filt_none _) (by have := HL1.out; omega) (schCode_two HD1.out.1 hX hY HKB.out (by omega) (by decide))).mono ?_
      rintro ev w6 ⟨v1, l1, n1, rfl, hr6, _, hK16, hk6, _, hR1⟩
      have hK26 := (hK25.weaken HK1.out.old).other hK15.tb (by omega) HF2.out hpos HK1.out.lbb hk6
      have HR6 := hide hr6
      have HK16 := hide hK16
      have HK26 := hide hK26
      have HR1 := hide hR1
      clear hr6 hK16 hK26 hR1 hk6 hK15 hK25 hA5
      go_wp2_with fail
      obtain ⟨w7, hw7⟩ : ∃ w7, w7 = w6.alloc (.cells #[.int .i64 X, .int .i64 Y] 3) := ⟨_, rfl⟩
      have hA7 : Pts w7 w6.heap.size 2 [X, Y] := two_row (by rw [hw7]; exact heap_alloc_new _ _)
      have hb7 : Below w6.heap.size w6 w7 := hw7 ▸ (Below.refl _ _).alloc (Nat.le_refl _) _
      rw [← hw7]
      clear hw7
      have hK17 := HK16.out.below hb7
      have hK27 := HK26.out.below hb7
      have hr7 := ownsRow_below HR6.out hb7
      refine (searchK (.slice (some ⟨w6.heap.size, 0, none⟩) 2 2) [X, Y] kk 100 (.slice none 0 0) [] w7 hK27 hA7 (two_ints hA7) (filt_none _) (by have := HL.out; omega) (schCode_two HD2.out.1 hX hY HKB.out (by omega) (by decide))).mono ?_
      rintro ev w8 ⟨v2, l2, n2, rfl, hr8, _, hK28, hk8, _, hR2⟩
      have hK18 := hK17.other hK27.tb (by omega) HF1.out hpos hK27.lbb hk8
      have hr18 := hK27.rowLooked hr7 hk8
      have hML : M.map keyE = L.map keyE := by
        have := HM.out
        rw [show ((0 : Nat) : Int) = 0 from rfl, from_low H50.out] at this
        exact this
      rw [HDM.out, tellL_key hML] at hR2
      have htl : (tellL cf1.metric [X, Y] [] L).length = L.length := by rw [tellL_len, passL_none]
      have h60 := hK18.base.few
      obtain rfl := RightL.wide HR1.out hR2 (by omega)
      have hlen := HR1.out.len
      rw [htl] at hlen
      have hml : M.length = L.length := by have := congrArg List.length hML; simpa using this
      have hsm := same25 v1 v2 l2 w8 hr18 hr8 (by omega)
      obtain ⟨va, vc, rfl, _⟩ := HRow.slice hr18
      have HSM := hide hsm
      have HK18 := hide hK18
      have HK28 := hide hK28
      have hq : (l2.length : Int) = kk ∨ L.length = l2.length := by omega
      have HQ := hide hq
      clear hsm hK18 hK28 hr8 hr18 hr7 hK17 hK27 hA7 hb7 hk8 hR2 hlen hq htl hML HR6 HK16 HK26
      go_wp2_with fail
      refine HSM.out.mono ?_
      rintro ev w9 ⟨rfl, hb9⟩
      have HC1 := hide (count15_any b1 s1 m1 cf1 _ L w9 (HK18.out.below hb9).base)
      have HC2 := hide (count15_any b2 s2 m2 cf2 _ M w9 (HK28.out.below hb9).base)
      have HB9 : Hid (Below w.heap.size w w9) := (HK18.out.below hb9).old
      rw [hml] at HC2
      clear hb9 HSM hml
      rcases HQ.out with hq | hq
      · subst hq
        go_wp2_with fail
        refine HC1.out.mono ?_
        rintro ev' w' ⟨rfl, rfl⟩
        go_wp2_with fail
        refine HC2.out.mono ?_
        rintro ev' w' ⟨rfl, rfl⟩
        go_wp2
        go_ret
        exact ⟨rfl, HB9.out⟩
      · rw [hq] at HC1 HC2
        clear hq HQ h60
        go_wp2_with fail
        refine HC1.out.mono ?_
        rintro ev' w' ⟨rfl, rfl⟩
        go_wp2_with fail
        refine HC2.out.mono ?_
        rintro ev' w' ⟨rfl, rfl⟩
        go_wp2
        all_goals go_ret
        all_goals exact ⟨rfl, HB9.out⟩
end Go.Proofs.YtpkiefjanmfgfaaGreatDoor
namespace Go.Proofs.YtpkiefjanmfgfaaGreatDoor
open Go.ChangeShapes Go.WideShapes Go.ChangeAt Go.RowKit

/-- What the row's list gives: the variable's one cell. -/
theorem handle_alike {W : World} (h : laidMetH Tryz.prog Rows.alikeRow.laid W) : Handle W := by
  have h' : laidMet Tryz.prog [] W ∧ handlesMet Tryz.prog Rows.alikeRow.laid W := h
  obtain ⟨name, u, ty, e1, e2, e3, e4, e5⟩ := h'.2 _ (List.mem_singleton.2 rfl)
  have en : name = [101, 114, 114, 111, 114] := (Option.some.inj e1).symm
  subst en
  obtain rfl := Option.some.inj (rtypeRow.symm.trans e2)
  have hm : ty ∈ (List.range 313).filter fun t => Tryz.prog.rowNamed t [101, 114, 114, 111, 114] := List.mem_filter.2 ⟨List.mem_range.2 (by rw [← typesSize]; exact e3), e4⟩
  rw [errRow] at hm
  obtain rfl := List.mem_singleton.1 hm
  have hh : typeHandle Tryz.prog 104 = .pointer (some ⟨1, 104, none⟩) := by kernel_rfl
  rw [hh] at e5
  unfold Handle
  simpa using World.var?_cell errVar e5 0

set_option maxRecDepth 100000 in
/-- The law, from what came in to what it leaves. -/
theorem alike_contract (H : Type) (enc : TypeId × Value → H) (W : World) (base : Nat) (args : Array Value) (ds gs : List (DataW H)) (before : List MemPlace)
    (hval : ∀ (j : Nat) t v, Tryz.f10.params[j]? = some t → args[j]? = some v → Value.okWide Tryz.prog W .any base t v)
    (hW : DataW.Whole enc Tryz.prog Tryz.f10.params.toList Rows.alikeSpec.vars false W args.toList ds gs before)
    (hz : (DataW.weightsEach Tryz.prog (Tryz.f10.params.toList ++ Rows.alikeSpec.plain.varTypes Tryz.prog) (ds ++ gs)).all (· ≤ reachBytes) = true) (hL : laidMetH Tryz.prog Rows.alikeRow.laid W) :
    Calls Tryz.prog 10 args W fun e W' => ∃ v, e = .returned v ∧ Rows.alikeSpec.post enc Tryz.prog Tryz.f10 false true false false W args v W' := by
  have hW' := hW
  obtain ⟨p, q, hA0, hV, rfl, hfz, hnd⟩ := hW
  have hA : DataW.TrodAll enc Tryz.prog W 0 (fun _ => true) true Tryz.f10.params.toList args.toList ds p := hA0
  rw [Tryz.params10] at hA hval hz
  obtain ⟨v0, vs0, d0, ds0, p0, q0, hargs, rfl, rfl, h0, r0⟩ := trodAll_cons hA
  obtain ⟨v1, vs1, d1, ds1, p1, q1, rfl, rfl, rfl, h1, r1⟩ := trodAll_cons r0
  obtain ⟨v2, vs2, d2, ds2, p2, q2, rfl, rfl, rfl, h2, r2⟩ := trodAll_cons r1
  obtain ⟨v3, vs3, d3, ds3, p3, q3, rfl, rfl, rfl, h3, r3⟩ := trodAll_cons r2
  obtain ⟨v4, vs4, d4, ds4, p4, q4, rfl, rfl, rfl, h4, r4⟩ := trodAll_cons r3
  obtain ⟨v5, vs5, d5, ds5, p5, q5, rfl, rfl, rfl, h5, r5⟩ := trodAll_cons r4
  obtain ⟨v6, vs6, d6, ds6, p6, q6, rfl, rfl, rfl, h6, r6⟩ := trodAll_cons r5
  obtain ⟨v7, vs7, d7, ds7, p7, q7, rfl, rfl, rfl, h7, r7⟩ := trodAll_cons r6
  obtain ⟨v8, vs8, d8, ds8, p8, q8, rfl, rfl, rfl, h8, r8⟩ := trodAll_cons r7
  obtain ⟨rfl, rfl, rfl⟩ := trodAll_nil r8
  obtain rfl : args = #[v0, v1, v2, v3, v4, v5, v6, v7, v8] := by cases args; simp_all
  obtain ⟨rfl, rfl⟩ := trodVars_none hV
  have hlt := hW'.lt
  obtain ⟨sa, len, cap, rfl, hs⟩ := kscript_open (hval 0 51 v0 rfl rfl) h0 (fun k hk => by
    have := List.all_eq_true.1 hz k (DataW.weights_mem_each (j := 0) rfl rfl k hk)
    simpa using this)
  obtain ⟨a1, rfl, w1⟩ := int_open (hval 1 3 v1 rfl rfl) h1
  obtain ⟨a2, rfl, w2⟩ := int_open (hval 2 3 v2 rfl rfl) h2
  obtain ⟨a3, rfl, w3⟩ := int_open (hval 3 3 v3 rfl rfl) h3
  obtain ⟨a4, rfl, w4⟩ := int_open (hval 4 3 v4 rfl rfl) h4
  obtain ⟨a5, rfl, w5⟩ := u64_open (hval 5 44 v5 rfl rfl) h5
  obtain ⟨a6, rfl, w6⟩ := int_open (hval 6 3 v6 rfl rfl) h6
  obtain ⟨a7, rfl, w7⟩ := int_open (hval 7 3 v7 rfl rfl) h7
  obtain ⟨a8, rfl, w8⟩ := int_open (hval 8 3 v8 rfl rfl) h8
  refine (alike10 sa len cap a1 a2 a3 a4 a5 a6 a7 a8 w1 w2 w3 w4 w5 w6 w7 w8 W (handle_alike hL) hs).mono fun e W' ⟨he, hb⟩ => ?_
  subst he
  refine ⟨_, rfl, _, _, _, [], p0 ++ (p1 ++ (p2 ++ (p3 ++ (p4 ++ (p5 ++ (p6 ++ (p7 ++ (p8 ++ [])))))))), [], hW', ?_, ?_, ?_, hb.frame _, fun h => by cases h⟩
  · exact trodAll_cons_mk (shut_bool Tryz.underlying4 _) trodAll_mk0
  · exact (trodAll_cons_mk (Below.trod laidOut read51 (by rw [typesSize]; decide) h0 hb (fun x hx => hlt x (by simp [hx]))) (trodAll_cons_mk (Below.trod laidOut read3 (by rw [typesSize]; decide) h1 hb (fun x hx => hlt x (by simp [hx]))) (trodAll_cons_mk (Below.trod laidOut read3 (by rw [typesSize]; decide) h2 hb (fun x hx => hlt x (by simp [hx]))) (trodAll_cons_mk (Below.trod laidOut read3 (by rw [typesSize]; decide) h3 hb (fun x hx => hlt x (by simp [hx]))) (trodAll_cons_mk (Below.trod laidOut read3 (by rw [typesSize]; decide) h4 hb (fun x hx => hlt x (by simp [hx]))) (trodAll_cons_mk (Below.trod laidOut read44 (by rw [typesSize]; decide) h5 hb (fun x hx => hlt x (by simp [hx]))) (trodAll_cons_mk (Below.trod laidOut read3 (by rw [typesSize]; decide) h6 hb (fun x hx => hlt x (by simp [hx]))) (trodAll_cons_mk (Below.trod laidOut read3 (by rw [typesSize]; decide) h7 hb (fun x hx => hlt x (by simp [hx]))) (trodAll_cons_mk (Below.trod laidOut read3 (by rw [typesSize]; decide) h8 hb (fun x hx => hlt x (by simp [hx]))) trodAll_mk0)))))))))
  · rfl

noncomputable def alikeArgs : Array Value := #[.slice none 0 0, .int .i64 0, .int .i64 0, .int .i64 0, .int .i64 0, .int .u64 0, .int .i64 0, .int .i64 0, .int .i64 0]
theorem alike_met (os : Os) : laidMetH Tryz.prog Rows.alikeRow.laid ((laidWorld os).forCall (fun _ _ => 0) ⟨#[], alikeArgs, []⟩).memory :=
  laidMetH_of_parts (laidMet_nil _ _) (by kernel_rfl)
theorem alike_reads (os : Os) {H : Type} (enc : TypeId × Value → H) : ∃ places, DataW.whole enc Tryz.prog ((laidWorld os).forCall (fun _ _ => 0) ⟨#[], alikeArgs, []⟩).memory Tryz.f10.params.toList Rows.alikeSpec.vars false alikeArgs.toList 8 = some ([.nil, .lit (.int .i64 0), .lit (.int .i64 0), .lit (.int .i64 0), .lit (.int .i64 0), .lit (.int .u64 0), .lit (.int .i64 0), .lit (.int .i64 0), .lit (.int .i64 0)], [], places) :=
  ⟨[], by kernel_rfl⟩

set_option maxRecDepth 100000 in
theorem alike_lifted (os : Os) (started : os.Started) (H : Type) (enc : TypeId × Value → H) (F : Stop.Interp) :
    ReturnsInHanded {} Tryz.checked os 10 .any ((OpenSpec.ofChange Rows.alikeSpec).preRow enc Tryz.prog Tryz.f10 Rows.alikeRow.domain false Rows.alikeRow.laid) (((OpenSpec.ofChange Rows.alikeSpec).at F).post enc Tryz.prog Tryz.f10 false true false false) := by
  obtain ⟨places, hx⟩ := alike_reads os enc
  refine returnsInHanded_of_row (C := Tryz.checked) (s := OpenSpec.ofChange Rows.alikeSpec) knob started (by kernel_rfl) Tryz.func10
    (witness_row_at (enc := enc) (C := Tryz.checked) false (laidWorld os) alikeArgs rfl (by kernel_rfl) (by kernel_rfl) (by kernel_rfl)
      (OpenSpec.preRow_of_cond 8 hx (by kernel_rfl) (fun k hk => by cases hk) (by kernel_rfl) (alike_met os))) ?_
  intro W base args ds gs before hval hW _ _ hz hL _ _
  exact alike_contract H enc W base args ds gs before hval hW hz hL

set_option maxRecDepth 100000 in
theorem alike_said : Rows.AlikeSaid :=
  OpenClaim.holds_of_cond 10 Tryz.f10 rfl rfl rfl rfl rfl rfl rfl ⟨rfl, rfl, rfl, rfl, rfl⟩ rfl rfl rfl rfl rfl (by kernel_rfl) Tryz.func10 (by kernel_rfl)
    (of_decide_eq_true (by kernel_rfl)) (by unfold Func.isWrapper; first | (rw [if_pos (by decide +kernel)]; kernel_rfl) | (rw [if_neg (by decide +kernel)]; exact ⟨rfl, rfl⟩))
    (fun os started H enc _ F => by rw [OpenClaim.pre_eq_preRow]; exact alike_lifted os started H enc F)

/-- No parameter wants a stand-in; the program's own looks are on: what the card asks. -/
theorem alike_plain (f : FuncId) (fn : Func) (hf : Tryz.pinned.checked.prog.funcNamed "nearby/nearbykeep.Alike" = some f) (hfn : Tryz.pinned.checked.prog.funcs[f]? = some fn) :
    true = Tryz.pinned.checked.prog.looks [] ∧ ∀ (j : Nat) t, fn.params[j]? = some t → Tryz.pinned.checked.prog.wantsStandIn t = false := by
  obtain rfl : f = 10 := Option.some.inj ((show Tryz.prog.funcNamed "nearby/nearbykeep.Alike" = some 10 by kernel_rfl).symm.trans hf) |>.symm
  obtain rfl : fn = Tryz.f10 := (Option.some.inj (Tryz.func10.symm.trans hfn)).symm
  refine ⟨by kernel_rfl, fun j t ht => ?_⟩
  rw [Tryz.params10] at ht
  have hm := Array.mem_of_getElem? ht
  simp at hm
  rcases hm with rfl | rfl | rfl | rfl
  · exact (show Tryz.prog.wantsStandIn 51 = false by kernel_rfl)
  · exact (show Tryz.prog.wantsStandIn 3 = false by kernel_rfl)
  · exact (show Tryz.prog.wantsStandIn 44 = false by kernel_rfl)
  · exact (show Tryz.prog.wantsStandIn 3 = false by kernel_rfl)

/-- The card. -/
theorem alike_card : Rows.AlikeCardSaid :=
  Claim7.holds_tied_plain_at .later [] _ _ _ _ alike_said (fun _ h => by cases h) (by kernel_rfl) (fun _ h => by cases h) alike_row_tie rfl ⟨rfl, rfl⟩ (by kernel_rfl) rfl alike_plain (by kernel_rfl)
#print axioms alike_card
end Go.Proofs.YtpkiefjanmfgfaaGreatDoor
