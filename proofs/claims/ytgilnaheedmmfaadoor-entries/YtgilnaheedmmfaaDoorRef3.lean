import Derived.Test.YtgilnaheedmmfaaDoorRef2
import Derived.Deep.Cut
import Derived.Deep.DeepMust
namespace Go.Proofs.YtgilnaheedmmfaaDoor
open Go.RowKit

theorem delE_cut {id : Int} : ∀ {L : List Ent} {e : Ent}, Rising L → findE id L = some e → delE id L = L.take (posE id L) ++ L.drop (posE id L + 1)
  | [], e, _, h => by cases h
  | y :: r, e, hs, h => by
    obtain ⟨h1, h2⟩ := List.pairwise_cons.1 hs
    by_cases hy : y.id = id
    · have h0 : posE id (y :: r) = 0 := by simp [posE, hy]
      rw [h0]
      simp only [List.take_zero, List.nil_append, Nat.zero_add, List.drop_succ_cons, List.drop_zero]
      unfold delE
      rw [List.filter_cons]
      simp only [hy, ne_eq, not_true_eq_false, decide_false, Bool.false_eq_true, if_false]
      refine List.filter_eq_self.2 fun e he => ?_
      have := h1 e he
      simp; omega
    · have hr : findE id r = some e := by
        unfold findE at h ⊢
        rw [List.find?_cons] at h
        simpa [hy] using h
      have h3 := h1 e (findE_mem hr).1
      have h4 := (findE_mem hr).2
      have h0 : posE id (y :: r) = posE id r + 1 := by simp [posE, show y.id < id by omega]
      rw [h0]
      have ih := delE_cut h2 hr
      unfold delE at ih ⊢
      rw [List.filter_cons]
      simp only [ne_eq, hy, not_false_eq_true, decide_true, if_true, List.take_succ_cons, List.drop_succ_cons, List.cons_append]
      rw [ih]

theorem insE_new {x : Ent} : ∀ {L : List Ent}, Rising L → findE x.id L = none → insE x L = L.take (posE x.id L) ++ x :: L.drop (posE x.id L)
  | [], _, _ => rfl
  | y :: r, hs, h => by
    obtain ⟨h1, h2⟩ := List.pairwise_cons.1 hs
    have hy : y.id ≠ x.id := findE_none h y (by simp)
    have hr : findE x.id r = none := by
      unfold findE at h ⊢
      rw [List.find?_cons] at h
      simpa [hy] using h
    by_cases hlt : x.id < y.id
    · have h0 : posE x.id (y :: r) = 0 := by
        simp [posE, List.takeWhile_cons]; omega
      rw [h0]
      simp [insE, hlt]
    · have h0 : posE x.id (y :: r) = posE x.id r + 1 := by simp [posE, show y.id < x.id by omega]
      rw [h0]
      unfold insE
      rw [if_neg hlt, if_neg (fun e => hy e.symm), insE_new h2 hr]
      simp

theorem insE_set {x : Ent} : ∀ {L : List Ent} {e : Ent}, Rising L → findE x.id L = some e → insE x L = L.set (posE x.id L) x
  | [], e, _, h => by cases h
  | y :: r, e, hs, h => by
    obtain ⟨h1, h2⟩ := List.pairwise_cons.1 hs
    by_cases hy : y.id = x.id
    · have h0 : posE x.id (y :: r) = 0 := by simp [posE, hy]
      rw [h0]
      simp [insE, hy]
    · have hr : findE x.id r = some e := by
        unfold findE at h ⊢
        rw [List.find?_cons] at h
        simpa [hy] using h
      have h3 := h1 e (findE_mem hr).1
      have h4 := (findE_mem hr).2
      have h0 : posE x.id (y :: r) = posE x.id r + 1 := by simp [posE, show y.id < x.id by omega]
      rw [h0]
      unfold insE
      rw [if_neg (by omega), if_neg (fun e => hy e.symm), insE_set h2 hr]
      rfl

theorem rcells_one (L : List Ent) : ∀ u ∈ rcells L, u.oneCell' = true := by
  intro u hu
  obtain ⟨e, _, he⟩ := List.mem_flatMap.1 hu
  simp [rcell] at he
  rcases he with rfl | rfl | rfl | rfl | rfl <;> rfl

theorem rcells_take (L : List Ent) (k : Nat) (_hk : k ≤ L.length) {j : Nat} {u : Value} (h : (rcells (L.take k))[j]? = some u) : (rcells L)[j]? = some u := by
  have : rcells L = rcells (L.take k) ++ rcells (L.drop k) := by rw [← rcells_append, List.take_append_drop]
  rw [this, List.getElem?_append_left (List.getElem?_eq_some_iff.1 h).1]
  exact h
theorem rcells_drop (L : List Ent) (k : Nat) (hk : k ≤ L.length) {j : Nat} {u : Value} (h : (rcells (L.drop k))[j]? = some u) : (rcells L)[k * 5 + j]? = some u := by
  have h1 : rcells L = rcells (L.take k) ++ rcells (L.drop k) := by rw [← rcells_append, List.take_append_drop]
  have h2 : (rcells (L.take k)).length = k * 5 := by rw [rcells_length]; simp; omega
  rw [h1, List.getElem?_append_right (by omega), h2]
  simpa using h

theorem small_len (m : Nat) (h : m ≤ 200) : m ≤ maxLen := by unfold maxLen; omega
theorem small_bytes (m : Nat) (h : m ≤ 200) : m * 56 ≤ 140737488355328 := Nat.le_trans (Nat.mul_le_mul_right 56 h) (by decide)
theorem rcells_take_len (L : List Ent) (k : Nat) (h : k ≤ L.length) : (rcells (L.take k)).length = k * 5 := by rw [rcells_length]; simp; omega
theorem rcells_src1 {w : World} {g n lc k : Nat} {L : List Ent} (h : w.ownsRow 0 90 5 (.slice (some ⟨g, 0, none⟩) n lc) n (rcells L)) (hk : k ≤ L.length) : 0 < k → ∃ a, some (⟨g, 0, none⟩ : Addr) = some a ∧ ∀ j u, (rcells (L.take k))[j]? = some u → w.cell? (a.add j) = some u :=
  fun _ => ⟨_, rfl, fun j u hj => by rw [addr_add, Nat.zero_add]; exact ownsRow_cell h (rcells_take L k hk hj)⟩
theorem rcells_src2 {w : World} {g n lc k : Nat} {L : List Ent} (h : w.ownsRow 0 90 5 (.slice (some ⟨g, 0, none⟩) n lc) n (rcells L)) (hk : k ≤ L.length) : ∀ j u, (rcells (L.drop k))[j]? = some u → w.cell? ((⟨g, k * 5, none⟩ : Addr).add j) = some u :=
  fun j u hj => by rw [addr_add]; exact ownsRow_cell h (rcells_drop L k hk hj)

set_option maxHeartbeats 1000000 in
theorem delete20_no (br : Nat) (dim cap : Int) (la : Option Addr) (lc : Nat) (L : List Ent) (id : Int) (w : World) (h : RefAt w br dim cap la lc L) (he : findE id L = none) :
    Calls Tryd.prog 20 #[.pointer (some ⟨br, 0, none⟩), .int .i64 id] w fun ev w' => ev = .returned (.int .i64 5) ∧ Below w.heap.size w w' := by
  have HE : Hid ((findE id L).isSome = false) := by rw [he]; rfl
  go_enter Tryd.func20, Tryd.ntmps20
  go_wp2_with fail
  refine (find38_any br dim cap la lc L id _ h).mono ?_
  rintro ev w1 ⟨rfl, nq, rfl⟩
  rw [HE.out]
  clear he h
  go_wp2
  go_ret
  exact ⟨rfl, below_drewN (Below.refl _ _) _⟩

theorem rcells_drop_len (L : List Ent) (k : Nat) : (rcells (L.drop k)).length = (L.length - k) * 5 := by rw [rcells_length]; simp

theorem rising_del {L M : List Ent} {id : Int} (h : Rising L) (e : delE id L = M) : Rising M := e ▸ rising_delE id h

/-- The list laid anew, and stored. -/
theorem ref_new {w w3 : World} {br : Nat} {dim cap : Int} {la a2 : Option Addr} {lc c2 n2 : Nat} {L M : List Ent} {row : Option Nat} {w2 : World} (h : RefAt w br dim cap la lc L) (hb2 : Below w.heap.size w w2)
    (hn : n2 = M.length) (hrow : ∀ g, row = some g → w.heap.size ≤ g) (ho : w3.ownsRow 0 90 5 (.slice a2 n2 c2) n2 (rcells M)) (hg : w2.grownBy w3 row) (hl : ∀ g, (Value.slice a2 n2 c2).ownBlock = some g → w.heap.size ≤ g)
    (hsub : ∀ e ∈ M, Pts w3 e.rb e.rc e.pt) (hris : Rising M) (hsm : M.length ≤ 60) :
    (∀ g, (Value.slice a2 M.length c2).ownBlock = some g → w.heap.size ≤ g) ∧ Kept (fun k => k = br) w (w3.setCell ⟨br, 6, none⟩ (.slice a2 n2 c2)) ∧ w3.cell? ⟨br, 6, none⟩ = some (.slice la L.length lc) ∧ w3.frozen? ⟨br, 6, none⟩ = false ∧
      RefAt (w3.setCell ⟨br, 6, none⟩ (.slice a2 n2 c2)) br dim cap a2 c2 M := by
  subst hn
  have hbr := h.lt
  have hk : Below w.heap.size w w3 := hb2.grown hg hb2.size hrow
  have h3 := h.below hk
  obtain ⟨cs, hc⟩ := h3.typ
  have hgne : ∀ g, w.heap.size ≤ g → g ≠ br := fun g hg => by omega
  refine ⟨hl, (Kept.of_below (fun k => k = br) hk).setCell (p := ⟨br, 6, none⟩) (fun _ => rfl) _, h3.r6, h3.frozen 6, ⟨⟨_, heap_setCell_same _ _ _ _ _ _ hc⟩, ?_, ?_, World.cell?_setCell_same _ _ _ h3.r6, ?_, ?_, hris, hsm⟩⟩
  · rw [World.cell?_setCell_other _ _ _ _ (by simp)]; exact h3.r0
  · rw [World.cell?_setCell_other _ _ _ _ (by simp)]; exact h3.r1
  · exact ownsRow_of_block ho fun g hv => Below.heap_setCell _ _ _ _ (hgne g (hl g hv))
  · intro e he
    have hp := hsub e he
    refine ownsRow_of_block hp fun g hv => Below.heap_setCell _ _ _ _ ?_
    obtain ⟨cu, hcu⟩ := ownsRow_obj hp hv
    exact ne_of_elem hcu hc (by decide)

theorem ref_del {w w2 w3 : World} {br k : Nat} {dim cap : Int} {g lc c1 c2 : Nat} {a1 a2 : Option Addr} {L : List Ent} {id : Int} {nq : Nat} (h : RefAt w br dim cap (some ⟨g, 0, none⟩) lc L) (hb2 : Below w.heap.size w w2) (hn : k + (L.length - (k + 1)) + 1 = L.length)
    (hd : delE id L = L.take k ++ L.drop (k + 1)) (hl1 : (Value.slice a1 k c1).ownBlock = (Value.slice none 0 0).ownBlock ∨ (Value.slice a1 k c1).ownBlock = some (w.drewN nq).heap.size)
    (ho : w3.ownsRow 0 90 5 (.slice a2 (k + (L.length - (k + 1))) c2) (k + (L.length - (k + 1))) (rcells (L.take k) ++ rcells (L.drop (k + 1)))) (hg : w2.grownBy w3 (Value.slice a1 k c1).ownBlock) (hl2 : (Value.slice a2 (k + (L.length - (k + 1))) c2).ownBlock = (Value.slice a1 k c1).ownBlock ∨ (Value.slice a2 (k + (L.length - (k + 1))) c2).ownBlock = some w2.heap.size) :
    (∀ g, (Value.slice a2 (delE id L).length c2).ownBlock = some g → w.heap.size ≤ g) ∧ Kept (fun k => k = br) w (w3.setCell ⟨br, 6, none⟩ (.slice a2 (k + (L.length - (k + 1))) c2)) ∧ w3.cell? ⟨br, 6, none⟩ = some (.slice (some ⟨g, 0, none⟩) L.length lc) ∧ w3.frozen? ⟨br, 6, none⟩ = false ∧
      RefAt (w3.setCell ⟨br, 6, none⟩ (.slice a2 (k + (L.length - (k + 1))) c2)) br dim cap a2 c2 (delE id L) := by
  have e1 : ∀ g, (Value.slice a1 k c1).ownBlock = some g → w.heap.size ≤ g := by
    intro g' e'
    rcases hl1 with e | e
    · rw [e'] at e; cases e
    · rw [e', heap_drewN] at e; exact Nat.le_of_eq (Option.some.inj e).symm
  have e2 : ∀ g, (Value.slice a2 (k + (L.length - (k + 1))) c2).ownBlock = some g → w.heap.size ≤ g := by
    intro g' e'
    rcases hl2 with e | e
    · exact e1 g' (e ▸ e')
    · rw [e'] at e; have := Option.some.inj e; have := hb2.size; omega
  have hk : Below w.heap.size w w3 := hb2.grown hg hb2.size e1
  refine ref_new h hb2 ?_ e1 ?_ hg e2 ?_ (rising_delE id h.rising) ?_
  · rw [hd]; simp; omega
  · rw [hd, rcells_append]; exact ho
  · intro e he
    exact (h.below hk).pts e (mem_delE he)
  · have := List.length_filter_le (fun e : Ent => decide (e.id ≠ id)) L
    exact Nat.le_trans this h.small

set_option maxHeartbeats 1000000 in
set_option maxRecDepth 20000 in
theorem delete20_yes (br : Nat) (dim cap : Int) (la : Option Addr) (lc : Nat) (L : List Ent) (id : Int) (e : Ent) (w : World) (h : RefAt w br dim cap la lc L) (he : findE id L = some e) :
    Calls Tryd.prog 20 #[.pointer (some ⟨br, 0, none⟩), .int .i64 id] w fun ev w' => ev = .returned (.int .i64 0) ∧ ∃ la' lc', RefAt w' br dim cap la' lc' (delE id L) ∧ (∀ g, (Value.slice la' (delE id L).length lc').ownBlock = some g → w.heap.size ≤ g) ∧ Kept (fun k => k = br) w w' := by
  have HE : Hid ((findE id L).isSome = true) := by rw [he]; rfl
  have HD := hide (delE_cut h.rising he)
  obtain ⟨hk, hke⟩ := pos_found h.rising he
  obtain ⟨g, rfl⟩ := h.addr (by omega)
  have hr6 := h.r6
  have hbr := h.lt
  have hsm := h.small
  have hcap := ownsRow_len h.row
  obtain ⟨i90, hi, hz0, hz1, hz2⟩ := info_parts info90
  go_enter Tryd.func20, Tryd.ntmps20
  go_wp2_with fail
  refine (find38_any br dim cap _ lc L id _ h).mono ?_
  rintro ev w1 ⟨rfl, nq, rfl⟩
  rw [HE.out]
  have HR := hide (h.drewN nq)
  have H := hide h
  clear he h hke HE
  generalize posE id L = k at *
  go_upto_region 6 with (at_builtin; go_must (refine wpList_append_any _ rfl _ _ 62 rfl 0 90 i90 (.agg #[.int .i64 0, .slice none 0 0, .int .i64 0, .int .i64 0, .int .u64 0]) 5 56 Tryd.underlying62 hi hz0 hz1 hz2 rfl (by decide) (.slice none 0 0) 0 [] rfl (World.ownsRow_nil _ _ _ _) (some ⟨g, 0, none⟩) k _ (rcells (L.take k)) rfl (rcells_take_len L k (by omega)) (rcells_src1 HR.out.row (by omega)) (rcells_one _) (small_len _ (by omega)) (small_bytes _ (by omega)) (Nat.zero_le _) ?_); intro v1 w2 ho1 hg1 hl1; rw [Nat.zero_add, List.nil_append] at ho1; obtain ⟨a1, c1, rfl⟩ := row_form ho1; have hb2 : Below w.heap.size w w2 := (below_drewN (Below.refl _ _) nq).grown hg1 (by simp) (fun k e => by cases e); have hr6' := Below.at hb2 hr6 hbr; have HO1 := hide ho1; have HG1 := hide hg1; have HB2 := hide hb2; have HL1 := hide hl1; have hzw : w.heap.size ≤ w2.heap.size := hb2.size; clear ho1 hg1 hb2 hl1)
  go_wp2_with (at_builtin; go_must (refine wpList_append_any _ rfl _ _ 62 rfl 0 90 i90 (.agg #[.int .i64 0, .slice none 0 0, .int .i64 0, .int .i64 0, .int .u64 0]) 5 56 Tryd.underlying62 hi hz0 hz1 hz2 rfl (by decide) (.slice a1 k c1) k (rcells (L.take k)) rfl HO1.out _ (L.length - (k + 1)) _ (rcells (L.drop (k + 1))) rfl (rcells_drop_len L (k + 1)) ?_ (rcells_one _) (small_len _ (by omega)) (small_bytes _ (by omega)) (Nat.zero_le _) ?_); go_must ((intro hp; rw [if_neg (by omega)]; exact ⟨_, rfl, rcells_src2 (ownsRow_below H.out.row HB2.out) (by omega)⟩)); go_must (intro v2 w3 ho2 hg2 hl2); obtain ⟨a2, c2, rfl⟩ := row_form ho2; go_must (obtain ⟨hfr, hk3, r6c, r6f, hfin⟩ := ref_del H.out HB2.out (by omega) HD.out HL1.out ho2 hg2 hl2); have HF := hide hfin; have HFR := hide hfr; have HK3 := hide hk3; clear hfr hk3 hfin ho2 hg2 hl2)
  all_goals go_ret
  all_goals exact ⟨rfl, _, _, HF.out, HFR.out, HK3.out⟩
end Go.Proofs.YtgilnaheedmmfaaDoor
