import Derived.Test.YtgilnaheedmmfaaDoorRef3
namespace Go.Proofs.YtgilnaheedmmfaaDoor
open Go.RowKit

theorem rcells_set (x : Ent) : ∀ (L : List Ent) (k : Nat), k < L.length →
    (((((rcells L).set (k * 5) (.int .i64 x.id)).set (k * 5 + 1) (.slice (some ⟨x.rb, 0, none⟩) x.pt.length x.rc)).set (k * 5 + 2) (.int .i64 x.t0)).set (k * 5 + 3) (.int .i64 x.t1)).set (k * 5 + 4) (.int .u64 x.draw) = rcells (L.set k x)
  | e :: L, 0, _ => by simp [rcell, rcells]
  | e :: L, k + 1, h => by
    have hl : (rcell e).length = 5 := rfl
    rw [rcells_cons, List.set_cons_succ, rcells_cons, ← rcells_set x L k (by simpa using h)]
    have e0 : (k + 1) * 5 = 5 + k * 5 := by omega
    rw [e0]
    simp only [Nat.add_assoc]
    rw [List.set_append_right _ _ (by omega), List.set_append_right _ _ (by omega), List.set_append_right _ _ (by omega), List.set_append_right _ _ (by omega), List.set_append_right _ _ (by omega), hl]
    congr 1
    congr 1
    · congr 1
      · congr 1
        · congr 1
          · congr 1
            omega
          · omega
        · omega
      · omega
    · omega

set_option maxHeartbeats 1000000 in
theorem put36_bad (br : Nat) (dim cap : Int) (la : Option Addr) (lc : Nat) (L : List Ent) (id t0 t1 draw : Int) (xs : List Int) (v : Value) (w : World) (h : RefAt w br dim cap la lc L) (r : Int) (hr : ptCode dim xs = r) (hbad : (r != 0) = true) (hvl : ∀ o, IntsAt (w.alloc o) v xs) :
    Calls Tryd.prog 36 #[.pointer (some ⟨br, 0, none⟩), .int .i64 id, v, .agg #[.int .i64 t0, .int .i64 t1], .int .u64 draw] w fun ev w' => ev = .returned (.int .i64 r) ∧ Below w.heap.size w w' := by
  have HR := hide hr
  clear hr
  go_enter Tryd.func36, Tryd.ntmps36
  go_wp2_with fail
  refine (point59_any xs v dim br _ (hvl _) (h.alloc _).r0).mono ?_
  rintro ev w1 ⟨rfl, rfl⟩
  rw [HR.out]
  go_wp2
  go_ret
  exact ⟨rfl, (Below.refl _ _).alloc (Nat.le_refl _) _⟩

set_option maxHeartbeats 1000000 in
theorem put36_full (br : Nat) (dim cap : Int) (la : Option Addr) (lc : Nat) (L : List Ent) (id t0 t1 draw : Int) (xs : List Int) (v : Value) (w : World) (h : RefAt w br dim cap la lc L) (hr : ptCode dim xs = 0) (hvl : ∀ o, IntsAt (w.alloc o) v xs)
    (he : findE id L = none) (hfull : cap ≤ L.length) :
    Calls Tryd.prog 36 #[.pointer (some ⟨br, 0, none⟩), .int .i64 id, v, .agg #[.int .i64 t0, .int .i64 t1], .int .u64 draw] w fun ev w' => ev = .returned (.int .i64 4) ∧ Below w.heap.size w w' := by
  have HR := hide hr
  have HE : Hid ((findE id L).isSome = false) := by rw [he]; rfl
  have hd : decide (cap ≤ (L.length : Int)) = true := by simpa using hfull
  have r1 := h.r1
  have r6 := h.r6
  have hbr := h.lt
  clear hr he hfull
  go_enter Tryd.func36, Tryd.ntmps36
  go_wp2_with fail
  refine (point59_any xs v dim br _ (hvl _) (h.alloc _).r0).mono ?_
  rintro ev w1 ⟨rfl, rfl⟩
  rw [HR.out]
  go_wp2_with fail
  refine (find38_any br dim cap la lc L id _ (h.alloc _)).mono ?_
  rintro ev w1 ⟨rfl, nq, rfl⟩
  rw [HE.out]
  clear h
  go_wp2
  go_quiet (fail)
  go_wp2
  go_ret
  refine ⟨rfl, ?_⟩
  repeat (first | exact Below.refl _ _ | refine below_drewN ?_ _ | refine Below.alloc ?_ (by first | omega | (simp; done) | (simp; omega)) _)

theorem small_bytes8 (m : Nat) (h : m ≤ 200) : m * 8 ≤ 140737488355328 := Nat.le_trans (Nat.mul_le_mul_right 8 h) (by decide)
theorem put36_src {w : World} {b off np nq : Nat} {xs : List Int} {T : Obj} (hc : ∀ i, i < xs.length → w.cell? ⟨b, off + i, none⟩ = some (.int .i64 (xs.getD i 0))) (hbb : b < w.heap.size) :
    ∀ j u, (vals xs)[j]? = some u → (((w.alloc T).drewN np).drewN nq).cell? ((⟨b, off, none⟩ : Addr).add j) = some u := by
  intro j u hj
  obtain ⟨hlt, rfl⟩ := vals_get hj
  rw [addr_add]
  exact (World.cell?_alloc_lt _ _ _ (by exact hbb)).trans (hc j hlt)
theorem put36_own {w w2 : World} {g gc np nq : Nat} {xs : List Int} {T : Obj} (ho : w2.ownsRow 0 3 1 (.slice (some ⟨g, 0, none⟩) (0 + xs.length) gc) (0 + xs.length) ([] ++ vals xs)) (hg : (((w.alloc T).drewN np).drewN nq).grownBy w2 (Value.slice none 0 0).ownBlock)
    (hl : (Value.slice none 0 0).ownBlock = some g ∨ g = w.heap.size + 1) : Pts w2 g gc xs ∧ Below w.heap.size w w2 ∧ Below (w.heap.size + 1) (w.alloc T) w2 ∧ g = w.heap.size + 1 := by
  rw [Nat.zero_add, List.nil_append] at ho
  refine ⟨ho, ?_, (below_drewN (below_drewN (Below.refl _ _) np) nq).grown hg (by simp) (fun k e => by cases e), ?_⟩
  · exact (below_drewN (below_drewN ((Below.refl _ _).alloc (Nat.le_refl _) T) np) nq).grown hg (by simp) (fun k e => by cases e)
  · rcases hl with e | e
    · cases e
    · exact e

theorem keep5 {W : World} {g0 b o : Nat} {x : Value} (h : W.cell? ⟨b, o, none⟩ = some x) (hne : g0 ≠ b) (o0 o1 o2 o3 o4 : Nat) (v0 v1 v2 v3 v4 : Value) :
    (((((W.setCell ⟨g0, o0, none⟩ v0).setCell ⟨g0, o1, none⟩ v1).setCell ⟨g0, o2, none⟩ v2).setCell ⟨g0, o3, none⟩ v3).setCell ⟨g0, o4, none⟩ v4).cell? ⟨b, o, none⟩ = some x := by
  rw [World.cell?_setCell_far _ _ _ _ (by exact hne), World.cell?_setCell_far _ _ _ _ (by exact hne), World.cell?_setCell_far _ _ _ _ (by exact hne), World.cell?_setCell_far _ _ _ _ (by exact hne), World.cell?_setCell_far _ _ _ _ (by exact hne)]
  exact h

theorem put36_S {w2 : World} {g0 br : Nat} {x : Value} (h : w2.cell? ⟨br, 6, none⟩ = some x) (hne : g0 ≠ br) (o0 o1 o2 o3 o4 : Nat) (v0 v1 v2 v3 v4 b0 b1 b2 b3 b4 : Value) :
    ((((((w2.setCell ⟨g0, o0, none⟩ v0).setCell ⟨g0, o1, none⟩ v1).setCell ⟨g0, o2, none⟩ v2).setCell ⟨g0, o3, none⟩ v3).setCell ⟨g0, o4, none⟩ v4).alloc (.cells #[b0, b1, b2, b3, b4] 90)).drew.cell? ⟨br, 6, none⟩ = some x ∧
    ((((((w2.setCell ⟨g0, o0, none⟩ v0).setCell ⟨g0, o1, none⟩ v1).setCell ⟨g0, o2, none⟩ v2).setCell ⟨g0, o3, none⟩ v3).setCell ⟨g0, o4, none⟩ v4).alloc (.cells #[b0, b1, b2, b3, b4] 90)).drew.cell? ⟨w2.heap.size, 0, none⟩ = some b0 ∧
    ((((((w2.setCell ⟨g0, o0, none⟩ v0).setCell ⟨g0, o1, none⟩ v1).setCell ⟨g0, o2, none⟩ v2).setCell ⟨g0, o3, none⟩ v3).setCell ⟨g0, o4, none⟩ v4).alloc (.cells #[b0, b1, b2, b3, b4] 90)).drew.cell? ⟨w2.heap.size, 1, none⟩ = some b1 ∧
    ((((((w2.setCell ⟨g0, o0, none⟩ v0).setCell ⟨g0, o1, none⟩ v1).setCell ⟨g0, o2, none⟩ v2).setCell ⟨g0, o3, none⟩ v3).setCell ⟨g0, o4, none⟩ v4).alloc (.cells #[b0, b1, b2, b3, b4] 90)).drew.cell? ⟨w2.heap.size, 2, none⟩ = some b2 ∧
    ((((((w2.setCell ⟨g0, o0, none⟩ v0).setCell ⟨g0, o1, none⟩ v1).setCell ⟨g0, o2, none⟩ v2).setCell ⟨g0, o3, none⟩ v3).setCell ⟨g0, o4, none⟩ v4).alloc (.cells #[b0, b1, b2, b3, b4] 90)).drew.cell? ⟨w2.heap.size, 3, none⟩ = some b3 ∧
    ((((((w2.setCell ⟨g0, o0, none⟩ v0).setCell ⟨g0, o1, none⟩ v1).setCell ⟨g0, o2, none⟩ v2).setCell ⟨g0, o3, none⟩ v3).setCell ⟨g0, o4, none⟩ v4).alloc (.cells #[b0, b1, b2, b3, b4] 90)).drew.cell? ⟨w2.heap.size, 4, none⟩ = some b4 := by
  have hk := keep5 h hne o0 o1 o2 o3 o4 v0 v1 v2 v3 v4
  have hs : (((((w2.setCell ⟨g0, o0, none⟩ v0).setCell ⟨g0, o1, none⟩ v1).setCell ⟨g0, o2, none⟩ v2).setCell ⟨g0, o3, none⟩ v3).setCell ⟨g0, o4, none⟩ v4).heap.size = w2.heap.size := by simp
  generalize ((((w2.setCell ⟨g0, o0, none⟩ v0).setCell ⟨g0, o1, none⟩ v1).setCell ⟨g0, o2, none⟩ v2).setCell ⟨g0, o3, none⟩ v3).setCell ⟨g0, o4, none⟩ v4 = W at *
  have hc : ∀ a, (W.alloc (.cells #[b0, b1, b2, b3, b4] 90)).drew.cell? a = (W.alloc (.cells #[b0, b1, b2, b3, b4] 90)).cell? a := fun _ => rfl
  rw [← hs]
  refine ⟨?_, ?_, ?_, ?_, ?_, ?_⟩ <;> rw [hc]
  · rw [World.cell?_alloc_lt _ _ _ (by exact block_lt_of_cell hk)]; exact hk
  all_goals simp

/-- What the document's Put leaves. -/
def RefPut (w : World) (br : Nat) (dim cap : Int) (la : Option Addr) (lc : Nat) (L : List Ent) (id t0 t1 draw : Int) (xs : List Int) (w' : World) : Prop :=
  ∃ g gc la' lc', w.heap.size ≤ g ∧ (∀ mb mc, RefAt w' br dim cap la' lc' (insE ⟨id, xs, t0, t1, draw, mb, mc, g, gc⟩ L)) ∧
    Kept (fun k => k = br ∨ (Value.slice la L.length lc).ownBlock = some k) w w' ∧ ∀ n b, (Value.slice la' n lc').ownBlock = some b → (Value.slice la L.length lc).ownBlock = some b ∨ w.heap.size ≤ b

theorem setCell_chain {w : World} {g0 b : Nat} (hne : b ≠ g0) (o0 o1 o2 o3 o4 : Nat) (v0 v1 v2 v3 v4 : Value) :
    (((((w.setCell ⟨g0, o0, none⟩ v0).setCell ⟨g0, o1, none⟩ v1).setCell ⟨g0, o2, none⟩ v2).setCell ⟨g0, o3, none⟩ v3).setCell ⟨g0, o4, none⟩ v4).heap[b]? = w.heap[b]? := by
  rw [Below.heap_setCell _ _ _ _ hne, Below.heap_setCell _ _ _ _ hne, Below.heap_setCell _ _ _ _ hne, Below.heap_setCell _ _ _ _ hne, Below.heap_setCell _ _ _ _ hne]

theorem put36_set {w w2 : World} {br g0 lc k g gc : Nat} {dim cap id t0 t1 draw : Int} {L : List Ent} {xs : List Int} {e : Ent} (h : RefAt w br dim cap (some ⟨g0, 0, none⟩) lc L) (hb : Below w.heap.size w w2) (hk : k < L.length) (hkk : posE id L = k) (he : findE id L = some e) (hp : Pts w2 g gc xs) (hg : w.heap.size ≤ g) (B : Obj) :
    RefPut w br dim cap (some ⟨g0, 0, none⟩) lc L id t0 t1 draw xs ((((((w2.setCell ⟨g0, k * 5, none⟩ (.int .i64 id)).setCell ⟨g0, k * 5 + 1, none⟩ (.slice (some ⟨g, 0, none⟩) xs.length gc)).setCell ⟨g0, k * 5 + 2, none⟩ (.int .i64 t0)).setCell ⟨g0, k * 5 + 3, none⟩ (.int .i64 t1)).setCell ⟨g0, k * 5 + 4, none⟩ (.int .u64 draw)).alloc B).drew := by
  have h2 := h.below hb
  obtain ⟨cs, hc⟩ := h2.typ
  obtain ⟨cg, hcg⟩ := ownsRow_obj h2.row (g := g0) rfl
  have hne : g0 ≠ br := ne_of_elem hcg hc (by decide)
  refine ⟨g, gc, some ⟨g0, 0, none⟩, lc, hg, fun mb mc => ?_, ?_, fun _ _ e => .inl e⟩
  · refine RefAt.below (w := ((((w2.setCell ⟨g0, k * 5, none⟩ (.int .i64 id)).setCell ⟨g0, k * 5 + 1, none⟩ (.slice (some ⟨g, 0, none⟩) xs.length gc)).setCell ⟨g0, k * 5 + 2, none⟩ (.int .i64 t0)).setCell ⟨g0, k * 5 + 3, none⟩ (.int .i64 t1)).setCell ⟨g0, k * 5 + 4, none⟩ (.int .u64 draw)) ?_ (((Below.refl _ _).alloc (Nat.le_refl _) B).drew)
    have hins := insE_set (x := ⟨id, xs, t0, t1, draw, mb, mc, g, gc⟩) h.rising he
    rw [show posE (Ent.mk id xs t0 t1 draw mb mc g gc).id L = k from hkk] at hins
    rw [hins]
    have hrow := ownsRow_set (ownsRow_set (ownsRow_set (ownsRow_set (ownsRow_set h2.row (k * 5) (.int .i64 id)) (k * 5 + 1) (.slice (some ⟨g, 0, none⟩) xs.length gc)) (k * 5 + 2) (.int .i64 t0)) (k * 5 + 3) (.int .i64 t1)) (k * 5 + 4) (.int .u64 draw)
    rw [rcells_set ⟨id, xs, t0, t1, draw, mb, mc, g, gc⟩ L k hk] at hrow
    refine ⟨⟨cs, (setCell_chain hne.symm _ _ _ _ _ _ _ _ _ _).trans hc⟩, keep5 h2.r0 hne _ _ _ _ _ _ _ _ _ _, keep5 h2.r1 hne _ _ _ _ _ _ _ _ _ _, ?_, ?_, ?_, ?_, ?_⟩
    · rw [List.length_set]; exact keep5 h2.r6 hne _ _ _ _ _ _ _ _ _ _
    · rw [List.length_set]; exact hrow
    · intro y hy
      have hpy : Pts w2 y.rb y.rc y.pt := by
        rcases List.mem_or_eq_of_mem_set hy with hy | rfl
        · exact h2.pts y hy
        · exact hp
      refine ownsRow_of_block hpy fun b hv => setCell_chain ?_ _ _ _ _ _ _ _ _ _ _
      obtain ⟨cb, hcb⟩ := ownsRow_obj hpy hv
      exact ne_of_elem hcb hcg (by decide)
    · rw [← hins]; exact rising_insE _ h.rising
    · rw [List.length_set]; exact h.small
  · refine Kept.drew (Kept.alloc ?_ B)
    repeat (refine Kept.setCell ?_ (fun _ => .inr rfl) _)
    exact Kept.of_below _ hb

set_option maxHeartbeats 1000000 in
set_option maxRecDepth 20000 in
theorem put36_there (br : Nat) (dim cap : Int) (la : Option Addr) (lc : Nat) (L : List Ent) (id t0 t1 draw : Int) (xs : List Int) (b off pc : Nat) (w : World) (h : RefAt w br dim cap la lc L) (hr : ptCode dim xs = 0) (hvl : ∀ o, IntsAt (w.alloc o) (.slice (some ⟨b, off, none⟩) xs.length pc) xs) (e : Ent)
    (he : findE id L = some e) (h0 : 0 < xs.length) (h8 : xs.length ≤ 8) (hc : ∀ i, i < xs.length → w.cell? ⟨b, off + i, none⟩ = some (.int .i64 (xs.getD i 0))) :
    Calls Tryd.prog 36 #[.pointer (some ⟨br, 0, none⟩), .int .i64 id, .slice (some ⟨b, off, none⟩) xs.length pc, .agg #[.int .i64 t0, .int .i64 t1], .int .u64 draw] w fun ev w' => ev = .returned (.int .i64 0) ∧ RefPut w br dim cap la lc L id t0 t1 draw xs w' := by
  have HR := hide hr
  have HE : Hid ((findE id L).isSome = true) := by rw [he]; rfl
  obtain ⟨hk, hke⟩ := pos_found h.rising he
  have HFE := hide he
  obtain ⟨g0, rfl⟩ := h.addr (by omega)
  obtain ⟨i3, hi3, hz30, hz31, hz32⟩ := info_parts info3
  have r1 := h.r1
  have r6 := h.r6
  have hbr := h.lt
  have hbb := block_lt_of_cell (hc 0 h0)
  have HC := hide hc
  have H := hide h
  clear hr he hc hke
  go_enter Tryd.func36, Tryd.ntmps36
  go_wp2_with fail
  refine (point59_any xs _ dim br _ (hvl _) (h.alloc _).r0).mono ?_
  rintro ev w1 ⟨rfl, rfl⟩
  rw [HR.out]
  go_wp2_with fail
  refine (find38_any br dim cap _ lc L id _ (h.alloc _)).mono ?_
  rintro ev w1 ⟨rfl, np, rfl⟩
  rw [HE.out]
  clear h
  generalize hkk : posE id L = k at *
  have HKK := hide hkk
  clear hkk
  go_wp2
  go_quiet (fail)
  have HN := hide (put36_src (T := .cells #[.int .i64 t0, .int .i64 t1] 43) (np := np) (nq := nq) HC.out hbb)
  go_upto_region 9 with (at_builtin; go_must (refine wpList_append_lies _ rfl _ _ 32 rfl 0 3 i3 (.int .i64 0) 1 8 Tryd.underlying32 hi3 hz30 hz31 hz32 rfl (by decide) (.slice none 0 0) 0 [] rfl (World.ownsRow_nil _ _ _ _) ⟨b, off, none⟩ xs.length pc (vals xs) rfl (by simp [vals]) HN.out (vals_one xs) h0 (small_len _ (by omega)) (small_bytes8 _ (by omega)) (Nat.zero_le _) (w.heap.size + 1) (by simp) ?_); intro g gc w2 ho hg hl hlt; obtain ⟨hp, hb2, hbT, rfl⟩ := put36_own ho hg hl; have HP := hide hp; have HB2 := hide hb2; have u0 : w2.cell? ⟨w.heap.size, 0, none⟩ = some (.int .i64 t0) := Below.at hbT (by simp) (by simp); have u1 : w2.cell? ⟨w.heap.size, 1, none⟩ = some (.int .i64 t1) := Below.at hbT (by simp) (by simp); have hzw : w.heap.size < w2.heap.size := (by have := hbT.size; simp at this; omega); clear hp hbT ho hg hl)
  have H2 := hide (H.out.below HB2.out)
  have s6 : w2.cell? ⟨br, 6, none⟩ = some (.slice (some ⟨g0, 0, none⟩) L.length lc) := H2.out.r6
  have hbr2 : br < w2.heap.size := H2.out.lt
  have hbg : g0 < w2.heap.size := (H2.out.row.lt g0 rfl).2
  have hne : g0 ≠ br := by
    obtain ⟨c1, h1⟩ := H2.out.typ
    obtain ⟨c2, h2⟩ := ownsRow_obj H2.out.row (g := g0) rfl
    exact ne_of_elem h2 h1 (by decide)
  obtain ⟨z0, q0⟩ : ∃ z, w2.cell? ⟨g0, k * 5, none⟩ = some z := ⟨_, ref_cell H2.out.row hk (j := 0) (by omega) rfl⟩
  obtain ⟨z1, q1⟩ : ∃ z, w2.cell? ⟨g0, k * 5 + 1, none⟩ = some z := ⟨_, ref_cell H2.out.row hk (j := 1) (by omega) rfl⟩
  obtain ⟨z2, q2⟩ : ∃ z, w2.cell? ⟨g0, k * 5 + 2, none⟩ = some z := ⟨_, ref_cell H2.out.row hk (j := 2) (by omega) rfl⟩
  obtain ⟨z3, q3⟩ : ∃ z, w2.cell? ⟨g0, k * 5 + 3, none⟩ = some z := ⟨_, ref_cell H2.out.row hk (j := 3) (by omega) rfl⟩
  obtain ⟨z4, q4⟩ : ∃ z, w2.cell? ⟨g0, k * 5 + 4, none⟩ = some z := ⟨_, ref_cell H2.out.row hk (j := 4) (by omega) rfl⟩
  have fq : ∀ o, w2.frozen? ⟨g0, o, none⟩ = false := fun o => ownsRow_frozen H2.out.row o
  clear r1 r6 hvl HC
  have hne2 : g0 ≠ w2.heap.size := by omega
  go_wp2
  go_region_held3 (fun wx => wx.cell? ⟨br, 6, none⟩ = some (.slice (some ⟨g0, 0, none⟩) L.length lc) ∧ wx.cell? ⟨w2.heap.size, 0, none⟩ = some (.int .i64 id) ∧ wx.cell? ⟨w2.heap.size, 1, none⟩ = some (.slice (some ⟨w.heap.size + 1, 0, none⟩) xs.length gc) ∧ wx.cell? ⟨w2.heap.size, 2, none⟩ = some (.int .i64 t0) ∧ wx.cell? ⟨w2.heap.size, 3, none⟩ = some (.int .i64 t1) ∧ wx.cell? ⟨w2.heap.size, 4, none⟩ = some (.int .u64 draw))
    (first | (refine ⟨?_, ?_, ?_, ?_, ?_, ?_⟩ <;> (simp [World.cell?_alloc_past, hbr2, s6]; done)) | (exact put36_S s6 hne _ _ _ _ _ _ _ _ _ _ _ _ _ _ _))
    (fail)
  go_wp2
  go_ret
  exact ⟨rfl, put36_set H.out HB2.out hk HKK.out HFE.out HP.out (by omega) _⟩
end Go.Proofs.YtgilnaheedmmfaaDoor
