import Derived.Deep.Cut
import Derived.Deep.DeepMust
import Derived.Test.YtpkiefjanmfgfaaGreatDoorGra13
import Derived.Test.YtpkiefjanmfgfaaGreatDoorGra14
namespace Go.Proofs.YtpkiefjanmfgfaaGreatDoor
open Go.RowKit

theorem rcells_set (x : Ent) : ∀ (L : List Ent) (k : Nat), k < L.length →
    (((((rcells L).set (k * 5) (.int .i64 x.id)).set (k * 5 + 1) (.slice (some ⟨x.rb, 0, none⟩) x.pt.length x.rc)).set (k * 5 + 2) (.int .i64 x.t0)).set (k * 5 + 3) (.int .i64 x.t1)).set (k * 5 + 4) (.int .u64 x.draw) = rcells (L.set k x)
  | e :: L, 0, _ => by simp [rcell, rcells]
  | e :: L, k + 1, h => by
    have hl : (rcell e).length = 5 := rfl
    rw [rcells_cons, List.set_cons_succ, rcells_cons, ← rcells_set x L k (by simpa using h)]
    have e0 : (k + 1) * 5 = 5 + k * 5 := by omega
    rw [e0]
    simp only [Nat.add_assoc]
    rw [List.set_append_right _ _ (by omega), List.set_append_right _ _ (by omega), List.set_append_right _ _ (by omega), List.set_append_right _ _ (by omega), List.set_append_right _ _ (by omega), hl]
    congr 1
    congr 1
    · congr 1
      · congr 1
        · congr 1
          · congr 1
            omega
          · omega
        · omega
      · omega
    · omega

set_option maxHeartbeats 1000000 in
theorem put36_bad (br : Nat) (cf : Cf) (la : Option Addr) (lc : Nat) (L : List Ent) (id t0 t1 draw : Int) (xs : List Int) (v : Value) (w : World) (h : RefAt w br cf la lc L) (r : Int) (hr : ptCode cf.dim xs = r) (hbad : (r != 0) = true) (hvl : ∀ o, IntsAt (w.alloc o) v xs) :
    Calls Tryz.prog 71 #[.pointer (some ⟨br, 0, none⟩), .int .i64 id, v, .agg #[.int .i64 t0, .int .i64 t1], .int .u64 draw] w fun ev w' => ev = .returned (.int .i64 r) ∧ Below w.heap.size w w' := by
  have HR := hide hr
  clear hr
  go_enter Tryz.func71, Tryz.ntmps71
  go_wp2_with fail
  refine (point59_any xs v cf.dim br _ (hvl _) (h.alloc _).r0).mono ?_
  rintro ev w1 ⟨rfl, rfl⟩
  rw [HR.out]
  go_wp2
  go_ret
  exact ⟨rfl, (Below.refl _ _).alloc (Nat.le_refl _) _⟩

set_option maxHeartbeats 1000000 in
theorem put36_full (br : Nat) (cf : Cf) (la : Option Addr) (lc : Nat) (L : List Ent) (id t0 t1 draw : Int) (xs : List Int) (v : Value) (w : World) (h : RefAt w br cf la lc L) (hr : ptCode cf.dim xs = 0) (hvl : ∀ o, IntsAt (w.alloc o) v xs)
    (he : findE id L = none) (hfull : cf.cap ≤ L.length) :
    Calls Tryz.prog 71 #[.pointer (some ⟨br, 0, none⟩), .int .i64 id, v, .agg #[.int .i64 t0, .int .i64 t1], .int .u64 draw] w fun ev w' => ev = .returned (.int .i64 4) ∧ Below w.heap.size w w' := by
  have HR := hide hr
  have HE : Hid ((findE id L).isSome = false) := by rw [he]; rfl
  have hd : decide (cf.cap ≤ (L.length : Int)) = true := by simpa using hfull
  have r1 := h.r1
  have r6 := h.r6
  have hbr := h.lt
  clear hr he hfull
  go_enter Tryz.func71, Tryz.ntmps71
  go_wp2_with fail
  refine (point59_any xs v cf.dim br _ (hvl _) (h.alloc _).r0).mono ?_
  rintro ev w1 ⟨rfl, rfl⟩
  rw [HR.out]
  go_wp2_with fail
  refine (find38_any br cf la lc L id _ (h.alloc _)).mono ?_
  rintro ev w1 ⟨rfl, nq, rfl⟩
  rw [HE.out]
  clear h
  go_wp2
  go_quiet (fail)
  go_wp2
  go_ret
  refine ⟨rfl, ?_⟩
  repeat (first | exact Below.refl _ _ | refine below_drewN ?_ _ | refine Below.alloc ?_ (by first | omega | (simp; done) | (simp; omega)) _)

theorem small_bytes8 (m : Nat) (h : m ≤ 200) : m * 8 ≤ 140737488355328 := Nat.le_trans (Nat.mul_le_mul_right 8 h) (by decide)
theorem put36_src {w : World} {b off np nq : Nat} {xs : List Int} {T : Obj} (hc : ∀ i, i < xs.length → w.cell? ⟨b, off + i, none⟩ = some (.int .i64 (xs.getD i 0))) (hbb : b < w.heap.size) :
    ∀ j u, (vals xs)[j]? = some u → (((w.alloc T).drewN np).drewN nq).cell? ((⟨b, off, none⟩ : Addr).add j) = some u := by
  intro j u hj
  obtain ⟨hlt, rfl⟩ := vals_get hj
  rw [addr_add]
  exact (World.cell?_alloc_lt _ _ _ (by exact hbb)).trans (hc j hlt)
theorem put36_own {w w2 : World} {g gc np nq : Nat} {xs : List Int} {T : Obj} (ho : w2.ownsRow 0 3 1 (.slice (some ⟨g, 0, none⟩) (0 + xs.length) gc) (0 + xs.length) ([] ++ vals xs)) (hg : (((w.alloc T).drewN np).drewN nq).grownBy w2 (Value.slice none 0 0).ownBlock)
    (hl : (Value.slice none 0 0).ownBlock = some g ∨ g = w.heap.size + 1) : Pts w2 g gc xs ∧ Below w.heap.size w w2 ∧ Below (w.heap.size + 1) (w.alloc T) w2 ∧ g = w.heap.size + 1 := by
  rw [Nat.zero_add, List.nil_append] at ho
  refine ⟨ho, ?_, (below_drewN (below_drewN (Below.refl _ _) np) nq).grown hg (by simp) (fun k e => by cases e), ?_⟩
  · exact (below_drewN (below_drewN ((Below.refl _ _).alloc (Nat.le_refl _) T) np) nq).grown hg (by simp) (fun k e => by cases e)
  · rcases hl with e | e
    · cases e
    · exact e

theorem keep5 {W : World} {g0 b o : Nat} {x : Value} (h : W.cell? ⟨b, o, none⟩ = some x) (hne : g0 ≠ b) (o0 o1 o2 o3 o4 : Nat) (v0 v1 v2 v3 v4 : Value) :
    (((((W.setCell ⟨g0, o0, none⟩ v0).setCell ⟨g0, o1, none⟩ v1).setCell ⟨g0, o2, none⟩ v2).setCell ⟨g0, o3, none⟩ v3).setCell ⟨g0, o4, none⟩ v4).cell? ⟨b, o, none⟩ = some x := by
  rw [World.cell?_setCell_far _ _ _ _ (by exact hne), World.cell?_setCell_far _ _ _ _ (by exact hne), World.cell?_setCell_far _ _ _ _ (by exact hne), World.cell?_setCell_far _ _ _ _ (by exact hne), World.cell?_setCell_far _ _ _ _ (by exact hne)]
  exact h

theorem put36_S {w2 : World} {g0 br : Nat} {x : Value} (h : w2.cell? ⟨br, 6, none⟩ = some x) (hne : g0 ≠ br) (o0 o1 o2 o3 o4 : Nat) (v0 v1 v2 v3 v4 b0 b1 b2 b3 b4 : Value) :
    ((((((w2.setCell ⟨g0, o0, none⟩ v0).setCell ⟨g0, o1, none⟩ v1).setCell ⟨g0, o2, none⟩ v2).setCell ⟨g0, o3, none⟩ v3).setCell ⟨g0, o4, none⟩ v4).alloc (.cells #[b0, b1, b2, b3, b4] 135)).drew.cell? ⟨br, 6, none⟩ = some x ∧
    ((((((w2.setCell ⟨g0, o0, none⟩ v0).setCell ⟨g0, o1, none⟩ v1).setCell ⟨g0, o2, none⟩ v2).setCell ⟨g0, o3, none⟩ v3).setCell ⟨g0, o4, none⟩ v4).alloc (.cells #[b0, b1, b2, b3, b4] 135)).drew.cell? ⟨w2.heap.size, 0, none⟩ = some b0 ∧
    ((((((w2.setCell ⟨g0, o0, none⟩ v0).setCell ⟨g0, o1, none⟩ v1).setCell ⟨g0, o2, none⟩ v2).setCell ⟨g0, o3, none⟩ v3).setCell ⟨g0, o4, none⟩ v4).alloc (.cells #[b0, b1, b2, b3, b4] 135)).drew.cell? ⟨w2.heap.size, 1, none⟩ = some b1 ∧
    ((((((w2.setCell ⟨g0, o0, none⟩ v0).setCell ⟨g0, o1, none⟩ v1).setCell ⟨g0, o2, none⟩ v2).setCell ⟨g0, o3, none⟩ v3).setCell ⟨g0, o4, none⟩ v4).alloc (.cells #[b0, b1, b2, b3, b4] 135)).drew.cell? ⟨w2.heap.size, 2, none⟩ = some b2 ∧
    ((((((w2.setCell ⟨g0, o0, none⟩ v0).setCell ⟨g0, o1, none⟩ v1).setCell ⟨g0, o2, none⟩ v2).setCell ⟨g0, o3, none⟩ v3).setCell ⟨g0, o4, none⟩ v4).alloc (.cells #[b0, b1, b2, b3, b4] 135)).drew.cell? ⟨w2.heap.size, 3, none⟩ = some b3 ∧
    ((((((w2.setCell ⟨g0, o0, none⟩ v0).setCell ⟨g0, o1, none⟩ v1).setCell ⟨g0, o2, none⟩ v2).setCell ⟨g0, o3, none⟩ v3).setCell ⟨g0, o4, none⟩ v4).alloc (.cells #[b0, b1, b2, b3, b4] 135)).drew.cell? ⟨w2.heap.size, 4, none⟩ = some b4 := by
  have hk := keep5 h hne o0 o1 o2 o3 o4 v0 v1 v2 v3 v4
  have hs : (((((w2.setCell ⟨g0, o0, none⟩ v0).setCell ⟨g0, o1, none⟩ v1).setCell ⟨g0, o2, none⟩ v2).setCell ⟨g0, o3, none⟩ v3).setCell ⟨g0, o4, none⟩ v4).heap.size = w2.heap.size := by simp
  generalize ((((w2.setCell ⟨g0, o0, none⟩ v0).setCell ⟨g0, o1, none⟩ v1).setCell ⟨g0, o2, none⟩ v2).setCell ⟨g0, o3, none⟩ v3).setCell ⟨g0, o4, none⟩ v4 = W at *
  have hc : ∀ a, (W.alloc (.cells #[b0, b1, b2, b3, b4] 135)).drew.cell? a = (W.alloc (.cells #[b0, b1, b2, b3, b4] 135)).cell? a := fun _ => rfl
  rw [← hs]
  refine ⟨?_, ?_, ?_, ?_, ?_, ?_⟩ <;> rw [hc]
  · rw [World.cell?_alloc_lt _ _ _ (by exact block_lt_of_cell hk)]; exact hk
  all_goals simp

def RefPut (w : World) (br : Nat) (cf : Cf) (la : Option Addr) (lc : Nat) (L : List Ent) (id t0 t1 draw : Int) (xs : List Int) (w' : World) : Prop :=
  ∃ g gc la' lc', w.heap.size ≤ g ∧ (∀ mb mc, RefAt w' br cf la' lc' (insE ⟨id, xs, t0, t1, draw, mb, mc, g, gc⟩ L)) ∧
    Kept (fun k => k = br ∨ (Value.slice la L.length lc).ownBlock = some k) w w' ∧ ∀ n b, (Value.slice la' n lc').ownBlock = some b → (Value.slice la L.length lc).ownBlock = some b ∨ w.heap.size ≤ b

theorem setCell_chain {w : World} {g0 b : Nat} (hne : b ≠ g0) (o0 o1 o2 o3 o4 : Nat) (v0 v1 v2 v3 v4 : Value) :
    (((((w.setCell ⟨g0, o0, none⟩ v0).setCell ⟨g0, o1, none⟩ v1).setCell ⟨g0, o2, none⟩ v2).setCell ⟨g0, o3, none⟩ v3).setCell ⟨g0, o4, none⟩ v4).heap[b]? = w.heap[b]? := by
  rw [Below.heap_setCell _ _ _ _ hne, Below.heap_setCell _ _ _ _ hne, Below.heap_setCell _ _ _ _ hne, Below.heap_setCell _ _ _ _ hne, Below.heap_setCell _ _ _ _ hne]

theorem put36_set {w w2 : World} {br g0 lc k g gc : Nat} {cf : Cf} {id t0 t1 draw : Int} {L : List Ent} {xs : List Int} {e : Ent} (h : RefAt w br cf (some ⟨g0, 0, none⟩) lc L) (hb : Below w.heap.size w w2) (hk : k < L.length) (hkk : posE id L = k) (he : findE id L = some e) (hp : Pts w2 g gc xs) (hg : w.heap.size ≤ g) (B : Obj) :
    RefPut w br cf (some ⟨g0, 0, none⟩) lc L id t0 t1 draw xs ((((((w2.setCell ⟨g0, k * 5, none⟩ (.int .i64 id)).setCell ⟨g0, k * 5 + 1, none⟩ (.slice (some ⟨g, 0, none⟩) xs.length gc)).setCell ⟨g0, k * 5 + 2, none⟩ (.int .i64 t0)).setCell ⟨g0, k * 5 + 3, none⟩ (.int .i64 t1)).setCell ⟨g0, k * 5 + 4, none⟩ (.int .u64 draw)).alloc B).drew := by
  have h2 := h.below hb
  obtain ⟨cs, hc⟩ := h2.typ
  obtain ⟨cg, hcg⟩ := ownsRow_obj h2.row (g := g0) rfl
  have hne : g0 ≠ br := ne_of_elem hcg hc (by decide)
  refine ⟨g, gc, some ⟨g0, 0, none⟩, lc, hg, fun mb mc => ?_, ?_, fun _ _ e => .inl e⟩
  · refine RefAt.below (w := ((((w2.setCell ⟨g0, k * 5, none⟩ (.int .i64 id)).setCell ⟨g0, k * 5 + 1, none⟩ (.slice (some ⟨g, 0, none⟩) xs.length gc)).setCell ⟨g0, k * 5 + 2, none⟩ (.int .i64 t0)).setCell ⟨g0, k * 5 + 3, none⟩ (.int .i64 t1)).setCell ⟨g0, k * 5 + 4, none⟩ (.int .u64 draw)) ?_ (((Below.refl _ _).alloc (Nat.le_refl _) B).drew)
    have hins := insE_set (x := ⟨id, xs, t0, t1, draw, mb, mc, g, gc⟩) h.rising he
    rw [show posE (Ent.mk id xs t0 t1 draw mb mc g gc).id L = k from hkk] at hins
    rw [hins]
    have hrow := ownsRow_set (ownsRow_set (ownsRow_set (ownsRow_set (ownsRow_set h2.row (k * 5) (.int .i64 id)) (k * 5 + 1) (.slice (some ⟨g, 0, none⟩) xs.length gc)) (k * 5 + 2) (.int .i64 t0)) (k * 5 + 3) (.int .i64 t1)) (k * 5 + 4) (.int .u64 draw)
    rw [rcells_set ⟨id, xs, t0, t1, draw, mb, mc, g, gc⟩ L k hk] at hrow
    refine ⟨⟨cs, (setCell_chain hne.symm _ _ _ _ _ _ _ _ _ _).trans hc⟩, keep5 h2.r0 hne _ _ _ _ _ _ _ _ _ _, keep5 h2.r1 hne _ _ _ _ _ _ _ _ _ _, keep5 h2.r2 hne _ _ _ _ _ _ _ _ _ _, keep5 h2.r3 hne _ _ _ _ _ _ _ _ _ _, keep5 h2.r5 hne _ _ _ _ _ _ _ _ _ _, ?_, ?_, ?_, ?_, ?_⟩
    · rw [List.length_set]; exact keep5 h2.r6 hne _ _ _ _ _ _ _ _ _ _
    · rw [List.length_set]; exact hrow
    · intro y hy
      have hpy : Pts w2 y.rb y.rc y.pt := by
        rcases List.mem_or_eq_of_mem_set hy with hy | rfl
        · exact h2.pts y hy
        · exact hp
      refine ownsRow_of_block hpy fun b hv => setCell_chain ?_ _ _ _ _ _ _ _ _ _ _
      obtain ⟨cb, hcb⟩ := ownsRow_obj hpy hv
      exact ne_of_elem hcb hcg (by decide)
    · rw [← hins]; exact rising_insE _ h.rising
    · rw [List.length_set]; exact h.small
  · refine Kept.drew (Kept.alloc ?_ B)
    repeat (refine Kept.setCell ?_ (fun _ => .inr rfl) _)
    exact Kept.of_below _ hb

set_option maxHeartbeats 1000000 in
set_option maxRecDepth 20000 in
theorem put36_there (br : Nat) (cf : Cf) (la : Option Addr) (lc : Nat) (L : List Ent) (id t0 t1 draw : Int) (xs : List Int) (b off pc : Nat) (w : World) (h : RefAt w br cf la lc L) (hr : ptCode cf.dim xs = 0) (hvl : ∀ o, IntsAt (w.alloc o) (.slice (some ⟨b, off, none⟩) xs.length pc) xs) (e : Ent)
    (he : findE id L = some e) (h0 : 0 < xs.length) (h8 : xs.length ≤ 8) (hc : ∀ i, i < xs.length → w.cell? ⟨b, off + i, none⟩ = some (.int .i64 (xs.getD i 0))) :
    Calls Tryz.prog 71 #[.pointer (some ⟨br, 0, none⟩), .int .i64 id, .slice (some ⟨b, off, none⟩) xs.length pc, .agg #[.int .i64 t0, .int .i64 t1], .int .u64 draw] w fun ev w' => ev = .returned (.int .i64 0) ∧ RefPut w br cf la lc L id t0 t1 draw xs w' := by
  have HR := hide hr
  have HE : Hid ((findE id L).isSome = true) := by rw [he]; rfl
  obtain ⟨hk, hke⟩ := pos_found h.rising he
  have HFE := hide he
  obtain ⟨g0, rfl⟩ := h.addr (by omega)
  obtain ⟨i3, hi3, hz30, hz31, hz32⟩ := info_parts info3
  have r1 := h.r1
  have r6 := h.r6
  have hbr := h.lt
  have hbb := block_lt_of_cell (hc 0 h0)
  have HC := hide hc
  have H := hide h
  clear hr he hc hke
  go_enter Tryz.func71, Tryz.ntmps71
  go_wp2_with fail
  refine (point59_any xs _ cf.dim br _ (hvl _) (h.alloc _).r0).mono ?_
  rintro ev w1 ⟨rfl, rfl⟩
  rw [HR.out]
  go_wp2_with fail
  refine (find38_any br cf _ lc L id _ (h.alloc _)).mono ?_
  rintro ev w1 ⟨rfl, np, rfl⟩
  rw [HE.out]
  clear h
  generalize hkk : posE id L = k at *
  have HKK := hide hkk
  clear hkk
  go_wp2
  go_quiet (fail)
  have HN := hide (put36_src (T := .cells #[.int .i64 t0, .int .i64 t1] 43) (np := np) (nq := nq) HC.out hbb)
  go_upto_region 9 with (at_builtin; go_must (refine wpList_append_lies _ rfl _ _ 32 rfl 0 3 i3 (.int .i64 0) 1 8 Tryz.underlying32 hi3 hz30 hz31 hz32 rfl (by decide) (.slice none 0 0) 0 [] rfl (World.ownsRow_nil _ _ _ _) ⟨b, off, none⟩ xs.length pc (vals xs) rfl (by simp [vals]) HN.out (vals_one xs) h0 (small_len _ (by omega)) (small_bytes8 _ (by omega)) (Nat.zero_le _) (w.heap.size + 1) (by simp) ?_); intro g gc w2 ho hg hl hlt; obtain ⟨hp, hb2, hbT, rfl⟩ := put36_own ho hg hl; have HP := hide hp; have HB2 := hide hb2; have u0 : w2.cell? ⟨w.heap.size, 0, none⟩ = some (.int .i64 t0) := Below.at hbT (by simp) (by simp); have u1 : w2.cell? ⟨w.heap.size, 1, none⟩ = some (.int .i64 t1) := Below.at hbT (by simp) (by simp); have hzw : w.heap.size < w2.heap.size := (by have := hbT.size; simp at this; omega); clear hp hbT ho hg hl)
  have H2 := hide (H.out.below HB2.out)
  have s6 : w2.cell? ⟨br, 6, none⟩ = some (.slice (some ⟨g0, 0, none⟩) L.length lc) := H2.out.r6
  have hbr2 : br < w2.heap.size := H2.out.lt
  have hbg : g0 < w2.heap.size := (H2.out.row.lt g0 rfl).2
  have hne : g0 ≠ br := by
    obtain ⟨c1, h1⟩ := H2.out.typ
    obtain ⟨c2, h2⟩ := ownsRow_obj H2.out.row (g := g0) rfl
    exact ne_of_elem h2 h1 (by decide)
  obtain ⟨z0, q0⟩ : ∃ z, w2.cell? ⟨g0, k * 5, none⟩ = some z := ⟨_, ref_cell H2.out.row hk (j := 0) (by omega) rfl⟩
  obtain ⟨z1, q1⟩ : ∃ z, w2.cell? ⟨g0, k * 5 + 1, none⟩ = some z := ⟨_, ref_cell H2.out.row hk (j := 1) (by omega) rfl⟩
  obtain ⟨z2, q2⟩ : ∃ z, w2.cell? ⟨g0, k * 5 + 2, none⟩ = some z := ⟨_, ref_cell H2.out.row hk (j := 2) (by omega) rfl⟩
  obtain ⟨z3, q3⟩ : ∃ z, w2.cell? ⟨g0, k * 5 + 3, none⟩ = some z := ⟨_, ref_cell H2.out.row hk (j := 3) (by omega) rfl⟩
  obtain ⟨z4, q4⟩ : ∃ z, w2.cell? ⟨g0, k * 5 + 4, none⟩ = some z := ⟨_, ref_cell H2.out.row hk (j := 4) (by omega) rfl⟩
  have fq : ∀ o, w2.frozen? ⟨g0, o, none⟩ = false := fun o => ownsRow_frozen H2.out.row o
  clear r1 r6 hvl HC
  have hne2 : g0 ≠ w2.heap.size := by omega
  go_wp2
  go_region_held3 (fun wx => wx.cell? ⟨br, 6, none⟩ = some (.slice (some ⟨g0, 0, none⟩) L.length lc) ∧ wx.cell? ⟨w2.heap.size, 0, none⟩ = some (.int .i64 id) ∧ wx.cell? ⟨w2.heap.size, 1, none⟩ = some (.slice (some ⟨w.heap.size + 1, 0, none⟩) xs.length gc) ∧ wx.cell? ⟨w2.heap.size, 2, none⟩ = some (.int .i64 t0) ∧ wx.cell? ⟨w2.heap.size, 3, none⟩ = some (.int .i64 t1) ∧ wx.cell? ⟨w2.heap.size, 4, none⟩ = some (.int .u64 draw))
    (first | (refine ⟨?_, ?_, ?_, ?_, ?_, ?_⟩ <;> (simp [World.cell?_alloc_past, hbr2, s6]; done)) | (exact put36_S s6 hne _ _ _ _ _ _ _ _ _ _ _ _ _ _ _))
    (fail)
  go_wp2
  go_ret
  exact ⟨rfl, put36_set H.out HB2.out hk HKK.out HFE.out HP.out (by omega) _⟩
end Go.Proofs.YtpkiefjanmfgfaaGreatDoor
namespace Go.Proofs.YtpkiefjanmfgfaaGreatDoor
open Go.RowKit

theorem row_cap {w : World} {base e size n c : Nat} {a : Option Addr} {xs : List Value} (h : w.ownsRow base e size (.slice a n c) n xs) : n ≤ c := by
  rcases h.2 with ⟨hv, hn⟩ | ⟨g, cap, cur, hv, _, _, hc, _⟩
  · omega
  · simp only [Value.slice.injEq] at hv
    omega
theorem src_take {w : World} {la : Option Addr} {n lc k : Nat} {L : List Ent} (h : w.ownsRow 0 135 5 (.slice la n lc) n (rcells L)) (hk : k ≤ L.length) : ∀ o, 0 < k → ∃ a, la = some a ∧ ∀ j u, (rcells (L.take k))[j]? = some u → (w.alloc o).cell? (a.add j) = some u := by
  intro o h0
  rcases h.2 with ⟨hv, hn⟩ | ⟨g, cap, cur, hv, _⟩
  · have := h.1
    rw [rcells_length] at this
    omega
  · simp only [Value.slice.injEq] at hv
    obtain ⟨rfl, _, rfl⟩ := hv
    refine ⟨_, rfl, fun j u hj => ?_⟩
    rw [addr_add, Nat.zero_add, World.cell?_alloc_lt _ _ _ (by exact (h.lt g rfl).2)]
    exact ownsRow_cell h (rcells_take L k hk hj)

theorem cell_five (w : World) (b0 b1 b2 b3 b4 : Value) : ∀ j u, [b0, b1, b2, b3, b4][j]? = some u → (w.alloc (.cells #[b0, b1, b2, b3, b4] 135)).cell? ((⟨w.heap.size, 0, none⟩ : Addr).add j) = some u := by
  intro j u hj
  rw [addr_add, Nat.zero_add, World.cell?_alloc_new]
  simpa using hj
theorem one_five (id : Int) (v : Value) (t0 t1 draw : Int) (h : v.oneCell' = true := by rfl) : ∀ u ∈ [Value.int .i64 id, v, Value.int .i64 t0, Value.int .i64 t1, Value.int .u64 draw], u.oneCell' = true := by
  intro u hu
  simp at hu
  rcases hu with rfl | rfl | rfl | rfl | rfl
  · rfl
  · exact h
  all_goals rfl
theorem new_first {w2 w3 : World} {b0 b1 b2 b3 b4 : Value} (hg : (w2.alloc (.cells #[b0, b1, b2, b3, b4] 135)).grownBy w3 (Value.slice none 0 0).ownBlock) :
    Below w2.heap.size w2 w3 ∧ w3.cell? ⟨w2.heap.size, 0, none⟩ = some b0 ∧ w3.cell? ⟨w2.heap.size, 1, none⟩ = some b1 ∧ w3.cell? ⟨w2.heap.size, 2, none⟩ = some b2 ∧ w3.cell? ⟨w2.heap.size, 3, none⟩ = some b3 ∧ w3.cell? ⟨w2.heap.size, 4, none⟩ = some b4 :=
  ⟨((Below.refl _ _).alloc (Nat.le_refl _) _).grown hg (by simp) (fun k e => by cases e), hg.cell (by simp) (by intro e; cases e), hg.cell (by simp) (by intro e; cases e), hg.cell (by simp) (by intro e; cases e), hg.cell (by simp) (by intro e; cases e), hg.cell (by simp) (by intro e; cases e)⟩
theorem new_second {w2 w3 w4 : World} {a1 : Option Addr} {k c1 g2 H : Nat} {o : Obj} (hz : w2.heap.size < w3.heap.size) (hl1 : (Value.slice a1 k c1).ownBlock = (Value.slice none 0 0).ownBlock ∨ (Value.slice a1 k c1).ownBlock = some H) (hH : w2.heap.size ≤ H) (hg : (w3.alloc o).grownBy w4 (Value.slice a1 k c1).ownBlock)
    (hl2 : (Value.slice a1 k c1).ownBlock = some g2 ∨ g2 = w3.heap.size + 1) : Below w2.heap.size w3 w4 ∧ w2.heap.size ≤ g2 := by
  have h1 : ∀ g, (Value.slice a1 k c1).ownBlock = some g → w2.heap.size ≤ g := by
    intro g e
    rcases hl1 with h | h
    · rw [e] at h; cases h
    · rw [e] at h; have := Option.some.inj h; omega
  refine ⟨((Below.refl _ _).alloc (by omega) _).grown hg (by simp; omega) h1, ?_⟩
  rcases hl2 with h | h
  · exact h1 _ h
  · omega

theorem src_drop {w : World} {la : Option Addr} {n lc k : Nat} {L : List Ent} (h : w.ownsRow 0 135 5 (.slice la n lc) n (rcells L)) (hk : k ≤ L.length) (h0 : 0 < L.length - k) : ∃ g, la = some ⟨g, 0, none⟩ ∧ ∀ j u, (rcells (L.drop k))[j]? = some u → w.cell? (((⟨g, 0, none⟩ : Addr).add (k * 5)).add j) = some u := by
  rcases h.2 with ⟨hv, hn⟩ | ⟨g, cap, cur, hv, _⟩
  · have := h.1
    rw [rcells_length] at this
    omega
  · simp only [Value.slice.injEq] at hv
    obtain ⟨rfl, _, rfl⟩ := hv
    refine ⟨g, rfl, fun j u hj => ?_⟩
    rw [addr_add, addr_add, Nat.zero_add]
    exact ownsRow_cell h (rcells_drop L k hk hj)

theorem put_fin {w w2 w4 w5 : World} {br k g2 gc c2 c3 lc mb mc : Nat} {cf : Cf} {id t0 t1 draw : Int} {la a3 : Option Addr} {L : List Ent} {xs : List Int} (h : RefAt w br cf la lc L) (hb2 : Below w.heap.size w w2) (hb24 : Below w2.heap.size w2 w4) (hp : Pts w2 (w.heap.size + 1) gc xs) (hg2 : w2.heap.size ≤ g2) (hcap : L.length < 60)
    (hk : k ≤ L.length) (hkk : posE id L = k) (he : findE id L = none)
    (ho : w5.ownsRow 0 135 5 (.slice a3 (k + 1 + (L.length - k)) c3) (k + 1 + (L.length - k)) (rcells (L.take k) ++ [.int .i64 id, .slice (some ⟨w.heap.size + 1, 0, none⟩) xs.length gc, .int .i64 t0, .int .i64 t1, .int .u64 draw] ++ rcells (L.drop k)))
    (hg : w4.grownBy w5 (Value.slice (some ⟨g2, 0, none⟩) (k + 1) c2).ownBlock) (hl : (Value.slice a3 (k + 1 + (L.length - k)) c3).ownBlock = (Value.slice (some ⟨g2, 0, none⟩) (k + 1) c2).ownBlock ∨ (Value.slice a3 (k + 1 + (L.length - k)) c3).ownBlock = some w4.heap.size) (hz : w.heap.size < w2.heap.size) (_hm : mb = mc) :
    w5.cell? ⟨br, 6, none⟩ = some (.slice la L.length lc) ∧ w5.frozen? ⟨br, 6, none⟩ = false ∧ RefPut w br cf la lc L id t0 t1 draw xs (w5.setCell ⟨br, 6, none⟩ (.slice a3 (k + 1 + (L.length - k)) c3)) := by
  have hb4 : Below w.heap.size w w4 := hb2.trans (hb24.mono hb2.size)
  have hrow : ∀ g, (Value.slice (some ⟨g2, 0, none⟩) (k + 1) c2).ownBlock = some g → w2.heap.size ≤ g := by
    intro g e
    have : g2 = g := by simpa [Value.ownBlock] using e
    omega
  have hnew : ∀ g, (Value.slice a3 (k + 1 + (L.length - k)) c3).ownBlock = some g → w.heap.size ≤ g := by
    intro g e
    rcases hl with h | h
    · have := hrow g (h ▸ e); omega
    · rw [e] at h; have := Option.some.inj h; have := hb4.size; omega
  have hb25 : Below w2.heap.size w2 w5 := hb24.grown hg hb24.size hrow
  have hp5 : Pts w5 (w.heap.size + 1) gc xs := ownsRow_below hp hb25
  have key : ∀ mb mc, _ := fun mb mc => ref_new (M := insE ⟨id, xs, t0, t1, draw, mb, mc, w.heap.size + 1, gc⟩ L) h hb4 (n2 := k + 1 + (L.length - k)) (a2 := a3) (c2 := c3) (w3 := w5)
    (by rw [length_insE_none _ (by exact he)]; omega) (fun g e => by have := hrow g e; omega)
    (by
      rw [insE_new h.rising (by exact he)]
      rw [show posE (Ent.mk id xs t0 t1 draw mb mc (w.heap.size + 1) gc).id L = k from hkk, rcells_append, rcells_cons]
      simpa [rcell] using ho) hg hnew
    (by
      intro e he'
      rcases mem_insE he' with rfl | he'
      · exact hp5
      · exact ownsRow_below ((h.below hb2).pts e he') hb25) (rising_insE _ h.rising) (by rw [length_insE_none _ (by exact he)]; omega)
  obtain ⟨_, hk0, h6, hf, _⟩ := key 0 0
  refine ⟨h6, hf, w.heap.size + 1, gc, a3, c3, by omega, fun mb mc => (key mb mc).2.2.2.2, hk0.mono (fun k _ hk => .inl hk), fun n b e => .inr (hnew b (by cases a3 <;> exact e))⟩

set_option maxHeartbeats 1000000 in
set_option maxRecDepth 20000 in
theorem put36_new (br : Nat) (cf : Cf) (la : Option Addr) (lc : Nat) (L : List Ent) (id t0 t1 draw : Int) (xs : List Int) (b off pc : Nat) (w : World) (h : RefAt w br cf la lc L) (hr : ptCode cf.dim xs = 0) (hvl : ∀ o, IntsAt (w.alloc o) (.slice (some ⟨b, off, none⟩) xs.length pc) xs)
    (he : findE id L = none) (hroom : ¬ cf.cap ≤ L.length) (h60 : cf.cap ≤ 60) (h0 : 0 < xs.length) (h8 : xs.length ≤ 8) (hc : ∀ i, i < xs.length → w.cell? ⟨b, off + i, none⟩ = some (.int .i64 (xs.getD i 0))) :
    Calls Tryz.prog 71 #[.pointer (some ⟨br, 0, none⟩), .int .i64 id, .slice (some ⟨b, off, none⟩) xs.length pc, .agg #[.int .i64 t0, .int .i64 t1], .int .u64 draw] w fun ev w' => ev = .returned (.int .i64 0) ∧ RefPut w br cf la lc L id t0 t1 draw xs w' := by
  have HR := hide hr
  have HE : Hid ((findE id L).isSome = false) := by rw [he]; rfl
  have hk := posE_le id L
  have hd : decide (cf.cap ≤ (L.length : Int)) = false := by simpa using hroom
  have hlt60 : L.length < 60 := by omega
  have HFE := hide he
  obtain ⟨i90, hi, hz0, hz1, hz2⟩ := info_parts info90
  have hsm := h.small
  have hcap := row_cap h.row
  obtain ⟨i3, hi3, hz30, hz31, hz32⟩ := info_parts info3
  have r1 := h.r1
  have r6 := h.r6
  have hbr := h.lt
  have hbb := block_lt_of_cell (hc 0 h0)
  have HC := hide hc
  have H := hide h
  clear hr he hc hroom
  go_enter Tryz.func71, Tryz.ntmps71
  go_wp2_with fail
  refine (point59_any xs _ cf.dim br _ (hvl _) (h.alloc _).r0).mono ?_
  rintro ev w1 ⟨rfl, rfl⟩
  rw [HR.out]
  go_wp2_with fail
  refine (find38_any br cf _ lc L id _ (h.alloc _)).mono ?_
  rintro ev w1 ⟨rfl, np, rfl⟩
  rw [HE.out]
  clear h
  generalize hkk : posE id L = k at *
  have HKK := hide hkk
  clear hkk
  go_wp2
  go_quiet (fail)
  have HN := hide (put36_src (T := .cells #[.int .i64 t0, .int .i64 t1] 43) (np := np) (nq := nq) HC.out hbb)
  go_upto_region 9 with (at_builtin; go_must (refine wpList_append_lies _ rfl _ _ 32 rfl 0 3 i3 (.int .i64 0) 1 8 Tryz.underlying32 hi3 hz30 hz31 hz32 rfl (by decide) (.slice none 0 0) 0 [] rfl (World.ownsRow_nil _ _ _ _) ⟨b, off, none⟩ xs.length pc (vals xs) rfl (by simp [vals]) HN.out (vals_one xs) h0 (small_len _ (by omega)) (small_bytes8 _ (by omega)) (Nat.zero_le _) (w.heap.size + 1) (by simp) ?_); intro g gc w2 ho hg hl hlt; obtain ⟨hp, hb2, hbT, rfl⟩ := put36_own ho hg hl; have HP := hide hp; have HB2 := hide hb2; have u0 : w2.cell? ⟨w.heap.size, 0, none⟩ = some (.int .i64 t0) := Below.at hbT (by simp) (by simp); have u1 : w2.cell? ⟨w.heap.size, 1, none⟩ = some (.int .i64 t1) := Below.at hbT (by simp) (by simp); have hzw : w.heap.size < w2.heap.size := (by have := hbT.size; simp at this; omega); clear hp hbT ho hg hl)
  have H2 := hide (H.out.below HB2.out)
  have s6 : w2.cell? ⟨br, 6, none⟩ = some (.slice la L.length lc) := H2.out.r6
  have hbr2 : br < w2.heap.size := H2.out.lt
  clear r1 r6 hvl HC
  have X1 := hide (src_take H2.out.row hk)
  go_upto_region 15 with (at_builtin; go_must (refine wpList_append_any _ rfl _ _ 90 rfl 0 135 i90 (.agg #[.int .i64 0, .slice none 0 0, .int .i64 0, .int .i64 0, .int .u64 0]) 5 56 Tryz.underlying90 hi hz0 hz1 hz2 rfl (by decide) (.slice none 0 0) 0 [] rfl (World.ownsRow_nil _ _ _ _) la k _ (rcells (L.take k)) rfl (rcells_take_len L k hk) (X1.out _) (rcells_one _) (small_len _ (by omega)) (small_bytes _ (by omega)) (Nat.zero_le _) ?_); go_must (intro v1 w3 ho1 hg1 hl1; rw [Nat.zero_add, List.nil_append] at ho1; obtain ⟨a1, c1, rfl⟩ := row_form ho1; obtain ⟨hb3, k0, k1, k2, k3, k4⟩ := new_first hg1; have hb3w := HB2.out.trans (hb3.mono (Nat.le_of_lt hzw)); have y6 := Below.at hb3 s6 hbr2; have HO1 := hide ho1; have HL1 := hide hl1; have HB3 := hide hb3; have HB3W := hide hb3w; have hz3 : w2.heap.size < w3.heap.size := block_lt_of_cell k0; clear ho1 hg1 hl1 hb3 hb3w))
  go_upto_region 16 with (at_builtin; go_must (refine wpList_append_lies _ rfl _ _ 90 rfl 0 135 i90 (.agg #[.int .i64 0, .slice none 0 0, .int .i64 0, .int .i64 0, .int .u64 0]) 5 56 Tryz.underlying90 hi hz0 hz1 hz2 rfl (by decide) (.slice a1 k c1) k (rcells (L.take k)) rfl (HO1.out.alloc _) ⟨w3.heap.size, 0, none⟩ 1 1 [.int .i64 id, .slice (some ⟨w.heap.size + 1, 0, none⟩) xs.length gc, .int .i64 t0, .int .i64 t1, .int .u64 draw] rfl rfl (cell_five _ _ _ _ _ _) (one_five _ _ _ _ _) (by decide) (small_len _ (by omega)) (small_bytes _ (by omega)) (Nat.zero_le _) (w3.heap.size + 1) (by simp) ?_); go_must (intro g2 c2 w4 ho2 hg2 hl2 hlt2; obtain ⟨hb4, hg2z⟩ := new_second hz3 HL1.out (by simp) hg2 hl2; have y62 := Below.at hb4 y6 hbr2; have HO2 := hide ho2; have HB4 := hide hb4; have HG2 := hide hg2z; have hz4 : w3.heap.size ≤ w4.heap.size := hb4.size; clear ho2 hg2 hl2 hb4 hg2z))
  have HB24 := hide (HB3.out.trans HB4.out)
  go_wp2_with (at_builtin; go_must (refine wpList_append_any _ rfl _ _ 90 rfl 0 135 i90 (.agg #[.int .i64 0, .slice none 0 0, .int .i64 0, .int .i64 0, .int .u64 0]) 5 56 Tryz.underlying90 hi hz0 hz1 hz2 rfl (by decide) (.slice (some ⟨g2, 0, none⟩) (k + 1) c2) (k + 1) _ rfl HO2.out _ (L.length - k) _ (rcells (L.drop k)) rfl (rcells_drop_len L k) ?_ (rcells_one _) (small_len _ (by omega)) (small_bytes _ (by omega)) (Nat.zero_le _) ?_); go_must ((intro hp; obtain ⟨g0, hg0, hsrc⟩ := src_drop (ownsRow_below H2.out.row HB24.out) hk hp; rw [if_neg (by omega), hg0]; exact ⟨_, rfl, hsrc⟩)); go_must (intro v3 w5 ho3 hg3 hl3; obtain ⟨a3, c3, rfl⟩ := row_form ho3; obtain ⟨z6, z6f, hfin⟩ := put_fin (mb := 0) (mc := 0) H.out HB2.out HB24.out HP.out HG2.out (by omega) hk HKK.out HFE.out ho3 hg3 hl3 hzw (by omega); have HF := hide hfin; clear hfin ho3 hg3 hl3))
  all_goals go_ret
  all_goals (refine ⟨rfl, ?_⟩; first | exact HF.out | (subst_vars; exact HF.out))

theorem put36_ok (br : Nat) (cf : Cf) (la : Option Addr) (lc : Nat) (L : List Ent) (id t0 t1 draw : Int) (xs : List Int) (b off pc : Nat) (w : World) (h : RefAt w br cf la lc L) (hr : ptCode cf.dim xs = 0) (hvl : ∀ o, IntsAt (w.alloc o) (.slice (some ⟨b, off, none⟩) xs.length pc) xs)
    (hroom : (findE id L).isSome = true ∨ ¬ cf.cap ≤ L.length) (h60 : cf.cap ≤ 60) (h0 : 0 < xs.length) (h8 : xs.length ≤ 8) (hc : ∀ i, i < xs.length → w.cell? ⟨b, off + i, none⟩ = some (.int .i64 (xs.getD i 0))) :
    Calls Tryz.prog 71 #[.pointer (some ⟨br, 0, none⟩), .int .i64 id, .slice (some ⟨b, off, none⟩) xs.length pc, .agg #[.int .i64 t0, .int .i64 t1], .int .u64 draw] w fun ev w' => ev = .returned (.int .i64 0) ∧ RefPut w br cf la lc L id t0 t1 draw xs w' := by
  cases he : findE id L with
  | some e => exact put36_there br cf la lc L id t0 t1 draw xs b off pc w h hr hvl e he h0 h8 hc
  | none =>
    rcases hroom with hx | hx
    · rw [he] at hx; cases hx
    · exact put36_new br cf la lc L id t0 t1 draw xs b off pc w h hr hvl he hx h60 h0 h8 hc
end Go.Proofs.YtpkiefjanmfgfaaGreatDoor
namespace Go.Proofs.YtpkiefjanmfgfaaGreatDoor
open Go.RowKit

section
variable {w0 w : World} {bp : Nat} {lv0 nsv0 nmv0 lv nsv nmv : Value} {nl ns nm : Nat}
theorem InS.mark (h : InS w0 bp lv0 nsv0 nmv0 w lv nl nsv ns nmv nm) (nx : Int) (nq : Nat) : InS w0 bp lv0 nsv0 nmv0 ((w.setCell ⟨bp, 7, none⟩ (.int .i64 nx)).drewN nq) lv nl nsv ns nmv nm := by
  obtain ⟨b6, h6⟩ := h.c6
  obtain ⟨b7, h7⟩ := h.c7
  obtain ⟨ys, hy⟩ := h.hs
  obtain ⟨zs, hz⟩ := h.hm
  obtain ⟨ls, hls⟩ := h.hl
  obtain ⟨cs, hc⟩ := h.typ
  have rs : ∀ {e : Nat} {v : Value} {n : Nat} {l : List Value}, e ≠ 41 → w.ownsRow 0 e 1 v n l → ((w.setCell ⟨bp, 7, none⟩ (.int .i64 nx)).drewN nq).ownsRow 0 e 1 v n l := fun {e v n l} he hr => ownsRow_drewN (ownsRow_of_block hr fun g hv => Below.heap_setCell _ _ _ _ (by
    obtain ⟨c2, h2⟩ := ownsRow_obj hr hv
    exact (ne_of_elem hc h2 (fun e' => he e'.symm)).symm)) nq
  refine ⟨⟨_, by rw [heap_drewN]; exact heap_setCell_same _ _ _ _ _ _ hc⟩, fun o v ho hv => (World.cell?_setCell_other w ⟨bp, 7, none⟩ ⟨bp, o, none⟩ _ (by simp <;> omega)).trans (h.low o v ho hv), ⟨b6, ?_⟩, ⟨nx, World.cell?_setCell_same w ⟨bp, 7, none⟩ _ h7⟩, ?_, ?_, ⟨ls, rs (by decide) hls⟩, ⟨ys, rs (by decide) hy⟩, ⟨zs, rs (by decide) hz⟩, h.apart, h.ll, h.ls, h.lm, (h.kept.setCell (fun _ => .inl rfl) _).drewN nq⟩
  · exact (World.cell?_setCell_other w ⟨bp, 7, none⟩ ⟨bp, 6, none⟩ _ (by simp)).trans h6
  · exact (World.cell?_setCell_other w ⟨bp, 7, none⟩ ⟨bp, 8, none⟩ _ (by simp)).trans h.c8
  · exact (World.cell?_setCell_other w ⟨bp, 7, none⟩ ⟨bp, 9, none⟩ _ (by simp)).trans h.c9

theorem InS.setL {g n c : Nat} (h : InS w0 bp lv0 nsv0 nmv0 w (.slice (some ⟨g, 0, none⟩) n c) n nsv ns nmv nm) (j : Nat) (u : Value) : InS w0 bp lv0 nsv0 nmv0 (w.setCell ⟨g, j, none⟩ u) (.slice (some ⟨g, 0, none⟩) n c) n nsv ns nmv nm := by
  obtain ⟨b6, h6⟩ := h.c6
  obtain ⟨b7, h7⟩ := h.c7
  obtain ⟨ys, hy⟩ := h.hs
  obtain ⟨zs, hz⟩ := h.hm
  obtain ⟨ls, hls⟩ := h.hl
  obtain ⟨cs, hc⟩ := h.typ
  obtain ⟨cl, hcl⟩ := ownsRow_obj hls (g := g) rfl
  have hne : g ≠ bp := ne_of_elem hcl hc (by decide)
  have cl : ∀ {o : Nat} {v : Value}, w.cell? ⟨bp, o, none⟩ = some v → (w.setCell ⟨g, j, none⟩ u).cell? ⟨bp, o, none⟩ = some v := fun hh => by
    rw [World.cell?_setCell_far _ _ _ _ (by exact hne)]; exact hh
  refine ⟨⟨cs, (Below.heap_setCell _ _ _ _ hne.symm).trans hc⟩, fun o v ho hv => cl (h.low o v ho hv), ⟨b6, cl h6⟩, ⟨b7, cl h7⟩, cl h.c8, cl h.c9, ⟨_, ownsRow_set hls j u⟩, ⟨ys, ownsRow_of_block hy fun g' hv => Below.heap_setCell _ _ _ _ ?_⟩, ⟨zs, ownsRow_of_block hz fun g' hv => Below.heap_setCell _ _ _ _ ?_⟩, h.apart, h.ll, h.ls, h.lm, h.kept.setCell (fun hlt => ?_) _⟩
  · obtain ⟨c2, h2⟩ := ownsRow_obj hy hv
    exact ne_of_elem h2 hcl (by decide)
  · intro e
    have e' : g' = g := e
    subst e'
    exact h.apart g' rfl hv
  · rcases h.ll g rfl with e | e
    · exact .inr (.inl e)
    · exact absurd e (by have : g < w0.heap.size := hlt; omega)
end

theorem bd1 (nn : Nat) (h : (nn + 4) * 24 ≤ 140737488355328) : ∀ q, q < 4 → (nn + q + 1) * 24 ≤ 140737488355328 := fun q _ => Nat.le_trans (Nat.mul_le_mul_right 24 (by omega)) h
theorem bd2 (nn : Nat) (h : (nn + 4) * 24 ≤ 140737488355328) : ∀ q, q < 4 → (nn + q + 1) * 8 ≤ 140737488355328 := fun q hq => Nat.le_trans (Nat.mul_le_mul_left (nn + q + 1) (by decide)) (bd1 nn h q hq)
theorem bd3 (n : Nat) (h : (n + 4) * 8 ≤ 140737488355328) : ∀ q, q < 4 → (n + q + 1) * 8 ≤ 140737488355328 := fun q _ => Nat.le_trans (Nat.mul_le_mul_right 8 (by omega)) h
theorem md3 (n : Nat) (h : (n + 4) * 8 ≤ 140737488355328) : ∀ q, q < 4 → n + q + 1 ≤ maxLen := by intro q hq; unfold maxLen; omega
theorem md1 (nn : Nat) (h : (nn + 4) * 24 ≤ 140737488355328) : ∀ q, q < 4 → nn + q + 1 ≤ maxLen := md3 nn (Nat.le_trans (Nat.mul_le_mul_left (nn + 4) (by decide)) h)
theorem cell_one_new' (w : World) (x : Value) (t : TypeId) (H0 : Nat) (h : H0 = w.heap.size) : ∀ j u, [x][j]? = some u → (w.alloc (.cells #[x] t)).cell? ((⟨H0, 0, none⟩ : Addr).add j) = some u := by
  subst h
  exact cell_one_new w x t
theorem one_of_row {w : World} {base e size n : Nat} {v : Value} {xs : List Value} (h : w.ownsRow base e size v n xs) : ∀ u ∈ [v], u.oneCell' = true := by
  intro u hu
  simp at hu
  subst hu
  exact ownsRow_oneCell h

set_option maxHeartbeats 1000000 in
set_option maxRecDepth 10000 in
theorem ints35_any (bp : Nat) (a : Option Addr) (n c : Nat) (nsv nmv : Value) (nn : Nat) (w : World) (h : InS w bp (.slice a n c) nsv nmv w (.slice a n c) n nsv nn nmv nn) (hn : (n + 4) * 8 ≤ 140737488355328) (hnn : (nn + 4) * 24 ≤ 140737488355328) :
    Calls Tryz.prog 70 #[.pointer (some ⟨bp, 6, none⟩), .slice a n c] w fun ev w' => ev = .returned (.tuple #[]) ∧ ∃ lv' nsv' nmv', InS w bp (.slice a n c) nsv nmv w' lv' (n + 4) nsv' (nn + 4) nmv' (nn + 4) := by
  have hn2 : n ≤ 17592186044416 := by omega
  have B1 := hide (bd1 nn hnn)
  have B2 := hide (bd2 nn hnn)
  have B3 := hide (bd3 n hn)
  have M1 := hide (md1 nn hnn)
  have M3 := hide (md3 n hn)
  clear hn hnn
  obtain ⟨i3, hi3, hz30, hz31, hz32⟩ := info_parts info3
  obtain ⟨i32, hi32, hz320, hz321, hz322⟩ := info_parts info32
  obtain ⟨b6, h6⟩ := h.c6
  obtain ⟨b7, h7⟩ := h.c7
  have h7f := h.frozen 7
  have H := hide h
  clear h
  go_enter Tryz.func70, Tryz.ntmps70
  go_wp2_with fail
  refine (mark58_any bp b6 b7 _ h6 h7 h7f).mono ?_
  rintro ev w1 ⟨m, nx, nq, rfl, rfl⟩
  have H1 := hide (H.out.mark nx nq)
  generalize (w.setCell ⟨bp, 7, none⟩ (.int .i64 nx)).drewN nq = w1 at *
  clear h6 h7 h7f
  go_wp2
  go_loopw [5] (fun i wr => ∃ k : Nat, k ≤ n ∧ i = .int .i64 k ∧ Hid (InS w bp (.slice a n c) nsv nmv wr (.slice a n c) n nsv nn nmv nn)) (fun i _ => n - (intOf i).toNat)
  case atStart => exact ⟨0, Nat.zero_le _, rfl, H1⟩
  case round =>
    obtain ⟨k, hk, rfl, hr⟩ := hrel
    by_cases hlt : k < n
    · obtain ⟨xs, hxs⟩ := hr.out.hl
      rcases hxs.2 with ⟨_, h0⟩ | ⟨g, cap, cur, hv, _⟩
      · omega
      simp only [Value.slice.injEq] at hv
      obtain ⟨rfl, _, rfl⟩ := hv
      have hxl : xs.length = n := by simpa using hxs.1
      have hcx : wr.cell? ⟨g, k, none⟩ = some xs[k] := ownsRow_cell hxs (List.getElem?_eq_getElem (by omega))
      have hfx := ownsRow_frozen hxs k
      generalize xs[k] = x at hcx
      clear hxs hxl
      go_wp2
      exact ⟨⟨k + 1, by omega, by go_num, hr.out.setL k _⟩, by simp [intOf]; omega⟩
    · have H2 : Hid (InS w bp (.slice a n c) nsv nmv wr (.slice a n c) n nsv nn nmv nn) := hr
      clear hr H1
      go_wp2
      go_loopw [1, 6] (fun l i wr => ∃ (k : Nat) (al : Option Addr) (cl : Nat) (nsv' nmv' : Value), k ≤ 4 ∧ i = .int .i64 k ∧ l = .slice al (n + k) cl ∧ Hid (InS w bp (.slice a n c) nsv nmv wr (.slice al (n + k) cl) (n + k) nsv' (nn + k) nmv' (nn + k))) (fun _ i _ => 4 - (intOf i).toNat)
      case atStart => exact ⟨0, a, c, nsv, nmv, Nat.zero_le _, rfl, rfl, H2⟩
      case round =>
        clear H2
        obtain ⟨q, al, cl, nsv', nmv', hq, rfl, rfl, hr⟩ := hrel
        by_cases hlt : q < 4
        · have c8 := hr.out.c8
          have hbl := hr.out.lt
          obtain ⟨ls, hls⟩ := hr.out.hl
          obtain ⟨ys, hys⟩ := hr.out.hs
          have HL1 := hide (one_of_row hls)
          have HYS := hide hys
          clear hls hys
          go_upto_region 9 with (at_builtin; refine wpList_append_lies _ rfl _ _ 31 rfl 0 32 i32 (.slice none 0 0) 1 24 Tryz.underlying31 hi32 hz320 hz321 hz322 rfl (by decide) nsv' (nn + q) ys rfl (HYS.out.alloc _) ⟨wr.heap.size, 0, none⟩ 1 1 [.slice al (n + q) cl] rfl rfl (cell_one_new _ _ _) HL1.out (by decide) (M1.out q hlt) (B1.out q hlt) (Nat.zero_le _) (wr.heap.size + 1) (by simp) ?_; intro g1 cap1 w2 ho1 hg1 hl1 hlt1; obtain ⟨hS2, k8, k9, kf⟩ := hr.out.stepN ho1 hg1 (hl1.imp (fun e => e.symm) (fun e => congrArg some e)); obtain ⟨zs, hzs⟩ := hS2.hm; have HS2 := hide hS2; have HZS := hide hzs; clear hS2 hzs ho1 hg1 hl1)
          go_upto_region 10 with (at_builtin; go_must (refine wpList_append_lies _ rfl _ _ 32 rfl 0 3 i3 (.int .i64 0) 1 8 Tryz.underlying32 hi3 hz30 hz31 hz32 rfl (by decide) nmv' (nn + q) zs rfl (HZS.out.alloc _) ⟨w2.heap.size, 0, none⟩ 1 1 [.int .i64 (wrap64 (-m))] rfl rfl (cell_one_new' _ _ _ _ (by simp)) (ints_oneCell .i64 [wrap64 (-m)]) (by decide) (M1.out q hlt) (B2.out q hlt) (Nat.zero_le _) (w2.heap.size + 1) (by simp) ?_); intro g2 cap2 w3 ho2 hg2 hl2 hlt2; obtain ⟨hS3, m9, mf⟩ := HS2.out.stepM ho2 hg2 (hl2.imp (fun e => e.symm) (fun e => (congrArg some e).trans (by simp))); obtain ⟨ls, hls⟩ := hS3.hl; have HS3 := hide hS3; have HLS := hide hls; clear hS3 hls ho2 hg2 hl2)
          go_wp2_with (at_builtin; go_must (refine wpList_append_lies _ rfl _ _ 32 rfl 0 3 i3 (.int .i64 0) 1 8 Tryz.underlying32 hi3 hz30 hz31 hz32 rfl (by decide) (.slice al (n + q) cl) (n + q) ls rfl (HLS.out.alloc _) ⟨w3.heap.size, 0, none⟩ 1 1 [.int .i64 (wrap64 (-m))] rfl rfl (cell_one_new' _ _ _ _ (by simp)) (ints_oneCell .i64 [wrap64 (-m)]) (by decide) (M3.out q hlt) (B3.out q hlt) (Nat.zero_le _) (w3.heap.size + 1) (by simp) ?_); intro g3 cap3 w4 ho3 hg3 hl3 hlt3; have HS4 := hide (HS3.out.stepL ho3 hg3 (hl3.imp (fun e => e.symm) (fun e => (congrArg some e).trans (by simp)))))
          refine ⟨⟨q + 1, some ⟨g3, 0, none⟩, cap3, _, _, by omega, by go_num, rfl, HS4⟩, by simp [intOf]; omega⟩
        · obtain rfl : q = 4 := by omega
          go_wp2
          go_end0
          exact ⟨rfl, _, _, _, hr.out⟩
end Go.Proofs.YtpkiefjanmfgfaaGreatDoor
namespace Go.Proofs.YtpkiefjanmfgfaaGreatDoor
open Go.RowKit Go.Maps

theorem IntsAt.below {w w' : World} {v : Value} {xs : List Int} (h : IntsAt w v xs) (hb : Below w.heap.size w w') : IntsAt w' v xs := by
  obtain ⟨a, cap, rfl, h1, h2, h3⟩ := h
  refine ⟨a, cap, rfl, h1, h2, ?_⟩
  rcases h3 with h3 | ⟨b, off, rfl, hc⟩
  · exact .inl h3
  · exact .inr ⟨b, off, rfl, fun i hi => Below.at hb (hc i hi) (block_lt_of_cell (hc i hi))⟩
theorem IntsAt.lt {w : World} {v : Value} {xs : List Int} (h : IntsAt w v xs) : ∀ b off n c, v = .slice (some ⟨b, off, none⟩) n c → 0 < xs.length → b < w.heap.size := by
  obtain ⟨a, cap, rfl, h1, h2, h3⟩ := h
  intro b off n c e h0
  rcases h3 with rfl | ⟨b', off', rfl, hc⟩
  · simp at h0
  · simp only [Value.slice.injEq, Option.some.injEq, Addr.mk.injEq] at e
    obtain ⟨⟨rfl, _⟩, _⟩ := e
    exact block_lt_of_cell (hc 0 h0)

theorem RefAt.keptS {S : Nat → Prop} {w w' : World} {br : Nat} {cf : Cf} {la : Option Addr} {lc : Nat} {L : List Ent} (h : RefAt w br cf la lc L) (hk : Kept S w w') (h1 : ¬ S br) (h2 : ∀ g, (Value.slice la L.length lc).ownBlock = some g → ¬ S g) (h3 : ∀ e ∈ L, ¬ S e.rb) : RefAt w' br cf la lc L := by
  obtain ⟨cs, hc⟩ := h.typ
  have hlt := h.lt
  exact ⟨⟨cs, (hk.block br hlt h1).trans hc⟩, hk.cell h.r0 h1, hk.cell h.r1 h1, hk.cell h.r2 h1, hk.cell h.r3 h1, hk.cell h.r5 h1, hk.cell h.r6 h1, ownsRow_kept h.row hk h2, fun e he => ownsRow_kept (h.pts e he) hk fun g hg => by
    obtain rfl : e.rb = g := by simpa [Value.ownBlock] using hg
    exact h3 e he, h.rising, h.small⟩

structure BookAt (w : World) (bp : Nat) (nsv nmv : Value) (nn : Nat) : Prop where
  typ : ∃ cs, w.heap[bp]? = some (.cells cs 41 (0, 0))
  c6 : ∃ b, w.cell? ⟨bp, 6, none⟩ = some (.int .i64 b)
  c7 : ∃ b, w.cell? ⟨bp, 7, none⟩ = some (.int .i64 b)
  c8 : w.cell? ⟨bp, 8, none⟩ = some nsv
  c9 : w.cell? ⟨bp, 9, none⟩ = some nmv
  hs : ∃ xs, w.ownsRow 0 32 1 nsv nn xs
  hm : ∃ xs, w.ownsRow 0 3 1 nmv nn xs
theorem BookAt.lt {w : World} {bp : Nat} {nsv nmv : Value} {nn : Nat} (h : BookAt w bp nsv nmv nn) : bp < w.heap.size := by
  obtain ⟨cs, hc⟩ := h.typ
  exact (Array.getElem?_eq_some_iff.1 hc).1
theorem BookAt.frozen {w : World} {bp : Nat} {nsv nmv : Value} {nn : Nat} (h : BookAt w bp nsv nmv nn) (o : Nat) : w.frozen? ⟨bp, o, none⟩ = false := by
  obtain ⟨cs, hc⟩ := h.typ
  simp [World.frozen?, hc]
theorem BookAt.keptS {S : Nat → Prop} {w w' : World} {bp : Nat} {nsv nmv : Value} {nn : Nat} (h : BookAt w bp nsv nmv nn) (hk : Kept S w w') (h1 : ¬ S bp) (h2 : ∀ g, nsv.ownBlock = some g → ¬ S g) (h3 : ∀ g, nmv.ownBlock = some g → ¬ S g) : BookAt w' bp nsv nmv nn := by
  obtain ⟨cs, hc⟩ := h.typ
  obtain ⟨b6, h6⟩ := h.c6
  obtain ⟨b7, h7⟩ := h.c7
  obtain ⟨xs, hx⟩ := h.hs
  obtain ⟨ys, hy⟩ := h.hm
  exact ⟨⟨cs, (hk.block bp h.lt h1).trans hc⟩, ⟨b6, hk.cell h6 h1⟩, ⟨b7, hk.cell h7 h1⟩, hk.cell h.c8 h1, hk.cell h.c9 h1, ⟨xs, ownsRow_kept hx hk h2⟩, ⟨ys, ownsRow_kept hy hk h3⟩⟩
theorem BookAt.setF {w : World} {bp : Nat} {nsv nmv : Value} {nn : Nat} (h : BookAt w bp nsv nmv nn) {o : Nat} (ho : o < 6) (u : Value) : BookAt (w.setCell ⟨bp, o, none⟩ u) bp nsv nmv nn := by
  obtain ⟨cs, hc⟩ := h.typ
  obtain ⟨b6, h6⟩ := h.c6
  obtain ⟨b7, h7⟩ := h.c7
  obtain ⟨xs, hx⟩ := h.hs
  obtain ⟨ys, hy⟩ := h.hm
  have rs : ∀ {e : Nat} {v : Value} {n : Nat} {l : List Value}, e ≠ 41 → w.ownsRow 0 e 1 v n l → (w.setCell ⟨bp, o, none⟩ u).ownsRow 0 e 1 v n l := fun {e v n l} he hr => ownsRow_of_block hr fun g hv => Below.heap_setCell _ _ _ _ (by
    obtain ⟨c2, h2⟩ := ownsRow_obj hr hv
    exact (ne_of_elem hc h2 (fun e' => he e'.symm)).symm)
  have cl : ∀ {k : Nat} {v : Value}, 6 ≤ k → w.cell? ⟨bp, k, none⟩ = some v → (w.setCell ⟨bp, o, none⟩ u).cell? ⟨bp, k, none⟩ = some v := fun hk hh => by
    rw [World.cell?_setCell_other _ _ _ _ (by simp <;> omega)]; exact hh
  exact ⟨⟨_, heap_setCell_same _ _ _ _ _ _ hc⟩, ⟨b6, cl (by omega) h6⟩, ⟨b7, cl (by omega) h7⟩, cl (by omega) h.c8, cl (by omega) h.c9, ⟨xs, rs (by decide) hx⟩, ⟨ys, rs (by decide) hy⟩⟩

structure XAt (w : World) (bp : Nat) (x : Bks) : Prop where
  c10 : w.cell? ⟨bp, 10, none⟩ = some x.hsv
  c11 : w.cell? ⟨bp, 11, none⟩ = some x.hmv
  c12 : w.cell? ⟨bp, 12, none⟩ = some x.gsv
  c13 : w.cell? ⟨bp, 13, none⟩ = some x.gmv
  c14 : w.cell? ⟨bp, 14, none⟩ = some x.lsv
  c15 : w.cell? ⟨bp, 15, none⟩ = some x.lmv
  hs : ∃ xs, w.ownsRow 0 58 1 x.hsv x.nh xs
  hm : ∃ xs, w.ownsRow 0 3 1 x.hmv x.nh xs
  gs : ∃ xs, w.ownsRow 0 81 1 x.gsv x.ng xs
  gm : ∃ xs, w.ownsRow 0 3 1 x.gmv x.ng xs
  ls : ∃ xs, w.ownsRow 0 31 1 x.lsv x.nl xs
  lm : ∃ xs, w.ownsRow 0 3 1 x.lmv x.nl xs
  dj : (∀ g, x.hmv.ownBlock = some g → x.gmv.ownBlock ≠ some g ∧ x.lmv.ownBlock ≠ some g) ∧ ∀ g, x.gmv.ownBlock = some g → x.lmv.ownBlock ≠ some g
theorem XAt.lt {w : World} {bp : Nat} {x : Bks} (h : XAt w bp x) {k : Nat} (hk : x.own k) : k < w.heap.size := by
  obtain ⟨_, h1⟩ := h.hs
  obtain ⟨_, h2⟩ := h.hm
  obtain ⟨_, h3⟩ := h.gs
  obtain ⟨_, h4⟩ := h.gm
  obtain ⟨_, h5⟩ := h.ls
  obtain ⟨_, h6⟩ := h.lm
  rcases hk with e | e | e | e | e | e
  · exact (h1.lt k e).2
  · exact (h2.lt k e).2
  · exact (h3.lt k e).2
  · exact (h4.lt k e).2
  · exact (h5.lt k e).2
  · exact (h6.lt k e).2
theorem XAt.rows {S : Nat → Prop} {w w' : World} {bp : Nat} {x : Bks} (h : XAt w bp x) (hk : Kept S w w') (h2 : ∀ k, x.own k → ¬ S k) (hc : ∀ o v, 9 < o → w.cell? ⟨bp, o, none⟩ = some v → w'.cell? ⟨bp, o, none⟩ = some v) : XAt w' bp x := by
  obtain ⟨x1, q1⟩ := h.hs
  obtain ⟨x2, q2⟩ := h.hm
  obtain ⟨x3, q3⟩ := h.gs
  obtain ⟨x4, q4⟩ := h.gm
  obtain ⟨x5, q5⟩ := h.ls
  obtain ⟨x6, q6⟩ := h.lm
  exact ⟨hc _ _ (by decide) h.c10, hc _ _ (by decide) h.c11, hc _ _ (by decide) h.c12, hc _ _ (by decide) h.c13, hc _ _ (by decide) h.c14, hc _ _ (by decide) h.c15,
    ⟨x1, ownsRow_kept q1 hk fun g e => h2 g (.inl e)⟩, ⟨x2, ownsRow_kept q2 hk fun g e => h2 g (.inr (.inl e))⟩, ⟨x3, ownsRow_kept q3 hk fun g e => h2 g (.inr (.inr (.inl e)))⟩, ⟨x4, ownsRow_kept q4 hk fun g e => h2 g (.inr (.inr (.inr (.inl e))))⟩, ⟨x5, ownsRow_kept q5 hk fun g e => h2 g (.inr (.inr (.inr (.inr (.inl e)))))⟩, ⟨x6, ownsRow_kept q6 hk fun g e => h2 g (.inr (.inr (.inr (.inr (.inr e)))))⟩, h.dj⟩
theorem XAt.keptS {S : Nat → Prop} {w w' : World} {bp : Nat} {x : Bks} (h : XAt w bp x) (hk : Kept S w w') (h1 : ¬ S bp) (h2 : ∀ k, x.own k → ¬ S k) : XAt w' bp x :=
  h.rows hk h2 fun _ _ _ hv => hk.cell hv h1

structure Apt (W0 : World) (A bp bb bs bm br : Nat) (gn : Net) (la : Option Addr) (lc : Nat) (nsv nmv : Value) (L M : List Ent) : Prop where
  old : W0.heap.size ≤ A
  p : A ≠ bp
  b : A ≠ bb
  s : A ≠ bs
  m : A ≠ bm
  r : A ≠ br
  ns : nsv.ownBlock ≠ some A
  nm : nmv.ownBlock ≠ some A
  l : (Value.slice la M.length lc).ownBlock ≠ some A
  mb : ∀ e ∈ L, A ≠ e.mb
  rb : ∀ e ∈ M, A ≠ e.rb
  f : ¬ gn.F A
structure Apart (W0 : World) (A bp bb bs bm br : Nat) (gn : Net) (la : Option Addr) (lc : Nat) (nsv nmv : Value) (L M : List Ent) : Prop extends Apt W0 A bp bb bs bm br gn la lc nsv nmv L M where
  x : ¬ gn.ex.own A

structure PairAt (W0 w : World) (bp bb bs bm br : Nat) (cf : Cf) (gn : Net) (la : Option Addr) (lc : Nat) (nsv nmv : Value) (nn : Nat) (L M : List Ent) : Prop where
  p0 : w.cell? ⟨bp, 0, none⟩ = some (.pointer (some ⟨bb, 0, none⟩))
  p1 : w.cell? ⟨bp, 1, none⟩ = some (.pointer (some ⟨br, 0, none⟩))
  p2 : w.cell? ⟨bp, 2, none⟩ = some (.int .i64 gn.lows)
  p3 : w.cell? ⟨bp, 3, none⟩ = some (.int .i64 gn.lows)
  p4 : ∃ x : { x : Int // x = gn.lst }, w.cell? ⟨bp, 4, none⟩ = some (.int .i64 x.1)
  p5 : ∃ x : { x : Bool // x = gn.pt }, w.cell? ⟨bp, 5, none⟩ = some (.bool x.1)
  book : BookAt w bp nsv nmv nn
  base : BaseAt w bb bs bm cf gn L
  ref : RefAt w br cf la lc M
  tb : ∃ cs, w.heap[bb]? = some (.cells cs 102 (0, 0))
  ts : ∃ cs, w.heap[bs]? = some (.cells cs 155 (0, 0))
  am : (∀ e ∈ L, nmv.ownBlock ≠ some e.mb) ∧ ∀ e ∈ M, nmv.ownBlock ≠ some e.rb
  old : Below W0.heap.size W0 w
  pos : 0 < W0.heap.size
  lbp : W0.heap.size ≤ bp
  lbb : W0.heap.size ≤ bb
  lbm : W0.heap.size ≤ bm
  lbr : W0.heap.size ≤ br
  lla : ∀ g, (Value.slice la M.length lc).ownBlock = some g → W0.heap.size ≤ g
  lns : ∀ g, nsv.ownBlock = some g → W0.heap.size ≤ g
  lnm : ∀ g, nmv.ownBlock = some g → W0.heap.size ≤ g
  pf : ∀ k, gn.F k → W0.heap.size ≤ k ∧ k ≠ bp ∧ k ≠ br ∧ nsv.ownBlock ≠ some k ∧ nmv.ownBlock ≠ some k ∧ (Value.slice la M.length lc).ownBlock ≠ some k ∧ ∀ e ∈ M, k ≠ e.rb
  x : XAt w bp gn.ex
  xa : ∀ k, gn.ex.own k → Apt W0 k bp bb bs bm br gn la lc nsv nmv L M
  xn : gn.ex.nh ≤ nn ∧ gn.ex.ng ≤ nn ∧ gn.ex.nl ≤ nn

def PutOk (gn : Net) : Prop := gn.pt = true → (∃ t, levOf gn.lev gn.lst = some t) ∧ (1 < gn.lev.length → gn.lk (gn.lst, 0) ≠ [])
def Lk (gn : Net) (nn : Nat) : Prop := gn.lows = gn.looks ∧ 0 ≤ gn.looks ∧ gn.looks ≤ 400 * (nn : Int) ∧ PutOk gn
theorem Lk.mono {gn : Net} {nn nn' : Nat} (h : Lk gn nn) (hn : nn ≤ nn') : Lk gn nn' := ⟨h.1, h.2.1, by have := h.2.2.1; omega, h.2.2.2⟩
theorem Lk.put {gn gn' : Net} {nn : Nat} (h : Lk gn nn) (hl : gn.like gn') {id : Int} (h5 : ∃ t, levOf gn'.lev id = some t) (h6 : 1 < gn'.lev.length → gn'.lk (id, 0) ≠ []) : Lk { gn' with lst := id, pt := true } nn := by
  obtain ⟨l1, _, l3, _⟩ := hl
  obtain ⟨h1, h2, h3, _⟩ := h
  exact ⟨by show gn'.lows = gn'.looks; rw [l3, l1, h1], by show 0 ≤ gn'.looks; rw [l1]; exact h2, by show gn'.looks ≤ _; rw [l1]; exact h3, fun _ => ⟨h5, h6⟩⟩
theorem Lk.gone {gn gn' : Net} {nn : Nat} (h : Lk gn nn) (hl : gn.like gn') : Lk { gn' with pt := false } nn := by
  obtain ⟨l1, _, l3, _⟩ := hl
  obtain ⟨h1, h2, h3, _⟩ := h
  exact ⟨by show gn'.lows = gn'.looks; rw [l3, l1, h1], by show 0 ≤ gn'.looks; rw [l1]; exact h2, by show gn'.looks ≤ _; rw [l1]; exact h3, fun e => by cases e⟩
theorem Net.pt_eq {gn : Net} {b : Bool} (h : b = gn.pt) : ({ gn with pt := b } : Net) = gn := by subst h; rfl

section
variable {W0 w w' : World} {bp bb bs bm br : Nat} {cf : Cf} {gn : Net} {la : Option Addr} {lc : Nat} {nsv nmv : Value} {nn : Nat} {L M : List Ent}

theorem PairAt.below (h : PairAt W0 w bp bb bs bm br cf gn la lc nsv nmv nn L M) (hb : Below w.heap.size w w') : PairAt W0 w' bp bb bs bm br cf gn la lc nsv nmv nn L M := by
  obtain ⟨x4, h4⟩ := h.p4
  obtain ⟨x5, h5⟩ := h.p5
  obtain ⟨cb, hcb⟩ := h.tb
  obtain ⟨cs, hcs⟩ := h.ts
  have hlt := h.book.lt
  exact ⟨Below.at hb h.p0 hlt, Below.at hb h.p1 hlt, Below.at hb h.p2 hlt, Below.at hb h.p3 hlt, ⟨x4, Below.at hb h4 hlt⟩, ⟨x5, Below.at hb h5 hlt⟩, h.book.keptS (Kept.of_below (fun _ => False) hb) id (fun _ _ => id) (fun _ _ => id), h.base.below hb, h.ref.below hb, ⟨cb, (hb.block _ (Array.getElem?_eq_some_iff.1 hcb).1).trans hcb⟩, ⟨cs, (hb.block _ (Array.getElem?_eq_some_iff.1 hcs).1).trans hcs⟩, h.am, h.old.trans (hb.mono h.old.size), h.pos, h.lbp, h.lbb, h.lbm, h.lbr, h.lla, h.lns, h.lnm, h.pf, h.x.keptS (Kept.of_below (fun _ => False) hb) id (fun _ _ => id), h.xa, h.xn⟩
theorem PairAt.alloc (h : PairAt W0 w bp bb bs bm br cf gn la lc nsv nmv nn L M) (o : Obj) : PairAt W0 (w.alloc o) bp bb bs bm br cf gn la lc nsv nmv nn L M := h.below ((Below.refl _ _).alloc (Nat.le_refl _) o)

theorem PairAt.other (h : PairAt W0 w bp bb bs bm br cf gn la lc nsv nmv nn L M) {A : Nat} (hk : Kept (fun k => k = A) w w') (hA : w.heap.size ≤ A) : PairAt W0 w' bp bb bs bm br cf gn la lc nsv nmv nn L M :=
  h.below (hk.toBelow (Nat.le_refl _) (fun k hk => by omega))

theorem PairAt.turned (h : PairAt W0 w bp bb bs bm br cf gn la lc nsv nmv nn L M) (hk : Kept (fun k => k = bm ∨ gn.F k) w w') :
    w'.cell? ⟨bp, 0, none⟩ = some (.pointer (some ⟨bb, 0, none⟩)) ∧ w'.cell? ⟨bp, 1, none⟩ = some (.pointer (some ⟨br, 0, none⟩)) ∧ w'.cell? ⟨bp, 2, none⟩ = some (.int .i64 gn.lows) ∧ w'.cell? ⟨bp, 3, none⟩ = some (.int .i64 gn.lows) ∧ (∃ x : { x : Int // x = gn.lst }, w'.cell? ⟨bp, 4, none⟩ = some (.int .i64 x.1)) ∧ (∃ x : { x : Bool // x = gn.pt }, w'.cell? ⟨bp, 5, none⟩ = some (.bool x.1)) ∧ BookAt w' bp nsv nmv nn ∧ RefAt w' br cf la lc M ∧
      (∃ cs, w'.heap[bb]? = some (.cells cs 102 (0, 0))) ∧ (∃ cs, w'.heap[bs]? = some (.cells cs 155 (0, 0))) ∧ Below W0.heap.size W0 w' ∧ XAt w' bp gn.ex := by
  obtain ⟨x4, h4⟩ := h.p4
  obtain ⟨x5, h5⟩ := h.p5
  obtain ⟨cb, hcb⟩ := h.tb
  obtain ⟨cs, hcs⟩ := h.ts
  have hm := h.base.map
  have hne : ∀ {b : Nat} {c : Array Value} {e : TypeId}, w.heap[b]? = some (.cells c e (0, 0)) → ¬ gn.F b → ¬ (b = bm ∨ gn.F b) := fun hb hf e => e.elim (hm.mb_ne hb) hf
  have f1 : ¬ gn.F bp := fun e => (h.pf _ e).2.1 rfl
  have f2 : ¬ gn.F br := fun e => (h.pf _ e).2.2.1 rfl
  have f3 : ¬ gn.F bb := fun e => (h.base.foot _ e).2.2.1 rfl
  have f4 : ¬ gn.F bs := fun e => (h.base.foot _ e).2.2.2.1 rfl
  obtain ⟨cp, hcp⟩ := h.book.typ
  obtain ⟨cr, hcr⟩ := h.ref.typ
  refine ⟨hk.cell h.p0 (hne hcp f1), hk.cell h.p1 (hne hcp f1), hk.cell h.p2 (hne hcp f1), hk.cell h.p3 (hne hcp f1), ⟨x4, hk.cell h4 (hne hcp f1)⟩, ⟨x5, hk.cell h5 (hne hcp f1)⟩, h.book.keptS hk (hne hcp f1) ?_ ?_, h.ref.keptS hk (hne hcr f2) ?_ ?_, ⟨cb, (hk.block _ (Array.getElem?_eq_some_iff.1 hcb).1 (hne hcb f3)).trans hcb⟩, ⟨cs, (hk.block _ (Array.getElem?_eq_some_iff.1 hcs).1 (hne hcs f4)).trans hcs⟩, h.old.trans (hk.toBelow h.old.size (fun k hk => hk.elim (fun e => by rw [e]; exact h.lbm) (fun e => (h.pf k e).1))), h.x.keptS hk (hne hcp f1) (fun k hx e => e.elim (fun e => (h.xa k hx).m e) (h.xa k hx).f)⟩
  · intro g hg
    obtain ⟨xs, hx⟩ := h.book.hs
    obtain ⟨c, hc⟩ := ownsRow_obj hx hg
    exact hne hc (fun e => (h.pf _ e).2.2.2.1 hg)
  · intro g hg
    obtain ⟨xs, hx⟩ := h.book.hm
    obtain ⟨c, hc⟩ := ownsRow_obj hx hg
    exact hne hc (fun e => (h.pf _ e).2.2.2.2.1 hg)
  · intro g hg
    obtain ⟨c, hc⟩ := ownsRow_obj h.ref.row hg
    exact hne hc (fun e => (h.pf _ e).2.2.2.2.2.1 hg)
  · intro e he
    obtain ⟨c, hc⟩ := (h.ref.pts e he).obj
    exact hne hc (fun f => (h.pf _ f).2.2.2.2.2.2 e he rfl)
end
end Go.Proofs.YtpkiefjanmfgfaaGreatDoor
