import Derived.Test.YtpkiefjanmfgfaaGreatDoorSea12
import Derived.Test.YtpkiefjanmfgfaaGreatDoorSea17
import Derived.Test.YtpkiefjanmfgfaaGreatDoorSea21
import Derived.Test.YtpkiefjanmfgfaaGreatDoorSea23
namespace Go.Proofs.YtpkiefjanmfgfaaGreatDoor
open Go.RowKit

/-- Which of n things a raw number speaks of. -/
def pickI (c n : Int) : Int := (if c < 0 then -(c + 1) else c) % n
theorem pickI_in {c n : Int} (hn : 0 < n) : 0 ≤ pickI c n ∧ pickI c n < n := ⟨Int.emod_nonneg _ (by omega), Int.emod_lt_of_pos _ hn⟩
def coordI (c : Int) : Int := pickI c 41 - 20
theorem coordI_crd (c : Int) : Crd (coordI c) := by
  have := pickI_in (c := c) (n := 41) (by omega)
  unfold Crd coordI
  omega
theorem i64_bounds {n : Int} (h : I64 n) : -9223372036854775808 ≤ n ∧ n ≤ 9223372036854775807 := by
  have h1 : IntKind.i64.min = -9223372036854775808 := by decide
  have h2 : IntKind.i64.max = 9223372036854775807 := by decide
  unfold I64 at h
  simp [Lit.wf, h1, h2] at h
  omega

set_option maxHeartbeats 400000 in
theorem pick17 (c n : Int) (hc : I64 c) (hn : 0 < n) (w : World) : Calls Tryz.prog 17 #[.int .i64 c, .int .i64 n] w fun ev w' => ev = .returned (.int .i64 (pickI c n)) ∧ w = w' := by
  have hb := i64_bounds hc
  have hn0 : ¬ n = 0 := by omega
  by_cases h0 : c < 0
  · have hd : decide (c < 0) = true := decide_eq_true h0
    have w1 : IntKind.i64.wrap (c + 1) = c + 1 := by rw [IntKind.wrap_i64]; omega
    have w2 : IntKind.i64.wrap (-(c + 1)) = -(c + 1) := by rw [IntKind.wrap_i64]; omega
    have t1 : (-(c + 1)).tmod n = -(c + 1) % n := Int.tmod_eq_emod_of_nonneg (by omega)
    have HP : Hid (pickI c n = -(c + 1) % n) := by unfold pickI; rw [if_pos h0]; exact rfl
    go_enter Tryz.func17, Tryz.ntmps17
    go_wp2
    go_ret
    exact ⟨by rw [HP.out]; rfl, rfl⟩
  · have hd : decide (c < 0) = false := decide_eq_false h0
    have t1 : c.tmod n = c % n := Int.tmod_eq_emod_of_nonneg (by omega)
    have HP : Hid (pickI c n = c % n) := by unfold pickI; rw [if_neg h0]; exact rfl
    go_enter Tryz.func17, Tryz.ntmps17
    go_wp2
    go_ret
    exact ⟨by rw [HP.out]; rfl, rfl⟩

set_option maxHeartbeats 400000 in
theorem coord20 (c : Int) (hc : I64 c) (w : World) : Calls Tryz.prog 20 #[.int .i64 c] w fun ev w' => ev = .returned (.int .i64 (coordI c)) ∧ w = w' := by
  have hp := pick17 c 41 hc (by omega) w
  have hr := pickI_in (c := c) (n := 41) (by omega)
  have HE : Hid (coordI c = pickI c 41 - 20) := rfl
  generalize pickI c 41 = p at hp hr HE
  have w1 : IntKind.i64.wrap (p - 20) = p - 20 := by rw [IntKind.wrap_i64]; omega
  go_enter Tryz.func20, Tryz.ntmps20
  go_wp2_with (go_at_call 17; refine hp.mono ?_; rintro e2 w2 ⟨rfl, rfl⟩)
  go_ret
  exact ⟨by rw [HE.out]; rfl, rfl⟩

set_option maxHeartbeats 1000000 in
set_option maxRecDepth 20000 in
/-- has: is an entry among hits? -/
theorem has27 (v : Value) (l : List Hit) (id : Int) (w : World) (h : HRow w v l) (hl : l.length ≤ 1000) : Calls Tryz.prog 27 #[v, .int .i64 id] w fun ev w' => ev = .returned (.bool (l.any fun x => x.1 == id)) ∧ w = w' := by
  obtain ⟨a, c, rfl, ha⟩ := HRow.slice h
  have H := hide h
  have HA := hide ha
  obtain ⟨r, hr⟩ : ∃ r, r = l.any fun x => x.1 == id := ⟨_, rfl⟩
  have HR := hide hr
  rw [← hr]
  clear h ha hr
  go_enter Tryz.func27, Tryz.ntmps27
  go_wp2
  go_loop [5] (fun i => ∃ k : Nat, i = .int .i64 k ∧ k ≤ l.length ∧ Hid (r = (l.drop k).any fun x => x.1 == id)) (fun i => l.length - (intOf i).toNat)
  case atStart => exact ⟨0, rfl, Nat.zero_le _, HR⟩
  case round =>
    obtain ⟨k, rfl, hk, HK⟩ := hrel
    by_cases hlt : k < l.length
    · obtain ⟨g, rfl⟩ := HA.out (by omega)
      have x0 := HRow.at0 H.out hlt
      have HS : Hid ((l.drop k).any (fun x => x.1 == id) = ((nth l k).1 == id || (l.drop (k + 1)).any fun x => x.1 == id)) := by
        show _ = _
        rw [nth_drop_cons hlt, List.any_cons]
      generalize nth l k = y at x0 HS
      obtain ⟨yi, yd⟩ := y
      simp only at x0
      by_cases e : yi = id
      · subst e
        go_wp2
        go_ret
        exact ⟨by rw [HK.out, HS.out]; simp, rfl⟩
      · have he : (yi == id) = false := by simpa using e
        go_wp2
        refine ⟨⟨k + 1, by go_num, by omega, ?_⟩, by simp [intOf]; omega⟩
        show _ = _
        rw [HK.out, HS.out, he]; rfl
    · obtain rfl : k = l.length := by omega
      go_wp2
      go_ret
      exact ⟨by rw [HK.out]; simp, rfl⟩
end Go.Proofs.YtpkiefjanmfgfaaGreatDoor
namespace Go.Proofs.YtpkiefjanmfgfaaGreatDoor
open Go.RowKit

set_option maxHeartbeats 1000000 in
set_option maxRecDepth 20000 in
/-- same, where they are. -/
theorem same25 (v1 v2 : Value) (l : List Hit) (w : World) (h1 : HRow w v1 l) (h2 : HRow w v2 l) (hl : l.length ≤ 1000) : Calls Tryz.prog 25 #[v1, v2] w fun ev w' => ev = .returned (.bool true) ∧ Below w.heap.size w w' := by
  obtain ⟨a1, c1, rfl, ha1⟩ := HRow.slice h1
  obtain ⟨a2, c2, rfl, ha2⟩ := HRow.slice h2
  have H1 := hide h1
  have H2 := hide h2
  have HA1 := hide ha1
  have HA2 := hide ha2
  clear h1 h2 ha1 ha2
  go_enter Tryz.func25, Tryz.ntmps25
  go_wp2
  go_loopw [5] (fun i wr => ∃ k : Nat, i = .int .i64 k ∧ k ≤ l.length ∧ Hid (∃ n, wr = w.drewN n)) (fun i _ => l.length - (intOf i).toNat)
  case atStart => exact ⟨0, rfl, Nat.zero_le _, 0, rfl⟩
  case round =>
    obtain ⟨k, rfl, hk, hw⟩ := hrel
    obtain ⟨n0, hw0⟩ := id hw.out
    by_cases hlt : k < l.length
    · obtain ⟨g1, rfl⟩ := HA1.out (by omega)
      obtain ⟨g2, rfl⟩ := HA2.out (by omega)
      have x0 : wr.cell? ⟨g1, k * 2, none⟩ = some (.int .i64 (nth l k).1) := by rw [hw0]; exact HRow.at0 (ownsRow_drewN H1.out n0) hlt
      have x1 : wr.cell? ⟨g1, k * 2 + 1, none⟩ = some (.int .i64 (nth l k).2) := by rw [hw0]; exact HRow.at1 (ownsRow_drewN H1.out n0) hlt
      have y0 : wr.cell? ⟨g2, k * 2, none⟩ = some (.int .i64 (nth l k).1) := by rw [hw0]; exact HRow.at0 (ownsRow_drewN H2.out n0) hlt
      have y1 : wr.cell? ⟨g2, k * 2 + 1, none⟩ = some (.int .i64 (nth l k).2) := by rw [hw0]; exact HRow.at1 (ownsRow_drewN H2.out n0) hlt
      have hW : Hid (∀ j, ∃ n, wr.drewN j = w.drewN n) := fun j => ⟨n0 + j, by rw [hw0]; simp⟩
      generalize nth l k = y at x0 x1 y0 y1
      obtain ⟨yi, yd⟩ := y
      simp only at x0 x1 y0 y1
      clear hw0 hw
      go_wp2
      go_quiet (fail)
      go_wp2
      exact ⟨⟨k + 1, by go_num, by omega, hW.out _⟩, by simp [intOf]; omega⟩
    · have HB : Hid (Below w.heap.size w wr) := by rw [hw0]; exact below_drewN (Below.refl _ _) _
      clear hw0
      go_wp2
      go_ret
      exact ⟨rfl, HB.out⟩

/-- In order, none twice. -/
def Ordd (l : List Hit) : Prop := ∀ i, 0 < i → i < l.length → hle (nth l (i - 1)) (nth l i) ∧ (nth l (i - 1)).1 ≠ (nth l i).1
theorem ordd_of {l : List Hit} (h1 : l.Pairwise hle) (h2 : (l.map (·.1)).Nodup) : Ordd l := fun i h0 hi => by
  have e1 : nth l (i - 1) = l[i - 1] := by simp [nth, List.getD_eq_getElem?_getD, show i - 1 < l.length by omega]
  have e2 : nth l i = l[i] := by simp [nth, List.getD_eq_getElem?_getD, hi]
  rw [e1, e2]
  refine ⟨(List.pairwise_iff_getElem.1 h1) (i - 1) i (by omega) hi (by omega), ?_⟩
  have := (List.pairwise_iff_getElem.1 h2) (i - 1) i (by simp; omega) (by simpa using hi) (by omega)
  simpa using this

set_option maxHeartbeats 2000000 in
set_option maxRecDepth 20000 in
/-- ordered, where they are. -/
theorem ordered23 (v : Value) (l : List Hit) (w : World) (h : HRow w v l) (ho : Ordd l) (hl : l.length ≤ 1000) : Calls Tryz.prog 23 #[v] w fun ev w' => ev = .returned (.bool true) ∧ Below w.heap.size w w' := by
  obtain ⟨a, c, rfl, ha⟩ := HRow.slice h
  have H := hide h
  have HA := hide ha
  have HO := hide ho
  clear h ha ho
  go_enter Tryz.func23, Tryz.ntmps23
  go_wp2
  go_loopw [3, 4, 5] (fun i _ _ wr => ∃ k : Nat, i = .int .i64 k ∧ 0 < k ∧ k ≤ max 1 l.length ∧ Hid (Below w.heap.size w wr)) (fun i _ _ _ => l.length - (intOf i).toNat)
  case atStart => exact ⟨1, rfl, by omega, by omega, Below.refl _ _⟩
  case round =>
    obtain ⟨k, rfl, hk0, hk, HB⟩ := hrel
    by_cases hlt : k < l.length
    · obtain ⟨g, rfl⟩ := HA.out (by omega)
      obtain ⟨j, rfl⟩ : ∃ j, k = j + 1 := ⟨k - 1, by omega⟩
      have hR := ownsRow_below H.out HB.out
      have y0 := HRow.at0 hR hlt
      have y1 := HRow.at1 hR hlt
      have x0 := HRow.at0 hR (k := j) (by omega)
      have x1 := HRow.at1 hR (k := j) (by omega)
      have hoj := HO.out (j + 1) (by omega) hlt
      rw [Nat.add_sub_cancel] at hoj
      have hgl := (hR.lt g rfl).2
      clear hR
      generalize nth l j = x at x0 x1 hoj
      generalize nth l (j + 1) = y at y0 y1 hoj
      obtain ⟨xi, xd⟩ := x
      obtain ⟨yi, yd⟩ := y
      unfold hle at hoj
      simp only at x0 x1 y0 y1 hoj
      have HB2 : Hid (∀ o1 o2, Below w.heap.size w ((wr.alloc o1).alloc o2)) := fun o1 o2 => (HB.out.alloc HB.out.size o1).alloc (by have := HB.out.size; simp; omega) o2
      have d1 : decide (yd < xd) = false := decide_eq_false (by omega)
      by_cases e : xd = yd
      · subst e
        have d2 : decide (yi ≤ xi) = false := decide_eq_false (by omega)
        go_wp2
        exact ⟨⟨j + 2, by go_num, by omega, by omega, HB2.out _ _⟩, by simp [intOf]; omega⟩
      · have d2 : (xd == yd) = false := by simpa using e
        go_wp2
        exact ⟨⟨j + 2, by go_num, by omega, by omega, HB2.out _ _⟩, by simp [intOf]; omega⟩
    · go_wp2
      go_ret
      exact ⟨rfl, HB.out⟩
end Go.Proofs.YtpkiefjanmfgfaaGreatDoor
namespace Go.Proofs.YtpkiefjanmfgfaaGreatDoor
open Go.RowKit Go.Maps

/-- A base alone: all that is written lies behind what was there at the statement's beginning (W0). -/
structure KB (W0 w : World) (bb bs bm : Nat) (cf : Cf) (gn : Net) (L : List Ent) : Prop where
  base : BaseAt w bb bs bm cf gn L
  tb : ∃ cs, w.heap[bb]? = some (.cells cs 102 (0, 0))
  ts : ∃ cs, w.heap[bs]? = some (.cells cs 155 (0, 0))
  old : Below W0.heap.size W0 w
  lbb : W0.heap.size ≤ bb
  lbm : W0.heap.size ≤ bm
  pf : ∀ k, gn.F k → W0.heap.size ≤ k

section
variable {W0 w w' : World} {bb bs bm : Nat} {cf : Cf} {gn gn' : Net} {L L' : List Ent}
theorem KB.below (h : KB W0 w bb bs bm cf gn L) (hb : Below w.heap.size w w') : KB W0 w' bb bs bm cf gn L := by
  obtain ⟨cb, hcb⟩ := h.tb
  obtain ⟨cs, hcs⟩ := h.ts
  exact ⟨h.base.below hb, ⟨cb, (hb.block _ (heap_lt hcb)).trans hcb⟩, ⟨cs, (hb.block _ (heap_lt hcs)).trans hcs⟩, h.old.trans (hb.mono h.old.size), h.lbb, h.lbm, h.pf⟩
theorem KB.alloc (h : KB W0 w bb bs bm cf gn L) (o : Obj) : KB W0 (w.alloc o) bb bs bm cf gn L := h.below ((Below.refl _ _).alloc (Nat.le_refl _) o)
/-- Put, Delete. -/
theorem KB.turned (h : KB W0 w bb bs bm cf gn L) (hk : Kept (fun k => k = bm ∨ gn.F k) w w') (hB : BaseAt w' bb bs bm cf gn' L') (hf : ∀ k, gn'.F k → gn.F k ∨ w.heap.size ≤ k) : KB W0 w' bb bs bm cf gn' L' := by
  obtain ⟨cb, hcb⟩ := h.tb
  obtain ⟨cs, hcs⟩ := h.ts
  have n1 : ¬ (bb = bm ∨ gn.F bb) := fun e => e.elim (h.base.map.mb_ne hcb) (fun e => (h.base.foot _ e).2.2.1 rfl)
  have n2 : ¬ (bs = bm ∨ gn.F bs) := fun e => e.elim (h.base.map.mb_ne hcs) (fun e => (h.base.foot _ e).2.2.2.1 rfl)
  exact ⟨hB, ⟨cb, (hk.block _ (heap_lt hcb) n1).trans hcb⟩, ⟨cs, (hk.block _ (heap_lt hcs) n2).trans hcs⟩, h.old.trans (hk.toBelow h.old.size (fun k e => e.elim (fun e => by rw [e]; exact h.lbm) (h.pf k))), h.lbb, h.lbm, fun k e => (hf k e).elim (h.pf k) (fun e => Nat.le_trans h.old.size e)⟩
/-- Search. -/
theorem KB.looked {n : Int} (h : KB W0 w bb bs bm cf gn L) (hk : Kept (fun k => k = bb) w w') (hB : BaseAt w' bb bs bm cf { gn with looks := n } L) (ht : ∃ cs, w'.heap[bb]? = some (.cells cs 102 (0, 0))) : KB W0 w' bb bs bm cf { gn with looks := n } L := by
  obtain ⟨cb, hcb⟩ := h.tb
  obtain ⟨cs, hcs⟩ := h.ts
  exact ⟨hB, ht, ⟨cs, (hk.block _ (heap_lt hcs) (ne_of_elem hcs hcb (by decide))).trans hcs⟩, h.old.trans (hk.toBelow h.old.size (fun k e => by rw [e]; exact h.lbb)), h.lbb, h.lbm, h.pf⟩
end
end Go.Proofs.YtpkiefjanmfgfaaGreatDoor
namespace Go.Proofs.YtpkiefjanmfgfaaGreatDoor
open Go.RowKit Go.Maps

/-- All hits, in order. -/
def tellL (m : Int) (xs : List Int) (F : List (List Cnd)) (L : List Ent) : List Hit := (hitsL m xs F L).mergeSort fun a b => !farB a b
theorem tellL_perm (m : Int) (xs : List Int) (F : List (List Cnd)) (L : List Ent) : (tellL m xs F L).Perm (hitsL m xs F L) := List.mergeSort_perm _ _
theorem nfar_iff (a b : Hit) : (!farB a b) = true ↔ hle a b := by
  rw [Bool.not_eq_true', ← Bool.not_eq_true, farB_iff]
  exact Classical.not_not
theorem tellL_sorted (m : Int) (xs : List Int) (F : List (List Cnd)) (L : List Ent) : (tellL m xs F L).Pairwise hle := by
  have := List.pairwise_mergeSort (le := fun a b : Hit => !farB a b) (fun a b c h1 h2 => (nfar_iff a c).2 (hle_trans ((nfar_iff a b).1 h1) ((nfar_iff b c).1 h2))) (fun a b => by
    rcases hle_total a b with h | h
    · rw [(nfar_iff a b).2 h]; rfl
    · rw [(nfar_iff b a).2 h]; simp) (hitsL m xs F L)
  exact this.imp fun h => (nfar_iff _ _).1 h
theorem hitsL_nodup {m : Int} {xs : List Int} {F : List (List Cnd)} {L : List Ent} (h : Rising L) : ((hitsL m xs F L).map (·.1)).Nodup := by
  unfold hitsL
  rw [List.map_map]
  have h1 : (L.filter fun e => passB F e.t0 e.t1).Pairwise fun a b => a.id < b.id := List.Pairwise.filter _ h
  refine List.pairwise_map.2 (h1.imp fun {a b} hab => ?_)
  show a.id ≠ b.id
  omega
theorem tellL_nodup {m : Int} {xs : List Int} {F : List (List Cnd)} {L : List Ent} (h : Rising L) : ((tellL m xs F L).map (·.1)).Nodup := ((tellL_perm m xs F L).map (·.1)).nodup_iff.2 (hitsL_nodup h)
theorem tellL_len (m : Int) (xs : List Int) (F : List (List Cnd)) (L : List Ent) : (tellL m xs F L).length = (passL F L).length := by
  rw [(tellL_perm m xs F L).length_eq]
  simp [hitsL, passL]
theorem tellL_mem {m : Int} {xs : List Int} {F : List (List Cnd)} {L : List Ent} {x : Hit} : x ∈ tellL m xs F L ↔ ∃ e ∈ L, passB F e.t0 e.t1 = true ∧ x = (e.id, distL m xs e.pt) := by
  rw [(tellL_perm m xs F L).mem_iff]
  unfold hitsL
  constructor
  · intro h
    obtain ⟨e, he, rfl⟩ := List.mem_map.1 h
    exact ⟨e, (List.mem_filter.1 he).1, (List.mem_filter.1 he).2, rfl⟩
  · rintro ⟨e, h1, h2, rfl⟩
    exact List.mem_map.2 ⟨e, List.mem_filter.2 ⟨h1, h2⟩, rfl⟩
/-- Two lists in order with the same elements. -/
theorem sorted_uniq {a b : List Hit} (h1 : a.Pairwise hle) (h2 : b.Pairwise hle) (n1 : a.Nodup) (n2 : b.Nodup) (h : ∀ x, x ∈ a ↔ x ∈ b) : a = b := by
  have s1 := sub_sorted h2 h1 n1 fun x hx => (h x).1 hx
  have s2 := sub_sorted h1 h2 n2 fun x hx => (h x).2 hx
  exact s1.eq_of_length (Nat.le_antisymm s1.length_le s2.length_le)
theorem nodup_of_ids {l : List Hit} (h : (l.map (·.1)).Nodup) : l.Nodup := List.Pairwise.of_map (fun x : Hit => x.1) (fun a b (h : a.1 ≠ b.1) e => h (congrArg _ e)) h
theorem RightL.ordd {l all : List Hit} {k beam : Int} (h : RightL l all k beam) (h1 : all.Pairwise hle) (h2 : (all.map (·.1)).Nodup) : Ordd l :=
  ordd_of (h1.sublist h.sub) (h2.sublist (h.sub.map _))
theorem RightL.all {l all : List Hit} {k beam : Int} (h : RightL l all k beam) (hk : (all.length : Int) ≤ k) : l = all := by
  have h1 := h.len
  have h2 := h.exact (.inl hk)
  rw [h2, List.take_of_length_le (by omega)]

theorem schCode_k {dim : Int} {xs : List Int} {k beam : Int} {F : List (List Cnd)} (h : schCode dim xs k beam F = 0) : 1 ≤ k ∧ k ≤ 60 := by
  unfold schCode at h
  split at h
  · omega
  · split at h
    · rename_i h2
      have := h2.1
      simp only [inB, Bool.and_eq_true, decide_eq_true_eq] at this
      omega
    · omega

/-- A point of two coordinates in a block of its own. -/
theorem two_row {w : World} {A : Nat} {x y : Int} (h : w.heap[A]? = some (.cells #[.int .i64 x, .int .i64 y] 3 (0, 0))) : Pts w A 2 [x, y] := IRow.of_cells h (by simp) (by decide) rfl rfl
theorem two_ints {w : World} {A : Nat} {x y : Int} (h : Pts w A 2 [x, y]) : IntsAt w (.slice (some ⟨A, 0, none⟩) 2 2) [x, y] := ints_of_pts (xs := [x, y]) (ys := []) h (by simp) 2 (by simp)
theorem two_code {x y : Int} (hx : Crd x) (hy : Crd y) : ptCode 2 [x, y] = 0 := by
  unfold Crd at hx hy
  have h1 : coordB x = true := by unfold coordB inB; simp; omega
  have h2 : coordB y = true := by unfold coordB inB; simp; omega
  unfold ptCode
  simp [h1, h2]
theorem filt_none (w : World) : FiltAt w (.slice none 0 0) [] := ⟨none, 0, rfl, Nat.le_refl _, by simp, .inl rfl⟩

section
variable {W0 : World} {bb bs bm : Nat} {cf : Cf} {gn : Net} {L : List Ent}
/-- Search over a base alone, where nothing is refused. -/
theorem searchK (pv : Value) (xs : List Int) (k beam : Int) (fv : Value) (F : List (List Cnd)) (w : World) (h : KB W0 w bb bs bm cf gn L) (hr : IRow w pv xs) (hp : IntsAt w pv xs) (hf : FiltAt w fv F) (hlo : 0 ≤ gn.looks ∧ gn.looks ≤ 4000000000000000000) (hc : schCode cf.dim xs k beam F = 0) :
    Calls Tryz.prog 26 #[.pointer (some ⟨bb, 0, none⟩), pv, .int .i64 k, .int .i64 beam, .agg #[fv]] w fun ev w' => ∃ v l n, ev = .returned (.tuple #[v, .int .i64 0]) ∧ HRow w' v l ∧ (∀ g, v.ownBlock = some g → w.heap.size ≤ g) ∧
      KB W0 w' bb bs bm cf { gn with looks := n } L ∧ Kept (fun k => k = bb) w w' ∧ (gn.looks + l.length ≤ n ∧ n ≤ gn.looks + 60) ∧ RightL l (tellL cf.metric xs F L) k beam := by
  refine (searchU bb bs bm cf gn L pv xs k beam fv F w h.base h.tb h.ts hr hp hf hlo).mono ?_
  rintro ev w' ⟨v, l, n, rfl, h1, h2, h3, h4, h5, h6⟩
  obtain ⟨rfl, rfl⟩ := h6.2 hc
  have hk := schCode_k hc
  have hR := right_of h.base xs F k beam hk.1 (tellL cf.metric xs F L) (tellL_sorted _ _ _ _) (tellL_perm _ _ _ _)
  have hf60 := h.base.few
  refine ⟨v, _, _, by rw [hc], h1, h2, h.looked h4 h3 h5, h4, ⟨?_, ?_⟩, hR.1⟩
  · have := hR.2.1
    omega
  · have := hR.2.2
    omega
end
end Go.Proofs.YtpkiefjanmfgfaaGreatDoor
namespace Go.Proofs.YtpkiefjanmfgfaaGreatDoor
open Go.RowKit Go.Maps

section
variable {W0 w w' : World} {bb bs bm : Nat} {cf : Cf} {gn : Net} {L : List Ent}
/-- Hits that lie away from the graph stand behind Put, Delete; all hits behind Search. -/
theorem KB.rowTurned (h : KB W0 w bb bs bm cf gn L) {v : Value} {l : List Hit} (hr : HRow w v l) (ha : ∀ g, v.ownBlock = some g → ¬ gn.F g) (hk : Kept (fun k => k = bm ∨ gn.F k) w w') : HRow w' v l :=
  ownsRow_kept hr hk fun g hg => by
    obtain ⟨c, hc⟩ := ownsRow_obj hr hg
    exact fun e => e.elim (h.base.map.mb_ne hc) (ha g hg)
theorem KB.rowLooked (h : KB W0 w bb bs bm cf gn L) {v : Value} {l : List Hit} (hr : HRow w v l) (hk : Kept (fun k => k = bb) w w') : HRow w' v l :=
  ownsRow_kept hr hk fun g hg => by
    obtain ⟨c, hc⟩ := ownsRow_obj hr hg
    obtain ⟨cb, hcb⟩ := h.tb
    exact ne_of_elem hc hcb (by decide)
theorem KB.fresh (h : KB W0 w bb bs bm cf gn L) {g : Nat} (hg : w.heap.size ≤ g) : ¬ gn.F g := fun e => by
  have := (h.base.foot _ e).1
  omega
/-- Put over a base alone, where nothing is refused. -/
theorem putX (id t0 t1 : Int) (draw : Nat) (xs : List Int) (A pc : Nat) (hid : I64 id) (hdr : draw < 18446744073709551616) (h : KB W0 w bb bs bm cf gn L) (hx : ptCode cf.dim xs = 0) (h0 : 0 < xs.length) (h8 : xs.length ≤ 8) (hroom : Room cf.cap id L) (hA : Pts w A pc xs) :
    Calls Tryz.prog 21 #[.pointer (some ⟨bb, 0, none⟩), .int .i64 id, .slice (some ⟨A, 0, none⟩) xs.length pc, .agg #[.int .i64 t0, .int .i64 t1], .int .u64 draw] w fun ev w' => ev = .returned (.int .i64 0) ∧
      ∃ g gc gn', KB W0 w' bb bs bm cf gn' (insE ⟨id, xs, t0, t1, draw, g, gc, 0, 0⟩ L) ∧ Kept (fun k => k = bm ∨ gn.F k) w w' ∧ (∀ k, gn'.F k → gn.F k ∨ w.heap.size ≤ k) ∧ gn'.looks = gn.looks := by
  refine (put13_ok bb bs bm cf gn id t0 t1 draw xs A 0 pc L w hid hdr h.base hx (fun o => ints_of_pts (xs := xs) (ys := []) (by rw [List.append_nil]; exact ownsRow_below hA ((Below.refl _ _).alloc (Nat.le_refl _) o)) (by omega) pc (ownsRow_len hA)) hroom h0 h8 ?_).mono ?_
  · intro i hi
    rw [Nat.zero_add]
    exact Pts.at hA hi
  · rintro ev w' ⟨rfl, g, gc, gn', _, h1, h2, h3, h4⟩
    exact ⟨rfl, g, gc, gn', h.turned h2 (h1 0 0) h3, h2, h3, h4.1⟩
theorem putK (id t0 t1 : Int) (draw : Nat) (x y : Int) (A : Nat) (hid : I64 id) (hdr : draw < 18446744073709551616) (h : KB W0 w bb bs bm cf gn L) (hd : cf.dim = 2) (hx : Crd x) (hy : Crd y) (hroom : Room cf.cap id L) (hA : Pts w A 2 [x, y]) :
    Calls Tryz.prog 21 #[.pointer (some ⟨bb, 0, none⟩), .int .i64 id, .slice (some ⟨A, 0, none⟩) 2 2, .agg #[.int .i64 t0, .int .i64 t1], .int .u64 draw] w fun ev w' => ev = .returned (.int .i64 0) ∧
      ∃ g gc gn', KB W0 w' bb bs bm cf gn' (insE ⟨id, [x, y], t0, t1, draw, g, gc, 0, 0⟩ L) ∧ Kept (fun k => k = bm ∨ gn.F k) w w' ∧ (∀ k, gn'.F k → gn.F k ∨ w.heap.size ≤ k) ∧ gn'.looks = gn.looks :=
  putX id t0 t1 draw [x, y] A 2 hid hdr h (by rw [hd]; exact two_code hx hy) (by simp) (by simp) hroom hA
theorem delK (id : Int) (e : Ent) (hid : I64 id) (h : KB W0 w bb bs bm cf gn L) (he : findE id L = some e) :
    Calls Tryz.prog 24 #[.pointer (some ⟨bb, 0, none⟩), .int .i64 id] w fun ev w' => ev = .returned (.int .i64 0) ∧
      ∃ gn', KB W0 w' bb bs bm cf gn' (delE id L) ∧ Kept (fun k => k = bm ∨ gn.F k) w w' ∧ (∀ k, gn'.F k → gn.F k ∨ w.heap.size ≤ k) ∧ gn'.looks = gn.looks := by
  refine (delete16_yes bb bs bm cf gn id L e w hid h.base he).mono ?_
  rintro ev w' ⟨rfl, gn', h1, h2, h3, h4⟩
  exact ⟨rfl, gn', h.turned h2 h1 h3, h2, h3, h4.1⟩
end

/-- The keep's bases. -/
def keepCf (links metric beam : Int) : Cf := ⟨2, 60, 2 + pickI links 7, pickI metric 3, 1 + pickI beam 100, 5⟩
theorem cfgB_keep (links metric beam : Int) : cfgB 2 60 (2 + pickI links 7) (pickI metric 3) (1 + pickI beam 100) 5 = true := by
  have h1 := pickI_in (c := links) (n := 7) (by omega)
  have h2 := pickI_in (c := metric) (n := 3) (by omega)
  have h3 := pickI_in (c := beam) (n := 100) (by omega)
  simp only [cfgB, inB, Bool.and_eq_true, decide_eq_true_eq]
  omega
theorem i64_m1 : I64 (-1) := by unfold I64; decide
theorem find_m1 (g gc : Nat) : findE (-1) (insE ⟨-1, [1, 2], 0, 0, ((0 : Nat) : Int), g, gc, 0, 0⟩ []) = some ⟨-1, [1, 2], 0, 0, ((0 : Nat) : Int), g, gc, 0, 0⟩ := by simp [insE, findE]
theorem del_m1 (g gc : Nat) : delE (-1) (insE ⟨-1, [1, 2], 0, 0, ((0 : Nat) : Int), g, gc, 0, 0⟩ []) = [] := by simp [insE, delE]
theorem tell_m1 (m : Int) (g gc : Nat) : ∃ d, tellL m [1, 2] [] (insE ⟨-1, [1, 2], 0, 0, ((0 : Nat) : Int), g, gc, 0, 0⟩ []) = [(-1, d)] := by
  have h := tellL_perm m [1, 2] [] (insE ⟨-1, [1, 2], 0, 0, ((0 : Nat) : Int), g, gc, 0, 0⟩ [])
  refine ⟨distL m [1, 2] [1, 2], List.perm_singleton.1 (h.trans ?_)⟩
  simp [hitsL, insE, passB]

set_option maxHeartbeats 2000000 in
set_option maxRecDepth 20000 in
theorem base28 (links metric beam : Int) (h1 : I64 links) (h2 : I64 metric) (h3 : I64 beam) (w : World) (hg : Handle w) :
    Calls Tryz.prog 28 #[.int .i64 links, .int .i64 metric, .int .i64 beam] w fun ev w' => ∃ bb bs bm gn, ev = .returned (.pointer (some ⟨bb, 0, none⟩)) ∧ KB w w' bb bs bm (keepCf links metric beam) gn [] ∧ 0 ≤ gn.looks ∧ gn.looks ≤ 60 := by
  have p1 := pick17 links 7 h1 (by omega) w
  have p2 := pick17 metric 3 h2 (by omega) w
  have p3 := pick17 beam 100 h3 (by omega) w
  have hcf := cfgB_keep links metric beam
  have i1 := pickI_in (c := links) (n := 7) (by omega)
  have i3 := pickI_in (c := beam) (n := 100) (by omega)
  unfold keepCf
  generalize pickI links 7 = a at *
  generalize pickI metric 3 = m at *
  generalize pickI beam 100 = c at *
  obtain ⟨a2, ha2⟩ : ∃ a2, a2 = 2 + a := ⟨_, rfl⟩
  obtain ⟨c2, hc2⟩ : ∃ c2, c2 = 1 + c := ⟨_, rfl⟩
  have e1 : IntKind.i64.wrap (2 + a) = a2 := by rw [IntKind.wrap_i64]; omega
  have e3 : IntKind.i64.wrap (1 + c) = c2 := by rw [IntKind.wrap_i64]; omega
  rw [← ha2, ← hc2] at hcf
  rw [← ha2, ← hc2]
  clear i1 i3 ha2 hc2
  have hg1 : Hid (∀ o, Handle (w.alloc o)) := fun o => hg.below ((Below.refl _ _).alloc (Nat.le_refl _) o)
  have HP1 := hide p1
  have HP2 := hide p2
  have HP3 := hide p3
  clear p1 p2 p3
  go_enter Tryz.func28, Tryz.ntmps28
  go_wp2_with fail
  refine HP1.out.mono ?_
  rintro ev' w' ⟨rfl, rfl⟩
  go_wp2_with fail
  refine HP2.out.mono ?_
  rintro ev' w' ⟨rfl, rfl⟩
  go_wp2_with fail
  refine HP3.out.mono ?_
  rintro ev' w' ⟨rfl, rfl⟩
  go_wp2_with fail
  refine (new12_ok 2 60 a2 m c2 5 _ (hg1.out _) hcf).mono ?_
  rintro ev w2 ⟨bb, bs, bm, gn, cs, ct, rfl, hB, hts, htb, hb2, hzb, _, hzm, hgF, hlk, _⟩
  have hwb : Below w.heap.size w w2 := ((Below.refl _ _).alloc (Nat.le_refl _) _).trans (hb2.mono (by simp))
  have hK2 : KB w w2 bb bs bm ⟨2, 60, a2, m, c2, 5⟩ gn [] := ⟨hB, ⟨_, htb⟩, ⟨_, hts⟩, hwb, by simp at hzb; omega, by simp at hzm; omega, fun k hk => by have := hgF k hk; simp at this; omega⟩
  have HK2 := hide hK2
  have hz2 := hwb.size
  clear hB hts htb hb2 hzb hzm hgF hwb hK2
  go_wp2_with fail
  obtain ⟨w3, hw3⟩ : ∃ w3, w3 = w2.alloc (.cells #[.int .i64 1, .int .i64 2] 3) := ⟨_, rfl⟩
  have hA : Pts w3 w2.heap.size 2 [1, 2] := two_row (by rw [hw3]; exact heap_alloc_new _ _)
  have hK3 : KB w w3 bb bs bm ⟨2, 60, a2, m, c2, 5⟩ gn [] := hw3 ▸ HK2.out.alloc _
  rw [← hw3]
  clear hw3
  refine (putK (-1) 0 0 0 1 2 w2.heap.size i64_m1 (by decide) hK3 rfl (by unfold Crd; omega) (by unfold Crd; omega) (.inr (by show ¬ (60 : Int) ≤ 0; omega)) hA).mono ?_
  rintro ev w4 ⟨rfl, g, gc, gn4, hK4, _, _, hl4⟩
  have HK4 := hide hK4
  clear hK4 hK3 hA
  go_wp2_with fail
  obtain ⟨w5, hw5⟩ : ∃ w5, w5 = w4.alloc (.cells #[.int .i64 1, .int .i64 2] 3) := ⟨_, rfl⟩
  have hA5 : Pts w5 w4.heap.size 2 [1, 2] := two_row (by rw [hw5]; exact heap_alloc_new _ _)
  have hK5 := HK4.out.alloc (.cells #[.int .i64 1, .int .i64 2] 3)
  rw [← hw5] at hK5 ⊢
  clear hw5
  refine (searchK (.slice (some ⟨w4.heap.size, 0, none⟩) 2 2) [1, 2] 1 1 (.slice none 0 0) [] w5 hK5 hA5 (two_ints hA5) (filt_none _) (by omega) (show schCode 2 [1, 2] 1 1 [] = 0 by decide)).mono ?_
  rintro ev w6 ⟨v, l, n, rfl, hr6, hv6, hK6, _, hn6, hR⟩
  obtain ⟨d, hd⟩ := tell_m1 m g gc
  have hl : l = [(-1, d)] := by
    have hR2 : RightL l [(-1, d)] 1 1 := hd ▸ hR
    exact hR2.all (by simp)
  subst hl
  have haw : Hid (∀ g, v.ownBlock = some g → ¬ gn4.F g) := fun g' hg' => hK5.fresh (hv6 g' hg')
  have HR6 := hide hr6
  have HK6 := hide hK6
  have hn1 := hn6.1
  have hn2 := hn6.2
  simp only [List.length_singleton] at hn1
  clear hr6 hK6 hR hK5 hA5 hv6 hn6
  go_wp2_with fail
  refine (delK (-1) _ i64_m1 HK6.out (find_m1 g gc)).mono ?_
  rintro ev w7 ⟨rfl, gn7, hK7, hk7, _, hl7⟩
  rw [del_m1] at hK7
  have hr7 := HK6.out.rowTurned HR6.out haw.out hk7
  obtain ⟨va, vc, rfl, hva⟩ := HRow.slice hr7
  obtain ⟨vg, rfl⟩ := hva (by simp)
  have x0 : w7.cell? ⟨vg, 0, none⟩ = some (.int .i64 (-1)) := HRow.at0 hr7 (k := 0) (by simp)
  have HK7 := hide hK7
  clear hK7 hr7 hk7 hva
  go_wp2
  go_ret
  refine ⟨bb, bs, bm, gn7, rfl, HK7.out, ?_⟩
  rw [hl7]
  show 0 ≤ n ∧ n ≤ 60
  omega
end Go.Proofs.YtpkiefjanmfgfaaGreatDoor
namespace Go.Proofs.YtpkiefjanmfgfaaGreatDoor
open Go.RowKit Go.Maps

theorem rising_len : ∀ {L : List Ent} {a b : Int}, Rising L → (∀ e ∈ L, a ≤ e.id ∧ e.id < b) → (L.length : Int) ≤ max 0 (b - a)
  | [], _, _, _, _ => by simp; omega
  | x :: r, a, b, h, hi => by
    obtain ⟨h1, h2⟩ := List.pairwise_cons.1 h
    have hx := hi x (by simp)
    have := rising_len (L := r) (a := x.id + 1) (b := b) h2 fun e he => ⟨by have := h1 e he; omega, (hi e (by simp [he])).2⟩
    simp only [List.length_cons, Int.natCast_add, Int.cast_ofNat_Int]
    omega
/-- The keep's entries behind a script: numbers 0 to 49. -/
def K50 (L : List Ent) : Prop := ∀ e ∈ L, 0 ≤ e.id ∧ e.id < 50
theorem K50.len {L : List Ent} (h : K50 L) (hr : Rising L) : L.length ≤ 50 := by
  have := rising_len hr h
  omega
theorem K50.ins {L : List Ent} (h : K50 L) {x : Ent} (hx : 0 ≤ x.id ∧ x.id < 50) : K50 (insE x L) := fun e he => (mem_insE he).elim (fun q => q ▸ hx) (h e)
theorem K50.del {L : List Ent} (h : K50 L) (id : Int) : K50 (delE id L) := fun e he => h e (mem_delE he)

section
variable {W0 w : World} {bb bs bm : Nat} {cf : Cf} {gn : Net} {L : List Ent}
/-- Get: only whether there is one. -/
theorem getK (id : Int) (hid : I64 id) (h : KB W0 w bb bs bm cf gn L) :
    Calls Tryz.prog 29 #[.pointer (some ⟨bb, 0, none⟩), .int .i64 id] w fun ev w' => ∃ a p n c t0 t1, ev = .returned (.tuple #[.agg #[.int .i64 a, .slice p n c, .int .i64 t0, .int .i64 t1], .int .i64 (if (findE id L).isSome then 0 else 5)]) ∧ Below w.heap.size w w' := by
  cases he : findE id L with
  | none =>
    refine (get14_no bb bs bm cf gn id L w hid h.base he).mono ?_
    rintro ev w' ⟨rfl, hb⟩
    exact ⟨_, _, _, _, _, _, rfl, hb⟩
  | some e =>
    refine (get14_yes bb bs bm cf gn id L e w hid h.base he).mono ?_
    rintro ev w' ⟨g, gc, rfl, _, _, hb⟩
    exact ⟨_, _, _, _, _, _, rfl, hb⟩
theorem delKU (id : Int) (hid : I64 id) (h : KB W0 w bb bs bm cf gn L) (hk : K50 L) :
    Calls Tryz.prog 24 #[.pointer (some ⟨bb, 0, none⟩), .int .i64 id] w fun ev w' => ev = .returned (.int .i64 (if (findE id L).isSome then 0 else 5)) ∧ ∃ gn' L', KB W0 w' bb bs bm cf gn' L' ∧ K50 L' ∧ gn'.looks = gn.looks := by
  cases he : findE id L with
  | none =>
    refine (delete16_no bb bs bm cf gn id L w hid h.base he).mono ?_
    rintro ev w' ⟨rfl, hb⟩
    exact ⟨rfl, gn, L, h.below hb, hk, rfl⟩
  | some e =>
    refine (delK id e hid h he).mono ?_
    rintro ev w' ⟨rfl, gn', h1, _, _, h4⟩
    exact ⟨rfl, gn', _, h1, hk.del id, h4⟩
end

/-- An op of the keep. -/
structure KOp where
  id : Int
  x : Int
  y : Int
  tag : Int
  out : Int
  draw : Nat
structure KOp.Ok (o : KOp) : Prop where
  id : I64 o.id
  x : I64 o.x
  y : I64 o.y
  tag : I64 o.tag
  draw : o.draw < 18446744073709551616
def KOp.val (o : KOp) : Value := .agg #[.int .i64 o.id, .int .i64 o.x, .int .i64 o.y, .int .i64 o.tag, .int .i64 o.out, .int .u64 o.draw]

theorem i64_small {n : Int} (h0 : 0 ≤ n) (h1 : n < 1000000) : I64 n := by
  have e1 : IntKind.i64.min = -9223372036854775808 := by decide
  have e2 : IntKind.i64.max = 9223372036854775807 := by decide
  unfold I64
  simp [Lit.wf, e1, e2]
  omega

set_option maxHeartbeats 4000000 in
set_option maxRecDepth 20000 in
theorem step40 {W0 : World} {bb bs bm : Nat} {cf : Cf} {gn : Net} {L : List Ent} (w : World) (o : KOp) (ho : o.Ok) (h : KB W0 w bb bs bm cf gn L) (hk : K50 L) (hd : cf.dim = 2) (hc : cf.cap = 60) :
    Calls Tryz.prog 40 #[.pointer (some ⟨bb, 0, none⟩), o.val] w fun ev w' => ev = .returned (.bool true) ∧ ∃ gn' L', KB W0 w' bb bs bm cf gn' L' ∧ K50 L' ∧ gn'.looks = gn.looks := by
  obtain ⟨oid, ox, oy, otag, oout, odraw⟩ := o
  obtain ⟨h1, h2, h3, h4, h5⟩ := ho
  simp only at h1 h2 h3 h4 h5
  have i1 := pickI_in (c := oid) (n := 50) (by omega)
  have hroom : Room cf.cap (pickI oid 50) L := .inr (by have := hk.len h.base.map.rising; omega)
  have hidd : I64 (pickI oid 50) := i64_small i1.1 (by omega)
  have hp := fun W => pick17 oid 50 h1 (by omega) W
  unfold KOp.val
  simp only
  generalize pickI oid 50 = id at *
  have hnF : ¬ (w.heap.size = bm ∨ gn.F w.heap.size) := fun e => e.elim (fun e => by have := h.base.map.lt; omega) (h.fresh (Nat.le_refl _))
  have HNF := hide hnF
  have H := hide h
  have HP := hide hp
  clear hnF
  have HK := hide hk
  clear h hp hk
  obtain ⟨r, hr⟩ : ∃ r : Int, r = if (findE id L).isSome then 0 else 5 := ⟨_, rfl⟩
  have HGET := hide (fun W (hW : KB W0 W bb bs bm cf gn L) => getK id hidd hW)
  have HDEL := hide (fun W (hW : KB W0 W bb bs bm cf gn L) => delKU id hidd hW HK.out)
  rw [← hr] at HGET HDEL
  clear hr
  go_enter Tryz.func40, Tryz.ntmps40
  go_wp2_with fail
  refine (HP.out _).mono ?_
  rintro ev' w' ⟨rfl, rfl⟩
  go_wp2_with fail
  obtain ⟨w1, hw1⟩ : ∃ w1, w1 = w.alloc (.cells #[.int .i64 oid, .int .i64 ox, .int .i64 oy, .int .i64 otag, .int .i64 oout, .int .u64 odraw] 98) := ⟨_, rfl⟩
  have hX : w1.heap[w.heap.size]? = some (.cells #[.int .i64 oid, .int .i64 ox, .int .i64 oy, .int .i64 otag, .int .i64 oout, .int .u64 odraw] 98 (0, 0)) := by rw [hw1]; exact heap_alloc_new _ _
  have hK1 : KB W0 w1 bb bs bm cf gn L := hw1 ▸ H.out.alloc _
  rw [← hw1]
  clear hw1 H
  refine (HGET.out w1 hK1).mono ?_
  rintro ev w2 ⟨a, p, n, c, t0, t1, rfl, hb2⟩
  have hX2 := (hb2.block _ (heap_lt hX)).trans hX
  have hK2 := hK1.below hb2
  have x4 : w2.cell? ⟨w.heap.size, 4, none⟩ = some (.int .i64 oout) := cells_at hX2 4 rfl
  have hxl := heap_lt hX2
  have hK3 : ∀ o, KB W0 (w2.alloc o) bb bs bm cf gn L := fun o => hK2.alloc o
  have hS : ∀ o W, Below (w2.alloc o).heap.size (w2.alloc o) W → W.cell? ⟨w.heap.size, 1, none⟩ = some (.int .i64 ox) ∧ W.cell? ⟨w.heap.size, 2, none⟩ = some (.int .i64 oy) ∧ W.cell? ⟨w.heap.size, 3, none⟩ = some (.int .i64 otag) ∧ W.cell? ⟨w.heap.size, 5, none⟩ = some (.int .u64 odraw) := fun o W hW => by
    have h0 := (hW.block _ (by simp; omega)).trans ((((Below.refl w2.heap.size w2).alloc (Nat.le_refl _) o).block _ hxl).trans hX2)
    exact ⟨cells_at h0 1 rfl, cells_at h0 2 rfl, cells_at h0 3 rfl, cells_at h0 5 rfl⟩
  have hX' : ∀ o, (w2.alloc o).heap[w.heap.size]? = some (.cells #[.int .i64 oid, .int .i64 ox, .int .i64 oy, .int .i64 otag, .int .i64 oout, .int .u64 odraw] 98 (0, 0)) := fun o => (((Below.refl w2.heap.size w2).alloc (Nat.le_refl _) o).block _ hxl).trans hX2
  have HX := hide hX'
  have HK3 := hide hK3
  have HS := hide hS
  clear hX'
  clear hX hX2 hK1 hK2 hb2 hK3 hS HGET
  by_cases hbit : (Go.bits BinOp.and IntKind.i64 oout 1 == 1) = true
  · go_wp2_with fail
    refine (HDEL.out _ (HK3.out _)).mono ?_
    rintro ev w4 ⟨rfl, gn4, L4, hK4, h54, hl4⟩
    have HK4 := hide hK4
    clear hK4
    go_wp2
    go_ret
    exact ⟨rfl, gn4, L4, HK4.out, h54, hl4⟩
  · have hbit' : (Go.bits BinOp.and IntKind.i64 oout 1 == 1) = false := by simpa using hbit
    clear hbit HDEL
    have hcx := fun W => coord20 ox h2 W
    have hcy := fun W => coord20 oy h3 W
    have hct := fun W => pick17 otag 4 h4 (by omega) W
    have hX := coordI_crd ox
    have hY := coordI_crd oy
    generalize coordI ox = X at hcx hX
    generalize coordI oy = Y at hcy hY
    generalize pickI otag 4 = T at hct
    have HPUT := hide (fun A W (hW : KB W0 W bb bs bm cf gn L) (hA : Pts W A 2 [X, Y]) => putK id T otag odraw X Y A hidd h5 hW hd hX hY hroom hA)
    have HCX := hide hcx
    have HCY := hide hcy
    have HCT := hide hct
    clear hcx hcy hct hX hY
    go_wp2_with fail
    obtain ⟨w3, hw3⟩ : ∃ w3, w3 = w2.alloc (.cells #[.int .i64 a, .slice p n c, .int .i64 t0, .int .i64 t1] 77) := ⟨_, rfl⟩
    have hX3 := HX.out (.cells #[.int .i64 a, .slice p n c, .int .i64 t0, .int .i64 t1] 77)
    have HS3 := HS.out (.cells #[.int .i64 a, .slice p n c, .int .i64 t0, .int .i64 t1] 77)
    have HKB3 := HK3.out (.cells #[.int .i64 a, .slice p n c, .int .i64 t0, .int .i64 t1] 77)
    rw [← hw3] at HS3 HKB3 hX3 ⊢
    have HX3 := hide hX3
    clear hX3
    have HS3 := hide HS3
    have HKB3 := hide HKB3
    have hz3 : w.heap.size < w3.heap.size := by rw [hw3]; simp; omega
    have hst : ∀ (W : World) (o : Obj), W.heap[w.heap.size]? = (w3.alloc o).heap[w.heap.size]? → W.cell? ⟨w.heap.size, 1, none⟩ = some (.int .i64 ox) ∧ W.cell? ⟨w.heap.size, 2, none⟩ = some (.int .i64 oy) ∧ W.cell? ⟨w.heap.size, 3, none⟩ = some (.int .i64 otag) ∧ W.cell? ⟨w.heap.size, 5, none⟩ = some (.int .u64 odraw) := fun W o hW => by
      have h0 := hW.trans ((((Below.refl w3.heap.size w3).alloc (Nat.le_refl _) o).block _ hz3).trans HX3.out)
      exact ⟨cells_at h0 1 rfl, cells_at h0 2 rfl, cells_at h0 3 rfl, cells_at h0 5 rfl⟩
    have HST := hide hst
    clear hw3 HS HK3 hst
    go_region_held3 (fun wx => wx.cell? ⟨w.heap.size, 1, none⟩ = some (.int .i64 ox) ∧ wx.cell? ⟨w.heap.size, 2, none⟩ = some (.int .i64 oy) ∧ wx.cell? ⟨w.heap.size, 3, none⟩ = some (.int .i64 otag) ∧ wx.cell? ⟨w.heap.size, 5, none⟩ = some (.int .u64 odraw))
      (first | (exact hS4) | (refine HS3.out _ ?_; repeat (first | exact Below.refl _ _ | refine Below.drew ?_ | refine Below.alloc ?_ (by first | exact Nat.le_refl _ | simp) _)))
      (first
        | (go_at_call 20; with_reducible refine (HCX.out _).mono ?_; rintro ev' w' ⟨rfl, rfl⟩)
        | (go_at_call 20; with_reducible refine (HCY.out _).mono ?_; rintro ev' w' ⟨rfl, rfl⟩)
        | (go_at_call 17; with_reducible refine (HCT.out _).mono ?_; rintro ev' w' ⟨rfl, rfl⟩)
        | (go_at_call 21; refine (HPUT.out _ _ ?_ ?_).mono ?_; (exact HKB3.out.below (by repeat (first | exact Below.refl _ _ | refine Below.drew ?_ | refine Below.alloc ?_ (by first | exact Nat.le_refl _ | simp) _))); (exact two_row (heap_alloc_new _ _)); rintro ev4 w4 ⟨rfl, g4, gc4, gn4, hK4, hk4, _, hl4⟩; have hS4 := HST.out w4 _ (hk4.block _ (by simp; omega) HNF.out)))
    all_goals
      have HK4 := hide hK4
      clear hK4 hk4 hS4
      go_wp2
      go_ret
      exact ⟨rfl, gn4, _, HK4.out, HK.out.ins i1, hl4⟩
end Go.Proofs.YtpkiefjanmfgfaaGreatDoor
namespace Go.Proofs.YtpkiefjanmfgfaaGreatDoor
open Go.RowKit Go.Maps

/-- An op of the keep in its six cells; a script of them. -/
structure KOpAt (w : World) (b p : Nat) (o : KOp) : Prop where
  c0 : w.cell? ⟨b, p, none⟩ = some (.int .i64 o.id)
  c1 : w.cell? ⟨b, p + 1, none⟩ = some (.int .i64 o.x)
  c2 : w.cell? ⟨b, p + 2, none⟩ = some (.int .i64 o.y)
  c3 : w.cell? ⟨b, p + 3, none⟩ = some (.int .i64 o.tag)
  c4 : w.cell? ⟨b, p + 4, none⟩ = some (.int .i64 o.out)
  c5 : w.cell? ⟨b, p + 5, none⟩ = some (.int .u64 o.draw)
structure KScriptAt (w : World) (a : Option Addr) (len : Nat) : Prop where
  sz : len ≤ 140737488355328
  op : ∀ i, i < len → ∃ b off, a = some ⟨b, off, none⟩ ∧ ∃ o : KOp, o.Ok ∧ KOpAt w b (off + i * 6) o
theorem KOpAt.below {w w' : World} {b p : Nat} {o : KOp} (h : KOpAt w b p o) (hb : Below w.heap.size w w') : KOpAt w' b p o :=
  ⟨cell_below h.c0 hb, cell_below h.c1 hb, cell_below h.c2 hb, cell_below h.c3 hb, cell_below h.c4 hb, cell_below h.c5 hb⟩
theorem KScriptAt.below {w w' : World} {a : Option Addr} {len : Nat} (h : KScriptAt w a len) (hb : Below w.heap.size w w') : KScriptAt w' a len :=
  ⟨h.sz, fun i hi => by
    obtain ⟨b, off, e, o, h1, h2⟩ := h.op i hi
    exact ⟨b, off, e, o, h1, h2.below hb⟩⟩
theorem Below.cells {W0 w : World} (h : Below W0.heap.size W0 w) {b p : Nat} {o : KOp} (ho : KOpAt W0 b p o) : KOpAt w b p o := ho.below h

set_option maxHeartbeats 2000000 in
set_option maxRecDepth 20000 in
theorem made18 (sa : Option Addr) (len cap : Nat) (links metric beam : Int) (h1 : I64 links) (h2 : I64 metric) (h3 : I64 beam) (w : World) (hg : Handle w) (hs : KScriptAt w sa len) :
    Calls Tryz.prog 18 #[.slice sa len cap, .int .i64 links, .int .i64 metric, .int .i64 beam] w fun ev w' => ∃ bb bs bm gn L, ev = .returned (.pointer (some ⟨bb, 0, none⟩)) ∧ KB w w' bb bs bm (keepCf links metric beam) gn L ∧ K50 L ∧ 0 ≤ gn.looks ∧ gn.looks ≤ 60 := by
  have HS := hide hs
  have hsz := hs.sz
  clear hs
  go_enter Tryz.func18, Tryz.ntmps18
  go_wp2_with fail
  refine (base28 links metric beam h1 h2 h3 w hg).mono ?_
  rintro ev w1 ⟨bb, bs, bm, gn0, rfl, hK, hl⟩
  have HK0 := hide hK
  have HL0 := hide hl
  clear hK hl
  go_wp2
  go_loopw [10, 11] (fun iv _ wr => ∃ (k : Nat) (L : List Ent) (gn : Net), k ≤ len ∧ iv = .int .i64 k ∧ Hid (KB w wr bb bs bm (keepCf links metric beam) gn L) ∧ Hid (K50 L) ∧ Hid (0 ≤ gn.looks ∧ gn.looks ≤ 60)) (fun iv _ _ => len - (intOf iv).toNat)
  case atStart => exact ⟨0, [], gn0, Nat.zero_le _, rfl, HK0.out, fun _ h => absurd h List.not_mem_nil, HL0.out⟩
  case round =>
    obtain ⟨k, L, gn, hk, rfl, HK, H5, HL⟩ := hrel
    by_cases hlt : k < len
    · obtain ⟨b', off, rfl, o, ho, hat⟩ := HS.out.op k hlt
      have hor := hat.below HK.out.old
      have hst := step40 wr o ho HK.out H5.out rfl rfl
      have HST := hide hst
      obtain ⟨oid, ox, oy, otag, oout, odraw⟩ := o
      have c0 := hor.c0
      have c1 := hor.c1
      have c2 := hor.c2
      have c3 := hor.c3
      have c4 := hor.c4
      have c5 := hor.c5
      simp only at c0 c1 c2 c3 c4 c5
      clear hat hor hst ho
      go_wp2_with fail
      refine HST.out.mono ?_
      rintro ev w5 ⟨rfl, gn5, L5, hK5, h55, hl5⟩
      have HK5 := hide hK5
      have H55 := hide h55
      have HL5 : Hid (0 ≤ gn5.looks ∧ gn5.looks ≤ 60) := by rw [hl5]; exact HL
      clear hK5 h55 hl5 c0 c1 c2 c3 c4 c5
      go_wp2
      exact ⟨⟨k + 1, L5, gn5, by omega, by go_num, HK5.out, H55.out, HL5.out⟩, by simp [intOf]; omega⟩
    · obtain rfl : k = len := by omega
      go_wp2
      go_ret
      exact ⟨bb, bs, bm, gn, L, rfl, HK.out, H5.out, HL.out⟩

section
variable {W0 : World} {bb bs bm : Nat} {cf : Cf} {gn : Net} {L : List Ent}
set_option maxHeartbeats 2000000 in
set_option maxRecDepth 20000 in
/-- All that pass, in order. -/
theorem all22 (x y : Int) (fv : Value) (F : List (List Cnd)) (w : World) (h : KB W0 w bb bs bm cf gn L) (hd : cf.dim = 2) (hx : Crd x) (hy : Crd y) (hf : FiltAt w fv F) (hfb : filtB F = true) (hlo : 0 ≤ gn.looks ∧ gn.looks ≤ 4000000000000000000) :
    Calls Tryz.prog 22 #[.pointer (some ⟨bb, 0, none⟩), .int .i64 x, .int .i64 y, .agg #[fv]] w fun ev w' => ∃ v n, ev = .returned (.tuple #[v, .bool true]) ∧ HRow w' v (tellL cf.metric [x, y] F L) ∧ (∀ g, v.ownBlock = some g → w.heap.size ≤ g) ∧
      KB W0 w' bb bs bm cf { gn with looks := n } L ∧ Kept (fun k => k = bb) w w' ∧ (gn.looks ≤ n ∧ n ≤ gn.looks + 60) := by
  have hsc : schCode cf.dim [x, y] 60 1 F = 0 := by
    unfold schCode
    rw [hd, two_code hx hy, hfb]
    decide
  have HF := hide hf
  have H := hide h
  obtain ⟨fa, fc, rfl, _⟩ := hf
  clear h
  go_enter Tryz.func22, Tryz.ntmps22
  go_wp2_with fail
  obtain ⟨w2, hw2⟩ : ∃ w2, w2 = (w.alloc (.cells #[.slice fa F.length fc] 47)).alloc (.cells #[.int .i64 x, .int .i64 y] 3) := ⟨_, rfl⟩
  have hb2 : Below w.heap.size w w2 := by rw [hw2]; exact ((Below.refl _ _).alloc (Nat.le_refl _) _).alloc (by simp) _
  have hA : Pts w2 (w.heap.size + 1) 2 [x, y] := two_row (by rw [hw2]; have := heap_alloc_new (w.alloc (.cells #[.slice fa F.length fc] 47)) (.cells #[.int .i64 x, .int .i64 y] 3); simpa using this)
  rw [← hw2]
  clear hw2
  refine (searchK (.slice (some ⟨w.heap.size + 1, 0, none⟩) 2 2) [x, y] 60 1 (.slice fa F.length fc) F w2 (H.out.below hb2) hA (two_ints hA) (HF.out.below hb2) hlo hsc).mono ?_
  rintro ev w3 ⟨v, l, n, rfl, hr, hv, hK, hk, hn, hR⟩
  have hlen : ((tellL cf.metric [x, y] F L).length : Int) ≤ 60 := by
    rw [tellL_len]
    have h1 : (passL F L).length ≤ L.length := List.length_filter_le _ _
    have := H.out.base.few
    omega
  obtain rfl := hR.all hlen
  have hv2 : ∀ g, v.ownBlock = some g → w.heap.size ≤ g := fun g hg => Nat.le_trans hb2.size (hv g hg)
  have hk2 : Kept (fun k => k = bb) w w3 := (Kept.of_below _ hb2).trans hk (fun _ _ h => h)
  have HR := hide hr
  have HV := hide hv2
  have HK := hide hK
  have HK2 := hide hk2
  clear hr hv hK hk hR hb2 hA hv2 hk2
  go_wp2
  go_ret2
  exact ⟨v, n, rfl, HR.out, HV.out, HK.out, HK2.out, by omega, hn.2⟩
end
end Go.Proofs.YtpkiefjanmfgfaaGreatDoor
namespace Go.Proofs.YtpkiefjanmfgfaaGreatDoor
open Go.ChangeShapes Go.WideShapes Go.RowKit

theorem cells98 : Tryz.prog.cellsOf 98 = 6 := by kernel_rfl
theorem bytes98 : Tryz.prog.bytesOf 98 = 48 := by kernel_rfl

section
variable {H : Type} {enc : TypeId × Value → H} {W : World} {hd : Bool}

set_option maxRecDepth 100000 in
theorem kop_open {n : Nat} {cs : List Value} {x : DataW H × List MemPlace} (h : DataW.trod enc Tryz.prog W 0 (fun _ => true) hd n 98 cs = some x) :
    ∃ o : KOp, o.Ok ∧ cs = [.int .i64 o.id, .int .i64 o.x, .int .i64 o.y, .int .i64 o.tag, .int .i64 o.out, .int .u64 o.draw] := by
  obtain ⟨xs, m, _, rfl, hl, hlen, hx⟩ := DataW.trod_struct Tryz.underlying98 h
  rw [cells98] at hl
  match cs, hl with
  | [c0, c1, c2, c3, c4, c5], _ =>
    match xs, hlen with
    | [y0, y1, y2, y3, y4, y5], _ =>
      have g0 := hx 0 _ rfl
      have g1 := hx 1 _ rfl
      have g2 := hx 2 _ rfl
      have g3 := hx 3 _ rfl
      have g4 := hx 4 _ rfl
      have g5 := hx 5 _ rfl
      simp [cells3, cells44] at g0 g1 g2 g3 g4 g5
      clear hx
      obtain ⟨a0, e0, _, w0⟩ := DataW.trod_int Tryz.underlying3 g0
      obtain ⟨a1, e1, _, w1⟩ := DataW.trod_int Tryz.underlying3 g1
      obtain ⟨a2, e2, _, w2⟩ := DataW.trod_int Tryz.underlying3 g2
      obtain ⟨a3, e3, _, w3⟩ := DataW.trod_int Tryz.underlying3 g3
      obtain ⟨a4, e4, _⟩ := DataW.trod_int Tryz.underlying3 g4
      obtain ⟨dr, e5, _, w5⟩ := DataW.trod_int Tryz.underlying44 g5
      simp at e0 e1 e2 e3 e4 e5
      subst e0; subst e1; subst e2; subst e3; subst e4; subst e5
      have hu := u64_wf w5
      obtain ⟨k, rfl⟩ := Int.eq_ofNat_of_zero_le hu.1
      exact ⟨⟨a0, a1, a2, a3, a4, k⟩, ⟨w0, w1, w2, w3, by have := hu.2; simp only; omega⟩, rfl⟩

set_option maxRecDepth 100000 in
/-- The keep's script. -/
theorem kscript_open {b0 : Nat} {r : Reach} {v : Value} {d : DataW H} {p : List MemPlace} (hv : Value.okWide Tryz.prog W r b0 51 v) (h : DataW.Trod enc Tryz.prog W 0 (fun _ => true) hd 51 v d p) (hw : ∀ k ∈ d.weights Tryz.prog 51, k ≤ reachBytes) :
    ∃ sa len cap, v = .slice sa len cap ∧ KScriptAt W sa len := by
  obtain ⟨sa, len, cap, rfl⟩ := okWide_slice Tryz.underlying51 hv
  obtain ⟨fuel, hf⟩ := h
  have hf' : DataW.trod enc Tryz.prog W 0 (fun _ => true) hd fuel 51 [.slice sa len cap] = some (d, p) := hf
  rcases Deep.open_slice Tryz.underlying51 hf' with ⟨e, _⟩ | ⟨a, len', cap', m, n, D, Pl, e, _, hl, _, hm, hx, hi⟩
  · simp at e
    obtain ⟨rfl, rfl, rfl⟩ := e
    exact ⟨none, 0, 0, rfl, by simp, fun i hi => by omega⟩
  · simp at e hm
    obtain ⟨rfl, rfl, rfl⟩ := e
    have hm' := hm.symm
    subst hm'
    simp only [Prod.mk.injEq] at hx
    obtain ⟨rfl, _⟩ := hx
    refine ⟨some a, len, cap, rfl, ?_, fun i hil => ?_⟩
    · have hb : (((List.range len).map D).length + ((List.range (cap - len)).map fun j => D (len + j)).length) * Tryz.prog.bytesOf 98 ≤ reachBytes := hw _ (by simp only [DataW.weights, Tryz.underlying51]; exact List.mem_cons_self)
      simp [bytes98, reachBytes] at hb
      have h1 : len * 48 ≤ (len + (cap - len)) * 48 := Nat.mul_le_mul_right 48 (by omega)
      omega
    · have ha : a = ⟨a.block, a.off, none⟩ := by
        obtain ⟨cs0, h1, _⟩ := hi 0 (by omega)
        obtain ⟨_, h2, h3⟩ := World.cells?_some h1
        rw [cells98] at h2 h3
        match cs0, h2 with
        | c :: _, _ => exact addr_plain (a := a) (v := c) (by simpa [Addr.add] using h3 0 (by omega))
      obtain ⟨cs', h1, h2⟩ := hi i (by omega)
      obtain ⟨o, ho, hall⟩ := kop_open h2
      obtain ⟨_, _, h3⟩ := World.cells?_some h1
      rw [cells98] at h3
      refine ⟨a.block, a.off, by rw [← ha], o, ho, ?_⟩
      have hc : ∀ j v, j < 6 → cs'[j]? = some v → W.cell? ⟨a.block, a.off + i * 6 + j, none⟩ = some v := fun j v hj hv => by
        have := h3 j hj
        rw [ha, addr_at, addr_at] at this
        exact this.trans hv
      rw [hall] at hc
      exact ⟨hc 0 _ (by omega) rfl, hc 1 _ (by omega) rfl, hc 2 _ (by omega) rfl, hc 3 _ (by omega) rfl, hc 4 _ (by omega) rfl, hc 5 _ (by omega) rfl⟩
set_option maxRecDepth 100000 in
/-- A number that came in. -/
theorem int_open {b0 : Nat} {r : Reach} {v : Value} {d : DataW H} {p : List MemPlace} (hv : Value.okWide Tryz.prog W r b0 3 v) (h : DataW.Trod enc Tryz.prog W 0 (fun _ => true) hd 3 v d p) : ∃ a, v = .int .i64 a ∧ I64 a := by
  obtain ⟨a, e, _, _, hw⟩ := open_int Tryz.underlying3 hv h
  exact ⟨a, e, hw⟩
set_option maxRecDepth 100000 in
theorem u64_open {b0 : Nat} {r : Reach} {v : Value} {d : DataW H} {p : List MemPlace} (hv : Value.okWide Tryz.prog W r b0 44 v) (h : DataW.Trod enc Tryz.prog W 0 (fun _ => true) hd 44 v d p) : ∃ a : Nat, v = .int .u64 a ∧ a < 18446744073709551616 := by
  obtain ⟨a, e, _, _, hw⟩ := open_int Tryz.underlying44 hv h
  have hu := u64_wf hw
  obtain ⟨k, rfl⟩ := Int.eq_ofNat_of_zero_le hu.1
  exact ⟨k, e, by have := hu.2; omega⟩
end
end Go.Proofs.YtpkiefjanmfgfaaGreatDoor
namespace Go.Proofs.YtpkiefjanmfgfaaGreatDoor
open Go.ChangeShapes Go.WideShapes Go.ChangeAt Go.RowKit

theorem read3 : Tryz.prog.readableRec 3 = true := by kernel_rfl
theorem read32 : Tryz.prog.readableRec 32 = true := by kernel_rfl
theorem read44 : Tryz.prog.readableRec 44 = true := by kernel_rfl
theorem read51 : Tryz.prog.readableRec 51 = true := by kernel_rfl
set_option maxRecDepth 100000 in
/-- A list of numbers that came in. -/
theorem pt_open {H : Type} {enc : TypeId × Value → H} {W : World} {hd : Bool} {b0 : Nat} {r : Reach} {v : Value} {d : DataW H} {p : List MemPlace} (hv : Value.okWide Tryz.prog W r b0 32 v) (h : DataW.Trod enc Tryz.prog W 0 (fun _ => true) hd 32 v d p) (hw : ∀ k ∈ d.weights Tryz.prog 32, k ≤ reachBytes) :
    ∃ (xs : List Int) (pa : Option Addr) (pc : Nat), v = .slice pa xs.length pc ∧ IntsAt W (.slice pa xs.length pc) xs ∧ (xs.length + 6) * 8 ≤ 140737488355328 := by
  obtain ⟨sa, len, cap, rfl⟩ := okWide_slice Tryz.underlying32 hv
  obtain ⟨fuel, hf⟩ := h
  have hf' : DataW.trod enc Tryz.prog W 0 (fun _ => true) hd fuel 32 [.slice sa len cap] = some (d, p) := hf
  exact point_open hf' hw
end Go.Proofs.YtpkiefjanmfgfaaGreatDoor
