import Derived.Test.YtpkiefjanmfgfaaGreatDoorQui13
import Derived.Test.YtpkiefjanmfgfaaGreatDoorQui15
namespace Go.Proofs.YtpkiefjanmfgfaaGreatDoor
open Go.RowKit

set_option maxHeartbeats 1000000 in
set_option maxRecDepth 20000 in
theorem same25 (v1 v2 : Value) (l : List Hit) (w : World) (h1 : HRow w v1 l) (h2 : HRow w v2 l) (hl : l.length ≤ 1000) : Calls Tryz.prog 25 #[v1, v2] w fun ev w' => ev = .returned (.bool true) ∧ Below w.heap.size w w' := by
  obtain ⟨a1, c1, rfl, ha1⟩ := HRow.slice h1
  obtain ⟨a2, c2, rfl, ha2⟩ := HRow.slice h2
  have H1 := hide h1
  have H2 := hide h2
  have HA1 := hide ha1
  have HA2 := hide ha2
  clear h1 h2 ha1 ha2
  go_enter Tryz.func25, Tryz.ntmps25
  go_wp2
  go_loopw [5] (fun i wr => ∃ k : Nat, i = .int .i64 k ∧ k ≤ l.length ∧ Hid (∃ n, wr = w.drewN n)) (fun i _ => l.length - (intOf i).toNat)
  case atStart => exact ⟨0, rfl, Nat.zero_le _, 0, rfl⟩
  case round =>
    obtain ⟨k, rfl, hk, hw⟩ := hrel
    obtain ⟨n0, hw0⟩ := id hw.out
    by_cases hlt : k < l.length
    · obtain ⟨g1, rfl⟩ := HA1.out (by omega)
      obtain ⟨g2, rfl⟩ := HA2.out (by omega)
      have x0 : wr.cell? ⟨g1, k * 2, none⟩ = some (.int .i64 (nth l k).1) := by rw [hw0]; exact HRow.at0 (ownsRow_drewN H1.out n0) hlt
      have x1 : wr.cell? ⟨g1, k * 2 + 1, none⟩ = some (.int .i64 (nth l k).2) := by rw [hw0]; exact HRow.at1 (ownsRow_drewN H1.out n0) hlt
      have y0 : wr.cell? ⟨g2, k * 2, none⟩ = some (.int .i64 (nth l k).1) := by rw [hw0]; exact HRow.at0 (ownsRow_drewN H2.out n0) hlt
      have y1 : wr.cell? ⟨g2, k * 2 + 1, none⟩ = some (.int .i64 (nth l k).2) := by rw [hw0]; exact HRow.at1 (ownsRow_drewN H2.out n0) hlt
      have hW : Hid (∀ j, ∃ n, wr.drewN j = w.drewN n) := fun j => ⟨n0 + j, by rw [hw0]; simp⟩
      generalize nth l k = y at x0 x1 y0 y1
      obtain ⟨yi, yd⟩ := y
      simp only at x0 x1 y0 y1
      clear hw0 hw
      go_wp2
      go_quiet (fail)
      go_wp2
      exact ⟨⟨k + 1, by go_num, by omega, hW.out _⟩, by simp [intOf]; omega⟩
    · have HB : Hid (Below w.heap.size w wr) := by rw [hw0]; exact below_drewN (Below.refl _ _) _
      clear hw0
      go_wp2
      go_ret
      exact ⟨rfl, HB.out⟩

def Ordd (l : List Hit) : Prop := ∀ i, 0 < i → i < l.length → hle (nth l (i - 1)) (nth l i) ∧ (nth l (i - 1)).1 ≠ (nth l i).1
theorem ordd_of {l : List Hit} (h1 : l.Pairwise hle) (h2 : (l.map (·.1)).Nodup) : Ordd l := fun i h0 hi => by
  have e1 : nth l (i - 1) = l[i - 1] := by simp [nth, List.getD_eq_getElem?_getD, show i - 1 < l.length by omega]
  have e2 : nth l i = l[i] := by simp [nth, List.getD_eq_getElem?_getD, hi]
  rw [e1, e2]
  refine ⟨(List.pairwise_iff_getElem.1 h1) (i - 1) i (by omega) hi (by omega), ?_⟩
  have := (List.pairwise_iff_getElem.1 h2) (i - 1) i (by simp; omega) (by simpa using hi) (by omega)
  simpa using this

set_option maxHeartbeats 2000000 in
set_option maxRecDepth 20000 in
theorem ordered23 (v : Value) (l : List Hit) (w : World) (h : HRow w v l) (ho : Ordd l) (hl : l.length ≤ 1000) : Calls Tryz.prog 23 #[v] w fun ev w' => ev = .returned (.bool true) ∧ Below w.heap.size w w' := by
  obtain ⟨a, c, rfl, ha⟩ := HRow.slice h
  have H := hide h
  have HA := hide ha
  have HO := hide ho
  clear h ha ho
  go_enter Tryz.func23, Tryz.ntmps23
  go_wp2
  go_loopw [3, 4, 5] (fun i _ _ wr => ∃ k : Nat, i = .int .i64 k ∧ 0 < k ∧ k ≤ max 1 l.length ∧ Hid (Below w.heap.size w wr)) (fun i _ _ _ => l.length - (intOf i).toNat)
  case atStart => exact ⟨1, rfl, by omega, by omega, Below.refl _ _⟩
  case round =>
    obtain ⟨k, rfl, hk0, hk, HB⟩ := hrel
    by_cases hlt : k < l.length
    · obtain ⟨g, rfl⟩ := HA.out (by omega)
      obtain ⟨j, rfl⟩ : ∃ j, k = j + 1 := ⟨k - 1, by omega⟩
      have hR := ownsRow_below H.out HB.out
      have y0 := HRow.at0 hR hlt
      have y1 := HRow.at1 hR hlt
      have x0 := HRow.at0 hR (k := j) (by omega)
      have x1 := HRow.at1 hR (k := j) (by omega)
      have hoj := HO.out (j + 1) (by omega) hlt
      rw [Nat.add_sub_cancel] at hoj
      have hgl := (hR.lt g rfl).2
      clear hR
      generalize nth l j = x at x0 x1 hoj
      generalize nth l (j + 1) = y at y0 y1 hoj
      obtain ⟨xi, xd⟩ := x
      obtain ⟨yi, yd⟩ := y
      unfold hle at hoj
      simp only at x0 x1 y0 y1 hoj
      have HB2 : Hid (∀ o1 o2, Below w.heap.size w ((wr.alloc o1).alloc o2)) := fun o1 o2 => (HB.out.alloc HB.out.size o1).alloc (by have := HB.out.size; simp; omega) o2
      have d1 : decide (yd < xd) = false := decide_eq_false (by omega)
      by_cases e : xd = yd
      · subst e
        have d2 : decide (yi ≤ xi) = false := decide_eq_false (by omega)
        go_wp2
        exact ⟨⟨j + 2, by go_num, by omega, by omega, HB2.out _ _⟩, by simp [intOf]; omega⟩
      · have d2 : (xd == yd) = false := by simpa using e
        go_wp2
        exact ⟨⟨j + 2, by go_num, by omega, by omega, HB2.out _ _⟩, by simp [intOf]; omega⟩
    · go_wp2
      go_ret
      exact ⟨rfl, HB.out⟩
end Go.Proofs.YtpkiefjanmfgfaaGreatDoor
namespace Go.Proofs.YtpkiefjanmfgfaaGreatDoor
open Go.RowKit

theorem ClsAt.get {w : World} {k : Nat} {c : List Cnd} (h : ClsAt w k c) {i r : Nat} (hi : i < c.length + 1) (hr : r < 3) {v : Value} (hv : (ccell ((c ++ [(77, 0, 0)]).getD i (0, 0, 0)))[r]? = some v) : w.cell? ⟨k, i * 3 + r, none⟩ = some v := by
  have := ccells_get (c ++ [(77, 0, 0)]) i r (by simp; omega) hr
  rw [hv] at this
  unfold ClsAt at h
  simp [World.cell?, h, this]
theorem ClsAt.conds {w : World} {k : Nat} {c : List Cnd} (h : ClsAt w k c) (hm : c.length ≤ 17592186044416) : CondsAt w (cutS k c) c := by
  refine ⟨_, _, rfl, by omega, hm, .inr ⟨k, 0, rfl, fun i hi => ?_⟩⟩
  have e : (c ++ [(77, 0, 0)]).getD i (0, 0, 0) = c.getD i (0, 0, 0) := by rw [List.getD_eq_getElem?_getD, List.getElem?_append_left hi, List.getD_eq_getElem?_getD]
  have g : ∀ r, r < 3 → ∀ v, (ccell (c.getD i (0, 0, 0)))[r]? = some v → w.cell? ⟨k, i * 3 + r, none⟩ = some v := fun r hr v hv => h.get (by omega) hr (by rw [e]; exact hv)
  rw [Nat.zero_add]
  exact ⟨g 0 (by omega) _ rfl, g 1 (by omega) _ rfl, g 2 (by omega) _ rfl⟩
theorem ClsAt.last {w : World} {k : Nat} {c : List Cnd} (h : ClsAt w k c) : w.cell? ⟨k, c.length * 3, none⟩ = some (.int .i64 77) := by
  have e : (c ++ [((77 : Int), (0 : Int), (0 : Int))]).getD c.length (0, 0, 0) = (77, 0, 0) := by simp [List.getD_eq_getElem?_getD]
  exact h.get (i := c.length) (r := 0) (by omega) (by omega) (by rw [e]; rfl)

def OverAt (w : World) (k n q : Nat) : Prop := ∃ arr : Array Value, w.heap[k]? = some (.cells arr 72 (0, 0)) ∧ arr.size = (n + 1) * 3 ∧ ∀ j, j < q → arr[j * 3]? = some (.int .i64 9)
theorem ClsAt.over {w : World} {k : Nat} {c : List Cnd} (h : ClsAt w k c) : OverAt w k c.length 0 := ⟨_, h, by simp [ccells_len], fun j hj => absurd hj (Nat.not_lt_zero _)⟩
theorem OverAt.at {w : World} {k n q : Nat} (h : OverAt w k n q) {o : Nat} (ho : o < (n + 1) * 3) : ∃ u, w.cell? ⟨k, o, none⟩ = some u := by
  obtain ⟨arr, h1, h2, _⟩ := h
  exact ⟨arr[o]'(by omega), by simp [World.cell?, h1, Array.getElem?_eq_getElem (show o < arr.size by omega)]⟩
theorem OverAt.frozen {w : World} {k n q : Nat} (h : OverAt w k n q) (o : Nat) : w.frozen? ⟨k, o, none⟩ = false := by
  obtain ⟨arr, h1, _⟩ := h
  exact cells_frozen h1 o
theorem OverAt.nine {w : World} {k n q : Nat} (h : OverAt w k n q) {j : Nat} (hj : j < q) : w.cell? ⟨k, j * 3, none⟩ = some (.int .i64 9) := by
  obtain ⟨arr, h1, _, h3⟩ := h
  simp [World.cell?, h1, h3 j hj]
theorem OverAt.step {w : World} {k n q : Nat} (h : OverAt w k n q) (hq : q < n + 1) (a b : Value) : OverAt (((w.setCell ⟨k, q * 3, none⟩ (.int .i64 9)).setCell ⟨k, q * 3 + 1, none⟩ a).setCell ⟨k, q * 3 + 2, none⟩ b) k n (q + 1) := by
  obtain ⟨arr, h1, h2, h3⟩ := h
  refine ⟨_, heap_setCell_same _ _ _ _ _ _ (heap_setCell_same _ _ _ _ _ _ (heap_setCell_same _ _ _ _ _ _ h1)), by simp [h2], fun j hj => ?_⟩
  rw [Array.getElem?_setIfInBounds_ne (by omega), Array.getElem?_setIfInBounds_ne (by omega)]
  by_cases e : j = q
  · subst e
    exact Array.getElem?_setIfInBounds_self_of_lt (by omega)
  · rw [Array.getElem?_setIfInBounds_ne (by omega)]
    exact h3 j (by omega)

structure KpS (w wr : World) (allv mv fv : Value) (F : List (List Cnd)) (ks : List Nat) (i : Nat) : Prop where
  b0 : wr.heap[w.heap.size]? = some (.cells #[allv, mv] 141 (0, 0))
  b1 : wr.heap[w.heap.size + 1]? = some (.cells #[fv] 47 (0, 0))
  kept : Kept (fun k => k ∈ ks) w wr
  cls : ∀ j, i ≤ j → j < F.length → ClsAt wr (ks.getD j 0) (F.getD j [])
theorem KpS.on {w wr wq : World} {allv mv fv : Value} {F : List (List Cnd)} {ks : List Nat} {i : Nat} (h : KpS w wr allv mv fv F ks i) (hb : Below wr.heap.size wr wq) : KpS w wq allv mv fv F ks i := by
  have st : ∀ {k : Nat} {o : Obj}, wr.heap[k]? = some o → wq.heap[k]? = some o := fun hk => (hb.block _ (Array.getElem?_eq_some_iff.1 hk).1).trans hk
  exact ⟨st h.b0, st h.b1, h.kept.below hb, fun j h1 h2 => st (h.cls j h1 h2)⟩
end Go.Proofs.YtpkiefjanmfgfaaGreatDoor
namespace Go.Proofs.YtpkiefjanmfgfaaGreatDoor
open Go.RowKit

theorem LentAt.no {w0 w : World} {A : Nat} {mv : Value} {Z : Nat} {F : List (List Cnd)} {ks : List Nat} (h : LentAt w0 w A mv Z F ks) {k : Nat} {arr : Array Value} {e : TypeId} {f : Nat × Nat} (hk : w.heap[k]? = some (.cells arr e f)) (he : e ≠ 72) : k ∉ ks := fun hm => by
  obtain ⟨i, hi, e2⟩ := List.mem_iff_getElem.1 hm
  have h1 := h.cls i (by rw [← h.len]; exact hi)
  rw [List.getD_eq_getElem?_getD, List.getElem?_eq_getElem hi] at h1
  simp only [Option.getD_some, e2] at h1
  exact ne_of_elem hk h1 he rfl
theorem LentAt.later {w0 w wr : World} {A : Nat} {mv : Value} {Z : Nat} {F : List (List Cnd)} {ks : List Nat} (h : LentAt w0 w A mv Z F ks) (hk : Kept (fun k => k ∈ ks) w wr) :
    wr.heap[A]? = some (.cells (List.zipWith cutS ks F ++ [Value.slice (some ⟨Z, 0, none⟩) 1 1]).toArray 73 (0, 0)) ∧ wr.ownsRow 0 73 1 mv F.length (List.zipWith fullS ks F) ∧ wr.heap[Z]? = some (.cells #[.int .i64 78, .int .i64 0, .int .i64 0] 72 (0, 0)) := by
  refine ⟨(hk.block _ (Array.getElem?_eq_some_iff.1 h.all).1 (h.no h.all (by decide))).trans h.all, ownsRow_kept h.mine hk fun g hg => ?_, (hk.block _ (Array.getElem?_eq_some_iff.1 h.z).1 h.zk).trans h.z⟩
  obtain ⟨c, hc⟩ := ownsRow_obj h.mine hg
  exact h.no hc (by decide)
theorem zip_at {α : Type} (f : Nat → List Cnd → α) {ks : List Nat} {F : List (List Cnd)} (hl : ks.length = F.length) {i : Nat} (hi : i < F.length) : (List.zipWith f ks F)[i]? = some (f (ks.getD i 0) (F.getD i [])) := by
  rw [List.getElem?_zipWith, List.getD_eq_getElem?_getD, List.getD_eq_getElem?_getD, List.getElem?_eq_getElem (by omega), List.getElem?_eq_getElem hi]; rfl

theorem KpS.next {w w4 wq : World} {allv mv fv : Value} {F : List (List Cnd)} {ks : List Nat} {k kk : Nat} (h : KpS w w4 allv mv fv F ks k) (hk : Kept (fun x => x = kk) w4 wq) (hkm : kk ∈ ks) (hne : ∀ j, k + 1 ≤ j → j < F.length → ks.getD j 0 ≠ kk) (hX : w.heap.size ≠ kk) (hY : w.heap.size + 1 ≠ kk) : KpS w wq allv mv fv F ks (k + 1) := by
  have st : ∀ {x : Nat} {o : Obj}, w4.heap[x]? = some o → x ≠ kk → wq.heap[x]? = some o := fun hx hn => (hk.block _ (Array.getElem?_eq_some_iff.1 hx).1 hn).trans hx
  exact ⟨st h.b0 hX, st h.b1 hY, h.kept.trans hk (fun x _ e => e ▸ hkm), fun j h1 h2 => st (h.cls j (by omega) h2) (hne j h1 h2)⟩

set_option maxHeartbeats 4000000 in
set_option maxRecDepth 20000 in
theorem kept75 (w0 w : World) (A : Nat) (mv : Value) (Z : Nat) (F : List (List Cnd)) (ks : List Nat) (fv : Value) (h : LentAt w0 w A mv Z F ks) (hold : Below w0.heap.size w0 w) (hf : FiltAt w0 fv F) (hm : ∀ c ∈ F, (c.length + 1) * 24 ≤ 140737488355328) (hn : (F.length + 1) * 24 ≤ 140737488355328) :
    Calls Tryz.prog 75 #[.agg #[.slice (some ⟨A, 0, none⟩) (F.length + 1) (F.length + 1), mv], .agg #[fv]] w fun ev w' => ev = .returned (.bool true) ∧ Kept (fun k => k ∈ ks) w w' := by
  obtain ⟨fa, fcap, rfl, _⟩ := id hf
  obtain ⟨ma, mn, mc, hmv⟩ : ∃ ma mn mc, mv = .slice ma mn mc := by
    rcases h.mine.2 with ⟨e, _⟩ | ⟨_, _, _, e, _⟩
    · exact ⟨_, _, _, e⟩
    · exact ⟨_, _, _, e⟩
  subst hmv
  have hS0 : KpS w ((w.alloc (.cells #[.slice (some ⟨A, 0, none⟩) (F.length + 1) (F.length + 1), .slice ma mn mc] 141)).alloc (.cells #[.slice fa F.length fcap] 47)) (.slice (some ⟨A, 0, none⟩) (F.length + 1) (F.length + 1)) (.slice ma mn mc) (.slice fa F.length fcap) F ks 0 := by
    have hb : Below w.heap.size w ((w.alloc (.cells #[.slice (some ⟨A, 0, none⟩) (F.length + 1) (F.length + 1), .slice ma mn mc] 141)).alloc (.cells #[.slice fa F.length fcap] 47)) := ((Below.refl _ _).alloc (Nat.le_refl _) _).alloc (by simp) _
    exact ⟨(Below.heap_alloc _ _ _ (by simp)).trans (heap_alloc_new _ _), heap_alloc2_new _ _ _, Kept.of_below _ hb, fun j _ hj => (hb.block _ (Array.getElem?_eq_some_iff.1 (h.cls j hj)).1).trans (h.cls j hj)⟩
  have HLT : Hid (∀ wr, Kept (fun k => k ∈ ks) w wr → wr.heap[A]? = some (.cells (List.zipWith cutS ks F ++ [Value.slice (some ⟨Z, 0, none⟩) 1 1]).toArray 73 (0, 0)) ∧ wr.ownsRow 0 73 1 (.slice ma mn mc) F.length (List.zipWith fullS ks F) ∧ wr.heap[Z]? = some (.cells #[.int .i64 78, .int .i64 0, .int .i64 0] 72 (0, 0))) := fun wr hk => h.later hk
  have HFT : Hid (∀ wr, Kept (fun k => k ∈ ks) w wr → FiltAt wr (.slice fa F.length fcap) F) := fun wr hk => hf.below (hold.trans (hk.toBelow hold.size fun k hk => h.new k hk))
  have H := hide h
  have HM := hide hm
  have HS0 := hide hS0
  have hln := h.len
  obtain ⟨q1, q2, q3⟩ := h.later hS0.kept
  have z0 := cells_at q3 0 rfl
  have an : ((w.alloc (.cells #[.slice (some ⟨A, 0, none⟩) (F.length + 1) (F.length + 1), .slice ma mn mc] 141)).alloc (.cells #[.slice fa F.length fcap] 47)).cell? ⟨A, F.length, none⟩ = some (.slice (some ⟨Z, 0, none⟩) 1 1) := by
    have hzl : (List.zipWith cutS ks F).length = F.length := by simp; omega
    simp only [World.cell?, q1]
    simp [hzl]
  have x0 := cells_at hS0.b0 0 rfl
  have x1 := cells_at hS0.b1 0 rfl
  have hfl : F.length ≤ 17592186044416 := by omega
  clear h hm hf hS0 q1 q2 q3 hold
  go_enter Tryz.func75, Tryz.ntmps75
  go_wp2
  generalize hwe : (w.alloc (.cells #[.slice (some ⟨A, 0, none⟩) (F.length + 1) (F.length + 1), .slice ma mn mc] 141)).alloc (.cells #[.slice fa F.length fcap] 47) = w1 at HS0 ⊢
  clear hwe z0 an x0 x1
  obtain ⟨X, hX⟩ : ∃ X, X = w.heap.size := ⟨_, rfl⟩
  obtain ⟨Y, hY⟩ : ∃ Y, Y = w.heap.size + 1 := ⟨_, rfl⟩
  rw [← hY, ← hX]
  have HX := hide hX
  have HY := hide hY
  clear hX hY
  go_loopw [6, 7, 8, 9, 10, 11, 12] (fun ok i _ _ _ _ _ wr => ∃ k : Nat, ok = .bool true ∧ i = .int .i64 k ∧ k ≤ F.length ∧ Hid (KpS w wr (.slice (some ⟨A, 0, none⟩) (F.length + 1) (F.length + 1)) (.slice ma mn mc) (.slice fa F.length fcap) F ks k)) (fun _ i _ _ _ _ _ _ => F.length - (intOf i).toNat)
  case atStart => exact ⟨0, rfl, rfl, Nat.zero_le _, HS0⟩
  case round =>
    clear HS0
    obtain ⟨k, rfl, rfl, hk, hr⟩ := hrel
    by_cases hlt : k < F.length
    · obtain ⟨b, off, ua, uc, rfl, hu, hcu⟩ := (HFT.out _ hr.out.kept).clause hlt
      obtain ⟨l1, l2, _⟩ := HLT.out _ hr.out.kept
      have a0 : wr.cell? ⟨A, k, none⟩ = some (cutS (ks.getD k 0) (F.getD k [])) := by
        simp only [World.cell?, l1]
        have := zip_at cutS hln hlt
        have h2 := (List.getElem?_eq_some_iff.1 this).1
        simp [List.getElem?_append_left h2, this]
      obtain ⟨mg, rfl⟩ : ∃ mg, ma = some ⟨mg, 0, none⟩ := by
        rcases l2.2 with ⟨_, h0⟩ | ⟨g, _, _, e, _⟩
        · omega
        · simp only [Value.slice.injEq] at e
          exact ⟨g, e.1⟩
      have hmn : mn = F.length := by
        rcases l2.2 with ⟨_, h0⟩ | ⟨g, _, _, e, _⟩
        · omega
        · simp only [Value.slice.injEq] at e
          exact e.2.1
      subst hmn
      have m0 : wr.cell? ⟨mg, k, none⟩ = some (fullS (ks.getD k 0) (F.getD k [])) := ownsRow_cell l2 (zip_at fullS hln hlt)
      have hmg : mg < wr.heap.size := (l2.lt mg rfl).2
      have hcl := hr.out.cls k (Nat.le_refl _) hlt
      have hcm := HM.out (F.getD k []) (by rw [List.getD_eq_getElem?_getD, List.getElem?_eq_getElem hlt]; exact List.getElem_mem hlt)
      have hkm : ks.getD k 0 ∈ ks := by rw [List.getD_eq_getElem?_getD, List.getElem?_eq_getElem (by omega)]; exact List.getElem_mem _
      have hne : ∀ j, k + 1 ≤ j → j < F.length → ks.getD j 0 ≠ ks.getD k 0 := fun j h1 h2 e => by
        rw [List.getD_eq_getElem?_getD, List.getD_eq_getElem?_getD, List.getElem?_eq_getElem (show j < ks.length by omega), List.getElem?_eq_getElem (show k < ks.length by omega)] at e
        simp only [Option.getD_some] at e
        exact (List.pairwise_iff_getElem.1 H.out.nod) k j (by omega) (by omega) (by omega) e.symm
      generalize F.getD k [] = c at hu hcu a0 m0 hcl hcm
      generalize ks.getD k 0 = kk at a0 m0 hcl hkm hne
      unfold cutS at a0
      unfold fullS at m0
      have hc1 : c.length ≤ 17592186044416 := by omega
      have HSC : Hid (∀ W, Below wr.heap.size wr W → Calls Tryz.prog 123 #[.slice (some ⟨kk, 0, none⟩) c.length (c.length + 1), .slice ua c.length uc] W fun ev w' => ev = .returned (.bool true) ∧ Below W.heap.size W w') := fun W hW => sameConds123 _ _ c W ((hcl.conds hc1).below hW) (hcu.below hW)
      have xc0 : wr.cell? ⟨X, 0, none⟩ = some (.slice (some ⟨A, 0, none⟩) (F.length + 1) (F.length + 1)) := by rw [HX.out]; exact cells_at hr.out.b0 0 rfl
      have xc1 : wr.cell? ⟨X, 1, none⟩ = some (.slice (some ⟨mg, 0, none⟩) F.length mc) := by rw [HX.out]; exact cells_at hr.out.b0 1 rfl
      have yc0 : wr.cell? ⟨Y, 0, none⟩ = some (.slice (some ⟨b, off, none⟩) F.length fcap) := by rw [HY.out]; exact cells_at hr.out.b1 0 rfl
      have hlast := hcl.last
      have HSB : Hid (∀ W, Below wr.heap.size wr W → W.cell? ⟨X, 0, none⟩ = some (.slice (some ⟨A, 0, none⟩) (F.length + 1) (F.length + 1)) ∧ W.cell? ⟨A, k, none⟩ = some (.slice (some ⟨kk, 0, none⟩) c.length (c.length + 1)) ∧ W.cell? ⟨Y, 0, none⟩ = some (.slice (some ⟨b, off, none⟩) F.length fcap) ∧ W.cell? ⟨b, off + k, none⟩ = some (.slice ua c.length uc)) := fun W hW => ⟨cell_below xc0 hW, cell_below a0 hW, cell_below yc0 hW, cell_below hu hW⟩
      have HSD : Hid (∀ W, Below wr.heap.size wr W → W.cell? ⟨X, 1, none⟩ = some (.slice (some ⟨mg, 0, none⟩) F.length mc) ∧ W.cell? ⟨mg, k, none⟩ = some (.slice (some ⟨kk, 0, none⟩) (c.length + 1) (c.length + 1)) ∧ W.cell? ⟨Y, 0, none⟩ = some (.slice (some ⟨b, off, none⟩) F.length fcap) ∧ W.cell? ⟨b, off + k, none⟩ = some (.slice ua c.length uc)) := fun W hW => ⟨cell_below xc1 hW, cell_below m0 hW, cell_below yc0 hW, cell_below hu hW⟩
      have HE : Hid (∀ W, Below wr.heap.size wr W → W.cell? ⟨X, 0, none⟩ = some (.slice (some ⟨A, 0, none⟩) (F.length + 1) (F.length + 1)) ∧ W.cell? ⟨A, k, none⟩ = some (.slice (some ⟨kk, 0, none⟩) c.length (c.length + 1)) ∧ W.cell? ⟨X, 1, none⟩ = some (.slice (some ⟨mg, 0, none⟩) F.length mc) ∧ W.cell? ⟨mg, k, none⟩ = some (.slice (some ⟨kk, 0, none⟩) (c.length + 1) (c.length + 1)) ∧ W.cell? ⟨kk, c.length * 3, none⟩ = some (.int .i64 77)) := fun W hW => ⟨cell_below xc0 hW, cell_below a0 hW, cell_below xc1 hW, cell_below m0 hW, cell_below hlast hW⟩
      have hXk : w.heap.size ≠ kk := ne_of_elem hr.out.b0 hcl (by decide)
      have hYk : w.heap.size + 1 ≠ kk := ne_of_elem hr.out.b1 hcl (by decide)
      have hAk : A ≠ kk := ne_of_elem l1 hcl (by decide)
      have hMk : mg ≠ kk := by
        obtain ⟨cm, hcm⟩ := ownsRow_obj l2 (g := mg) rfl
        exact ne_of_elem hcm hcl (by decide)
      have HNX : Hid (w.heap.size ≠ kk ∧ w.heap.size + 1 ≠ kk) := ⟨hXk, hYk⟩
      have HNA : Hid (X ≠ kk ∧ A ≠ kk ∧ mg ≠ kk) := ⟨by rw [HX.out]; exact hXk, hAk, hMk⟩
      clear hXk hYk hAk hMk
      have HCL := hide hcl
      have HKM := hide hkm
      have HNE := hide hne
      clear l1 l2 a0 m0 hcl hcm hcu xc0 xc1 hlast hkm hne HFT HLT hmg
      have bd1 : k < F.length + 1 := by omega
      have bd2 : (k : Int) < (F.length : Int) + 1 := by omega
      have bd3 : (0 : Int) ≤ (c.length : Int) := by omega
      have bd4 : (c.length : Int) ≤ (c.length : Int) + 1 := by omega
      as_aux_lemma =>
      go_wp2
      clear yc0 hu
      go_region_held3 (fun wx => wx.cell? ⟨X, 0, none⟩ = some (.slice (some ⟨A, 0, none⟩) (F.length + 1) (F.length + 1)) ∧ wx.cell? ⟨A, k, none⟩ = some (.slice (some ⟨kk, 0, none⟩) c.length (c.length + 1)) ∧ wx.cell? ⟨Y, 0, none⟩ = some (.slice (some ⟨b, off, none⟩) F.length fcap) ∧ wx.cell? ⟨b, off + k, none⟩ = some (.slice ua c.length uc))
        ((refine HSB.out _ ?_; repeat (first | with_reducible exact hb3 | exact Below.refl _ _ | refine Below.drew ?_)))
        (first | (go_at_call 123; refine (HSC.out _ (Below.refl _ _).drew).mono ?_; rintro e3 w3 ⟨rfl, b3⟩; have hb3 : Below wr.heap.size wr w3 := Below.undrew b3))
      have HB3 := hide hb3
      clear hb3 b3
      go_wp2
      go_region_held3 (fun wx => wx.cell? ⟨X, 1, none⟩ = some (.slice (some ⟨mg, 0, none⟩) F.length mc) ∧ wx.cell? ⟨mg, k, none⟩ = some (.slice (some ⟨kk, 0, none⟩) (c.length + 1) (c.length + 1)) ∧ wx.cell? ⟨Y, 0, none⟩ = some (.slice (some ⟨b, off, none⟩) F.length fcap) ∧ wx.cell? ⟨b, off + k, none⟩ = some (.slice ua c.length uc))
        ((refine HSD.out _ ?_; repeat (first | with_reducible exact HB3.out | with_reducible exact hb4 | refine Below.drew ?_)))
        (first | (go_at_call 123; refine (HSC.out _ HB3.out.drew).mono ?_; rintro e4 w4 ⟨rfl, b4⟩; have hb4 : Below wr.heap.size wr w4 := HB3.out.trans ((Below.undrew b4).mono HB3.out.size)))
      obtain ⟨e1, e2, e3, e4, e5⟩ := HE.out _ hb4
      have HB4 := hide hb4
      clear hb4 b4
      go_wp2
      have HC4 : Hid (ClsAt w4 kk c) := (HB4.out.block _ (Array.getElem?_eq_some_iff.1 HCL.out).1).trans HCL.out
      have HK4 := hide (hr.out.on HB4.out)
      have HE4 : Hid (∀ W, Kept (fun x => x = kk) w4 W → W.cell? ⟨X, 0, none⟩ = some (.slice (some ⟨A, 0, none⟩) (F.length + 1) (F.length + 1)) ∧ W.cell? ⟨A, k, none⟩ = some (.slice (some ⟨kk, 0, none⟩) c.length (c.length + 1)) ∧ W.cell? ⟨X, 1, none⟩ = some (.slice (some ⟨mg, 0, none⟩) F.length mc) ∧ W.cell? ⟨mg, k, none⟩ = some (.slice (some ⟨kk, 0, none⟩) (c.length + 1) (c.length + 1))) := fun W hW => ⟨hW.cell e1 HNA.out.1, hW.cell e2 HNA.out.2.1, hW.cell e3 HNA.out.1, hW.cell e4 HNA.out.2.2⟩
      clear e1 e2 e3 e4 e5 HCL HE HSB HSD HSC HB3 HB4
      go_loopw [11] (fun i wq => ∃ q : Nat, i = .int .i64 q ∧ q ≤ c.length + 1 ∧ Hid (OverAt wq kk c.length q) ∧ Hid (Kept (fun x => x = kk) w4 wq)) (fun i _ => c.length + 1 - (intOf i).toNat)
      case atStart => exact ⟨0, rfl, Nat.zero_le _, HC4.out.over, Kept.refl _ _⟩
      case round =>
        rename World => wq
        obtain ⟨q, rfl, hq, HO, HKQ⟩ := hrel
        obtain ⟨f1, f2, f3, f4⟩ := HE4.out _ HKQ.out
        by_cases hql : q ≤ c.length
        · obtain ⟨u0, hu0⟩ := HO.out.at (o := q * 3) (by omega)
          obtain ⟨u1, hu1⟩ := HO.out.at (o := q * 3 + 1) (by omega)
          obtain ⟨u2, hu2⟩ := HO.out.at (o := q * 3 + 2) (by omega)
          have hfz := HO.out.frozen
          have hql2 : (q : Int) ≤ (c.length : Int) := by omega
          have hql3 : q < c.length + 1 := by omega
          have hql4 : (q : Int) < (c.length : Int) + 1 := by omega
          clear f1 f2
          go_wp2
          exact ⟨⟨q + 1, by go_num, by omega, HO.out.step (by omega) _ _, ((HKQ.out.setG _ _).setG _ _).setG _ _⟩, by simp [intOf]; omega⟩
        · obtain rfl : q = c.length + 1 := by omega
          have HKN := hide (HK4.out.next HKQ.out HKM.out HNE.out HNX.out.1 HNX.out.2)
          clear f3 f4 HKQ HE4 HK4 hr
          go_wp2
          go_loop [6, 12] (fun ok i => ∃ q : Nat, ok = .bool true ∧ i = .int .i64 q ∧ q ≤ c.length) (fun _ i => c.length - (intOf i).toNat)
          case atStart => exact ⟨0, rfl, rfl, Nat.zero_le _⟩
          case round =>
            obtain ⟨q, rfl, rfl, hq⟩ := hrel
            by_cases hql : q < c.length
            · have h9 := HO.out.nine (j := q) (by omega)
              go_wp2
              exact ⟨⟨q + 1, rfl, by go_num, by omega⟩, by simp [intOf]; omega⟩
            · go_wp2
              exact ⟨⟨k + 1, rfl, by go_num, by omega, HKN⟩, by simp [intOf]; omega⟩
    · go_wp2
      go_ret
      exact ⟨rfl, hr.out.kept⟩
end Go.Proofs.YtpkiefjanmfgfaaGreatDoor
namespace Go.Proofs.YtpkiefjanmfgfaaGreatDoor
open Go.RowKit Go.Maps

set_option maxHeartbeats 1000000 in
theorem delete16_no (bb bs bm : Nat) (cf : Cf) (gn : Net) (id : Int) (L : List Ent) (w : World) (hid : I64 id) (h : BaseAt w bb bs bm cf gn L) (he : findE id L = none) :
    Calls Tryz.prog 24 #[.pointer (some ⟨bb, 0, none⟩), .int .i64 id] w fun ev w' => ev = .returned (.int .i64 5) ∧ Below w.heap.size w w' := by
  have b6 := h.b6
  have H := hide h
  clear h
  go_enter Tryz.func24, Tryz.ntmps24
  go_wp2_with fail
  refine (delete31_no bs bm id L _ hid H.out.s1 H.out.map he).mono ?_
  rintro ev w1 ⟨⟨s, rfl⟩, hb⟩
  go_wp2_with fail
  refine (errno_one s id 5 _ (H.out.hdl.below hb)).mono ?_
  rintro ev w2 ⟨rfl, hb2⟩
  go_wp2
  go_ret
  exact ⟨rfl, hb.trans (hb2.mono hb.size)⟩

theorem BaseAt.mapTurned {w w' : World} {bb bs bm : Nat} {cf : Cf} {gn : Net} {L : List Ent} (h : BaseAt w bb bs bm cf gn L) (hk : Kept (fun k => k = bm) w w') :
    (w'.cell? ⟨bb, 2, none⟩ = some (.int .i64 cf.links) ∧ w'.cell? ⟨bb, 4, none⟩ = some (.int .i64 cf.beam) ∧ w'.cell? ⟨bb, 7, none⟩ = some (.pointer (some ⟨gn.bg, 0, none⟩))) ∧ GAt w' gn.bg gn.F gn.lev gn.lk gn.ch :=
  ⟨⟨hk.cell h.b2 (h.map.cell_ne h.b2), hk.cell h.b4 (h.map.cell_ne h.b4), hk.cell h.b7 (h.map.cell_ne h.b7)⟩, h.g.kept hk (fun k hf e => (h.foot k hf).2.2.2.2.1 e)⟩

theorem BaseAt.again {w w' : World} {bb bs bm : Nat} {cf : Cf} {gn gn' : Net} {L L' : List Ent} (h : BaseAt w bb bs bm cf gn L) (hk : Kept (fun k => k = bm ∨ gn.F k) w w') (hm : MapAt w' bm L') (hg : GAt w' gn'.bg gn'.F gn'.lev gn'.lk gn'.ch) (hok : NOk cf.links gn'.lev gn'.lk gn'.ch)
    (hbg : gn'.bg = gn.bg) (hlo : gn'.looks = gn.looks) (hlv : ∀ i, levOf gn'.lev i = (findE i L').map fun e => lvlOf cf e.draw) (hfew : L'.length ≤ 60) (hx : ∀ e ∈ L', I64 e.id ∧ (e.pt.length : Int) = cf.dim ∧ ∀ x ∈ e.pt, Crd x) (hdw : ∀ e ∈ L', 0 ≤ e.draw ∧ e.draw < 18446744073709551616) (hf : ∀ k, gn'.F k → k < w'.heap.size ∧ (gn.F k ∨ w.heap.size ≤ k) ∧ ∀ e ∈ L', k ≠ e.mb) : BaseAt w' bb bs bm cf gn' L' := by
  have n1 : ¬ (bb = bm ∨ gn.F bb) := fun e => e.elim (h.map.cell_ne h.b0) (fun e => (h.foot _ e).2.2.1 rfl)
  have n2 : ¬ (bs = bm ∨ gn.F bs) := fun e => e.elim (h.map.cell_ne h.s0) (fun e => (h.foot _ e).2.2.2.1 rfl)
  have n3 : ¬ (0 = bm ∨ gn.F 0) := fun e => e.elim (h.map.cell_ne h.hdl) (fun e => (h.foot _ e).2.1 rfl)
  have l1 := block_lt_of_cell h.b0
  have l2 := block_lt_of_cell h.s0
  have l3 := h.hdl.lt
  have l4 := h.map.lt
  simp only at l1 l2
  refine ⟨hk.cell h.b0 n1, hk.cell h.b2 n1, hk.cell h.b3 n1, hk.cell h.b4 n1, hk.cell h.b5 n1, hk.cell h.b6 n1, by rw [hbg]; exact hk.cell h.b7 n1, by rw [hlo]; exact hk.cell h.b8 n1, hk.cell h.s0 n2, hk.cell h.s1 n2, hm, h.hdl.kept hk n3, hg, hok, hlv, hfew, fun e he => (hx e he).1, fun e he => (hx e he).2.1, fun e he => (hx e he).2.2, hdw, fun k hk' => ?_, h.cfok⟩
  obtain ⟨h1, h2, h3⟩ := hf k hk'
  rcases h2 with h2 | h2
  · obtain ⟨_, q1, q2, q3, q4, _⟩ := h.foot k h2
    exact ⟨h1, q1, q2, q3, q4, h3⟩
  · exact ⟨h1, by omega, by omega, by omega, by omega, h3⟩

set_option maxHeartbeats 2000000 in
theorem delete16_yes (bb bs bm : Nat) (cf : Cf) (gn : Net) (id : Int) (L : List Ent) (e : Ent) (w : World) (hid : I64 id) (h : BaseAt w bb bs bm cf gn L) (he : findE id L = some e) :
    Calls Tryz.prog 24 #[.pointer (some ⟨bb, 0, none⟩), .int .i64 id] w fun ev w' => ev = .returned (.int .i64 0) ∧ ∃ gn', BaseAt w' bb bs bm cf gn' (delE id L) ∧ Kept (fun k => k = bm ∨ gn.F k) w w' ∧ (∀ k, gn'.F k → gn.F k ∨ w.heap.size ≤ k) ∧ gn.like gn' := by
  have b6 := h.b6
  have H := hide h
  have hst := delete31_yes bs bm id L e w hid h.s1 h.map he
  have HST := hide hst
  clear h hst
  go_enter Tryz.func24, Tryz.ntmps24
  go_wp2_with fail
  refine HST.out.mono ?_
  rintro ev w1 ⟨rfl, hm1, hk1⟩
  obtain ⟨⟨c2, c4, c7⟩, hg1⟩ := H.out.mapTurned hk1
  have hwv := weave42 bb gn.bg cf.links cf.beam w1 c2 c4 c7
  have HWV := hide hwv
  have HM1 := hide hm1
  have HK1 := hide hk1
  have HG1 := hide hg1
  clear hwv hm1 hk1 hg1 c2 c4 c7 HST b6
  go_wp2_with fail
  refine HWV.out.mono ?_
  rintro ev w2 ⟨rfl, hc2, hb2⟩
  have hF : ∀ k, gn.F k → k < w2.heap.size ∧ k ≠ bb ∧ k ≠ bs ∧ k ≠ bm ∧ k ≠ w1.heap.size ∧ ∀ e ∈ delE id L, k ≠ e.mb := fun k hf => by
    obtain ⟨q0, _, q2, q3, q4, q5⟩ := H.out.foot k hf
    have := HK1.out.size
    have := hb2.size
    exact ⟨by omega, q2, q3, q4, by omega, fun e he => q5 e (mem_delE he)⟩
  have hp2 : PtsAt w2 bb bs bm cf.metric cf.dim.toNat (delE id L) := by
    have hp : PtsAt w1 bb bs bm cf.metric cf.dim.toNat (delE id L) := ⟨HK1.out.cell H.out.b3 (H.out.map.cell_ne H.out.b3), HK1.out.cell H.out.b6 (H.out.map.cell_ne H.out.b6), HK1.out.cell H.out.s1 (H.out.map.cell_ne H.out.s1), HM1.out, fun e he => H.out.pts.len e (mem_delE he), fun e he => H.out.crd e (mem_delE he)⟩
    exact hp.below hb2
  have hdel := netDel (w := w2) (bb := bb) (bs := bs) (bm := bm) (bc := w1.heap.size) (cf := cf) (gn := gn) (L' := delE id L) (HG1.out.below hb2) H.out.ok hF hp2 hc2 H.out.cfok id hid (fun x hx => by
      obtain ⟨e, he⟩ := Option.isSome_iff_exists.1 (H.out.ids.1 hx)
      rw [← (findE_mem he).2]
      exact H.out.ints e (findE_mem he).1) H.out.idsLen (fun x hx hne => by rw [findE_del hne]; exact H.out.ids.1 hx)
  have HDEL := hide hdel
  have HB2 := hide hb2
  clear hdel hp2 hF hb2 hc2 HWV
  go_wp2_with fail
  refine HDEL.out.mono ?_
  rintro ev w3 ⟨rfl, F', lk', hg3, hok3, hk3, hf3⟩
  have H3 := hide hg3
  have HO3 := hide hok3
  have HK3 := hide hk3
  have HF3 := hide hf3
  clear hg3 hok3 hk3 hf3 HDEL
  go_wp2
  go_ret
  have hsz1 := HK1.out.size
  have hsz2 := HB2.out.size
  have hk13 : Kept (fun k => k = bm ∨ gn.F k) w w3 := (((HK1.out.mono (fun _ _ e => .inl e)).below HB2.out).trans HK3.out (fun _ _ e => .inr e))
  have hm3 : MapAt w3 bm (delE id L) := (HM1.out.below HB2.out).keptS HK3.out (fun e => (H.out.foot _ e).2.2.2.2.1 rfl) (fun e he hf => (H.out.foot _ hf).2.2.2.2.2 e (mem_delE he) rfl)
  refine ⟨rfl, ⟨gn.bg, fun k => F' k ∧ k < w3.heap.size, levDel id gn.lev, lk', keepP (fun x => decide (x = id)) gn.ch, gn.looks, gn.ex, gn.lows, gn.lst, gn.pt⟩, H.out.again hk13 hm3 H3.out.tight HO3.out rfl rfl (fun i => ?_) ?_ (fun e he => ⟨H.out.ints e (mem_delE he), H.out.len e (mem_delE he), H.out.crd e (mem_delE he)⟩) (fun e he => H.out.drw e (mem_delE he)) (fun k hk => ⟨hk.2, (HF3.out k hk.1).imp (fun e => e) (fun e => by omega), fun e he => ?_⟩), hk13, fun k hk => (HF3.out k hk.1).imp (fun e => e) (fun e => by omega), rfl, rfl, rfl, rfl, rfl⟩
  · by_cases hi : i = id
    · subst hi
      rw [levOf_levDel_self, findE_del_self]; rfl
    · rw [levOf_levDel_ne hi, findE_del hi]; exact H.out.lv i
  · have : (delE id L).length ≤ L.length := List.length_filter_le _ _
    have := H.out.few
    omega
  · rcases HF3.out k hk.1 with e1 | e1
    · exact (H.out.foot k e1).2.2.2.2.2 e (mem_delE he)
    · have := H.out.map.plt e (mem_delE he)
      omega
end Go.Proofs.YtpkiefjanmfgfaaGreatDoor
namespace Go.Proofs.YtpkiefjanmfgfaaGreatDoor
open Go.RowKit Go.Maps

def putCode (dim cap : Int) (id : Int) (xs : List Int) (L : List Ent) : Int :=
  if ptCode dim xs ≠ 0 then ptCode dim xs else if (findE id L).isSome = true ∨ ¬ cap ≤ L.length then 0 else 4

set_option maxHeartbeats 1000000 in
theorem put13_bad (bb bs bm : Nat) (cf : Cf) (gn : Net) (id t0 t1 draw : Int) (xs : List Int) (v : Value) (L : List Ent) (w : World) (h : BaseAt w bb bs bm cf gn L) (r : Int) (hr : ptCode cf.dim xs = r) (hbad : r ≠ 0) (hvl : ∀ o, IntsAt (w.alloc o) v xs) :
    Calls Tryz.prog 21 #[.pointer (some ⟨bb, 0, none⟩), .int .i64 id, v, .agg #[.int .i64 t0, .int .i64 t1], .int .u64 draw] w fun ev w' => ev = .returned (.int .i64 r) ∧ Below w.heap.size w w' := by
  have b0 := h.b0
  have hbb := block_lt_of_cell b0
  have HR := hide hr
  have H := hide h
  clear hr h
  go_enter Tryz.func21, Tryz.ntmps21
  go_wp2_with fail
  refine (point27_any xs v cf.dim _ (hvl _)).mono ?_
  rintro ev w1 ⟨⟨x, rfl, hx⟩, hb1⟩
  rw [HR.out] at hx
  have hbw : Below w.heap.size w w1 := ((Below.refl _ _).alloc (Nat.le_refl _) _).trans (hb1.mono (by simp))
  rcases hx with ⟨h0, _⟩ | ⟨_, ⟨s, n, rfl⟩ | ⟨s, n, s2, n2, rfl⟩⟩
  · exact absurd h0 hbad
  · go_wp2_with fail
    refine (errno_one s n r _ (H.out.hdl.below hbw)).mono ?_
    rintro ev w2 ⟨rfl, hb2⟩
    go_wp2
    go_ret
    exact ⟨rfl, hbw.trans (hb2.mono hbw.size)⟩
  · go_wp2_with fail
    refine (errno_two s s2 n n2 r _ (H.out.hdl.below hbw)).mono ?_
    rintro ev w2 ⟨rfl, hb2⟩
    go_wp2
    go_ret
    exact ⟨rfl, hbw.trans (hb2.mono hbw.size)⟩

set_option maxHeartbeats 2000000 in
theorem put13_full (bb bs bm : Nat) (cf : Cf) (gn : Net) (id t0 t1 draw : Int) (xs : List Int) (a : Option Addr) (pn pc : Nat) (L : List Ent) (w : World) (hid : I64 id) (h : BaseAt w bb bs bm cf gn L) (hr : ptCode cf.dim xs = 0) (hvl : ∀ o, IntsAt (w.alloc o) (.slice a pn pc) xs)
    (he : findE id L = none) (hfull : cf.cap ≤ L.length) :
    Calls Tryz.prog 21 #[.pointer (some ⟨bb, 0, none⟩), .int .i64 id, .slice a pn pc, .agg #[.int .i64 t0, .int .i64 t1], .int .u64 draw] w fun ev w' => ev = .returned (.int .i64 4) ∧ Below w.heap.size w w' := by
  have b0 := h.b0
  have hbb := block_lt_of_cell b0
  have HR := hide hr
  have H := hide h
  clear hr h
  go_enter Tryz.func21, Tryz.ntmps21
  go_wp2_with fail
  refine (point27_any xs (.slice a pn pc) cf.dim _ (hvl _)).mono ?_
  rintro ev w1 ⟨⟨x, rfl, hx⟩, hb1⟩
  rw [HR.out] at hx
  have hbw : Below w.heap.size w w1 := ((Below.refl _ _).alloc (Nat.le_refl _) _).trans (hb1.mono (by simp))
  rcases hx with ⟨_, rfl⟩ | ⟨h0, _⟩
  · have k0 : w1.cell? ⟨w.heap.size, 0, none⟩ = some (.int .i64 t0) := Below.at hb1 (by simp) (by simp)
    have k1 : w1.cell? ⟨w.heap.size, 1, none⟩ = some (.int .i64 t1) := Below.at hb1 (by simp) (by simp)
    have h1 := H.out.below hbw
    have b6 := h1.b6
    have HB := hide hbw
    have H1 := hide h1
    clear b0 hbw hb1 h1
    go_wp2
    go_region_held3 (fun wx => wx.cell? ⟨bb, 6, none⟩ = some (.pointer (some ⟨bs, 0, none⟩)) ∧ wx.cell? ⟨w.heap.size, 0, none⟩ = some (.int .i64 t0) ∧ wx.cell? ⟨w.heap.size, 1, none⟩ = some (.int .i64 t1))
      (first | (exact ⟨b6, k0, k1⟩) | (exact ⟨Below.at hb2 b6 (block_lt_of_cell b6), Below.at hb2 k0 (block_lt_of_cell k0), Below.at hb2 k1 (block_lt_of_cell k1)⟩))
      (first
        | (go_at_call 44; refine (put28_full bs bm id t0 t1 _ a pn pc rfl L _ hid cf.cap ?_ ?_ ?_ he hfull).mono ?_; (exact H1.out.s0); (exact H1.out.s1); (exact H1.out.map.below (Below.refl _ _).drew); rintro ev2 w2 ⟨⟨s, rfl⟩, hb2d⟩; have hb2 := Below.undrew hb2d))
    go_wp2_with fail
    refine (errno_one s id 4 _ (H1.out.hdl.below hb2)).mono ?_
    rintro ev3 w3 ⟨rfl, hb3⟩
    go_wp2
    go_ret
    have hb23 := hb2.trans (hb3.mono hb2.size)
    exact ⟨rfl, HB.out.trans (hb23.mono HB.out.size)⟩
  · exact absurd rfl h0

theorem ptCode_crd {dim : Int} {xs : List Int} (h : ptCode dim xs = 0) : (xs.length : Int) = dim ∧ ∀ x ∈ xs, Crd x := by
  unfold ptCode at h
  split at h
  · rename_i e
    split at h
    · rename_i ha
      refine ⟨e, fun x hx => ?_⟩
      have := List.all_eq_true.1 ha x hx
      simp only [coordB, inB, Bool.and_eq_true, decide_eq_true_eq] at this
      exact ⟨by omega, by omega⟩
    · cases h
  · cases h

set_option maxHeartbeats 4000000 in
set_option maxRecDepth 20000 in
theorem put13_ok (bb bs bm : Nat) (cf : Cf) (gn : Net) (id t0 t1 : Int) (draw : Nat) (xs : List Int) (b off pc : Nat) (L : List Ent) (w : World) (hid : I64 id) (hdr : draw < 18446744073709551616) (h : BaseAt w bb bs bm cf gn L) (hr : ptCode cf.dim xs = 0) (hvl : ∀ o, IntsAt (w.alloc o) (.slice (some ⟨b, off, none⟩) xs.length pc) xs)
    (hroom : Room cf.cap id L) (h0 : 0 < xs.length) (h8 : xs.length ≤ 8) (hc : ∀ i, i < xs.length → w.cell? ⟨b, off + i, none⟩ = some (.int .i64 (xs.getD i 0))) :
    Calls Tryz.prog 21 #[.pointer (some ⟨bb, 0, none⟩), .int .i64 id, .slice (some ⟨b, off, none⟩) xs.length pc, .agg #[.int .i64 t0, .int .i64 t1], .int .u64 draw] w fun ev w' => ev = .returned (.int .i64 0) ∧
      ∃ g gc gn', w.heap.size ≤ g ∧ (∀ rb rc, BaseAt w' bb bs bm cf gn' (insE ⟨id, xs, t0, t1, draw, g, gc, rb, rc⟩ L)) ∧ Kept (fun k => k = bm ∨ gn.F k) w w' ∧ (∀ k, gn'.F k → gn.F k ∨ w.heap.size ≤ k) ∧ gn.like gn' ∧ (1 < gn'.lev.length → gn'.lk (id, 0) ≠ []) := by
  have b0 := h.b0
  have hbb := block_lt_of_cell b0
  have hbx := block_lt_of_cell (hc 0 h0)
  have HR := hide hr
  have HC := hide hc
  have HDW : Hid ((0 : Int) ≤ (draw : Int) ∧ (draw : Int) < 18446744073709551616) := by show _ ∧ _; omega
  have H := hide h
  have hL := h.few
  clear hr hc h
  go_enter Tryz.func21, Tryz.ntmps21
  go_wp2_with fail
  refine (point27_any xs (.slice (some ⟨b, off, none⟩) xs.length pc) cf.dim _ (hvl _)).mono ?_
  rintro ev w1 ⟨⟨x, rfl, hx⟩, hb1⟩
  rw [HR.out] at hx
  have hbw : Below w.heap.size w w1 := ((Below.refl _ _).alloc (Nat.le_refl _) _).trans (hb1.mono (by simp))
  rcases hx with ⟨_, rfl⟩ | ⟨h0, _⟩
  rotate_left
  · exact absurd rfl h0
  have k0 : w1.cell? ⟨w.heap.size, 0, none⟩ = some (.int .i64 t0) := Below.at hb1 (by simp) (by simp)
  have k1 : w1.cell? ⟨w.heap.size, 1, none⟩ = some (.int .i64 t1) := Below.at hb1 (by simp) (by simp)
  have h1 := H.out.below hbw
  have b6 := h1.b6
  have HC1 : Hid (∀ i, i < xs.length → w1.cell? ⟨b, off + i, none⟩ = some (.int .i64 (xs.getD i 0))) := fun i hi => Below.at hbw (HC.out i hi) hbx
  have HB := hide hbw
  have H1 := hide h1
  clear b0 hbw hb1 h1 HC
  go_wp2
  go_region_held3 (fun wx => wx.cell? ⟨bb, 6, none⟩ = some (.pointer (some ⟨bs, 0, none⟩)) ∧ wx.cell? ⟨w.heap.size, 0, none⟩ = some (.int .i64 t0) ∧ wx.cell? ⟨w.heap.size, 1, none⟩ = some (.int .i64 t1))
    (first | (exact ⟨b6, k0, k1⟩) | (exact ⟨hk2.cell b6 (H1.out.map.cell_ne b6), hk2.cell k0 (H1.out.map.cell_ne k0), hk2.cell k1 (H1.out.map.cell_ne k1)⟩))
    (first
      | (go_at_call 44; refine (put28_ok bs bm id t0 t1 xs b off pc L _ hid cf.cap ?_ ?_ ?_ hroom hL h0 h8 ?_).mono ?_; (exact H1.out.s0); (exact H1.out.s1); (exact H1.out.map.below (Below.refl _ _).drew); (exact HC1.out); rintro ev2 w2 ⟨rfl, g, gc, hg, hm2, hk2d⟩; have hk2 : Kept (fun k => k = bm) w1 w2 := (Kept.refl _ w1).drew.trans hk2d (fun _ _ h => h)))
  obtain ⟨⟨c2, c4, c7⟩, hg2⟩ := H1.out.mapTurned hk2
  have hwv := weave42 bb gn.bg cf.links cf.beam w2 c2 c4 c7
  have HWV := hide hwv
  have HM2 := hide hm2
  have HK2 := hide hk2
  have HG2 := hide hg2
  have HG := hide hg
  clear hwv hm2 hk2 hk2d hg2 c2 c4 c7 b6 k0 k1 hg
  go_wp2_with fail
  refine HWV.out.mono ?_
  rintro ev w3 ⟨rfl, hc3, hb3⟩
  have hsz1 := HB.out.size
  have hsz2 := HK2.out.size
  have hsz3 := hb3.size
  have hgw : w1.heap.size ≤ g := HG.out
  have hbx4 : Below w3.heap.size w3 (w3.alloc (.cells #[.pointer (some ⟨gn.bg, 0, none⟩), .int .i64 cf.links, .int .i64 cf.beam, .func (.func 90) #[] #[.pointer (some ⟨w2.heap.size, 0, none⟩)]] 109)) := (Below.refl _ _).alloc (Nat.le_refl _) _
  have hb4 : Below w2.heap.size w2 (w3.alloc (.cells #[.pointer (some ⟨gn.bg, 0, none⟩), .int .i64 cf.links, .int .i64 cf.beam, .func (.func 90) #[] #[.pointer (some ⟨w2.heap.size, 0, none⟩)]] 109)) := hb3.trans (hbx4.mono hsz3)
  have hx4 : (w3.alloc (.cells #[.pointer (some ⟨gn.bg, 0, none⟩), .int .i64 cf.links, .int .i64 cf.beam, .func (.func 90) #[] #[.pointer (some ⟨w2.heap.size, 0, none⟩)]] 109)).heap[w3.heap.size]? = some (.cells #[.pointer (some ⟨gn.bg, 0, none⟩), .int .i64 cf.links, .int .i64 cf.beam, .func (.func 90) #[] #[.pointer (some ⟨w2.heap.size, 0, none⟩)]] 109 (0, 0)) := heap_alloc_new _ _
  have hc4 := cell_below hc3 hbx4
  have hcr := ptCode_crd HR.out
  have hmem : ∀ e ∈ insE ⟨id, xs, t0, t1, draw, g, gc, 0, 0⟩ L, (e.mb = g ∨ e ∈ L) ∧ I64 e.id ∧ (e.pt.length : Int) = cf.dim ∧ ∀ x ∈ e.pt, Crd x := fun e he => by
    rcases mem_insE he with rfl | he
    · exact ⟨.inl rfl, hid, hcr.1, hcr.2⟩
    · exact ⟨.inr he, H.out.ints e he, H.out.len e he, H.out.crd e he⟩
  have hp4 : PtsAt (w3.alloc (.cells #[.pointer (some ⟨gn.bg, 0, none⟩), .int .i64 cf.links, .int .i64 cf.beam, .func (.func 90) #[] #[.pointer (some ⟨w2.heap.size, 0, none⟩)]] 109)) bb bs bm cf.metric cf.dim.toNat (insE ⟨id, xs, t0, t1, draw, g, gc, 0, 0⟩ L) := by
    have hp : PtsAt w2 bb bs bm cf.metric cf.dim.toNat (insE ⟨id, xs, t0, t1, draw, g, gc, 0, 0⟩ L) := ⟨HK2.out.cell H1.out.b3 (H1.out.map.cell_ne H1.out.b3), HK2.out.cell H1.out.b6 (H1.out.map.cell_ne H1.out.b6), HK2.out.cell H1.out.s1 (H1.out.map.cell_ne H1.out.s1), HM2.out draw 0 0, fun e he => by have := (hmem e he).2.2.1; omega, fun e he => (hmem e he).2.2.2⟩
    exact hp.below hb4
  have hF4 : ∀ k, gn.F k → k < (w3.alloc (.cells #[.pointer (some ⟨gn.bg, 0, none⟩), .int .i64 cf.links, .int .i64 cf.beam, .func (.func 90) #[] #[.pointer (some ⟨w2.heap.size, 0, none⟩)]] 109)).heap.size ∧ k ≠ bb ∧ k ≠ bs ∧ k ≠ bm ∧ k ≠ w2.heap.size ∧ ∀ e ∈ insE ⟨id, xs, t0, t1, draw, g, gc, 0, 0⟩ L, k ≠ e.mb := fun k hf => by
    obtain ⟨q0, _, q2, q3, q4, q5⟩ := H.out.foot k hf
    have := hb4.size
    refine ⟨by omega, q2, q3, q4, by omega, fun e he => ?_⟩
    rcases (hmem e he).1 with e1 | e1
    · omega
    · exact q5 e e1
  have hII : ∀ x ∈ gn.lev.map (·.1), I64 x := fun x hx => by
    obtain ⟨e, he⟩ := Option.isSome_iff_exists.1 (H.out.ids.1 hx)
    rw [← (findE_mem he).2]
    exact H.out.ints e (findE_mem he).1
  have hin4 : ∀ x ∈ gn.lev.map (·.1), x ≠ id → (findE x (insE ⟨id, xs, t0, t1, draw, g, gc, 0, 0⟩ L)).isSome = true := fun x hx hne => by rw [findE_ins hne]; exact H.out.ids.1 hx
  have hdel := netDel (bb := bb) (bs := bs) (bm := bm) (bc := w2.heap.size) (cf := cf) (gn := gn) (HG2.out.below hb4) H.out.ok hF4 hp4 hc4 H.out.cfok id hid hII H.out.idsLen hin4
  have HDEL := hide hdel
  have HP4 := hide hp4
  have HF4 := hide hF4
  have HII := hide hII
  have HIN4 := hide hin4
  have HMEM := hide hmem
  have HB4 := hide hb4
  have HX4 := hide hx4
  have HC4 := hide hc4
  clear hdel hp4 hF4 hII hin4 hmem hb4 hx4 hc4 hbx4 hb3 hc3 HWV hcr
  go_wp2_with fail
  generalize hwe : w3.alloc (.cells #[.pointer (some ⟨gn.bg, 0, none⟩), .int .i64 cf.links, .int .i64 cf.beam, .func (.func 90) #[] #[.pointer (some ⟨w2.heap.size, 0, none⟩)]] 109) = w4 at HDEL HP4 HF4 HB4 HX4 HC4 ⊢
  clear hwe
  refine HDEL.out.mono ?_
  rintro ev w5 ⟨rfl, F5, lk5, hg5, hok5, hk5, hf5⟩
  have hn4 : ∀ k, w.heap.size ≤ k → ¬ gn.F k := fun k h1 h2 => by have := (H.out.foot k h2).1; omega
  have hnb : ∀ k, k = bb ∨ k = bs ∨ k = bm → ¬ gn.F k := fun k h1 h2 => by have := HF4.out k h2; omega
  have hx5 := (hk5.block _ (heap_lt HX4.out) (hn4 _ (by omega))).trans HX4.out
  have hz4 := HB4.out.size
  have hz5 := hk5.size
  have hp5 : PtsAt w5 bb bs bm cf.metric cf.dim.toNat (insE ⟨id, xs, t0, t1, draw, g, gc, 0, 0⟩ L) := ⟨hk5.cell HP4.out.b3 (hnb _ (.inl rfl)), hk5.cell HP4.out.b6 (hnb _ (.inl rfl)), hk5.cell HP4.out.s1 (hnb _ (.inr (.inl rfl))), HP4.out.map.keptS hk5 (hnb _ (.inr (.inr rfl))) (fun e he hf => (HF4.out _ hf).2.2.2.2.2 e he rfl), HP4.out.len, HP4.out.crd⟩
  have hc5 := hk5.cell HC4.out (hn4 _ (by omega))
  have hF5 : ∀ k, F5 k ∧ k < w5.heap.size → k < w5.heap.size ∧ k ≠ bb ∧ k ≠ bs ∧ k ≠ bm ∧ k ≠ w2.heap.size ∧ ∀ e ∈ insE ⟨id, xs, t0, t1, draw, g, gc, 0, 0⟩ L, k ≠ e.mb := fun k hk => by
    have l1 := block_lt_of_cell HP4.out.b3
    have l2 := block_lt_of_cell HP4.out.s1
    have l3 := HP4.out.map.lt
    have l4 := block_lt_of_cell HC4.out
    simp only at l1 l2 l4
    rcases hf5 k hk.1 with e | e
    · exact ⟨hk.2, (HF4.out k e).2⟩
    · exact ⟨hk.2, by omega, by omega, by omega, by omega, fun e' he' => by have := HP4.out.map.plt e' he'; omega⟩
  have hlv0 := lvlOf_le H.out.cfok (draw : Int)
  have hlvl : Calls Tryz.prog 48 #[.int .u64 draw, .int .i64 cf.links, .int .i64 cf.top] w5.drew fun e w' => e = .returned (.int .i64 (lvlOf cf draw)) ∧ w5.drew = w' := by
    have := levelOf45 draw cf.links.toNat cf.top.toNat hdr (by have := H.out.cfok.l8; omega) (by have := H.out.cfok.t5; omega) w5.drew
    rw [Int.toNat_of_nonneg (by have := H.out.cfok.l2; omega), Int.toNat_of_nonneg H.out.cfok.t0] at this
    exact this
  have hput := netPut (w := w5.drew) (bb := bb) (bs := bs) (bm := bm) (bc := w2.heap.size) (bg := gn.bg) (cf := cf) (F := fun k => F5 k ∧ k < w5.heap.size) (lk := lk5) (hg5.tight.below (Below.refl _ _).drew) hok5 hF5 (hp5.drew) hc5 H.out.cfok id (lvlOf cf draw) hid (fun x hx => HII.out x (mem_levDel.1 hx).1) (by have : (levDel id gn.lev).length ≤ gn.lev.length := List.length_filter_le _ _; have := H.out.idsLen; omega) levOf_levDel_self hlv0 (fun x hx => HIN4.out x (mem_levDel.1 hx).1 (mem_levDel.1 hx).2) (by rw [show id = (⟨id, xs, t0, t1, draw, g, gc, 0, 0⟩ : Ent).id from rfl, findE_ins_self]; rfl)
  have hb25 : w5.cell? ⟨bb, 2, none⟩ = some (.int .i64 cf.links) := hk5.cell (cell_below (HK2.out.cell H1.out.b2 (H1.out.map.cell_ne H1.out.b2)) HB4.out) (hnb _ (.inl rfl))
  have hb55 : w5.cell? ⟨bb, 5, none⟩ = some (.int .i64 cf.top) := hk5.cell (cell_below (HK2.out.cell H1.out.b5 (H1.out.map.cell_ne H1.out.b5)) HB4.out) (hnb _ (.inl rfl))
  have hS : w5.cell? ⟨w3.heap.size, 0, none⟩ = some (.pointer (some ⟨gn.bg, 0, none⟩)) ∧ w5.cell? ⟨w3.heap.size, 1, none⟩ = some (.int .i64 cf.links) ∧ w5.cell? ⟨w3.heap.size, 2, none⟩ = some (.int .i64 cf.beam) ∧ w5.cell? ⟨w3.heap.size, 3, none⟩ = some (.func (.func 90) #[] #[.pointer (some ⟨w2.heap.size, 0, none⟩)]) ∧ w5.cell? ⟨bb, 2, none⟩ = some (.int .i64 cf.links) ∧ w5.cell? ⟨bb, 5, none⟩ = some (.int .i64 cf.top) := ⟨cells_at hx5 0 rfl, cells_at hx5 1 rfl, cells_at hx5 2 rfl, cells_at hx5 3 rfl, hb25, hb55⟩
  have HS := hide hS
  have HLVL := hide hlvl
  have HPUT := hide hput
  have HF5 := hide hf5
  have HF5' := hide hF5
  have HK5 := hide hk5
  have HP5 := hide hp5
  have HX5 := hide hx5
  clear hS hlvl hput hf5 hF5 hk5 hp5 hx5 hg5 hok5 hb25 hb55 hc5 hlv0 HDEL hn4 hnb
  have HSD : Hid (w5.drew.cell? ⟨w3.heap.size, 0, none⟩ = some (.pointer (some ⟨gn.bg, 0, none⟩)) ∧ w5.drew.cell? ⟨w3.heap.size, 1, none⟩ = some (.int .i64 cf.links) ∧ w5.drew.cell? ⟨w3.heap.size, 2, none⟩ = some (.int .i64 cf.beam) ∧ w5.drew.cell? ⟨w3.heap.size, 3, none⟩ = some (.func (.func 90) #[] #[.pointer (some ⟨w2.heap.size, 0, none⟩)]) ∧ w5.drew.cell? ⟨bb, 2, none⟩ = some (.int .i64 cf.links) ∧ w5.drew.cell? ⟨bb, 5, none⟩ = some (.int .i64 cf.top)) := HS.out
  have HN6 : Hid (¬ (F5 w3.heap.size ∧ w3.heap.size < w5.heap.size) ∧ ¬ (F5 bb ∧ bb < w5.heap.size)) := ⟨fun e => (HF5.out _ e.1).elim (fun e => by have := (H.out.foot _ e).1; omega) (fun e => by have := heap_lt HX4.out; omega), fun e => (HF5'.out _ e).2.1 rfl⟩
  go_wp2
  go_region_held3 (fun wx => wx.cell? ⟨w3.heap.size, 0, none⟩ = some (.pointer (some ⟨gn.bg, 0, none⟩)) ∧ wx.cell? ⟨w3.heap.size, 1, none⟩ = some (.int .i64 cf.links) ∧ wx.cell? ⟨w3.heap.size, 2, none⟩ = some (.int .i64 cf.beam) ∧ wx.cell? ⟨w3.heap.size, 3, none⟩ = some (.func (.func 90) #[] #[.pointer (some ⟨w2.heap.size, 0, none⟩)]) ∧ wx.cell? ⟨bb, 2, none⟩ = some (.int .i64 cf.links) ∧ wx.cell? ⟨bb, 5, none⟩ = some (.int .i64 cf.top))
    ((first | with_reducible exact HS6.out | with_reducible exact HSD.out))
    (first
      | (go_at_call 48; refine HLVL.out.mono ?_; rintro e6 w6 ⟨rfl, rfl⟩)
      | (go_at_call 47; refine HPUT.out.mono ?_; rintro e7 w7 ⟨rfl, F7, lk7, hg7, hok7, hk7, hf7⟩; have HS6 := hide (And.intro (hk7.cell HSD.out.1 HN6.out.1) (And.intro (hk7.cell HSD.out.2.1 HN6.out.1) (And.intro (hk7.cell HSD.out.2.2.1 HN6.out.1) (And.intro (hk7.cell HSD.out.2.2.2.1 HN6.out.1) (And.intro (hk7.cell HSD.out.2.2.2.2.1 HN6.out.2) (hk7.cell HSD.out.2.2.2.2.2 HN6.out.2))))))))
  have HG7 := hide hg7
  have HO7 := hide hok7
  have HK7 := hide hk7
  have HF7 := hide hf7
  clear hg7 hok7 hk7 hf7 HS6 HSD HPUT HLVL HS
  go_wp2
  go_ret
  have hz7 : w5.heap.size ≤ w7.heap.size := HK7.out.size
  have hn5 : ∀ k, k < w.heap.size → F5 k ∧ k < w5.heap.size → gn.F k := fun k h1 h2 => (HF5.out k h2.1).elim (fun e => e) (fun e => by omega)
  have hk57 : Kept (fun k => F5 k ∧ k < w5.heap.size) w5 w7 := (Kept.refl _ w5).drew.trans HK7.out (fun _ _ e => e)
  have hkw4 : Kept (fun k => k = bm ∨ gn.F k) w w4 := ((Kept.of_below _ HB.out).trans (HK2.out.mono (T := fun k => k = bm ∨ gn.F k) (fun _ _ e => .inl e)) (fun _ _ e => e)).below HB4.out
  have hkw7 : Kept (fun k => k = bm ∨ gn.F k) w w7 := (hkw4.trans HK5.out (fun _ _ e => .inr e)).trans hk57 (fun k h1 h2 => .inr (hn5 k h1 h2))
  have hbnd : ∀ k, F7 k → gn.F k ∨ w.heap.size ≤ k := fun k hk => (HF7.out k hk).elim (fun e => (HF5.out k e.1).imp (fun e => e) (fun e => by omega)) (fun e => .inr (by have : w5.heap.size ≤ k := e; omega))
  have hm7 : ∀ rb rc, MapAt w7 bm (insE ⟨id, xs, t0, t1, draw, g, gc, rb, rc⟩ L) := fun rb rc => by
    have hmm : ∀ e ∈ insE ⟨id, xs, t0, t1, draw, g, gc, rb, rc⟩ L, e.mb = g ∨ e ∈ L := fun e he => by
      rcases mem_insE he with rfl | he
      · exact .inl rfl
      · exact .inr he
    have hnm : ∀ e ∈ insE ⟨id, xs, t0, t1, draw, g, gc, rb, rc⟩ L, ¬ gn.F e.mb := fun e he hf => by
      rcases hmm e he with e1 | e1
      · have := (H.out.foot _ hf).1; omega
      · exact (H.out.foot _ hf).2.2.2.2.2 e e1 rfl
    have hlt : ∀ e ∈ insE ⟨id, xs, t0, t1, draw, g, gc, rb, rc⟩ L, e.mb < w2.heap.size := fun e he => (HM2.out draw rb rc).plt e he
    refine (((HM2.out draw rb rc).below HB4.out).keptS HK5.out (fun e => (H.out.foot _ e).2.2.2.2.1 rfl) hnm).keptS hk57 (fun e => (HF5'.out _ e).2.2.2.1 rfl) (fun e he e2 => ?_)
    rcases HF5.out _ e2.1 with e3 | e3
    · exact hnm e he e3
    · have := hlt e he; omega
  refine ⟨rfl, g, gc, ⟨gn.bg, fun k => F7 k ∧ k < w7.heap.size, (id, lvlOf cf draw) :: levDel id gn.lev, lk7, keepP (fun x => decide (x = id)) gn.ch ++ [id], gn.looks, gn.ex, gn.lows, gn.lst, gn.pt⟩, by omega, fun rb rc => ?_, hkw7, fun k hk => hbnd k hk.1, ⟨rfl, rfl, rfl, rfl, rfl⟩, fun hl => HO7.out.2 (fun e => by rw [e] at hl; simp at hl)⟩
  refine H.out.again hkw7 (hm7 rb rc) HG7.out.tight HO7.out.1 rfl rfl (fun i => ?_) ?_ (fun e he => ?_) (fun e he => ?_) (fun k hk => ⟨hk.2, hbnd k hk.1, fun e he e1 => ?_⟩)
  · show levOf ((id, lvlOf cf draw) :: levDel id gn.lev) i = _
    rw [levOf_cons]
    by_cases hi : id = i
    · subst hi
      rw [if_pos rfl, show id = (⟨id, xs, t0, t1, draw, g, gc, rb, rc⟩ : Ent).id from rfl, findE_ins_self]; rfl
    · rw [if_neg hi, levOf_levDel_ne (fun e => hi e.symm), findE_ins (fun e => hi e.symm)]
      exact H.out.lv i
  · have hc := H.out.cfok.c60
    rcases hroom with hr | hr
    · obtain ⟨e, he⟩ := Option.isSome_iff_exists.1 hr
      rw [length_insE_some ⟨id, xs, t0, t1, draw, g, gc, rb, rc⟩ H.out.map.rising he]
      exact hL
    · cases hfi : findE id L with
      | some e =>
        rw [length_insE_some ⟨id, xs, t0, t1, draw, g, gc, rb, rc⟩ H.out.map.rising hfi]
        exact hL
      | none =>
        rw [length_insE_none ⟨id, xs, t0, t1, draw, g, gc, rb, rc⟩ hfi]
        omega
  · have hcr := ptCode_crd HR.out
    rcases mem_insE he with rfl | he
    · exact ⟨hid, hcr.1, hcr.2⟩
    · exact ⟨H.out.ints e he, H.out.len e he, H.out.crd e he⟩
  · rcases mem_insE he with rfl | he
    · exact HDW.out
    · exact H.out.drw e he
  · have hlt := (HM2.out draw rb rc).plt e he
    rw [← e1] at hlt
    rcases HF7.out k hk.1 with e2 | e2
    · rcases HF5.out k e2.1 with e3 | e3
      · rcases mem_insE he with rfl | he
        · have := (H.out.foot k e3).1
          simp only at e1
          omega
        · exact (H.out.foot k e3).2.2.2.2.2 e he e1
      · omega
    · have : w5.heap.size ≤ k := e2
      omega
end Go.Proofs.YtpkiefjanmfgfaaGreatDoor
namespace Go.Proofs.YtpkiefjanmfgfaaGreatDoor
open Go.RowKit Go.Maps

set_option maxHeartbeats 2000000 in
theorem get14_no (bb bs bm : Nat) (cf : Cf) (gn : Net) (id : Int) (L : List Ent) (w : World) (hid : I64 id) (h : BaseAt w bb bs bm cf gn L) (he : findE id L = none) :
    Calls Tryz.prog 29 #[.pointer (some ⟨bb, 0, none⟩), .int .i64 id] w fun ev w' => ev = .returned (.tuple #[.agg #[.int .i64 0, .slice none 0 0, .int .i64 0, .int .i64 0], .int .i64 5]) ∧ Below w.heap.size w w' := by
  have b6 := h.b6
  have hbb := block_lt_of_cell b6
  go_enter Tryz.func29, Tryz.ntmps29
  go_wp2_with fail
  refine (get29_no bs bm id L _ hid (h.alloc _).s1 (h.alloc _).map he).mono ?_
  rintro ev w1 ⟨⟨s, rfl⟩, hb1⟩
  have hz : w.heap.size < w1.heap.size := by have := hb1.size; simp at this; omega
  have hne : w.heap.size ≠ w1.heap.size := by omega
  have HH := hide ((h.alloc _).hdl.below hb1)
  have l0 : w1.cell? ⟨w.heap.size, 0, none⟩ = some (.int .i64 0) := Below.at hb1 (by simp) (by simp)
  have l1 : w1.cell? ⟨w.heap.size, 1, none⟩ = some (.slice none 0 0) := Below.at hb1 (by simp) (by simp)
  have l2 : w1.cell? ⟨w.heap.size, 2, none⟩ = some (.int .i64 0) := Below.at hb1 (by simp) (by simp)
  have l3 : w1.cell? ⟨w.heap.size, 3, none⟩ = some (.int .i64 0) := Below.at hb1 (by simp) (by simp)
  have fl : ∀ o, w1.frozen? ⟨w.heap.size, o, none⟩ = false := fun o => (hb1.frozen (p := ⟨_, o, none⟩) (by simp)).trans (by simp)
  have HB := hide hb1
  clear hb1 h b6
  go_wp2
  go_region_held3 (fun wx => wx.cell? ⟨w1.heap.size, 0, none⟩ = some (.int .i64 0) ∧ wx.cell? ⟨w1.heap.size, 1, none⟩ = some (.slice none 0 0) ∧ wx.cell? ⟨w1.heap.size, 2, none⟩ = some (.int .i64 0) ∧ wx.cell? ⟨w1.heap.size, 3, none⟩ = some (.int .i64 0))
    (first | (refine ⟨?_, ?_, ?_, ?_⟩ <;> (simp; done)) | (exact ⟨n0, n1, n2, n3⟩) | (refine ⟨?_, ?_, ?_, ?_⟩ <;> (repeat rw [World.cell?_setCell_far _ _ _ _ (by exact hne)]) <;> assumption))
    (first
      | (go_at_call 43; refine (errno_one s id 5 _ ?_).mono ?_; (exact HH.out.alloc _); rintro ev3 w3 ⟨rfl, hb3⟩; have n0 : w3.cell? ⟨w1.heap.size, 0, none⟩ = some (.int .i64 0) := Below.at hb3 (by simp) (by simp); have n1 : w3.cell? ⟨w1.heap.size, 1, none⟩ = some (.slice none 0 0) := Below.at hb3 (by simp) (by simp); have n2 : w3.cell? ⟨w1.heap.size, 2, none⟩ = some (.int .i64 0) := Below.at hb3 (by simp) (by simp); have n3 : w3.cell? ⟨w1.heap.size, 3, none⟩ = some (.int .i64 0) := Below.at hb3 (by simp) (by simp); have p0 : w3.cell? ⟨w.heap.size, 0, none⟩ = some (.int .i64 0) := Below.at hb3 (by simp [World.cell?_alloc_past, hz, l0]) (by simp; omega); have p1 : w3.cell? ⟨w.heap.size, 1, none⟩ = some (.slice none 0 0) := Below.at hb3 (by simp [World.cell?_alloc_past, hz, l1]) (by simp; omega); have p2 : w3.cell? ⟨w.heap.size, 2, none⟩ = some (.int .i64 0) := Below.at hb3 (by simp [World.cell?_alloc_past, hz, l2]) (by simp; omega); have p3 : w3.cell? ⟨w.heap.size, 3, none⟩ = some (.int .i64 0) := Below.at hb3 (by simp [World.cell?_alloc_past, hz, l3]) (by simp; omega); have fp : ∀ o, w3.frozen? ⟨w.heap.size, o, none⟩ = false := fun o => (hb3.frozen (p := ⟨_, o, none⟩) (by simp; omega)).trans ((World.frozen?_alloc_old _ _ _ (by simp; omega)).trans (fl o))))
  go_wp2
  refine bodyPost_ret (v := .tuple #[.agg #[.int .i64 0, .slice none 0 0, .int .i64 0, .int .i64 0], .int .i64 5]) (by simp [results, Tryz.results29, go_sem, p0, p1, p2, p3]) rfl ⟨rfl, ?_⟩
  have hb2 : Below w.heap.size w w1 := ((Below.refl _ _).alloc (Nat.le_refl _) _).trans (HB.out.mono (by simp))
  have hb4 : Below w.heap.size w w3 := ((hb2.alloc (by omega) _).drew).trans (hb3.mono (by simp; omega))
  repeat (first | exact hb4 | refine Below.setCell ?_ (by first | omega | (simp; done) | (simp; omega)) _ | refine Below.alloc ?_ (by first | omega | (simp; done) | (simp; omega)) _)
end Go.Proofs.YtpkiefjanmfgfaaGreatDoor
