import Derived.Laws.CopyOwn
import Derived.Test.YtpkiefjanmfgfaaGreatDoorQui07
import Derived.Test.YtpkiefjanmfgfaaGreatDoorQui13
import Derived.Test.YtpkiefjanmfgfaaGreatDoorQui14
namespace Go.Proofs.YtpkiefjanmfgfaaGreatDoor
open Go.RowKit

structure LentAt (w0 w : World) (A : Nat) (mv : Value) (Z : Nat) (F : List (List Cnd)) (ks : List Nat) : Prop where
  all : w.heap[A]? = some (.cells (List.zipWith cutS ks F ++ [Value.slice (some ⟨Z, 0, none⟩) 1 1]).toArray 73 (0, 0))
  mine : w.ownsRow 0 73 1 mv F.length (List.zipWith fullS ks F)
  len : ks.length = F.length
  cls : ∀ i, i < F.length → ClsAt w (ks.getD i 0) (F.getD i [])
  nod : ks.Nodup
  z : w.heap[Z]? = some (.cells #[.int .i64 78, .int .i64 0, .int .i64 0] 72 (0, 0))
  zk : Z ∉ ks
  new : ∀ k ∈ ks, w0.heap.size ≤ k
  znew : w0.heap.size ≤ Z
  anew : w0.heap.size ≤ A
  mnew : ∀ g, mv.ownBlock = some g → w0.heap.size ≤ g

theorem splice_cls (M : List Value) (c : List Cnd) (hM : M.length = (c.length + 1) * 3) : (((splice M 0 (ccells c)).set (c.length * 3) (.int .i64 77)).set (c.length * 3 + 1) (.int .i64 0)).set (c.length * 3 + 2) (.int .i64 0) = ccells (c ++ [(77, 0, 0)]) := by
  have hv := ccells_len c
  obtain ⟨p, q, r, hd⟩ : ∃ p q r, M.drop (c.length * 3) = [p, q, r] := by
    have : (M.drop (c.length * 3)).length = 3 := by simp; omega
    match h : M.drop (c.length * 3), this with
    | [p, q, r], _ => exact ⟨p, q, r, rfl⟩
  unfold splice
  simp only [List.take_zero, List.nil_append, Nat.zero_add, hv, hd]
  rw [List.set_append_right _ _ (by omega), hv]
  simp only [Nat.sub_self, List.set_cons_zero]
  rw [List.set_append_right _ _ (by omega), hv]
  rw [show c.length * 3 + 1 - c.length * 3 = 1 by omega]
  rw [List.set_append_right _ _ (by omega), hv]
  rw [show c.length * 3 + 2 - c.length * 3 = 2 by omega, ccells_append]
  simp [ccells, ccell]

theorem madeNil73 (n : Nat) : madeCells (Value.cells (.slice none 0 0)) n = (List.replicate n (.slice none 0 0)).toArray := by
  rw [← toList_madeCells_one]
  rfl
theorem LdS.start (w : World) (fv : Value) (F : List (List Cnd)) (M : Array Value) (hM : M = (List.replicate (F.length + 1) (Value.slice none 0 0)).toArray) :
    LdS w ((((w.alloc (.cells #[fv] 47)).alloc (.cells #[.slice none 0 0, .slice none 0 0] 141)).alloc (.cells M 73)).alloc (.cells #[.slice (some ⟨w.heap.size + 1 + 1, 0, none⟩) (F.length + 1) (F.length + 1), .slice none 0 0] 141)) fv F [] (.slice none 0 0) := by
  have s1 : (w.alloc (.cells #[fv] 47)).heap.size = w.heap.size + 1 := by simp
  have s2 : ((w.alloc (.cells #[fv] 47)).alloc (.cells #[.slice none 0 0, .slice none 0 0] 141)).heap.size = w.heap.size + 2 := by simp
  have s3 : (((w.alloc (.cells #[fv] 47)).alloc (.cells #[.slice none 0 0, .slice none 0 0] 141)).alloc (.cells M 73)).heap.size = w.heap.size + 3 := by simp
  refine ⟨?_, ?_, ?_, ?_, ⟨rfl, .inl ⟨rfl, rfl⟩⟩, Nat.zero_le _, fun i hi => absurd hi (Nat.not_lt_zero _), List.nodup_nil, fun k hk => absurd hk List.not_mem_nil, fun g e => (by cases e), ((((Below.refl _ _).alloc (Nat.le_refl _) _).alloc (by omega) _).alloc (by omega) _).alloc (by omega) _⟩
  · rw [Below.heap_alloc _ _ _ (by omega), Below.heap_alloc _ _ _ (by omega), Below.heap_alloc _ _ _ (by omega)]; exact heap_alloc_new _ _
  · rw [Below.heap_alloc _ _ _ (by omega), Below.heap_alloc _ _ _ (by omega), ← s1]; exact heap_alloc_new _ _
  · rw [Below.heap_alloc _ _ _ (by omega), ← s2, heap_alloc_new, hM]; simp
  · rw [← s3]; exact heap_alloc_new _ _

theorem CondsAt.src {w : World} {a : Option Addr} {n cap : Nat} {cs : List Cnd} (h : CondsAt w (.slice a n cap) cs) (h0 : 0 < cs.length) : ∃ ad, a = some ad ∧ ∀ j v, (ccells cs)[j]? = some v → w.cell? (ad.add j) = some v := by
  obtain ⟨b, off, rfl, _⟩ := h.cond h0
  refine ⟨_, rfl, fun j v hj => ?_⟩
  have hj2 : j < cs.length * 3 := by
    have := (List.getElem?_eq_some_iff.1 hj).1
    rwa [ccells_len] at this
  obtain ⟨k, r, rfl, hr⟩ : ∃ k r, j = k * 3 + r ∧ r < 3 := ⟨j / 3, j % 3, by omega, Nat.mod_lt _ (by decide)⟩
  have hk : k < cs.length := by omega
  rw [ccells_get cs k r hk hr] at hj
  obtain ⟨b', off', e, h1, h2, h3⟩ := h.cond hk
  simp only [Option.some.injEq, Addr.mk.injEq] at e
  obtain ⟨rfl, rfl, _⟩ := e
  rw [addr_add, ← Nat.add_assoc]
  rcases (by omega : r = 0 ∨ r = 1 ∨ r = 2) with rfl | rfl | rfl
  · simp only [ccell, List.getElem?_cons_zero, Option.some.injEq] at hj; rw [← hj]; exact h1
  · simp only [ccell, List.getElem?_cons_succ, List.getElem?_cons_zero, Option.some.injEq] at hj; rw [← hj]; exact h2
  · simp only [ccell, List.getElem?_cons_succ, List.getElem?_cons_zero, Option.some.injEq] at hj; rw [← hj]; exact h3

theorem LdS.fin {w wr : World} {fv mv : Value} {F : List (List Cnd)} {ks : List Nat} (h : LdS w wr fv F ks mv) (hl : ks.length = F.length) (u v : Value) :
    LentAt w ((((wr.setCell ⟨w.heap.size + 2, F.length, none⟩ (.slice (some ⟨wr.heap.size, 0, none⟩) 1 1)).setCell ⟨w.heap.size + 1, 0, none⟩ u).setCell ⟨w.heap.size + 1, 1, none⟩ v).alloc (.cells #[.int .i64 78, .int .i64 0, .int .i64 0] 72)) (w.heap.size + 2) mv wr.heap.size F ks ∧
      Below w.heap.size w ((((wr.setCell ⟨w.heap.size + 2, F.length, none⟩ (.slice (some ⟨wr.heap.size, 0, none⟩) 1 1)).setCell ⟨w.heap.size + 1, 0, none⟩ u).setCell ⟨w.heap.size + 1, 1, none⟩ v).alloc (.cells #[.int .i64 78, .int .i64 0, .int .i64 0] 72)) ∧
      ((((wr.setCell ⟨w.heap.size + 2, F.length, none⟩ (.slice (some ⟨wr.heap.size, 0, none⟩) 1 1)).setCell ⟨w.heap.size + 1, 0, none⟩ u).setCell ⟨w.heap.size + 1, 1, none⟩ v).alloc (.cells #[.int .i64 78, .int .i64 0, .int .i64 0] 72)).cell? ⟨w.heap.size + 1, 0, none⟩ = some u ∧
      ((((wr.setCell ⟨w.heap.size + 2, F.length, none⟩ (.slice (some ⟨wr.heap.size, 0, none⟩) 1 1)).setCell ⟨w.heap.size + 1, 0, none⟩ u).setCell ⟨w.heap.size + 1, 1, none⟩ v).alloc (.cells #[.int .i64 78, .int .i64 0, .int .i64 0] 72)).cell? ⟨w.heap.size + 1, 1, none⟩ = some v := by
  have hz3 := (Array.getElem?_eq_some_iff.1 h.g).1
  have ha := h.all
  rw [hl, show F.length + 1 - F.length = 1 by omega] at ha
  have hzl : (List.zipWith cutS ks F).length = F.length := by simp; omega
  obtain ⟨w3, hw3⟩ : ∃ w3, w3 = ((wr.setCell ⟨w.heap.size + 2, F.length, none⟩ (.slice (some ⟨wr.heap.size, 0, none⟩) 1 1)).setCell ⟨w.heap.size + 1, 0, none⟩ u).setCell ⟨w.heap.size + 1, 1, none⟩ v := ⟨_, rfl⟩
  have hsz : w3.heap.size = wr.heap.size := by rw [hw3]; simp
  have far : ∀ {k : Nat}, k < wr.heap.size → k ≠ w.heap.size + 2 → k ≠ w.heap.size + 1 → (w3.alloc (.cells #[.int .i64 78, .int .i64 0, .int .i64 0] 72)).heap[k]? = wr.heap[k]? := fun {k} h0 h1 h2 => by
    rw [Below.heap_alloc _ _ _ (by rw [hsz]; exact h0), hw3, Below.heap_setCell _ _ _ _ h2, Below.heap_setCell _ _ _ _ h2, Below.heap_setCell _ _ _ _ h1]
  have a3 : (w3.alloc (.cells #[.int .i64 78, .int .i64 0, .int .i64 0] 72)).heap[w.heap.size + 2]? = some (.cells (List.zipWith cutS ks F ++ [Value.slice (some ⟨wr.heap.size, 0, none⟩) 1 1]).toArray 73 (0, 0)) := by
    rw [Below.heap_alloc _ _ _ (by rw [hsz]; omega), hw3, Below.heap_setCell _ _ _ _ (by show w.heap.size + 2 ≠ w.heap.size + 1; omega), Below.heap_setCell _ _ _ _ (by show w.heap.size + 2 ≠ w.heap.size + 1; omega), heap_setCell_same _ _ _ _ _ _ ha]
    simp [List.set_append_right, hzl]
  have r1 : (wr.setCell ⟨w.heap.size + 2, F.length, none⟩ (.slice (some ⟨wr.heap.size, 0, none⟩) 1 1)).heap[w.heap.size + 1]? = some (.cells #[.slice none 0 0, .slice none 0 0] 141 (0, 0)) := (Below.heap_setCell _ _ _ _ (by show w.heap.size + 1 ≠ w.heap.size + 2; omega)).trans h.res
  have r3 : (w3.alloc (.cells #[.int .i64 78, .int .i64 0, .int .i64 0] 72)).heap[w.heap.size + 1]? = some (.cells #[u, v] 141 (0, 0)) := by
    rw [Below.heap_alloc _ _ _ (by rw [hsz]; omega), hw3, heap_setCell_same _ _ _ _ _ _ (heap_setCell_same _ _ _ _ _ _ r1)]
    simp
  have hnew : ∀ k ∈ ks, k < wr.heap.size := fun k hk => by
    obtain ⟨i, hi, e⟩ := List.mem_iff_getElem.1 hk
    have h2 := (Array.getElem?_eq_some_iff.1 (h.cls i hi)).1
    rw [List.getD_eq_getElem?_getD, List.getElem?_eq_getElem hi] at h2
    simpa [e] using h2
  rw [← hw3]
  refine ⟨⟨a3, ?_, hl, fun i hi => ?_, h.nod, ?_, fun hk => by have := hnew _ hk; omega, fun k hk => by have := h.new k hk; omega, by omega, by omega, fun g e => by have := h.mnew g e; omega⟩, ?_, cells_at r3 0 rfl, cells_at r3 1 rfl⟩
  · have := h.mine
    rw [hl] at this
    exact ownsRow_of_block this fun g hv => far (this.lt g hv).2 (by have := h.mnew g hv; omega) (by have := h.mnew g hv; omega)
  · have h1 := h.cls i (by omega)
    have h2 : w.heap.size + 4 ≤ ks.getD i 0 := h.new _ (by rw [List.getD_eq_getElem?_getD, List.getElem?_eq_getElem (by omega)]; exact List.getElem_mem _)
    exact (far (Array.getElem?_eq_some_iff.1 h1).1 (by omega) (by omega)).trans h1
  · rw [← hsz]; exact heap_alloc_new _ _
  · rw [hw3]
    exact (((h.below.setCell (by show _ ≤ w.heap.size + 2; omega) _).setCell (by show _ ≤ w.heap.size + 1; omega) _).setCell (by show _ ≤ w.heap.size + 1; omega) _).alloc (by simp; omega) _

set_option maxHeartbeats 4000000 in
set_option maxRecDepth 20000 in
theorem lend74 (fv : Value) (F : List (List Cnd)) (w : World) (hf : FiltAt w fv F) (hn : (F.length + 1) * 24 ≤ 140737488355328) (hm : ∀ c ∈ F, (c.length + 1) * 24 ≤ 140737488355328) :
    Calls Tryz.prog 74 #[.agg #[fv]] w fun ev w' => ∃ A mv Z ks, ev = .returned (.agg #[.slice (some ⟨A, 0, none⟩) (F.length + 1) (F.length + 1), mv]) ∧ LentAt w w' A mv Z F ks ∧ Below w.heap.size w w' := by
  obtain ⟨fa, fcap, rfl, _⟩ := id hf
  obtain ⟨i72, hi72, hz720, hz721, hz722⟩ := info_parts info72
  obtain ⟨i73, hi73, hz730, hz731, hz732⟩ := info_parts info73
  have hmk := fun W => run_make (P := Tryz.prog) W 45 73 i73 (.slice none 0 0) Tryz.underlying45 hi73 hz730 .i64 .i64 ((F.length : Int) + 1) ((F.length : Int) + 1) (by omega) (Int.le_refl _) (by rw [hz732]; omega) (by omega)
  have e1 : ((F.length : Int) + 1).toNat = F.length + 1 := by omega
  rw [e1, hz731] at hmk
  simp only [Nat.mul_one] at hmk
  have hfl : F.length ≤ 17592186044416 := by omega
  obtain ⟨M1, hM1⟩ : ∃ M1, M1 = madeCells (Value.cells (.slice none 0 0)) (F.length + 1) := ⟨_, rfl⟩
  rw [← hM1] at hmk
  have HS0 := hide (LdS.start w (.slice fa F.length fcap) F M1 (hM1.trans (madeNil73 _)))
  have HF := hide hf
  have HM := hide hm
  clear hf hm hM1 e1
  go_enter Tryz.func74, Tryz.ntmps74
  go_wp2
  generalize hwe : (((w.alloc (.cells #[.slice fa F.length fcap] 47)).alloc (.cells #[.slice none 0 0, .slice none 0 0] 141)).alloc (.cells M1 73)).alloc (.cells #[.slice (some ⟨w.heap.size + 1 + 1, 0, none⟩) (F.length + 1) (F.length + 1), .slice none 0 0] 141) = w1 at HS0 ⊢
  clear hwe hmk
  generalize hG : w.heap.size + 1 + 1 + 1 = G
  generalize hR : w.heap.size + 1 = R
  have HG : Hid (w.heap.size + 3 = G) := hG
  have HR : Hid (w.heap.size + 1 = R) := hR
  obtain ⟨A, hA⟩ : ∃ A, A = w.heap.size + 2 := ⟨_, rfl⟩
  have HA := hide hA
  obtain ⟨B, hB⟩ : ∃ B, B = w.heap.size := ⟨_, rfl⟩
  have HB := hide hB
  rw [← hB]
  clear hG hR hA hB
  go_loopw [5, 6, 7] (fun i _ _ wr => ∃ (ks : List Nat) (mv : Value), i = .int .i64 ks.length ∧ Hid (LdS w wr (.slice fa F.length fcap) F ks mv)) (fun i _ _ _ => F.length - (intOf i).toNat)
  case atStart => exact ⟨[], _, rfl, HS0⟩
  case round =>
    clear HS0
    obtain ⟨ks, mv, rfl, hr⟩ := hrel
    have z0 : wr.cell? ⟨B, 0, none⟩ = some (.slice fa F.length fcap) := by rw [HB.out]; exact cells_at hr.out.box 0 rfl
    by_cases hlt : ks.length < F.length
    · obtain ⟨b, off, ua, uc, rfl, hu, hcu⟩ := (HF.out.below hr.out.below).clause hlt
      have hc : F[ks.length]? = some (F.getD ks.length []) := by rw [List.getD_eq_getElem?_getD, List.getElem?_eq_getElem hlt]; rfl
      have hcm := HM.out (F.getD ks.length []) (by rw [List.getD_eq_getElem?_getD, List.getElem?_eq_getElem hlt]; exact List.getElem_mem hlt)
      generalize F.getD ks.length [] = c at hu hcu hc hcm
      have hmk := fun W => run_make (P := Tryz.prog) W 73 72 i72 (.agg #[.int .i64 0, .int .i64 0, .int .i64 0]) Tryz.underlying73 hi72 hz720 .i64 .i64 ((c.length : Int) + 1) ((c.length : Int) + 1) (by omega) (Int.le_refl _) (by rw [hz722]; omega) (by omega)
      have e1 : ((c.length : Int) + 1).toNat = c.length + 1 := by omega
      rw [e1, hz721] at hmk
      obtain ⟨M2, hM2⟩ : ∃ M2, M2 = madeCells (Value.cells (.agg #[.int .i64 0, .int .i64 0, .int .i64 0])) ((c.length + 1) * 3) := ⟨_, rfl⟩
      have hMs : M2.toList.length = (c.length + 1) * 3 := by rw [hM2]; simp [size_madeCells]
      rw [← hM2] at hmk
      have hcl : c.length ≤ 17592186044416 := by omega
      have HC := hide hc
      have HMs := hide hMs
      obtain ⟨C, hC⟩ : ∃ C, C = ccells c := ⟨_, rfl⟩
      have HCC := hide hC
      have HAL : Hid ((wr.alloc (.cells M2 72)).heap[wr.heap.size]? = some (.cells M2.toList.toArray 72 (0, 0))) := by
        show _ = _
        simpa using heap_alloc_new wr (.cells M2 72)
      have HBL : Hid (Below wr.heap.size wr (wr.alloc (.cells M2 72))) := (Below.refl _ _).alloc (Nat.le_refl _) _
      have HCU := hide hcu
      have hub := block_lt_of_cell hu
      have hz0b := block_lt_of_cell z0
      simp only at hub hz0b
      clear hc hMs hM2 hC e1 hcu hcm
      have C0 : Hid (c.length = Nat.min c.length (c.length + 1)) := (Nat.min_eq_left (by omega)).symm
      have C1 : Hid (C.length = c.length * 3) := by show _ = _; rw [HCC.out]; exact ccells_len c
      have C2 : Hid (0 < c.length → (some (⟨wr.heap.size, 0, none⟩ : Addr) = some ⟨wr.heap.size, 0, none⟩ ∧ ∃ ad, ua = some ad ∧ ∀ j v, C[j]? = some v → (wr.alloc (.cells M2 72)).cell? (ad.add j) = some v)) := fun hpos => by
        obtain ⟨ad, e, hs⟩ := (HCU.out.below HBL.out).src hpos
        exact ⟨rfl, ad, e, by rw [HCC.out]; exact hs⟩
      have C3 : Hid (0 + C.length ≤ M2.toList.length) := by show _ ≤ _; rw [HCC.out, ccells_len, HMs.out]; omega
      have C4 : Hid (∀ v ∈ C, v.oneCell' = true) := by show ∀ v ∈ C, _; rw [HCC.out]; exact ccells_one c
      go_upto_region 9 with (refine wpList_copy_wide rfl _ _ 73 73 rfl 72 Tryz.underlying73 3 size72 (some ⟨wr.heap.size, 0, none⟩) ua (c.length + 1) (c.length + 1) c.length uc rfl rfl wr.heap.size 0 c.length M2.toList 72 HAL.out C C0.out C1.out C2.out C3.out C4.out wr.heap.size wr HBL.out (Nat.le_refl _) ?_; intro w2 HG2 hB2 _)
      have hln : (splice M2.toList 0 C).length = (c.length + 1) * 3 := by rw [length_splice _ _ _ C3.out]; exact HMs.out
      have hat : ∀ r, r < 3 → ∃ u, w2.cell? ⟨wr.heap.size, c.length * 3 + r, none⟩ = some u := fun r hr => by
        rw [cell_of_row w2 _ _ _ _ _ HG2.out]
        exact ⟨_, Array.getElem?_eq_getElem (by simp; omega)⟩
      obtain ⟨u0, hu0⟩ := hat 0 (by omega)
      obtain ⟨u1, hu1⟩ := hat 1 (by omega)
      obtain ⟨u2, hu2⟩ := hat 2 (by omega)
      rw [Nat.add_zero] at hu0
      have hfz : ∀ o, w2.frozen? ⟨wr.heap.size, o, none⟩ = false := fun o => by simp [World.frozen?, HG2.out]
      have HB2 := hide hB2
      have hKlt : wr.heap.size < w2.heap.size := (Array.getElem?_eq_some_iff.1 HG2.out).1
      clear hln hat hB2 hmk HAL HBL z0 hu hub hz0b HCU C0 C1 C2 C4
      go_upto_region 10 with (fail)
      have hk3 : ClsAt (((w2.setCell ⟨wr.heap.size, c.length * 3, none⟩ (.int .i64 77)).setCell ⟨wr.heap.size, c.length * 3 + 1, none⟩ (.int .i64 0)).setCell ⟨wr.heap.size, c.length * 3 + 2, none⟩ (.int .i64 0)) wr.heap.size c := by
        unfold ClsAt
        rw [← splice_cls M2.toList c HMs.out, ← HCC.out, heap_setCell_same _ _ _ _ _ _ (heap_setCell_same _ _ _ _ _ _ (heap_setCell_same _ _ _ _ _ _ HG2.out))]
        simp
      have hb3 : Below wr.heap.size wr (((w2.setCell ⟨wr.heap.size, c.length * 3, none⟩ (.int .i64 77)).setCell ⟨wr.heap.size, c.length * 3 + 1, none⟩ (.int .i64 0)).setCell ⟨wr.heap.size, c.length * 3 + 2, none⟩ (.int .i64 0)) := ((HB2.out.setCell (Nat.le_refl _) _).setCell (Nat.le_refl _) _).setCell (Nat.le_refl _) _
      generalize ((w2.setCell ⟨wr.heap.size, c.length * 3, none⟩ (.int .i64 77)).setCell ⟨wr.heap.size, c.length * 3 + 1, none⟩ (.int .i64 0)).setCell ⟨wr.heap.size, c.length * 3 + 2, none⟩ (.int .i64 0) = w3 at hk3 hb3 ⊢
      have hS3 := hr.out.on hb3
      have hKn : wr.heap.size ∉ ks := fun hm => by
        obtain ⟨i, hi, e⟩ := List.mem_iff_getElem.1 hm
        have h1 := hr.out.cls i hi
        have h2 := (Array.getElem?_eq_some_iff.1 h1).1
        rw [List.getD_eq_getElem?_getD, List.getElem?_eq_getElem hi] at h2
        simp [e] at h2
      have hK4 : w.heap.size + 4 ≤ wr.heap.size := (Array.getElem?_eq_some_iff.1 hr.out.g).1
      have HST := hide (fun (w5 : World) (mv' : Value) ho hg hl => LdS.step (K := wr.heap.size) (o := .cells #[.slice (some ⟨wr.heap.size, 0, none⟩) (c.length + 1) (c.length + 1)] 73) (w5 := w5) (mv' := mv') hS3 HC.out hk3 hKn hK4 ho hg hl)
      have c1 : w3.cell? ⟨G, 1, none⟩ = some mv := by rw [← HG.out]; exact cells_at hS3.g 1 rfl
      have hGl : G < w3.heap.size := by rw [← HG.out]; exact (Array.getElem?_eq_some_iff.1 hS3.g).1
      have HMI := hide hS3.mine
      have HB1 : Hid (ks.length + 1 ≤ maxLen ∧ (ks.length + 1) * 24 ≤ 140737488355328) := by
        show _ ∧ _
        unfold maxLen
        omega
      clear hu0 hu1 hu2 hfz HG2 HB2 hKlt hk3 hS3 hKn hK4 hr
      go_upto_region 11 with (at_builtin; refine wpList_append_lies _ rfl _ _ 45 rfl 0 73 i73 (.slice none 0 0) 1 24 Tryz.underlying45 hi73 hz730 hz731 hz732 rfl (by decide) mv ks.length (List.zipWith fullS ks F) rfl (HMI.out.alloc _) ⟨w3.heap.size, 0, none⟩ 1 1 [.slice (some ⟨wr.heap.size, 0, none⟩) (c.length + 1) (c.length + 1)] rfl rfl (cell_one_new _ _ _) (by simp [Value.oneCell']) (by decide) HB1.out.1 HB1.out.2 (Nat.zero_le _) (w3.heap.size + 1) (by simp) ?_; intro g1 cap1 w5 ho1 hg1 hl1 hlt1; obtain ⟨k1, k2, k3, k4, k5, hS7⟩ := HST.out w5 (.slice (some ⟨g1, 0, none⟩) (ks.length + 1) cap1) ho1 hg1 (hl1.imp (fun e => e.symm) (fun e => congrArg some e)); rw [HG.out] at k1 k2 k3 k4 k5 hS7; have HS7 := hide hS7; clear hS7 ho1 hg1 hl1)
      generalize w5.setCell ⟨G, 1, none⟩ (.slice (some ⟨g1, 0, none⟩) (ks.length + 1) cap1) = w6 at k3 k4 k5 HS7 ⊢
      clear k1 k2 c1 hGl
      have hA6 := block_lt_of_cell k4
      simp only at hA6
      go_region
      go_wp2
      refine ⟨⟨ks ++ [wr.heap.size], _, by simp, HS7.out.on (Below.refl _ _).drew⟩, by simp [intOf]; omega⟩
    · have hle := hr.out.len
      have hfl2 : ks.length = F.length := by omega
      have c0 : wr.cell? ⟨G, 0, none⟩ = some (.slice (some ⟨w.heap.size + 2, 0, none⟩) (F.length + 1) (F.length + 1)) := by rw [← HG.out]; exact cells_at hr.out.g 0 rfl
      have c1 : wr.cell? ⟨G, 1, none⟩ = some mv := by rw [← HG.out]; exact cells_at hr.out.g 1 rfl
      have r0 : wr.cell? ⟨R, 0, none⟩ = some (.slice none 0 0) := by rw [← HR.out]; exact cells_at hr.out.res 0 rfl
      have r1 : wr.cell? ⟨R, 1, none⟩ = some (.slice none 0 0) := by rw [← HR.out]; exact cells_at hr.out.res 1 rfl
      have rf : ∀ o, wr.frozen? ⟨R, o, none⟩ = false := fun o => by rw [← HR.out]; exact cells_frozen hr.out.res o
      have ha := hr.out.all
      rw [hfl2, show F.length + 1 - F.length = 1 by omega] at ha
      have hzl : (List.zipWith cutS ks F).length = F.length := by simp; omega
      have a0 : wr.cell? ⟨w.heap.size + 2, F.length, none⟩ = some (.slice none 0 0) := by
        simp only [World.cell?, ha]
        simp [hzl]
      have af : wr.frozen? ⟨w.heap.size + 2, F.length, none⟩ = false := cells_frozen ha _
      have hGl := block_lt_of_cell c0
      have hRl := block_lt_of_cell r0
      have hAl := block_lt_of_cell a0
      have hGA : ¬ G = w.heap.size + 2 := by rw [← HG.out]; omega
      have hGR : ¬ G = R := by rw [← HG.out, ← HR.out]; omega
      have hAR : ¬ w.heap.size + 2 = R := by rw [← HR.out]; omega
      have hmo : mv.oneCell' = true := ownsRow_oneCell hr.out.mine
      obtain ⟨ma, mn, mc, hmv⟩ : ∃ ma mn mc, mv = .slice ma mn mc := by
        rcases hr.out.mine.2 with ⟨e, _⟩ | ⟨_, _, _, e, _⟩
        · exact ⟨_, _, _, e⟩
        · exact ⟨_, _, _, e⟩
      subst hmv
      simp only at hGl hRl hAl
      have HAA := hide ha
      have HZL := hide hzl
      have HFL := hide hfl2
      clear hle hfl2 ha hzl z0
      go_wp2
      obtain ⟨q1, q2, q3, q4⟩ := hr.out.fin HFL.out (.slice (some ⟨w.heap.size + 2, 0, none⟩) (F.length + 1) (F.length + 1)) (.slice ma mn mc)
      rw [HR.out] at q1 q2 q3 q4
      generalize (((wr.setCell ⟨w.heap.size + 2, F.length, none⟩ (.slice (some ⟨wr.heap.size, 0, none⟩) 1 1)).setCell ⟨R, 0, none⟩ (.slice (some ⟨w.heap.size + 2, 0, none⟩) (F.length + 1) (F.length + 1))).setCell ⟨R, 1, none⟩ (.slice ma mn mc)).alloc (.cells #[.int .i64 78, .int .i64 0, .int .i64 0] 72) = wf at q1 q2 q3 q4 ⊢
      refine bodyPost_ret (v := .agg #[.slice (some ⟨w.heap.size + 2, 0, none⟩) (F.length + 1) (F.length + 1), .slice ma mn mc]) (by simp [results, Tryz.results74, go_sem, q3, q4]) rfl ?_
      exact ⟨_, _, _, ks, rfl, q1, q2⟩
end Go.Proofs.YtpkiefjanmfgfaaGreatDoor
namespace Go.Proofs.YtpkiefjanmfgfaaGreatDoor

def hle (a b : Hit) : Prop := a.2 < b.2 ∨ (a.2 = b.2 ∧ a.1 ≤ b.1)
theorem hle_refl (a : Hit) : hle a a := .inr ⟨rfl, Int.le_refl _⟩
theorem hle_trans {a b c : Hit} (h1 : hle a b) (h2 : hle b c) : hle a c := by unfold hle at *; omega
theorem hle_total (a b : Hit) : hle a b ∨ hle b a := by unfold hle; omega
theorem farB_iff (a b : Hit) : farB a b = true ↔ ¬ hle a b := by
  unfold farB cmpH orI cmpI hle
  rw [decide_eq_true_iff]
  by_cases h1 : a.2 < b.2
  · simp [h1]
  · by_cases h2 : b.2 < a.2
    · simp [h1, h2]; omega
    · by_cases h3 : a.1 < b.1
      · simp [h1, h2, h3]; omega
      · by_cases h4 : b.1 < a.1
        · simp [h1, h2, h3, h4] <;> omega
        · simp [h1, h2, h3, h4] <;> omega
theorem far_false {a b : Hit} (h : ¬ farB a b = true) : hle a b := by
  rw [farB_iff] at h
  exact Classical.not_not.1 h
theorem far_true {a b : Hit} (h : farB a b = true) : hle b a := (hle_total b a).resolve_right ((farB_iff a b).1 h)

theorem nth_setAt {l : List Hit} {a k : Nat} {x : Hit} (ha : a < l.length) : nth (l.set a x) k = if k = a then x else nth l k := by
  unfold nth
  rw [List.getD_eq_getElem?_getD, List.getD_eq_getElem?_getD]
  by_cases h : k = a
  · subst h
    rw [if_pos rfl, List.getElem?_set_self ha]; rfl
  · rw [if_neg h, List.getElem?_set_ne (fun e => h e.symm)]
theorem nth_swap {l : List Hit} {a b k : Nat} (ha : a < l.length) (hb : b < l.length) : nth (swapL l a b) k = if k = b then nth l a else if k = a then nth l b else nth l k := by
  unfold swapL
  rw [nth_setAt (by rw [List.length_set]; exact hb), nth_setAt ha]

def Hp (l : List Hit) : Prop := ∀ i, 0 < i → i < l.length → hle (nth l i) (nth l ((i - 1) / 2))
theorem Hp.top {l : List Hit} (h : Hp l) : ∀ i, i < l.length → hle (nth l i) (nth l 0) := by
  intro i
  induction i using Nat.strongRecOn with
  | ind i ih =>
    intro hi
    rcases Nat.eq_zero_or_pos i with h0 | h0
    · subst h0; exact hle_refl _
    · exact hle_trans (h i h0 hi) (ih ((i - 1) / 2) (by omega) (by omega))
theorem upL_heap : ∀ (n a : Nat) (l : List Hit), a < l.length → a < n → (∀ i, 0 < i → i < l.length → i ≠ a → hle (nth l i) (nth l ((i - 1) / 2))) → (∀ i, 0 < i → i < l.length → (i - 1) / 2 = a → 0 < a → hle (nth l i) (nth l ((a - 1) / 2))) → Hp (upL 150 n l a)
  | 0, _, _, _, hn, _, _ => absurd hn (Nat.not_lt_zero _)
  | n + 1, a, l, ha, hn, h1, h2 => by
    unfold upL
    split
    · rename_i h0
      intro i hi hl
      exact h1 i hi hl (by omega)
    · rename_i h0
      have hp : (a - 1) / 2 < a := by omega
      split
      · rename_i hf
        have hf' : hle (nth l ((a - 1) / 2)) (nth l a) := far_true hf
        refine upL_heap n ((a - 1) / 2) _ (by rw [swapL_length]; omega) (by omega) (fun i hi hl hne => ?_) (fun i hi hl hpi hp0 => ?_)
        · rw [swapL_length] at hl
          rw [nth_swap ha (by omega), nth_swap ha (by omega), if_neg hne]
          by_cases hia : i = a
          · subst hia
            rw [if_pos rfl, if_pos rfl]; exact hf'
          · rw [if_neg hia]
            by_cases hpp : (i - 1) / 2 = (a - 1) / 2
            · rw [if_pos hpp]
              have := h1 i hi hl hia
              rw [hpp] at this
              exact hle_trans this hf'
            · rw [if_neg hpp]
              by_cases hpa : (i - 1) / 2 = a
              · rw [if_pos hpa]
                exact h2 i hi hl hpa (by omega)
              · rw [if_neg hpa]
                exact h1 i hi hl hia
        · rw [swapL_length] at hl
          have hpp := h1 ((a - 1) / 2) hp0 (by omega) (by omega)
          rw [nth_swap ha (by omega), nth_swap ha (by omega), if_neg (show ¬ i = (a - 1) / 2 by omega), if_neg (show ¬ ((a - 1) / 2 - 1) / 2 = (a - 1) / 2 by omega), if_neg (show ¬ ((a - 1) / 2 - 1) / 2 = a by omega)]
          by_cases hia : i = a
          · rw [if_pos hia]; exact hpp
          · rw [if_neg hia]
            have := h1 i hi hl hia
            rw [hpi] at this
            exact hle_trans this hpp
      · rename_i hf
        intro i hi hl
        by_cases hia : i = a
        · subst hia; exact far_false hf
        · exact h1 i hi hl hia
theorem nth_append_left {l m : List Hit} {k : Nat} (h : k < l.length) : nth (l ++ m) k = nth l k := by
  unfold nth
  rw [List.getD_eq_getElem?_getD, List.getD_eq_getElem?_getD, List.getElem?_append_left h]
theorem pushL_heap {l : List Hit} (h : Hp l) (x : Hit) : Hp (pushL 150 l x) := by
  unfold pushL
  refine upL_heap _ _ _ (by simp) (by omega) (fun i hi hl hne => ?_) (fun i hi hl hp h0 => ?_)
  · simp at hl
    rw [nth_append_left (by omega), nth_append_left (by omega)]
    exact h i hi (by omega)
  · simp at hl
    omega
theorem pick_le {l : List Hit} {a b : Nat} : hle (nth l a) (nth l (pickL 150 l a b)) ∧ (b < l.length → hle (nth l b) (nth l (pickL 150 l a b))) := by
  unfold pickL
  split
  · rename_i h
    exact ⟨far_true h.2, fun _ => hle_refl _⟩
  · rename_i h
    refine ⟨hle_refl _, fun hb => far_false (fun hf => h ⟨hb, hf⟩)⟩
theorem downL_heap : ∀ (n a : Nat) (l : List Hit), a < l.length → l.length ≤ a + n → (∀ i, 0 < i → i < l.length → (i - 1) / 2 ≠ a → hle (nth l i) (nth l ((i - 1) / 2))) → (∀ i, 0 < i → i < l.length → (i - 1) / 2 = a → 0 < a → hle (nth l i) (nth l ((a - 1) / 2))) → Hp (downL 150 n l a)
  | 0, a, l, ha, hn, _, _ => absurd hn (by omega)
  | n + 1, a, l, ha, hn, h1, h2 => by
    have p1 := pick_le (l := l) (a := a) (b := 2 * a + 1)
    have p2 := pick_le (l := l) (a := pickL 150 l a (2 * a + 1)) (b := 2 * a + 2)
    have ha2 : hle (nth l a) (nth l (pickL 150 l (pickL 150 l a (2 * a + 1)) (2 * a + 2))) := hle_trans p1.1 p2.1
    have hch : ∀ i, 0 < i → i < l.length → (i - 1) / 2 = a → hle (nth l i) (nth l (pickL 150 l (pickL 150 l a (2 * a + 1)) (2 * a + 2))) := fun i hi hl hp => by
      have : i = 2 * a + 1 ∨ i = 2 * a + 2 := by omega
      rcases this with rfl | rfl
      · exact hle_trans (p1.2 hl) p2.1
      · exact p2.2 hl
    have hfl : pickL 150 l (pickL 150 l a (2 * a + 1)) (2 * a + 2) < l.length := pickL_lt (pickL_lt ha)
    have hfc : pickL 150 l (pickL 150 l a (2 * a + 1)) (2 * a + 2) = a ∨ pickL 150 l (pickL 150 l a (2 * a + 1)) (2 * a + 2) = 2 * a + 1 ∨ pickL 150 l (pickL 150 l a (2 * a + 1)) (2 * a + 2) = 2 * a + 2 := by
      rcases pickL_or 150 l (pickL 150 l a (2 * a + 1)) (2 * a + 2) with h | h
      · rcases pickL_or 150 l a (2 * a + 1) with h' | h'
        · rw [h, h']; exact .inl rfl
        · rw [h, h']; exact .inr (.inl rfl)
      · rw [h]; exact .inr (.inr rfl)
    unfold downL
    generalize pickL 150 l (pickL 150 l a (2 * a + 1)) (2 * a + 2) = f at ha2 hch hfl hfc
    split
    · rename_i hfa
      subst hfa
      intro i hi hl
      by_cases hp : (i - 1) / 2 = f
      · rw [hp]; exact hch i hi hl hp
      · exact h1 i hi hl hp
    · rename_i hfa
      have hfp : (f - 1) / 2 = a ∧ a < f := by omega
      refine downL_heap n f _ (by rw [swapL_length]; exact hfl) (by rw [swapL_length]; omega) (fun i hi hl hne => ?_) (fun i hi hl hpi h0 => ?_)
      · rw [swapL_length] at hl
        rw [nth_swap ha hfl, nth_swap ha hfl, if_neg hne]
        by_cases hif : i = f
        · subst hif
          rw [if_pos rfl, if_pos hfp.1]; exact ha2
        · rw [if_neg hif]
          by_cases hia : i = a
          · subst hia
            rw [if_pos rfl, if_neg (show ¬ (i - 1) / 2 = i by omega)]
            exact h2 f (by omega) hfl hfp.1 hi
          · rw [if_neg hia]
            by_cases hpa : (i - 1) / 2 = a
            · rw [if_pos hpa]; exact hch i hi hl hpa
            · rw [if_neg hpa]; exact h1 i hi hl hpa
      · rw [swapL_length] at hl
        rw [nth_swap ha hfl, nth_swap ha hfl, if_neg (show ¬ i = f by omega), if_neg (show ¬ i = a by omega), if_neg (show ¬ (f - 1) / 2 = f by omega), if_pos hfp.1]
        have := h1 i hi hl (by omega)
        rw [hpi] at this
        exact this
theorem nth_take {l : List Hit} {n k : Nat} (h : k < n) : nth (l.take n) k = nth l k := by
  unfold nth
  rw [List.getD_eq_getElem?_getD, List.getD_eq_getElem?_getD, List.getElem?_take_of_lt h]
theorem popL_heap {l : List Hit} (h : Hp l) : Hp (popL 150 l) := by
  unfold popL
  rcases Nat.lt_or_ge 1 l.length with hl | hl
  · refine downL_heap _ 0 _ (by simp; omega) (by simp) (fun i hi hil hne => ?_) (fun i hi hil hp h0 => absurd h0 (Nat.lt_irrefl _))
    simp at hil
    rw [nth_take (by omega), nth_take (by omega), nth_setAt (by omega), nth_setAt (by omega), if_neg (by omega), if_neg hne]
    exact h i hi (by omega)
  · intro i hi hil
    rw [downL_length] at hil
    simp at hil
    omega
theorem set_set_permL {l : List Hit} {a b : Nat} (ha : a < l.length) (hb : b < l.length) : (swapL l a b).Perm l := by
  unfold swapL nth
  rw [List.getD_eq_getElem?_getD, List.getD_eq_getElem?_getD, List.getElem?_eq_getElem ha, List.getElem?_eq_getElem hb]
  exact List.set_set_perm ha hb
theorem upL_perm {fk : Nat} : ∀ (n a : Nat) (l : List Hit), a < l.length → (upL fk n l a).Perm l
  | 0, _, _, _ => List.Perm.refl _
  | n + 1, a, l, ha => by
    unfold upL
    split
    · exact List.Perm.refl _
    · split
      · exact (upL_perm n _ _ (by rw [swapL_length]; omega)).trans (set_set_permL ha (by omega))
      · exact List.Perm.refl _
theorem downL_perm {fk : Nat} : ∀ (n a : Nat) (l : List Hit), a < l.length → (downL fk n l a).Perm l
  | 0, _, _, _ => List.Perm.refl _
  | n + 1, a, l, ha => by
    unfold downL
    split
    · exact List.Perm.refl _
    · exact (downL_perm n _ _ (by rw [swapL_length]; exact pickL_lt (pickL_lt ha))).trans (set_set_permL ha (pickL_lt (pickL_lt ha)))
theorem pushL_perm {fk : Nat} (l : List Hit) (x : Hit) : (pushL fk l x).Perm (x :: l) := by
  unfold pushL
  exact (upL_perm _ _ _ (by simp)).trans (List.perm_append_singleton x l)
theorem popL_perm {fk : Nat} {x : Hit} {l : List Hit} : (popL fk (x :: l)).Perm l := by
  unfold popL
  rcases List.eq_nil_or_concat l with rfl | ⟨m, y, rfl⟩
  · simp [downL]
  · have e1 : nth (x :: (m ++ [y])) ((x :: (m ++ [y])).length - 1) = y := by
      unfold nth
      simp [List.getD_eq_getElem?_getD]
    have e2 : ((x :: (m ++ [y])).set 0 y).take ((x :: (m ++ [y])).length - 1) = y :: m := by
      simp
    rw [List.concat_eq_append] at *
    rw [e1, e2]
    exact (downL_perm _ _ _ (by simp)).trans (List.perm_append_singleton y m).symm
theorem drainL_perm : ∀ (n : Nat) (l : List Hit), n = l.length → (drainL n l).Perm l
  | 0, l, h => by
    rw [List.eq_nil_of_length_eq_zero h.symm]; exact List.Perm.refl _
  | n + 1, [], h => by cases h
  | n + 1, x :: l, h => by
    unfold drainL
    have hp := popL_perm (fk := 150) (x := x) (l := l)
    have := drainL_perm n (popL 150 (x :: l)) (by rw [hp.length_eq]; simpa using h)
    have e : nth (x :: l) 0 = x := rfl
    rw [e]
    exact (List.perm_append_singleton x _).trans ((this.trans hp).cons x)
theorem drainL_sorted : ∀ (n : Nat) (l : List Hit), n = l.length → Hp l → (drainL n l).Pairwise hle
  | 0, _, _, _ => List.Pairwise.nil
  | n + 1, l, h, hh => by
    unfold drainL
    rw [List.pairwise_append]
    refine ⟨drainL_sorted n _ (by rw [popL_length]; omega) (popL_heap hh), List.pairwise_singleton _ _, fun a ha b hb => ?_⟩
    rw [List.mem_singleton.1 hb]
    have hm := mem_popL (mem_drainL (by rw [popL_length]; omega) ha)
    obtain ⟨i, hi, rfl⟩ := List.getElem_of_mem hm
    have := hh.top i hi
    unfold nth at this
    rw [List.getD_eq_getElem?_getD, List.getElem?_eq_getElem hi] at this
    exact this
end Go.Proofs.YtpkiefjanmfgfaaGreatDoor
namespace Go.Proofs.YtpkiefjanmfgfaaGreatDoor
open Go.RowKit

theorem hle_anti {a b : Hit} (h1 : hle a b) (h2 : hle b a) : a = b := by
  unfold hle at h1 h2
  obtain ⟨a1, a2⟩ := a
  obtain ⟨b1, b2⟩ := b
  simp only at h1 h2
  simp only [Prod.mk.injEq]
  omega

theorem sub_sorted : ∀ {all S : List Hit}, all.Pairwise hle → S.Pairwise hle → S.Nodup → (∀ x ∈ S, x ∈ all) → S.Sublist all
  | [], S, _, _, _, h => by
    cases S with
    | nil => exact List.Sublist.refl _
    | cons x r => exact absurd (h x (by simp)) List.not_mem_nil
  | a :: t, [], _, _, _, _ => List.nil_sublist _
  | a :: t, x :: r, ha, hs, hn, h => by
    obtain ⟨ha1, ha2⟩ := List.pairwise_cons.1 ha
    obtain ⟨hs1, hs2⟩ := List.pairwise_cons.1 hs
    obtain ⟨hn1, hn2⟩ := List.nodup_cons.1 hn
    by_cases e : x = a
    · subst e
      refine List.Sublist.cons_cons x (sub_sorted ha2 hs2 hn2 fun y hy => ?_)
      rcases List.mem_cons.1 (h y (by simp [hy])) with rfl | hy2
      · exact absurd hy hn1
      · exact hy2
    · refine List.Sublist.cons a (sub_sorted ha2 hs hn fun y hy => ?_)
      rcases List.mem_cons.1 (h y hy) with rfl | hy2
      · have hxt : x ∈ t := (List.mem_cons.1 (h x (by simp))).resolve_left e
        have h1 := ha1 x hxt
        rcases List.mem_cons.1 hy with rfl | hyr
        · exact absurd rfl e
        · exact absurd (hle_anti (hs1 y hyr) h1) e
      · exact hy2

structure RightL (l all : List Hit) (k beam : Int) : Prop where
  len : (l.length : Int) = min k (all.length : Int)
  sub : l.Sublist all
  exact : (all.length : Int) ≤ k ∨ (all.length : Int) ≤ beam → l = all.take l.length

theorem nth_drop_cons {l : List Hit} {i : Nat} (h : i < l.length) : l.drop i = nth l i :: l.drop (i + 1) := by
  rw [List.drop_eq_getElem_cons h, nth, List.getD_eq_getElem?_getD, List.getElem?_eq_getElem h]; rfl
theorem sub_head {x y : Hit} {r t : List Hit} (h : (x :: r).Sublist (y :: t)) (e : y ≠ x) : (x :: r).Sublist t := by
  cases h with
  | cons _ h => exact h
  | cons_cons _ _ => exact absurd rfl e
theorem sub_tail {x : Hit} {r t : List Hit} (h : (x :: r).Sublist (x :: t)) : r.Sublist t := by
  cases h with
  | cons _ h => exact (List.sublist_cons_self x r).trans h
  | cons_cons _ h => exact h

theorem HRow.slice {w : World} {v : Value} {l : List Hit} (h : HRow w v l) : ∃ a c, v = .slice a l.length c ∧ (0 < l.length → ∃ g, a = some ⟨g, 0, none⟩) := by
  rcases h.2 with ⟨rfl, h0⟩ | ⟨g, cap, cur, hv, _⟩
  · exact ⟨none, 0, by rw [h0], fun h => by omega⟩
  · exact ⟨_, cap, hv, fun _ => ⟨g, rfl⟩⟩
structure RtS (l all : List Hit) (ex : Bool) (i a : Nat) : Prop where
  il : i ≤ l.length
  sub : (l.drop i).Sublist (all.drop a)
  ex : ex = true → a = i
theorem RtS.lt {l all : List Hit} {ex : Bool} {i a : Nat} (h : RtS l all ex i a) (hi : i < l.length) : a < all.length := by
  have := h.sub.length_le
  simp at this
  omega
theorem RtS.hit {l all : List Hit} {ex : Bool} {i a : Nat} (h : RtS l all ex i a) (hi : i < l.length) (e : nth all a = nth l i) : RtS l all ex (i + 1) (a + 1) := by
  refine ⟨hi, ?_, fun h1 => by rw [h.ex h1]⟩
  have h1 := h.sub
  rw [nth_drop_cons hi, nth_drop_cons (h.lt hi), e] at h1
  exact sub_tail h1
theorem RtS.miss {l all : List Hit} {ex : Bool} {i a : Nat} (h : RtS l all ex i a) (hi : i < l.length) (e : nth all a ≠ nth l i) (hx : ex = true → l = all.take l.length) : RtS l all ex i (a + 1) := by
  refine ⟨h.il, ?_, fun h1 => ?_⟩
  · have h1 := h.sub
    rw [nth_drop_cons hi, nth_drop_cons (h.lt hi)] at h1
    rw [nth_drop_cons hi]
    exact sub_head h1 e
  · have h2 := h.ex h1
    subst h2
    have h3 := congrArg (fun q => nth q a) (hx h1)
    rw [nth_take hi] at h3
    exact absurd h3.symm e

def RtX (l all : List Hit) (ex : Bool) : Prop := ex = true → l = all.take l.length

set_option maxHeartbeats 4000000 in
set_option maxRecDepth 20000 in
theorem rightR (v1 v2 : Value) (l all : List Hit) (k beam : Int) (w : World) (h1 : HRow w v1 l) (h2 : HRow w v2 all) (hr : RightL l all k beam) (hk : 1 ≤ k ∧ k ≤ 1000) (_hb : 1 ≤ beam ∧ beam ≤ 1000) (ha : all.length ≤ 1000) :
    Calls Tryz.prog 79 #[v1, v2, .int .i64 k, .int .i64 beam] w fun ev w' => ev = .returned (.bool true) ∧ Below w.heap.size w w' := by
  obtain ⟨a1, c1, rfl, ha1⟩ := HRow.slice h1
  obtain ⟨a2, c2, rfl, ha2⟩ := HRow.slice h2
  have hlen := hr.len
  have H1 := hide h1
  have H2 := hide h2
  have HA1 := hide ha1
  have HA2 := hide ha2
  have HR := hide hr
  have hcase : (decide ((all.length : Int) < k) = true ∧ decide ((all.length : Int) ≤ k) = true ∧ (all.length : Int) = (l.length : Int) ∧ True) ∨ (decide ((all.length : Int) < k) = false ∧ decide ((all.length : Int) ≤ k) = true ∧ k = (l.length : Int) ∧ True) ∨ (decide ((all.length : Int) < k) = false ∧ decide ((all.length : Int) ≤ k) = false ∧ k = (l.length : Int) ∧ decide ((all.length : Int) ≤ beam) = true) ∨ (decide ((all.length : Int) < k) = false ∧ decide ((all.length : Int) ≤ k) = false ∧ k = (l.length : Int) ∧ decide ((all.length : Int) ≤ beam) = false) := by
    rcases Int.lt_trichotomy (all.length : Int) k with h | h | h
    · exact .inl ⟨decide_eq_true h, decide_eq_true (by omega), by omega, trivial⟩
    · exact .inr (.inl ⟨decide_eq_false (by omega), decide_eq_true (by omega), by omega, trivial⟩)
    · by_cases hbm : (all.length : Int) ≤ beam
      · exact .inr (.inr (.inl ⟨decide_eq_false (by omega), decide_eq_false (by omega), by omega, decide_eq_true hbm⟩))
      · exact .inr (.inr (.inr ⟨decide_eq_false (by omega), decide_eq_false (by omega), by omega, decide_eq_false hbm⟩))
  have hex : ∀ b : Bool, b = true → (b = true → (all.length : Int) ≤ k ∨ (all.length : Int) ≤ beam) → (b = true → l = all.take l.length) := fun b _ h1 h2 => hr.exact (h1 h2)
  have HEX := hide hex
  clear h1 h2 ha1 ha2 hr hlen hex
  rcases hcase with ⟨d1, d2, d3, d4⟩ | ⟨d1, d2, d3, d4⟩ | ⟨d1, d2, d3, d4⟩ | ⟨d1, d2, d3, d4⟩
  · have D2 := hide (of_decide_eq_true d2)
    have D3 := hide d3
    have hbn : ((l.length : Int) != (all.length : Int)) = false := by rw [d3]; simp
    clear d3 d4 HEX
    go_enter Tryz.func79, Tryz.ntmps79
    go_wp2
    go_loopw [11, 12] (fun at' i wr => ∃ (x q : Nat), at' = .int .i64 q ∧ i = .int .i64 x ∧ Hid (RtS l all true x q) ∧ Hid (∃ n, wr = w.drewN n)) (fun _ i _ => all.length - (intOf i).toNat)
    case atStart => exact ⟨0, 0, rfl, rfl, ⟨Nat.zero_le _, HR.out.sub, fun _ => rfl⟩, 0, rfl⟩
    case round =>
      obtain ⟨x, q, rfl, rfl, HS, HW⟩ := hrel
      have HLA : Hid (all.length ≤ 1000) := ha
      have HEQ : Hid (RtX l all true) := fun _ => HR.out.exact (.inl D2.out)
      clear HR d1 d2 ha
      by_cases hltN : x < all.length
      · have hlt : x < l.length := by have := D3.out; omega
        obtain ⟨g1, rfl⟩ := HA1.out (by omega)
        have hq0 := HS.out.lt hlt
        obtain ⟨g2, rfl⟩ := HA2.out (by omega)
        go_wp2
        go_loopw [11] (fun at' wq => ∃ q : Nat, at' = .int .i64 q ∧ Hid (RtS l all true x q) ∧ Hid (∃ n, wq = w.drewN n)) (fun at' _ => all.length - (intOf at').toNat)
        case atStart => exact ⟨q, rfl, HS, HW⟩
        case round =>
          clear HS HW hq0
          rename World => wq
          obtain ⟨q, rfl, HS, HW⟩ := hrel
          obtain ⟨n0, hw0⟩ := id HW.out
          have hq := HS.out.lt hlt
          have hq1 := HLA.out
          have x0 : wq.cell? ⟨g1, x * 2, none⟩ = some (.int .i64 (nth l x).1) := by rw [hw0]; exact HRow.at0 (ownsRow_drewN H1.out n0) hlt
          have x1 : wq.cell? ⟨g1, x * 2 + 1, none⟩ = some (.int .i64 (nth l x).2) := by rw [hw0]; exact HRow.at1 (ownsRow_drewN H1.out n0) hlt
          have y0 : wq.cell? ⟨g2, q * 2, none⟩ = some (.int .i64 (nth all q).1) := by rw [hw0]; exact HRow.at0 (ownsRow_drewN H2.out n0) hq
          have y1 : wq.cell? ⟨g2, q * 2 + 1, none⟩ = some (.int .i64 (nth all q).2) := by rw [hw0]; exact HRow.at1 (ownsRow_drewN H2.out n0) hq
          have HWW : Hid (∀ j, ∃ n, wq.drewN j = w.drewN n) := fun j => ⟨n0 + j, by rw [hw0]; simp⟩
          have HHIT := hide (HS.out.hit hlt)
          have HMISS := hide (fun e => HS.out.miss hlt e HEQ.out)
          have hxq := hide HS.out.ex
          clear hw0 HW HS
          generalize nth l x = xv at x0 x1 HHIT HMISS
          generalize nth all q = yv at y0 y1 HHIT HMISS
          obtain ⟨xi, xd⟩ := xv
          obtain ⟨yi, yd⟩ := yv
          simp only at x0 x1 y0 y1
          by_cases e1 : yi = xi
          · subst e1
            by_cases e2 : yd = xd
            · subst e2
              have HH := hide (HHIT.out rfl)
              clear HHIT HMISS
              have hqx : x = q := (hxq.out rfl).symm
              subst hqx
              go_wp2
              go_quiet (fail)
              go_wp2
              exact ⟨⟨x + 1, x + 1, by go_num, by go_num, HH, HWW.out _⟩, by simp [intOf]; omega⟩
            · have HM := hide (HMISS.out (fun e => e2 (congrArg Prod.snd e)))
              clear HHIT HMISS hxq
              go_wp2
              go_quiet (fail)
              go_wp2
              exact ⟨⟨q + 1, by go_num, HM, HWW.out _⟩, by simp [intOf]; omega⟩
          · have HM := hide (HMISS.out (fun e => e1 (congrArg Prod.fst e)))
            clear HHIT HMISS hxq
            go_wp2
            go_quiet (fail)
            go_wp2
            exact ⟨⟨q + 1, by go_num, HM, HWW.out _⟩, by simp [intOf]; omega⟩
      · obtain ⟨n0, hw0⟩ := id HW.out
        have HB : Hid (Below w.heap.size w wr) := by rw [hw0]; exact below_drewN (Below.refl _ _) _
        clear hw0
        go_wp2
        go_ret
        exact ⟨rfl, HB.out⟩
  · have D2 := hide (of_decide_eq_true d2)
    have D3 := hide d3
    have hbn : ((l.length : Int) != k) = false := by rw [d3]; simp
    clear d3
    clear d4 HEX
    go_enter Tryz.func79, Tryz.ntmps79
    go_wp2
    go_loopw [11, 12] (fun at' i wr => ∃ (x q : Nat), at' = .int .i64 q ∧ i = .int .i64 x ∧ Hid (RtS l all true x q) ∧ Hid (∃ n, wr = w.drewN n)) (fun _ i _ => k.toNat - (intOf i).toNat)
    case atStart => exact ⟨0, 0, rfl, rfl, ⟨Nat.zero_le _, HR.out.sub, fun _ => rfl⟩, 0, rfl⟩
    case round =>
      obtain ⟨x, q, rfl, rfl, HS, HW⟩ := hrel
      have HLA : Hid (all.length ≤ 1000) := ha
      have HEQ : Hid (RtX l all true) := fun _ => HR.out.exact (.inl D2.out)
      clear HR d1 d2 ha
      by_cases hltN : (x : Int) < k
      · have hlt : x < l.length := by have := D3.out; omega
        obtain ⟨g1, rfl⟩ := HA1.out (by omega)
        have hq0 := HS.out.lt hlt
        obtain ⟨g2, rfl⟩ := HA2.out (by omega)
        go_wp2
        go_loopw [11] (fun at' wq => ∃ q : Nat, at' = .int .i64 q ∧ Hid (RtS l all true x q) ∧ Hid (∃ n, wq = w.drewN n)) (fun at' _ => all.length - (intOf at').toNat)
        case atStart => exact ⟨q, rfl, HS, HW⟩
        case round =>
          clear HS HW hq0
          rename World => wq
          obtain ⟨q, rfl, HS, HW⟩ := hrel
          obtain ⟨n0, hw0⟩ := id HW.out
          have hq := HS.out.lt hlt
          have hq1 := HLA.out
          have x0 : wq.cell? ⟨g1, x * 2, none⟩ = some (.int .i64 (nth l x).1) := by rw [hw0]; exact HRow.at0 (ownsRow_drewN H1.out n0) hlt
          have x1 : wq.cell? ⟨g1, x * 2 + 1, none⟩ = some (.int .i64 (nth l x).2) := by rw [hw0]; exact HRow.at1 (ownsRow_drewN H1.out n0) hlt
          have y0 : wq.cell? ⟨g2, q * 2, none⟩ = some (.int .i64 (nth all q).1) := by rw [hw0]; exact HRow.at0 (ownsRow_drewN H2.out n0) hq
          have y1 : wq.cell? ⟨g2, q * 2 + 1, none⟩ = some (.int .i64 (nth all q).2) := by rw [hw0]; exact HRow.at1 (ownsRow_drewN H2.out n0) hq
          have HWW : Hid (∀ j, ∃ n, wq.drewN j = w.drewN n) := fun j => ⟨n0 + j, by rw [hw0]; simp⟩
          have HHIT := hide (HS.out.hit hlt)
          have HMISS := hide (fun e => HS.out.miss hlt e HEQ.out)
          have hxq := hide HS.out.ex
          clear hw0 HW HS
          generalize nth l x = xv at x0 x1 HHIT HMISS
          generalize nth all q = yv at y0 y1 HHIT HMISS
          obtain ⟨xi, xd⟩ := xv
          obtain ⟨yi, yd⟩ := yv
          simp only at x0 x1 y0 y1
          by_cases e1 : yi = xi
          · subst e1
            by_cases e2 : yd = xd
            · subst e2
              have HH := hide (HHIT.out rfl)
              clear HHIT HMISS
              have hqx : x = q := (hxq.out rfl).symm
              subst hqx
              go_wp2
              go_quiet (fail)
              go_wp2
              exact ⟨⟨x + 1, x + 1, by go_num, by go_num, HH, HWW.out _⟩, by simp [intOf]; omega⟩
            · have HM := hide (HMISS.out (fun e => e2 (congrArg Prod.snd e)))
              clear HHIT HMISS hxq
              go_wp2
              go_quiet (fail)
              go_wp2
              exact ⟨⟨q + 1, by go_num, HM, HWW.out _⟩, by simp [intOf]; omega⟩
          · have HM := hide (HMISS.out (fun e => e1 (congrArg Prod.fst e)))
            clear HHIT HMISS hxq
            go_wp2
            go_quiet (fail)
            go_wp2
            exact ⟨⟨q + 1, by go_num, HM, HWW.out _⟩, by simp [intOf]; omega⟩
      · obtain ⟨n0, hw0⟩ := id HW.out
        have HB : Hid (Below w.heap.size w wr) := by rw [hw0]; exact below_drewN (Below.refl _ _) _
        clear hw0
        go_wp2
        go_ret
        exact ⟨rfl, HB.out⟩
  · have D2 := hide (of_decide_eq_true d4)
    have D3 := hide d3
    have hbn : ((l.length : Int) != k) = false := by rw [d3]; simp
    clear d3
    clear HEX
    go_enter Tryz.func79, Tryz.ntmps79
    go_wp2
    go_loopw [11, 12] (fun at' i wr => ∃ (x q : Nat), at' = .int .i64 q ∧ i = .int .i64 x ∧ Hid (RtS l all true x q) ∧ Hid (∃ n, wr = w.drewN n)) (fun _ i _ => k.toNat - (intOf i).toNat)
    case atStart => exact ⟨0, 0, rfl, rfl, ⟨Nat.zero_le _, HR.out.sub, fun _ => rfl⟩, 0, rfl⟩
    case round =>
      obtain ⟨x, q, rfl, rfl, HS, HW⟩ := hrel
      have HLA : Hid (all.length ≤ 1000) := ha
      have HEQ : Hid (RtX l all true) := fun _ => HR.out.exact (.inr D2.out)
      clear HR d1 d2 ha
      by_cases hltN : (x : Int) < k
      · have hlt : x < l.length := by have := D3.out; omega
        obtain ⟨g1, rfl⟩ := HA1.out (by omega)
        have hq0 := HS.out.lt hlt
        obtain ⟨g2, rfl⟩ := HA2.out (by omega)
        go_wp2
        go_loopw [11] (fun at' wq => ∃ q : Nat, at' = .int .i64 q ∧ Hid (RtS l all true x q) ∧ Hid (∃ n, wq = w.drewN n)) (fun at' _ => all.length - (intOf at').toNat)
        case atStart => exact ⟨q, rfl, HS, HW⟩
        case round =>
          clear HS HW hq0
          rename World => wq
          obtain ⟨q, rfl, HS, HW⟩ := hrel
          obtain ⟨n0, hw0⟩ := id HW.out
          have hq := HS.out.lt hlt
          have hq1 := HLA.out
          have x0 : wq.cell? ⟨g1, x * 2, none⟩ = some (.int .i64 (nth l x).1) := by rw [hw0]; exact HRow.at0 (ownsRow_drewN H1.out n0) hlt
          have x1 : wq.cell? ⟨g1, x * 2 + 1, none⟩ = some (.int .i64 (nth l x).2) := by rw [hw0]; exact HRow.at1 (ownsRow_drewN H1.out n0) hlt
          have y0 : wq.cell? ⟨g2, q * 2, none⟩ = some (.int .i64 (nth all q).1) := by rw [hw0]; exact HRow.at0 (ownsRow_drewN H2.out n0) hq
          have y1 : wq.cell? ⟨g2, q * 2 + 1, none⟩ = some (.int .i64 (nth all q).2) := by rw [hw0]; exact HRow.at1 (ownsRow_drewN H2.out n0) hq
          have HWW : Hid (∀ j, ∃ n, wq.drewN j = w.drewN n) := fun j => ⟨n0 + j, by rw [hw0]; simp⟩
          have HHIT := hide (HS.out.hit hlt)
          have HMISS := hide (fun e => HS.out.miss hlt e HEQ.out)
          have hxq := hide HS.out.ex
          clear hw0 HW HS
          generalize nth l x = xv at x0 x1 HHIT HMISS
          generalize nth all q = yv at y0 y1 HHIT HMISS
          obtain ⟨xi, xd⟩ := xv
          obtain ⟨yi, yd⟩ := yv
          simp only at x0 x1 y0 y1
          by_cases e1 : yi = xi
          · subst e1
            by_cases e2 : yd = xd
            · subst e2
              have HH := hide (HHIT.out rfl)
              clear HHIT HMISS
              have hqx : x = q := (hxq.out rfl).symm
              subst hqx
              go_wp2
              go_quiet (fail)
              go_wp2
              exact ⟨⟨x + 1, x + 1, by go_num, by go_num, HH, HWW.out _⟩, by simp [intOf]; omega⟩
            · have HM := hide (HMISS.out (fun e => e2 (congrArg Prod.snd e)))
              clear HHIT HMISS hxq
              go_wp2
              go_quiet (fail)
              go_wp2
              exact ⟨⟨q + 1, by go_num, HM, HWW.out _⟩, by simp [intOf]; omega⟩
          · have HM := hide (HMISS.out (fun e => e1 (congrArg Prod.fst e)))
            clear HHIT HMISS hxq
            go_wp2
            go_quiet (fail)
            go_wp2
            exact ⟨⟨q + 1, by go_num, HM, HWW.out _⟩, by simp [intOf]; omega⟩
      · obtain ⟨n0, hw0⟩ := id HW.out
        have HB : Hid (Below w.heap.size w wr) := by rw [hw0]; exact below_drewN (Below.refl _ _) _
        clear hw0
        go_wp2
        go_ret
        exact ⟨rfl, HB.out⟩
  · have D3 := hide d3
    have hbn : ((l.length : Int) != k) = false := by rw [d3]; simp
    clear d3
    clear HEX
    go_enter Tryz.func79, Tryz.ntmps79
    go_wp2
    go_loopw [11, 12] (fun at' i wr => ∃ (x q : Nat), at' = .int .i64 q ∧ i = .int .i64 x ∧ Hid (RtS l all false x q) ∧ Hid (∃ n, wr = w.drewN n)) (fun _ i _ => k.toNat - (intOf i).toNat)
    case atStart => exact ⟨0, 0, rfl, rfl, ⟨Nat.zero_le _, HR.out.sub, fun _ => rfl⟩, 0, rfl⟩
    case round =>
      obtain ⟨x, q, rfl, rfl, HS, HW⟩ := hrel
      have HLA : Hid (all.length ≤ 1000) := ha
      have HEQ : Hid (RtX l all false) := fun h => absurd h (by decide)
      clear HR d1 d2 ha
      by_cases hltN : (x : Int) < k
      · have hlt : x < l.length := by have := D3.out; omega
        obtain ⟨g1, rfl⟩ := HA1.out (by omega)
        have hq0 := HS.out.lt hlt
        obtain ⟨g2, rfl⟩ := HA2.out (by omega)
        go_wp2
        go_loopw [11] (fun at' wq => ∃ q : Nat, at' = .int .i64 q ∧ Hid (RtS l all false x q) ∧ Hid (∃ n, wq = w.drewN n)) (fun at' _ => all.length - (intOf at').toNat)
        case atStart => exact ⟨q, rfl, HS, HW⟩
        case round =>
          clear HS HW hq0
          rename World => wq
          obtain ⟨q, rfl, HS, HW⟩ := hrel
          obtain ⟨n0, hw0⟩ := id HW.out
          have hq := HS.out.lt hlt
          have hq1 := HLA.out
          have x0 : wq.cell? ⟨g1, x * 2, none⟩ = some (.int .i64 (nth l x).1) := by rw [hw0]; exact HRow.at0 (ownsRow_drewN H1.out n0) hlt
          have x1 : wq.cell? ⟨g1, x * 2 + 1, none⟩ = some (.int .i64 (nth l x).2) := by rw [hw0]; exact HRow.at1 (ownsRow_drewN H1.out n0) hlt
          have y0 : wq.cell? ⟨g2, q * 2, none⟩ = some (.int .i64 (nth all q).1) := by rw [hw0]; exact HRow.at0 (ownsRow_drewN H2.out n0) hq
          have y1 : wq.cell? ⟨g2, q * 2 + 1, none⟩ = some (.int .i64 (nth all q).2) := by rw [hw0]; exact HRow.at1 (ownsRow_drewN H2.out n0) hq
          have HWW : Hid (∀ j, ∃ n, wq.drewN j = w.drewN n) := fun j => ⟨n0 + j, by rw [hw0]; simp⟩
          have HHIT := hide (HS.out.hit hlt)
          have HMISS := hide (fun e => HS.out.miss hlt e HEQ.out)
          have hxq := hide HS.out.ex
          clear hw0 HW HS
          generalize nth l x = xv at x0 x1 HHIT HMISS
          generalize nth all q = yv at y0 y1 HHIT HMISS
          obtain ⟨xi, xd⟩ := xv
          obtain ⟨yi, yd⟩ := yv
          simp only at x0 x1 y0 y1
          by_cases e1 : yi = xi
          · subst e1
            by_cases e2 : yd = xd
            · subst e2
              have HH := hide (HHIT.out rfl)
              clear HHIT HMISS
              clear hxq
              go_wp2
              go_quiet (fail)
              go_wp2
              exact ⟨⟨x + 1, q + 1, by go_num, by go_num, HH, HWW.out _⟩, by simp [intOf]; omega⟩
            · have HM := hide (HMISS.out (fun e => e2 (congrArg Prod.snd e)))
              clear HHIT HMISS hxq
              go_wp2
              go_quiet (fail)
              go_wp2
              exact ⟨⟨q + 1, by go_num, HM, HWW.out _⟩, by simp [intOf]; omega⟩
          · have HM := hide (HMISS.out (fun e => e1 (congrArg Prod.fst e)))
            clear HHIT HMISS hxq
            go_wp2
            go_quiet (fail)
            go_wp2
            exact ⟨⟨q + 1, by go_num, HM, HWW.out _⟩, by simp [intOf]; omega⟩
      · obtain ⟨n0, hw0⟩ := id HW.out
        have HB : Hid (Below w.heap.size w wr) := by rw [hw0]; exact below_drewN (Below.refl _ _) _
        clear hw0
        go_wp2
        go_ret
        exact ⟨rfl, HB.out⟩
end Go.Proofs.YtpkiefjanmfgfaaGreatDoor
namespace Go.Proofs.YtpkiefjanmfgfaaGreatDoor
open Go.RowKit

def pickI (c n : Int) : Int := (if c < 0 then -(c + 1) else c) % n
theorem pickI_in {c n : Int} (hn : 0 < n) : 0 ≤ pickI c n ∧ pickI c n < n := ⟨Int.emod_nonneg _ (by omega), Int.emod_lt_of_pos _ hn⟩
def coordI (c : Int) : Int := pickI c 41 - 20
theorem coordI_crd (c : Int) : Crd (coordI c) := by
  have := pickI_in (c := c) (n := 41) (by omega)
  unfold Crd coordI
  omega
theorem i64_bounds {n : Int} (h : I64 n) : -9223372036854775808 ≤ n ∧ n ≤ 9223372036854775807 := by
  have h1 : IntKind.i64.min = -9223372036854775808 := by decide
  have h2 : IntKind.i64.max = 9223372036854775807 := by decide
  unfold I64 at h
  simp [Lit.wf, h1, h2] at h
  omega

set_option maxHeartbeats 400000 in
theorem pick17 (c n : Int) (hc : I64 c) (hn : 0 < n) (w : World) : Calls Tryz.prog 17 #[.int .i64 c, .int .i64 n] w fun ev w' => ev = .returned (.int .i64 (pickI c n)) ∧ w = w' := by
  have hb := i64_bounds hc
  have hn0 : ¬ n = 0 := by omega
  by_cases h0 : c < 0
  · have hd : decide (c < 0) = true := decide_eq_true h0
    have w1 : IntKind.i64.wrap (c + 1) = c + 1 := by rw [IntKind.wrap_i64]; omega
    have w2 : IntKind.i64.wrap (-(c + 1)) = -(c + 1) := by rw [IntKind.wrap_i64]; omega
    have t1 : (-(c + 1)).tmod n = -(c + 1) % n := Int.tmod_eq_emod_of_nonneg (by omega)
    have HP : Hid (pickI c n = -(c + 1) % n) := by unfold pickI; rw [if_pos h0]; exact rfl
    go_enter Tryz.func17, Tryz.ntmps17
    go_wp2
    go_ret
    exact ⟨by rw [HP.out]; rfl, rfl⟩
  · have hd : decide (c < 0) = false := decide_eq_false h0
    have t1 : c.tmod n = c % n := Int.tmod_eq_emod_of_nonneg (by omega)
    have HP : Hid (pickI c n = c % n) := by unfold pickI; rw [if_neg h0]; exact rfl
    go_enter Tryz.func17, Tryz.ntmps17
    go_wp2
    go_ret
    exact ⟨by rw [HP.out]; rfl, rfl⟩

set_option maxHeartbeats 400000 in
theorem coord20 (c : Int) (hc : I64 c) (w : World) : Calls Tryz.prog 20 #[.int .i64 c] w fun ev w' => ev = .returned (.int .i64 (coordI c)) ∧ w = w' := by
  have hp := pick17 c 41 hc (by omega) w
  have hr := pickI_in (c := c) (n := 41) (by omega)
  have HE : Hid (coordI c = pickI c 41 - 20) := rfl
  generalize pickI c 41 = p at hp hr HE
  have w1 : IntKind.i64.wrap (p - 20) = p - 20 := by rw [IntKind.wrap_i64]; omega
  go_enter Tryz.func20, Tryz.ntmps20
  go_wp2_with (go_at_call 17; refine hp.mono ?_; rintro e2 w2 ⟨rfl, rfl⟩)
  go_ret
  exact ⟨by rw [HE.out]; rfl, rfl⟩

set_option maxHeartbeats 1000000 in
set_option maxRecDepth 20000 in
theorem has27 (v : Value) (l : List Hit) (id : Int) (w : World) (h : HRow w v l) (hl : l.length ≤ 1000) : Calls Tryz.prog 27 #[v, .int .i64 id] w fun ev w' => ev = .returned (.bool (l.any fun x => x.1 == id)) ∧ w = w' := by
  obtain ⟨a, c, rfl, ha⟩ := HRow.slice h
  have H := hide h
  have HA := hide ha
  obtain ⟨r, hr⟩ : ∃ r, r = l.any fun x => x.1 == id := ⟨_, rfl⟩
  have HR := hide hr
  rw [← hr]
  clear h ha hr
  go_enter Tryz.func27, Tryz.ntmps27
  go_wp2
  go_loop [5] (fun i => ∃ k : Nat, i = .int .i64 k ∧ k ≤ l.length ∧ Hid (r = (l.drop k).any fun x => x.1 == id)) (fun i => l.length - (intOf i).toNat)
  case atStart => exact ⟨0, rfl, Nat.zero_le _, HR⟩
  case round =>
    obtain ⟨k, rfl, hk, HK⟩ := hrel
    by_cases hlt : k < l.length
    · obtain ⟨g, rfl⟩ := HA.out (by omega)
      have x0 := HRow.at0 H.out hlt
      have HS : Hid ((l.drop k).any (fun x => x.1 == id) = ((nth l k).1 == id || (l.drop (k + 1)).any fun x => x.1 == id)) := by
        show _ = _
        rw [nth_drop_cons hlt, List.any_cons]
      generalize nth l k = y at x0 HS
      obtain ⟨yi, yd⟩ := y
      simp only at x0
      by_cases e : yi = id
      · subst e
        go_wp2
        go_ret
        exact ⟨by rw [HK.out, HS.out]; simp, rfl⟩
      · have he : (yi == id) = false := by simpa using e
        go_wp2
        refine ⟨⟨k + 1, by go_num, by omega, ?_⟩, by simp [intOf]; omega⟩
        show _ = _
        rw [HK.out, HS.out, he]; rfl
    · obtain rfl : k = l.length := by omega
      go_wp2
      go_ret
      exact ⟨by rw [HK.out]; simp, rfl⟩
end Go.Proofs.YtpkiefjanmfgfaaGreatDoor
