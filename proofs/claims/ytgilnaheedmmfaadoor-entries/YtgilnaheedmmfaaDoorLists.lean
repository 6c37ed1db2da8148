import Derived.Test.YtgilnaheedmmfaaDoorRowLaws
namespace Go.Proofs.YtgilnaheedmmfaaDoor
open Go.RowKit

theorem size3 : (Tryd.prog.info? 3).map (·.size) = some 1 := by kernel_rfl

theorem ownsRow_whole {w : World} {g N : Nat} {l : List Value} (h : w.heap[g]? = some (.cells l.toArray 3 (0, 0))) (hl : l.length = N) (hN : N ≤ maxLen) : w.ownsRow 0 3 1 (.slice (some ⟨g, 0, none⟩) N N) N l :=
  by subst hl; exact ⟨by simp, .inr ⟨g, _, _, rfl, Nat.zero_le _, h, Nat.le_refl _, hN, by simp, by simp⟩⟩

theorem splice_ends (M : List Value) (xs : List Int) (hM : M.length = xs.length + 2) (a b : Value) :
    ((splice M 0 (vals xs)).set xs.length a).set (xs.length + 1) b = vals xs ++ [a, b] := by
  have hv : (vals xs).length = xs.length := vals_length xs
  obtain ⟨p, q, hd⟩ : ∃ p q, M.drop xs.length = [p, q] := by
    have : (M.drop xs.length).length = 2 := by simp; omega
    match h : M.drop xs.length, this with
    | [p, q], _ => exact ⟨p, q, rfl⟩
  unfold splice
  simp only [List.take_zero, List.nil_append, Nat.zero_add, hv, hd]
  rw [List.set_append_right _ _ (by omega), hv]
  simp only [Nat.sub_self, List.set_cons_zero]
  rw [List.set_append_right _ _ (by omega), hv]
  simp

set_option maxHeartbeats 1000000 in
set_option maxRecDepth 4000 in
/-- nearbylaw.copied. -/
theorem copied33_any (xs : List Int) (v : Value) (w : World) (hv : IntsAt w v xs) (hm : (xs.length + 2) * 8 ≤ 140737488355328) :
    Calls Tryd.prog 33 #[v] w fun ev w' => ev = .returned (.slice (some ⟨w.heap.size, 0, none⟩) (xs.length + 2) (xs.length + 2)) ∧ Pts w' w.heap.size (xs.length + 2) (xs ++ [77, 78]) ∧ Below w.heap.size w w' := by
  obtain ⟨a, cap, rfl, hcap, hlen, hx⟩ := hv
  obtain ⟨i0, hi, hz0, hz1, hz2⟩ := info_parts info3
  have hmk := run_make (P := Tryd.prog) w 32 3 i0 (.int .i64 0) Tryd.underlying32 hi hz0 .i64 .i64 ((xs.length : Int) + 2) ((xs.length : Int) + 2) (by omega) (Int.le_refl _) (by rw [hz2]; omega) (by omega)
  have e1 : ((xs.length : Int) + 2).toNat = xs.length + 2 := by omega
  rw [e1, hz1] at hmk
  simp only [Nat.mul_one] at hmk
  obtain ⟨M, hM⟩ : ∃ M : Array Value, M = madeCells (Value.cells (.int .i64 0)) (xs.length + 2) := ⟨_, rfl⟩
  have hMs : M.toList.length = xs.length + 2 := by rw [hM]; simp [size_madeCells]
  rw [← hM] at hmk
  have HM := hide hM
  have HX := hide hx
  have HMs := hide hMs
  clear hM hx hMs e1
  have hal : (w.alloc (.cells M 3)).heap[w.heap.size]? = some (.cells M.toList.toArray 3 (0, 0)) := by simpa using heap_alloc_new w (.cells M 3)
  have hbl : Below w.heap.size w (w.alloc (.cells M 3)) := (Below.refl _ _).alloc (Nat.le_refl _) _
  have HAL := hide hal
  have HBL := hide hbl
  have hlen2 : xs.length + 2 ≤ 17592186044416 := by omega
  clear hal hbl hm hlen
  go_enter Tryd.func33, Tryd.ntmps33
  go_wp2_with (refine wpList_copy_splice rfl _ _ 32 32 rfl 3 Tryd.underlying32 size3 (some ⟨w.heap.size, 0, none⟩) a (xs.length + 2) (xs.length + 2) xs.length cap rfl rfl w.heap.size 0 M.toList 3 HAL.out (vals xs) ?c1 ?c2 ?c3 (vals_one xs) w.heap.size w HBL.out (Nat.le_refl _) ?_)
  case c1 => rw [vals_length]; exact (Nat.min_eq_left (by omega)).symm
  case c2 =>
    intro hpos
    rw [vals_length] at hpos
    rcases HX.out with rfl | ⟨b, off, rfl, hc⟩
    · simp at hpos
    · refine ⟨_, rfl, fun j u hj => ?_⟩
      obtain ⟨hlt, rfl⟩ := vals_get hj
      rw [addr_add, World.cell?_alloc_lt _ _ _ (by exact block_lt_of_cell (hc j hlt))]
      exact hc j hlt
  case c3 => rw [vals_length]; simp [HMs.out]
  intro w2 HG2 hB2
  have hln : (splice M.toList 0 (vals xs)).length = xs.length + 2 := by
    rw [length_splice _ _ _ (by rw [vals_length]; simp [HMs.out])]; exact HMs.out
  obtain ⟨u1, hu1⟩ : ∃ u1, w2.cell? ⟨w.heap.size, xs.length, none⟩ = some u1 := by
    rw [cell_of_row w2 _ _ _ _ _ HG2.out]
    exact ⟨_, Array.getElem?_eq_getElem (by simp; omega)⟩
  obtain ⟨u2, hu2⟩ : ∃ u2, w2.cell? ⟨w.heap.size, xs.length + 1, none⟩ = some u2 := by
    rw [cell_of_row w2 _ _ _ _ _ HG2.out]
    exact ⟨_, Array.getElem?_eq_getElem (by simp; omega)⟩
  have hfz : ∀ o, w2.frozen? ⟨w.heap.size, o, none⟩ = false := fun o => by simp [World.frozen?, HG2.out]
  have HL := hide hln
  have HB := hide hB2
  clear hln hB2 hmk
  go_wp2
  go_ret
  refine ⟨rfl, ?_, ?_⟩
  · have hr := ownsRow_set (ownsRow_set (ownsRow_whole HG2.out HL.out (by unfold maxLen; omega)) xs.length (.int .i64 77)) (xs.length + 1) (.int .i64 78)
    rw [splice_ends M.toList xs HMs.out] at hr
    have e2 : (xs ++ [77, 78]).map (Value.int .i64) = vals xs ++ [.int .i64 77, .int .i64 78] := by simp [vals]
    have e3 : (xs ++ [77, 78]).length = xs.length + 2 := by simp
    unfold Pts
    rw [e2, e3]
    exact hr
  · repeat (first | exact HB.out | refine Below.setCell ?_ (by first | omega | (simp; done) | (simp; omega)) _)

set_option maxHeartbeats 2000000 in
/-- nearbylaw.whole: as it was, what is behind it too. -/
theorem whole34_any (xs : List Int) (v : Value) (g cap : Nat) (w : World) (hp : Pts w g cap (xs ++ [77, 78])) (hv : IntsAt w v xs) (hg : ∀ b off n c, v = .slice (some ⟨b, off, none⟩) n c → 0 < xs.length → b ≠ g) :
    Calls Tryd.prog 34 #[.slice (some ⟨g, 0, none⟩) (xs.length + 2) cap, v] w fun ev w' => ev = .returned (.bool true) ∧ (∃ ys, ys.length = xs.length + 2 ∧ Pts w' g cap ys) ∧ Kept (fun k => k = g) w w' := by
  obtain ⟨a, pc, rfl, hpc, hlen, hx⟩ := hv
  have hcl := ownsRow_len hp
  have c77 : w.cell? ⟨g, xs.length, none⟩ = some (.int .i64 77) := by
    have := hp.at (i := xs.length) (by simp)
    simpa using this
  have c78 : w.cell? ⟨g, xs.length + 1, none⟩ = some (.int .i64 78) := by
    have := hp.at (i := xs.length + 1) (by simp)
    simpa using this
  simp at hcl
  have HP := hide hp
  have HX := hide hx
  have HG := hide hg
  clear hp hx hg
  go_enter Tryd.func34, Tryd.ntmps34
  go_wp2
  go_loopw [6, 7] (fun ok i wr => ∃ (k : Nat) (ys : List Int), k ≤ xs.length ∧ i = .int .i64 k ∧ ok = .bool true ∧ ys.length = xs.length + 2 ∧ Pts wr g cap ys ∧ (∀ j, k ≤ j → j < xs.length → ys.getD j 0 = xs.getD j 0) ∧ Kept (fun k => k = g) w wr) (fun _ i _ => xs.length - (intOf i).toNat)
  case atStart =>
    refine ⟨0, xs ++ [77, 78], Nat.zero_le _, rfl, rfl, by simp, HP.out, fun j _ hj => ?_, Kept.refl _ _⟩
    simp [List.getD_eq_getElem?_getD, List.getElem?_append_left hj]
  case round =>
    obtain ⟨k, ys, hk, rfl, rfl, hyl, hpy, heq, hkp⟩ := hrel
    by_cases hlt : k < xs.length
    · rcases HX.out with rfl | ⟨b, off, rfl, hc⟩
      · simp at hlt
      have hck := hc k hlt
      have hbg := HG.out b off _ _ rfl (by omega)
      have hcx : wr.cell? ⟨b, off + k, none⟩ = some (.int .i64 (xs.getD k 0)) := hkp.cell hck hbg
      have hcy : wr.cell? ⟨g, k, none⟩ = some (.int .i64 (ys.getD k 0)) := hpy.at (by omega)
      have hfz : wr.frozen? ⟨g, k, none⟩ = false := ownsRow_frozen hpy k
      rw [heq k (Nat.le_refl _) hlt] at hcy
      have HPY := hide hpy
      have HEQ := hide heq
      have HK := hide hkp
      have HYL := hide hyl
      clear hc hck hpy heq hkp hyl c77 c78
      generalize xs.getD k 0 = x at *
      go_wp2
      go_quiet (fail)
      go_wp2
      refine ⟨⟨k + 1, ys.set k 1099511627776, by omega, by go_num, rfl, by rw [List.length_set]; exact HYL.out, Pts.set (ownsRow_drewN HPY.out _) k _, fun j hj hj2 => ?_, (HK.out.drewN _).setCell (fun _ => rfl) _⟩, by simp [intOf]; omega⟩
      rw [← HEQ.out j (by omega) hj2]
      simp only [List.getD_eq_getElem?_getD]
      rw [List.getElem?_set_ne (by omega)]
    · go_wp2
      go_ret
      exact ⟨rfl, ⟨ys, hyl, hpy⟩, hkp⟩
end Go.Proofs.YtgilnaheedmmfaaDoor
