import Derived.Test.YtgilnaheedmmfaaDoorBase
namespace Go.Proofs.YtgilnaheedmmfaaDoor
open Go.RowKit

theorem ptCode_dim (xs : List Int) (dim : Int) (h : ¬ (xs.length : Int) = dim) : ptCode dim xs = 2 := by simp [ptCode, h]
theorem ptCode_bad (xs : List Int) (dim : Int) (h : (xs.length : Int) = dim) (k : Nat) (hk : k < xs.length) (hb : coordB (xs.getD k 0) = false) : ptCode dim xs = 3 := by
  have : xs.all coordB = false := by
    rw [List.all_eq_false]
    refine ⟨xs.getD k 0, ?_, by rw [hb]; decide⟩
    simp [List.getD_eq_getElem?_getD, hk]
  simp [ptCode, h, this]
theorem ptCode_ok (xs : List Int) (dim : Int) (h : (xs.length : Int) = dim) (hb : (xs.take xs.length).all coordB = true) : ptCode dim xs = 0 := by
  rw [List.take_length] at hb
  simp [ptCode, h, hb]

set_option maxHeartbeats 1000000 in
theorem point27_long (xs : List Int) (b off cap : Nat) (w : World) (hm : xs.length ≤ 17592186044416)
    (hc : ∀ i, i < xs.length → w.cell? ⟨b, off + i, none⟩ = some (.int .i64 (xs.getD i 0))) (_hcap : xs.length ≤ cap) :
    Calls Tryd.prog 27 #[.slice (some ⟨b, off, none⟩) xs.length cap, .int .i64 xs.length] w fun e w' => (∃ v, e = .returned v ∧ IsErr (ptCode xs.length xs) v) ∧ Below w.heap.size w w' := by
  have hne : ((xs.length : Int) != (xs.length : Int)) = false := by simp
  go_enter Tryd.func27, Tryd.ntmps27
  go_wp2
  go_loop [19] (fun i => ∃ k : Nat, k ≤ xs.length ∧ i = .int .i64 k ∧ (xs.take k).all coordB = true) (fun i => xs.length - (intOf i).toNat)
  case atStart => exact ⟨0, Nat.zero_le _, rfl, by simp⟩
  case round =>
    obtain ⟨k, hk, rfl, hall⟩ := hrel
    have HA : Hid ((xs.take k).all coordB = true) := hall
    clear hall
    by_cases hlt : k < xs.length
    · have hck := hc k hlt
      have HS : Hid ((xs.take (k + 1)).all coordB = ((xs.take k).all coordB && coordB (xs.getD k 0))) := all_snoc xs k hlt
      have HB : Hid (coordB (xs.getD k 0) = false → ptCode xs.length xs = 3) := ptCode_bad xs _ rfl k hlt
      clear hc
      generalize xs.getD k 0 = x at *
      cases hb : inB x (-1048576) 1048576
      · go_wp2_with (go_at_call 53; refine (within_any _ _ _ _).mono ?_; rintro e w' ⟨rfl, rfl⟩)
        go_ret
        exact ⟨⟨_, rfl, by rw [HB.out hb]; exact .inr ⟨by decide, .inr ⟨_, _, _, _, rfl⟩⟩⟩, (Below.refl _ _).alloc (Nat.le_refl _) _⟩
      · go_wp2_with (go_at_call 53; refine (within_any _ _ _ _).mono ?_; rintro e w' ⟨rfl, rfl⟩)
        go_round
        case rel => exact ⟨k + 1, by omega, by go_num, by rw [HS.out, HA.out]; simp [coordB, hb]⟩
        case measure => simp [intOf]; omega
    · have he : k = xs.length := by omega
      have HB : Hid (ptCode xs.length xs = 0) := ptCode_ok xs _ rfl (by rw [← he]; exact HA.out)
      clear he hc
      go_wp2
      go_ret
      exact ⟨⟨_, rfl, by rw [HB.out]; exact .inl ⟨rfl, rfl⟩⟩, Below.refl _ _⟩

set_option maxHeartbeats 1000000 in
theorem point27_nil (a : Option Addr) (cap : Nat) (w : World) :
    Calls Tryd.prog 27 #[.slice a 0 cap, .int .i64 0] w fun e w' => (∃ v, e = .returned v ∧ IsErr (ptCode 0 []) v) ∧ Below w.heap.size w w' := by
  go_enter Tryd.func27, Tryd.ntmps27
  go_wp2
  refine wp_loop_rounds 1 ?_
  rw [rounds_succ]
  go_wp2
  go_ret
  exact ⟨⟨_, rfl, .inl ⟨by decide, rfl⟩⟩, Below.refl _ _⟩

set_option maxHeartbeats 1000000 in
theorem point27_dim (xs : List Int) (a : Option Addr) (cap : Nat) (dim : Int) (w : World) (hd : ¬ (xs.length : Int) = dim) :
    Calls Tryd.prog 27 #[.slice a xs.length cap, .int .i64 dim] w fun e w' => (∃ v, e = .returned v ∧ IsErr (ptCode dim xs) v) ∧ Below w.heap.size w w' := by
  have HB : Hid (ptCode dim xs = 2) := ptCode_dim xs dim hd
  have hne : ((xs.length : Int) != dim) = true := by simpa using hd
  clear hd
  go_enter Tryd.func27, Tryd.ntmps27
  go_wp2
  go_ret
  exact ⟨⟨_, rfl, by rw [HB.out]; exact .inr ⟨by decide, .inl ⟨_, _, rfl⟩⟩⟩, Below.refl _ _⟩

/-- check.Point. -/
theorem point27_any (xs : List Int) (v : Value) (dim : Int) (w : World) (h : IntsAt w v xs) :
    Calls Tryd.prog 27 #[v, .int .i64 dim] w fun e w' => (∃ v, e = .returned v ∧ IsErr (ptCode dim xs) v) ∧ Below w.heap.size w w' := by
  obtain ⟨a, cap, rfl, hcap, hm, hx⟩ := h
  by_cases hd : (xs.length : Int) = dim
  · subst hd
    rcases hx with rfl | ⟨b, off, rfl, hc⟩
    · exact point27_nil a cap w
    · exact point27_long xs b off cap w hm hc hcap
  · exact point27_dim xs a cap dim w hd

/-! nearbyref's own: (*Base).point -/
set_option maxHeartbeats 1000000 in
theorem point59_long (xs : List Int) (b off cap rb : Nat) (w : World) (hm : xs.length ≤ 17592186044416) (hr : w.cell? ⟨rb, 0, none⟩ = some (.int .i64 xs.length))
    (hc : ∀ i, i < xs.length → w.cell? ⟨b, off + i, none⟩ = some (.int .i64 (xs.getD i 0))) (_hcap : xs.length ≤ cap) :
    Calls Tryd.prog 59 #[.pointer (some ⟨rb, 0, none⟩), .slice (some ⟨b, off, none⟩) xs.length cap] w fun e w' => e = .returned (.int .i64 (ptCode xs.length xs)) ∧ w = w' := by
  have hne : ((xs.length : Int) != (xs.length : Int)) = false := by simp
  go_enter Tryd.func59, Tryd.ntmps59
  go_wp2
  go_loop [5] (fun i => ∃ k : Nat, k ≤ xs.length ∧ i = .int .i64 k ∧ (xs.take k).all coordB = true) (fun i => xs.length - (intOf i).toNat)
  case atStart => exact ⟨0, Nat.zero_le _, rfl, by simp⟩
  case round =>
    obtain ⟨k, hk, rfl, hall⟩ := hrel
    have HA : Hid ((xs.take k).all coordB = true) := hall
    clear hall
    by_cases hlt : k < xs.length
    · have hck := hc k hlt
      have HS : Hid ((xs.take (k + 1)).all coordB = ((xs.take k).all coordB && coordB (xs.getD k 0))) := all_snoc xs k hlt
      have HB : Hid (coordB (xs.getD k 0) = false → ptCode xs.length xs = 3) := ptCode_bad xs _ rfl k hlt
      clear hc
      generalize xs.getD k 0 = x at *
      by_cases h1 : x < -1048576
      · go_wp2
        go_ret
        exact ⟨by rw [HB.out (by simp [coordB, inB]; omega)]; rfl, rfl⟩
      · have hd1 : decide (x < -1048576) = false := by simpa using h1
        by_cases h2 : 1048576 < x
        · go_wp2
          go_ret
          exact ⟨by rw [HB.out (by simp [coordB, inB]; omega)]; rfl, rfl⟩
        · go_wp2
          go_round
          case rel => exact ⟨k + 1, by omega, by go_num, by rw [HS.out, HA.out]; simp [coordB, inB]; omega⟩
          case measure => simp [intOf]; omega
    · have he : k = xs.length := by omega
      have HB : Hid (ptCode xs.length xs = 0) := ptCode_ok xs _ rfl (by rw [← he]; exact HA.out)
      clear he hc
      go_wp2
      go_ret
      exact ⟨by rw [HB.out]; rfl, rfl⟩

set_option maxHeartbeats 1000000 in
theorem point59_nil (a : Option Addr) (cap rb : Nat) (w : World) (hr : w.cell? ⟨rb, 0, none⟩ = some (.int .i64 0)) :
    Calls Tryd.prog 59 #[.pointer (some ⟨rb, 0, none⟩), .slice a 0 cap] w fun e w' => e = .returned (.int .i64 (ptCode 0 [])) ∧ w = w' := by
  go_enter Tryd.func59, Tryd.ntmps59
  go_wp2
  refine wp_loop_rounds 1 ?_
  rw [rounds_succ]
  go_wp2
  go_ret
  exact ⟨rfl, rfl⟩

set_option maxHeartbeats 1000000 in
theorem point59_dim (xs : List Int) (a : Option Addr) (cap rb : Nat) (dim : Int) (w : World) (hd : ¬ (xs.length : Int) = dim) (hr : w.cell? ⟨rb, 0, none⟩ = some (.int .i64 dim)) :
    Calls Tryd.prog 59 #[.pointer (some ⟨rb, 0, none⟩), .slice a xs.length cap] w fun e w' => e = .returned (.int .i64 (ptCode dim xs)) ∧ w = w' := by
  have HB : Hid (ptCode dim xs = 2) := ptCode_dim xs dim hd
  have hne : ((xs.length : Int) != dim) = true := by simpa using hd
  clear hd
  go_enter Tryd.func59, Tryd.ntmps59
  go_wp2
  go_ret
  exact ⟨by rw [HB.out]; rfl, rfl⟩

theorem point59_any (xs : List Int) (v : Value) (dim : Int) (rb : Nat) (w : World) (h : IntsAt w v xs) (hr : w.cell? ⟨rb, 0, none⟩ = some (.int .i64 dim)) :
    Calls Tryd.prog 59 #[.pointer (some ⟨rb, 0, none⟩), v] w fun e w' => e = .returned (.int .i64 (ptCode dim xs)) ∧ w = w' := by
  obtain ⟨a, cap, rfl, hcap, hm, hx⟩ := h
  by_cases hd : (xs.length : Int) = dim
  · subst hd
    rcases hx with rfl | ⟨b, off, rfl, hc⟩
    · exact point59_nil a cap rb w hr
    · exact point59_long xs b off cap rb w hm hr hc hcap
  · exact point59_dim xs a cap rb dim w hd hr
end Go.Proofs.YtgilnaheedmmfaaDoor
