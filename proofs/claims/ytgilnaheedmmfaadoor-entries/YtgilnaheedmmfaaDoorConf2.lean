import Derived.Test.YtgilnaheedmmfaaDoorConf
namespace Go.Proofs.YtgilnaheedmmfaaDoor
open Go.RowKit

def cfgCode (d c l m b t : Int) : Int := if cfgB d c l m b t = true then 0 else 1

set_option maxHeartbeats 4000000 in
theorem config24_0 (d c l m b t : Int) (w : World) (h1 : inB d 1 8 = false) :
    Calls Tryd.prog 24 #[.agg #[.int .i64 d, .int .i64 c, .int .i64 l, .int .i64 m, .int .i64 b, .int .i64 t]] w fun e w' => (∃ v, e = .returned v ∧ IsErr 1 v) ∧ Below w.heap.size w w' := by
  go_enter Tryd.func24, Tryd.ntmps24
  go_wp2
  refine wp_loop_rounds 1 ?_
  rw [rounds_succ]
  go_wp2_with (go_at_call 53; refine (within_any _ _ _ _).mono ?_; rintro e w' ⟨rfl, rfl⟩)
  go_ret
  exact ⟨⟨_, rfl, .inr ⟨by decide, .inl ⟨_, _, rfl⟩⟩⟩, by repeat (first | exact Below.refl _ _ | refine Below.alloc ?_ (by simp <;> omega) _)⟩

set_option maxHeartbeats 4000000 in
theorem config24_1 (d c l m b t : Int) (w : World) (h1 : inB d 1 8 = true) (h2 : inB c 1 60 = false) :
    Calls Tryd.prog 24 #[.agg #[.int .i64 d, .int .i64 c, .int .i64 l, .int .i64 m, .int .i64 b, .int .i64 t]] w fun e w' => (∃ v, e = .returned v ∧ IsErr 1 v) ∧ Below w.heap.size w w' := by
  go_enter Tryd.func24, Tryd.ntmps24
  go_wp2
  refine wp_loop_rounds 2 ?_
  rw [rounds_succ]
  go_wp2_with (go_at_call 53; refine (within_any _ _ _ _).mono ?_; rintro e w' ⟨rfl, rfl⟩)
  rw [rounds_succ]
  go_wp2_with (go_at_call 53; refine (within_any _ _ _ _).mono ?_; rintro e w' ⟨rfl, rfl⟩)
  go_ret
  exact ⟨⟨_, rfl, .inr ⟨by decide, .inl ⟨_, _, rfl⟩⟩⟩, by repeat (first | exact Below.refl _ _ | refine Below.alloc ?_ (by simp <;> omega) _)⟩

set_option maxHeartbeats 4000000 in
theorem config24_2 (d c l m b t : Int) (w : World) (h1 : inB d 1 8 = true) (h2 : inB c 1 60 = true) (h3 : inB l 2 8 = false) :
    Calls Tryd.prog 24 #[.agg #[.int .i64 d, .int .i64 c, .int .i64 l, .int .i64 m, .int .i64 b, .int .i64 t]] w fun e w' => (∃ v, e = .returned v ∧ IsErr 1 v) ∧ Below w.heap.size w w' := by
  go_enter Tryd.func24, Tryd.ntmps24
  go_wp2
  refine wp_loop_rounds 3 ?_
  rw [rounds_succ]
  go_wp2_with (go_at_call 53; refine (within_any _ _ _ _).mono ?_; rintro e w' ⟨rfl, rfl⟩)
  rw [rounds_succ]
  go_wp2_with (go_at_call 53; refine (within_any _ _ _ _).mono ?_; rintro e w' ⟨rfl, rfl⟩)
  rw [rounds_succ]
  go_wp2_with (go_at_call 53; refine (within_any _ _ _ _).mono ?_; rintro e w' ⟨rfl, rfl⟩)
  go_ret
  exact ⟨⟨_, rfl, .inr ⟨by decide, .inl ⟨_, _, rfl⟩⟩⟩, by repeat (first | exact Below.refl _ _ | refine Below.alloc ?_ (by simp <;> omega) _)⟩

set_option maxHeartbeats 4000000 in
theorem config24_3 (d c l m b t : Int) (w : World) (h1 : inB d 1 8 = true) (h2 : inB c 1 60 = true) (h3 : inB l 2 8 = true) (h4 : inB m 0 2 = false) :
    Calls Tryd.prog 24 #[.agg #[.int .i64 d, .int .i64 c, .int .i64 l, .int .i64 m, .int .i64 b, .int .i64 t]] w fun e w' => (∃ v, e = .returned v ∧ IsErr 1 v) ∧ Below w.heap.size w w' := by
  go_enter Tryd.func24, Tryd.ntmps24
  go_wp2
  refine wp_loop_rounds 4 ?_
  rw [rounds_succ]
  go_wp2_with (go_at_call 53; refine (within_any _ _ _ _).mono ?_; rintro e w' ⟨rfl, rfl⟩)
  rw [rounds_succ]
  go_wp2_with (go_at_call 53; refine (within_any _ _ _ _).mono ?_; rintro e w' ⟨rfl, rfl⟩)
  rw [rounds_succ]
  go_wp2_with (go_at_call 53; refine (within_any _ _ _ _).mono ?_; rintro e w' ⟨rfl, rfl⟩)
  rw [rounds_succ]
  go_wp2_with (go_at_call 53; refine (within_any _ _ _ _).mono ?_; rintro e w' ⟨rfl, rfl⟩)
  go_ret
  exact ⟨⟨_, rfl, .inr ⟨by decide, .inl ⟨_, _, rfl⟩⟩⟩, by repeat (first | exact Below.refl _ _ | refine Below.alloc ?_ (by simp <;> omega) _)⟩

set_option maxHeartbeats 4000000 in
theorem config24_4 (d c l m b t : Int) (w : World) (h1 : inB d 1 8 = true) (h2 : inB c 1 60 = true) (h3 : inB l 2 8 = true) (h4 : inB m 0 2 = true) (h5 : inB b 1 100 = false) :
    Calls Tryd.prog 24 #[.agg #[.int .i64 d, .int .i64 c, .int .i64 l, .int .i64 m, .int .i64 b, .int .i64 t]] w fun e w' => (∃ v, e = .returned v ∧ IsErr 1 v) ∧ Below w.heap.size w w' := by
  go_enter Tryd.func24, Tryd.ntmps24
  go_wp2
  refine wp_loop_rounds 5 ?_
  rw [rounds_succ]
  go_wp2_with (go_at_call 53; refine (within_any _ _ _ _).mono ?_; rintro e w' ⟨rfl, rfl⟩)
  rw [rounds_succ]
  go_wp2_with (go_at_call 53; refine (within_any _ _ _ _).mono ?_; rintro e w' ⟨rfl, rfl⟩)
  rw [rounds_succ]
  go_wp2_with (go_at_call 53; refine (within_any _ _ _ _).mono ?_; rintro e w' ⟨rfl, rfl⟩)
  rw [rounds_succ]
  go_wp2_with (go_at_call 53; refine (within_any _ _ _ _).mono ?_; rintro e w' ⟨rfl, rfl⟩)
  rw [rounds_succ]
  go_wp2_with (go_at_call 53; refine (within_any _ _ _ _).mono ?_; rintro e w' ⟨rfl, rfl⟩)
  go_ret
  exact ⟨⟨_, rfl, .inr ⟨by decide, .inl ⟨_, _, rfl⟩⟩⟩, by repeat (first | exact Below.refl _ _ | refine Below.alloc ?_ (by simp <;> omega) _)⟩

set_option maxHeartbeats 4000000 in
theorem config24_5 (d c l m b t : Int) (w : World) (h1 : inB d 1 8 = true) (h2 : inB c 1 60 = true) (h3 : inB l 2 8 = true) (h4 : inB m 0 2 = true) (h5 : inB b 1 100 = true) (h6 : inB t 0 5 = false) :
    Calls Tryd.prog 24 #[.agg #[.int .i64 d, .int .i64 c, .int .i64 l, .int .i64 m, .int .i64 b, .int .i64 t]] w fun e w' => (∃ v, e = .returned v ∧ IsErr 1 v) ∧ Below w.heap.size w w' := by
  go_enter Tryd.func24, Tryd.ntmps24
  go_wp2
  refine wp_loop_rounds 6 ?_
  rw [rounds_succ]
  go_wp2_with (go_at_call 53; refine (within_any _ _ _ _).mono ?_; rintro e w' ⟨rfl, rfl⟩)
  rw [rounds_succ]
  go_wp2_with (go_at_call 53; refine (within_any _ _ _ _).mono ?_; rintro e w' ⟨rfl, rfl⟩)
  rw [rounds_succ]
  go_wp2_with (go_at_call 53; refine (within_any _ _ _ _).mono ?_; rintro e w' ⟨rfl, rfl⟩)
  rw [rounds_succ]
  go_wp2_with (go_at_call 53; refine (within_any _ _ _ _).mono ?_; rintro e w' ⟨rfl, rfl⟩)
  rw [rounds_succ]
  go_wp2_with (go_at_call 53; refine (within_any _ _ _ _).mono ?_; rintro e w' ⟨rfl, rfl⟩)
  rw [rounds_succ]
  go_wp2_with (go_at_call 53; refine (within_any _ _ _ _).mono ?_; rintro e w' ⟨rfl, rfl⟩)
  go_ret
  exact ⟨⟨_, rfl, .inr ⟨by decide, .inl ⟨_, _, rfl⟩⟩⟩, by repeat (first | exact Below.refl _ _ | refine Below.alloc ?_ (by simp <;> omega) _)⟩

set_option maxHeartbeats 4000000 in
theorem config24_6 (d c l m b t : Int) (w : World) (h1 : inB d 1 8 = true) (h2 : inB c 1 60 = true) (h3 : inB l 2 8 = true) (h4 : inB m 0 2 = true) (h5 : inB b 1 100 = true) (h6 : inB t 0 5 = true) :
    Calls Tryd.prog 24 #[.agg #[.int .i64 d, .int .i64 c, .int .i64 l, .int .i64 m, .int .i64 b, .int .i64 t]] w fun e w' => (∃ v, e = .returned v ∧ IsErr 0 v) ∧ Below w.heap.size w w' := by
  go_enter Tryd.func24, Tryd.ntmps24
  go_wp2
  refine wp_loop_rounds 7 ?_
  rw [rounds_succ]
  go_wp2_with (go_at_call 53; refine (within_any _ _ _ _).mono ?_; rintro e w' ⟨rfl, rfl⟩)
  rw [rounds_succ]
  go_wp2_with (go_at_call 53; refine (within_any _ _ _ _).mono ?_; rintro e w' ⟨rfl, rfl⟩)
  rw [rounds_succ]
  go_wp2_with (go_at_call 53; refine (within_any _ _ _ _).mono ?_; rintro e w' ⟨rfl, rfl⟩)
  rw [rounds_succ]
  go_wp2_with (go_at_call 53; refine (within_any _ _ _ _).mono ?_; rintro e w' ⟨rfl, rfl⟩)
  rw [rounds_succ]
  go_wp2_with (go_at_call 53; refine (within_any _ _ _ _).mono ?_; rintro e w' ⟨rfl, rfl⟩)
  rw [rounds_succ]
  go_wp2_with (go_at_call 53; refine (within_any _ _ _ _).mono ?_; rintro e w' ⟨rfl, rfl⟩)
  rw [rounds_succ]
  go_wp2_with (go_at_call 53; refine (within_any _ _ _ _).mono ?_; rintro e w' ⟨rfl, rfl⟩)
  go_ret
  exact ⟨⟨_, rfl, .inl ⟨rfl, rfl⟩⟩, by repeat (first | exact Below.refl _ _ | refine Below.alloc ?_ (by simp <;> omega) _)⟩

/-- check.Config. -/
theorem config24_any (d c l m b t : Int) (w : World) :
    Calls Tryd.prog 24 #[.agg #[.int .i64 d, .int .i64 c, .int .i64 l, .int .i64 m, .int .i64 b, .int .i64 t]] w fun e w' => (∃ v, e = .returned v ∧ IsErr (cfgCode d c l m b t) v) ∧ Below w.heap.size w w' := by
  cases h1 : inB d 1 8
  · have e0 : cfgCode d c l m b t = 1 := by simp [cfgCode, cfgB, h1]
    rw [e0]; exact config24_0 d c l m b t w h1
  cases h2 : inB c 1 60
  · have e0 : cfgCode d c l m b t = 1 := by simp [cfgCode, cfgB, h2]
    rw [e0]; exact config24_1 d c l m b t w h1 h2
  cases h3 : inB l 2 8
  · have e0 : cfgCode d c l m b t = 1 := by simp [cfgCode, cfgB, h3]
    rw [e0]; exact config24_2 d c l m b t w h1 h2 h3
  cases h4 : inB m 0 2
  · have e0 : cfgCode d c l m b t = 1 := by simp [cfgCode, cfgB, h4]
    rw [e0]; exact config24_3 d c l m b t w h1 h2 h3 h4
  cases h5 : inB b 1 100
  · have e0 : cfgCode d c l m b t = 1 := by simp [cfgCode, cfgB, h5]
    rw [e0]; exact config24_4 d c l m b t w h1 h2 h3 h4 h5
  cases h6 : inB t 0 5
  · have e0 : cfgCode d c l m b t = 1 := by simp [cfgCode, cfgB, h6]
    rw [e0]; exact config24_5 d c l m b t w h1 h2 h3 h4 h5 h6
  have e0 : cfgCode d c l m b t = 0 := by simp [cfgCode, cfgB, h1, h2, h3, h4, h5, h6]
  rw [e0]; exact config24_6 d c l m b t w h1 h2 h3 h4 h5 h6
end Go.Proofs.YtgilnaheedmmfaaDoor
