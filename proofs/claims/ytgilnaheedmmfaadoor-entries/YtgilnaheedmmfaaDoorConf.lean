import Derived.Test.YtgilnaheedmmfaaDoorBase
namespace Go.Proofs.YtgilnaheedmmfaaDoor
open Go.RowKit

/-- The six numbers of a config. -/
structure Cfg where
  dim : Int
  cap : Int
  links : Int
  metric : Int
  beam : Int
  top : Int

def Cfg.val (c : Cfg) : Value := .agg #[.int .i64 c.dim, .int .i64 c.cap, .int .i64 c.links, .int .i64 c.metric, .int .i64 c.beam, .int .i64 c.top]

def cfgB (d c l m b t : Int) : Bool := inB d 1 8 && inB c 1 60 && inB l 2 8 && inB m 0 2 && inB b 1 100 && inB t 0 5

set_option maxHeartbeats 1000000 in
theorem config17_any (d c l m b t : Int) (w : World) :
    Calls Tryd.prog 17 #[.agg #[.int .i64 d, .int .i64 c, .int .i64 l, .int .i64 m, .int .i64 b, .int .i64 t]] w fun e w' => e = .returned (.bool (cfgB d c l m b t)) ∧ Below w.heap.size w w' := by
  cases h1 : inB d 1 8
  · have HB : Hid (cfgB d c l m b t = false) := by simp [Hid, cfgB, h1]
    go_enter Tryd.func17, Tryd.ntmps17
    go_wp2_with (go_at_call 32; refine (in_any _ _ _ _).mono ?_; rintro e w' ⟨rfl, rfl⟩)
    go_ret
    exact ⟨by rw [HB.out]; rfl, (Below.refl _ _).alloc (Nat.le_refl _) _⟩
  cases h2 : inB c 1 60
  · have HB : Hid (cfgB d c l m b t = false) := by simp [Hid, cfgB, h2]
    go_enter Tryd.func17, Tryd.ntmps17
    go_wp2_with (go_at_call 32; refine (in_any _ _ _ _).mono ?_; rintro e w' ⟨rfl, rfl⟩)
    go_ret
    exact ⟨by rw [HB.out]; rfl, (Below.refl _ _).alloc (Nat.le_refl _) _⟩
  cases h3 : inB l 2 8
  · have HB : Hid (cfgB d c l m b t = false) := by simp [Hid, cfgB, h3]
    go_enter Tryd.func17, Tryd.ntmps17
    go_wp2_with (go_at_call 32; refine (in_any _ _ _ _).mono ?_; rintro e w' ⟨rfl, rfl⟩)
    go_ret
    exact ⟨by rw [HB.out]; rfl, (Below.refl _ _).alloc (Nat.le_refl _) _⟩
  cases h4 : inB m 0 2
  · have HB : Hid (cfgB d c l m b t = false) := by simp [Hid, cfgB, h4]
    go_enter Tryd.func17, Tryd.ntmps17
    go_wp2_with (go_at_call 32; refine (in_any _ _ _ _).mono ?_; rintro e w' ⟨rfl, rfl⟩)
    go_ret
    exact ⟨by rw [HB.out]; rfl, (Below.refl _ _).alloc (Nat.le_refl _) _⟩
  cases h5 : inB b 1 100
  · have HB : Hid (cfgB d c l m b t = false) := by simp [Hid, cfgB, h5]
    go_enter Tryd.func17, Tryd.ntmps17
    go_wp2_with (go_at_call 32; refine (in_any _ _ _ _).mono ?_; rintro e w' ⟨rfl, rfl⟩)
    go_ret
    exact ⟨by rw [HB.out]; rfl, (Below.refl _ _).alloc (Nat.le_refl _) _⟩
  have HB : Hid (cfgB d c l m b t = inB t 0 5) := by simp [Hid, cfgB, h1, h2, h3, h4, h5]
  go_enter Tryd.func17, Tryd.ntmps17
  go_wp2_with (go_at_call 32; refine (in_any _ _ _ _).mono ?_; rintro e w' ⟨rfl, rfl⟩)
  go_ret
  exact ⟨by rw [HB.out]; rfl, (Below.refl _ _).alloc (Nat.le_refl _) _⟩

end Go.Proofs.YtgilnaheedmmfaaDoor
