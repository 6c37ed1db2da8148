import Derived.Test.YtgilnaheedmmfaaDoorAs2
namespace Go.Proofs.YtgilnaheedmmfaaDoor
open Go.RowKit

/-- The one listed variable: 'errors.errorType' holds the handle of 'error'. -/
def Handle (w : World) : Prop := w.cell? ⟨0, 0, none⟩ = some (.iface 150 (.agg #[.pointer (some ⟨1, 73, none⟩)]))

theorem Handle.lt {w : World} (h : Handle w) : 0 < w.heap.size := block_lt_of_cell (a := ⟨0, 0, none⟩) h
theorem Handle.alloc {w : World} (h : Handle w) (o : Obj) : Handle (w.alloc o) := by
  unfold Handle; rw [World.cell?_alloc_lt _ _ ⟨0, 0, none⟩ h.lt]; exact h

set_option maxHeartbeats 400000 in
theorem errno_nil (w : World) :
    Calls Tryd.prog 25 #[.nilIface] w fun e w' => e = .returned (.int .i64 0) ∧ Below w.heap.size w w' := by
  go_enter Tryd.func25, Tryd.ntmps25
  go_wp2_with (go_at_call 54; refine (as_nil _ _).mono ?_; rintro e w' ⟨rfl, rfl⟩)
  go_ret
  exact ⟨rfl, (Below.refl _ _).alloc (Nat.le_refl _) _⟩

set_option maxHeartbeats 1000000 in
theorem errno_one (s : ByteArray) (n r : Int) (w : World) (hg : Handle w) :
    Calls Tryd.prog 25 #[.iface 117 (.agg #[.string s, .int .i64 n, .iface 115 (.int .i64 r)])] w fun e w' => e = .returned (.int .i64 r) ∧ Below w.heap.size w w' := by
  go_enter Tryd.func25, Tryd.ntmps25
  go_wp2_with fail
  refine (as_one s n r ⟨w.heap.size, 0, none⟩ (.int .i64 0) _ (hg.alloc _) ?c2 ?c3).mono ?_
  case c2 => simp
  case c3 => simp
  rintro e w1 ⟨rfl, hc, hb⟩
  go_wp2
  go_ret
  exact ⟨rfl, ((Below.refl _ _).alloc (Nat.le_refl _) _).trans hb⟩

set_option maxHeartbeats 1000000 in
theorem errno_two (s s2 : ByteArray) (n n2 r : Int) (w : World) (hg : Handle w) :
    Calls Tryd.prog 25 #[.iface 117 (.agg #[.string s, .int .i64 n, .iface 117 (.agg #[.string s2, .int .i64 n2, .iface 115 (.int .i64 r)])])] w fun e w' => e = .returned (.int .i64 r) ∧ Below w.heap.size w w' := by
  go_enter Tryd.func25, Tryd.ntmps25
  go_wp2_with fail
  refine (as_two s s2 n n2 r ⟨w.heap.size, 0, none⟩ (.int .i64 0) _ (hg.alloc _) ?c2 ?c3).mono ?_
  case c2 => simp
  case c3 => simp
  rintro e w1 ⟨rfl, hc, hb⟩
  go_wp2
  go_ret
  exact ⟨rfl, ((Below.refl _ _).alloc (Nat.le_refl _) _).trans hb⟩
end Go.Proofs.YtgilnaheedmmfaaDoor
