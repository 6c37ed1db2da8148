import Derived.Test.YtgilnaheedmmfaaDoorErrs
namespace Go.Proofs.YtgilnaheedmmfaaDoor
open Go.RowKit Go.Extern.Stop Go.Stop Go.Extern

theorem comparable115 (w : World) : (callFunc 102 #[.agg #[.pointer (some ⟨1, 115, none⟩)]]).run Tryd.prog w = .ok (.value (.bool true)) w := by kernel_rfl
theorem methodComparable (v : Value) (w : World) : (Go.method 296 150 v "Comparable").run Tryd.prog w = .ok (102, v) w := by kernel_rfl
theorem eql5 (w : World) : (binOp .eql 73 (.iface 115 (.int .i64 5)) (.iface 115 (.int .i64 5))).run Tryd.prog w = .ok (.bool true) w := by kernel_rfl

theorem is_nil (w : World) :
    Calls Tryd.prog 70 #[.nilIface, .iface 115 (.int .i64 5)] w fun e w' => e = .returned (.bool false) ∧ w = w' := by
  have hn := run_eql_iface_nil_left (P := Tryd.prog) w 115 (.int .i64 5) Tryd.underlying73
  go_enter Tryd.func70, Tryd.ntmps70
  go_wp2
  go_ret
  exact ⟨rfl, rfl⟩

set_option maxHeartbeats 4000000 in
set_option maxRecDepth 10000 in
theorem is_none (s : ByteArray) (n : Int) (w : World) :
    Calls Tryd.prog 70 #[.iface 117 (.agg #[.string s, .int .i64 n, .iface 115 (.int .i64 5)]), .iface 115 (.int .i64 5)] w fun e w' => e = .returned (.bool true) ∧ w.alloc (.cells #[.string s, .int .i64 n, .iface 115 (.int .i64 5)] 117) = w' := by
  have h73 := @run_callFunc_extern Tryd.prog 73 _ ReflectliteType.typeOf Tryd.func73 (by kernel_rfl) (by kernel_rfl) (by kernel_rfl) (by kernel_rfl)
  have f1 := typeOf115
  have f2 := comparable115
  have f3 := methodComparable
  have f16 := noIs117
  have f17 := hasUnwrap117
  have f18 := methodUnwrap
  have f19 := eql5
  have hty := fun v w => run_eql_iface_types (P := Tryd.prog) 117 115 v (.int .i64 5) Tryd.underlying73 (by decide) w
  go_enter Tryd.func70, Tryd.ntmps70
  go_wp2
  refine wp_loop_rounds 2 ?_
  rw [rounds_succ]
  go_wp2
  rw [rounds_succ]
  go_wp2
  go_ret
  exact ⟨rfl, rfl⟩
end Go.Proofs.YtgilnaheedmmfaaDoor
