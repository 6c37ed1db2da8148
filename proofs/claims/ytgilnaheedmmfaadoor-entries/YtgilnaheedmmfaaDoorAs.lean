import Derived.Test.YtgilnaheedmmfaaDoorErrs
namespace Go.Proofs.YtgilnaheedmmfaaDoor
open Go.RowKit Go.Extern.Stop Go.Stop Go.Extern

theorem as_nil (t : Value) (w : World) :
    Calls Tryd.prog 54 #[.nilIface, t] w fun e w' => e = .returned (.bool false) ∧ w = w' := by
  go_enter Tryd.func54, Tryd.ntmps54
  go_wp2
  go_ret
  exact ⟨rfl, rfl⟩

theorem block_lt_of_cell {w : World} {a : Addr} {v : Value} (h : w.cell? a = some v) : a.block < w.heap.size := by
  rcases Nat.lt_or_ge a.block w.heap.size with h' | h'
  · exact h'
  · simp [World.cell?, Array.getElem?_eq_none h'] at h

set_option maxHeartbeats 4000000 in
set_option maxRecDepth 10000 in
theorem as69_one (s : ByteArray) (n r : Int) (t a : Addr) (old : Value) (w : World) (ha : w.cell? a = some (.pointer (some t))) (ht0 : w.cell? t = some old) (hf0 : w.frozen? t = false) :
    Calls Tryd.prog 69 #[.iface 117 (.agg #[.string s, .int .i64 n, .iface 115 (.int .i64 r)]), .iface 119 (.pointer (some t)), .agg #[.pointer (some ⟨1, 119, none⟩), .pointer (some a), .int .u64 150], .iface 150 (.agg #[.pointer (some ⟨1, 115, none⟩)])] w
      fun ev w' => ev = .returned (.bool true) ∧ ∃ o1 o2 o3, w' = (((w.alloc o1).alloc o2).alloc o3).setCell t (.int .i64 r) := by
  have h66 := @run_callFunc_extern Tryd.prog 66 _ (fun args => ReflectliteValue.unpack (args.getD 0 (.tuple #[]))) Tryd.func66 (by kernel_rfl) (by kernel_rfl) (by kernel_rfl) (by kernel_rfl)
  have h73 := @run_callFunc_extern Tryd.prog 73 _ ReflectliteType.typeOf Tryd.func73 (by kernel_rfl) (by kernel_rfl) (by kernel_rfl) (by kernel_rfl)
  have h101 := @run_callFunc_extern Tryd.prog 101 _ (ReflectliteType.relation "AssignableTo" ReflectliteType.assignableTo) Tryd.func101 (by kernel_rfl) (by kernel_rfl) (by kernel_rfl) (by kernel_rfl)
  have h74 := @run_callFunc_extern Tryd.prog 74 _ (ReflectliteValue.method (ReflectliteValue.valueError "reflectlite.Value.Elem" 0) ReflectliteValue.elem) Tryd.func74 (by kernel_rfl) (by kernel_rfl) (by kernel_rfl) (by kernel_rfl)
  have h75 := @run_callFunc_extern Tryd.prog 75 _ ReflectliteValue.set Tryd.func75 (by kernel_rfl) (by kernel_rfl) (by kernel_rfl) (by kernel_rfl)
  have f1 := typeOf115
  have f2 := typeOf117
  have f3 := methodAssignableTo
  have f4 := assignable115
  have f5 := assignable117
  have f6 := valueOf115
  have f16 := noAs117
  have f17 := hasUnwrap117
  have f18 := methodUnwrap
  have hal := block_lt_of_cell ha
  have htl := block_lt_of_cell ht0
  have ca : ∀ o1 o2, ((w.alloc o1).alloc o2).cell? a = some (.pointer (some t)) := fun o1 o2 => by
    rw [World.cell?_alloc_lt _ _ a (by simp; omega), World.cell?_alloc_lt _ _ a hal]; exact ha
  have el := fun o1 o2 => elemV119 a t _ (ca o1 o2)
  have st := fun o1 o2 => set115 t ⟨w.heap.size + 1 + 1, 0, none⟩ r old (((w.alloc o1).alloc o2).alloc (.cells #[.int .i64 r] 115))
    (by rw [World.cell?_alloc_at _ _ _ _ (by simp)]; rfl)
    (by rw [World.cell?_alloc_lt _ _ t (by simp; omega), World.cell?_alloc_lt _ _ t (by simp; omega), World.cell?_alloc_lt _ _ t htl]; exact ht0)
    (by rw [World.frozen?_alloc_old _ _ t (by simp; omega), World.frozen?_alloc_old _ _ t (by simp; omega), World.frozen?_alloc_old _ _ t (by omega)]; exact hf0)
  clear ca
  go_enter Tryd.func69, Tryd.ntmps69
  go_wp2
  refine wp_loop_rounds 2 ?_
  rw [rounds_succ]
  go_wp2
  rw [rounds_succ]
  go_wp2
  go_ret
  exact ⟨rfl, _, _, _, rfl⟩
set_option maxHeartbeats 4000000 in
set_option maxRecDepth 10000 in
theorem as69_two (s s2 : ByteArray) (n n2 r : Int) (t a : Addr) (old : Value) (w : World) (ha : w.cell? a = some (.pointer (some t))) (ht0 : w.cell? t = some old) (hf0 : w.frozen? t = false) :
    Calls Tryd.prog 69 #[.iface 117 (.agg #[.string s, .int .i64 n, .iface 117 (.agg #[.string s2, .int .i64 n2, .iface 115 (.int .i64 r)])]), .iface 119 (.pointer (some t)), .agg #[.pointer (some ⟨1, 119, none⟩), .pointer (some a), .int .u64 150], .iface 150 (.agg #[.pointer (some ⟨1, 115, none⟩)])] w
      fun ev w' => ev = .returned (.bool true) ∧ ∃ o1 o2 o3 o4, w' = ((((w.alloc o1).alloc o2).alloc o3).alloc o4).setCell t (.int .i64 r) := by
  have h66 := @run_callFunc_extern Tryd.prog 66 _ (fun args => ReflectliteValue.unpack (args.getD 0 (.tuple #[]))) Tryd.func66 (by kernel_rfl) (by kernel_rfl) (by kernel_rfl) (by kernel_rfl)
  have h73 := @run_callFunc_extern Tryd.prog 73 _ ReflectliteType.typeOf Tryd.func73 (by kernel_rfl) (by kernel_rfl) (by kernel_rfl) (by kernel_rfl)
  have h101 := @run_callFunc_extern Tryd.prog 101 _ (ReflectliteType.relation "AssignableTo" ReflectliteType.assignableTo) Tryd.func101 (by kernel_rfl) (by kernel_rfl) (by kernel_rfl) (by kernel_rfl)
  have h74 := @run_callFunc_extern Tryd.prog 74 _ (ReflectliteValue.method (ReflectliteValue.valueError "reflectlite.Value.Elem" 0) ReflectliteValue.elem) Tryd.func74 (by kernel_rfl) (by kernel_rfl) (by kernel_rfl) (by kernel_rfl)
  have h75 := @run_callFunc_extern Tryd.prog 75 _ ReflectliteValue.set Tryd.func75 (by kernel_rfl) (by kernel_rfl) (by kernel_rfl) (by kernel_rfl)
  have f1 := typeOf115
  have f2 := typeOf117
  have f3 := methodAssignableTo
  have f4 := assignable115
  have f5 := assignable117
  have f6 := valueOf115
  have f16 := noAs117
  have f17 := hasUnwrap117
  have f18 := methodUnwrap
  have hal := block_lt_of_cell ha
  have htl := block_lt_of_cell ht0
  have ca : ∀ o1 o2 o3, (((w.alloc o1).alloc o2).alloc o3).cell? a = some (.pointer (some t)) := fun o1 o2 o3 => by
    rw [World.cell?_alloc_lt _ _ a (by simp; omega), World.cell?_alloc_lt _ _ a (by simp; omega), World.cell?_alloc_lt _ _ a hal]; exact ha
  have el := fun o1 o2 o3 => elemV119 a t _ (ca o1 o2 o3)
  have st := fun o1 o2 o3 => set115 t ⟨w.heap.size + 1 + 1 + 1, 0, none⟩ r old ((((w.alloc o1).alloc o2).alloc o3).alloc (.cells #[.int .i64 r] 115))
    (by rw [World.cell?_alloc_at _ _ _ _ (by simp)]; rfl)
    (by rw [World.cell?_alloc_lt _ _ t (by simp; omega), World.cell?_alloc_lt _ _ t (by simp; omega), World.cell?_alloc_lt _ _ t (by simp; omega), World.cell?_alloc_lt _ _ t htl]; exact ht0)
    (by rw [World.frozen?_alloc_old _ _ t (by simp; omega), World.frozen?_alloc_old _ _ t (by simp; omega), World.frozen?_alloc_old _ _ t (by simp; omega), World.frozen?_alloc_old _ _ t (by omega)]; exact hf0)
  clear ca
  go_enter Tryd.func69, Tryd.ntmps69
  go_wp2
  refine wp_loop_rounds 3 ?_
  rw [rounds_succ]
  go_wp2
  rw [rounds_succ]
  go_wp2
  rw [rounds_succ]
  go_wp2
  go_ret
  exact ⟨rfl, _, _, _, _, rfl⟩
end Go.Proofs.YtgilnaheedmmfaaDoor
