import Derived.Test.YtpkiefjanmfgfaaGreatDoorRows
import Derived.WalkKit
import Derived.WalkSpells
import Derived.WalkLawsBesides
import Derived.Deep.RegionHeld3
import Derived.Deep.QuietTactic
import Derived.BigQuiet
import Derived.RowKit3
import Derived.LaidEql
import Derived.Stop.Asserts
import Derived.RowKitTokens
import Derived.Deep.AppendLies
import Derived.Maps.OwnSet
namespace Go.Proofs.YtpkiefjanmfgfaaGreatDoor
open Go.RowKit

def inB (n lo hi : Int) : Bool := decide (lo ≤ n) && decide (n ≤ hi)

set_option maxHeartbeats 400000 in
theorem within_any (n lo hi : Int) (w : World) :
    Calls Tryz.prog 86 #[.int .i64 n, .int .i64 lo, .int .i64 hi] w fun e w' => e = .returned (.bool (inB n lo hi)) ∧ w = w' := by
  by_cases h1 : lo ≤ n
  · by_cases h2 : n ≤ hi
    · go_enter Tryz.func86, Tryz.ntmps86
      go_wp2
      go_ret
      exact ⟨by simp [inB, h1, h2], rfl⟩
    · go_enter Tryz.func86, Tryz.ntmps86
      go_wp2
      go_ret
      exact ⟨by simp [inB, h1, h2], rfl⟩
  · have hd : decide (lo ≤ n) = false := by simpa using h1
    go_enter Tryz.func86, Tryz.ntmps86
    go_wp2
    go_ret
    exact ⟨by simp [inB, hd], rfl⟩

set_option maxHeartbeats 400000 in
theorem in_any (n lo hi : Int) (w : World) :
    Calls Tryz.prog 67 #[.int .i64 n, .int .i64 lo, .int .i64 hi] w fun e w' => e = .returned (.bool (inB n lo hi)) ∧ w = w' := by
  by_cases h1 : lo ≤ n
  · by_cases h2 : n ≤ hi
    · go_enter Tryz.func67, Tryz.ntmps67
      go_wp2
      go_ret
      exact ⟨by simp [inB, h1, h2], rfl⟩
    · go_enter Tryz.func67, Tryz.ntmps67
      go_wp2
      go_ret
      exact ⟨by simp [inB, h1, h2], rfl⟩
  · have hd : decide (lo ≤ n) = false := by simpa using h1
    go_enter Tryz.func67, Tryz.ntmps67
    go_wp2
    go_ret
    exact ⟨by simp [inB, hd], rfl⟩

end Go.Proofs.YtpkiefjanmfgfaaGreatDoor
namespace Go.Proofs.YtpkiefjanmfgfaaGreatDoor
open Go.RowKit Go.Extern.Stop Go.Stop Go.Extern

theorem rlm (z : Sem Value) (f : TypeId → Addr → Nat → Nat → Sem Value) (v : Value) :
    ReflectliteValue.method z f #[v] = (do match ← ReflectliteValue.parts v with | none => z | some (t, a, fl) => f t a fl (fl % 32)) := rfl
theorem rls (v x : Value) : ReflectliteValue.set #[v, x] = (do
    let (some (dst, a, fl), some (src, b, _)) := (← ReflectliteValue.parts v, ← ReflectliteValue.parts x)
      | unsupported (.noEntry "extern/(internal/reflectlite.Value).Set.zeroValue")
    if fl / ReflectliteValue.flagAddr % 2 == 0 then unsupported (.noEntry "extern/(internal/reflectlite.Value).Set.unaddressable")
    let val ← loadVar src b
    if ← Rtype.directlyAssignable dst src then storeVar dst a val
    else if ← Rtype.implements dst src then
      if (← Rtype.kind src) == 20 then
        match val with
        | .nilIface => unsupported (.noEntry "extern/reflectlite: a nil value of one interface type handed on as a value of another")
        | _ => storeVar dst a val
      else storeVar dst a (.iface src val)
    else panicString ("reflectlite.Set: value of type " ++ (← Rtype.spelt src) ++ " is not assignable to type " ++ (← Rtype.spelt dst))
    pure (.tuple #[])) := rfl

theorem nGlobals : Tryz.prog.globals.size = 1 := by kernel_rfl
theorem valueOf119 (t : Addr) (w : World) : (ReflectliteValue.unpack (.iface 160 (.pointer (some t)))).run Tryz.prog w
    = .ok (.agg #[.pointer (some ⟨1, 160, none⟩), .pointer (some ⟨w.heap.size, 0, none⟩), .int .u64 150]) (w.alloc (.cells #[.pointer (some t)] 160)) := by kernel_rfl
theorem type119 (a : Addr) (w : World) : (ReflectliteValue.methodAny (ReflectliteValue.valueError "reflectlite.Value.Type" 0) (fun t _ _ _ => ReflectliteType.toType t) #[.agg #[.pointer (some ⟨1, 160, none⟩), .pointer (some a), .int .u64 150]]).run Tryz.prog w
    = .ok (.iface 237 (.agg #[.pointer (some ⟨1, 160, none⟩)])) w := by kernel_rfl
theorem methodKind (h : Value) (w : World) : (Go.method 413 237 (.agg #[h]) "Kind").run Tryz.prog w = .ok (216, h) w := by kernel_rfl
theorem kind119 (w : World) : ((ReflectliteType.abiMethod fun t => (fun a : Nat => Value.int IntKind.u8 (a : Int)) <$> Rtype.kind t) #[.pointer (some ⟨1, 160, none⟩)]).run Tryz.prog w = .ok (.int .u8 22) w := by kernel_rfl
theorem kind115 (w : World) : ((ReflectliteType.abiMethod fun t => (fun a : Nat => Value.int IntKind.u8 (a : Int)) <$> Rtype.kind t) #[.pointer (some ⟨1, 156, none⟩)]).run Tryz.prog w = .ok (.int .u8 2) w := by kernel_rfl
theorem parts119 (a : Addr) (w : World) : (ReflectliteValue.parts (.agg #[.pointer (some ⟨1, 160, none⟩), .pointer (some a), .int .u64 150])).run Tryz.prog w = .ok (some (160, a, 150)) w := by kernel_rfl
theorem isNil119 (a p : Addr) (W : World) (ha : W.cell? a = some (.pointer (some p))) :
    (ReflectliteValue.method (ReflectliteValue.valueError "reflectlite.Value.IsNil" 0) ReflectliteValue.isNil #[.agg #[.pointer (some ⟨1, 160, none⟩), .pointer (some a), .int .u64 150]]).run Tryz.prog W = .ok (.bool false) W := by
  rw [rlm]
  simp only [Sem.run_bind, parts119, Result.andThen]
  simp [ReflectliteValue.isNil, loadVar, isAgg, underlying, Tryz.underlying160, ha, Result.andThen]
theorem methodElem (h : Value) (w : World) : (Go.method 413 237 (.agg #[h]) "Elem").run Tryz.prog w = .ok (228, .agg #[h]) w := by kernel_rfl
theorem methodImplements (h : Value) (w : World) : (Go.method 413 237 (.agg #[h]) "Implements").run Tryz.prog w = .ok (229, .agg #[h]) w := by kernel_rfl
theorem methodAssignableTo (h : Value) (w : World) : (Go.method 413 237 (.agg #[h]) "AssignableTo").run Tryz.prog w = .ok (226, .agg #[h]) w := by kernel_rfl
theorem elem119 (w : World) : (ReflectliteType.method ReflectliteType.elem #[.agg #[.pointer (some ⟨1, 160, none⟩)]]).run Tryz.prog w = .ok (.iface 237 (.agg #[.pointer (some ⟨1, 156, none⟩)])) w := by kernel_rfl
theorem implements115 (w : World) : (ReflectliteType.relation "Implements" ReflectliteType.implements_ #[.agg #[.pointer (some ⟨1, 156, none⟩)], .iface 237 (.agg #[.pointer (some ⟨1, 104, none⟩)])]).run Tryz.prog w = .ok (.bool true) w := by kernel_rfl
theorem typeOf115 (v : Value) (w : World) : (ReflectliteType.typeOf #[.iface 156 v]).run Tryz.prog w = .ok (.iface 237 (.agg #[.pointer (some ⟨1, 156, none⟩)])) w := by kernel_rfl
theorem typeOf117 (v : Value) (w : World) : (ReflectliteType.typeOf #[.iface 158 v]).run Tryz.prog w = .ok (.iface 237 (.agg #[.pointer (some ⟨1, 158, none⟩)])) w := by kernel_rfl
theorem assignable115 (w : World) : (ReflectliteType.relation "AssignableTo" ReflectliteType.assignableTo #[.agg #[.pointer (some ⟨1, 156, none⟩)], .iface 237 (.agg #[.pointer (some ⟨1, 156, none⟩)])]).run Tryz.prog w = .ok (.bool true) w := by kernel_rfl
theorem assignable117 (w : World) : (ReflectliteType.relation "AssignableTo" ReflectliteType.assignableTo #[.agg #[.pointer (some ⟨1, 158, none⟩)], .iface 237 (.agg #[.pointer (some ⟨1, 156, none⟩)])]).run Tryz.prog w = .ok (.bool false) w := by kernel_rfl
theorem valueOf115 (r : Int) (w : World) : (ReflectliteValue.unpack (.iface 156 (.int .i64 r))).run Tryz.prog w
    = .ok (.agg #[.pointer (some ⟨1, 156, none⟩), .pointer (some ⟨w.heap.size, 0, none⟩), .int .u64 130]) (w.alloc (.cells #[.int .i64 r] 156)) := by kernel_rfl
theorem elemOf119 (w : World) : (Rtype.elem? 160).run Tryz.prog w = .ok (some 156) w := by kernel_rfl
theorem mk115 (p : Addr) (w : World) : (ReflectliteValue.mk 156 p ReflectliteValue.flagAddr).run Tryz.prog w = .ok (.agg #[.pointer (some ⟨1, 156, none⟩), .pointer (some p), .int .u64 386]) w := by kernel_rfl
theorem elemV119 (a p : Addr) (W : World) (ha : W.cell? a = some (.pointer (some p))) :
    (ReflectliteValue.method (ReflectliteValue.valueError "reflectlite.Value.Elem" 0) ReflectliteValue.elem #[.agg #[.pointer (some ⟨1, 160, none⟩), .pointer (some a), .int .u64 150]]).run Tryz.prog W
      = .ok (.agg #[.pointer (some ⟨1, 156, none⟩), .pointer (some p), .int .u64 386]) W := by
  rw [rlm]
  simp only [Sem.run_bind, parts119, Result.andThen]
  simp [ReflectliteValue.elem, loadVar, isAgg, underlying, Tryz.underlying160, ha, Result.andThen, elemOf119, mk115]
theorem parts115a (a : Addr) (w : World) : (ReflectliteValue.parts (.agg #[.pointer (some ⟨1, 156, none⟩), .pointer (some a), .int .u64 386])).run Tryz.prog w = .ok (some (156, a, 386)) w := by kernel_rfl
theorem parts115 (a : Addr) (w : World) : (ReflectliteValue.parts (.agg #[.pointer (some ⟨1, 156, none⟩), .pointer (some a), .int .u64 130])).run Tryz.prog w = .ok (some (156, a, 130)) w := by kernel_rfl
theorem direct115 (w : World) : (Rtype.directlyAssignable 156 156).run Tryz.prog w = .ok true w := by kernel_rfl
theorem set115 (ta b : Addr) (r : Int) (old : Value) (W : World) (hb : W.cell? b = some (.int .i64 r)) (ht : W.cell? ta = some old) (hf : W.frozen? ta = false) :
    (ReflectliteValue.set #[.agg #[.pointer (some ⟨1, 156, none⟩), .pointer (some ta), .int .u64 386], .agg #[.pointer (some ⟨1, 156, none⟩), .pointer (some b), .int .u64 130]]).run Tryz.prog W
      = .ok (.tuple #[]) (W.setCell ta (.int .i64 r)) := by
  rw [rls]
  simp only [Sem.run_bind, parts115a, parts115, Result.andThen]
  simp [ReflectliteValue.flagAddr, loadVar, isAgg, underlying, Tryz.underlying156, hb, Result.andThen, direct115, storeVar, Value.cells, storeCells, Addr.add]
  rw [run_store Tryz.prog W ta _ _ (by rfl)]
  simp [ht, hf]

theorem noAs117 (v : Value) (xT : TypeId) (w : World) : (Instr.typeAssert (.iface 158 v) xT 242 true).run Tryz.prog w = .ok (.tuple #[.nilIface, .bool false]) w := run_typeAssert_lacksB Tryz.underlying242 (by kernel_rfl) (by kernel_rfl) v xT w
theorem noIs117 (v : Value) (xT : TypeId) (w : World) : (Instr.typeAssert (.iface 158 v) xT 260 true).run Tryz.prog w = .ok (.tuple #[.nilIface, .bool false]) w := run_typeAssert_lacksB Tryz.underlying260 (by kernel_rfl) (by kernel_rfl) v xT w
theorem hasUnwrap117 (v : Value) (xT : TypeId) (w : World) : (Instr.typeAssert (.iface 158 v) xT 245 true).run Tryz.prog w = .ok (.tuple #[.iface 158 v, .bool true]) w := run_typeAssert_hasB Tryz.underlying245 (by kernel_rfl) v xT w
theorem methodUnwrap (v : Value) (w : World) : (Go.method 413 158 v "Unwrap").run Tryz.prog w = .ok (221, v) w := by kernel_rfl

end Go.Proofs.YtpkiefjanmfgfaaGreatDoor
namespace Go.Proofs.YtpkiefjanmfgfaaGreatDoor
open Go.RowKit Go.Extern.Stop Go.Stop Go.Extern

theorem as_nil (t : Value) (w : World) :
    Calls Tryz.prog 87 #[.nilIface, t] w fun e w' => e = .returned (.bool false) ∧ w = w' := by
  go_enter Tryz.func87, Tryz.ntmps87
  go_wp2
  go_ret
  exact ⟨rfl, rfl⟩

theorem block_lt_of_cell {w : World} {a : Addr} {v : Value} (h : w.cell? a = some v) : a.block < w.heap.size := by
  rcases Nat.lt_or_ge a.block w.heap.size with h' | h'
  · exact h'
  · simp [World.cell?, Array.getElem?_eq_none h'] at h

set_option maxHeartbeats 4000000 in
set_option maxRecDepth 10000 in
theorem as69_one (s : ByteArray) (n r : Int) (t a : Addr) (old : Value) (w : World) (ha : w.cell? a = some (.pointer (some t))) (ht0 : w.cell? t = some old) (hf0 : w.frozen? t = false) :
    Calls Tryz.prog 132 #[.iface 158 (.agg #[.string s, .int .i64 n, .iface 156 (.int .i64 r)]), .iface 160 (.pointer (some t)), .agg #[.pointer (some ⟨1, 160, none⟩), .pointer (some a), .int .u64 150], .iface 237 (.agg #[.pointer (some ⟨1, 156, none⟩)])] w
      fun ev w' => ev = .returned (.bool true) ∧ ∃ o1 o2 o3, w' = (((w.alloc o1).alloc o2).alloc o3).setCell t (.int .i64 r) := by
  have h66 := @run_callFunc_extern Tryz.prog 129 _ (fun args => ReflectliteValue.unpack (args.getD 0 (.tuple #[]))) Tryz.func129 (by kernel_rfl) (by kernel_rfl) (by kernel_rfl) (by kernel_rfl)
  have h73 := @run_callFunc_extern Tryz.prog 158 _ ReflectliteType.typeOf Tryz.func158 (by kernel_rfl) (by kernel_rfl) (by kernel_rfl) (by kernel_rfl)
  have h101 := @run_callFunc_extern Tryz.prog 226 _ (ReflectliteType.relation "AssignableTo" ReflectliteType.assignableTo) Tryz.func226 (by kernel_rfl) (by kernel_rfl) (by kernel_rfl) (by kernel_rfl)
  have h74 := @run_callFunc_extern Tryz.prog 159 _ (ReflectliteValue.method (ReflectliteValue.valueError "reflectlite.Value.Elem" 0) ReflectliteValue.elem) Tryz.func159 (by kernel_rfl) (by kernel_rfl) (by kernel_rfl) (by kernel_rfl)
  have h75 := @run_callFunc_extern Tryz.prog 160 _ ReflectliteValue.set Tryz.func160 (by kernel_rfl) (by kernel_rfl) (by kernel_rfl) (by kernel_rfl)
  have f1 := typeOf115
  have f2 := typeOf117
  have f3 := methodAssignableTo
  have f4 := assignable115
  have f5 := assignable117
  have f6 := valueOf115
  have f16 := noAs117
  have f17 := hasUnwrap117
  have f18 := methodUnwrap
  have hal := block_lt_of_cell ha
  have htl := block_lt_of_cell ht0
  have ca : ∀ o1 o2, ((w.alloc o1).alloc o2).cell? a = some (.pointer (some t)) := fun o1 o2 => by
    rw [World.cell?_alloc_lt _ _ a (by simp; omega), World.cell?_alloc_lt _ _ a hal]; exact ha
  have el := fun o1 o2 => elemV119 a t _ (ca o1 o2)
  have st := fun o1 o2 => set115 t ⟨w.heap.size + 1 + 1, 0, none⟩ r old (((w.alloc o1).alloc o2).alloc (.cells #[.int .i64 r] 156))
    (by rw [World.cell?_alloc_at _ _ _ _ (by simp)]; rfl)
    (by rw [World.cell?_alloc_lt _ _ t (by simp; omega), World.cell?_alloc_lt _ _ t (by simp; omega), World.cell?_alloc_lt _ _ t htl]; exact ht0)
    (by rw [World.frozen?_alloc_old _ _ t (by simp; omega), World.frozen?_alloc_old _ _ t (by simp; omega), World.frozen?_alloc_old _ _ t (by omega)]; exact hf0)
  clear ca
  go_enter Tryz.func132, Tryz.ntmps132
  go_wp2
  refine wp_loop_rounds 2 ?_
  rw [rounds_succ]
  go_wp2
  rw [rounds_succ]
  go_wp2
  go_ret
  exact ⟨rfl, _, _, _, rfl⟩
set_option maxHeartbeats 4000000 in
set_option maxRecDepth 10000 in
theorem as69_two (s s2 : ByteArray) (n n2 r : Int) (t a : Addr) (old : Value) (w : World) (ha : w.cell? a = some (.pointer (some t))) (ht0 : w.cell? t = some old) (hf0 : w.frozen? t = false) :
    Calls Tryz.prog 132 #[.iface 158 (.agg #[.string s, .int .i64 n, .iface 158 (.agg #[.string s2, .int .i64 n2, .iface 156 (.int .i64 r)])]), .iface 160 (.pointer (some t)), .agg #[.pointer (some ⟨1, 160, none⟩), .pointer (some a), .int .u64 150], .iface 237 (.agg #[.pointer (some ⟨1, 156, none⟩)])] w
      fun ev w' => ev = .returned (.bool true) ∧ ∃ o1 o2 o3 o4, w' = ((((w.alloc o1).alloc o2).alloc o3).alloc o4).setCell t (.int .i64 r) := by
  have h66 := @run_callFunc_extern Tryz.prog 129 _ (fun args => ReflectliteValue.unpack (args.getD 0 (.tuple #[]))) Tryz.func129 (by kernel_rfl) (by kernel_rfl) (by kernel_rfl) (by kernel_rfl)
  have h73 := @run_callFunc_extern Tryz.prog 158 _ ReflectliteType.typeOf Tryz.func158 (by kernel_rfl) (by kernel_rfl) (by kernel_rfl) (by kernel_rfl)
  have h101 := @run_callFunc_extern Tryz.prog 226 _ (ReflectliteType.relation "AssignableTo" ReflectliteType.assignableTo) Tryz.func226 (by kernel_rfl) (by kernel_rfl) (by kernel_rfl) (by kernel_rfl)
  have h74 := @run_callFunc_extern Tryz.prog 159 _ (ReflectliteValue.method (ReflectliteValue.valueError "reflectlite.Value.Elem" 0) ReflectliteValue.elem) Tryz.func159 (by kernel_rfl) (by kernel_rfl) (by kernel_rfl) (by kernel_rfl)
  have h75 := @run_callFunc_extern Tryz.prog 160 _ ReflectliteValue.set Tryz.func160 (by kernel_rfl) (by kernel_rfl) (by kernel_rfl) (by kernel_rfl)
  have f1 := typeOf115
  have f2 := typeOf117
  have f3 := methodAssignableTo
  have f4 := assignable115
  have f5 := assignable117
  have f6 := valueOf115
  have f16 := noAs117
  have f17 := hasUnwrap117
  have f18 := methodUnwrap
  have hal := block_lt_of_cell ha
  have htl := block_lt_of_cell ht0
  have ca : ∀ o1 o2 o3, (((w.alloc o1).alloc o2).alloc o3).cell? a = some (.pointer (some t)) := fun o1 o2 o3 => by
    rw [World.cell?_alloc_lt _ _ a (by simp; omega), World.cell?_alloc_lt _ _ a (by simp; omega), World.cell?_alloc_lt _ _ a hal]; exact ha
  have el := fun o1 o2 o3 => elemV119 a t _ (ca o1 o2 o3)
  have st := fun o1 o2 o3 => set115 t ⟨w.heap.size + 1 + 1 + 1, 0, none⟩ r old ((((w.alloc o1).alloc o2).alloc o3).alloc (.cells #[.int .i64 r] 156))
    (by rw [World.cell?_alloc_at _ _ _ _ (by simp)]; rfl)
    (by rw [World.cell?_alloc_lt _ _ t (by simp; omega), World.cell?_alloc_lt _ _ t (by simp; omega), World.cell?_alloc_lt _ _ t (by simp; omega), World.cell?_alloc_lt _ _ t htl]; exact ht0)
    (by rw [World.frozen?_alloc_old _ _ t (by simp; omega), World.frozen?_alloc_old _ _ t (by simp; omega), World.frozen?_alloc_old _ _ t (by simp; omega), World.frozen?_alloc_old _ _ t (by omega)]; exact hf0)
  clear ca
  go_enter Tryz.func132, Tryz.ntmps132
  go_wp2
  refine wp_loop_rounds 3 ?_
  rw [rounds_succ]
  go_wp2
  rw [rounds_succ]
  go_wp2
  rw [rounds_succ]
  go_wp2
  go_ret
  exact ⟨rfl, _, _, _, _, rfl⟩
end Go.Proofs.YtpkiefjanmfgfaaGreatDoor
namespace Go.Proofs.YtpkiefjanmfgfaaGreatDoor
open Go.RowKit Go.Extern.Stop Go.Stop Go.Extern

set_option maxHeartbeats 4000000 in
set_option maxRecDepth 10000 in
theorem as_one (s : ByteArray) (n r : Int) (t : Addr) (old : Value) (w : World) (hg : w.cell? ⟨0, 0, none⟩ = some (.iface 237 (.agg #[.pointer (some ⟨1, 104, none⟩)]))) (ht0 : w.cell? t = some old) (hf0 : w.frozen? t = false) :
    Calls Tryz.prog 87 #[.iface 158 (.agg #[.string s, .int .i64 n, .iface 156 (.int .i64 r)]), .iface 160 (.pointer (some t))] w fun ev w' => ev = .returned (.bool true) ∧ w'.cell? t = some (.int .i64 r) ∧ Below t.block w w' := by
  have h66 := @run_callFunc_extern Tryz.prog 129 _ (fun args => ReflectliteValue.unpack (args.getD 0 (.tuple #[]))) Tryz.func129 (by kernel_rfl) (by kernel_rfl) (by kernel_rfl) (by kernel_rfl)
  have h67 := @run_callFunc_extern Tryz.prog 130 _ (ReflectliteValue.methodAny (ReflectliteValue.valueError "reflectlite.Value.Type" 0) (fun t _ _ _ => ReflectliteType.toType t)) Tryz.func130 (by kernel_rfl) (by kernel_rfl) (by kernel_rfl) (by kernel_rfl)
  have h68 := @run_callFunc_extern Tryz.prog 131 _ (ReflectliteValue.method (ReflectliteValue.valueError "reflectlite.Value.IsNil" 0) ReflectliteValue.isNil) Tryz.func131 (by kernel_rfl) (by kernel_rfl) (by kernel_rfl) (by kernel_rfl)
  have h91 := @run_callFunc_extern Tryz.prog 216 _ (ReflectliteType.abiMethod fun t => do pure (.int .u8 (← Rtype.kind t))) Tryz.func216 (by kernel_rfl) (by kernel_rfl) (by kernel_rfl) (by kernel_rfl)
  have h103 := @run_callFunc_extern Tryz.prog 228 _ (ReflectliteType.method ReflectliteType.elem) Tryz.func228 (by kernel_rfl) (by kernel_rfl) (by kernel_rfl) (by kernel_rfl)
  have h104 := @run_callFunc_extern Tryz.prog 229 _ (ReflectliteType.relation "Implements" ReflectliteType.implements_) Tryz.func229 (by kernel_rfl) (by kernel_rfl) (by kernel_rfl) (by kernel_rfl)
  have f7 := valueOf119
  have f8 := type119
  have f9 := methodKind
  have f10 := methodElem
  have f11 := methodImplements
  have f12 := kind119
  have f13 := kind115
  have f14 := elem119
  have f15 := implements115
  have hlt := block_lt_of_cell hg
  have htl := block_lt_of_cell ht0
  have n8 := isNil119 ⟨w.heap.size, 0, none⟩ t ((w.alloc (.cells #[.pointer (some t)] 160)).alloc (.cells #[.pointer (some ⟨1, 160, none⟩), .pointer (some ⟨w.heap.size, 0, none⟩), .int .u64 150] 207)) (by simp)
  have hg2 : ((w.alloc (.cells #[.pointer (some t)] 160)).alloc (.cells #[.pointer (some ⟨1, 160, none⟩), .pointer (some ⟨w.heap.size, 0, none⟩), .int .u64 150] 207)).cell? ⟨0, 0, none⟩ = some (.iface 237 (.agg #[.pointer (some ⟨1, 104, none⟩)])) := by
    rw [World.cell?_alloc_lt _ _ ⟨0, 0, none⟩ (by simp), World.cell?_alloc_lt _ _ ⟨0, 0, none⟩ hlt]; exact hg
  go_enter Tryz.func87, Tryz.ntmps87
  go_wp2_with fail
  refine (as69_one s n r t ⟨w.heap.size, 0, none⟩ old _ ?c1 ?c2 ?c3).mono ?_
  case c1 => simp
  case c2 => rw [World.cell?_alloc_lt _ _ t (by first | omega | (simp; omega)), World.cell?_alloc_lt _ _ t htl]; exact ht0
  case c3 => rw [World.frozen?_alloc_old _ _ t (by first | omega | (simp; omega)), World.frozen?_alloc_old _ _ t (by omega)]; exact hf0
  rintro e w' ⟨rfl, o1, o2, o3, rfl⟩
  go_wp2
  go_ret
  refine ⟨rfl, World.cell?_setCell_same _ _ _ (u := old) ?_, ?_⟩
  · rw [World.cell?_alloc_lt _ _ t (by first | omega | (simp; omega)), World.cell?_alloc_lt _ _ t (by first | omega | (simp; omega)), World.cell?_alloc_lt _ _ t (by first | omega | (simp; omega)), World.cell?_alloc_lt _ _ t (by first | omega | (simp; omega)), World.cell?_alloc_lt _ _ t htl]; exact ht0
  · refine Below.setCell ?_ (Nat.le_refl _) _
    exact Below.alloc (Below.alloc (Below.alloc (Below.alloc (Below.alloc (Below.refl _ _) (by first | omega | (simp; omega)) _) (by first | omega | (simp; omega)) _) (by first | omega | (simp; omega)) _) (by first | omega | (simp; omega)) _) (by first | omega | (simp; omega)) _

set_option maxHeartbeats 4000000 in
set_option maxRecDepth 10000 in
theorem as_two (s s2 : ByteArray) (n n2 r : Int) (t : Addr) (old : Value) (w : World) (hg : w.cell? ⟨0, 0, none⟩ = some (.iface 237 (.agg #[.pointer (some ⟨1, 104, none⟩)]))) (ht0 : w.cell? t = some old) (hf0 : w.frozen? t = false) :
    Calls Tryz.prog 87 #[.iface 158 (.agg #[.string s, .int .i64 n, .iface 158 (.agg #[.string s2, .int .i64 n2, .iface 156 (.int .i64 r)])]), .iface 160 (.pointer (some t))] w fun ev w' => ev = .returned (.bool true) ∧ w'.cell? t = some (.int .i64 r) ∧ Below t.block w w' := by
  have h66 := @run_callFunc_extern Tryz.prog 129 _ (fun args => ReflectliteValue.unpack (args.getD 0 (.tuple #[]))) Tryz.func129 (by kernel_rfl) (by kernel_rfl) (by kernel_rfl) (by kernel_rfl)
  have h67 := @run_callFunc_extern Tryz.prog 130 _ (ReflectliteValue.methodAny (ReflectliteValue.valueError "reflectlite.Value.Type" 0) (fun t _ _ _ => ReflectliteType.toType t)) Tryz.func130 (by kernel_rfl) (by kernel_rfl) (by kernel_rfl) (by kernel_rfl)
  have h68 := @run_callFunc_extern Tryz.prog 131 _ (ReflectliteValue.method (ReflectliteValue.valueError "reflectlite.Value.IsNil" 0) ReflectliteValue.isNil) Tryz.func131 (by kernel_rfl) (by kernel_rfl) (by kernel_rfl) (by kernel_rfl)
  have h91 := @run_callFunc_extern Tryz.prog 216 _ (ReflectliteType.abiMethod fun t => do pure (.int .u8 (← Rtype.kind t))) Tryz.func216 (by kernel_rfl) (by kernel_rfl) (by kernel_rfl) (by kernel_rfl)
  have h103 := @run_callFunc_extern Tryz.prog 228 _ (ReflectliteType.method ReflectliteType.elem) Tryz.func228 (by kernel_rfl) (by kernel_rfl) (by kernel_rfl) (by kernel_rfl)
  have h104 := @run_callFunc_extern Tryz.prog 229 _ (ReflectliteType.relation "Implements" ReflectliteType.implements_) Tryz.func229 (by kernel_rfl) (by kernel_rfl) (by kernel_rfl) (by kernel_rfl)
  have f7 := valueOf119
  have f8 := type119
  have f9 := methodKind
  have f10 := methodElem
  have f11 := methodImplements
  have f12 := kind119
  have f13 := kind115
  have f14 := elem119
  have f15 := implements115
  have hlt := block_lt_of_cell hg
  have htl := block_lt_of_cell ht0
  have n8 := isNil119 ⟨w.heap.size, 0, none⟩ t ((w.alloc (.cells #[.pointer (some t)] 160)).alloc (.cells #[.pointer (some ⟨1, 160, none⟩), .pointer (some ⟨w.heap.size, 0, none⟩), .int .u64 150] 207)) (by simp)
  have hg2 : ((w.alloc (.cells #[.pointer (some t)] 160)).alloc (.cells #[.pointer (some ⟨1, 160, none⟩), .pointer (some ⟨w.heap.size, 0, none⟩), .int .u64 150] 207)).cell? ⟨0, 0, none⟩ = some (.iface 237 (.agg #[.pointer (some ⟨1, 104, none⟩)])) := by
    rw [World.cell?_alloc_lt _ _ ⟨0, 0, none⟩ (by simp), World.cell?_alloc_lt _ _ ⟨0, 0, none⟩ hlt]; exact hg
  go_enter Tryz.func87, Tryz.ntmps87
  go_wp2_with fail
  refine (as69_two s s2 n n2 r t ⟨w.heap.size, 0, none⟩ old _ ?c1 ?c2 ?c3).mono ?_
  case c1 => simp
  case c2 => rw [World.cell?_alloc_lt _ _ t (by first | omega | (simp; omega)), World.cell?_alloc_lt _ _ t htl]; exact ht0
  case c3 => rw [World.frozen?_alloc_old _ _ t (by first | omega | (simp; omega)), World.frozen?_alloc_old _ _ t (by omega)]; exact hf0
  rintro e w' ⟨rfl, o1, o2, o3, o4, rfl⟩
  go_wp2
  go_ret
  refine ⟨rfl, World.cell?_setCell_same _ _ _ (u := old) ?_, ?_⟩
  · rw [World.cell?_alloc_lt _ _ t (by first | omega | (simp; omega)), World.cell?_alloc_lt _ _ t (by first | omega | (simp; omega)), World.cell?_alloc_lt _ _ t (by first | omega | (simp; omega)), World.cell?_alloc_lt _ _ t (by first | omega | (simp; omega)), World.cell?_alloc_lt _ _ t (by first | omega | (simp; omega)), World.cell?_alloc_lt _ _ t htl]; exact ht0
  · refine Below.setCell ?_ (Nat.le_refl _) _
    exact Below.alloc (Below.alloc (Below.alloc (Below.alloc (Below.alloc (Below.alloc (Below.refl _ _) (by first | omega | (simp; omega)) _) (by first | omega | (simp; omega)) _) (by first | omega | (simp; omega)) _) (by first | omega | (simp; omega)) _) (by first | omega | (simp; omega)) _) (by first | omega | (simp; omega)) _
end Go.Proofs.YtpkiefjanmfgfaaGreatDoor
namespace Go.Proofs.YtpkiefjanmfgfaaGreatDoor
open Go.RowKit

def Handle (w : World) : Prop := w.cell? ⟨0, 0, none⟩ = some (.iface 237 (.agg #[.pointer (some ⟨1, 104, none⟩)]))

theorem Handle.lt {w : World} (h : Handle w) : 0 < w.heap.size := block_lt_of_cell (a := ⟨0, 0, none⟩) h
theorem Handle.alloc {w : World} (h : Handle w) (o : Obj) : Handle (w.alloc o) := by
  unfold Handle; rw [World.cell?_alloc_lt _ _ ⟨0, 0, none⟩ h.lt]; exact h

set_option maxHeartbeats 400000 in
theorem errno_nil (w : World) :
    Calls Tryz.prog 43 #[.nilIface] w fun e w' => e = .returned (.int .i64 0) ∧ Below w.heap.size w w' := by
  go_enter Tryz.func43, Tryz.ntmps43
  go_wp2_with (go_at_call 87; refine (as_nil _ _).mono ?_; rintro e w' ⟨rfl, rfl⟩)
  go_ret
  exact ⟨rfl, (Below.refl _ _).alloc (Nat.le_refl _) _⟩

set_option maxHeartbeats 1000000 in
theorem errno_one (s : ByteArray) (n r : Int) (w : World) (hg : Handle w) :
    Calls Tryz.prog 43 #[.iface 158 (.agg #[.string s, .int .i64 n, .iface 156 (.int .i64 r)])] w fun e w' => e = .returned (.int .i64 r) ∧ Below w.heap.size w w' := by
  go_enter Tryz.func43, Tryz.ntmps43
  go_wp2_with fail
  refine (as_one s n r ⟨w.heap.size, 0, none⟩ (.int .i64 0) _ (hg.alloc _) ?c2 ?c3).mono ?_
  case c2 => simp
  case c3 => simp
  rintro e w1 ⟨rfl, hc, hb⟩
  go_wp2
  go_ret
  exact ⟨rfl, ((Below.refl _ _).alloc (Nat.le_refl _) _).trans hb⟩

set_option maxHeartbeats 1000000 in
theorem errno_two (s s2 : ByteArray) (n n2 r : Int) (w : World) (hg : Handle w) :
    Calls Tryz.prog 43 #[.iface 158 (.agg #[.string s, .int .i64 n, .iface 158 (.agg #[.string s2, .int .i64 n2, .iface 156 (.int .i64 r)])])] w fun e w' => e = .returned (.int .i64 r) ∧ Below w.heap.size w w' := by
  go_enter Tryz.func43, Tryz.ntmps43
  go_wp2_with fail
  refine (as_two s s2 n n2 r ⟨w.heap.size, 0, none⟩ (.int .i64 0) _ (hg.alloc _) ?c2 ?c3).mono ?_
  case c2 => simp
  case c3 => simp
  rintro e w1 ⟨rfl, hc, hb⟩
  go_wp2
  go_ret
  exact ⟨rfl, ((Below.refl _ _).alloc (Nat.le_refl _) _).trans hb⟩
end Go.Proofs.YtpkiefjanmfgfaaGreatDoor
namespace Go.Proofs.YtpkiefjanmfgfaaGreatDoor
open Go.RowKit Go.Extern.Stop Go.Stop Go.Extern

set_option maxHeartbeats 8000000 in
set_option maxRecDepth 10000 in
theorem as69_three (s s2 s3 : ByteArray) (n n2 n3 r : Int) (t a : Addr) (old : Value) (w : World) (ha : w.cell? a = some (.pointer (some t))) (ht0 : w.cell? t = some old) (hf0 : w.frozen? t = false) :
    Calls Tryz.prog 132 #[.iface 158 (.agg #[.string s, .int .i64 n, .iface 158 (.agg #[.string s2, .int .i64 n2, .iface 158 (.agg #[.string s3, .int .i64 n3, .iface 156 (.int .i64 r)])])]), .iface 160 (.pointer (some t)), .agg #[.pointer (some ⟨1, 160, none⟩), .pointer (some a), .int .u64 150], .iface 237 (.agg #[.pointer (some ⟨1, 156, none⟩)])] w
      fun ev w' => ev = .returned (.bool true) ∧ ∃ o1 o2 o3 o4 o5, w' = (((((w.alloc o1).alloc o2).alloc o3).alloc o4).alloc o5).setCell t (.int .i64 r) := by
  have h66 := @run_callFunc_extern Tryz.prog 129 _ (fun args => ReflectliteValue.unpack (args.getD 0 (.tuple #[]))) Tryz.func129 (by kernel_rfl) (by kernel_rfl) (by kernel_rfl) (by kernel_rfl)
  have h73 := @run_callFunc_extern Tryz.prog 158 _ ReflectliteType.typeOf Tryz.func158 (by kernel_rfl) (by kernel_rfl) (by kernel_rfl) (by kernel_rfl)
  have h101 := @run_callFunc_extern Tryz.prog 226 _ (ReflectliteType.relation "AssignableTo" ReflectliteType.assignableTo) Tryz.func226 (by kernel_rfl) (by kernel_rfl) (by kernel_rfl) (by kernel_rfl)
  have h74 := @run_callFunc_extern Tryz.prog 159 _ (ReflectliteValue.method (ReflectliteValue.valueError "reflectlite.Value.Elem" 0) ReflectliteValue.elem) Tryz.func159 (by kernel_rfl) (by kernel_rfl) (by kernel_rfl) (by kernel_rfl)
  have h75 := @run_callFunc_extern Tryz.prog 160 _ ReflectliteValue.set Tryz.func160 (by kernel_rfl) (by kernel_rfl) (by kernel_rfl) (by kernel_rfl)
  have f1 := typeOf115
  have f2 := typeOf117
  have f3 := methodAssignableTo
  have f4 := assignable115
  have f5 := assignable117
  have f6 := valueOf115
  have f16 := noAs117
  have f17 := hasUnwrap117
  have f18 := methodUnwrap
  have hal := block_lt_of_cell ha
  have htl := block_lt_of_cell ht0
  have ca : ∀ o1 o2 o3 o4, ((((w.alloc o1).alloc o2).alloc o3).alloc o4).cell? a = some (.pointer (some t)) := fun o1 o2 o3 o4 => by
    rw [World.cell?_alloc_lt _ _ a (by simp; omega), World.cell?_alloc_lt _ _ a (by simp; omega), World.cell?_alloc_lt _ _ a (by simp; omega), World.cell?_alloc_lt _ _ a hal]; exact ha
  have el := fun o1 o2 o3 o4 => elemV119 a t _ (ca o1 o2 o3 o4)
  have st := fun o1 o2 o3 o4 => set115 t ⟨w.heap.size + 1 + 1 + 1 + 1, 0, none⟩ r old (((((w.alloc o1).alloc o2).alloc o3).alloc o4).alloc (.cells #[.int .i64 r] 156))
    (by rw [World.cell?_alloc_at _ _ _ _ (by simp)]; rfl)
    (by rw [World.cell?_alloc_lt _ _ t (by simp; omega), World.cell?_alloc_lt _ _ t (by simp; omega), World.cell?_alloc_lt _ _ t (by simp; omega), World.cell?_alloc_lt _ _ t (by simp; omega), World.cell?_alloc_lt _ _ t htl]; exact ht0)
    (by rw [World.frozen?_alloc_old _ _ t (by simp; omega), World.frozen?_alloc_old _ _ t (by simp; omega), World.frozen?_alloc_old _ _ t (by simp; omega), World.frozen?_alloc_old _ _ t (by simp; omega), World.frozen?_alloc_old _ _ t (by omega)]; exact hf0)
  clear ca
  go_enter Tryz.func132, Tryz.ntmps132
  go_wp2
  refine wp_loop_rounds 4 ?_
  rw [rounds_succ]
  go_wp2
  rw [rounds_succ]
  go_wp2
  rw [rounds_succ]
  go_wp2
  rw [rounds_succ]
  go_wp2
  go_ret
  exact ⟨rfl, _, _, _, _, _, rfl⟩

set_option maxHeartbeats 8000000 in
set_option maxRecDepth 10000 in
theorem as_three (s s2 s3 : ByteArray) (n n2 n3 r : Int) (t : Addr) (old : Value) (w : World) (hg : w.cell? ⟨0, 0, none⟩ = some (.iface 237 (.agg #[.pointer (some ⟨1, 104, none⟩)]))) (ht0 : w.cell? t = some old) (hf0 : w.frozen? t = false) :
    Calls Tryz.prog 87 #[.iface 158 (.agg #[.string s, .int .i64 n, .iface 158 (.agg #[.string s2, .int .i64 n2, .iface 158 (.agg #[.string s3, .int .i64 n3, .iface 156 (.int .i64 r)])])]), .iface 160 (.pointer (some t))] w fun ev w' => ev = .returned (.bool true) ∧ w'.cell? t = some (.int .i64 r) ∧ Below t.block w w' := by
  have h66 := @run_callFunc_extern Tryz.prog 129 _ (fun args => ReflectliteValue.unpack (args.getD 0 (.tuple #[]))) Tryz.func129 (by kernel_rfl) (by kernel_rfl) (by kernel_rfl) (by kernel_rfl)
  have h67 := @run_callFunc_extern Tryz.prog 130 _ (ReflectliteValue.methodAny (ReflectliteValue.valueError "reflectlite.Value.Type" 0) (fun t _ _ _ => ReflectliteType.toType t)) Tryz.func130 (by kernel_rfl) (by kernel_rfl) (by kernel_rfl) (by kernel_rfl)
  have h68 := @run_callFunc_extern Tryz.prog 131 _ (ReflectliteValue.method (ReflectliteValue.valueError "reflectlite.Value.IsNil" 0) ReflectliteValue.isNil) Tryz.func131 (by kernel_rfl) (by kernel_rfl) (by kernel_rfl) (by kernel_rfl)
  have h91 := @run_callFunc_extern Tryz.prog 216 _ (ReflectliteType.abiMethod fun t => do pure (.int .u8 (← Rtype.kind t))) Tryz.func216 (by kernel_rfl) (by kernel_rfl) (by kernel_rfl) (by kernel_rfl)
  have h103 := @run_callFunc_extern Tryz.prog 228 _ (ReflectliteType.method ReflectliteType.elem) Tryz.func228 (by kernel_rfl) (by kernel_rfl) (by kernel_rfl) (by kernel_rfl)
  have h104 := @run_callFunc_extern Tryz.prog 229 _ (ReflectliteType.relation "Implements" ReflectliteType.implements_) Tryz.func229 (by kernel_rfl) (by kernel_rfl) (by kernel_rfl) (by kernel_rfl)
  have f7 := valueOf119
  have f8 := type119
  have f9 := methodKind
  have f10 := methodElem
  have f11 := methodImplements
  have f12 := kind119
  have f13 := kind115
  have f14 := elem119
  have f15 := implements115
  have hlt := block_lt_of_cell hg
  have htl := block_lt_of_cell ht0
  have n8 := isNil119 ⟨w.heap.size, 0, none⟩ t ((w.alloc (.cells #[.pointer (some t)] 160)).alloc (.cells #[.pointer (some ⟨1, 160, none⟩), .pointer (some ⟨w.heap.size, 0, none⟩), .int .u64 150] 207)) (by simp)
  have hg2 : ((w.alloc (.cells #[.pointer (some t)] 160)).alloc (.cells #[.pointer (some ⟨1, 160, none⟩), .pointer (some ⟨w.heap.size, 0, none⟩), .int .u64 150] 207)).cell? ⟨0, 0, none⟩ = some (.iface 237 (.agg #[.pointer (some ⟨1, 104, none⟩)])) := by
    rw [World.cell?_alloc_lt _ _ ⟨0, 0, none⟩ (by simp), World.cell?_alloc_lt _ _ ⟨0, 0, none⟩ hlt]; exact hg
  go_enter Tryz.func87, Tryz.ntmps87
  go_wp2_with fail
  refine (as69_three s s2 s3 n n2 n3 r t ⟨w.heap.size, 0, none⟩ old _ ?c1 ?c2 ?c3).mono ?_
  case c1 => simp
  case c2 => rw [World.cell?_alloc_lt _ _ t (by first | omega | (simp; omega)), World.cell?_alloc_lt _ _ t htl]; exact ht0
  case c3 => rw [World.frozen?_alloc_old _ _ t (by first | omega | (simp; omega)), World.frozen?_alloc_old _ _ t (by omega)]; exact hf0
  rintro e w' ⟨rfl, o1, o2, o3, o4, o5, rfl⟩
  go_wp2
  go_ret
  refine ⟨rfl, World.cell?_setCell_same _ _ _ (u := old) ?_, ?_⟩
  · rw [World.cell?_alloc_lt _ _ t (by first | omega | (simp; omega)), World.cell?_alloc_lt _ _ t (by first | omega | (simp; omega)), World.cell?_alloc_lt _ _ t (by first | omega | (simp; omega)), World.cell?_alloc_lt _ _ t (by first | omega | (simp; omega)), World.cell?_alloc_lt _ _ t (by first | omega | (simp; omega)), World.cell?_alloc_lt _ _ t (by first | omega | (simp; omega)), World.cell?_alloc_lt _ _ t htl]; exact ht0
  · refine Below.setCell ?_ (Nat.le_refl _) _
    exact Below.alloc (Below.alloc (Below.alloc (Below.alloc (Below.alloc (Below.alloc (Below.alloc (Below.refl _ _) (by first | omega | (simp; omega)) _) (by first | omega | (simp; omega)) _) (by first | omega | (simp; omega)) _) (by first | omega | (simp; omega)) _) (by first | omega | (simp; omega)) _) (by first | omega | (simp; omega)) _) (by first | omega | (simp; omega)) _

set_option maxHeartbeats 1000000 in
theorem errno_three (s s2 s3 : ByteArray) (n n2 n3 r : Int) (w : World) (hg : Handle w) :
    Calls Tryz.prog 43 #[.iface 158 (.agg #[.string s, .int .i64 n, .iface 158 (.agg #[.string s2, .int .i64 n2, .iface 158 (.agg #[.string s3, .int .i64 n3, .iface 156 (.int .i64 r)])])])] w fun e w' => e = .returned (.int .i64 r) ∧ Below w.heap.size w w' := by
  go_enter Tryz.func43, Tryz.ntmps43
  go_wp2_with fail
  refine (as_three s s2 s3 n n2 n3 r ⟨w.heap.size, 0, none⟩ (.int .i64 0) _ (hg.alloc _) ?c2 ?c3).mono ?_
  case c2 => simp
  case c3 => simp
  rintro e w1 ⟨rfl, hc, hb⟩
  go_wp2
  go_ret
  exact ⟨rfl, ((Below.refl _ _).alloc (Nat.le_refl _) _).trans hb⟩
end Go.Proofs.YtpkiefjanmfgfaaGreatDoor
namespace Go.Proofs.YtpkiefjanmfgfaaGreatDoor
open Go.RowKit Go.Extern.Stop Go.Stop Go.Extern

theorem comparable115 (w : World) : (callFunc 227 #[.agg #[.pointer (some ⟨1, 156, none⟩)]]).run Tryz.prog w = .ok (.value (.bool true)) w := by kernel_rfl
theorem methodComparable (v : Value) (w : World) : (Go.method 413 237 v "Comparable").run Tryz.prog w = .ok (227, v) w := by kernel_rfl
theorem eql5 (w : World) : (binOp .eql 104 (.iface 156 (.int .i64 5)) (.iface 156 (.int .i64 5))).run Tryz.prog w = .ok (.bool true) w := by kernel_rfl

theorem is_nil (w : World) :
    Calls Tryz.prog 133 #[.nilIface, .iface 156 (.int .i64 5)] w fun e w' => e = .returned (.bool false) ∧ w = w' := by
  have hn := run_eql_iface_nil_left (P := Tryz.prog) w 156 (.int .i64 5) Tryz.underlying104
  go_enter Tryz.func133, Tryz.ntmps133
  go_wp2
  go_ret
  exact ⟨rfl, rfl⟩

set_option maxHeartbeats 4000000 in
set_option maxRecDepth 10000 in
theorem is_none (s : ByteArray) (n : Int) (w : World) :
    Calls Tryz.prog 133 #[.iface 158 (.agg #[.string s, .int .i64 n, .iface 156 (.int .i64 5)]), .iface 156 (.int .i64 5)] w fun e w' => e = .returned (.bool true) ∧ w.alloc (.cells #[.string s, .int .i64 n, .iface 156 (.int .i64 5)] 158) = w' := by
  have h73 := @run_callFunc_extern Tryz.prog 158 _ ReflectliteType.typeOf Tryz.func158 (by kernel_rfl) (by kernel_rfl) (by kernel_rfl) (by kernel_rfl)
  have f1 := typeOf115
  have f2 := comparable115
  have f3 := methodComparable
  have f16 := noIs117
  have f17 := hasUnwrap117
  have f18 := methodUnwrap
  have f19 := eql5
  have hty := fun v w => run_eql_iface_types (P := Tryz.prog) 158 156 v (.int .i64 5) Tryz.underlying104 (by decide) w
  go_enter Tryz.func133, Tryz.ntmps133
  go_wp2
  refine wp_loop_rounds 2 ?_
  rw [rounds_succ]
  go_wp2
  rw [rounds_succ]
  go_wp2
  go_ret
  exact ⟨rfl, rfl⟩
end Go.Proofs.YtpkiefjanmfgfaaGreatDoor
namespace Go.Proofs.YtpkiefjanmfgfaaGreatDoor
open Go.RowKit

def IsErr (r : Int) (v : Value) : Prop :=
  (r = 0 ∧ v = .nilIface) ∨ (r ≠ 0 ∧ ((∃ s n, v = .iface 158 (.agg #[.string s, .int .i64 n, .iface 156 (.int .i64 r)])) ∨
    ∃ s n s2 n2, v = .iface 158 (.agg #[.string s, .int .i64 n, .iface 158 (.agg #[.string s2, .int .i64 n2, .iface 156 (.int .i64 r)])])))

theorem errno_any (r : Int) (v : Value) (h : IsErr r v) (w : World) (hg : Handle w) :
    Calls Tryz.prog 43 #[v] w fun e w' => e = .returned (.int .i64 r) ∧ Below w.heap.size w w' := by
  rcases h with ⟨rfl, rfl⟩ | ⟨_, ⟨s, n, rfl⟩ | ⟨s, n, s2, n2, rfl⟩⟩
  · exact errno_nil w
  · exact errno_one s n r w hg
  · exact errno_two s s2 n n2 r w hg

def IntsAt (w : World) (v : Value) (xs : List Int) : Prop :=
  ∃ a cap, v = .slice a xs.length cap ∧ xs.length ≤ cap ∧ xs.length ≤ 17592186044416 ∧
    (xs = [] ∨ ∃ b off, a = some ⟨b, off, none⟩ ∧ ∀ i, i < xs.length → w.cell? ⟨b, off + i, none⟩ = some (.int .i64 (xs.getD i 0)))

def coordB (x : Int) : Bool := inB x (-1048576) 1048576

def ptCode (dim : Int) (xs : List Int) : Int := if (xs.length : Int) = dim then (if xs.all coordB then 0 else 3) else 2

theorem all_snoc (xs : List Int) (k : Nat) (h : k < xs.length) : (xs.take (k + 1)).all coordB = ((xs.take k).all coordB && coordB (xs.getD k 0)) := by
  rw [List.take_succ_eq_append_getElem h, List.all_append]
  simp [List.getD_eq_getElem?_getD, h]

end Go.Proofs.YtpkiefjanmfgfaaGreatDoor
namespace Go.Proofs.YtpkiefjanmfgfaaGreatDoor
open Go.RowKit

theorem ptCode_dim (xs : List Int) (dim : Int) (h : ¬ (xs.length : Int) = dim) : ptCode dim xs = 2 := by simp [ptCode, h]
theorem ptCode_bad (xs : List Int) (dim : Int) (h : (xs.length : Int) = dim) (k : Nat) (hk : k < xs.length) (hb : coordB (xs.getD k 0) = false) : ptCode dim xs = 3 := by
  have : xs.all coordB = false := by
    rw [List.all_eq_false]
    refine ⟨xs.getD k 0, ?_, by rw [hb]; decide⟩
    simp [List.getD_eq_getElem?_getD, hk]
  simp [ptCode, h, this]
theorem ptCode_ok (xs : List Int) (dim : Int) (h : (xs.length : Int) = dim) (hb : (xs.take xs.length).all coordB = true) : ptCode dim xs = 0 := by
  rw [List.take_length] at hb
  simp [ptCode, h, hb]

set_option maxHeartbeats 1000000 in
theorem point27_long (xs : List Int) (b off cap : Nat) (w : World) (hm : xs.length ≤ 17592186044416)
    (hc : ∀ i, i < xs.length → w.cell? ⟨b, off + i, none⟩ = some (.int .i64 (xs.getD i 0))) (_hcap : xs.length ≤ cap) :
    Calls Tryz.prog 42 #[.slice (some ⟨b, off, none⟩) xs.length cap, .int .i64 xs.length] w fun e w' => (∃ v, e = .returned v ∧ IsErr (ptCode xs.length xs) v) ∧ Below w.heap.size w w' := by
  have hne : ((xs.length : Int) != (xs.length : Int)) = false := by simp
  go_enter Tryz.func42, Tryz.ntmps42
  go_wp2
  go_loop [19] (fun i => ∃ k : Nat, k ≤ xs.length ∧ i = .int .i64 k ∧ (xs.take k).all coordB = true) (fun i => xs.length - (intOf i).toNat)
  case atStart => exact ⟨0, Nat.zero_le _, rfl, by simp⟩
  case round =>
    obtain ⟨k, hk, rfl, hall⟩ := hrel
    have HA : Hid ((xs.take k).all coordB = true) := hall
    clear hall
    by_cases hlt : k < xs.length
    · have hck := hc k hlt
      have HS : Hid ((xs.take (k + 1)).all coordB = ((xs.take k).all coordB && coordB (xs.getD k 0))) := all_snoc xs k hlt
      have HB : Hid (coordB (xs.getD k 0) = false → ptCode xs.length xs = 3) := ptCode_bad xs _ rfl k hlt
      clear hc
      generalize xs.getD k 0 = x at *
      cases hb : inB x (-1048576) 1048576
      · go_wp2_with (go_at_call 86; refine (within_any _ _ _ _).mono ?_; rintro e w' ⟨rfl, rfl⟩)
        go_ret
        exact ⟨⟨_, rfl, by rw [HB.out hb]; exact .inr ⟨by decide, .inr ⟨_, _, _, _, rfl⟩⟩⟩, (Below.refl _ _).alloc (Nat.le_refl _) _⟩
      · go_wp2_with (go_at_call 86; refine (within_any _ _ _ _).mono ?_; rintro e w' ⟨rfl, rfl⟩)
        go_round
        case rel => exact ⟨k + 1, by omega, by go_num, by rw [HS.out, HA.out]; simp [coordB, hb]⟩
        case measure => simp [intOf]; omega
    · have he : k = xs.length := by omega
      have HB : Hid (ptCode xs.length xs = 0) := ptCode_ok xs _ rfl (by rw [← he]; exact HA.out)
      clear he hc
      go_wp2
      go_ret
      exact ⟨⟨_, rfl, by rw [HB.out]; exact .inl ⟨rfl, rfl⟩⟩, Below.refl _ _⟩

set_option maxHeartbeats 1000000 in
theorem point27_nil (a : Option Addr) (cap : Nat) (w : World) :
    Calls Tryz.prog 42 #[.slice a 0 cap, .int .i64 0] w fun e w' => (∃ v, e = .returned v ∧ IsErr (ptCode 0 []) v) ∧ Below w.heap.size w w' := by
  go_enter Tryz.func42, Tryz.ntmps42
  go_wp2
  refine wp_loop_rounds 1 ?_
  rw [rounds_succ]
  go_wp2
  go_ret
  exact ⟨⟨_, rfl, .inl ⟨by decide, rfl⟩⟩, Below.refl _ _⟩

set_option maxHeartbeats 1000000 in
theorem point27_dim (xs : List Int) (a : Option Addr) (cap : Nat) (dim : Int) (w : World) (hd : ¬ (xs.length : Int) = dim) :
    Calls Tryz.prog 42 #[.slice a xs.length cap, .int .i64 dim] w fun e w' => (∃ v, e = .returned v ∧ IsErr (ptCode dim xs) v) ∧ Below w.heap.size w w' := by
  have HB : Hid (ptCode dim xs = 2) := ptCode_dim xs dim hd
  have hne : ((xs.length : Int) != dim) = true := by simpa using hd
  clear hd
  go_enter Tryz.func42, Tryz.ntmps42
  go_wp2
  go_ret
  exact ⟨⟨_, rfl, by rw [HB.out]; exact .inr ⟨by decide, .inl ⟨_, _, rfl⟩⟩⟩, Below.refl _ _⟩

theorem point27_any (xs : List Int) (v : Value) (dim : Int) (w : World) (h : IntsAt w v xs) :
    Calls Tryz.prog 42 #[v, .int .i64 dim] w fun e w' => (∃ v, e = .returned v ∧ IsErr (ptCode dim xs) v) ∧ Below w.heap.size w w' := by
  obtain ⟨a, cap, rfl, hcap, hm, hx⟩ := h
  by_cases hd : (xs.length : Int) = dim
  · subst hd
    rcases hx with rfl | ⟨b, off, rfl, hc⟩
    · exact point27_nil a cap w
    · exact point27_long xs b off cap w hm hc hcap
  · exact point27_dim xs a cap dim w hd

set_option maxHeartbeats 1000000 in
theorem point59_long (xs : List Int) (b off cap rb : Nat) (w : World) (hm : xs.length ≤ 17592186044416) (hr : w.cell? ⟨rb, 0, none⟩ = some (.int .i64 xs.length))
    (hc : ∀ i, i < xs.length → w.cell? ⟨b, off + i, none⟩ = some (.int .i64 (xs.getD i 0))) (_hcap : xs.length ≤ cap) :
    Calls Tryz.prog 122 #[.pointer (some ⟨rb, 0, none⟩), .slice (some ⟨b, off, none⟩) xs.length cap] w fun e w' => e = .returned (.int .i64 (ptCode xs.length xs)) ∧ w = w' := by
  have hne : ((xs.length : Int) != (xs.length : Int)) = false := by simp
  go_enter Tryz.func122, Tryz.ntmps122
  go_wp2
  go_loop [5] (fun i => ∃ k : Nat, k ≤ xs.length ∧ i = .int .i64 k ∧ (xs.take k).all coordB = true) (fun i => xs.length - (intOf i).toNat)
  case atStart => exact ⟨0, Nat.zero_le _, rfl, by simp⟩
  case round =>
    obtain ⟨k, hk, rfl, hall⟩ := hrel
    have HA : Hid ((xs.take k).all coordB = true) := hall
    clear hall
    by_cases hlt : k < xs.length
    · have hck := hc k hlt
      have HS : Hid ((xs.take (k + 1)).all coordB = ((xs.take k).all coordB && coordB (xs.getD k 0))) := all_snoc xs k hlt
      have HB : Hid (coordB (xs.getD k 0) = false → ptCode xs.length xs = 3) := ptCode_bad xs _ rfl k hlt
      clear hc
      generalize xs.getD k 0 = x at *
      by_cases h1 : x < -1048576
      · go_wp2
        go_ret
        exact ⟨by rw [HB.out (by simp [coordB, inB]; omega)]; rfl, rfl⟩
      · have hd1 : decide (x < -1048576) = false := by simpa using h1
        by_cases h2 : 1048576 < x
        · go_wp2
          go_ret
          exact ⟨by rw [HB.out (by simp [coordB, inB]; omega)]; rfl, rfl⟩
        · go_wp2
          go_round
          case rel => exact ⟨k + 1, by omega, by go_num, by rw [HS.out, HA.out]; simp [coordB, inB]; omega⟩
          case measure => simp [intOf]; omega
    · have he : k = xs.length := by omega
      have HB : Hid (ptCode xs.length xs = 0) := ptCode_ok xs _ rfl (by rw [← he]; exact HA.out)
      clear he hc
      go_wp2
      go_ret
      exact ⟨by rw [HB.out]; rfl, rfl⟩

set_option maxHeartbeats 1000000 in
theorem point59_nil (a : Option Addr) (cap rb : Nat) (w : World) (hr : w.cell? ⟨rb, 0, none⟩ = some (.int .i64 0)) :
    Calls Tryz.prog 122 #[.pointer (some ⟨rb, 0, none⟩), .slice a 0 cap] w fun e w' => e = .returned (.int .i64 (ptCode 0 [])) ∧ w = w' := by
  go_enter Tryz.func122, Tryz.ntmps122
  go_wp2
  refine wp_loop_rounds 1 ?_
  rw [rounds_succ]
  go_wp2
  go_ret
  exact ⟨rfl, rfl⟩

set_option maxHeartbeats 1000000 in
theorem point59_dim (xs : List Int) (a : Option Addr) (cap rb : Nat) (dim : Int) (w : World) (hd : ¬ (xs.length : Int) = dim) (hr : w.cell? ⟨rb, 0, none⟩ = some (.int .i64 dim)) :
    Calls Tryz.prog 122 #[.pointer (some ⟨rb, 0, none⟩), .slice a xs.length cap] w fun e w' => e = .returned (.int .i64 (ptCode dim xs)) ∧ w = w' := by
  have HB : Hid (ptCode dim xs = 2) := ptCode_dim xs dim hd
  have hne : ((xs.length : Int) != dim) = true := by simpa using hd
  clear hd
  go_enter Tryz.func122, Tryz.ntmps122
  go_wp2
  go_ret
  exact ⟨by rw [HB.out]; rfl, rfl⟩

theorem point59_any (xs : List Int) (v : Value) (dim : Int) (rb : Nat) (w : World) (h : IntsAt w v xs) (hr : w.cell? ⟨rb, 0, none⟩ = some (.int .i64 dim)) :
    Calls Tryz.prog 122 #[.pointer (some ⟨rb, 0, none⟩), v] w fun e w' => e = .returned (.int .i64 (ptCode dim xs)) ∧ w = w' := by
  obtain ⟨a, cap, rfl, hcap, hm, hx⟩ := h
  by_cases hd : (xs.length : Int) = dim
  · subst hd
    rcases hx with rfl | ⟨b, off, rfl, hc⟩
    · exact point59_nil a cap rb w hr
    · exact point59_long xs b off cap rb w hm hr hc hcap
  · exact point59_dim xs a cap rb dim w hd hr
end Go.Proofs.YtpkiefjanmfgfaaGreatDoor
namespace Go.Proofs.YtpkiefjanmfgfaaGreatDoor
open Go.RowKit

theorem hide {p : Prop} (h : p) : Hid p := h

structure Kept (S : Nat → Prop) (w w' : World) : Prop where
  os : w'.os = w.os
  tape : w'.tape = w.tape
  output : w'.output = w.output
  size : w.heap.size ≤ w'.heap.size
  block : ∀ k, k < w.heap.size → ¬ S k → w'.heap[k]? = w.heap[k]?

theorem Kept.refl (S : Nat → Prop) (w : World) : Kept S w w := ⟨rfl, rfl, rfl, Nat.le_refl _, fun _ _ _ => rfl⟩
theorem Kept.mono {S T : Nat → Prop} {w w' : World} (h : Kept S w w') (hs : ∀ k, k < w.heap.size → S k → T k) : Kept T w w' :=
  ⟨h.os, h.tape, h.output, h.size, fun k hk hn => h.block k hk (fun s => hn (hs k hk s))⟩
theorem Kept.trans {S T : Nat → Prop} {a b c : World} (h : Kept S a b) (k : Kept T b c) (hs : ∀ j, j < a.heap.size → T j → S j) : Kept S a c :=
  ⟨k.os.trans h.os, k.tape.trans h.tape, k.output.trans h.output, Nat.le_trans h.size k.size,
    fun i hi hn => (k.block i (Nat.lt_of_lt_of_le hi h.size) (fun t => hn (hs i hi t))).trans (h.block i hi hn)⟩
theorem Kept.below {S : Nat → Prop} {a b c : World} (h : Kept S a b) (k : Below b.heap.size b c) : Kept S a c :=
  ⟨k.os.trans h.os, k.tape.trans h.tape, k.output.trans h.output, Nat.le_trans h.size k.size, fun i hi hn => (k.block i (Nat.lt_of_lt_of_le hi h.size)).trans (h.block i hi hn)⟩
theorem Kept.of_below {w w' : World} (S : Nat → Prop) (h : Below w.heap.size w w') : Kept S w w' := (Kept.refl S w).below h
theorem Kept.toBelow {S : Nat → Prop} {B : Nat} {w w' : World} (h : Kept S w w') (hB : B ≤ w.heap.size) (hs : ∀ k, S k → B ≤ k) : Below B w w' :=
  ⟨h.os, h.tape, h.output, h.size, fun k hk => h.block k (by omega) (fun s => by have := hs k s; omega)⟩
theorem Kept.alloc {S : Nat → Prop} {a w : World} (h : Kept S a w) (o : Obj) : Kept S a (w.alloc o) :=
  ⟨h.os, h.tape, h.output, Nat.le_trans h.size (by simp), fun k hk hn => (Below.heap_alloc _ _ _ (Nat.lt_of_lt_of_le hk h.size)).trans (h.block k hk hn)⟩
theorem Kept.drew {S : Nat → Prop} {a w : World} (h : Kept S a w) : Kept S a w.drew := ⟨h.os, h.tape, h.output, h.size, h.block⟩
theorem heap_drewN (w : World) : ∀ n, (w.drewN n).heap = w.heap
  | 0 => rfl
  | _ + 1 => by simp
theorem drewN_os (w : World) : ∀ n, (w.drewN n).os = w.os ∧ (w.drewN n).tape = w.tape ∧ (w.drewN n).output = w.output
  | 0 => ⟨rfl, rfl, rfl⟩
  | n + 1 => drewN_os w.drew n
theorem Kept.drewN {S : Nat → Prop} {a w : World} (h : Kept S a w) (n : Nat) : Kept S a (w.drewN n) :=
  ⟨(drewN_os w n).1.trans h.os, (drewN_os w n).2.1.trans h.tape, (drewN_os w n).2.2.trans h.output, by rw [heap_drewN]; exact h.size, by rw [heap_drewN]; exact h.block⟩
theorem Kept.setCell {S : Nat → Prop} {a w : World} (h : Kept S a w) {p : Addr} (hp : p.block < a.heap.size → S p.block) (u : Value) : Kept S a (w.setCell p u) :=
  ⟨h.os, h.tape, h.output, by simp [World.setCell]; exact h.size, fun k hk hn => (Below.heap_setCell _ _ _ _ (fun e => hn (by subst e; exact hp hk))).trans (h.block k hk hn)⟩
theorem Kept.grown {S : Nat → Prop} {a w w' : World} {row : Option Nat} (h : Kept S a w) (hg : w.grownBy w' row) (hr : ∀ k, row = some k → k < a.heap.size → S k) : Kept S a w' :=
  ⟨hg.os.trans h.os, hg.tape.trans h.tape, hg.output.trans h.output, Nat.le_trans h.size hg.size,
    fun k hk hn => (hg.block k (Nat.lt_of_lt_of_le hk h.size) (fun e => hn (hr k e.symm hk))).trans (h.block k hk hn)⟩

theorem Kept.cell {S : Nat → Prop} {w w' : World} (h : Kept S w w') {b o : Nat} {v : Value} (hc : w.cell? ⟨b, o, none⟩ = some v) (hn : ¬ S b) : w'.cell? ⟨b, o, none⟩ = some v :=
  (World.cell?_of_block (w := w) (a := ⟨b, o, none⟩) (h.block b (block_lt_of_cell (a := ⟨b, o, none⟩) hc) hn)).trans hc
theorem Kept.frozen {S : Nat → Prop} {w w' : World} (h : Kept S w w') {b : Nat} (o : Nat) (hb : b < w.heap.size) (hn : ¬ S b) : w'.frozen? ⟨b, o, none⟩ = w.frozen? ⟨b, o, none⟩ :=
  World.frozen?_of_block (w := w) (a := ⟨b, o, none⟩) (h.block b hb hn)

theorem Below.undrew {w w' : World} (h : Below w.drew.heap.size w.drew w') : Below w.heap.size w w' := ⟨h.os, h.tape, h.output, h.size, h.block⟩
theorem Below.at {B : Nat} {w w' : World} (h : Below B w w') {b o : Nat} {v : Value} (hc : w.cell? ⟨b, o, none⟩ = some v) (hb : b < B) : w'.cell? ⟨b, o, none⟩ = some v := (h.cell (p := ⟨b, o, none⟩) hb).trans hc

section
variable {w w' : World} {base e size : Nat} {v : Value} {n : Nat} {xs : List Value}
theorem ownsRow_of_block (h : w.ownsRow base e size v n xs) (hb : ∀ g, v.ownBlock = some g → w'.heap[g]? = w.heap[g]?) : w'.ownsRow base e size v n xs := by
  refine ⟨h.1, ?_⟩
  rcases h.2 with hn | ⟨g, cap, cur, rfl, hb1, hg, rest⟩
  · exact .inl hn
  · exact .inr ⟨g, cap, cur, rfl, hb1, (hb g rfl).trans hg, rest⟩
theorem ownsRow_zero (h : w.ownsRow base e size v n xs) : w.ownsRow 0 e size v n xs := by
  refine ⟨h.1, ?_⟩
  rcases h.2 with hn | ⟨g, cap, cur, rfl, hb1, rest⟩
  · exact .inl hn
  · exact .inr ⟨g, cap, cur, rfl, Nat.zero_le _, rest⟩
theorem ownsRow_kept {S : Nat → Prop} (h : w.ownsRow base e size v n xs) (hk : Kept S w w') (hs : ∀ g, v.ownBlock = some g → ¬ S g) : w'.ownsRow base e size v n xs :=
  ownsRow_of_block h fun g hg => hk.block g (h.lt g hg).2 (hs g hg)
theorem ownsRow_below (h : w.ownsRow base e size v n xs) (hk : Below w.heap.size w w') : w'.ownsRow base e size v n xs :=
  ownsRow_of_block h fun g hg => hk.block g (h.lt g hg).2
theorem ownsRow_drewN (h : w.ownsRow base e size v n xs) (k : Nat) : (w.drewN k).ownsRow base e size v n xs := ownsRow_of_block h fun g _ => by rw [heap_drewN]
theorem ownsRow_obj (h : w.ownsRow base e size v n xs) {g : Nat} (hg : v.ownBlock = some g) : ∃ cur, w.heap[g]? = some (.cells cur e (0, 0)) := by
  rcases h.2 with ⟨rfl, _⟩ | ⟨g', cap, cur, rfl, _, hh, _⟩
  · simp [Value.ownBlock] at hg
  · simp [Value.ownBlock] at hg; subst hg; exact ⟨cur, hh⟩
end

abbrev Pts (w : World) (g cap : Nat) (xs : List Int) : Prop := w.ownsRow 0 3 1 (.slice (some ⟨g, 0, none⟩) xs.length cap) xs.length (xs.map (Value.int .i64))

theorem Pts.cell {w : World} {g cap : Nat} {xs : List Int} (h : Pts w g cap xs) : ∀ i, i < xs.length → w.cell? ⟨g, 0 + i, none⟩ = some (.int .i64 (xs.getD i 0)) := by
  intro i hi
  have := h.cells (g := g) rfl i (.int .i64 (xs.getD i 0)) (by simp [List.getD_eq_getElem?_getD, hi])
  rw [← this]
  unfold Addr.add
  split
  · subst_vars; rfl
  · rfl
end Go.Proofs.YtpkiefjanmfgfaaGreatDoor
