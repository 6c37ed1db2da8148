import Derived.Test.YtpkiefjanmfgfaaGreatDoorCards
import Derived.Test.YtpkiefjanmfgfaaGreatDoorTie
import Derived.Deep.DeepHandedRow
import Derived.Lib.LaidTab
import Derived.LaidHandle
import Derived.Test.YtpkiefjanmfgfaaGreatDoorGra01
import Derived.Test.YtpkiefjanmfgfaaGreatDoorGra08
import Derived.Test.YtpkiefjanmfgfaaGreatDoorGra12
import Derived.Test.YtpkiefjanmfgfaaGreatDoorGra13
import Derived.Test.YtpkiefjanmfgfaaGreatDoorGra14
import Derived.Test.YtpkiefjanmfgfaaGreatDoorGra17
namespace Go.Proofs.YtpkiefjanmfgfaaGreatDoor
open Go.ChangeShapes Go.WideShapes Go.RowKit

section
variable {H : Type} {enc : TypeId × Value → H} {W : World} {hd : Bool}

theorem weights_all {P : Program} {e : TypeId} : ∀ {l : List (DataW H)} {d : DataW H}, d ∈ l → ∀ k ∈ d.weights P e, k ∈ DataW.weightsAll P e l
  | x :: r, d, hm, k, hk => by
    simp only [DataW.weightsAll, List.mem_append]
    rcases List.mem_cons.1 hm with rfl | hm
    · exact .inl hk
    · exact .inr (weights_all hm k hk)
  | [], _, hm, _, _ => by cases hm

theorem u64_wf {n : Int} (h : (Lit.int .u64 n).wf = true) : 0 ≤ n ∧ n < 18446744073709551616 := by
  have h1 : IntKind.u64.min = 0 := by decide
  have h2 : IntKind.u64.max = 18446744073709551615 := by decide
  simp [Lit.wf, h1, h2] at h
  omega

structure OpCells (W : World) (cs : List Value) (kd id kk be t0 t1 draw : Int) (xs : List Int) (pa : Option Addr) (pc : Nat) (fa : Option Addr) (fn fc : Nat) : Prop where
  all : cs = [.int .i64 kd, .int .i64 id, .int .i64 kk, .int .i64 be, .slice pa xs.length pc, .int .i64 t0, .int .i64 t1, .int .u64 draw, .slice fa fn fc]
  pt : IntsAt W (.slice pa xs.length pc) xs
  wf : I64 id
  dr : 0 ≤ draw ∧ draw < 18446744073709551616
  sz : (xs.length + 6) * 8 ≤ 140737488355328

end
end Go.Proofs.YtpkiefjanmfgfaaGreatDoor
namespace Go.Proofs.YtpkiefjanmfgfaaGreatDoor
open Go.ChangeShapes Go.WideShapes Go.ChangeAt Go.RowKit

theorem knob : ownKnob Tryz.prog.godebug = none := by kernel_rfl
theorem errVar : Tryz.prog.globalNamed "errors.errorType" = some 0 := by kernel_rfl
theorem rtypeRow : (Tryz.prog.cutTypes.find? (·.1 == "internal/reflectlite.rtype")).map (·.2) = some 237 := by kernel_rfl
theorem errRow : ((List.range 313).filter fun t => Tryz.prog.rowNamed t [101, 114, 114, 111, 114]) = [104] := by kernel_rfl
theorem typesSize : Tryz.prog.types.size = 313 := by kernel_rfl
theorem read23 : Tryz.prog.readableRec 23 = true := by kernel_rfl
theorem read24 : Tryz.prog.readableRec 24 = true := by kernel_rfl

noncomputable def laidWorld (os : Os) : World :=
  let w0 := World.holding Tryz.prog os ⟨#[], #[], []⟩
  { w0 with heap := w0.heap.modify 0 fun
      | .cells _ t frozen => .cells #[.iface 237 (.agg #[.pointer (some ⟨1, 104, none⟩)])] t frozen
      | o => o }
noncomputable def noArgs : Array Value := #[.agg #[.int .i64 0, .int .i64 0, .int .i64 0, .int .i64 0, .int .i64 0, .int .i64 0], .slice none 0 0]
end Go.Proofs.YtpkiefjanmfgfaaGreatDoor
namespace Go.Proofs.YtpkiefjanmfgfaaGreatDoor
open Go.RowKit Go.Extern.Stop Go.Stop Go.Extern

set_option maxHeartbeats 8000000 in
set_option maxRecDepth 10000 in
theorem as69_three (s s2 s3 : ByteArray) (n n2 n3 r : Int) (t a : Addr) (old : Value) (w : World) (ha : w.cell? a = some (.pointer (some t))) (ht0 : w.cell? t = some old) (hf0 : w.frozen? t = false) :
    Calls Tryz.prog 132 #[.iface 158 (.agg #[.string s, .int .i64 n, .iface 158 (.agg #[.string s2, .int .i64 n2, .iface 158 (.agg #[.string s3, .int .i64 n3, .iface 156 (.int .i64 r)])])]), .iface 160 (.pointer (some t)), .agg #[.pointer (some ⟨1, 160, none⟩), .pointer (some a), .int .u64 150], .iface 237 (.agg #[.pointer (some ⟨1, 156, none⟩)])] w
      fun ev w' => ev = .returned (.bool true) ∧ ∃ o1 o2 o3 o4 o5, w' = (((((w.alloc o1).alloc o2).alloc o3).alloc o4).alloc o5).setCell t (.int .i64 r) := by
  have h66 := @run_callFunc_extern Tryz.prog 129 _ (fun args => ReflectliteValue.unpack (args.getD 0 (.tuple #[]))) Tryz.func129 (by kernel_rfl) (by kernel_rfl) (by kernel_rfl) (by kernel_rfl)
  have h73 := @run_callFunc_extern Tryz.prog 158 _ ReflectliteType.typeOf Tryz.func158 (by kernel_rfl) (by kernel_rfl) (by kernel_rfl) (by kernel_rfl)
  have h101 := @run_callFunc_extern Tryz.prog 226 _ (ReflectliteType.relation "AssignableTo" ReflectliteType.assignableTo) Tryz.func226 (by kernel_rfl) (by kernel_rfl) (by kernel_rfl) (by kernel_rfl)
  have h74 := @run_callFunc_extern Tryz.prog 159 _ (ReflectliteValue.method (ReflectliteValue.valueError "reflectlite.Value.Elem" 0) ReflectliteValue.elem) Tryz.func159 (by kernel_rfl) (by kernel_rfl) (by kernel_rfl) (by kernel_rfl)
  have h75 := @run_callFunc_extern Tryz.prog 160 _ ReflectliteValue.set Tryz.func160 (by kernel_rfl) (by kernel_rfl) (by kernel_rfl) (by kernel_rfl)
  have f1 := typeOf115
  have f2 := typeOf117
  have f3 := methodAssignableTo
  have f4 := assignable115
  have f5 := assignable117
  have f6 := valueOf115
  have f16 := noAs117
  have f17 := hasUnwrap117
  have f18 := methodUnwrap
  have hal := block_lt_of_cell ha
  have htl := block_lt_of_cell ht0
  have ca : ∀ o1 o2 o3 o4, ((((w.alloc o1).alloc o2).alloc o3).alloc o4).cell? a = some (.pointer (some t)) := fun o1 o2 o3 o4 => by
    rw [World.cell?_alloc_lt _ _ a (by simp; omega), World.cell?_alloc_lt _ _ a (by simp; omega), World.cell?_alloc_lt _ _ a (by simp; omega), World.cell?_alloc_lt _ _ a hal]; exact ha
  have el := fun o1 o2 o3 o4 => elemV119 a t _ (ca o1 o2 o3 o4)
  have st := fun o1 o2 o3 o4 => set115 t ⟨w.heap.size + 1 + 1 + 1 + 1, 0, none⟩ r old (((((w.alloc o1).alloc o2).alloc o3).alloc o4).alloc (.cells #[.int .i64 r] 156))
    (by rw [World.cell?_alloc_at _ _ _ _ (by simp)]; rfl)
    (by rw [World.cell?_alloc_lt _ _ t (by simp; omega), World.cell?_alloc_lt _ _ t (by simp; omega), World.cell?_alloc_lt _ _ t (by simp; omega), World.cell?_alloc_lt _ _ t (by simp; omega), World.cell?_alloc_lt _ _ t htl]; exact ht0)
    (by rw [World.frozen?_alloc_old _ _ t (by simp; omega), World.frozen?_alloc_old _ _ t (by simp; omega), World.frozen?_alloc_old _ _ t (by simp; omega), World.frozen?_alloc_old _ _ t (by simp; omega), World.frozen?_alloc_old _ _ t (by omega)]; exact hf0)
  clear ca
  go_enter Tryz.func132, Tryz.ntmps132
  go_wp2
  refine wp_loop_rounds 4 ?_
  rw [rounds_succ]
  go_wp2
  rw [rounds_succ]
  go_wp2
  rw [rounds_succ]
  go_wp2
  rw [rounds_succ]
  go_wp2
  go_ret
  exact ⟨rfl, _, _, _, _, _, rfl⟩

set_option maxHeartbeats 8000000 in
set_option maxRecDepth 10000 in
theorem as_three (s s2 s3 : ByteArray) (n n2 n3 r : Int) (t : Addr) (old : Value) (w : World) (hg : w.cell? ⟨0, 0, none⟩ = some (.iface 237 (.agg #[.pointer (some ⟨1, 104, none⟩)]))) (ht0 : w.cell? t = some old) (hf0 : w.frozen? t = false) :
    Calls Tryz.prog 87 #[.iface 158 (.agg #[.string s, .int .i64 n, .iface 158 (.agg #[.string s2, .int .i64 n2, .iface 158 (.agg #[.string s3, .int .i64 n3, .iface 156 (.int .i64 r)])])]), .iface 160 (.pointer (some t))] w fun ev w' => ev = .returned (.bool true) ∧ w'.cell? t = some (.int .i64 r) ∧ Below t.block w w' := by
  have h66 := @run_callFunc_extern Tryz.prog 129 _ (fun args => ReflectliteValue.unpack (args.getD 0 (.tuple #[]))) Tryz.func129 (by kernel_rfl) (by kernel_rfl) (by kernel_rfl) (by kernel_rfl)
  have h67 := @run_callFunc_extern Tryz.prog 130 _ (ReflectliteValue.methodAny (ReflectliteValue.valueError "reflectlite.Value.Type" 0) (fun t _ _ _ => ReflectliteType.toType t)) Tryz.func130 (by kernel_rfl) (by kernel_rfl) (by kernel_rfl) (by kernel_rfl)
  have h68 := @run_callFunc_extern Tryz.prog 131 _ (ReflectliteValue.method (ReflectliteValue.valueError "reflectlite.Value.IsNil" 0) ReflectliteValue.isNil) Tryz.func131 (by kernel_rfl) (by kernel_rfl) (by kernel_rfl) (by kernel_rfl)
  have h91 := @run_callFunc_extern Tryz.prog 216 _ (ReflectliteType.abiMethod fun t => do pure (.int .u8 (← Rtype.kind t))) Tryz.func216 (by kernel_rfl) (by kernel_rfl) (by kernel_rfl) (by kernel_rfl)
  have h103 := @run_callFunc_extern Tryz.prog 228 _ (ReflectliteType.method ReflectliteType.elem) Tryz.func228 (by kernel_rfl) (by kernel_rfl) (by kernel_rfl) (by kernel_rfl)
  have h104 := @run_callFunc_extern Tryz.prog 229 _ (ReflectliteType.relation "Implements" ReflectliteType.implements_) Tryz.func229 (by kernel_rfl) (by kernel_rfl) (by kernel_rfl) (by kernel_rfl)
  have f7 := valueOf119
  have f8 := type119
  have f9 := methodKind
  have f10 := methodElem
  have f11 := methodImplements
  have f12 := kind119
  have f13 := kind115
  have f14 := elem119
  have f15 := implements115
  have hlt := block_lt_of_cell hg
  have htl := block_lt_of_cell ht0
  have n8 := isNil119 ⟨w.heap.size, 0, none⟩ t ((w.alloc (.cells #[.pointer (some t)] 160)).alloc (.cells #[.pointer (some ⟨1, 160, none⟩), .pointer (some ⟨w.heap.size, 0, none⟩), .int .u64 150] 207)) (by simp)
  have hg2 : ((w.alloc (.cells #[.pointer (some t)] 160)).alloc (.cells #[.pointer (some ⟨1, 160, none⟩), .pointer (some ⟨w.heap.size, 0, none⟩), .int .u64 150] 207)).cell? ⟨0, 0, none⟩ = some (.iface 237 (.agg #[.pointer (some ⟨1, 104, none⟩)])) := by
    rw [World.cell?_alloc_lt _ _ ⟨0, 0, none⟩ (by simp), World.cell?_alloc_lt _ _ ⟨0, 0, none⟩ hlt]; exact hg
  go_enter Tryz.func87, Tryz.ntmps87
  go_wp2_with fail
  refine (as69_three s s2 s3 n n2 n3 r t ⟨w.heap.size, 0, none⟩ old _ ?c1 ?c2 ?c3).mono ?_
  case c1 => simp
  case c2 => rw [World.cell?_alloc_lt _ _ t (by first | omega | (simp; omega)), World.cell?_alloc_lt _ _ t htl]; exact ht0
  case c3 => rw [World.frozen?_alloc_old _ _ t (by first | omega | (simp; omega)), World.frozen?_alloc_old _ _ t (by omega)]; exact hf0
  rintro e w' ⟨rfl, o1, o2, o3, o4, o5, rfl⟩
  go_wp2
  go_ret
  refine ⟨rfl, World.cell?_setCell_same _ _ _ (u := old) ?_, ?_⟩
  · rw [World.cell?_alloc_lt _ _ t (by first | omega | (simp; omega)), World.cell?_alloc_lt _ _ t (by first | omega | (simp; omega)), World.cell?_alloc_lt _ _ t (by first | omega | (simp; omega)), World.cell?_alloc_lt _ _ t (by first | omega | (simp; omega)), World.cell?_alloc_lt _ _ t (by first | omega | (simp; omega)), World.cell?_alloc_lt _ _ t (by first | omega | (simp; omega)), World.cell?_alloc_lt _ _ t htl]; exact ht0
  · refine Below.setCell ?_ (Nat.le_refl _) _
    exact Below.alloc (Below.alloc (Below.alloc (Below.alloc (Below.alloc (Below.alloc (Below.alloc (Below.refl _ _) (by first | omega | (simp; omega)) _) (by first | omega | (simp; omega)) _) (by first | omega | (simp; omega)) _) (by first | omega | (simp; omega)) _) (by first | omega | (simp; omega)) _) (by first | omega | (simp; omega)) _) (by first | omega | (simp; omega)) _

set_option maxHeartbeats 1000000 in
theorem errno_three (s s2 s3 : ByteArray) (n n2 n3 r : Int) (w : World) (hg : Handle w) :
    Calls Tryz.prog 43 #[.iface 158 (.agg #[.string s, .int .i64 n, .iface 158 (.agg #[.string s2, .int .i64 n2, .iface 158 (.agg #[.string s3, .int .i64 n3, .iface 156 (.int .i64 r)])])])] w fun e w' => e = .returned (.int .i64 r) ∧ Below w.heap.size w w' := by
  go_enter Tryz.func43, Tryz.ntmps43
  go_wp2_with fail
  refine (as_three s s2 s3 n n2 n3 r ⟨w.heap.size, 0, none⟩ (.int .i64 0) _ (hg.alloc _) ?c2 ?c3).mono ?_
  case c2 => simp
  case c3 => simp
  rintro e w1 ⟨rfl, hc, hb⟩
  go_wp2
  go_ret
  exact ⟨rfl, ((Below.refl _ _).alloc (Nat.le_refl _) _).trans hb⟩
end Go.Proofs.YtpkiefjanmfgfaaGreatDoor
namespace Go.Proofs.YtpkiefjanmfgfaaGreatDoor
open Go.RowKit Go.Maps

def ErrN : Nat → Int → Value → Prop
  | 0, r, v => v = .iface 156 (.int .i64 r)
  | n + 1, r, v => ∃ s m u, v = .iface 158 (.agg #[.string s, .int .i64 m, u]) ∧ ErrN n r u
def ErrD (d : Nat) (r : Int) (v : Value) : Prop := (r = 0 ∧ v = .nilIface) ∨ (r ≠ 0 ∧ ∃ k, 1 ≤ k ∧ k ≤ d ∧ ErrN k r v)
theorem ErrD.mono {d d' : Nat} {r : Int} {v : Value} (h : ErrD d r v) (hd : d ≤ d') : ErrD d' r v := h.imp id fun ⟨h1, k, h2, h3, h4⟩ => ⟨h1, k, h2, Nat.le_trans h3 hd, h4⟩
theorem ErrD.one {r : Int} (h : r ≠ 0) (s : ByteArray) (m : Int) : ErrD 1 r (.iface 158 (.agg #[.string s, .int .i64 m, .iface 156 (.int .i64 r)])) := .inr ⟨h, 1, Nat.le_refl _, Nat.le_refl _, s, m, _, rfl, rfl⟩
theorem ErrD.of_isErr {r : Int} {v : Value} (h : IsErr r v) : ErrD 2 r v := by
  rcases h with ⟨h0, rfl⟩ | ⟨h0, ⟨s, n, rfl⟩ | ⟨s, n, s2, n2, rfl⟩⟩
  · exact .inl ⟨h0, rfl⟩
  · exact .inr ⟨h0, 1, by omega, by omega, s, n, _, rfl, rfl⟩
  · exact .inr ⟨h0, 2, by omega, by omega, s, n, _, rfl, s2, n2, _, rfl, rfl⟩
theorem errno_deep (r : Int) (v : Value) (w : World) (hv : ErrD 3 r v) (hg : Handle w) :
    Calls Tryz.prog 43 #[v] w fun e w' => e = .returned (.int .i64 r) ∧ Below w.heap.size w w' := by
  rcases hv with ⟨rfl, rfl⟩ | ⟨_, k, h1, h3, hk⟩
  · exact errno_nil w
  · match k, h1, h3, hk with
    | 1, _, _, ⟨s, m, u, e, e2⟩ =>
      subst e; obtain rfl : u = _ := e2
      exact errno_one s m r w hg
    | 2, _, _, ⟨s, m, u, e, s2, m2, u2, e2, e3⟩ =>
      subst e; subst e2; obtain rfl : u2 = _ := e3
      exact errno_two s s2 m m2 r w hg
    | 3, _, _, ⟨s, m, u, e, s2, m2, u2, e2, s3, m3, u3, e3, e4⟩ =>
      subst e; subst e2; subst e3; obtain rfl : u3 = _ := e4
      exact errno_three s s2 s3 m m2 m3 r w hg

abbrev Cnd := Int × Int × Int
def okCode (b : Bool) : Int := if b = true then 0 else 7
theorem okCode_true : okCode true = 0 := rfl
theorem okCode_false : okCode false = 7 := rfl
def condB (c : Cnd) : Bool := inB c.1 0 1 && inB c.2.1 0 3
def clauseB (cs : List Cnd) : Bool := decide (cs.length ≤ 6) && cs.all condB
def filtB (F : List (List Cnd)) : Bool := decide (F.length ≤ 6) && F.all clauseB
def CondsAt (w : World) (v : Value) (cs : List Cnd) : Prop :=
  ∃ a cap, v = .slice a cs.length cap ∧ cs.length ≤ cap ∧ cs.length ≤ 17592186044416 ∧
    (cs = [] ∨ ∃ b off, a = some ⟨b, off, none⟩ ∧ ∀ i, i < cs.length → w.cell? ⟨b, off + i * 3, none⟩ = some (.int .i64 (cs.getD i (0, 0, 0)).1) ∧ w.cell? ⟨b, off + i * 3 + 1, none⟩ = some (.int .i64 (cs.getD i (0, 0, 0)).2.1) ∧ w.cell? ⟨b, off + i * 3 + 2, none⟩ = some (.int .i64 (cs.getD i (0, 0, 0)).2.2))
def FiltAt (w : World) (v : Value) (F : List (List Cnd)) : Prop :=
  ∃ a cap, v = .slice a F.length cap ∧ F.length ≤ cap ∧ F.length ≤ 17592186044416 ∧
    (F = [] ∨ ∃ b off, a = some ⟨b, off, none⟩ ∧ ∀ i, i < F.length → ∃ u, w.cell? ⟨b, off + i, none⟩ = some u ∧ CondsAt w u (F.getD i []))
theorem CondsAt.below {w w' : World} {v : Value} {cs : List Cnd} (h : CondsAt w v cs) (hb : Below w.heap.size w w') : CondsAt w' v cs := by
  obtain ⟨a, cap, rfl, h1, h2, h3⟩ := h
  refine ⟨a, cap, rfl, h1, h2, h3.imp id ?_⟩
  rintro ⟨b, off, rfl, hc⟩
  exact ⟨b, off, rfl, fun i hi => ⟨cell_below (hc i hi).1 hb, cell_below (hc i hi).2.1 hb, cell_below (hc i hi).2.2 hb⟩⟩
theorem FiltAt.below {w w' : World} {v : Value} {F : List (List Cnd)} (h : FiltAt w v F) (hb : Below w.heap.size w w') : FiltAt w' v F := by
  obtain ⟨a, cap, rfl, h1, h2, h3⟩ := h
  refine ⟨a, cap, rfl, h1, h2, h3.imp id ?_⟩
  rintro ⟨b, off, rfl, hc⟩
  refine ⟨b, off, rfl, fun i hi => ?_⟩
  obtain ⟨u, hu, hcu⟩ := hc i hi
  exact ⟨u, cell_below hu hb, hcu.below hb⟩

set_option maxHeartbeats 1000000 in
theorem condition159 (t o v : Int) (w : World) : Calls Tryz.prog 169 #[.agg #[.int .i64 t, .int .i64 o, .int .i64 v]] w fun e w' => (∃ u, e = .returned u ∧ ErrD 1 (okCode (condB (t, o, v))) u) ∧ Below w.heap.size w w' := by
  have hc : condB (t, o, v) = (inB t 0 1 && inB o 0 3) := rfl
  rw [hc]
  clear hc
  have hB : ∀ ob, Below w.heap.size w (w.alloc ob) := fun ob => (Below.refl _ _).alloc (Nat.le_refl _) _
  cases h1 : inB t 0 1
  · go_enter Tryz.func169, Tryz.ntmps169
    go_wp2_with (go_at_call 86; refine (within_any _ _ _ _).mono ?_; rintro e w' ⟨rfl, rfl⟩)
    go_ret
    exact ⟨⟨_, rfl, by rw [Bool.false_and, okCode_false]; exact ErrD.one (by decide) _ _⟩, hB _⟩
  · cases h2 : inB o 0 3
    · go_enter Tryz.func169, Tryz.ntmps169
      go_wp2_with (go_at_call 86; refine (within_any _ _ _ _).mono ?_; rintro e w' ⟨rfl, rfl⟩)
      go_ret
      exact ⟨⟨_, rfl, ErrD.one (by decide) _ _⟩, hB _⟩
    · go_enter Tryz.func169, Tryz.ntmps169
      go_wp2_with (go_at_call 86; refine (within_any _ _ _ _).mono ?_; rintro e w' ⟨rfl, rfl⟩)
      go_ret
      exact ⟨⟨_, rfl, .inl ⟨rfl, rfl⟩⟩, hB _⟩

theorem ErrD.up {d : Nat} {r : Int} {u : Value} (h : ErrD d r u) (hr : r ≠ 0) (s : ByteArray) (m : Int) : ErrD (d + 1) r (.iface 158 (.agg #[.string s, .int .i64 m, u])) := by
  rcases h with ⟨h0, _⟩ | ⟨h0, k, h1, h2, h3⟩
  · exact absurd h0 hr
  · exact .inr ⟨h0, k + 1, by omega, by omega, s, m, u, rfl, h3⟩
theorem ErrD.shape {d : Nat} {r : Int} {u : Value} (h : ErrD d r u) (hr : r ≠ 0) : ∃ x, u = .iface 158 x := by
  rcases h with ⟨h0, _⟩ | ⟨h0, k, h1, h2, h3⟩
  · exact absurd h0 hr
  · match k, h1, h3 with
    | n + 1, _, ⟨s, m, u', e, _⟩ => exact ⟨_, e⟩
theorem all_take_succ {α : Type} (p : α → Bool) (xs : List α) (k : Nat) (d : α) (h : k < xs.length) : (xs.take (k + 1)).all p = ((xs.take k).all p && p (xs.getD k d)) := by
  rw [List.take_succ_eq_append_getElem h, List.all_append]
  simp [List.getD_eq_getElem?_getD, h]
theorem all_bad {α : Type} {p : α → Bool} {xs : List α} {k : Nat} {d : α} (h : k < xs.length) (hb : p (xs.getD k d) = false) : xs.all p = false := by
  rw [List.all_eq_false]
  refine ⟨xs.getD k d, ?_, by rw [hb]; decide⟩
  simp [List.getD_eq_getElem?_getD, h]

set_option maxHeartbeats 2000000 in
set_option maxRecDepth 20000 in
theorem clause139 (v : Value) (cs : List Cnd) (w : World) (h : CondsAt w v cs) : Calls Tryz.prog 146 #[v] w fun e w' => (∃ u, e = .returned u ∧ ErrD 2 (okCode (clauseB cs)) u) ∧ Below w.heap.size w w' := by
  obtain ⟨a, cap, rfl, hcap, hm, hx⟩ := h
  by_cases h6 : cs.length ≤ 6
  · have hd : decide (6 < (cs.length : Int)) = false := decide_eq_false (by omega)
    have HCB : Hid (clauseB cs = cs.all condB) := by
      show _ = _
      unfold clauseB
      simp [h6]
    have HX := hide hx
    clear hx
    go_enter Tryz.func146, Tryz.ntmps146
    go_wp2
    go_loopw [3, 4, 5, 16] (fun _ _ _ i wr => ∃ k : Nat, i = .int .i64 k ∧ k ≤ cs.length ∧ Hid ((cs.take k).all condB = true) ∧ Hid (Below w.heap.size w wr)) (fun _ _ _ i _ => cs.length - (intOf i).toNat)
    case atStart => exact ⟨0, rfl, Nat.zero_le _, rfl, Below.refl _ _⟩
    case round =>
      obtain ⟨k, rfl, hk, HA, HB⟩ := hrel
      by_cases hlt : k < cs.length
      · obtain ⟨b, off, rfl, hc⟩ : ∃ b off, a = some ⟨b, off, none⟩ ∧ ∀ i, i < cs.length → w.cell? ⟨b, off + i * 3, none⟩ = some (.int .i64 (cs.getD i (0, 0, 0)).1) ∧ w.cell? ⟨b, off + i * 3 + 1, none⟩ = some (.int .i64 (cs.getD i (0, 0, 0)).2.1) ∧ w.cell? ⟨b, off + i * 3 + 2, none⟩ = some (.int .i64 (cs.getD i (0, 0, 0)).2.2) := by
          rcases HX.out with rfl | h
          · exact absurd hlt (Nat.not_lt_zero _)
          · exact h
        obtain ⟨c0, c1, c2⟩ := hc k hlt
        have y0 := cell_below c0 HB.out
        have y1 := cell_below c1 HB.out
        have y2 := cell_below c2 HB.out
        have HS : Hid ((cs.take (k + 1)).all condB = ((cs.take k).all condB && condB (cs.getD k (0, 0, 0)))) := all_take_succ condB cs k _ hlt
        have HBD : Hid (condB (cs.getD k (0, 0, 0)) = false → cs.all condB = false) := fun h => all_bad hlt h
        generalize cs.getD k (0, 0, 0) = c at y0 y1 y2 HS HBD
        obtain ⟨t, o, x⟩ := c
        simp only at y0 y1 y2
        have hcd := condition159 t o x (wr.alloc (.cells #[.int .i64 t, .int .i64 o, .int .i64 x] 72))
        have HCD := hide hcd
        clear hcd hc c0 c1 c2
        cases hcb : condB (t, o, x)
        · rw [hcb, okCode_false] at HCD
          go_wp2_with fail
          refine HCD.out.mono ?_
          rintro e3 w3 ⟨⟨u, rfl, he⟩, hb3⟩
          obtain ⟨ux, rfl⟩ := he.shape (by decide)
          have HE := hide he
          have hB3 := HB.out.trans ((((Below.refl _ _).alloc (Nat.le_refl _) _).trans (hb3.mono (by simp))).mono HB.out.size)
          clear y0 y1 y2 hb3 he
          go_wp2
          go_ret
          refine ⟨⟨_, rfl, ?_⟩, hB3⟩
          rw [HCB.out, HBD.out hcb, okCode_false]
          exact HE.out.up (by decide) _ _
        · rw [hcb, okCode_true] at HCD
          go_wp2_with fail
          refine HCD.out.mono ?_
          rintro e3 w3 ⟨⟨u, rfl, he⟩, hb3⟩
          obtain rfl : u = .nilIface := by
            rcases he with ⟨_, h⟩ | ⟨h, _⟩
            · exact h
            · exact absurd rfl h
          have hB3 := HB.out.trans ((((Below.refl _ _).alloc (Nat.le_refl _) _).trans (hb3.mono (by simp))).mono HB.out.size)
          clear y0 y1 y2 hb3 he
          go_wp2
          refine ⟨⟨k + 1, by go_num, by omega, ?_, hB3⟩, by simp [intOf]; omega⟩
          show _ = _
          rw [HS.out, HA.out, hcb]; rfl
      · go_wp2
        go_ret
        obtain rfl : k = cs.length := by omega
        have := HA.out
        rw [List.take_length] at this
        exact ⟨⟨_, rfl, .inl ⟨by rw [HCB.out, this]; rfl, rfl⟩⟩, HB.out⟩
  · have hd : decide (6 < (cs.length : Int)) = true := decide_eq_true (by omega)
    have hcb : clauseB cs = false := by
      unfold clauseB
      simp [h6]
    go_enter Tryz.func146, Tryz.ntmps146
    go_wp2
    go_ret
    refine ⟨⟨_, rfl, ?_⟩, Below.refl _ _⟩
    rw [hcb]
    exact (ErrD.one (by decide) _ _).mono (by omega)

set_option maxHeartbeats 2000000 in
set_option maxRecDepth 20000 in
theorem filter96 (v : Value) (F : List (List Cnd)) (w : World) (h : FiltAt w v F) : Calls Tryz.prog 100 #[.agg #[v]] w fun e w' => (∃ u, e = .returned u ∧ ErrD 3 (okCode (filtB F)) u) ∧ Below w.heap.size w w' := by
  obtain ⟨a, cap, rfl, hcap, hm, hx⟩ := h
  have hB0 : Below w.heap.size w (w.alloc (.cells #[.slice a F.length cap] 47)) := (Below.refl _ _).alloc (Nat.le_refl _) _
  by_cases h6 : F.length ≤ 6
  · have hd : decide (6 < (F.length : Int)) = false := decide_eq_false (by omega)
    have HCB : Hid (filtB F = F.all clauseB) := by
      show _ = _
      unfold filtB
      simp [h6]
    have HX := hide hx
    have HB0 := hide hB0
    clear hx hB0
    go_enter Tryz.func100, Tryz.ntmps100
    go_wp2
    generalize hwe : w.alloc (.cells #[.slice a F.length cap] 47) = w1 at HB0 ⊢
    clear hwe
    go_loopw [3, 4, 5, 19] (fun _ _ _ i wr => ∃ k : Nat, i = .int .i64 k ∧ k ≤ F.length ∧ Hid ((F.take k).all clauseB = true) ∧ Hid (Below w.heap.size w wr)) (fun _ _ _ i _ => F.length - (intOf i).toNat)
    case atStart => exact ⟨0, rfl, Nat.zero_le _, rfl, HB0.out⟩
    case round =>
      obtain ⟨k, rfl, hk, HA, HB⟩ := hrel
      by_cases hlt : k < F.length
      · obtain ⟨b, off, rfl, hc⟩ : ∃ b off, a = some ⟨b, off, none⟩ ∧ ∀ i, i < F.length → ∃ u, w.cell? ⟨b, off + i, none⟩ = some u ∧ CondsAt w u (F.getD i []) := by
          rcases HX.out with rfl | h
          · exact absurd hlt (Nat.not_lt_zero _)
          · exact h
        obtain ⟨u, hu, hcu⟩ := hc k hlt
        have y0 := cell_below hu HB.out
        have hcr := hcu.below HB.out
        have HS : Hid ((F.take (k + 1)).all clauseB = ((F.take k).all clauseB && clauseB (F.getD k []))) := all_take_succ clauseB F k _ hlt
        have HBD : Hid (clauseB (F.getD k []) = false → F.all clauseB = false) := fun h => all_bad hlt h
        generalize F.getD k [] = cs at hcr HS HBD
        have hcl := clause139 u cs wr hcr
        obtain ⟨ua, uc, rfl, _⟩ := hcr
        have HCL := hide hcl
        clear hcl hc hu hcu
        cases hcb : clauseB cs
        · rw [hcb, okCode_false] at HCL
          go_wp2_with fail
          refine HCL.out.mono ?_
          rintro e3 w3 ⟨⟨u, rfl, he⟩, hb3⟩
          obtain ⟨ux, rfl⟩ := he.shape (by decide)
          have HE := hide he
          have hB3 := HB.out.trans (hb3.mono HB.out.size)
          clear y0 hb3 he
          go_wp2
          go_ret
          refine ⟨⟨_, rfl, ?_⟩, hB3⟩
          rw [HCB.out, HBD.out hcb, okCode_false]
          exact HE.out.up (by decide) _ _
        · rw [hcb, okCode_true] at HCL
          go_wp2_with fail
          refine HCL.out.mono ?_
          rintro e3 w3 ⟨⟨u, rfl, he⟩, hb3⟩
          obtain rfl : u = .nilIface := by
            rcases he with ⟨_, h⟩ | ⟨h, _⟩
            · exact h
            · exact absurd rfl h
          have hB3 := HB.out.trans (hb3.mono HB.out.size)
          clear y0 hb3 he
          go_wp2
          refine ⟨⟨k + 1, by go_num, by omega, ?_, hB3⟩, by simp [intOf]; omega⟩
          show _ = _
          rw [HS.out, HA.out, hcb]; rfl
      · go_wp2
        go_ret
        obtain rfl : k = F.length := by omega
        have := HA.out
        rw [List.take_length] at this
        exact ⟨⟨_, rfl, .inl ⟨by rw [HCB.out, this]; rfl, rfl⟩⟩, HB.out⟩
  · have hd : decide (6 < (F.length : Int)) = true := decide_eq_true (by omega)
    have hcb : filtB F = false := by
      unfold filtB
      simp [h6]
    go_enter Tryz.func100, Tryz.ntmps100
    go_wp2
    go_ret
    refine ⟨⟨_, rfl, ?_⟩, hB0⟩
    rw [hcb]
    exact (ErrD.one (by decide) _ _).mono (by omega)

def schCode (dim : Int) (xs : List Int) (k beam : Int) (F : List (List Cnd)) : Int :=
  if ptCode dim xs ≠ 0 then ptCode dim xs else if inB k 1 60 = true ∧ inB beam 1 100 = true then okCode (filtB F) else 6

set_option maxHeartbeats 2000000 in
set_option maxRecDepth 20000 in
theorem search47 (dim : Int) (pv : Value) (xs : List Int) (k beam : Int) (fv : Value) (F : List (List Cnd)) (w : World) (hp : IntsAt w pv xs) (hf : FiltAt w fv F) :
    Calls Tryz.prog 50 #[pv, .int .i64 dim, .int .i64 k, .int .i64 beam, .agg #[fv]] w fun e w' => (∃ u, e = .returned u ∧ ErrD 3 (schCode dim xs k beam F) u) ∧ Below w.heap.size w w' := by
  have hB0 : Below w.heap.size w (w.alloc (.cells #[fv] 47)) := (Below.refl _ _).alloc (Nat.le_refl _) _
  have hpt := point27_any xs pv dim (w.alloc (.cells #[fv] 47)) (by
    obtain ⟨a, cap, rfl, h1, h2, h3⟩ := hp
    refine ⟨a, cap, rfl, h1, h2, h3.imp id ?_⟩
    rintro ⟨b, off, rfl, hc⟩
    exact ⟨b, off, rfl, fun i hi => cell_below (hc i hi) hB0⟩)
  obtain ⟨pa, pcap, rfl, _⟩ := hp
  obtain ⟨fa, fcap, rfl, _⟩ := id hf
  have HPT := hide hpt
  have HF := hide hf
  have HB0 := hide hB0
  have HSC : Hid (schCode dim xs k beam F = if ptCode dim xs ≠ 0 then ptCode dim xs else if inB k 1 60 = true ∧ inB beam 1 100 = true then okCode (filtB F) else 6) := rfl
  clear hpt hf hB0
  generalize schCode dim xs k beam F = sc at HSC
  by_cases hpc : ptCode dim xs = 0
  · rw [hpc] at HPT
    have HSC2 : Hid (sc = if inB k 1 60 = true ∧ inB beam 1 100 = true then okCode (filtB F) else 6) := by
      have := HSC.out
      rw [hpc] at this
      show sc = _
      simpa using this
    go_enter Tryz.func50, Tryz.ntmps50
    go_wp2_with fail
    refine HPT.out.mono ?_
    rintro e1 w1 ⟨⟨u, rfl, hu⟩, hb1⟩
    obtain rfl : u = .nilIface := by
      rcases hu with ⟨_, h⟩ | ⟨h, _⟩
      · exact h
      · exact absurd rfl h
    have hB1 := HB0.out.trans (hb1.mono HB0.out.size)
    have hz : w1.cell? ⟨w.heap.size, 0, none⟩ = some (.slice fa F.length fcap) := Below.at hb1 (by simp) (by simp)
    have HB1 := hide hB1
    have hft := fun W (hW : Below w1.heap.size w1 W) => filter96 _ F W ((HF.out.below hB1).below hW)
    have HFT := hide hft
    clear hb1 hu hB1 hft HPT
    cases hk : inB k 1 60
    · go_wp2_with (go_at_call 86; refine (within_any _ _ _ _).mono ?_; rintro e w' ⟨rfl, rfl⟩)
      go_ret
      refine ⟨⟨_, rfl, ?_⟩, HB1.out⟩
      rw [HSC2.out, hk, if_neg (by simp)]
      exact (ErrD.one (by decide) _ _).mono (by omega)
    · cases hb : inB beam 1 100
      · go_wp2_with (go_at_call 86; refine (within_any _ _ _ _).mono ?_; rintro e w' ⟨rfl, rfl⟩)
        go_ret
        refine ⟨⟨_, rfl, ?_⟩, HB1.out⟩
        rw [HSC2.out, hb, if_neg (by simp)]
        exact (ErrD.one (by decide) _ _).mono (by omega)
      · go_wp2_with (first | (go_at_call 86; refine (within_any _ _ _ _).mono ?_; rintro e w' ⟨rfl, rfl⟩) | (go_at_call 100; refine (HFT.out w1 (Below.refl _ _)).mono ?_; rintro e2 w2 ⟨⟨u2, rfl, hu2⟩, hb2⟩))
        go_ret
        refine ⟨⟨_, rfl, ?_⟩, HB1.out.trans (hb2.mono HB1.out.size)⟩
        rw [HSC2.out, hk, hb, if_pos ⟨rfl, rfl⟩]
        exact hu2
  · have HSC2 : Hid (sc = ptCode dim xs) := by
      have := HSC.out
      rw [if_pos hpc] at this
      exact this
    go_enter Tryz.func50, Tryz.ntmps50
    go_wp2_with fail
    refine HPT.out.mono ?_
    rintro e1 w1 ⟨⟨u, rfl, hu⟩, hb1⟩
    have hB1 := HB0.out.trans (hb1.mono HB0.out.size)
    have hE := ErrD.of_isErr hu
    obtain ⟨ux, rfl⟩ := hE.shape hpc
    have HE := hide hE
    clear hE hu hb1
    go_wp2
    go_ret
    refine ⟨⟨_, rfl, ?_⟩, hB1⟩
    rw [HSC2.out]
    exact HE.out.mono (by omega)
end Go.Proofs.YtpkiefjanmfgfaaGreatDoor
namespace Go.Proofs.YtpkiefjanmfgfaaGreatDoor
open Go.RowKit Go.Maps

def holdV (o v x : Int) : Bool := if o = 0 then decide (x = v) else if o = 1 then decide (x ≠ v) else if o = 2 then decide (x < v) else decide (v ≤ x)
def holdB (t0 t1 : Int) (c : Cnd) : Bool := holdV c.2.1 c.2.2 (if c.1 = 0 then t0 else t1)
def passB (F : List (List Cnd)) (t0 t1 : Int) : Bool := F.any (fun cs => cs.all (holdB t0 t1)) || decide (F = [])

set_option maxHeartbeats 1000000 in
theorem holds141 (t o v x : Int) (w : World) : Calls Tryz.prog 148 #[.agg #[.int .i64 t, .int .i64 o, .int .i64 v], .int .i64 x] w fun e w' => e = .returned (.bool (holdV o v x)) ∧ Below w.heap.size w w' := by
  have hB : ∀ ob, Below w.heap.size w (w.alloc ob) := fun ob => (Below.refl _ _).alloc (Nat.le_refl _) _
  have HV : Hid (holdV o v x = if o = 0 then decide (x = v) else if o = 1 then decide (x ≠ v) else if o = 2 then decide (x < v) else decide (v ≤ x)) := rfl
  generalize holdV o v x = hv at HV
  by_cases h0 : o = 0
  · subst h0
    go_enter Tryz.func148, Tryz.ntmps148
    go_wp2
    go_ret
    exact ⟨by rw [HV.out]; simp [BEq.beq], hB _⟩
  · have d0 : (o == 0) = false := by simpa using h0
    by_cases h1 : o = 1
    · subst h1
      go_enter Tryz.func148, Tryz.ntmps148
      go_wp2
      go_ret
      exact ⟨by rw [HV.out]; simp [bne, BEq.beq], hB _⟩
    · have d1 : (o == 1) = false := by simpa using h1
      by_cases h2 : o = 2
      · subst h2
        go_enter Tryz.func148, Tryz.ntmps148
        go_wp2
        go_ret
        exact ⟨by rw [HV.out]; simp, hB _⟩
      · have d2 : (o == 2) = false := by simpa using h2
        go_enter Tryz.func148, Tryz.ntmps148
        go_wp2
        go_ret
        exact ⟨by rw [HV.out]; simp [h0, h1, h2], hB _⟩

theorem tag_cases {c : Cnd} (h : condB c = true) : c.1 = 0 ∨ c.1 = 1 := by
  unfold condB inB at h
  simp at h
  omega

set_option maxHeartbeats 2000000 in
set_option maxRecDepth 20000 in
theorem allHold98 (v : Value) (cs : List Cnd) (t0 t1 : Int) (w : World) (h : CondsAt w v cs) (hok : cs.all condB = true) : Calls Tryz.prog 102 #[v, .agg #[.int .i64 t0, .int .i64 t1]] w fun e w' => e = .returned (.bool (cs.all (holdB t0 t1))) ∧ Below w.heap.size w w' := by
  obtain ⟨a, cap, rfl, hcap, hm, hx⟩ := h
  have hB0 : Below w.heap.size w (w.alloc (.cells #[.int .i64 t0, .int .i64 t1] 43)) := (Below.refl _ _).alloc (Nat.le_refl _) _
  have hz : (w.alloc (.cells #[.int .i64 t0, .int .i64 t1] 43)).heap[w.heap.size]? = some (.cells #[.int .i64 t0, .int .i64 t1] 43 (0, 0)) := heap_alloc_new _ _
  have HX := hide hx
  have HB0 := hide hB0
  have HOK := hide hok
  have HZ := hide hz
  obtain ⟨av, hav⟩ : ∃ av, av = cs.all (holdB t0 t1) := ⟨_, rfl⟩
  have HAV := hide hav
  rw [← hav]
  clear hx hB0 hok hz hav
  go_enter Tryz.func102, Tryz.ntmps102
  go_wp2
  generalize hwe : w.alloc (.cells #[.int .i64 t0, .int .i64 t1] 43) = w1 at HB0 HZ ⊢
  clear hwe
  go_loopw [6, 9] (fun _ i wr => ∃ k : Nat, i = .int .i64 k ∧ k ≤ cs.length ∧ Hid ((cs.take k).all (holdB t0 t1) = true) ∧ Hid (Below w.heap.size w wr) ∧ Hid (wr.heap[w.heap.size]? = some (.cells #[.int .i64 t0, .int .i64 t1] 43 (0, 0)))) (fun _ i _ => cs.length - (intOf i).toNat)
  case atStart => exact ⟨0, rfl, Nat.zero_le _, rfl, HB0.out, HZ.out⟩
  case round =>
    obtain ⟨k, rfl, hk, HA, HB, HT⟩ := hrel
    by_cases hlt : k < cs.length
    · obtain ⟨b, off, rfl, hc⟩ : ∃ b off, a = some ⟨b, off, none⟩ ∧ ∀ i, i < cs.length → w.cell? ⟨b, off + i * 3, none⟩ = some (.int .i64 (cs.getD i (0, 0, 0)).1) ∧ w.cell? ⟨b, off + i * 3 + 1, none⟩ = some (.int .i64 (cs.getD i (0, 0, 0)).2.1) ∧ w.cell? ⟨b, off + i * 3 + 2, none⟩ = some (.int .i64 (cs.getD i (0, 0, 0)).2.2) := by
        rcases HX.out with rfl | h
        · exact absurd hlt (Nat.not_lt_zero _)
        · exact h
      obtain ⟨c0, c1, c2⟩ := hc k hlt
      have y0 := cell_below c0 HB.out
      have y1 := cell_below c1 HB.out
      have y2 := cell_below c2 HB.out
      have HS : Hid ((cs.take (k + 1)).all (holdB t0 t1) = ((cs.take k).all (holdB t0 t1) && holdB t0 t1 (cs.getD k (0, 0, 0)))) := all_take_succ (holdB t0 t1) cs k _ hlt
      have HBD : Hid (holdB t0 t1 (cs.getD k (0, 0, 0)) = false → cs.all (holdB t0 t1) = false) := fun h => all_bad hlt h
      have htc := tag_cases (List.all_eq_true.1 HOK.out (cs.getD k (0, 0, 0)) (by simp [List.getD_eq_getElem?_getD, hlt]))
      generalize cs.getD k (0, 0, 0) = c at y0 y1 y2 HS HBD htc
      obtain ⟨t, o, x⟩ := c
      simp only at y0 y1 y2 htc
      have hal : Below wr.heap.size wr (wr.alloc (.cells #[.int .i64 t, .int .i64 o, .int .i64 x] 72)) := (Below.refl _ _).alloc (Nat.le_refl _) _
      have hbk : (wr.alloc (.cells #[.int .i64 t, .int .i64 o, .int .i64 x] 72)).heap[wr.heap.size]? = some (.cells #[.int .i64 t, .int .i64 o, .int .i64 x] 72 (0, 0)) := heap_alloc_new _ _
      have htt := (hal.block _ (heap_lt HT.out)).trans HT.out
      have HB2 := hide (HB.out.trans (hal.mono HB.out.size))
      have HHV : Hid (holdB t0 t1 (t, o, x) = holdV o x (if t = 0 then t0 else t1)) := rfl
      generalize hw2 : wr.alloc (.cells #[.int .i64 t, .int .i64 o, .int .i64 x] 72) = w2 at hbk htt HB2
      have HW2 := hide hw2
      have HBK := hide hbk
      have HTT := hide htt
      clear hc c0 c1 c2 hal hw2 hbk htt
      go_upto_region 4 with fail
      rw [HW2.out]
      have m0 := cells_at HBK.out 0 rfl
      have m1 := cells_at HBK.out 1 rfl
      have m2 := cells_at HBK.out 2 rfl
      have q0 := cells_at HTT.out 0 rfl
      have q1 := cells_at HTT.out 1 rfl
      have HSB : Hid (∀ W, Below w2.heap.size w2 W → W.cell? ⟨wr.heap.size, 0, none⟩ = some (.int .i64 t) ∧ W.cell? ⟨wr.heap.size, 1, none⟩ = some (.int .i64 o) ∧ W.cell? ⟨wr.heap.size, 2, none⟩ = some (.int .i64 x) ∧ W.cell? ⟨w.heap.size, 0, none⟩ = some (.int .i64 t0) ∧ W.cell? ⟨w.heap.size, 1, none⟩ = some (.int .i64 t1)) := fun W hW => ⟨cell_below m0 hW, cell_below m1 hW, cell_below m2 hW, cell_below q0 hW, cell_below q1 hW⟩
      clear m0 m1 m2 q0 q1 y0 y1 y2
      rcases htc with rfl | rfl
      · have hhd := holds141 0 o x t0
        have HHD := hide hhd
        have HHV2 : Hid (holdB t0 t1 (0, o, x) = holdV o x t0) := by
          show _ = _
          rw [HHV.out]
          simp
        clear hhd
        generalize holdV o x t0 = hb at HHD HHV2
        go_region_held3 (fun wx => wx.cell? ⟨wr.heap.size, 0, none⟩ = some (.int .i64 0) ∧ wx.cell? ⟨wr.heap.size, 1, none⟩ = some (.int .i64 o) ∧ wx.cell? ⟨wr.heap.size, 2, none⟩ = some (.int .i64 x) ∧ wx.cell? ⟨w.heap.size, 0, none⟩ = some (.int .i64 t0) ∧ wx.cell? ⟨w.heap.size, 1, none⟩ = some (.int .i64 t1))
          ((refine HSB.out _ ?_; repeat (first | with_reducible exact hb3 | exact Below.refl _ _ | refine Below.drew ?_)))
          (first | (go_at_call 148; refine (HHD.out w2.drew).mono ?_; rintro e3 w3 ⟨rfl, b3⟩; have hb3 : Below w2.heap.size w2 w3 := Below.undrew b3))
        have HB3 := hide (HB2.out.trans (hb3.mono HB2.out.size))
        have HT3 := hide ((hb3.block _ (heap_lt HTT.out)).trans HTT.out)
        clear hb3 b3
        cases hb with
        | true =>
          go_wp2
          refine ⟨⟨k + 1, by go_num, by omega, ?_, HB3.out, HT3.out⟩, by simp [intOf]; omega⟩
          show _ = _
          rw [HS.out, HA.out, HHV2.out]; rfl
        | false =>
          go_wp2
          go_ret
          exact ⟨by rw [HAV.out, HBD.out HHV2.out]; rfl, HB3.out⟩
      · have hhd := holds141 1 o x t1
        have HHD := hide hhd
        have HHV2 : Hid (holdB t0 t1 (1, o, x) = holdV o x t1) := by
          show _ = _
          rw [HHV.out]
          simp
        clear hhd
        generalize holdV o x t1 = hb at HHD HHV2
        go_region_held3 (fun wx => wx.cell? ⟨wr.heap.size, 0, none⟩ = some (.int .i64 1) ∧ wx.cell? ⟨wr.heap.size, 1, none⟩ = some (.int .i64 o) ∧ wx.cell? ⟨wr.heap.size, 2, none⟩ = some (.int .i64 x) ∧ wx.cell? ⟨w.heap.size, 0, none⟩ = some (.int .i64 t0) ∧ wx.cell? ⟨w.heap.size, 1, none⟩ = some (.int .i64 t1))
          ((refine HSB.out _ ?_; repeat (first | with_reducible exact hb3 | exact Below.refl _ _ | refine Below.drew ?_)))
          (first | (go_at_call 148; refine (HHD.out w2.drew).mono ?_; rintro e3 w3 ⟨rfl, b3⟩; have hb3 : Below w2.heap.size w2 w3 := Below.undrew b3))
        have HB3 := hide (HB2.out.trans (hb3.mono HB2.out.size))
        have HT3 := hide ((hb3.block _ (heap_lt HTT.out)).trans HTT.out)
        clear hb3 b3
        cases hb with
        | true =>
          go_wp2
          refine ⟨⟨k + 1, by go_num, by omega, ?_, HB3.out, HT3.out⟩, by simp [intOf]; omega⟩
          show _ = _
          rw [HS.out, HA.out, HHV2.out]; rfl
        | false =>
          go_wp2
          go_ret
          exact ⟨by rw [HAV.out, HBD.out HHV2.out]; rfl, HB3.out⟩
    · go_wp2
      go_ret
      obtain rfl : k = cs.length := by omega
      have := HA.out
      rw [List.take_length] at this
      exact ⟨by rw [HAV.out, this]; rfl, HB.out⟩
end Go.Proofs.YtpkiefjanmfgfaaGreatDoor
namespace Go.Proofs.YtpkiefjanmfgfaaGreatDoor
open Go.RowKit Go.Maps

theorem any_take_succ {α : Type} (p : α → Bool) (xs : List α) (k : Nat) (d : α) (h : k < xs.length) : (xs.take (k + 1)).any p = ((xs.take k).any p || p (xs.getD k d)) := by
  rw [List.take_succ_eq_append_getElem h, List.any_append]
  simp [List.getD_eq_getElem?_getD, h]
theorem any_hit {α : Type} {p : α → Bool} {xs : List α} {k : Nat} {d : α} (h : k < xs.length) (hb : p (xs.getD k d) = true) : xs.any p = true := by
  rw [List.any_eq_true]
  refine ⟨xs.getD k d, ?_, hb⟩
  simp [List.getD_eq_getElem?_getD, h]

set_option maxHeartbeats 2000000 in
set_option maxRecDepth 20000 in
theorem passes52 (v : Value) (F : List (List Cnd)) (t0 t1 : Int) (w : World) (h : FiltAt w v F) (hok : F.all clauseB = true) : Calls Tryz.prog 55 #[.agg #[v], .agg #[.int .i64 t0, .int .i64 t1]] w fun e w' => e = .returned (.bool (passB F t0 t1)) ∧ Below w.heap.size w w' := by
  obtain ⟨a, cap, rfl, hcap, hm, hx⟩ := h
  have hB0 : Below w.heap.size w ((w.alloc (.cells #[.slice a F.length cap] 47)).alloc (.cells #[.int .i64 t0, .int .i64 t1] 43)) := ((Below.refl _ _).alloc (Nat.le_refl _) _).alloc (by simp) _
  have hz0 : ((w.alloc (.cells #[.slice a F.length cap] 47)).alloc (.cells #[.int .i64 t0, .int .i64 t1] 43)).heap[w.heap.size]? = some (.cells #[.slice a F.length cap] 47 (0, 0)) := (Below.heap_alloc _ _ _ (by simp)).trans (heap_alloc_new _ _)
  have hz1 : ((w.alloc (.cells #[.slice a F.length cap] 47)).alloc (.cells #[.int .i64 t0, .int .i64 t1] 43)).heap[w.heap.size + 1]? = some (.cells #[.int .i64 t0, .int .i64 t1] 43 (0, 0)) := heap_alloc2_new _ _ _
  have HX := hide hx
  have HB0 := hide hB0
  have HOK := hide hok
  have HZ0 := hide hz0
  have HZ1 := hide hz1
  obtain ⟨av, hav⟩ : ∃ av, av = passB F t0 t1 := ⟨_, rfl⟩
  have HAV := hide hav
  rw [← hav]
  clear hx hB0 hok hz0 hz1 hav
  go_enter Tryz.func55, Tryz.ntmps55
  go_wp2
  generalize hwe : (w.alloc (.cells #[.slice a F.length cap] 47)).alloc (.cells #[.int .i64 t0, .int .i64 t1] 43) = w1 at HB0 HZ0 HZ1 ⊢
  clear hwe
  go_loopw [6, 10] (fun _ i wr => ∃ k : Nat, i = .int .i64 k ∧ k ≤ F.length ∧ Hid ((F.take k).any (fun cs => cs.all (holdB t0 t1)) = false) ∧ Hid (Below w.heap.size w wr) ∧ Hid (wr.heap[w.heap.size]? = some (.cells #[.slice a F.length cap] 47 (0, 0))) ∧ Hid (wr.heap[w.heap.size + 1]? = some (.cells #[.int .i64 t0, .int .i64 t1] 43 (0, 0)))) (fun _ i _ => F.length - (intOf i).toNat)
  case atStart => exact ⟨0, rfl, Nat.zero_le _, rfl, HB0.out, HZ0.out, HZ1.out⟩
  case round =>
    obtain ⟨k, rfl, hk, HA, HB, HT0, HT1⟩ := hrel
    by_cases hlt : k < F.length
    · obtain ⟨b, off, rfl, hc⟩ : ∃ b off, a = some ⟨b, off, none⟩ ∧ ∀ i, i < F.length → ∃ u, w.cell? ⟨b, off + i, none⟩ = some u ∧ CondsAt w u (F.getD i []) := by
        rcases HX.out with rfl | h
        · exact absurd hlt (Nat.not_lt_zero _)
        · exact h
      obtain ⟨u, hu, hcu⟩ := hc k hlt
      have y0 := cell_below hu HB.out
      have hcr := hcu.below HB.out
      have HS : Hid ((F.take (k + 1)).any (fun cs => cs.all (holdB t0 t1)) = ((F.take k).any (fun cs => cs.all (holdB t0 t1)) || (F.getD k []).all (holdB t0 t1))) := hide (any_take_succ (fun cs : List Cnd => cs.all (holdB t0 t1)) F k [] hlt)
      have HBD : Hid ((F.getD k []).all (holdB t0 t1) = true → F.any (fun cs => cs.all (holdB t0 t1)) = true) := fun h => any_hit (d := []) hlt h
      have hcb : (F.getD k []).all condB = true := by
        have := List.all_eq_true.1 HOK.out (F.getD k []) (by simp [List.getD_eq_getElem?_getD, hlt])
        unfold clauseB at this
        simp at this
        simpa using this.2
      generalize F.getD k [] = cs at hcr HS HBD hcb
      have hal := allHold98 u cs t0 t1 wr hcr hcb
      obtain ⟨ua, uc, rfl, _⟩ := hcr
      have q0 := cells_at HT1.out 0 rfl
      have q1 := cells_at HT1.out 1 rfl
      have HAL := hide hal
      clear hal hc hu hcu hcb
      generalize cs.all (holdB t0 t1) = hv at HAL HS HBD
      go_wp2_with fail
      refine HAL.out.mono ?_
      rintro e3 w3 ⟨rfl, hb3⟩
      have HB3 := hide (HB.out.trans (hb3.mono HB.out.size))
      have HT03 := hide ((hb3.block _ (heap_lt HT0.out)).trans HT0.out)
      have HT13 := hide ((hb3.block _ (heap_lt HT1.out)).trans HT1.out)
      clear hb3 y0 q0 q1
      cases hv with
      | true =>
        go_wp2
        go_ret
        refine ⟨?_, HB3.out⟩
        rw [HAV.out]
        unfold passB
        rw [HBD.out (by first | exact rfl | exact trivial)]; rfl
      | false =>
        go_wp2
        refine ⟨⟨k + 1, by go_num, by omega, ?_, HB3.out, HT03.out, HT13.out⟩, by simp [intOf]; omega⟩
        show _ = _
        rw [HS.out, HA.out]; rfl
    · have z0 := cells_at HT0.out 0 rfl
      have HAV2 : Hid (av = decide ((F.length : Int) = 0)) := by
        show _ = _
        obtain rfl : k = F.length := by omega
        have := HA.out
        rw [List.take_length] at this
        rw [HAV.out]
        unfold passB
        rw [this]
        simp [List.length_eq_zero_iff]
      clear HX
      go_wp2
      go_ret
      exact ⟨by rw [HAV2.out]; simp [BEq.beq], HB.out⟩

theorem hcells_take_src {w : World} {g n cap : Nat} {l : List Hit} (h : w.ownsRow 0 63 2 (.slice (some ⟨g, 0, none⟩) n cap) n (hcells l)) {m : Nat} : ∀ j u, (hcells (l.take m))[j]? = some u → w.cell? ((⟨g, 0, none⟩ : Addr).add j) = some u := by
  intro j u hj
  rw [addr_add, Nat.zero_add]
  refine ownsRow_cell h ?_
  have e : hcells l = hcells (l.take m) ++ hcells (l.drop m) := by
    rw [← hcells_append, List.take_append_drop]
  rw [e, List.getElem?_append_left (List.getElem?_eq_some_iff.1 hj).1]
  exact hj
set_option maxHeartbeats 1000000 in
theorem cloneH (sa : Option Addr) (xs : List Hit) (cap : Nat) (w : World) (hl : xs.length ≤ 1000) (hsrc : ∃ g, sa = some ⟨g, 0, none⟩ ∧ ∀ j u, (hcells xs)[j]? = some u → w.cell? ((⟨g, 0, none⟩ : Addr).add j) = some u) :
    Calls Tryz.prog 60 #[.slice sa xs.length cap] w fun e w' => ∃ v', e = .returned v' ∧ HRow w' v' xs ∧ (∀ g, v'.ownBlock = some g → w.heap.size ≤ g) ∧ Below w.heap.size w w' := by
  obtain ⟨g, rfl, hs⟩ := hsrc
  obtain ⟨i0, hi, hz0, hz1, hz2⟩ := info_parts info63
  have hn := fun w => Go.run_eql_slice_nil (P := Tryz.prog) w 58 63 (some ⟨g, 0, none⟩) xs.length cap Tryz.underlying58
  have hown := World.ownsRow_made (base := w.heap.size) (e := 63) (size := 2) w #[] 0 (Nat.le_refl _) (by simp [maxLen]) (by simp)
  have HN : Hid (0 < xs.length → ∃ a, (some ⟨g, 0, none⟩ : Option Addr) = some a ∧ ∀ j u, (hcells xs)[j]? = some u → (w.alloc (.cells #[] 63)).cell? (a.add j) = some u) := fun _ => ⟨_, rfl, fun j u hj => by
    have h1 := hs j u hj
    rw [addr_add] at h1 ⊢
    exact cell_below h1 ((Below.refl _ _).alloc (Nat.le_refl _) _)⟩
  clear hs
  go_enter Tryz.func60, Tryz.ntmps60
  go_wp2_with (at_builtin; go_must (refine wpList_append_any _ rfl _ _ 58 rfl w.heap.size 63 i0 (.agg #[.int .i64 0, .int .i64 0]) 2 16 Tryz.underlying58 hi hz0 hz1 hz2 rfl (by decide) (.slice (some ⟨w.heap.size, 0, none⟩) 0 0) 0 [] rfl hown (some ⟨g, 0, none⟩) xs.length cap (hcells xs) rfl (hcells_length xs) HN.out (hcells_one xs) (by unfold maxLen; omega) (by omega) (by simp) ?_); intro v1 w1 ho hgr hat; have HO := hide ho; have HG := hide hgr; have HAT := hide hat; clear ho hgr hat)
  go_ret
  refine ⟨_, rfl, ?_, fun g' e => ?_, ?_⟩
  · have := HO.out
    rw [Nat.zero_add, List.nil_append] at this
    exact ownsRow_zero this
  · have e' : v1.ownBlock = some g' := e
    rcases HAT.out with h | h
    · rw [h] at e'
      have : w.heap.size = g' := by simpa [Value.ownBlock] using e'
      omega
    · rw [h] at e'
      have : w.heap.size + 1 = g' := by simpa using e'
      omega
  · exact ((Below.refl w.heap.size w).alloc (Nat.le_refl _) _).grown HG.out (by simp) (fun k hk => Nat.le_of_eq (by simpa [Value.ownBlock] using hk))
set_option maxHeartbeats 1000000 in
theorem cloneH_nil (w : World) : Calls Tryz.prog 60 #[.slice none 0 0] w fun e w' => e = .returned (.slice none 0 0) ∧ w = w' := by
  have hn := fun w => Go.run_eql_slice_nil (P := Tryz.prog) w 58 63 none 0 0 Tryz.underlying58
  go_enter Tryz.func60, Tryz.ntmps60
  go_wp2
  go_ret
  exact ⟨rfl, rfl⟩
end Go.Proofs.YtpkiefjanmfgfaaGreatDoor
namespace Go.Proofs.YtpkiefjanmfgfaaGreatDoor
open Go.RowKit Go.Maps

def qd (m : Int) (xs : List Int) (L : List Ent) (id : Int) : Int := distL m xs (ptOf L id)
def qw (F : List (List Cnd)) (L : List Ent) (id : Int) : Bool := match findE id L with | some e => passB F e.t0 e.t1 | none => false
theorem field77t (i : Int) (s : Value) (a b : Int) (w : World) : (Instr.field 77 (.agg #[.int .i64 i, s, .int .i64 a, .int .i64 b]) 2).run Tryz.prog w = .ok (.agg #[.int .i64 a, .int .i64 b]) w := by kernel_rfl
theorem enter52 (args : Array Value) (w : World) : (callFunc 52 args).run Tryz.prog w = .ok (.enter 52 args) w := by kernel_rfl
theorem enter54 (args : Array Value) (w : World) : (callFunc 54 args).run Tryz.prog w = .ok (.enter 54 args) w := by kernel_rfl

set_option maxHeartbeats 1000000 in
set_option maxRecDepth 20000 in
theorem search49 (b5 b6 bb bs bm : Nat) (m : Int) (dim : Nat) (pv : Value) (xs : List Int) (id : Int) (L : List Ent) (w : World) (h : PtsAt w bb bs bm m dim L) (h5 : w.cell? ⟨b5, 0, none⟩ = some (.pointer (some ⟨bb, 0, none⟩))) (h6 : w.cell? ⟨b6, 0, none⟩ = some pv) (hr : IRow w pv xs) (hl : xs.length = dim) (hx : ∀ x ∈ xs, Crd x) (h8 : dim ≤ 100) (hid : I64 id) (he : (findE id L).isSome = true) :
    Calls Tryz.prog 52 #[.int .i64 id, .pointer (some ⟨b5, 0, none⟩), .pointer (some ⟨b6, 0, none⟩)] w fun ev w' => ev = .returned (.int .i64 (qd m xs L id)) ∧ Below w.heap.size w w' := by
  obtain ⟨e, he⟩ := Option.isSome_iff_exists.1 he
  have hqd : qd m xs L id = distL m xs e.pt := by unfold qd ptOf; rw [he]
  rw [hqd]
  have hds := distance50 bb bs bm m dim pv xs id L e w h hid he hr hl hx h8
  obtain ⟨pa, pc, rfl, _⟩ := IRow_slice hr
  have HD := hide hds
  clear hds hqd h hr he hx hl
  generalize distL m xs e.pt = dv at HD ⊢
  go_enter Tryz.func52, Tryz.ntmps52
  go_wp2_with (go_at_call 53; refine HD.out.mono ?_; rintro e2 w2 ⟨rfl, hb2⟩)
  go_ret
  exact ⟨rfl, hb2⟩

set_option maxHeartbeats 1000000 in
set_option maxRecDepth 20000 in
theorem search51 (b5 b9 bb bs bm : Nat) (fv : Value) (F : List (List Cnd)) (id : Int) (L : List Ent) (w : World) (h6 : w.cell? ⟨bb, 6, none⟩ = some (.pointer (some ⟨bs, 0, none⟩))) (hs1 : w.cell? ⟨bs, 1, none⟩ = some (.map (some bm))) (hm : MapAt w bm L) (h5 : w.cell? ⟨b5, 0, none⟩ = some (.pointer (some ⟨bb, 0, none⟩))) (h9 : w.cell? ⟨b9, 0, none⟩ = some fv) (hf : FiltAt w fv F) (hok : F.all clauseB = true) (hid : I64 id) (he : (findE id L).isSome = true) :
    Calls Tryz.prog 54 #[.int .i64 id, .pointer (some ⟨b9, 0, none⟩), .pointer (some ⟨b5, 0, none⟩)] w fun ev w' => ev = .returned (.bool (qw F L id)) ∧ Below w.heap.size w w' := by
  obtain ⟨e, he⟩ := Option.isSome_iff_exists.1 he
  have hqw : qw F L id = passB F e.t0 e.t1 := by unfold qw; rw [he]
  rw [hqw]
  have hpk := peek53 bs bm id L e w.drew hid hs1 (hm.below (Below.refl _ _).drew) he
  have hps := fun W (hW : Below w.heap.size w W) => passes52 fv F e.t0 e.t1 W (hf.below hW) hok
  have hfd := field77t e.id (.slice (some ⟨e.mb, 0, none⟩) e.pt.length e.mc) e.t0 e.t1
  have hf2 := hf
  obtain ⟨fa, fc, rfl, _⟩ := hf2
  have HPK := hide hpk
  have HPS := hide hps
  have HSB : Hid (∀ W, Below w.heap.size w W → W.cell? ⟨b9, 0, none⟩ = some (.slice fa F.length fc) ∧ W.cell? ⟨b5, 0, none⟩ = some (.pointer (some ⟨bb, 0, none⟩)) ∧ W.cell? ⟨bb, 6, none⟩ = some (.pointer (some ⟨bs, 0, none⟩))) := fun W hW => ⟨cell_below h9 hW, cell_below h5 hW, cell_below h6 hW⟩
  generalize passB F e.t0 e.t1 = pb at HPS
  clear hpk hps hqw hm hf h6 hs1 h5 h9
  go_enter Tryz.func54, Tryz.ntmps54
  go_wp2
  go_region_held3 (fun wx => wx.cell? ⟨b9, 0, none⟩ = some (.slice fa F.length fc) ∧ wx.cell? ⟨b5, 0, none⟩ = some (.pointer (some ⟨bb, 0, none⟩)) ∧ wx.cell? ⟨bb, 6, none⟩ = some (.pointer (some ⟨bs, 0, none⟩)))
    ((refine HSB.out _ ?_; repeat (first | with_reducible exact hb4 | with_reducible exact hb3 | exact Below.refl _ _ | refine Below.drew ?_)))
    (first
      | (go_at_call 56; refine HPK.out.mono ?_; rintro e2 w2 ⟨rfl, hb2⟩; have hb3 := Below.undrew hb2; have hps2 := HPS.out w2 hb3)
      | (go_at_call 55; refine hps2.mono ?_; rintro e3 w3 ⟨rfl, b4⟩; have hb4 := hb3.trans (b4.mono hb3.size)))
  go_wp2
  go_ret
  exact ⟨rfl, hb4⟩

noncomputable def cellV (w : World) (b o : Nat) : Value := (w.cell? ⟨b, o, none⟩).getD undef
theorem cellV_some {w : World} {b o : Nat} {v : Value} (h : w.cell? ⟨b, o, none⟩ = some v) : w.cell? ⟨b, o, none⟩ = some (cellV w b o) := by
  unfold cellV; rw [h]; rfl
theorem cellV_eq {w : World} {b o : Nat} {v : Value} (h : w.cell? ⟨b, o, none⟩ = some v) : cellV w b o = v := by
  unfold cellV; rw [h]; rfl

noncomputable def srR (cf : Cf) (gn : Net) (L : List Ent) (xs : List Int) (F : List (List Cnd)) (width : Int) : List (Int × Int) × List Hit :=
  let d := downR (qd cf.metric xs L) gn.lev gn.lk gn.ch (gn.lev.map (·.1)).length [] 0
  alongR (qd cf.metric xs L) (qw F L) width (fun i => reachedL gn.lk gn.ch i 0) (gn.lev.map (·.1)).length d.1 d.2

theorem srch_boxes (w : World) (a b c : Value) : (((w.alloc (.cells #[a] 38)).alloc (.cells #[b] 32)).alloc (.cells #[c] 47)).heap[w.heap.size]? = some (.cells #[a] 38 (0, 0)) ∧ (((w.alloc (.cells #[a] 38)).alloc (.cells #[b] 32)).alloc (.cells #[c] 47)).heap[w.heap.size + 1]? = some (.cells #[b] 32 (0, 0)) ∧ (((w.alloc (.cells #[a] 38)).alloc (.cells #[b] 32)).alloc (.cells #[c] 47)).heap[w.heap.size + 1 + 1]? = some (.cells #[c] 47 (0, 0)) ∧ (((w.alloc (.cells #[a] 38)).alloc (.cells #[b] 32)).alloc (.cells #[c] 47)).heap.size = w.heap.size + 3 ∧ Below w.heap.size w (((w.alloc (.cells #[a] 38)).alloc (.cells #[b] 32)).alloc (.cells #[c] 47)) := by
  refine ⟨?_, ?_, ?_, by simp, (((Below.refl _ _).alloc (Nat.le_refl _) _).alloc (by simp) _).alloc (by simp; omega) _⟩
  · exact (Below.heap_alloc _ _ _ (by simp; omega)).trans ((Below.heap_alloc _ _ _ (by simp)).trans (heap_alloc_new _ _))
  · exact (Below.heap_alloc _ _ _ (by simp)).trans (heap_alloc2_new _ _ _)
  · have := heap_alloc2_new (w.alloc (.cells #[a] 38)) (.cells #[b] 32) (.cells #[c] 47)
    simpa using this
theorem IntsAt.belowI {w w' : World} {v : Value} {xs : List Int} (h : IntsAt w v xs) (hb : Below w.heap.size w w') : IntsAt w' v xs := by
  obtain ⟨a, cap, rfl, h1, h2, h3⟩ := h
  refine ⟨a, cap, rfl, h1, h2, h3.imp id ?_⟩
  rintro ⟨b, off, rfl, hc⟩
  exact ⟨b, off, rfl, fun i hi => cell_below (hc i hi) hb⟩

set_option maxHeartbeats 2000000 in
set_option maxRecDepth 20000 in
theorem search25_no (bb bs bm : Nat) (cf : Cf) (gn : Net) (L : List Ent) (pv : Value) (xs : List Int) (k beam : Int) (fv : Value) (F : List (List Cnd)) (w : World) (h : BaseAt w bb bs bm cf gn L) (hp : IntsAt w pv xs) (hf : FiltAt w fv F) (r : Int) (hr : schCode cf.dim xs k beam F = r) (hbad : r ≠ 0) :
    Calls Tryz.prog 26 #[.pointer (some ⟨bb, 0, none⟩), pv, .int .i64 k, .int .i64 beam, .agg #[fv]] w fun ev w' => ev = .returned (.tuple #[.slice none 0 0, .int .i64 r]) ∧ Below w.heap.size w w' := by
  have hsc := fun W (hW : Below w.heap.size w W) => search47 cf.dim pv xs k beam fv F W (hp.belowI hW) (hf.below hW)
  rw [hr] at hsc
  obtain ⟨pa, pc, rfl, _⟩ := hp
  obtain ⟨fa, fc, rfl, _⟩ := hf
  obtain ⟨x0, x1, x2, xz, hB⟩ := srch_boxes w (.pointer (some ⟨bb, 0, none⟩)) (.slice pa xs.length pc) (.slice fa F.length fc)
  have HB := hide hB
  have HX0 := hide x0
  have HX1 := hide x1
  have HX2 := hide x2
  have H := hide h
  have HSC := hide hsc
  clear hsc hB hr h x0 x1 x2 xz
  go_enter Tryz.func26, Tryz.ntmps26
  go_wp2
  generalize hwe : ((w.alloc (.cells #[.pointer (some ⟨bb, 0, none⟩)] 38)).alloc (.cells #[.slice pa xs.length pc] 32)).alloc (.cells #[.slice fa F.length fc] 47) = w1 at HB HX0 HX1 HX2 ⊢
  clear hwe
  have q0 := cells_at HX0.out 0 rfl
  have q1 := cells_at HX1.out 0 rfl
  have q2 := cells_at HX2.out 0 rfl
  have q3 := cell_below H.out.b0 HB.out
  have HSB : Hid (∀ W, Below w1.heap.size w1 W → W.cell? ⟨w.heap.size, 0, none⟩ = some (.pointer (some ⟨bb, 0, none⟩)) ∧ W.cell? ⟨w.heap.size + 1, 0, none⟩ = some (.slice pa xs.length pc) ∧ W.cell? ⟨w.heap.size + 1 + 1, 0, none⟩ = some (.slice fa F.length fc) ∧ W.cell? ⟨bb, 0, none⟩ = some (.int .i64 cf.dim)) := fun W hW => ⟨cell_below q0 hW, cell_below q1 hW, cell_below q2 hW, cell_below q3 hW⟩
  clear q0 q1 q2 q3
  go_region_held3 (fun wx => wx.cell? ⟨w.heap.size, 0, none⟩ = some (.pointer (some ⟨bb, 0, none⟩)) ∧ wx.cell? ⟨w.heap.size + 1, 0, none⟩ = some (.slice pa xs.length pc) ∧ wx.cell? ⟨w.heap.size + 1 + 1, 0, none⟩ = some (.slice fa F.length fc) ∧ wx.cell? ⟨bb, 0, none⟩ = some (.int .i64 cf.dim))
    ((refine HSB.out _ ?_; repeat (first | with_reducible exact hb2 | exact Below.refl _ _ | refine Below.drew ?_)))
    (first | (go_at_call 50; refine (HSC.out w1.drew HB.out.drew).mono ?_; rintro e2 w2 ⟨⟨u, rfl, hu⟩, b2⟩; have hb2 : Below w1.heap.size w1 w2 := Below.undrew b2; obtain ⟨ux, rfl⟩ := hu.shape hbad))
  have HB2 := hide (HB.out.trans (hb2.mono HB.out.size))
  have her := errno_deep r _ w2 hu (H.out.hdl.below HB2.out)
  have HER := hide her
  clear her hu b2 hb2 HSB
  go_wp2_with fail
  refine HER.out.mono ?_
  rintro e3 w3 ⟨rfl, hb3⟩
  have HB3 := hide (HB2.out.trans (hb3.mono HB2.out.size))
  clear hb3
  go_wp2
  go_ret2
  exact ⟨rfl, HB3.out⟩
end Go.Proofs.YtpkiefjanmfgfaaGreatDoor
