import Derived.Test.YtgilnaheedmmfaaDoorErrno
import Derived.Test.YtgilnaheedmmfaaDoorIs
namespace Go.Proofs.YtgilnaheedmmfaaDoor
open Go.RowKit

/-- The error value v says the number r (0: no error). -/
def IsErr (r : Int) (v : Value) : Prop :=
  (r = 0 ∧ v = .nilIface) ∨ (r ≠ 0 ∧ ((∃ s n, v = .iface 117 (.agg #[.string s, .int .i64 n, .iface 115 (.int .i64 r)])) ∨
    ∃ s n s2 n2, v = .iface 117 (.agg #[.string s, .int .i64 n, .iface 117 (.agg #[.string s2, .int .i64 n2, .iface 115 (.int .i64 r)])])))

theorem errno_any (r : Int) (v : Value) (h : IsErr r v) (w : World) (hg : Handle w) :
    Calls Tryd.prog 25 #[v] w fun e w' => e = .returned (.int .i64 r) ∧ Below w.heap.size w w' := by
  rcases h with ⟨rfl, rfl⟩ | ⟨_, ⟨s, n, rfl⟩ | ⟨s, n, s2, n2, rfl⟩⟩
  · exact errno_nil w
  · exact errno_one s n r w hg
  · exact errno_two s s2 n n2 r w hg

/-- The slice value v reads as the numbers xs. -/
def IntsAt (w : World) (v : Value) (xs : List Int) : Prop :=
  ∃ a cap, v = .slice a xs.length cap ∧ xs.length ≤ cap ∧ xs.length ≤ 17592186044416 ∧
    (xs = [] ∨ ∃ b off, a = some ⟨b, off, none⟩ ∧ ∀ i, i < xs.length → w.cell? ⟨b, off + i, none⟩ = some (.int .i64 (xs.getD i 0)))

def coordB (x : Int) : Bool := inB x (-1048576) 1048576

/-- What the document says of a point: 0, ErrDim or ErrCoord. -/
def ptCode (dim : Int) (xs : List Int) : Int := if (xs.length : Int) = dim then (if xs.all coordB then 0 else 3) else 2

theorem all_snoc (xs : List Int) (k : Nat) (h : k < xs.length) : (xs.take (k + 1)).all coordB = ((xs.take k).all coordB && coordB (xs.getD k 0)) := by
  rw [List.take_succ_eq_append_getElem h, List.all_append]
  simp [List.getD_eq_getElem?_getD, h]

end Go.Proofs.YtgilnaheedmmfaaDoor
