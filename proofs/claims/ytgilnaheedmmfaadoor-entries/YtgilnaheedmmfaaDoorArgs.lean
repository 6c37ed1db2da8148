import Derived.Test.YtgilnaheedmmfaaDoorPlayed2
import Derived.ProofKit
import Derived.OpenShut
import Derived.Deep.Slices
import Derived.SizedLaws
import Derived.Carry
namespace Go.Proofs.YtgilnaheedmmfaaDoor
open Go.ChangeShapes Go.WideShapes Go.RowKit

theorem cells3 : Tryd.prog.cellsOf 3 = 1 := by kernel_rfl
theorem cells23 : Tryd.prog.cellsOf 23 = 6 := by kernel_rfl
theorem cells32 : Tryd.prog.cellsOf 32 = 1 := by kernel_rfl
theorem cells43 : Tryd.prog.cellsOf 43 = 2 := by kernel_rfl
theorem cells44 : Tryd.prog.cellsOf 44 = 1 := by kernel_rfl
theorem cells45 : Tryd.prog.cellsOf 45 = 1 := by kernel_rfl
theorem cells47 : Tryd.prog.cellsOf 47 = 1 := by kernel_rfl
theorem cells49 : Tryd.prog.cellsOf 49 = 9 := by kernel_rfl
theorem bytes3 : Tryd.prog.bytesOf 3 = 8 := by kernel_rfl
theorem bytes49 : Tryd.prog.bytesOf 49 = 104 := by kernel_rfl

theorem addr_plain {w : World} {a : Addr} {v : Value} (h : w.cell? a = some v) : a = ⟨a.block, a.off, none⟩ := by
  obtain ⟨b, o, s⟩ := a
  cases s with
  | none => rfl
  | some x =>
    simp only [World.cell?] at h
    split at h <;> simp at h
theorem addr_at (b o i : Nat) : (⟨b, o, none⟩ : Addr).add i = ⟨b, o + i, none⟩ := by
  unfold Addr.add
  split
  · subst_vars; rfl
  · rfl

section
variable {H : Type} {enc : TypeId × Value → H} {W : World} {sp : Nat → Bool} {hd : Bool}

set_option maxRecDepth 100000 in
/-- The config: six numbers. -/
theorem cfg_open {b0 : Nat} {r : Reach} {v : Value} {d : DataW H} {p : List MemPlace} (hv : Value.okWide Tryd.prog W r b0 23 v) (h : DataW.Trod enc Tryd.prog W 0 sp hd 23 v d p) :
    ∃ a0 a1 a2 a3 a4 a5 : Int, v = .agg #[.int .i64 a0, .int .i64 a1, .int .i64 a2, .int .i64 a3, .int .i64 a4, .int .i64 a5] := by
  obtain ⟨cs, rfl, hsz⟩ := okWide_struct Tryd.underlying23 hv
  rw [cells23] at hsz
  obtain ⟨l⟩ := cs
  match l, hsz with
  | [c0, c1, c2, c3, c4, c5], _ =>
    obtain ⟨fuel, hf⟩ := h
    obtain ⟨xs, n, _, _, _, hlen, hx⟩ := DataW.trod_struct Tryd.underlying23 hf
    match xs, hlen with
    | [y0, y1, y2, y3, y4, y5], _ =>
      have g0 := hx 0 _ rfl
      have g1 := hx 1 _ rfl
      have g2 := hx 2 _ rfl
      have g3 := hx 3 _ rfl
      have g4 := hx 4 _ rfl
      have g5 := hx 5 _ rfl
      simp [Value.cells, cells3] at g0 g1 g2 g3 g4 g5
      obtain ⟨a0, e0, _⟩ := DataW.trod_int Tryd.underlying3 g0
      obtain ⟨a1, e1, _⟩ := DataW.trod_int Tryd.underlying3 g1
      obtain ⟨a2, e2, _⟩ := DataW.trod_int Tryd.underlying3 g2
      obtain ⟨a3, e3, _⟩ := DataW.trod_int Tryd.underlying3 g3
      obtain ⟨a4, e4, _⟩ := DataW.trod_int Tryd.underlying3 g4
      obtain ⟨a5, e5, _⟩ := DataW.trod_int Tryd.underlying3 g5
      simp at e0 e1 e2 e3 e4 e5
      subst e0; subst e1; subst e2; subst e3; subst e4; subst e5
      exact ⟨a0, a1, a2, a3, a4, a5, rfl⟩

/-- A list of numbers that came in. -/
theorem point_open {n : Nat} {c : Value} {x : DataW H × List MemPlace} (h : DataW.trod enc Tryd.prog W 0 (fun _ => true) hd n 32 [c] = some x) (hw : ∀ k ∈ x.1.weights Tryd.prog 32, k ≤ reachBytes) :
    ∃ (xs : List Int) (pa : Option Addr) (pc : Nat), c = .slice pa xs.length pc ∧ IntsAt W (.slice pa xs.length pc) xs ∧ (xs.length + 6) * 8 ≤ 140737488355328 := by
  rcases open_ints Tryd.underlying32 Tryd.underlying3 cells3 h with ⟨e, _⟩ | ⟨a, len, cap, zs, e, _, hl, hm, hz, rfl, hc, _⟩
  · simp at e
    subst e
    exact ⟨[], none, 0, rfl, ⟨none, 0, rfl, Nat.le_refl _, by simp, .inl rfl⟩, by simp⟩
  · simp at e hz
    subst e
    have hlen : (zs.take len).length = len := by simp; omega
    have hb : ((lits (H := H) .i64 (zs.take len)).length + (lits (H := H) .i64 (zs.drop len)).length) * Tryd.prog.bytesOf 3 ≤ reachBytes := hw _ (by simp only [DataW.weights, Tryd.underlying32]; exact List.mem_cons_self)
    simp [lits, bytes3, reachBytes] at hb
    have hb2 : len * 8 ≤ 140737488351232 := by omega
    refine ⟨zs.take len, some a, cap, by rw [hlen], ⟨some a, cap, rfl, by omega, by omega, ?_⟩, by rw [hlen]; omega⟩
    by_cases h0 : len = 0
    · left; subst h0; simp
    · right
      have e0 := hc 0 (by omega)
      have ea : a = ⟨a.block, a.off, none⟩ := addr_plain (a := a) (by simpa [Addr.add] using e0)
      refine ⟨a.block, a.off, by rw [← ea], fun i hi => ?_⟩
      rw [hlen] at hi
      have := hc i (by omega)
      rw [ea, addr_at] at this
      rw [this]
      simp [List.getD_eq_getElem?_getD, hi]
end
end Go.Proofs.YtgilnaheedmmfaaDoor
