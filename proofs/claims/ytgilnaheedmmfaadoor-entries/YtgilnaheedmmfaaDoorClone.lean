import Derived.Test.YtgilnaheedmmfaaDoorFrame
import Derived.Lib.LazyBuf
namespace Go.Proofs.YtgilnaheedmmfaaDoor
open Go.RowKit

theorem info3 : (Tryd.prog.info? 3).map (fun i => (i.zero, i.size, i.bytes)) = some (some (.int .i64 0), 1, 8) := by kernel_rfl

def vals (xs : List Int) : List Value := xs.map (Value.int .i64)
theorem vals_length (xs : List Int) : (vals xs).length = xs.length := by simp [vals]
theorem vals_get {xs : List Int} {j : Nat} {u : Value} (h : (vals xs)[j]? = some u) : j < xs.length ∧ u = .int .i64 (xs.getD j 0) := by
  unfold vals at h
  rw [List.getElem?_map] at h
  obtain ⟨x, hx, rfl⟩ := Option.map_eq_some_iff.1 h
  obtain ⟨hlt, he⟩ := List.getElem?_eq_some_iff.1 hx
  exact ⟨hlt, by simp [List.getD_eq_getElem?_getD, hx]⟩
theorem vals_one (xs : List Int) : ∀ u ∈ vals xs, u.oneCell' = true := by
  intro u hu
  obtain ⟨x, _, rfl⟩ := List.mem_map.1 hu
  rfl
theorem addr_add (b off j : Nat) : (⟨b, off, none⟩ : Addr).add j = ⟨b, off + j, none⟩ := by
  unfold Addr.add
  split
  · subst_vars; rfl
  · rfl

theorem bcell {B : Nat} {W w1 : World} (hb : Below B W w1) : (∀ b o, b < B → w1.cell? ⟨b, o, none⟩ = W.cell? ⟨b, o, none⟩) ∧ (∀ b o, b < B → w1.frozen? ⟨b, o, none⟩ = W.frozen? ⟨b, o, none⟩) :=
  ⟨fun b o h => hb.cell (p := ⟨b, o, none⟩) h, fun b o h => hb.frozen (p := ⟨b, o, none⟩) h⟩

set_option maxHeartbeats 1000000 in
/-- slices.Clone of a list that is not empty. -/
theorem clone_any (xs : List Int) (b off cap : Nat) (w : World) (h0 : 0 < xs.length) (hm : xs.length ≤ 17592186044416)
    (hc : ∀ i, i < xs.length → w.cell? ⟨b, off + i, none⟩ = some (.int .i64 (xs.getD i 0))) :
    Calls Tryd.prog 71 #[.slice (some ⟨b, off, none⟩) xs.length cap] w fun e w' => ∃ g cap', e = .returned (.slice (some ⟨g, 0, none⟩) xs.length cap') ∧ w.heap.size ≤ g ∧ Pts w' g cap' xs ∧ Below w.heap.size w w' := by
  obtain ⟨i0, hi, hz0, hz1, hz2⟩ := info_parts info3
  have hn := fun w => Go.run_eql_slice_nil (P := Tryd.prog) w 32 3 (some ⟨b, off, none⟩) xs.length cap Tryd.underlying32
  have hbl : b < w.heap.size := by
    have := hc 0 h0
    exact block_lt_of_cell this
  have hown := World.ownsRow_made (base := w.heap.size) (e := 3) (size := 1) w #[] 0 (Nat.le_refl _) (by simp [maxLen]) (by simp)
  have hnews : ∀ j u, (vals xs)[j]? = some u → (w.alloc (.cells #[] 3)).cell? ((⟨b, off, none⟩ : Addr).add j) = some u := by
    intro j u hj
    obtain ⟨hlt, rfl⟩ := vals_get hj
    rw [addr_add, World.cell?_alloc_lt _ _ _ (by exact hbl)]
    exact hc j hlt
  have HN : Hid (∀ j u, (vals xs)[j]? = some u → (w.alloc (.cells #[] 3)).cell? ((⟨b, off, none⟩ : Addr).add j) = some u) := hnews
  clear hnews hc
  go_enter Tryd.func71, Tryd.ntmps71
  go_wp2_with (at_builtin; refine wpList_append_lies _ rfl _ _ 32 rfl w.heap.size 3 i0 (.int .i64 0) 1 8 Tryd.underlying32 hi hz0 hz1 hz2 rfl (by decide) (.slice (some ⟨w.heap.size, 0, none⟩) 0 0) 0 [] rfl hown ⟨b, off, none⟩ xs.length cap (vals xs) rfl (by simp [vals]) HN.out (vals_one xs) h0 (by unfold maxLen; omega) (by omega) (by simp) (w.heap.size + 1) (by simp) ?_; intro g cap' w1 hown1 hgrow hat hlt)
  go_ret
  simp only [Nat.zero_add, List.nil_append] at hown1 ⊢
  refine ⟨g, cap', rfl, ?_, ownsRow_zero hown1, ?_⟩
  · rcases hat with h | h
    · have : w.heap.size = g := by simpa [Value.ownBlock] using h
      omega
    · omega
  · exact ((Below.refl w.heap.size w).alloc (Nat.le_refl _) _).grown hgrow (by simp) (fun k hk => Nat.le_of_eq (by simpa [Value.ownBlock] using hk))

set_option maxHeartbeats 1000000 in
/-- store.copied. -/
theorem copied56_any (id t0 t1 : Int) (xs : List Int) (b off cap : Nat) (w : World) (h0 : 0 < xs.length) (hm : xs.length ≤ 17592186044416)
    (hc : ∀ i, i < xs.length → w.cell? ⟨b, off + i, none⟩ = some (.int .i64 (xs.getD i 0))) :
    Calls Tryd.prog 56 #[.agg #[.int .i64 id, .slice (some ⟨b, off, none⟩) xs.length cap, .int .i64 t0, .int .i64 t1]] w fun e w' => ∃ g cap', e = .returned (.agg #[.int .i64 id, .slice (some ⟨g, 0, none⟩) xs.length cap', .int .i64 t0, .int .i64 t1]) ∧ w.heap.size ≤ g ∧ Pts w' g cap' xs ∧ Below w.heap.size w w' := by
  have hbl : b < w.heap.size := by
    have := hc 0 h0
    exact block_lt_of_cell this
  have HC : Hid (∀ i, i < xs.length → w.cell? ⟨b, off + i, none⟩ = some (.int .i64 (xs.getD i 0))) := hc
  clear hc
  go_enter Tryd.func56, Tryd.ntmps56
  go_wp2_with fail
  refine (clone_any xs b off cap _ h0 hm ?c1).mono ?_
  case c1 =>
    intro i hi
    rw [World.cell?_alloc_lt _ _ _ (by simp; omega), World.cell?_alloc_lt _ _ _ (by exact hbl)]
    exact HC.out i hi
  rintro e w1 ⟨g, cap', rfl, hg, hown, hb⟩
  have hz : w.heap.size + 1 < w1.heap.size := by have := hb.size; simp at this; omega
  have k0 : w1.cell? ⟨w.heap.size, 0, none⟩ = some (.int .i64 id) := (hb.cell (p := ⟨_, 0, none⟩) (by simp <;> omega)).trans (by simp)
  have k1 : w1.cell? ⟨w.heap.size, 1, none⟩ = some (.slice (some ⟨b, off, none⟩) xs.length cap) := (hb.cell (p := ⟨_, 1, none⟩) (by simp <;> omega)).trans (by simp)
  have k2 : w1.cell? ⟨w.heap.size, 2, none⟩ = some (.int .i64 t0) := (hb.cell (p := ⟨_, 2, none⟩) (by simp <;> omega)).trans (by simp)
  have k3 : w1.cell? ⟨w.heap.size, 3, none⟩ = some (.int .i64 t1) := (hb.cell (p := ⟨_, 3, none⟩) (by simp <;> omega)).trans (by simp)
  have l0 : w1.cell? ⟨w.heap.size + 1, 0, none⟩ = some (.int .i64 0) := (hb.cell (p := ⟨_, 0, none⟩) (by simp <;> omega)).trans (by simp)
  have l1 : w1.cell? ⟨w.heap.size + 1, 1, none⟩ = some (.slice none 0 0) := (hb.cell (p := ⟨_, 1, none⟩) (by simp <;> omega)).trans (by simp)
  have l2 : w1.cell? ⟨w.heap.size + 1, 2, none⟩ = some (.int .i64 0) := (hb.cell (p := ⟨_, 2, none⟩) (by simp <;> omega)).trans (by simp)
  have l3 : w1.cell? ⟨w.heap.size + 1, 3, none⟩ = some (.int .i64 0) := (hb.cell (p := ⟨_, 3, none⟩) (by simp <;> omega)).trans (by simp)
  have fk : ∀ o, w1.frozen? ⟨w.heap.size, o, none⟩ = false := fun o => (hb.frozen (p := ⟨_, o, none⟩) (by simp <;> omega)).trans (by simp)
  have fl : ∀ o, w1.frozen? ⟨w.heap.size + 1, o, none⟩ = false := fun o => (hb.frozen (p := ⟨_, o, none⟩) (by simp <;> omega)).trans (by simp)
  have HO := hide hown
  have HG := hide hg
  have HB := hide hb
  clear hown hg hb
  go_wp2
  refine bodyPost_ret (v := .agg #[.int .i64 id, .slice (some ⟨g, 0, none⟩) xs.length cap', .int .i64 t0, .int .i64 t1]) (by simp [results, Tryd.results56, go_sem, l0, l1, l2, l3]) rfl ⟨g, cap', rfl, ?_, ?_, ?_⟩
  · have := HG.out; simp at this; omega
  · have hg := HG.out
    simp at hg
    refine ownsRow_of_block HO.out fun g' e' => ?_
    obtain rfl : g = g' := by simpa [Value.ownBlock] using e'
    repeat rw [Below.heap_setCell _ _ _ _ (by simp; omega)]
  · repeat refine Below.setCell ?_ (by simp) _
    exact (((Below.refl _ _).alloc (Nat.le_refl _) _).alloc (by simp) _).trans (HB.out.mono (by simp; omega))
end Go.Proofs.YtgilnaheedmmfaaDoor
