import Derived.Test.YtgilnaheedmmfaaDoorBook
import Derived.Deep.Cut
import Derived.Deep.DeepMust
namespace Go.Proofs.YtgilnaheedmmfaaDoor
open Go.RowKit

section
variable {w0 w : World} {bp : Nat} {lv0 nsv0 nmv0 lv nsv nmv : Value} {nl ns nm : Nat}
theorem InS.mark (h : InS w0 bp lv0 nsv0 nmv0 w lv nl nsv ns nmv nm) (nx : Int) (nq : Nat) : InS w0 bp lv0 nsv0 nmv0 ((w.setCell ⟨bp, 7, none⟩ (.int .i64 nx)).drewN nq) lv nl nsv ns nmv nm := by
  obtain ⟨b6, h6⟩ := h.c6
  obtain ⟨b7, h7⟩ := h.c7
  obtain ⟨ys, hy⟩ := h.hs
  obtain ⟨zs, hz⟩ := h.hm
  obtain ⟨ls, hls⟩ := h.hl
  obtain ⟨cs, hc⟩ := h.typ
  have rs : ∀ {e : Nat} {v : Value} {n : Nat} {l : List Value}, e ≠ 41 → w.ownsRow 0 e 1 v n l → ((w.setCell ⟨bp, 7, none⟩ (.int .i64 nx)).drewN nq).ownsRow 0 e 1 v n l := fun {e v n l} he hr => ownsRow_drewN (ownsRow_of_block hr fun g hv => Below.heap_setCell _ _ _ _ (by
    obtain ⟨c2, h2⟩ := ownsRow_obj hr hv
    exact (ne_of_elem hc h2 (fun e' => he e'.symm)).symm)) nq
  refine ⟨⟨_, by rw [heap_drewN]; exact heap_setCell_same _ _ _ _ _ _ hc⟩, fun o v ho hv => (World.cell?_setCell_other w ⟨bp, 7, none⟩ ⟨bp, o, none⟩ _ (by simp <;> omega)).trans (h.low o v ho hv), ⟨b6, ?_⟩, ⟨nx, World.cell?_setCell_same w ⟨bp, 7, none⟩ _ h7⟩, ?_, ?_, ⟨ls, rs (by decide) hls⟩, ⟨ys, rs (by decide) hy⟩, ⟨zs, rs (by decide) hz⟩, h.apart, h.ll, h.ls, h.lm, (h.kept.setCell (fun _ => .inl rfl) _).drewN nq⟩
  · exact (World.cell?_setCell_other w ⟨bp, 7, none⟩ ⟨bp, 6, none⟩ _ (by simp)).trans h6
  · exact (World.cell?_setCell_other w ⟨bp, 7, none⟩ ⟨bp, 8, none⟩ _ (by simp)).trans h.c8
  · exact (World.cell?_setCell_other w ⟨bp, 7, none⟩ ⟨bp, 9, none⟩ _ (by simp)).trans h.c9

theorem InS.setL {g n c : Nat} (h : InS w0 bp lv0 nsv0 nmv0 w (.slice (some ⟨g, 0, none⟩) n c) n nsv ns nmv nm) (j : Nat) (u : Value) : InS w0 bp lv0 nsv0 nmv0 (w.setCell ⟨g, j, none⟩ u) (.slice (some ⟨g, 0, none⟩) n c) n nsv ns nmv nm := by
  obtain ⟨b6, h6⟩ := h.c6
  obtain ⟨b7, h7⟩ := h.c7
  obtain ⟨ys, hy⟩ := h.hs
  obtain ⟨zs, hz⟩ := h.hm
  obtain ⟨ls, hls⟩ := h.hl
  obtain ⟨cs, hc⟩ := h.typ
  obtain ⟨cl, hcl⟩ := ownsRow_obj hls (g := g) rfl
  have hne : g ≠ bp := ne_of_elem hcl hc (by decide)
  have cl : ∀ {o : Nat} {v : Value}, w.cell? ⟨bp, o, none⟩ = some v → (w.setCell ⟨g, j, none⟩ u).cell? ⟨bp, o, none⟩ = some v := fun hh => by
    rw [World.cell?_setCell_far _ _ _ _ (by exact hne)]; exact hh
  refine ⟨⟨cs, (Below.heap_setCell _ _ _ _ hne.symm).trans hc⟩, fun o v ho hv => cl (h.low o v ho hv), ⟨b6, cl h6⟩, ⟨b7, cl h7⟩, cl h.c8, cl h.c9, ⟨_, ownsRow_set hls j u⟩, ⟨ys, ownsRow_of_block hy fun g' hv => Below.heap_setCell _ _ _ _ ?_⟩, ⟨zs, ownsRow_of_block hz fun g' hv => Below.heap_setCell _ _ _ _ ?_⟩, h.apart, h.ll, h.ls, h.lm, h.kept.setCell (fun hlt => ?_) _⟩
  · obtain ⟨c2, h2⟩ := ownsRow_obj hy hv
    exact ne_of_elem h2 hcl (by decide)
  · intro e
    have e' : g' = g := e
    subst e'
    exact h.apart g' rfl hv
  · rcases h.ll g rfl with e | e
    · exact .inr (.inl e)
    · exact absurd e (by have : g < w0.heap.size := hlt; omega)
end

theorem bd1 (nn : Nat) (h : (nn + 4) * 24 ≤ 140737488355328) : ∀ q, q < 4 → (nn + q + 1) * 24 ≤ 140737488355328 := fun q _ => Nat.le_trans (Nat.mul_le_mul_right 24 (by omega)) h
theorem bd2 (nn : Nat) (h : (nn + 4) * 24 ≤ 140737488355328) : ∀ q, q < 4 → (nn + q + 1) * 8 ≤ 140737488355328 := fun q hq => Nat.le_trans (Nat.mul_le_mul_left (nn + q + 1) (by decide)) (bd1 nn h q hq)
theorem bd3 (n : Nat) (h : (n + 4) * 8 ≤ 140737488355328) : ∀ q, q < 4 → (n + q + 1) * 8 ≤ 140737488355328 := fun q _ => Nat.le_trans (Nat.mul_le_mul_right 8 (by omega)) h
theorem md3 (n : Nat) (h : (n + 4) * 8 ≤ 140737488355328) : ∀ q, q < 4 → n + q + 1 ≤ maxLen := by intro q hq; unfold maxLen; omega
theorem md1 (nn : Nat) (h : (nn + 4) * 24 ≤ 140737488355328) : ∀ q, q < 4 → nn + q + 1 ≤ maxLen := md3 nn (Nat.le_trans (Nat.mul_le_mul_left (nn + 4) (by decide)) h)
theorem cell_one_new' (w : World) (x : Value) (t : TypeId) (H0 : Nat) (h : H0 = w.heap.size) : ∀ j u, [x][j]? = some u → (w.alloc (.cells #[x] t)).cell? ((⟨H0, 0, none⟩ : Addr).add j) = some u := by
  subst h
  exact cell_one_new w x t
theorem one_of_row {w : World} {base e size n : Nat} {v : Value} {xs : List Value} (h : w.ownsRow base e size v n xs) : ∀ u ∈ [v], u.oneCell' = true := by
  intro u hu
  simp at hu
  subst hu
  exact ownsRow_oneCell h

set_option maxHeartbeats 1000000 in
set_option maxRecDepth 10000 in
/-- (*book).ints. -/
theorem ints35_any (bp : Nat) (a : Option Addr) (n c : Nat) (nsv nmv : Value) (nn : Nat) (w : World) (h : InS w bp (.slice a n c) nsv nmv w (.slice a n c) n nsv nn nmv nn) (hn : (n + 4) * 8 ≤ 140737488355328) (hnn : (nn + 4) * 24 ≤ 140737488355328) :
    Calls Tryd.prog 35 #[.pointer (some ⟨bp, 6, none⟩), .slice a n c] w fun ev w' => ev = .returned (.tuple #[]) ∧ ∃ lv' nsv' nmv', InS w bp (.slice a n c) nsv nmv w' lv' (n + 4) nsv' (nn + 4) nmv' (nn + 4) := by
  have hn2 : n ≤ 17592186044416 := by omega
  have B1 := hide (bd1 nn hnn)
  have B2 := hide (bd2 nn hnn)
  have B3 := hide (bd3 n hn)
  have M1 := hide (md1 nn hnn)
  have M3 := hide (md3 n hn)
  clear hn hnn
  obtain ⟨i3, hi3, hz30, hz31, hz32⟩ := info_parts info3
  obtain ⟨i32, hi32, hz320, hz321, hz322⟩ := info_parts info32
  obtain ⟨b6, h6⟩ := h.c6
  obtain ⟨b7, h7⟩ := h.c7
  have h7f := h.frozen 7
  have H := hide h
  clear h
  go_enter Tryd.func35, Tryd.ntmps35
  go_wp2_with fail
  refine (mark58_any bp b6 b7 _ h6 h7 h7f).mono ?_
  rintro ev w1 ⟨m, nx, nq, rfl, rfl⟩
  have H1 := hide (H.out.mark nx nq)
  generalize (w.setCell ⟨bp, 7, none⟩ (.int .i64 nx)).drewN nq = w1 at *
  clear h6 h7 h7f
  go_wp2
  go_loopw [5] (fun i wr => ∃ k : Nat, k ≤ n ∧ i = .int .i64 k ∧ Hid (InS w bp (.slice a n c) nsv nmv wr (.slice a n c) n nsv nn nmv nn)) (fun i _ => n - (intOf i).toNat)
  case atStart => exact ⟨0, Nat.zero_le _, rfl, H1⟩
  case round =>
    obtain ⟨k, hk, rfl, hr⟩ := hrel
    by_cases hlt : k < n
    · obtain ⟨xs, hxs⟩ := hr.out.hl
      rcases hxs.2 with ⟨_, h0⟩ | ⟨g, cap, cur, hv, _⟩
      · omega
      simp only [Value.slice.injEq] at hv
      obtain ⟨rfl, _, rfl⟩ := hv
      have hxl : xs.length = n := by simpa using hxs.1
      have hcx : wr.cell? ⟨g, k, none⟩ = some xs[k] := ownsRow_cell hxs (List.getElem?_eq_getElem (by omega))
      have hfx := ownsRow_frozen hxs k
      generalize xs[k] = x at hcx
      clear hxs hxl
      go_wp2
      exact ⟨⟨k + 1, by omega, by go_num, hr.out.setL k _⟩, by simp [intOf]; omega⟩
    · have H2 : Hid (InS w bp (.slice a n c) nsv nmv wr (.slice a n c) n nsv nn nmv nn) := hr
      clear hr H1
      go_wp2
      go_loopw [1, 6] (fun l i wr => ∃ (k : Nat) (al : Option Addr) (cl : Nat) (nsv' nmv' : Value), k ≤ 4 ∧ i = .int .i64 k ∧ l = .slice al (n + k) cl ∧ Hid (InS w bp (.slice a n c) nsv nmv wr (.slice al (n + k) cl) (n + k) nsv' (nn + k) nmv' (nn + k))) (fun _ i _ => 4 - (intOf i).toNat)
      case atStart => exact ⟨0, a, c, nsv, nmv, Nat.zero_le _, rfl, rfl, H2⟩
      case round =>
        clear H2
        obtain ⟨q, al, cl, nsv', nmv', hq, rfl, rfl, hr⟩ := hrel
        by_cases hlt : q < 4
        · have c8 := hr.out.c8
          have hbl := hr.out.lt
          obtain ⟨ls, hls⟩ := hr.out.hl
          obtain ⟨ys, hys⟩ := hr.out.hs
          have HL1 := hide (one_of_row hls)
          have HYS := hide hys
          clear hls hys
          go_upto_region 9 with (at_builtin; refine wpList_append_lies _ rfl _ _ 31 rfl 0 32 i32 (.slice none 0 0) 1 24 Tryd.underlying31 hi32 hz320 hz321 hz322 rfl (by decide) nsv' (nn + q) ys rfl (HYS.out.alloc _) ⟨wr.heap.size, 0, none⟩ 1 1 [.slice al (n + q) cl] rfl rfl (cell_one_new _ _ _) HL1.out (by decide) (M1.out q hlt) (B1.out q hlt) (Nat.zero_le _) (wr.heap.size + 1) (by simp) ?_; intro g1 cap1 w2 ho1 hg1 hl1 hlt1; obtain ⟨hS2, k8, k9, kf⟩ := hr.out.stepN ho1 hg1 (hl1.imp (fun e => e.symm) (fun e => congrArg some e)); obtain ⟨zs, hzs⟩ := hS2.hm; have HS2 := hide hS2; have HZS := hide hzs; clear hS2 hzs ho1 hg1 hl1)
          go_upto_region 10 with (at_builtin; go_must (refine wpList_append_lies _ rfl _ _ 32 rfl 0 3 i3 (.int .i64 0) 1 8 Tryd.underlying32 hi3 hz30 hz31 hz32 rfl (by decide) nmv' (nn + q) zs rfl (HZS.out.alloc _) ⟨w2.heap.size, 0, none⟩ 1 1 [.int .i64 (wrap64 (-m))] rfl rfl (cell_one_new' _ _ _ _ (by simp)) (ints_oneCell .i64 [wrap64 (-m)]) (by decide) (M1.out q hlt) (B2.out q hlt) (Nat.zero_le _) (w2.heap.size + 1) (by simp) ?_); intro g2 cap2 w3 ho2 hg2 hl2 hlt2; obtain ⟨hS3, m9, mf⟩ := HS2.out.stepM ho2 hg2 (hl2.imp (fun e => e.symm) (fun e => (congrArg some e).trans (by simp))); obtain ⟨ls, hls⟩ := hS3.hl; have HS3 := hide hS3; have HLS := hide hls; clear hS3 hls ho2 hg2 hl2)
          go_wp2_with (at_builtin; go_must (refine wpList_append_lies _ rfl _ _ 32 rfl 0 3 i3 (.int .i64 0) 1 8 Tryd.underlying32 hi3 hz30 hz31 hz32 rfl (by decide) (.slice al (n + q) cl) (n + q) ls rfl (HLS.out.alloc _) ⟨w3.heap.size, 0, none⟩ 1 1 [.int .i64 (wrap64 (-m))] rfl rfl (cell_one_new' _ _ _ _ (by simp)) (ints_oneCell .i64 [wrap64 (-m)]) (by decide) (M3.out q hlt) (B3.out q hlt) (Nat.zero_le _) (w3.heap.size + 1) (by simp) ?_); intro g3 cap3 w4 ho3 hg3 hl3 hlt3; have HS4 := hide (HS3.out.stepL ho3 hg3 (hl3.imp (fun e => e.symm) (fun e => (congrArg some e).trans (by simp)))))
          refine ⟨⟨q + 1, some ⟨g3, 0, none⟩, cap3, _, _, by omega, by go_num, rfl, HS4⟩, by simp [intOf]; omega⟩
        · obtain rfl : q = 4 := by omega
          go_wp2
          go_end0
          exact ⟨rfl, _, _, _, hr.out⟩
end Go.Proofs.YtgilnaheedmmfaaDoor
