import Derived.Test.YtgilnaheedmmfaaDoorLists
namespace Go.Proofs.YtgilnaheedmmfaaDoor
open Go.RowKit

theorem info32 : (Tryd.prog.info? 32).map (fun i => (i.zero, i.size, i.bytes)) = some (some (.slice none 0 0), 1, 24) := by kernel_rfl

theorem ownsRow_oneCell {w : World} {base e size n : Nat} {v : Value} {xs : List Value} (h : w.ownsRow base e size v n xs) : v.oneCell' = true := by
  rcases h.2 with ⟨rfl, _⟩ | ⟨g, cap, cur, rfl, _⟩ <;> rfl

set_option maxHeartbeats 1000000 in
theorem mark58_any (bp : Nat) (b x : Int) (w : World) (c6 : w.cell? ⟨bp, 6, none⟩ = some (.int .i64 b)) (c7 : w.cell? ⟨bp, 7, none⟩ = some (.int .i64 x)) (hf : w.frozen? ⟨bp, 7, none⟩ = false) :
    Calls Tryd.prog 58 #[.pointer (some ⟨bp, 6, none⟩)] w fun ev w' => ∃ m nx nq, ev = .returned (.int .i64 m) ∧ w' = (w.setCell ⟨bp, 7, none⟩ (.int .i64 nx)).drewN nq := by
  go_enter Tryd.func58, Tryd.ntmps58
  go_wp2
  go_quiet (fail)
  go_wp2
  go_ret
  exact ⟨_, _, _, rfl, rfl⟩

/-- What 'ints' has done so far: begun in w0 with the list lv0 and the book's lists nsv0, nmv0. -/
structure InS (w0 : World) (bp : Nat) (lv0 nsv0 nmv0 : Value) (w : World) (lv : Value) (nl : Nat) (nsv : Value) (ns : Nat) (nmv : Value) (nm : Nat) : Prop where
  typ : ∃ cs, w.heap[bp]? = some (.cells cs 41 (0, 0))
  low : ∀ o v, o < 6 → w0.cell? ⟨bp, o, none⟩ = some v → w.cell? ⟨bp, o, none⟩ = some v
  c6 : ∃ b, w.cell? ⟨bp, 6, none⟩ = some (.int .i64 b)
  c7 : ∃ b, w.cell? ⟨bp, 7, none⟩ = some (.int .i64 b)
  c8 : w.cell? ⟨bp, 8, none⟩ = some nsv
  c9 : w.cell? ⟨bp, 9, none⟩ = some nmv
  hl : ∃ xs, w.ownsRow 0 3 1 lv nl xs
  hs : ∃ xs, w.ownsRow 0 32 1 nsv ns xs
  hm : ∃ xs, w.ownsRow 0 3 1 nmv nm xs
  apart : ∀ g, lv.ownBlock = some g → nmv.ownBlock ≠ some g
  ll : ∀ g, lv.ownBlock = some g → lv0.ownBlock = some g ∨ w0.heap.size ≤ g
  ls : ∀ g, nsv.ownBlock = some g → nsv0.ownBlock = some g ∨ w0.heap.size ≤ g
  lm : ∀ g, nmv.ownBlock = some g → nmv0.ownBlock = some g ∨ w0.heap.size ≤ g
  kept : Kept (fun k => k = bp ∨ lv0.ownBlock = some k ∨ nsv0.ownBlock = some k ∨ nmv0.ownBlock = some k) w0 w

section
variable {w0 w w1 : World} {bp : Nat} {lv0 nsv0 nmv0 lv nsv nmv v2 : Value} {nl ns nm : Nat} {o : Obj} {xs : List Value}

theorem InS.frozen (h : InS w0 bp lv0 nsv0 nmv0 w lv nl nsv ns nmv nm) (k : Nat) : w.frozen? ⟨bp, k, none⟩ = false := by
  obtain ⟨cs, hc⟩ := h.typ
  simp [World.frozen?, hc]
theorem InS.lt (h : InS w0 bp lv0 nsv0 nmv0 w lv nl nsv ns nmv nm) : bp < w.heap.size := by
  obtain ⟨cs, hc⟩ := h.typ
  exact (Array.getElem?_eq_some_iff.1 hc).1
theorem ne_of_elem {w : World} {a b : Nat} {c1 c2 : Array Value} {e1 e2 : TypeId} {f1 f2 : Nat × Nat} (h1 : w.heap[a]? = some (.cells c1 e1 f1)) (h2 : w.heap[b]? = some (.cells c2 e2 f2)) (hne : e1 ≠ e2) : a ≠ b := by
  intro e; subst e; rw [h1] at h2; simp at h2; exact hne h2.2.1
theorem InS.ns_ne (h : InS w0 bp lv0 nsv0 nmv0 w lv nl nsv ns nmv nm) : some bp ≠ nsv.ownBlock := by
  intro e
  obtain ⟨cs, hc⟩ := h.typ
  obtain ⟨ys, hy⟩ := h.hs
  obtain ⟨c2, h2⟩ := ownsRow_obj hy e.symm
  exact ne_of_elem hc h2 (by decide) rfl
theorem InS.nm_ne (h : InS w0 bp lv0 nsv0 nmv0 w lv nl nsv ns nmv nm) : some bp ≠ nmv.ownBlock := by
  intro e
  obtain ⟨cs, hc⟩ := h.typ
  obtain ⟨ys, hy⟩ := h.hm
  obtain ⟨c2, h2⟩ := ownsRow_obj hy e.symm
  exact ne_of_elem hc h2 (by decide) rfl
theorem InS.lv_ne (h : InS w0 bp lv0 nsv0 nmv0 w lv nl nsv ns nmv nm) : some bp ≠ lv.ownBlock := by
  intro e
  obtain ⟨cs, hc⟩ := h.typ
  obtain ⟨ys, hy⟩ := h.hl
  obtain ⟨c2, h2⟩ := ownsRow_obj hy e.symm
  exact ne_of_elem hc h2 (by decide) rfl

/-- Where a row's block is neither written nor new it stays. -/
theorem row_grown {e : Nat} {v : Value} {n : Nat} {row : Option Nat} (h : w.ownsRow 0 e 1 v n xs) (hg : (w.alloc o).grownBy w1 row) (hne : ∀ g, v.ownBlock = some g → row ≠ some g) : w1.ownsRow 0 e 1 v n xs :=
  ownsRow_of_block (h.alloc o) fun g hv => hg.block g ((h.alloc o).lt g hv).2 (fun e => hne g hv e.symm)
theorem cell_grown {b k : Nat} {v : Value} {row : Option Nat} (h : w.cell? ⟨b, k, none⟩ = some v) (hg : (w.alloc o).grownBy w1 row) (hne : some b ≠ row) : w1.cell? ⟨b, k, none⟩ = some v :=
  hg.cell (by rw [World.cell?_alloc_lt _ _ _ (by exact block_lt_of_cell h)]; exact h) hne
theorem typ_grown {b : Nat} {row : Option Nat} (h : ∃ cs, w.heap[b]? = some (.cells cs 41 (0, 0))) (hg : (w.alloc o).grownBy w1 row) (hne : some b ≠ row) : ∃ cs, w1.heap[b]? = some (.cells cs 41 (0, 0)) := by
  obtain ⟨cs, hc⟩ := h
  have hlt := (Array.getElem?_eq_some_iff.1 hc).1
  exact ⟨cs, (hg.block b (by simp; omega) hne).trans ((Below.heap_alloc _ _ _ hlt).trans hc)⟩

/-- The list itself was appended to. -/
theorem InS.stepL (h : InS w0 bp lv0 nsv0 nmv0 w lv nl nsv ns nmv nm) (ho : w1.ownsRow 0 3 1 v2 (nl + 1) xs) (hg : (w.alloc o).grownBy w1 lv.ownBlock) (hl : v2.ownBlock = lv.ownBlock ∨ v2.ownBlock = some (w.heap.size + 1)) :
    InS w0 bp lv0 nsv0 nmv0 w1 v2 (nl + 1) nsv ns nmv nm := by
  obtain ⟨b6, h6⟩ := h.c6
  obtain ⟨b7, h7⟩ := h.c7
  obtain ⟨ys, hy⟩ := h.hs
  obtain ⟨zs, hz⟩ := h.hm
  obtain ⟨ls, hls⟩ := h.hl
  have hz0 := h.kept.size
  refine ⟨typ_grown h.typ hg h.lv_ne, fun o v ho hv => cell_grown (h.low o v ho hv) hg h.lv_ne, ⟨b6, cell_grown h6 hg h.lv_ne⟩, ⟨b7, cell_grown h7 hg h.lv_ne⟩, cell_grown h.c8 hg h.lv_ne, cell_grown h.c9 hg h.lv_ne, ⟨_, ho⟩, ⟨ys, row_grown hy hg ?_⟩, ⟨zs, row_grown hz hg ?_⟩, ?_, ?_, h.ls, h.lm, ?_⟩
  · intro g hn e
    obtain ⟨c1, h1⟩ := ownsRow_obj hy hn
    obtain ⟨c2, h2⟩ := ownsRow_obj hls e
    exact ne_of_elem h1 h2 (by decide) rfl
  · intro g hn e
    exact h.apart g e hn
  · intro g hv hn
    rcases hl with e | e
    · exact h.apart g (e ▸ hv) hn
    · rw [hv] at e
      have := (hz.lt g hn).2
      have := Option.some.inj e
      omega
  · intro g hv
    rcases hl with e | e
    · exact h.ll g (e ▸ hv)
    · rw [hv] at e
      have := Option.some.inj e
      right; omega
  · exact (h.kept.alloc o).grown hg fun k hk hlt => by
      rcases h.ll k hk with e | e
      · exact .inr (.inl e)
      · omega

/-- The book's marks were appended to, and stored. -/
theorem InS.stepM (h : InS w0 bp lv0 nsv0 nmv0 w lv nl nsv ns nmv nm) (ho : w1.ownsRow 0 3 1 v2 (nm + 1) xs) (hg : (w.alloc o).grownBy w1 nmv.ownBlock) (hl : v2.ownBlock = nmv.ownBlock ∨ v2.ownBlock = some (w.heap.size + 1)) :
    InS w0 bp lv0 nsv0 nmv0 (w1.setCell ⟨bp, 9, none⟩ v2) lv nl nsv ns v2 (nm + 1) ∧ w1.cell? ⟨bp, 9, none⟩ = some nmv ∧ w1.frozen? ⟨bp, 9, none⟩ = false := by
  obtain ⟨b6, h6⟩ := h.c6
  obtain ⟨b7, h7⟩ := h.c7
  obtain ⟨ys, hy⟩ := h.hs
  obtain ⟨zs, hz⟩ := h.hm
  obtain ⟨ls, hls⟩ := h.hl
  have hz0 := h.kept.size
  obtain ⟨cs, hc⟩ := typ_grown h.typ hg h.nm_ne
  have k9 := cell_grown h.c9 hg h.nm_ne
  have ho2 : (w1.setCell ⟨bp, 9, none⟩ v2).ownsRow 0 3 1 v2 (nm + 1) xs := ownsRow_of_block ho fun g hv => Below.heap_setCell _ _ _ _ (by
    obtain ⟨c2, h2⟩ := ownsRow_obj ho hv
    exact (ne_of_elem hc h2 (by decide)).symm)
  have rs : ∀ {e : Nat} {v : Value} {n : Nat} {l : List Value}, e ≠ 41 → w1.ownsRow 0 e 1 v n l → (w1.setCell ⟨bp, 9, none⟩ v2).ownsRow 0 e 1 v n l := fun {e v n l} he hr => ownsRow_of_block hr fun g hv => Below.heap_setCell _ _ _ _ (by
    obtain ⟨c2, h2⟩ := ownsRow_obj hr hv
    exact (ne_of_elem hc h2 (fun e' => he e'.symm)).symm)
  refine ⟨⟨⟨_, heap_setCell_same _ _ _ _ _ _ hc⟩, fun o v ho hv => (World.cell?_setCell_other _ _ _ _ (by simp <;> omega)).trans (cell_grown (h.low o v ho hv) hg h.nm_ne), ⟨b6, ?_⟩, ⟨b7, ?_⟩, ?_, World.cell?_setCell_same _ _ _ k9, ⟨ls, rs (by decide) (row_grown hls hg fun g hv e => h.apart g hv e)⟩, ⟨ys, rs (by decide) (row_grown hy hg ?_)⟩, ⟨_, ho2⟩, ?_, h.ll, h.ls, ?_, ?_⟩, k9, by simp [World.frozen?, hc]⟩
  · rw [World.cell?_setCell_other _ _ _ _ (by simp)]; exact cell_grown h6 hg h.nm_ne
  · rw [World.cell?_setCell_other _ _ _ _ (by simp)]; exact cell_grown h7 hg h.nm_ne
  · rw [World.cell?_setCell_other _ _ _ _ (by simp)]; exact cell_grown h.c8 hg h.nm_ne
  · intro g hn e
    obtain ⟨c1, h1⟩ := ownsRow_obj hy hn
    obtain ⟨c2, h2⟩ := ownsRow_obj hz e
    exact ne_of_elem h1 h2 (by decide) rfl
  · intro g hv hn
    rcases hl with e | e
    · exact h.apart g hv (e ▸ hn)
    · rw [hn] at e
      have := (hls.lt g hv).2
      have := Option.some.inj e
      omega
  · intro g hv
    rcases hl with e | e
    · exact h.lm g (e ▸ hv)
    · rw [hv] at e
      have := Option.some.inj e
      right; omega
  · refine Kept.setCell ((h.kept.alloc o).grown hg fun k hk hlt => ?_) (fun _ => .inl rfl) _
    rcases h.lm k hk with e | e
    · exact .inr (.inr (.inr e))
    · omega

/-- The book's lists were appended to, and stored. -/
theorem InS.stepN (h : InS w0 bp lv0 nsv0 nmv0 w lv nl nsv ns nmv nm) (ho : w1.ownsRow 0 32 1 v2 (ns + 1) xs) (hg : (w.alloc o).grownBy w1 nsv.ownBlock) (hl : v2.ownBlock = nsv.ownBlock ∨ v2.ownBlock = some (w.heap.size + 1)) :
    InS w0 bp lv0 nsv0 nmv0 (w1.setCell ⟨bp, 8, none⟩ v2) lv nl v2 (ns + 1) nmv nm ∧ w1.cell? ⟨bp, 8, none⟩ = some nsv ∧ w1.cell? ⟨bp, 9, none⟩ = some nmv ∧ w1.frozen? ⟨bp, 8, none⟩ = false := by
  obtain ⟨b6, h6⟩ := h.c6
  obtain ⟨b7, h7⟩ := h.c7
  obtain ⟨ys, hy⟩ := h.hs
  obtain ⟨zs, hz⟩ := h.hm
  obtain ⟨ls, hls⟩ := h.hl
  have hz0 := h.kept.size
  obtain ⟨cs, hc⟩ := typ_grown h.typ hg h.ns_ne
  have k8 := cell_grown h.c8 hg h.ns_ne
  have rs : ∀ {e : Nat} {v : Value} {n : Nat} {l : List Value}, e ≠ 41 → w1.ownsRow 0 e 1 v n l → (w1.setCell ⟨bp, 8, none⟩ v2).ownsRow 0 e 1 v n l := fun {e v n l} he hr => ownsRow_of_block hr fun g hv => Below.heap_setCell _ _ _ _ (by
    obtain ⟨c2, h2⟩ := ownsRow_obj hr hv
    exact (ne_of_elem hc h2 (fun e' => he e'.symm)).symm)
  refine ⟨⟨⟨_, heap_setCell_same _ _ _ _ _ _ hc⟩, fun o v ho hv => (World.cell?_setCell_other _ _ _ _ (by simp <;> omega)).trans (cell_grown (h.low o v ho hv) hg h.ns_ne), ⟨b6, ?_⟩, ⟨b7, ?_⟩, World.cell?_setCell_same _ _ _ k8, ?_, ⟨ls, rs (by decide) (row_grown hls hg ?_)⟩, ⟨_, rs (by decide) ho⟩, ⟨zs, rs (by decide) (row_grown hz hg ?_)⟩, h.apart, h.ll, ?_, h.lm, ?_⟩, k8, cell_grown h.c9 hg h.ns_ne, by simp [World.frozen?, hc]⟩
  · rw [World.cell?_setCell_other _ _ _ _ (by simp)]; exact cell_grown h6 hg h.ns_ne
  · rw [World.cell?_setCell_other _ _ _ _ (by simp)]; exact cell_grown h7 hg h.ns_ne
  · rw [World.cell?_setCell_other _ _ _ _ (by simp)]; exact cell_grown h.c9 hg h.ns_ne
  · intro g hn e
    obtain ⟨c1, h1⟩ := ownsRow_obj hls hn
    obtain ⟨c2, h2⟩ := ownsRow_obj hy e
    exact ne_of_elem h1 h2 (by decide) rfl
  · intro g hn e
    obtain ⟨c1, h1⟩ := ownsRow_obj hz hn
    obtain ⟨c2, h2⟩ := ownsRow_obj hy e
    exact ne_of_elem h1 h2 (by decide) rfl
  · intro g hv
    rcases hl with e | e
    · exact h.ls g (e ▸ hv)
    · rw [hv] at e
      have := Option.some.inj e
      right; omega
  · refine Kept.setCell ((h.kept.alloc o).grown hg fun k hk hlt => ?_) (fun _ => .inl rfl) _
    rcases h.ls k hk with e | e
    · exact .inr (.inr (.inl e))
    · omega
end
end Go.Proofs.YtgilnaheedmmfaaDoor
