import Derived.Deep.Cut
import Derived.Deep.DeepMust
import Derived.Test.YtpkiefjanmfgfaaGreatDoorSea13
import Derived.Test.YtpkiefjanmfgfaaGreatDoorSea14
namespace Go.Proofs.YtpkiefjanmfgfaaGreatDoor
open Go.RowKit

theorem row_cap {w : World} {base e size n c : Nat} {a : Option Addr} {xs : List Value} (h : w.ownsRow base e size (.slice a n c) n xs) : n ≤ c := by
  rcases h.2 with ⟨hv, hn⟩ | ⟨g, cap, cur, hv, _, _, hc, _⟩
  · omega
  · simp only [Value.slice.injEq] at hv
    omega
/-- Its first k. -/
theorem src_take {w : World} {la : Option Addr} {n lc k : Nat} {L : List Ent} (h : w.ownsRow 0 135 5 (.slice la n lc) n (rcells L)) (hk : k ≤ L.length) : ∀ o, 0 < k → ∃ a, la = some a ∧ ∀ j u, (rcells (L.take k))[j]? = some u → (w.alloc o).cell? (a.add j) = some u := by
  intro o h0
  rcases h.2 with ⟨hv, hn⟩ | ⟨g, cap, cur, hv, _⟩
  · have := h.1
    rw [rcells_length] at this
    omega
  · simp only [Value.slice.injEq] at hv
    obtain ⟨rfl, _, rfl⟩ := hv
    refine ⟨_, rfl, fun j u hj => ?_⟩
    rw [addr_add, Nat.zero_add, World.cell?_alloc_lt _ _ _ (by exact (h.lt g rfl).2)]
    exact ownsRow_cell h (rcells_take L k hk hj)

theorem cell_five (w : World) (b0 b1 b2 b3 b4 : Value) : ∀ j u, [b0, b1, b2, b3, b4][j]? = some u → (w.alloc (.cells #[b0, b1, b2, b3, b4] 135)).cell? ((⟨w.heap.size, 0, none⟩ : Addr).add j) = some u := by
  intro j u hj
  rw [addr_add, Nat.zero_add, World.cell?_alloc_new]
  simpa using hj
theorem one_five (id : Int) (v : Value) (t0 t1 draw : Int) (h : v.oneCell' = true := by rfl) : ∀ u ∈ [Value.int .i64 id, v, Value.int .i64 t0, Value.int .i64 t1, Value.int .u64 draw], u.oneCell' = true := by
  intro u hu
  simp at hu
  rcases hu with rfl | rfl | rfl | rfl | rfl
  · rfl
  · exact h
  all_goals rfl
theorem new_first {w2 w3 : World} {b0 b1 b2 b3 b4 : Value} (hg : (w2.alloc (.cells #[b0, b1, b2, b3, b4] 135)).grownBy w3 (Value.slice none 0 0).ownBlock) :
    Below w2.heap.size w2 w3 ∧ w3.cell? ⟨w2.heap.size, 0, none⟩ = some b0 ∧ w3.cell? ⟨w2.heap.size, 1, none⟩ = some b1 ∧ w3.cell? ⟨w2.heap.size, 2, none⟩ = some b2 ∧ w3.cell? ⟨w2.heap.size, 3, none⟩ = some b3 ∧ w3.cell? ⟨w2.heap.size, 4, none⟩ = some b4 :=
  ⟨((Below.refl _ _).alloc (Nat.le_refl _) _).grown hg (by simp) (fun k e => by cases e), hg.cell (by simp) (by intro e; cases e), hg.cell (by simp) (by intro e; cases e), hg.cell (by simp) (by intro e; cases e), hg.cell (by simp) (by intro e; cases e), hg.cell (by simp) (by intro e; cases e)⟩
theorem new_second {w2 w3 w4 : World} {a1 : Option Addr} {k c1 g2 H : Nat} {o : Obj} (hz : w2.heap.size < w3.heap.size) (hl1 : (Value.slice a1 k c1).ownBlock = (Value.slice none 0 0).ownBlock ∨ (Value.slice a1 k c1).ownBlock = some H) (hH : w2.heap.size ≤ H) (hg : (w3.alloc o).grownBy w4 (Value.slice a1 k c1).ownBlock)
    (hl2 : (Value.slice a1 k c1).ownBlock = some g2 ∨ g2 = w3.heap.size + 1) : Below w2.heap.size w3 w4 ∧ w2.heap.size ≤ g2 := by
  have h1 : ∀ g, (Value.slice a1 k c1).ownBlock = some g → w2.heap.size ≤ g := by
    intro g e
    rcases hl1 with h | h
    · rw [e] at h; cases h
    · rw [e] at h; have := Option.some.inj h; omega
  refine ⟨((Below.refl _ _).alloc (by omega) _).grown hg (by simp; omega) h1, ?_⟩
  rcases hl2 with h | h
  · exact h1 _ h
  · omega

theorem src_drop {w : World} {la : Option Addr} {n lc k : Nat} {L : List Ent} (h : w.ownsRow 0 135 5 (.slice la n lc) n (rcells L)) (hk : k ≤ L.length) (h0 : 0 < L.length - k) : ∃ g, la = some ⟨g, 0, none⟩ ∧ ∀ j u, (rcells (L.drop k))[j]? = some u → w.cell? (((⟨g, 0, none⟩ : Addr).add (k * 5)).add j) = some u := by
  rcases h.2 with ⟨hv, hn⟩ | ⟨g, cap, cur, hv, _⟩
  · have := h.1
    rw [rcells_length] at this
    omega
  · simp only [Value.slice.injEq] at hv
    obtain ⟨rfl, _, rfl⟩ := hv
    refine ⟨g, rfl, fun j u hj => ?_⟩
    rw [addr_add, addr_add, Nat.zero_add]
    exact ownsRow_cell h (rcells_drop L k hk hj)

theorem put_fin {w w2 w4 w5 : World} {br k g2 gc c2 c3 lc mb mc : Nat} {cf : Cf} {id t0 t1 draw : Int} {la a3 : Option Addr} {L : List Ent} {xs : List Int} (h : RefAt w br cf la lc L) (hb2 : Below w.heap.size w w2) (hb24 : Below w2.heap.size w2 w4) (hp : Pts w2 (w.heap.size + 1) gc xs) (hg2 : w2.heap.size ≤ g2) (hcap : L.length < 60)
    (hk : k ≤ L.length) (hkk : posE id L = k) (he : findE id L = none)
    (ho : w5.ownsRow 0 135 5 (.slice a3 (k + 1 + (L.length - k)) c3) (k + 1 + (L.length - k)) (rcells (L.take k) ++ [.int .i64 id, .slice (some ⟨w.heap.size + 1, 0, none⟩) xs.length gc, .int .i64 t0, .int .i64 t1, .int .u64 draw] ++ rcells (L.drop k)))
    (hg : w4.grownBy w5 (Value.slice (some ⟨g2, 0, none⟩) (k + 1) c2).ownBlock) (hl : (Value.slice a3 (k + 1 + (L.length - k)) c3).ownBlock = (Value.slice (some ⟨g2, 0, none⟩) (k + 1) c2).ownBlock ∨ (Value.slice a3 (k + 1 + (L.length - k)) c3).ownBlock = some w4.heap.size) (hz : w.heap.size < w2.heap.size) (_hm : mb = mc) :
    w5.cell? ⟨br, 6, none⟩ = some (.slice la L.length lc) ∧ w5.frozen? ⟨br, 6, none⟩ = false ∧ RefPut w br cf la lc L id t0 t1 draw xs (w5.setCell ⟨br, 6, none⟩ (.slice a3 (k + 1 + (L.length - k)) c3)) := by
  have hb4 : Below w.heap.size w w4 := hb2.trans (hb24.mono hb2.size)
  have hrow : ∀ g, (Value.slice (some ⟨g2, 0, none⟩) (k + 1) c2).ownBlock = some g → w2.heap.size ≤ g := by
    intro g e
    have : g2 = g := by simpa [Value.ownBlock] using e
    omega
  have hnew : ∀ g, (Value.slice a3 (k + 1 + (L.length - k)) c3).ownBlock = some g → w.heap.size ≤ g := by
    intro g e
    rcases hl with h | h
    · have := hrow g (h ▸ e); omega
    · rw [e] at h; have := Option.some.inj h; have := hb4.size; omega
  have hb25 : Below w2.heap.size w2 w5 := hb24.grown hg hb24.size hrow
  have hp5 : Pts w5 (w.heap.size + 1) gc xs := ownsRow_below hp hb25
  have key : ∀ mb mc, _ := fun mb mc => ref_new (M := insE ⟨id, xs, t0, t1, draw, mb, mc, w.heap.size + 1, gc⟩ L) h hb4 (n2 := k + 1 + (L.length - k)) (a2 := a3) (c2 := c3) (w3 := w5)
    (by rw [length_insE_none _ (by exact he)]; omega) (fun g e => by have := hrow g e; omega)
    (by
      rw [insE_new h.rising (by exact he)]
      rw [show posE (Ent.mk id xs t0 t1 draw mb mc (w.heap.size + 1) gc).id L = k from hkk, rcells_append, rcells_cons]
      simpa [rcell] using ho) hg hnew
    (by
      intro e he'
      rcases mem_insE he' with rfl | he'
      · exact hp5
      · exact ownsRow_below ((h.below hb2).pts e he') hb25) (rising_insE _ h.rising) (by rw [length_insE_none _ (by exact he)]; omega)
  obtain ⟨_, hk0, h6, hf, _⟩ := key 0 0
  refine ⟨h6, hf, w.heap.size + 1, gc, a3, c3, by omega, fun mb mc => (key mb mc).2.2.2.2, hk0.mono (fun k _ hk => .inl hk), fun n b e => .inr (hnew b (by cases a3 <;> exact e))⟩

set_option maxHeartbeats 1000000 in
set_option maxRecDepth 20000 in
theorem put36_new (br : Nat) (cf : Cf) (la : Option Addr) (lc : Nat) (L : List Ent) (id t0 t1 draw : Int) (xs : List Int) (b off pc : Nat) (w : World) (h : RefAt w br cf la lc L) (hr : ptCode cf.dim xs = 0) (hvl : ∀ o, IntsAt (w.alloc o) (.slice (some ⟨b, off, none⟩) xs.length pc) xs)
    (he : findE id L = none) (hroom : ¬ cf.cap ≤ L.length) (h60 : cf.cap ≤ 60) (h0 : 0 < xs.length) (h8 : xs.length ≤ 8) (hc : ∀ i, i < xs.length → w.cell? ⟨b, off + i, none⟩ = some (.int .i64 (xs.getD i 0))) :
    Calls Tryz.prog 71 #[.pointer (some ⟨br, 0, none⟩), .int .i64 id, .slice (some ⟨b, off, none⟩) xs.length pc, .agg #[.int .i64 t0, .int .i64 t1], .int .u64 draw] w fun ev w' => ev = .returned (.int .i64 0) ∧ RefPut w br cf la lc L id t0 t1 draw xs w' := by
  have HR := hide hr
  have HE : Hid ((findE id L).isSome = false) := by rw [he]; rfl
  have hk := posE_le id L
  have hd : decide (cf.cap ≤ (L.length : Int)) = false := by simpa using hroom
  have hlt60 : L.length < 60 := by omega
  have HFE := hide he
  obtain ⟨i90, hi, hz0, hz1, hz2⟩ := info_parts info90
  have hsm := h.small
  have hcap := row_cap h.row
  obtain ⟨i3, hi3, hz30, hz31, hz32⟩ := info_parts info3
  have r1 := h.r1
  have r6 := h.r6
  have hbr := h.lt
  have hbb := block_lt_of_cell (hc 0 h0)
  have HC := hide hc
  have H := hide h
  clear hr he hc hroom
  go_enter Tryz.func71, Tryz.ntmps71
  go_wp2_with fail
  refine (point59_any xs _ cf.dim br _ (hvl _) (h.alloc _).r0).mono ?_
  rintro ev w1 ⟨rfl, rfl⟩
  rw [HR.out]
  go_wp2_with fail
  refine (find38_any br cf _ lc L id _ (h.alloc _)).mono ?_
  rintro ev w1 ⟨rfl, np, rfl⟩
  rw [HE.out]
  clear h
  generalize hkk : posE id L = k at *
  have HKK := hide hkk
  clear hkk
  go_wp2
  go_quiet (fail)
  have HN := hide (put36_src (T := .cells #[.int .i64 t0, .int .i64 t1] 43) (np := np) (nq := nq) HC.out hbb)
  go_upto_region 9 with (at_builtin; go_must (refine wpList_append_lies _ rfl _ _ 32 rfl 0 3 i3 (.int .i64 0) 1 8 Tryz.underlying32 hi3 hz30 hz31 hz32 rfl (by decide) (.slice none 0 0) 0 [] rfl (World.ownsRow_nil _ _ _ _) ⟨b, off, none⟩ xs.length pc (vals xs) rfl (by simp [vals]) HN.out (vals_one xs) h0 (small_len _ (by omega)) (small_bytes8 _ (by omega)) (Nat.zero_le _) (w.heap.size + 1) (by simp) ?_); intro g gc w2 ho hg hl hlt; obtain ⟨hp, hb2, hbT, rfl⟩ := put36_own ho hg hl; have HP := hide hp; have HB2 := hide hb2; have u0 : w2.cell? ⟨w.heap.size, 0, none⟩ = some (.int .i64 t0) := Below.at hbT (by simp) (by simp); have u1 : w2.cell? ⟨w.heap.size, 1, none⟩ = some (.int .i64 t1) := Below.at hbT (by simp) (by simp); have hzw : w.heap.size < w2.heap.size := (by have := hbT.size; simp at this; omega); clear hp hbT ho hg hl)
  have H2 := hide (H.out.below HB2.out)
  have s6 : w2.cell? ⟨br, 6, none⟩ = some (.slice la L.length lc) := H2.out.r6
  have hbr2 : br < w2.heap.size := H2.out.lt
  clear r1 r6 hvl HC
  have X1 := hide (src_take H2.out.row hk)
  go_upto_region 15 with (at_builtin; go_must (refine wpList_append_any _ rfl _ _ 90 rfl 0 135 i90 (.agg #[.int .i64 0, .slice none 0 0, .int .i64 0, .int .i64 0, .int .u64 0]) 5 56 Tryz.underlying90 hi hz0 hz1 hz2 rfl (by decide) (.slice none 0 0) 0 [] rfl (World.ownsRow_nil _ _ _ _) la k _ (rcells (L.take k)) rfl (rcells_take_len L k hk) (X1.out _) (rcells_one _) (small_len _ (by omega)) (small_bytes _ (by omega)) (Nat.zero_le _) ?_); go_must (intro v1 w3 ho1 hg1 hl1; rw [Nat.zero_add, List.nil_append] at ho1; obtain ⟨a1, c1, rfl⟩ := row_form ho1; obtain ⟨hb3, k0, k1, k2, k3, k4⟩ := new_first hg1; have hb3w := HB2.out.trans (hb3.mono (Nat.le_of_lt hzw)); have y6 := Below.at hb3 s6 hbr2; have HO1 := hide ho1; have HL1 := hide hl1; have HB3 := hide hb3; have HB3W := hide hb3w; have hz3 : w2.heap.size < w3.heap.size := block_lt_of_cell k0; clear ho1 hg1 hl1 hb3 hb3w))
  go_upto_region 16 with (at_builtin; go_must (refine wpList_append_lies _ rfl _ _ 90 rfl 0 135 i90 (.agg #[.int .i64 0, .slice none 0 0, .int .i64 0, .int .i64 0, .int .u64 0]) 5 56 Tryz.underlying90 hi hz0 hz1 hz2 rfl (by decide) (.slice a1 k c1) k (rcells (L.take k)) rfl (HO1.out.alloc _) ⟨w3.heap.size, 0, none⟩ 1 1 [.int .i64 id, .slice (some ⟨w.heap.size + 1, 0, none⟩) xs.length gc, .int .i64 t0, .int .i64 t1, .int .u64 draw] rfl rfl (cell_five _ _ _ _ _ _) (one_five _ _ _ _ _) (by decide) (small_len _ (by omega)) (small_bytes _ (by omega)) (Nat.zero_le _) (w3.heap.size + 1) (by simp) ?_); go_must (intro g2 c2 w4 ho2 hg2 hl2 hlt2; obtain ⟨hb4, hg2z⟩ := new_second hz3 HL1.out (by simp) hg2 hl2; have y62 := Below.at hb4 y6 hbr2; have HO2 := hide ho2; have HB4 := hide hb4; have HG2 := hide hg2z; have hz4 : w3.heap.size ≤ w4.heap.size := hb4.size; clear ho2 hg2 hl2 hb4 hg2z))
  have HB24 := hide (HB3.out.trans HB4.out)
  go_wp2_with (at_builtin; go_must (refine wpList_append_any _ rfl _ _ 90 rfl 0 135 i90 (.agg #[.int .i64 0, .slice none 0 0, .int .i64 0, .int .i64 0, .int .u64 0]) 5 56 Tryz.underlying90 hi hz0 hz1 hz2 rfl (by decide) (.slice (some ⟨g2, 0, none⟩) (k + 1) c2) (k + 1) _ rfl HO2.out _ (L.length - k) _ (rcells (L.drop k)) rfl (rcells_drop_len L k) ?_ (rcells_one _) (small_len _ (by omega)) (small_bytes _ (by omega)) (Nat.zero_le _) ?_); go_must ((intro hp; obtain ⟨g0, hg0, hsrc⟩ := src_drop (ownsRow_below H2.out.row HB24.out) hk hp; rw [if_neg (by omega), hg0]; exact ⟨_, rfl, hsrc⟩)); go_must (intro v3 w5 ho3 hg3 hl3; obtain ⟨a3, c3, rfl⟩ := row_form ho3; obtain ⟨z6, z6f, hfin⟩ := put_fin (mb := 0) (mc := 0) H.out HB2.out HB24.out HP.out HG2.out (by omega) hk HKK.out HFE.out ho3 hg3 hl3 hzw (by omega); have HF := hide hfin; clear hfin ho3 hg3 hl3))
  all_goals go_ret
  all_goals (refine ⟨rfl, ?_⟩; first | exact HF.out | (subst_vars; exact HF.out))

/-- The document's Put, answered OK. -/
theorem put36_ok (br : Nat) (cf : Cf) (la : Option Addr) (lc : Nat) (L : List Ent) (id t0 t1 draw : Int) (xs : List Int) (b off pc : Nat) (w : World) (h : RefAt w br cf la lc L) (hr : ptCode cf.dim xs = 0) (hvl : ∀ o, IntsAt (w.alloc o) (.slice (some ⟨b, off, none⟩) xs.length pc) xs)
    (hroom : (findE id L).isSome = true ∨ ¬ cf.cap ≤ L.length) (h60 : cf.cap ≤ 60) (h0 : 0 < xs.length) (h8 : xs.length ≤ 8) (hc : ∀ i, i < xs.length → w.cell? ⟨b, off + i, none⟩ = some (.int .i64 (xs.getD i 0))) :
    Calls Tryz.prog 71 #[.pointer (some ⟨br, 0, none⟩), .int .i64 id, .slice (some ⟨b, off, none⟩) xs.length pc, .agg #[.int .i64 t0, .int .i64 t1], .int .u64 draw] w fun ev w' => ev = .returned (.int .i64 0) ∧ RefPut w br cf la lc L id t0 t1 draw xs w' := by
  cases he : findE id L with
  | some e => exact put36_there br cf la lc L id t0 t1 draw xs b off pc w h hr hvl e he h0 h8 hc
  | none =>
    rcases hroom with hx | hx
    · rw [he] at hx; cases hx
    · exact put36_new br cf la lc L id t0 t1 draw xs b off pc w h hr hvl he hx h60 h0 h8 hc
end Go.Proofs.YtpkiefjanmfgfaaGreatDoor
namespace Go.Proofs.YtpkiefjanmfgfaaGreatDoor
open Go.RowKit

section
variable {w0 w : World} {bp : Nat} {lv0 nsv0 nmv0 lv nsv nmv : Value} {nl ns nm : Nat}
theorem InS.mark (h : InS w0 bp lv0 nsv0 nmv0 w lv nl nsv ns nmv nm) (nx : Int) (nq : Nat) : InS w0 bp lv0 nsv0 nmv0 ((w.setCell ⟨bp, 7, none⟩ (.int .i64 nx)).drewN nq) lv nl nsv ns nmv nm := by
  obtain ⟨b6, h6⟩ := h.c6
  obtain ⟨b7, h7⟩ := h.c7
  obtain ⟨ys, hy⟩ := h.hs
  obtain ⟨zs, hz⟩ := h.hm
  obtain ⟨ls, hls⟩ := h.hl
  obtain ⟨cs, hc⟩ := h.typ
  have rs : ∀ {e : Nat} {v : Value} {n : Nat} {l : List Value}, e ≠ 41 → w.ownsRow 0 e 1 v n l → ((w.setCell ⟨bp, 7, none⟩ (.int .i64 nx)).drewN nq).ownsRow 0 e 1 v n l := fun {e v n l} he hr => ownsRow_drewN (ownsRow_of_block hr fun g hv => Below.heap_setCell _ _ _ _ (by
    obtain ⟨c2, h2⟩ := ownsRow_obj hr hv
    exact (ne_of_elem hc h2 (fun e' => he e'.symm)).symm)) nq
  refine ⟨⟨_, by rw [heap_drewN]; exact heap_setCell_same _ _ _ _ _ _ hc⟩, fun o v ho hv => (World.cell?_setCell_other w ⟨bp, 7, none⟩ ⟨bp, o, none⟩ _ (by simp <;> omega)).trans (h.low o v ho hv), ⟨b6, ?_⟩, ⟨nx, World.cell?_setCell_same w ⟨bp, 7, none⟩ _ h7⟩, ?_, ?_, ⟨ls, rs (by decide) hls⟩, ⟨ys, rs (by decide) hy⟩, ⟨zs, rs (by decide) hz⟩, h.apart, h.ll, h.ls, h.lm, (h.kept.setCell (fun _ => .inl rfl) _).drewN nq⟩
  · exact (World.cell?_setCell_other w ⟨bp, 7, none⟩ ⟨bp, 6, none⟩ _ (by simp)).trans h6
  · exact (World.cell?_setCell_other w ⟨bp, 7, none⟩ ⟨bp, 8, none⟩ _ (by simp)).trans h.c8
  · exact (World.cell?_setCell_other w ⟨bp, 7, none⟩ ⟨bp, 9, none⟩ _ (by simp)).trans h.c9

theorem InS.setL {g n c : Nat} (h : InS w0 bp lv0 nsv0 nmv0 w (.slice (some ⟨g, 0, none⟩) n c) n nsv ns nmv nm) (j : Nat) (u : Value) : InS w0 bp lv0 nsv0 nmv0 (w.setCell ⟨g, j, none⟩ u) (.slice (some ⟨g, 0, none⟩) n c) n nsv ns nmv nm := by
  obtain ⟨b6, h6⟩ := h.c6
  obtain ⟨b7, h7⟩ := h.c7
  obtain ⟨ys, hy⟩ := h.hs
  obtain ⟨zs, hz⟩ := h.hm
  obtain ⟨ls, hls⟩ := h.hl
  obtain ⟨cs, hc⟩ := h.typ
  obtain ⟨cl, hcl⟩ := ownsRow_obj hls (g := g) rfl
  have hne : g ≠ bp := ne_of_elem hcl hc (by decide)
  have cl : ∀ {o : Nat} {v : Value}, w.cell? ⟨bp, o, none⟩ = some v → (w.setCell ⟨g, j, none⟩ u).cell? ⟨bp, o, none⟩ = some v := fun hh => by
    rw [World.cell?_setCell_far _ _ _ _ (by exact hne)]; exact hh
  refine ⟨⟨cs, (Below.heap_setCell _ _ _ _ hne.symm).trans hc⟩, fun o v ho hv => cl (h.low o v ho hv), ⟨b6, cl h6⟩, ⟨b7, cl h7⟩, cl h.c8, cl h.c9, ⟨_, ownsRow_set hls j u⟩, ⟨ys, ownsRow_of_block hy fun g' hv => Below.heap_setCell _ _ _ _ ?_⟩, ⟨zs, ownsRow_of_block hz fun g' hv => Below.heap_setCell _ _ _ _ ?_⟩, h.apart, h.ll, h.ls, h.lm, h.kept.setCell (fun hlt => ?_) _⟩
  · obtain ⟨c2, h2⟩ := ownsRow_obj hy hv
    exact ne_of_elem h2 hcl (by decide)
  · intro e
    have e' : g' = g := e
    subst e'
    exact h.apart g' rfl hv
  · rcases h.ll g rfl with e | e
    · exact .inr (.inl e)
    · exact absurd e (by have : g < w0.heap.size := hlt; omega)
end

theorem bd1 (nn : Nat) (h : (nn + 4) * 24 ≤ 140737488355328) : ∀ q, q < 4 → (nn + q + 1) * 24 ≤ 140737488355328 := fun q _ => Nat.le_trans (Nat.mul_le_mul_right 24 (by omega)) h
theorem bd2 (nn : Nat) (h : (nn + 4) * 24 ≤ 140737488355328) : ∀ q, q < 4 → (nn + q + 1) * 8 ≤ 140737488355328 := fun q hq => Nat.le_trans (Nat.mul_le_mul_left (nn + q + 1) (by decide)) (bd1 nn h q hq)
theorem bd3 (n : Nat) (h : (n + 4) * 8 ≤ 140737488355328) : ∀ q, q < 4 → (n + q + 1) * 8 ≤ 140737488355328 := fun q _ => Nat.le_trans (Nat.mul_le_mul_right 8 (by omega)) h
theorem md3 (n : Nat) (h : (n + 4) * 8 ≤ 140737488355328) : ∀ q, q < 4 → n + q + 1 ≤ maxLen := by intro q hq; unfold maxLen; omega
theorem md1 (nn : Nat) (h : (nn + 4) * 24 ≤ 140737488355328) : ∀ q, q < 4 → nn + q + 1 ≤ maxLen := md3 nn (Nat.le_trans (Nat.mul_le_mul_left (nn + 4) (by decide)) h)
theorem cell_one_new' (w : World) (x : Value) (t : TypeId) (H0 : Nat) (h : H0 = w.heap.size) : ∀ j u, [x][j]? = some u → (w.alloc (.cells #[x] t)).cell? ((⟨H0, 0, none⟩ : Addr).add j) = some u := by
  subst h
  exact cell_one_new w x t
theorem one_of_row {w : World} {base e size n : Nat} {v : Value} {xs : List Value} (h : w.ownsRow base e size v n xs) : ∀ u ∈ [v], u.oneCell' = true := by
  intro u hu
  simp at hu
  subst hu
  exact ownsRow_oneCell h

set_option maxHeartbeats 1000000 in
set_option maxRecDepth 10000 in
/-- (*book).ints. -/
theorem ints35_any (bp : Nat) (a : Option Addr) (n c : Nat) (nsv nmv : Value) (nn : Nat) (w : World) (h : InS w bp (.slice a n c) nsv nmv w (.slice a n c) n nsv nn nmv nn) (hn : (n + 4) * 8 ≤ 140737488355328) (hnn : (nn + 4) * 24 ≤ 140737488355328) :
    Calls Tryz.prog 70 #[.pointer (some ⟨bp, 6, none⟩), .slice a n c] w fun ev w' => ev = .returned (.tuple #[]) ∧ ∃ lv' nsv' nmv', InS w bp (.slice a n c) nsv nmv w' lv' (n + 4) nsv' (nn + 4) nmv' (nn + 4) := by
  have hn2 : n ≤ 17592186044416 := by omega
  have B1 := hide (bd1 nn hnn)
  have B2 := hide (bd2 nn hnn)
  have B3 := hide (bd3 n hn)
  have M1 := hide (md1 nn hnn)
  have M3 := hide (md3 n hn)
  clear hn hnn
  obtain ⟨i3, hi3, hz30, hz31, hz32⟩ := info_parts info3
  obtain ⟨i32, hi32, hz320, hz321, hz322⟩ := info_parts info32
  obtain ⟨b6, h6⟩ := h.c6
  obtain ⟨b7, h7⟩ := h.c7
  have h7f := h.frozen 7
  have H := hide h
  clear h
  go_enter Tryz.func70, Tryz.ntmps70
  go_wp2_with fail
  refine (mark58_any bp b6 b7 _ h6 h7 h7f).mono ?_
  rintro ev w1 ⟨m, nx, nq, rfl, rfl⟩
  have H1 := hide (H.out.mark nx nq)
  generalize (w.setCell ⟨bp, 7, none⟩ (.int .i64 nx)).drewN nq = w1 at *
  clear h6 h7 h7f
  go_wp2
  go_loopw [5] (fun i wr => ∃ k : Nat, k ≤ n ∧ i = .int .i64 k ∧ Hid (InS w bp (.slice a n c) nsv nmv wr (.slice a n c) n nsv nn nmv nn)) (fun i _ => n - (intOf i).toNat)
  case atStart => exact ⟨0, Nat.zero_le _, rfl, H1⟩
  case round =>
    obtain ⟨k, hk, rfl, hr⟩ := hrel
    by_cases hlt : k < n
    · obtain ⟨xs, hxs⟩ := hr.out.hl
      rcases hxs.2 with ⟨_, h0⟩ | ⟨g, cap, cur, hv, _⟩
      · omega
      simp only [Value.slice.injEq] at hv
      obtain ⟨rfl, _, rfl⟩ := hv
      have hxl : xs.length = n := by simpa using hxs.1
      have hcx : wr.cell? ⟨g, k, none⟩ = some xs[k] := ownsRow_cell hxs (List.getElem?_eq_getElem (by omega))
      have hfx := ownsRow_frozen hxs k
      generalize xs[k] = x at hcx
      clear hxs hxl
      go_wp2
      exact ⟨⟨k + 1, by omega, by go_num, hr.out.setL k _⟩, by simp [intOf]; omega⟩
    · have H2 : Hid (InS w bp (.slice a n c) nsv nmv wr (.slice a n c) n nsv nn nmv nn) := hr
      clear hr H1
      go_wp2
      go_loopw [1, 6] (fun l i wr => ∃ (k : Nat) (al : Option Addr) (cl : Nat) (nsv' nmv' : Value), k ≤ 4 ∧ i = .int .i64 k ∧ l = .slice al (n + k) cl ∧ Hid (InS w bp (.slice a n c) nsv nmv wr (.slice al (n + k) cl) (n + k) nsv' (nn + k) nmv' (nn + k))) (fun _ i _ => 4 - (intOf i).toNat)
      case atStart => exact ⟨0, a, c, nsv, nmv, Nat.zero_le _, rfl, rfl, H2⟩
      case round =>
        clear H2
        obtain ⟨q, al, cl, nsv', nmv', hq, rfl, rfl, hr⟩ := hrel
        by_cases hlt : q < 4
        · have c8 := hr.out.c8
          have hbl := hr.out.lt
          obtain ⟨ls, hls⟩ := hr.out.hl
          obtain ⟨ys, hys⟩ := hr.out.hs
          have HL1 := hide (one_of_row hls)
          have HYS := hide hys
          clear hls hys
          go_upto_region 9 with (at_builtin; refine wpList_append_lies _ rfl _ _ 31 rfl 0 32 i32 (.slice none 0 0) 1 24 Tryz.underlying31 hi32 hz320 hz321 hz322 rfl (by decide) nsv' (nn + q) ys rfl (HYS.out.alloc _) ⟨wr.heap.size, 0, none⟩ 1 1 [.slice al (n + q) cl] rfl rfl (cell_one_new _ _ _) HL1.out (by decide) (M1.out q hlt) (B1.out q hlt) (Nat.zero_le _) (wr.heap.size + 1) (by simp) ?_; intro g1 cap1 w2 ho1 hg1 hl1 hlt1; obtain ⟨hS2, k8, k9, kf⟩ := hr.out.stepN ho1 hg1 (hl1.imp (fun e => e.symm) (fun e => congrArg some e)); obtain ⟨zs, hzs⟩ := hS2.hm; have HS2 := hide hS2; have HZS := hide hzs; clear hS2 hzs ho1 hg1 hl1)
          go_upto_region 10 with (at_builtin; go_must (refine wpList_append_lies _ rfl _ _ 32 rfl 0 3 i3 (.int .i64 0) 1 8 Tryz.underlying32 hi3 hz30 hz31 hz32 rfl (by decide) nmv' (nn + q) zs rfl (HZS.out.alloc _) ⟨w2.heap.size, 0, none⟩ 1 1 [.int .i64 (wrap64 (-m))] rfl rfl (cell_one_new' _ _ _ _ (by simp)) (ints_oneCell .i64 [wrap64 (-m)]) (by decide) (M1.out q hlt) (B2.out q hlt) (Nat.zero_le _) (w2.heap.size + 1) (by simp) ?_); intro g2 cap2 w3 ho2 hg2 hl2 hlt2; obtain ⟨hS3, m9, mf⟩ := HS2.out.stepM ho2 hg2 (hl2.imp (fun e => e.symm) (fun e => (congrArg some e).trans (by simp))); obtain ⟨ls, hls⟩ := hS3.hl; have HS3 := hide hS3; have HLS := hide hls; clear hS3 hls ho2 hg2 hl2)
          go_wp2_with (at_builtin; go_must (refine wpList_append_lies _ rfl _ _ 32 rfl 0 3 i3 (.int .i64 0) 1 8 Tryz.underlying32 hi3 hz30 hz31 hz32 rfl (by decide) (.slice al (n + q) cl) (n + q) ls rfl (HLS.out.alloc _) ⟨w3.heap.size, 0, none⟩ 1 1 [.int .i64 (wrap64 (-m))] rfl rfl (cell_one_new' _ _ _ _ (by simp)) (ints_oneCell .i64 [wrap64 (-m)]) (by decide) (M3.out q hlt) (B3.out q hlt) (Nat.zero_le _) (w3.heap.size + 1) (by simp) ?_); intro g3 cap3 w4 ho3 hg3 hl3 hlt3; have HS4 := hide (HS3.out.stepL ho3 hg3 (hl3.imp (fun e => e.symm) (fun e => (congrArg some e).trans (by simp)))))
          refine ⟨⟨q + 1, some ⟨g3, 0, none⟩, cap3, _, _, by omega, by go_num, rfl, HS4⟩, by simp [intOf]; omega⟩
        · obtain rfl : q = 4 := by omega
          go_wp2
          go_end0
          exact ⟨rfl, _, _, _, hr.out⟩
end Go.Proofs.YtpkiefjanmfgfaaGreatDoor
namespace Go.Proofs.YtpkiefjanmfgfaaGreatDoor
open Go.RowKit Go.Maps

theorem IntsAt.below {w w' : World} {v : Value} {xs : List Int} (h : IntsAt w v xs) (hb : Below w.heap.size w w') : IntsAt w' v xs := by
  obtain ⟨a, cap, rfl, h1, h2, h3⟩ := h
  refine ⟨a, cap, rfl, h1, h2, ?_⟩
  rcases h3 with h3 | ⟨b, off, rfl, hc⟩
  · exact .inl h3
  · exact .inr ⟨b, off, rfl, fun i hi => Below.at hb (hc i hi) (block_lt_of_cell (hc i hi))⟩
theorem IntsAt.lt {w : World} {v : Value} {xs : List Int} (h : IntsAt w v xs) : ∀ b off n c, v = .slice (some ⟨b, off, none⟩) n c → 0 < xs.length → b < w.heap.size := by
  obtain ⟨a, cap, rfl, h1, h2, h3⟩ := h
  intro b off n c e h0
  rcases h3 with rfl | ⟨b', off', rfl, hc⟩
  · simp at h0
  · simp only [Value.slice.injEq, Option.some.injEq, Addr.mk.injEq] at e
    obtain ⟨⟨rfl, _⟩, _⟩ := e
    exact block_lt_of_cell (hc 0 h0)

theorem RefAt.keptS {S : Nat → Prop} {w w' : World} {br : Nat} {cf : Cf} {la : Option Addr} {lc : Nat} {L : List Ent} (h : RefAt w br cf la lc L) (hk : Kept S w w') (h1 : ¬ S br) (h2 : ∀ g, (Value.slice la L.length lc).ownBlock = some g → ¬ S g) (h3 : ∀ e ∈ L, ¬ S e.rb) : RefAt w' br cf la lc L := by
  obtain ⟨cs, hc⟩ := h.typ
  have hlt := h.lt
  exact ⟨⟨cs, (hk.block br hlt h1).trans hc⟩, hk.cell h.r0 h1, hk.cell h.r1 h1, hk.cell h.r2 h1, hk.cell h.r3 h1, hk.cell h.r5 h1, hk.cell h.r6 h1, ownsRow_kept h.row hk h2, fun e he => ownsRow_kept (h.pts e he) hk fun g hg => by
    obtain rfl : e.rb = g := by simpa [Value.ownBlock] using hg
    exact h3 e he, h.rising, h.small⟩

/-- The book's cells and lists. -/
structure BookAt (w : World) (bp : Nat) (nsv nmv : Value) (nn : Nat) : Prop where
  typ : ∃ cs, w.heap[bp]? = some (.cells cs 41 (0, 0))
  c6 : ∃ b, w.cell? ⟨bp, 6, none⟩ = some (.int .i64 b)
  c7 : ∃ b, w.cell? ⟨bp, 7, none⟩ = some (.int .i64 b)
  c8 : w.cell? ⟨bp, 8, none⟩ = some nsv
  c9 : w.cell? ⟨bp, 9, none⟩ = some nmv
  hs : ∃ xs, w.ownsRow 0 32 1 nsv nn xs
  hm : ∃ xs, w.ownsRow 0 3 1 nmv nn xs
theorem BookAt.lt {w : World} {bp : Nat} {nsv nmv : Value} {nn : Nat} (h : BookAt w bp nsv nmv nn) : bp < w.heap.size := by
  obtain ⟨cs, hc⟩ := h.typ
  exact (Array.getElem?_eq_some_iff.1 hc).1
theorem BookAt.frozen {w : World} {bp : Nat} {nsv nmv : Value} {nn : Nat} (h : BookAt w bp nsv nmv nn) (o : Nat) : w.frozen? ⟨bp, o, none⟩ = false := by
  obtain ⟨cs, hc⟩ := h.typ
  simp [World.frozen?, hc]
theorem BookAt.keptS {S : Nat → Prop} {w w' : World} {bp : Nat} {nsv nmv : Value} {nn : Nat} (h : BookAt w bp nsv nmv nn) (hk : Kept S w w') (h1 : ¬ S bp) (h2 : ∀ g, nsv.ownBlock = some g → ¬ S g) (h3 : ∀ g, nmv.ownBlock = some g → ¬ S g) : BookAt w' bp nsv nmv nn := by
  obtain ⟨cs, hc⟩ := h.typ
  obtain ⟨b6, h6⟩ := h.c6
  obtain ⟨b7, h7⟩ := h.c7
  obtain ⟨xs, hx⟩ := h.hs
  obtain ⟨ys, hy⟩ := h.hm
  exact ⟨⟨cs, (hk.block bp h.lt h1).trans hc⟩, ⟨b6, hk.cell h6 h1⟩, ⟨b7, hk.cell h7 h1⟩, hk.cell h.c8 h1, hk.cell h.c9 h1, ⟨xs, ownsRow_kept hx hk h2⟩, ⟨ys, ownsRow_kept hy hk h3⟩⟩
/-- A field of the pair beside the book is written. -/
theorem BookAt.setF {w : World} {bp : Nat} {nsv nmv : Value} {nn : Nat} (h : BookAt w bp nsv nmv nn) {o : Nat} (ho : o < 6) (u : Value) : BookAt (w.setCell ⟨bp, o, none⟩ u) bp nsv nmv nn := by
  obtain ⟨cs, hc⟩ := h.typ
  obtain ⟨b6, h6⟩ := h.c6
  obtain ⟨b7, h7⟩ := h.c7
  obtain ⟨xs, hx⟩ := h.hs
  obtain ⟨ys, hy⟩ := h.hm
  have rs : ∀ {e : Nat} {v : Value} {n : Nat} {l : List Value}, e ≠ 41 → w.ownsRow 0 e 1 v n l → (w.setCell ⟨bp, o, none⟩ u).ownsRow 0 e 1 v n l := fun {e v n l} he hr => ownsRow_of_block hr fun g hv => Below.heap_setCell _ _ _ _ (by
    obtain ⟨c2, h2⟩ := ownsRow_obj hr hv
    exact (ne_of_elem hc h2 (fun e' => he e'.symm)).symm)
  have cl : ∀ {k : Nat} {v : Value}, 6 ≤ k → w.cell? ⟨bp, k, none⟩ = some v → (w.setCell ⟨bp, o, none⟩ u).cell? ⟨bp, k, none⟩ = some v := fun hk hh => by
    rw [World.cell?_setCell_other _ _ _ _ (by simp <;> omega)]; exact hh
  exact ⟨⟨_, heap_setCell_same _ _ _ _ _ _ hc⟩, ⟨b6, cl (by omega) h6⟩, ⟨b7, cl (by omega) h7⟩, cl (by omega) h.c8, cl (by omega) h.c9, ⟨xs, rs (by decide) hx⟩, ⟨ys, rs (by decide) hy⟩⟩

/-- The book's other cells and lists. -/
structure XAt (w : World) (bp : Nat) (x : Bks) : Prop where
  c10 : w.cell? ⟨bp, 10, none⟩ = some x.hsv
  c11 : w.cell? ⟨bp, 11, none⟩ = some x.hmv
  c12 : w.cell? ⟨bp, 12, none⟩ = some x.gsv
  c13 : w.cell? ⟨bp, 13, none⟩ = some x.gmv
  c14 : w.cell? ⟨bp, 14, none⟩ = some x.lsv
  c15 : w.cell? ⟨bp, 15, none⟩ = some x.lmv
  hs : ∃ xs, w.ownsRow 0 58 1 x.hsv x.nh xs
  hm : ∃ xs, w.ownsRow 0 3 1 x.hmv x.nh xs
  gs : ∃ xs, w.ownsRow 0 81 1 x.gsv x.ng xs
  gm : ∃ xs, w.ownsRow 0 3 1 x.gmv x.ng xs
  ls : ∃ xs, w.ownsRow 0 31 1 x.lsv x.nl xs
  lm : ∃ xs, w.ownsRow 0 3 1 x.lmv x.nl xs
  dj : (∀ g, x.hmv.ownBlock = some g → x.gmv.ownBlock ≠ some g ∧ x.lmv.ownBlock ≠ some g) ∧ ∀ g, x.gmv.ownBlock = some g → x.lmv.ownBlock ≠ some g
theorem XAt.lt {w : World} {bp : Nat} {x : Bks} (h : XAt w bp x) {k : Nat} (hk : x.own k) : k < w.heap.size := by
  obtain ⟨_, h1⟩ := h.hs
  obtain ⟨_, h2⟩ := h.hm
  obtain ⟨_, h3⟩ := h.gs
  obtain ⟨_, h4⟩ := h.gm
  obtain ⟨_, h5⟩ := h.ls
  obtain ⟨_, h6⟩ := h.lm
  rcases hk with e | e | e | e | e | e
  · exact (h1.lt k e).2
  · exact (h2.lt k e).2
  · exact (h3.lt k e).2
  · exact (h4.lt k e).2
  · exact (h5.lt k e).2
  · exact (h6.lt k e).2
/-- The rows stand where their blocks do. -/
theorem XAt.rows {S : Nat → Prop} {w w' : World} {bp : Nat} {x : Bks} (h : XAt w bp x) (hk : Kept S w w') (h2 : ∀ k, x.own k → ¬ S k) (hc : ∀ o v, 9 < o → w.cell? ⟨bp, o, none⟩ = some v → w'.cell? ⟨bp, o, none⟩ = some v) : XAt w' bp x := by
  obtain ⟨x1, q1⟩ := h.hs
  obtain ⟨x2, q2⟩ := h.hm
  obtain ⟨x3, q3⟩ := h.gs
  obtain ⟨x4, q4⟩ := h.gm
  obtain ⟨x5, q5⟩ := h.ls
  obtain ⟨x6, q6⟩ := h.lm
  exact ⟨hc _ _ (by decide) h.c10, hc _ _ (by decide) h.c11, hc _ _ (by decide) h.c12, hc _ _ (by decide) h.c13, hc _ _ (by decide) h.c14, hc _ _ (by decide) h.c15,
    ⟨x1, ownsRow_kept q1 hk fun g e => h2 g (.inl e)⟩, ⟨x2, ownsRow_kept q2 hk fun g e => h2 g (.inr (.inl e))⟩, ⟨x3, ownsRow_kept q3 hk fun g e => h2 g (.inr (.inr (.inl e)))⟩, ⟨x4, ownsRow_kept q4 hk fun g e => h2 g (.inr (.inr (.inr (.inl e))))⟩, ⟨x5, ownsRow_kept q5 hk fun g e => h2 g (.inr (.inr (.inr (.inr (.inl e)))))⟩, ⟨x6, ownsRow_kept q6 hk fun g e => h2 g (.inr (.inr (.inr (.inr (.inr e)))))⟩, h.dj⟩
theorem XAt.keptS {S : Nat → Prop} {w w' : World} {bp : Nat} {x : Bks} (h : XAt w bp x) (hk : Kept S w w') (h1 : ¬ S bp) (h2 : ∀ k, x.own k → ¬ S k) : XAt w' bp x :=
  h.rows hk h2 fun _ _ _ hv => hk.cell hv h1

/-- The block A is none of theirs, the book's other lists aside. -/
structure Apt (W0 : World) (A bp bb bs bm br : Nat) (gn : Net) (la : Option Addr) (lc : Nat) (nsv nmv : Value) (L M : List Ent) : Prop where
  old : W0.heap.size ≤ A
  p : A ≠ bp
  b : A ≠ bb
  s : A ≠ bs
  m : A ≠ bm
  r : A ≠ br
  ns : nsv.ownBlock ≠ some A
  nm : nmv.ownBlock ≠ some A
  l : (Value.slice la M.length lc).ownBlock ≠ some A
  mb : ∀ e ∈ L, A ≠ e.mb
  rb : ∀ e ∈ M, A ≠ e.rb
  f : ¬ gn.F A
/-- The block A is none of theirs. -/
structure Apart (W0 : World) (A bp bb bs bm br : Nat) (gn : Net) (la : Option Addr) (lc : Nat) (nsv nmv : Value) (L M : List Ent) : Prop extends Apt W0 A bp bb bs bm br gn la lc nsv nmv L M where
  x : ¬ gn.ex.own A

/-- The pair: the program's base and the document's hold the same entries; all that is written lies behind what was there at the law's beginning (W0). -/
structure PairAt (W0 w : World) (bp bb bs bm br : Nat) (cf : Cf) (gn : Net) (la : Option Addr) (lc : Nat) (nsv nmv : Value) (nn : Nat) (L M : List Ent) : Prop where
  p0 : w.cell? ⟨bp, 0, none⟩ = some (.pointer (some ⟨bb, 0, none⟩))
  p1 : w.cell? ⟨bp, 1, none⟩ = some (.pointer (some ⟨br, 0, none⟩))
  p2 : w.cell? ⟨bp, 2, none⟩ = some (.int .i64 gn.lows)
  p3 : w.cell? ⟨bp, 3, none⟩ = some (.int .i64 gn.lows)
  p4 : ∃ x, w.cell? ⟨bp, 4, none⟩ = some (.int .i64 x)
  p5 : ∃ x, w.cell? ⟨bp, 5, none⟩ = some (.bool x)
  book : BookAt w bp nsv nmv nn
  base : BaseAt w bb bs bm cf gn L
  ref : RefAt w br cf la lc M
  tb : ∃ cs, w.heap[bb]? = some (.cells cs 102 (0, 0))
  ts : ∃ cs, w.heap[bs]? = some (.cells cs 155 (0, 0))
  am : (∀ e ∈ L, nmv.ownBlock ≠ some e.mb) ∧ ∀ e ∈ M, nmv.ownBlock ≠ some e.rb
  old : Below W0.heap.size W0 w
  pos : 0 < W0.heap.size
  lbp : W0.heap.size ≤ bp
  lbb : W0.heap.size ≤ bb
  lbm : W0.heap.size ≤ bm
  lbr : W0.heap.size ≤ br
  lla : ∀ g, (Value.slice la M.length lc).ownBlock = some g → W0.heap.size ≤ g
  lns : ∀ g, nsv.ownBlock = some g → W0.heap.size ≤ g
  lnm : ∀ g, nmv.ownBlock = some g → W0.heap.size ≤ g
  pf : ∀ k, gn.F k → W0.heap.size ≤ k ∧ k ≠ bp ∧ k ≠ br ∧ nsv.ownBlock ≠ some k ∧ nmv.ownBlock ≠ some k ∧ (Value.slice la M.length lc).ownBlock ≠ some k ∧ ∀ e ∈ M, k ≠ e.rb
  x : XAt w bp gn.ex
  xa : ∀ k, gn.ex.own k → Apt W0 k bp bb bs bm br gn la lc nsv nmv L M
  xn : gn.ex.nh ≤ nn ∧ gn.ex.ng ≤ nn ∧ gn.ex.nl ≤ nn

/-- How often was looked: as the law has it, and no more than the steps let. -/
def Lk (gn : Net) (nn : Nat) : Prop := gn.lows = gn.looks ∧ 0 ≤ gn.looks ∧ gn.looks ≤ 400 * (nn : Int)
theorem Lk.mono {gn : Net} {nn nn' : Nat} (h : Lk gn nn) (hn : nn ≤ nn') : Lk gn nn' := ⟨h.1, h.2.1, by have := h.2.2; omega⟩
theorem Lk.like {gn gn' : Net} {nn : Nat} (h : Lk gn nn) (hl : gn.like gn') : Lk gn' nn := by
  obtain ⟨l1, _, l3⟩ := hl
  obtain ⟨h1, h2, h3⟩ := h
  exact ⟨by rw [l3, l1, h1], by rw [l1]; exact h2, by rw [l1]; exact h3⟩

section
variable {W0 w w' : World} {bp bb bs bm br : Nat} {cf : Cf} {gn : Net} {la : Option Addr} {lc : Nat} {nsv nmv : Value} {nn : Nat} {L M : List Ent}

/-- Old blocks stand as they were. -/
theorem PairAt.below (h : PairAt W0 w bp bb bs bm br cf gn la lc nsv nmv nn L M) (hb : Below w.heap.size w w') : PairAt W0 w' bp bb bs bm br cf gn la lc nsv nmv nn L M := by
  obtain ⟨x4, h4⟩ := h.p4
  obtain ⟨x5, h5⟩ := h.p5
  obtain ⟨cb, hcb⟩ := h.tb
  obtain ⟨cs, hcs⟩ := h.ts
  have hlt := h.book.lt
  exact ⟨Below.at hb h.p0 hlt, Below.at hb h.p1 hlt, Below.at hb h.p2 hlt, Below.at hb h.p3 hlt, ⟨x4, Below.at hb h4 hlt⟩, ⟨x5, Below.at hb h5 hlt⟩, h.book.keptS (Kept.of_below (fun _ => False) hb) id (fun _ _ => id) (fun _ _ => id), h.base.below hb, h.ref.below hb, ⟨cb, (hb.block _ (Array.getElem?_eq_some_iff.1 hcb).1).trans hcb⟩, ⟨cs, (hb.block _ (Array.getElem?_eq_some_iff.1 hcs).1).trans hcs⟩, h.am, h.old.trans (hb.mono h.old.size), h.pos, h.lbp, h.lbb, h.lbm, h.lbr, h.lla, h.lns, h.lnm, h.pf, h.x.keptS (Kept.of_below (fun _ => False) hb) id (fun _ _ => id), h.xa, h.xn⟩
theorem PairAt.alloc (h : PairAt W0 w bp bb bs bm br cf gn la lc nsv nmv nn L M) (o : Obj) : PairAt W0 (w.alloc o) bp bb bs bm br cf gn la lc nsv nmv nn L M := h.below ((Below.refl _ _).alloc (Nat.le_refl _) o)

/-- One block that is none of theirs is written. -/
theorem PairAt.other (h : PairAt W0 w bp bb bs bm br cf gn la lc nsv nmv nn L M) {A : Nat} (hk : Kept (fun k => k = A) w w') (hA : w.heap.size ≤ A) : PairAt W0 w' bp bb bs bm br cf gn la lc nsv nmv nn L M :=
  h.below (hk.toBelow (Nat.le_refl _) (fun k hk => by omega))

/-- The program's map has turned (Put, Delete). -/
theorem PairAt.turned (h : PairAt W0 w bp bb bs bm br cf gn la lc nsv nmv nn L M) (hk : Kept (fun k => k = bm ∨ gn.F k) w w') :
    w'.cell? ⟨bp, 0, none⟩ = some (.pointer (some ⟨bb, 0, none⟩)) ∧ w'.cell? ⟨bp, 1, none⟩ = some (.pointer (some ⟨br, 0, none⟩)) ∧ w'.cell? ⟨bp, 2, none⟩ = some (.int .i64 gn.lows) ∧ w'.cell? ⟨bp, 3, none⟩ = some (.int .i64 gn.lows) ∧ (∃ x, w'.cell? ⟨bp, 4, none⟩ = some (.int .i64 x)) ∧ (∃ x, w'.cell? ⟨bp, 5, none⟩ = some (.bool x)) ∧ BookAt w' bp nsv nmv nn ∧ RefAt w' br cf la lc M ∧
      (∃ cs, w'.heap[bb]? = some (.cells cs 102 (0, 0))) ∧ (∃ cs, w'.heap[bs]? = some (.cells cs 155 (0, 0))) ∧ Below W0.heap.size W0 w' ∧ XAt w' bp gn.ex := by
  obtain ⟨x4, h4⟩ := h.p4
  obtain ⟨x5, h5⟩ := h.p5
  obtain ⟨cb, hcb⟩ := h.tb
  obtain ⟨cs, hcs⟩ := h.ts
  have hm := h.base.map
  have hne : ∀ {b : Nat} {c : Array Value} {e : TypeId}, w.heap[b]? = some (.cells c e (0, 0)) → ¬ gn.F b → ¬ (b = bm ∨ gn.F b) := fun hb hf e => e.elim (hm.mb_ne hb) hf
  have f1 : ¬ gn.F bp := fun e => (h.pf _ e).2.1 rfl
  have f2 : ¬ gn.F br := fun e => (h.pf _ e).2.2.1 rfl
  have f3 : ¬ gn.F bb := fun e => (h.base.foot _ e).2.2.1 rfl
  have f4 : ¬ gn.F bs := fun e => (h.base.foot _ e).2.2.2.1 rfl
  obtain ⟨cp, hcp⟩ := h.book.typ
  obtain ⟨cr, hcr⟩ := h.ref.typ
  refine ⟨hk.cell h.p0 (hne hcp f1), hk.cell h.p1 (hne hcp f1), hk.cell h.p2 (hne hcp f1), hk.cell h.p3 (hne hcp f1), ⟨x4, hk.cell h4 (hne hcp f1)⟩, ⟨x5, hk.cell h5 (hne hcp f1)⟩, h.book.keptS hk (hne hcp f1) ?_ ?_, h.ref.keptS hk (hne hcr f2) ?_ ?_, ⟨cb, (hk.block _ (Array.getElem?_eq_some_iff.1 hcb).1 (hne hcb f3)).trans hcb⟩, ⟨cs, (hk.block _ (Array.getElem?_eq_some_iff.1 hcs).1 (hne hcs f4)).trans hcs⟩, h.old.trans (hk.toBelow h.old.size (fun k hk => hk.elim (fun e => by rw [e]; exact h.lbm) (fun e => (h.pf k e).1))), h.x.keptS hk (hne hcp f1) (fun k hx e => e.elim (fun e => (h.xa k hx).m e) (h.xa k hx).f)⟩
  · intro g hg
    obtain ⟨xs, hx⟩ := h.book.hs
    obtain ⟨c, hc⟩ := ownsRow_obj hx hg
    exact hne hc (fun e => (h.pf _ e).2.2.2.1 hg)
  · intro g hg
    obtain ⟨xs, hx⟩ := h.book.hm
    obtain ⟨c, hc⟩ := ownsRow_obj hx hg
    exact hne hc (fun e => (h.pf _ e).2.2.2.2.1 hg)
  · intro g hg
    obtain ⟨c, hc⟩ := ownsRow_obj h.ref.row hg
    exact hne hc (fun e => (h.pf _ e).2.2.2.2.2.1 hg)
  · intro e he
    obtain ⟨c, hc⟩ := (h.ref.pts e he).obj
    exact hne hc (fun f => (h.pf _ f).2.2.2.2.2.2 e he rfl)
end
end Go.Proofs.YtpkiefjanmfgfaaGreatDoor
namespace Go.Proofs.YtpkiefjanmfgfaaGreatDoor
open Go.RowKit Go.Maps

theorem BookAt.ins {w : World} {bp : Nat} {nsv nmv lv : Value} {nn n : Nat} {xs : List Value} (h : BookAt w bp nsv nmv nn) (hl : w.ownsRow 0 3 1 lv n xs) (ha : ∀ g, lv.ownBlock = some g → nmv.ownBlock ≠ some g) : InS w bp lv nsv nmv w lv n nsv nn nmv nn :=
  ⟨h.typ, fun _ _ _ hv => hv, h.c6, h.c7, h.c8, h.c9, ⟨xs, hl⟩, h.hs, h.hm, ha, fun _ hg => .inl hg, fun _ hg => .inl hg, fun _ hg => .inl hg, Kept.refl _ _⟩
theorem InS.bookAt {w0 w : World} {bp : Nat} {lv0 nsv0 nmv0 lv nsv nmv : Value} {nl nn : Nat} (h : InS w0 bp lv0 nsv0 nmv0 w lv nl nsv nn nmv nn) : BookAt w bp nsv nmv nn := ⟨h.typ, h.c6, h.c7, h.c8, h.c9, h.hs, h.hm⟩

theorem ints_of_pts {w : World} {A c : Nat} {xs ys : List Int} (h : Pts w A c (xs ++ ys)) (hm : xs.length ≤ 17592186044416) (c' : Nat) (hc : xs.length ≤ c') : IntsAt w (.slice (some ⟨A, 0, none⟩) xs.length c') xs := by
  refine ⟨_, _, rfl, hc, hm, .inr ⟨A, 0, rfl, fun i hi => ?_⟩⟩
  have := h.cell i (by simp; omega)
  simpa [List.getD_eq_getElem?_getD, List.getElem?_append_left hi] using this

/-- The pair behind the book's turn: 'ints' was called with a list of a block A that is none of theirs. -/
theorem PairAt.ints {W0 w w' : World} {bp bb bs bm br : Nat} {cf : Cf} {gn : Net} {la : Option Addr} {lc : Nat} {nsv nmv nsv' nmv' lv lv' : Value} {nn n' : Nat} {L M : List Ent} (h : PairAt W0 w bp bb bs bm br cf gn la lc nsv nmv nn L M)
    (hA : ∀ g, lv.ownBlock = some g → W0.heap.size ≤ g ∧ g ≠ bb ∧ g ≠ bs ∧ g ≠ bm ∧ g ≠ br ∧ (∀ e ∈ L, g ≠ e.mb) ∧ (∀ e ∈ M, g ≠ e.rb) ∧ (∀ b, (Value.slice la M.length lc).ownBlock = some b → g ≠ b) ∧ ¬ gn.F g ∧ ¬ gn.ex.own g)
    (hs : InS w bp lv nsv nmv w' lv' n' nsv' (nn + 4) nmv' (nn + 4)) : PairAt W0 w' bp bb bs bm br cf gn la lc nsv' nmv' (nn + 4) L M := by
  obtain ⟨x4, h4⟩ := h.p4
  obtain ⟨x5, h5⟩ := h.p5
  obtain ⟨cb, hcb⟩ := h.tb
  obtain ⟨cs, hcs⟩ := h.ts
  obtain ⟨cp, hcp⟩ := h.book.typ
  obtain ⟨cr, hcr⟩ := h.ref.typ
  obtain ⟨ys, hys⟩ := h.book.hs
  obtain ⟨zs, hzs⟩ := h.book.hm
  have hk := hs.kept
  have nsne : ∀ {b : Nat} {c : Array Value} {e : TypeId}, w.heap[b]? = some (.cells c e (0, 0)) → e ≠ 32 → nsv.ownBlock ≠ some b := fun hb he e' => by
    obtain ⟨c2, h2⟩ := ownsRow_obj hys e'
    exact ne_of_elem hb h2 he rfl
  have nmne : ∀ {b : Nat} {c : Array Value} {e : TypeId}, w.heap[b]? = some (.cells c e (0, 0)) → e ≠ 3 → nmv.ownBlock ≠ some b := fun hb he e' => by
    obtain ⟨c2, h2⟩ := ownsRow_obj hzs e'
    exact ne_of_elem hb h2 he rfl
  have no : ∀ {b : Nat} {c : Array Value} {e : TypeId}, w.heap[b]? = some (.cells c e (0, 0)) → e ≠ 41 → e ≠ 32 → e ≠ 3 → lv.ownBlock ≠ some b → ¬ (b = bp ∨ lv.ownBlock = some b ∨ nsv.ownBlock = some b ∨ nmv.ownBlock = some b) := fun hb h1 h2 h3 h4 hx => by
    rcases hx with e | e | e | e
    · subst e; rw [hb] at hcp; simp at hcp; exact h1 hcp.2
    · exact h4 e
    · exact nsne hb h2 e
    · exact nmne hb h3 e
  have noPm : ∀ e ∈ L, ¬ (e.mb = bp ∨ lv.ownBlock = some e.mb ∨ nsv.ownBlock = some e.mb ∨ nmv.ownBlock = some e.mb) := fun e he hx => by
    obtain ⟨c, hc⟩ := (h.base.map.pts e he).obj
    rcases hx with e1 | e1 | e1 | e1
    · exact ne_of_elem hc hcp (by decide) e1
    · exact (hA _ e1).2.2.2.2.2.1 e he rfl
    · exact nsne hc (by decide) e1
    · exact h.am.1 e he e1
  have noPr : ∀ e ∈ M, ¬ (e.rb = bp ∨ lv.ownBlock = some e.rb ∨ nsv.ownBlock = some e.rb ∨ nmv.ownBlock = some e.rb) := fun e he hx => by
    obtain ⟨c, hc⟩ := (h.ref.pts e he).obj
    rcases hx with e1 | e1 | e1 | e1
    · exact ne_of_elem hc hcp (by decide) e1
    · exact (hA _ e1).2.2.2.2.2.2.1 e he rfl
    · exact nsne hc (by decide) e1
    · exact h.am.2 e he e1
  have hbm : ¬ (bm = bp ∨ lv.ownBlock = some bm ∨ nsv.ownBlock = some bm ∨ nmv.ownBlock = some bm) := fun hx => by
    rcases hx with e1 | e1 | e1 | e1
    · exact h.base.map.mb_ne hcp e1.symm
    · exact (hA bm e1).2.2.2.1 rfl
    · obtain ⟨c2, h2⟩ := ownsRow_obj hys e1; exact h.base.map.mb_ne h2 rfl
    · obtain ⟨c2, h2⟩ := ownsRow_obj hzs e1; exact h.base.map.mb_ne h2 rfl
  have h00 : ¬ (0 = bp ∨ lv.ownBlock = some 0 ∨ nsv.ownBlock = some 0 ∨ nmv.ownBlock = some 0) := fun hx => by
    have := h.pos
    rcases hx with e1 | e1 | e1 | e1
    · have := h.lbp; omega
    · have := (hA 0 e1).1; omega
    · have := h.lns 0 e1; omega
    · have := h.lnm 0 e1; omega
  have hbb := no hcb (by decide) (by decide) (by decide) (fun e => (hA bb e).2.1 rfl)
  have hbs := no hcs (by decide) (by decide) (by decide) (fun e => (hA bs e).2.2.1 rfl)
  have hbr := no hcr (by decide) (by decide) (by decide) (fun e => (hA br e).2.2.2.2.1 rfl)
  have hla : ∀ g, (Value.slice la M.length lc).ownBlock = some g → ¬ (g = bp ∨ lv.ownBlock = some g ∨ nsv.ownBlock = some g ∨ nmv.ownBlock = some g) := fun g hg => by
    obtain ⟨c, hc⟩ := ownsRow_obj h.ref.row hg
    exact no hc (by decide) (by decide) (by decide) (fun e => (hA g e).2.2.2.2.2.2.2.1 g hg rfl)
  have hFF : ∀ k, gn.F k → ¬ (k = bp ∨ lv.ownBlock = some k ∨ nsv.ownBlock = some k ∨ nmv.ownBlock = some k) := fun k hf hx => by
    obtain ⟨_, q1, _, q2, q3, _⟩ := h.pf k hf
    rcases hx with e | e | e | e
    · exact q1 e
    · exact (hA k e).2.2.2.2.2.2.2.2.1 hf
    · exact q2 e
    · exact q3 e
  have hold : Below W0.heap.size w w' := hk.toBelow h.old.size fun k hk => by
    rcases hk with e | e | e | e
    · rw [e]; exact h.lbp
    · exact (hA k e).1
    · exact h.lns k e
    · exact h.lnm k e
  refine ⟨hs.low 0 _ (by omega) h.p0, hs.low 1 _ (by omega) h.p1, hs.low 2 _ (by omega) h.p2, hs.low 3 _ (by omega) h.p3, ⟨x4, hs.low 4 _ (by omega) h4⟩, ⟨x5, hs.low 5 _ (by omega) h5⟩, hs.bookAt, h.base.keptS hk hbb hbs hbm h00 noPm hFF, h.ref.keptS hk hbr hla noPr,
    ⟨cb, (hk.block _ (Array.getElem?_eq_some_iff.1 hcb).1 hbb).trans hcb⟩, ⟨cs, (hk.block _ (Array.getElem?_eq_some_iff.1 hcs).1 hbs).trans hcs⟩, ?_, h.old.trans hold, h.pos, h.lbp, h.lbb, h.lbm, h.lbr, h.lla, ?_, ?_, ?_, ?_, ?_, ?_⟩
  · refine ⟨fun e he e1 => ?_, fun e he e1 => ?_⟩
    · have hm1 := ((h.base.map.pts e he).lt e.mb rfl).2
      rcases hs.lm _ e1 with h1 | h1
      · exact h.am.1 e he h1
      · omega
    · have hm2 := ((h.ref.pts e he).lt e.rb rfl).2
      rcases hs.lm _ e1 with h1 | h1
      · exact h.am.2 e he h1
      · omega
  · intro g hg
    rcases hs.ls g hg with h1 | h1
    · exact h.lns g h1
    · exact Nat.le_trans h.old.size h1
  · intro g hg
    rcases hs.lm g hg with h1 | h1
    · exact h.lnm g h1
    · exact Nat.le_trans h.old.size h1
  · intro k hf
    obtain ⟨q0, q1, q2, q3, q4, q5, q6⟩ := h.pf k hf
    have hlt := (h.base.foot k hf).1
    exact ⟨q0, q1, q2, fun e => (hs.ls k e).elim q3 (fun e => by omega), fun e => (hs.lm k e).elim q4 (fun e => by omega), q5, q6⟩
  · refine h.x.rows hk (fun k hx e => ?_) (fun o v ho hv => hs.low o v (.inr ho) hv)
    rcases e with e | e | e | e
    · exact (h.xa k hx).p e
    · exact (hA k e).2.2.2.2.2.2.2.2.2 hx
    · exact (h.xa k hx).ns e
    · exact (h.xa k hx).nm e
  · intro k hx
    have hlt := h.x.lt hx
    have q := h.xa k hx
    exact ⟨q.old, q.p, q.b, q.s, q.m, q.r, fun e => (hs.ls k e).elim q.ns (fun e => by omega), fun e => (hs.lm k e).elim q.nm (fun e => by omega), q.l, q.mb, q.rb, q.f⟩
  · have q := h.xn
    omega

section
variable {W0 w w' : World} {bp bb bs bm br : Nat} {cf : Cf} {gn : Net} {la : Option Addr} {lc : Nat} {nsv nmv : Value} {nn : Nat} {L M : List Ent} {A : Nat}
theorem PairAt.apart (h : PairAt W0 w bp bb bs bm br cf gn la lc nsv nmv nn L M) (hA : w.heap.size ≤ A) : Apart W0 A bp bb bs bm br gn la lc nsv nmv L M := by
  obtain ⟨cb, hcb⟩ := h.tb
  obtain ⟨cs, hcs⟩ := h.ts
  obtain ⟨ys, hys⟩ := h.book.hs
  obtain ⟨zs, hzs⟩ := h.book.hm
  have h1 := h.book.lt
  have h2 := (Array.getElem?_eq_some_iff.1 hcb).1
  have h3 := (Array.getElem?_eq_some_iff.1 hcs).1
  have h4 := h.base.map.lt
  have h5 := h.ref.lt
  exact ⟨⟨Nat.le_trans h.old.size hA, by omega, by omega, by omega, by omega, by omega, fun e => by have := (hys.lt A e).2; omega, fun e => by have := (hzs.lt A e).2; omega, fun e => by have := (h.ref.row.lt A e).2; omega, fun e he => by have := h.base.map.plt e he; omega, fun e he => (by have := ((h.ref.pts e he).lt e.rb rfl).2; omega), fun e => by have := (h.base.foot A e).1; omega⟩, fun e => by have := h.x.lt e; omega⟩
theorem Apart.ins (h : Apart W0 A bp bb bs bm br gn la lc nsv nmv L M) (x : Ent) (hx : A ≠ x.mb) : Apart W0 A bp bb bs bm br gn la lc nsv nmv (insE x L) M :=
  ⟨⟨h.old, h.p, h.b, h.s, h.m, h.r, h.ns, h.nm, h.l, fun e he => by
    rcases mem_insE he with rfl | he
    · exact hx
    · exact h.mb e he, h.rb, h.f⟩, h.x⟩
/-- The block A alone was written. -/
theorem PairAt.one (h : PairAt W0 w bp bb bs bm br cf gn la lc nsv nmv nn L M) (hA : Apart W0 A bp bb bs bm br gn la lc nsv nmv L M) (hk : Kept (fun k => k = A) w w') : PairAt W0 w' bp bb bs bm br cf gn la lc nsv nmv nn L M := by
  obtain ⟨x4, h4⟩ := h.p4
  obtain ⟨x5, h5⟩ := h.p5
  obtain ⟨cb, hcb⟩ := h.tb
  obtain ⟨cs, hcs⟩ := h.ts
  have h0 := h.pos
  have hold := hA.old
  refine ⟨hk.cell h.p0 hA.p.symm, hk.cell h.p1 hA.p.symm, hk.cell h.p2 hA.p.symm, hk.cell h.p3 hA.p.symm, ⟨x4, hk.cell h4 hA.p.symm⟩, ⟨x5, hk.cell h5 hA.p.symm⟩, h.book.keptS hk hA.p.symm (fun g hg e => hA.ns (by rw [hg, e])) (fun g hg e => hA.nm (by rw [hg, e])), h.base.keptS hk hA.b.symm hA.s.symm hA.m.symm (by omega) (fun e he => (hA.mb e he).symm) (fun k hf e => hA.f (e ▸ hf)), h.ref.keptS hk hA.r.symm (fun g hg e => hA.l (by rw [hg, e])) (fun e he => (hA.rb e he).symm),
    ⟨cb, (hk.block _ (Array.getElem?_eq_some_iff.1 hcb).1 hA.b.symm).trans hcb⟩, ⟨cs, (hk.block _ (Array.getElem?_eq_some_iff.1 hcs).1 hA.s.symm).trans hcs⟩, h.am, h.old.trans (hk.toBelow h.old.size (fun k e => by rw [e]; exact hold)), h.pos, h.lbp, h.lbb, h.lbm, h.lbr, h.lla, h.lns, h.lnm, h.pf, h.x.keptS hk hA.p.symm (fun k hx e => hA.x (e ▸ hx)), h.xa, h.xn⟩
/-- 'ints' with a list in the block A. -/
theorem PairAt.ints' {nsv' nmv' lv' : Value} {n n' c : Nat} (h : PairAt W0 w bp bb bs bm br cf gn la lc nsv nmv nn L M) (hA : Apart W0 A bp bb bs bm br gn la lc nsv nmv L M) (hs : InS w bp (.slice (some ⟨A, 0, none⟩) n c) nsv nmv w' lv' n' nsv' (nn + 4) nmv' (nn + 4)) : PairAt W0 w' bp bb bs bm br cf gn la lc nsv' nmv' (nn + 4) L M :=
  h.ints (fun g hg => by
    obtain rfl : A = g := by simpa [Value.ownBlock] using hg
    exact ⟨hA.old, hA.b, hA.s, hA.m, hA.r, hA.mb, hA.rb, fun b hb e => hA.l (by rw [hb, e]), hA.f, hA.x⟩) hs
/-- 'ints' with nil. -/
theorem PairAt.intsN {nsv' nmv' lv' : Value} {n' : Nat} (h : PairAt W0 w bp bb bs bm br cf gn la lc nsv nmv nn L M) (hs : InS w bp (.slice none 0 0) nsv nmv w' lv' n' nsv' (nn + 4) nmv' (nn + 4)) : PairAt W0 w' bp bb bs bm br cf gn la lc nsv' nmv' (nn + 4) L M :=
  h.ints (fun g hg => by cases hg) hs

/-- The document's base has turned. -/
theorem PairAt.refTurned {la' : Option Addr} {lc' : Nat} {M' : List Ent} (h : PairAt W0 w bp bb bs bm br cf gn la lc nsv nmv nn L M) (hk : Kept (fun k => k = br ∨ (Value.slice la M.length lc).ownBlock = some k) w w') (hr : RefAt w' br cf la' lc' M') (hl : ∀ g, (Value.slice la' M'.length lc').ownBlock = some g → W0.heap.size ≤ g) (ham : ∀ e ∈ M', nmv.ownBlock ≠ some e.rb) (hpf : ∀ k, gn.F k → (Value.slice la' M'.length lc').ownBlock ≠ some k ∧ ∀ e ∈ M', k ≠ e.rb) (hxa : ∀ k, k < w.heap.size → gn.ex.own k → (Value.slice la' M'.length lc').ownBlock ≠ some k ∧ ∀ e ∈ M', k ≠ e.rb) :
    PairAt W0 w' bp bb bs bm br cf gn la' lc' nsv nmv nn L M' := by
  obtain ⟨x4, h4⟩ := h.p4
  obtain ⟨x5, h5⟩ := h.p5
  obtain ⟨cb, hcb⟩ := h.tb
  obtain ⟨cs, hcs⟩ := h.ts
  obtain ⟨cp, hcp⟩ := h.book.typ
  obtain ⟨cr, hcr⟩ := h.ref.typ
  obtain ⟨ys, hys⟩ := h.book.hs
  obtain ⟨zs, hzs⟩ := h.book.hm
  have no : ∀ {b : Nat} {c : Array Value} {e : TypeId}, w.heap[b]? = some (.cells c e (0, 0)) → e ≠ 92 → e ≠ 135 → ¬ (b = br ∨ (Value.slice la M.length lc).ownBlock = some b) := fun hb h1 h2 hx => by
    rcases hx with e | e
    · exact ne_of_elem hb hcr h1 e
    · obtain ⟨c2, h3⟩ := ownsRow_obj h.ref.row e
      exact ne_of_elem hb h3 h2 rfl
  have hbm : ¬ (bm = br ∨ (Value.slice la M.length lc).ownBlock = some bm) := fun hx => by
    rcases hx with e | e
    · exact h.base.map.mb_ne hcr e.symm
    · obtain ⟨c2, h3⟩ := ownsRow_obj h.ref.row e
      exact h.base.map.mb_ne h3 rfl
  have h00 : ¬ (0 = br ∨ (Value.slice la M.length lc).ownBlock = some 0) := fun hx => by
    have := h.pos
    rcases hx with e | e
    · have := h.lbr; omega
    · have := h.lla 0 e; omega
  have hbp := no hcp (by decide) (by decide)
  refine ⟨hk.cell h.p0 hbp, hk.cell h.p1 hbp, hk.cell h.p2 hbp, hk.cell h.p3 hbp, ⟨x4, hk.cell h4 hbp⟩, ⟨x5, hk.cell h5 hbp⟩, h.book.keptS hk hbp (fun g hg => ?_) (fun g hg => ?_), h.base.keptS hk (no hcb (by decide) (by decide)) (no hcs (by decide) (by decide)) hbm h00 (fun e he => ?_) (fun k hf e => e.elim (h.pf k hf).2.2.1 (h.pf k hf).2.2.2.2.2.1), hr,
    ⟨cb, (hk.block _ (Array.getElem?_eq_some_iff.1 hcb).1 (no hcb (by decide) (by decide))).trans hcb⟩, ⟨cs, (hk.block _ (Array.getElem?_eq_some_iff.1 hcs).1 (no hcs (by decide) (by decide))).trans hcs⟩, ⟨h.am.1, ham⟩, h.old.trans (hk.toBelow h.old.size (fun k e => ?_)), h.pos, h.lbp, h.lbb, h.lbm, h.lbr, hl, h.lns, h.lnm, fun k hf => ⟨(h.pf k hf).1, (h.pf k hf).2.1, (h.pf k hf).2.2.1, (h.pf k hf).2.2.2.1, (h.pf k hf).2.2.2.2.1, (hpf k hf).1, (hpf k hf).2⟩, h.x.keptS hk hbp (fun k hx e => e.elim (h.xa k hx).r (h.xa k hx).l), fun k hx => ?_, h.xn⟩
  · obtain ⟨c, hc⟩ := ownsRow_obj hys hg
    exact no hc (by decide) (by decide)
  · obtain ⟨c, hc⟩ := ownsRow_obj hzs hg
    exact no hc (by decide) (by decide)
  · obtain ⟨c, hc⟩ := (h.base.map.pts e he).obj
    exact no hc (by decide) (by decide)
  · rcases e with e | e
    · rw [e]; exact h.lbr
    · exact h.lla k e
  · have q := h.xa k hx
    have q2 := hxa k (h.x.lt hx) hx
    exact ⟨q.old, q.p, q.b, q.s, q.m, q.r, q.ns, q.nm, q2.1, q.mb, q2.2, q.f⟩
/-- The fields 'last' and 'put' are written. -/
theorem PairAt.field (h : PairAt W0 w bp bb bs bm br cf gn la lc nsv nmv nn L M) {o : Nat} (u : Value) (ho : (o = 4 ∧ ∃ x, u = .int .i64 x) ∨ (o = 5 ∧ ∃ x, u = .bool x)) : PairAt W0 (w.setCell ⟨bp, o, none⟩ u) bp bb bs bm br cf gn la lc nsv nmv nn L M := by
  obtain ⟨x4, h4⟩ := h.p4
  obtain ⟨x5, h5⟩ := h.p5
  obtain ⟨cb, hcb⟩ := h.tb
  obtain ⟨cs, hcs⟩ := h.ts
  obtain ⟨cp, hcp⟩ := h.book.typ
  obtain ⟨cr, hcr⟩ := h.ref.typ
  have hk : Kept (fun k => k = bp) w (w.setCell ⟨bp, o, none⟩ u) := (Kept.refl (fun k => k = bp) w).setCell (p := ⟨bp, o, none⟩) (fun _ => rfl) _
  have ne : ∀ {b : Nat} {c : Array Value} {e : TypeId}, w.heap[b]? = some (.cells c e (0, 0)) → e ≠ 41 → b ≠ bp := fun hb h1 => ne_of_elem hb hcp h1
  have far : ∀ k, k ≠ o → (w.setCell ⟨bp, o, none⟩ u).cell? ⟨bp, k, none⟩ = w.cell? ⟨bp, k, none⟩ := fun k hk => World.cell?_setCell_other _ _ _ _ (by simp <;> omega)
  have hpos := h.pos
  have hlbp := h.lbp
  refine ⟨(far 0 (by omega)).trans h.p0, (far 1 (by omega)).trans h.p1, (far 2 (by omega)).trans h.p2, (far 3 (by omega)).trans h.p3, ?_, ?_, h.book.setF (by omega) u, h.base.keptS hk (ne hcb (by decide)) (ne hcs (by decide)) (fun e => h.base.map.mb_ne hcp e.symm) (by omega) (fun e he => ?_) (fun k hf => (h.pf k hf).2.1), h.ref.keptS hk (ne hcr (by decide)) (fun g hg => ?_) (fun e he => ?_),
    ⟨cb, (hk.block _ (Array.getElem?_eq_some_iff.1 hcb).1 (ne hcb (by decide))).trans hcb⟩, ⟨cs, (hk.block _ (Array.getElem?_eq_some_iff.1 hcs).1 (ne hcs (by decide))).trans hcs⟩, h.am, h.old.trans (hk.toBelow h.old.size (fun k e => by rw [e]; exact h.lbp)), h.pos, h.lbp, h.lbb, h.lbm, h.lbr, h.lla, h.lns, h.lnm, h.pf, h.x.rows hk (fun k hx => (h.xa k hx).p) (fun o v ho hv => (far o (by omega)).trans hv), h.xa, h.xn⟩
  · rcases ho with ⟨rfl, x, rfl⟩ | ⟨rfl, _⟩
    · exact ⟨x, World.cell?_setCell_same _ _ _ h4⟩
    · exact ⟨x4, (far 4 (by omega)).trans h4⟩
  · rcases ho with ⟨rfl, _⟩ | ⟨rfl, x, rfl⟩
    · exact ⟨x5, (far 5 (by omega)).trans h5⟩
    · exact ⟨x, World.cell?_setCell_same _ _ _ h5⟩
  · obtain ⟨c, hc⟩ := (h.base.map.pts e he).obj
    exact ne hc (by decide)
  · obtain ⟨c, hc⟩ := ownsRow_obj h.ref.row hg
    exact ne hc (by decide)
  · obtain ⟨c, hc⟩ := (h.ref.pts e he).obj
    exact ne hc (by decide)
end
end Go.Proofs.YtpkiefjanmfgfaaGreatDoor
