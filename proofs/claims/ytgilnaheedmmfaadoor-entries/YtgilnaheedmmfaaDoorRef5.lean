import Derived.Test.YtgilnaheedmmfaaDoorRef4
namespace Go.Proofs.YtgilnaheedmmfaaDoor
open Go.RowKit

theorem row_cap {w : World} {base e size n c : Nat} {a : Option Addr} {xs : List Value} (h : w.ownsRow base e size (.slice a n c) n xs) : n ≤ c := by
  rcases h.2 with ⟨hv, hn⟩ | ⟨g, cap, cur, hv, _, _, hc, _⟩
  · omega
  · simp only [Value.slice.injEq] at hv
    omega
/-- Its first k. -/
theorem src_take {w : World} {la : Option Addr} {n lc k : Nat} {L : List Ent} (h : w.ownsRow 0 90 5 (.slice la n lc) n (rcells L)) (hk : k ≤ L.length) : ∀ o, 0 < k → ∃ a, la = some a ∧ ∀ j u, (rcells (L.take k))[j]? = some u → (w.alloc o).cell? (a.add j) = some u := by
  intro o h0
  rcases h.2 with ⟨hv, hn⟩ | ⟨g, cap, cur, hv, _⟩
  · have := h.1
    rw [rcells_length] at this
    omega
  · simp only [Value.slice.injEq] at hv
    obtain ⟨rfl, _, rfl⟩ := hv
    refine ⟨_, rfl, fun j u hj => ?_⟩
    rw [addr_add, Nat.zero_add, World.cell?_alloc_lt _ _ _ (by exact (h.lt g rfl).2)]
    exact ownsRow_cell h (rcells_take L k hk hj)

theorem cell_five (w : World) (b0 b1 b2 b3 b4 : Value) : ∀ j u, [b0, b1, b2, b3, b4][j]? = some u → (w.alloc (.cells #[b0, b1, b2, b3, b4] 90)).cell? ((⟨w.heap.size, 0, none⟩ : Addr).add j) = some u := by
  intro j u hj
  rw [addr_add, Nat.zero_add, World.cell?_alloc_new]
  simpa using hj
theorem one_five (id : Int) (v : Value) (t0 t1 draw : Int) (h : v.oneCell' = true := by rfl) : ∀ u ∈ [Value.int .i64 id, v, Value.int .i64 t0, Value.int .i64 t1, Value.int .u64 draw], u.oneCell' = true := by
  intro u hu
  simp at hu
  rcases hu with rfl | rfl | rfl | rfl | rfl
  · rfl
  · exact h
  all_goals rfl
theorem new_first {w2 w3 : World} {b0 b1 b2 b3 b4 : Value} (hg : (w2.alloc (.cells #[b0, b1, b2, b3, b4] 90)).grownBy w3 (Value.slice none 0 0).ownBlock) :
    Below w2.heap.size w2 w3 ∧ w3.cell? ⟨w2.heap.size, 0, none⟩ = some b0 ∧ w3.cell? ⟨w2.heap.size, 1, none⟩ = some b1 ∧ w3.cell? ⟨w2.heap.size, 2, none⟩ = some b2 ∧ w3.cell? ⟨w2.heap.size, 3, none⟩ = some b3 ∧ w3.cell? ⟨w2.heap.size, 4, none⟩ = some b4 :=
  ⟨((Below.refl _ _).alloc (Nat.le_refl _) _).grown hg (by simp) (fun k e => by cases e), hg.cell (by simp) (by intro e; cases e), hg.cell (by simp) (by intro e; cases e), hg.cell (by simp) (by intro e; cases e), hg.cell (by simp) (by intro e; cases e), hg.cell (by simp) (by intro e; cases e)⟩
theorem new_second {w2 w3 w4 : World} {a1 : Option Addr} {k c1 g2 H : Nat} {o : Obj} (hz : w2.heap.size < w3.heap.size) (hl1 : (Value.slice a1 k c1).ownBlock = (Value.slice none 0 0).ownBlock ∨ (Value.slice a1 k c1).ownBlock = some H) (hH : w2.heap.size ≤ H) (hg : (w3.alloc o).grownBy w4 (Value.slice a1 k c1).ownBlock)
    (hl2 : (Value.slice a1 k c1).ownBlock = some g2 ∨ g2 = w3.heap.size + 1) : Below w2.heap.size w3 w4 ∧ w2.heap.size ≤ g2 := by
  have h1 : ∀ g, (Value.slice a1 k c1).ownBlock = some g → w2.heap.size ≤ g := by
    intro g e
    rcases hl1 with h | h
    · rw [e] at h; cases h
    · rw [e] at h; have := Option.some.inj h; omega
  refine ⟨((Below.refl _ _).alloc (by omega) _).grown hg (by simp; omega) h1, ?_⟩
  rcases hl2 with h | h
  · exact h1 _ h
  · omega

theorem src_drop {w : World} {la : Option Addr} {n lc k : Nat} {L : List Ent} (h : w.ownsRow 0 90 5 (.slice la n lc) n (rcells L)) (hk : k ≤ L.length) (h0 : 0 < L.length - k) : ∃ g, la = some ⟨g, 0, none⟩ ∧ ∀ j u, (rcells (L.drop k))[j]? = some u → w.cell? (((⟨g, 0, none⟩ : Addr).add (k * 5)).add j) = some u := by
  rcases h.2 with ⟨hv, hn⟩ | ⟨g, cap, cur, hv, _⟩
  · have := h.1
    rw [rcells_length] at this
    omega
  · simp only [Value.slice.injEq] at hv
    obtain ⟨rfl, _, rfl⟩ := hv
    refine ⟨g, rfl, fun j u hj => ?_⟩
    rw [addr_add, addr_add, Nat.zero_add]
    exact ownsRow_cell h (rcells_drop L k hk hj)

theorem put_fin {w w2 w4 w5 : World} {br k g2 gc c2 c3 lc mb mc : Nat} {dim cap id t0 t1 draw : Int} {la a3 : Option Addr} {L : List Ent} {xs : List Int} (h : RefAt w br dim cap la lc L) (hb2 : Below w.heap.size w w2) (hb24 : Below w2.heap.size w2 w4) (hp : Pts w2 (w.heap.size + 1) gc xs) (hg2 : w2.heap.size ≤ g2) (hcap : L.length < 60)
    (hk : k ≤ L.length) (hkk : posE id L = k) (he : findE id L = none)
    (ho : w5.ownsRow 0 90 5 (.slice a3 (k + 1 + (L.length - k)) c3) (k + 1 + (L.length - k)) (rcells (L.take k) ++ [.int .i64 id, .slice (some ⟨w.heap.size + 1, 0, none⟩) xs.length gc, .int .i64 t0, .int .i64 t1, .int .u64 draw] ++ rcells (L.drop k)))
    (hg : w4.grownBy w5 (Value.slice (some ⟨g2, 0, none⟩) (k + 1) c2).ownBlock) (hl : (Value.slice a3 (k + 1 + (L.length - k)) c3).ownBlock = (Value.slice (some ⟨g2, 0, none⟩) (k + 1) c2).ownBlock ∨ (Value.slice a3 (k + 1 + (L.length - k)) c3).ownBlock = some w4.heap.size) (hz : w.heap.size < w2.heap.size) (_hm : mb = mc) :
    w5.cell? ⟨br, 6, none⟩ = some (.slice la L.length lc) ∧ w5.frozen? ⟨br, 6, none⟩ = false ∧ RefPut w br dim cap la lc L id t0 t1 draw xs (w5.setCell ⟨br, 6, none⟩ (.slice a3 (k + 1 + (L.length - k)) c3)) := by
  have hb4 : Below w.heap.size w w4 := hb2.trans (hb24.mono hb2.size)
  have hrow : ∀ g, (Value.slice (some ⟨g2, 0, none⟩) (k + 1) c2).ownBlock = some g → w2.heap.size ≤ g := by
    intro g e
    have : g2 = g := by simpa [Value.ownBlock] using e
    omega
  have hnew : ∀ g, (Value.slice a3 (k + 1 + (L.length - k)) c3).ownBlock = some g → w.heap.size ≤ g := by
    intro g e
    rcases hl with h | h
    · have := hrow g (h ▸ e); omega
    · rw [e] at h; have := Option.some.inj h; have := hb4.size; omega
  have hb25 : Below w2.heap.size w2 w5 := hb24.grown hg hb24.size hrow
  have hp5 : Pts w5 (w.heap.size + 1) gc xs := ownsRow_below hp hb25
  have key : ∀ mb mc, _ := fun mb mc => ref_new (M := insE ⟨id, xs, t0, t1, draw, mb, mc, w.heap.size + 1, gc⟩ L) h hb4 (n2 := k + 1 + (L.length - k)) (a2 := a3) (c2 := c3) (w3 := w5)
    (by rw [length_insE_none _ (by exact he)]; omega) (fun g e => by have := hrow g e; omega)
    (by
      rw [insE_new h.rising (by exact he)]
      rw [show posE (Ent.mk id xs t0 t1 draw mb mc (w.heap.size + 1) gc).id L = k from hkk, rcells_append, rcells_cons]
      simpa [rcell] using ho) hg hnew
    (by
      intro e he'
      rcases mem_insE he' with rfl | he'
      · exact hp5
      · exact ownsRow_below ((h.below hb2).pts e he') hb25) (rising_insE _ h.rising) (by rw [length_insE_none _ (by exact he)]; omega)
  obtain ⟨_, hk0, h6, hf, _⟩ := key 0 0
  refine ⟨h6, hf, w.heap.size + 1, gc, a3, c3, by omega, fun mb mc => (key mb mc).2.2.2.2, hk0.mono (fun k _ hk => .inl hk), fun n b e => .inr (hnew b (by cases a3 <;> exact e))⟩

set_option maxHeartbeats 1000000 in
set_option maxRecDepth 20000 in
theorem put36_new (br : Nat) (dim cap : Int) (la : Option Addr) (lc : Nat) (L : List Ent) (id t0 t1 draw : Int) (xs : List Int) (b off pc : Nat) (w : World) (h : RefAt w br dim cap la lc L) (hr : ptCode dim xs = 0) (hvl : ∀ o, IntsAt (w.alloc o) (.slice (some ⟨b, off, none⟩) xs.length pc) xs)
    (he : findE id L = none) (hroom : ¬ cap ≤ L.length) (h60 : cap ≤ 60) (h0 : 0 < xs.length) (h8 : xs.length ≤ 8) (hc : ∀ i, i < xs.length → w.cell? ⟨b, off + i, none⟩ = some (.int .i64 (xs.getD i 0))) :
    Calls Tryd.prog 36 #[.pointer (some ⟨br, 0, none⟩), .int .i64 id, .slice (some ⟨b, off, none⟩) xs.length pc, .agg #[.int .i64 t0, .int .i64 t1], .int .u64 draw] w fun ev w' => ev = .returned (.int .i64 0) ∧ RefPut w br dim cap la lc L id t0 t1 draw xs w' := by
  have HR := hide hr
  have HE : Hid ((findE id L).isSome = false) := by rw [he]; rfl
  have hk := posE_le id L
  have hd : decide (cap ≤ (L.length : Int)) = false := by simpa using hroom
  have hlt60 : L.length < 60 := by omega
  have HFE := hide he
  obtain ⟨i90, hi, hz0, hz1, hz2⟩ := info_parts info90
  have hsm := h.small
  have hcap := row_cap h.row
  obtain ⟨i3, hi3, hz30, hz31, hz32⟩ := info_parts info3
  have r1 := h.r1
  have r6 := h.r6
  have hbr := h.lt
  have hbb := block_lt_of_cell (hc 0 h0)
  have HC := hide hc
  have H := hide h
  clear hr he hc hroom
  go_enter Tryd.func36, Tryd.ntmps36
  go_wp2_with fail
  refine (point59_any xs _ dim br _ (hvl _) (h.alloc _).r0).mono ?_
  rintro ev w1 ⟨rfl, rfl⟩
  rw [HR.out]
  go_wp2_with fail
  refine (find38_any br dim cap _ lc L id _ (h.alloc _)).mono ?_
  rintro ev w1 ⟨rfl, np, rfl⟩
  rw [HE.out]
  clear h
  generalize hkk : posE id L = k at *
  have HKK := hide hkk
  clear hkk
  go_wp2
  go_quiet (fail)
  have HN := hide (put36_src (T := .cells #[.int .i64 t0, .int .i64 t1] 43) (np := np) (nq := nq) HC.out hbb)
  go_upto_region 9 with (at_builtin; go_must (refine wpList_append_lies _ rfl _ _ 32 rfl 0 3 i3 (.int .i64 0) 1 8 Tryd.underlying32 hi3 hz30 hz31 hz32 rfl (by decide) (.slice none 0 0) 0 [] rfl (World.ownsRow_nil _ _ _ _) ⟨b, off, none⟩ xs.length pc (vals xs) rfl (by simp [vals]) HN.out (vals_one xs) h0 (small_len _ (by omega)) (small_bytes8 _ (by omega)) (Nat.zero_le _) (w.heap.size + 1) (by simp) ?_); intro g gc w2 ho hg hl hlt; obtain ⟨hp, hb2, hbT, rfl⟩ := put36_own ho hg hl; have HP := hide hp; have HB2 := hide hb2; have u0 : w2.cell? ⟨w.heap.size, 0, none⟩ = some (.int .i64 t0) := Below.at hbT (by simp) (by simp); have u1 : w2.cell? ⟨w.heap.size, 1, none⟩ = some (.int .i64 t1) := Below.at hbT (by simp) (by simp); have hzw : w.heap.size < w2.heap.size := (by have := hbT.size; simp at this; omega); clear hp hbT ho hg hl)
  have H2 := hide (H.out.below HB2.out)
  have s6 : w2.cell? ⟨br, 6, none⟩ = some (.slice la L.length lc) := H2.out.r6
  have hbr2 : br < w2.heap.size := H2.out.lt
  clear r1 r6 hvl HC
  have X1 := hide (src_take H2.out.row hk)
  go_upto_region 15 with (at_builtin; go_must (refine wpList_append_any _ rfl _ _ 62 rfl 0 90 i90 (.agg #[.int .i64 0, .slice none 0 0, .int .i64 0, .int .i64 0, .int .u64 0]) 5 56 Tryd.underlying62 hi hz0 hz1 hz2 rfl (by decide) (.slice none 0 0) 0 [] rfl (World.ownsRow_nil _ _ _ _) la k _ (rcells (L.take k)) rfl (rcells_take_len L k hk) (X1.out _) (rcells_one _) (small_len _ (by omega)) (small_bytes _ (by omega)) (Nat.zero_le _) ?_); go_must (intro v1 w3 ho1 hg1 hl1; rw [Nat.zero_add, List.nil_append] at ho1; obtain ⟨a1, c1, rfl⟩ := row_form ho1; obtain ⟨hb3, k0, k1, k2, k3, k4⟩ := new_first hg1; have hb3w := HB2.out.trans (hb3.mono (Nat.le_of_lt hzw)); have y6 := Below.at hb3 s6 hbr2; have HO1 := hide ho1; have HL1 := hide hl1; have HB3 := hide hb3; have HB3W := hide hb3w; have hz3 : w2.heap.size < w3.heap.size := block_lt_of_cell k0; clear ho1 hg1 hl1 hb3 hb3w))
  go_upto_region 16 with (at_builtin; go_must (refine wpList_append_lies _ rfl _ _ 62 rfl 0 90 i90 (.agg #[.int .i64 0, .slice none 0 0, .int .i64 0, .int .i64 0, .int .u64 0]) 5 56 Tryd.underlying62 hi hz0 hz1 hz2 rfl (by decide) (.slice a1 k c1) k (rcells (L.take k)) rfl (HO1.out.alloc _) ⟨w3.heap.size, 0, none⟩ 1 1 [.int .i64 id, .slice (some ⟨w.heap.size + 1, 0, none⟩) xs.length gc, .int .i64 t0, .int .i64 t1, .int .u64 draw] rfl rfl (cell_five _ _ _ _ _ _) (one_five _ _ _ _ _) (by decide) (small_len _ (by omega)) (small_bytes _ (by omega)) (Nat.zero_le _) (w3.heap.size + 1) (by simp) ?_); go_must (intro g2 c2 w4 ho2 hg2 hl2 hlt2; obtain ⟨hb4, hg2z⟩ := new_second hz3 HL1.out (by simp) hg2 hl2; have y62 := Below.at hb4 y6 hbr2; have HO2 := hide ho2; have HB4 := hide hb4; have HG2 := hide hg2z; have hz4 : w3.heap.size ≤ w4.heap.size := hb4.size; clear ho2 hg2 hl2 hb4 hg2z))
  have HB24 := hide (HB3.out.trans HB4.out)
  go_wp2_with (at_builtin; go_must (refine wpList_append_any _ rfl _ _ 62 rfl 0 90 i90 (.agg #[.int .i64 0, .slice none 0 0, .int .i64 0, .int .i64 0, .int .u64 0]) 5 56 Tryd.underlying62 hi hz0 hz1 hz2 rfl (by decide) (.slice (some ⟨g2, 0, none⟩) (k + 1) c2) (k + 1) _ rfl HO2.out _ (L.length - k) _ (rcells (L.drop k)) rfl (rcells_drop_len L k) ?_ (rcells_one _) (small_len _ (by omega)) (small_bytes _ (by omega)) (Nat.zero_le _) ?_); go_must ((intro hp; obtain ⟨g0, hg0, hsrc⟩ := src_drop (ownsRow_below H2.out.row HB24.out) hk hp; rw [if_neg (by omega), hg0]; exact ⟨_, rfl, hsrc⟩)); go_must (intro v3 w5 ho3 hg3 hl3; obtain ⟨a3, c3, rfl⟩ := row_form ho3; obtain ⟨z6, z6f, hfin⟩ := put_fin (mb := 0) (mc := 0) H.out HB2.out HB24.out HP.out HG2.out (by omega) hk HKK.out HFE.out ho3 hg3 hl3 hzw (by omega); have HF := hide hfin; clear hfin ho3 hg3 hl3))
  all_goals go_ret
  all_goals (refine ⟨rfl, ?_⟩; first | exact HF.out | (subst_vars; exact HF.out))

/-- The document's Put, answered OK. -/
theorem put36_ok (br : Nat) (dim cap : Int) (la : Option Addr) (lc : Nat) (L : List Ent) (id t0 t1 draw : Int) (xs : List Int) (b off pc : Nat) (w : World) (h : RefAt w br dim cap la lc L) (hr : ptCode dim xs = 0) (hvl : ∀ o, IntsAt (w.alloc o) (.slice (some ⟨b, off, none⟩) xs.length pc) xs)
    (hroom : (findE id L).isSome = true ∨ ¬ cap ≤ L.length) (h60 : cap ≤ 60) (h0 : 0 < xs.length) (h8 : xs.length ≤ 8) (hc : ∀ i, i < xs.length → w.cell? ⟨b, off + i, none⟩ = some (.int .i64 (xs.getD i 0))) :
    Calls Tryd.prog 36 #[.pointer (some ⟨br, 0, none⟩), .int .i64 id, .slice (some ⟨b, off, none⟩) xs.length pc, .agg #[.int .i64 t0, .int .i64 t1], .int .u64 draw] w fun ev w' => ev = .returned (.int .i64 0) ∧ RefPut w br dim cap la lc L id t0 t1 draw xs w' := by
  cases he : findE id L with
  | some e => exact put36_there br dim cap la lc L id t0 t1 draw xs b off pc w h hr hvl e he h0 h8 hc
  | none =>
    rcases hroom with hx | hx
    · rw [he] at hx; cases hx
    · exact put36_new br dim cap la lc L id t0 t1 draw xs b off pc w h hr hvl he hx h60 h0 h8 hc
end Go.Proofs.YtgilnaheedmmfaaDoor
