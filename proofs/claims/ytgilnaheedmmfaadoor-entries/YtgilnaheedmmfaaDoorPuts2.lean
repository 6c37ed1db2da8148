import Derived.Test.YtgilnaheedmmfaaDoorPuts
namespace Go.Proofs.YtgilnaheedmmfaaDoor
open Go.RowKit Go.Maps

theorem opS {w : World} {X bp o : Nat} {q pv fv : Value} {kd id kk be t0 t1 draw : Int} (hX : w.heap[X]? = some (.cells #[.int .i64 kd, .int .i64 id, .int .i64 kk, .int .i64 be, pv, .int .i64 t0, .int .i64 t1, .int .u64 draw, fv] 49 (0, 0))) (p0 : w.cell? ⟨bp, o, none⟩ = some q) :
    w.cell? ⟨bp, o, none⟩ = some q ∧ w.cell? ⟨X, 1, none⟩ = some (.int .i64 id) ∧ w.cell? ⟨X, 4, none⟩ = some pv ∧ w.cell? ⟨X, 5, none⟩ = some (.int .i64 t0) ∧ w.cell? ⟨X, 6, none⟩ = some (.int .i64 t1) ∧ w.cell? ⟨X, 7, none⟩ = some (.int .u64 draw) :=
  ⟨p0, by simp [World.cell?, hX], by simp [World.cell?, hX], by simp [World.cell?, hX], by simp [World.cell?, hX], by simp [World.cell?, hX]⟩

theorem pts_prefix {w : World} {A c : Nat} {xs ys : List Int} (h : Pts w A c (xs ++ ys)) {i : Nat} (hi : i < xs.length) : w.cell? ⟨A, 0 + i, none⟩ = some (.int .i64 (xs.getD i 0)) := by
  have := h.cell i (by simp; omega)
  simpa [List.getD_eq_getElem?_getD, List.getElem?_append_left hi] using this

theorem puts_two {W0 w w' : World} {bp bb bs bm br X A c : Nat} {dim cap : Int} {la : Option Addr} {lc : Nat} {nsv nmv : Value} {nn : Nat} {L M : List Ent} {cs : Array Value} {ys : List Int} (h : PairAt W0 w bp bb bs bm br dim cap la lc nsv nmv nn L M) (hX : w.heap[X]? = some (.cells cs 49 (0, 0))) (hp : Pts w A c ys) (hkd : Kept (fun k => k = bm) w.drew w') :
    Kept (fun k => k = bm) w w' ∧ w'.heap[X]? = some (.cells cs 49 (0, 0)) ∧ Pts w' A c ys := by
  have hk : Kept (fun k => k = bm) w w' := (Kept.refl _ w).drew.trans hkd (fun _ _ h => h)
  refine ⟨hk, (hk.block X (Array.getElem?_eq_some_iff.1 hX).1 (h.base.map.mb_ne hX)).trans hX, ownsRow_kept hp hk fun g hg => ?_⟩
  obtain ⟨cu, hcu⟩ := ownsRow_obj hp hg
  exact h.base.map.mb_ne hcu

theorem nm_lt {W0 w : World} {bp bb bs bm br : Nat} {dim cap : Int} {la : Option Addr} {lc : Nat} {nsv nmv : Value} {nn : Nat} {L M : List Ent} (h : PairAt W0 w bp bb bs bm br dim cap la lc nsv nmv nn L M) {b : Nat} (e : nmv.ownBlock = some b) : b < w.heap.size := by
  obtain ⟨xs, hx⟩ := h.book.hm
  exact (hx.lt b e).2
theorem puts_base {W0 w w' : World} {bp bb bs bm br g gc : Nat} {dim cap id t0 t1 : Int} {la : Option Addr} {lc : Nat} {nsv nmv : Value} {nn : Nat} {L M : List Ent} {xs : List Int} (h : PairAt W0 w bp bb bs bm br dim cap la lc nsv nmv nn L M) (hk : Kept (fun k => k = bm) w w') (hB : ∀ draw rb rc, BaseAt w' bb bs bm dim cap (insE ⟨id, xs, t0, t1, draw, g, gc, rb, rc⟩ L)) (hg : ∀ b, nmv.ownBlock = some b → b ≠ g) :
    ∀ draw rb rc, PairAt W0 w' bp bb bs bm br dim cap la lc nsv nmv nn (insE ⟨id, xs, t0, t1, draw, g, gc, rb, rc⟩ L) M := by
  intro draw rb rc
  obtain ⟨p0, p1, p4, p5, bk, rf, tb, ts, old⟩ := h.turned hk
  refine ⟨p0, p1, p4, p5, bk, hB draw rb rc, rf, tb, ts, ⟨fun e he e1 => ?_, h.am.2⟩, old, h.pos, h.lbp, h.lbm, h.lbr, h.lla, h.lns, h.lnm, h.d1, h.d8, h.c60⟩
  rcases mem_insE he with rfl | he
  · exact hg _ e1 rfl
  · exact h.am.1 e he e1

/-- What a step leaves: the pair with other entries, the book longer by at most four; nothing old has turned. -/
def StepOk (W0 : World) (bp bb bs bm br : Nat) (dim cap : Int) (nn : Nat) (w' : World) : Prop :=
  ∃ la lc nsv nmv nn' L, nn' ≤ nn + 4 ∧ PairAt W0 w' bp bb bs bm br dim cap la lc nsv nmv nn' L L

section
variable {W0 w w1 w2 w3 w4 w5 : World} {bp bb bs bm br g gc n : Nat} {dim cap id t0 t1 draw : Int} {la : Option Addr} {lc : Nat} {nsv nmv nsv' nmv' lv' : Value} {nn n' : Nat} {L : List Ent} {cs : Array Value} {xs ys : List Int}
theorem puts_three (h : PairAt W0 w bp bb bs bm br dim cap la lc nsv nmv nn L L) (h2 : ∀ draw rb rc, PairAt W0 w2 bp bb bs bm br dim cap la lc nsv nmv nn (insE ⟨id, xs, t0, t1, draw, g, gc, rb, rc⟩ L) L) (hX : w2.heap[w.heap.size]? = some (.cells cs 49 (0, 0))) (hk : Kept (fun k => k = w.heap.size + 1) w2 w3) (hg : w.heap.size + 1 ≠ g) (hyl : ys.length = n + 2) (hpy : Pts w3 (w.heap.size + 1) (n + 2) ys) :
    w3.heap[w.heap.size]? = some (.cells cs 49 (0, 0)) ∧ (∀ draw rb rc, PairAt W0 w3 bp bb bs bm br dim cap la lc nsv nmv nn (insE ⟨id, xs, t0, t1, draw, g, gc, rb, rc⟩ L) L) ∧ InS w3 bp (.slice (some ⟨w.heap.size + 1, 0, none⟩) (n + 2) (n + 2)) nsv nmv w3 (.slice (some ⟨w.heap.size + 1, 0, none⟩) (n + 2) (n + 2)) (n + 2) nsv nn nmv nn := by
  have hA := h.apart (A := w.heap.size + 1) (by omega)
  have h3 : ∀ draw rb rc, PairAt W0 w3 bp bb bs bm br dim cap la lc nsv nmv nn (insE ⟨id, xs, t0, t1, draw, g, gc, rb, rc⟩ L) L := fun draw rb rc => (h2 draw rb rc).one (hA.ins _ hg) hk
  refine ⟨(hk.block _ (Array.getElem?_eq_some_iff.1 hX).1 (by omega)).trans hX, h3, ?_⟩
  have hp : w3.ownsRow 0 3 1 (.slice (some ⟨w.heap.size + 1, 0, none⟩) (n + 2) (n + 2)) (n + 2) (ys.map (Value.int .i64)) := hyl ▸ hpy
  exact (h3 0 0 0).book.ins hp fun g' hg' e => hA.nm (by rw [e, ← hg']; rfl)
theorem puts_four (h : PairAt W0 w bp bb bs bm br dim cap la lc nsv nmv nn L L) (h3 : ∀ draw rb rc, PairAt W0 w3 bp bb bs bm br dim cap la lc nsv nmv nn (insE ⟨id, xs, t0, t1, draw, g, gc, rb, rc⟩ L) L) (hX : w3.heap[w.heap.size]? = some (.cells cs 49 (0, 0))) (hg : w.heap.size + 1 ≠ g) (hs : InS w3 bp (.slice (some ⟨w.heap.size + 1, 0, none⟩) (n + 2) (n + 2)) nsv nmv w4 lv' n' nsv' (nn + 4) nmv' (nn + 4)) :
    w4.heap[w.heap.size]? = some (.cells cs 49 (0, 0)) ∧ ∀ draw rb rc, PairAt W0 w4 bp bb bs bm br dim cap la lc nsv' nmv' (nn + 4) (insE ⟨id, xs, t0, t1, draw, g, gc, rb, rc⟩ L) L := by
  have hA := h.apart (A := w.heap.size + 1) (by omega)
  have hB := h.apart (A := w.heap.size) (Nat.le_refl _)
  refine ⟨(hs.kept.block _ (Array.getElem?_eq_some_iff.1 hX).1 (fun hx => ?_)).trans hX, fun draw rb rc => (h3 draw rb rc).ints' (hA.ins _ hg) hs⟩
  rcases hx with e | e | e | e
  · exact hB.p e
  · simp [Value.ownBlock] at e
  · exact hB.ns e
  · exact hB.nm e
theorem puts_five (h : PairAt W0 w bp bb bs bm br dim cap la lc nsv nmv nn L L) (h4 : ∀ draw rb rc, PairAt W0 w4 bp bb bs bm br dim cap la lc nsv' nmv' (nn + 4) (insE ⟨id, xs, t0, t1, draw, g, gc, rb, rc⟩ L) L) (hX : w4.heap[w.heap.size]? = some (.cells cs 49 (0, 0))) (hp : RefPut w4.drew br dim cap la lc L id t0 t1 draw xs w5) :
    w5.heap[w.heap.size]? = some (.cells cs 49 (0, 0)) ∧ ∃ la' lc' x, PairAt W0 w5 bp bb bs bm br dim cap la' lc' nsv' nmv' (nn + 4) (insE x L) (insE x L) := by
  obtain ⟨rg, rgc, la', lc', hrg, hR, hkd, hl⟩ := hp
  have hk : Kept (fun k => k = br ∨ (Value.slice la L.length lc).ownBlock = some k) w4 w5 := (Kept.refl _ w4).drew.trans hkd (fun _ _ h => h)
  have hB := h.apart (A := w.heap.size) (Nat.le_refl _)
  refine ⟨(hk.block _ (Array.getElem?_eq_some_iff.1 hX).1 (fun hx => ?_)).trans hX, la', lc', ⟨id, xs, t0, t1, draw, g, gc, rg, rgc⟩, (h4 draw rg rgc).refTurned hk (hR g gc) (fun b hb => ?_) (fun e he e1 => ?_)⟩
  · rcases hx with e | e
    · exact hB.r e
    · exact hB.l e
  · rcases hl _ b hb with e | e
    · exact h.lla b e
    · exact Nat.le_trans (h4 0 0 0).old.size e
  · rcases mem_insE he with rfl | he
    · have h1 := nm_lt (h4 0 0 0) e1
      have h2 : w4.heap.size ≤ rg := hrg
      simp at h1
      omega
    · exact (h4 0 0 0).am.2 e he e1
end

set_option maxHeartbeats 2000000 in
set_option maxRecDepth 20000 in
theorem puts18_ok (W0 w : World) (bp bb bs bm br : Nat) (dim cap : Int) (la : Option Addr) (lc : Nat) (nsv nmv : Value) (nn : Nat) (L : List Ent) (kd id kk be t0 t1 draw : Int) (xs : List Int) (pa : Option Addr) (pc : Nat) (fv : Value) (hfv : ∃ a n c, fv = .slice a n c)
    (h : PairAt W0 w bp bb bs bm br dim cap la lc nsv nmv nn L L) (hv : IntsAt W0 (.slice pa xs.length pc) xs) (hid : I64 id) (hn : (xs.length + 6) * 8 ≤ 140737488355328) (hnn : (nn + 4) * 24 ≤ 140737488355328)
    (hcode : ptCode dim xs = 0) (hroom : Room cap id L) :
    Calls Tryd.prog 18 #[.pointer (some ⟨bp, 0, none⟩), .agg #[.int .i64 kd, .int .i64 id, .int .i64 kk, .int .i64 be, .slice pa xs.length pc, .int .i64 t0, .int .i64 t1, .int .u64 draw, fv]] w fun ev w' => ev = .returned (.bool true) ∧ StepOk W0 bp bb bs bm br dim cap nn w' := by
  obtain ⟨fa, fl, fc, rfl⟩ := hfv
  have hlen : (xs.length : Int) = dim := by
    unfold ptCode at hcode
    split at hcode
    · assumption
    · cases hcode
  have h0 : 0 < xs.length := by have := h.d1; omega
  have h8 : xs.length ≤ 8 := by have := h.d8; omega
  have hL : L.length ≤ 60 := h.ref.small
  obtain ⟨b, off, rfl, hcb⟩ : ∃ b off, pa = some ⟨b, off, none⟩ ∧ ∀ i, i < xs.length → W0.cell? ⟨b, off + i, none⟩ = some (.int .i64 (xs.getD i 0)) := by
    obtain ⟨a', c', e', _, _, hx⟩ := hv
    simp only [Value.slice.injEq] at e'
    obtain ⟨rfl, _, rfl⟩ := e'
    rcases hx with rfl | ⟨b, off, rfl, hc⟩
    · simp at h0
    · exact ⟨b, off, rfl, hc⟩
  have HCB := hide hcb
  have hb0 := block_lt_of_cell (hcb 0 h0)
  clear hcb
  have hvw := hv.below h.old
  have hva := hvw.below ((Below.refl _ _).alloc (Nat.le_refl _) (.cells #[.int .i64 kd, .int .i64 id, .int .i64 kk, .int .i64 be, .slice (some ⟨b, off, none⟩) xs.length pc, .int .i64 t0, .int .i64 t1, .int .u64 draw, .slice fa fl fc] 49))
  have hn2 : (xs.length + 2) * 8 ≤ 140737488355328 := Nat.le_trans (Nat.mul_le_mul_right 8 (by omega)) hn
  have hpl := h.book.lt
  have H := hide h
  have HV := hide hv
  have HVA := hide hva
  have HC := hide hcode
  have HN := hide hn
  have HN2 := hide hn2
  have HNN := hide hnn
  have HLEN := hide hlen
  clear hvw hva hcode hn hn2 hnn hv h hlen
  go_enter Tryd.func18, Tryd.ntmps18
  go_wp2_with fail
  refine (copied33_any xs (.slice (some ⟨b, off, none⟩) xs.length pc) _ HVA.out HN2.out).mono ?_
  rintro ev w1 ⟨rfl, hp, hb⟩
  have hp1 : Pts w1 (w.heap.size + 1) (xs.length + 2) (xs ++ [77, 78]) := by simpa using hp
  have hX1 : w1.heap[w.heap.size]? = some (.cells #[.int .i64 kd, .int .i64 id, .int .i64 kk, .int .i64 be, .slice (some ⟨b, off, none⟩) xs.length pc, .int .i64 t0, .int .i64 t1, .int .u64 draw, .slice fa fl fc] 49 (0, 0)) := (hb.block _ (by simp)).trans (heap_alloc_new w _)
  have hbw : Below w.heap.size w w1 := ((Below.refl _ _).alloc (Nat.le_refl _) _).trans (hb.mono (by simp))
  have h1 := H.out.below hbw
  have H1 := hide h1
  have HP1 := hide hp1
  have HX1 := hide hX1
  have HBW := hide hbw
  have hzw : w.heap.size + 1 < w1.heap.size := (hp1.lt (w.heap.size + 1) rfl).2
  have hp0 := h1.p0
  clear hp hb hp1 hX1 hbw h1
  have hS1 := opS HX1.out hp0
  have bz1 : (0 : Int) ≤ (xs.length : Int) := by omega
  have bz2 : (xs.length : Int) ≤ (xs.length : Int) + 2 := by omega
  have HVL : Hid (∀ o, IntsAt (w1.drew.alloc o) (.slice (some ⟨w.heap.size + 1, 0, none⟩) xs.length (xs.length + 2)) xs) := fun o => (ints_of_pts HP1.out (by omega) _ (by omega)).below (((Below.refl _ _).drew).alloc (Nat.le_refl _) o)
  have HCC : Hid (∀ i, i < xs.length → w1.drew.cell? ⟨w.heap.size + 1, 0 + i, none⟩ = some (.int .i64 (xs.getD i 0))) := fun i hi => pts_prefix HP1.out hi
  go_wp2
  go_region_held3 (fun wx => wx.cell? ⟨bp, 0, none⟩ = some (.pointer (some ⟨bb, 0, none⟩)) ∧ wx.cell? ⟨w.heap.size, 1, none⟩ = some (.int .i64 id) ∧ wx.cell? ⟨w.heap.size, 4, none⟩ = some (.slice (some ⟨b, off, none⟩) xs.length pc) ∧ wx.cell? ⟨w.heap.size, 5, none⟩ = some (.int .i64 t0) ∧ wx.cell? ⟨w.heap.size, 6, none⟩ = some (.int .i64 t1) ∧ wx.cell? ⟨w.heap.size, 7, none⟩ = some (.int .u64 draw))
    (first | (exact hS1) | (exact hS2))
    (first
      | (go_at_call 13; refine (put13_ok bb bs bm dim cap id t0 t1 draw xs (w.heap.size + 1) 0 (xs.length + 2) L _ hid ?_ HC.out ?_ hroom hL h0 h8 ?_).mono ?_; (exact H1.out.base.below (Below.refl _ _).drew); (exact HVL.out); (exact HCC.out); rintro ev2 w2 ⟨rfl, g, gc, hg, hB2, hk2d⟩; obtain ⟨hk2, hX2, hp2⟩ := puts_two H1.out HX1.out HP1.out hk2d; have hS2 := opS hX2 (H1.out.turned hk2).1))
  have h2 := puts_base H1.out hk2 hB2 (fun b e => by have h3 := nm_lt H1.out e; have h4 : w1.heap.size ≤ g := hg; omega)
  have HP2 := hide hp2
  have HX2 := hide hX2
  have H2 := hide h2
  have HG := hide hg
  have HB2 := hide hB2
  clear hp2 hX2 h2 hg hB2 hS1 hS2 hk2 hk2d HVL HCC
  go_wp2_with fail
  refine (whole34_any xs (.slice (some ⟨b, off, none⟩) xs.length pc) (w.heap.size + 1) (xs.length + 2) w2 HP2.out ?c1 ?c2).mono ?_
  case c1 => exact HV.out.below (H2.out 0 0 0).old
  case c2 => exact fun b off n c e hx => by have := HV.out.lt b off n c e hx; have := H.out.old.size; omega
  rintro ev w3 ⟨rfl, ⟨ys, hyl, hpy⟩, hk3⟩
  obtain ⟨hX3, h3, hins⟩ := puts_three (id := id) (t0 := t0) (t1 := t1) (xs := xs) (g := g) (gc := gc) H.out H2.out HX2.out hk3 (by have : w1.heap.size ≤ g := HG.out; omega) hyl hpy
  have HX3 := hide hX3
  have H3 := hide h3
  have HI := hide hins
  have hbp6 : (⟨bp, 6, none⟩ : Addr) = ⟨bp, 6, none⟩ := rfl
  clear hX3 h3 hins hyl hpy hk3
  go_wp2_with fail
  refine (ints35_any bp (some ⟨w.heap.size + 1, 0, none⟩) (xs.length + 2) (xs.length + 2) nsv nmv nn w3 HI.out HN.out HNN.out).mono ?_
  rintro ev w4 ⟨rfl, lv', nsv', nmv', hs4⟩
  obtain ⟨hX4, h4⟩ := puts_four (id := id) (t0 := t0) (t1 := t1) (xs := xs) (g := g) (gc := gc) H.out H3.out HX3.out (by have : w1.heap.size ≤ g := HG.out; omega) hs4
  have HX4 := hide hX4
  have H4 := hide h4
  have hp1 := (h4 0 0 0).p1
  have hS3 := opS hX4 hp1
  have HVL4 : Hid (∀ o, IntsAt (w4.drew.alloc o) (.slice (some ⟨b, off, none⟩) xs.length pc) xs) := fun o => (HV.out.below (h4 0 0 0).old).below (((Below.refl _ _).drew).alloc (Nat.le_refl _) o)
  have HCC4 : Hid (∀ i, i < xs.length → w4.drew.cell? ⟨b, off + i, none⟩ = some (.int .i64 (xs.getD i 0))) := fun i hi => Below.at (h4 0 0 0).old (HCB.out i hi) hb0
  clear hX4 h4 hs4 hp0
  go_wp2
  go_region_held3 (fun wx => wx.cell? ⟨bp, 1, none⟩ = some (.pointer (some ⟨br, 0, none⟩)) ∧ wx.cell? ⟨w.heap.size, 1, none⟩ = some (.int .i64 id) ∧ wx.cell? ⟨w.heap.size, 4, none⟩ = some (.slice (some ⟨b, off, none⟩) xs.length pc) ∧ wx.cell? ⟨w.heap.size, 5, none⟩ = some (.int .i64 t0) ∧ wx.cell? ⟨w.heap.size, 6, none⟩ = some (.int .i64 t1) ∧ wx.cell? ⟨w.heap.size, 7, none⟩ = some (.int .u64 draw))
    (first | (exact hS3) | (exact hS5))
    (first
      | (go_at_call 36; refine (put36_ok br dim cap la lc L id t0 t1 draw xs b off pc _ ?_ HC.out ?_ hroom (H.out.c60) h0 h8 ?_).mono ?_; (exact (H4.out 0 0 0).ref.below (Below.refl _ _).drew); (exact HVL4.out); (exact HCC4.out); rintro ev5 w5 ⟨rfl, hput⟩; obtain ⟨hX5, la5, lc5, x5, h5⟩ := puts_five H.out H4.out HX4.out hput; have hS5 := opS hX5 h5.p1; obtain ⟨y4, hy4⟩ := h5.p4; obtain ⟨y5, hy5⟩ := h5.p5; have hfz := h5.book.frozen; have hb5 := h5.book.lt))
  have H5 := hide h5
  clear h5
  go_wp2
  go_ret
  exact ⟨rfl, _, _, _, _, _, _, Nat.le_refl _, (H5.out.field (.int .i64 id) (.inl ⟨rfl, _, rfl⟩)).field (.bool true) (.inr ⟨rfl, _, rfl⟩)⟩
end Go.Proofs.YtgilnaheedmmfaaDoor
