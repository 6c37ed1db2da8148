import Derived.Test.YtgilnaheedmmfaaDoorPair
namespace Go.Proofs.YtgilnaheedmmfaaDoor
open Go.RowKit Go.Maps

theorem BookAt.ins {w : World} {bp : Nat} {nsv nmv lv : Value} {nn n : Nat} {xs : List Value} (h : BookAt w bp nsv nmv nn) (hl : w.ownsRow 0 3 1 lv n xs) (ha : ∀ g, lv.ownBlock = some g → nmv.ownBlock ≠ some g) : InS w bp lv nsv nmv w lv n nsv nn nmv nn :=
  ⟨h.typ, fun _ _ _ hv => hv, h.c6, h.c7, h.c8, h.c9, ⟨xs, hl⟩, h.hs, h.hm, ha, fun _ hg => .inl hg, fun _ hg => .inl hg, fun _ hg => .inl hg, Kept.refl _ _⟩
theorem InS.bookAt {w0 w : World} {bp : Nat} {lv0 nsv0 nmv0 lv nsv nmv : Value} {nl nn : Nat} (h : InS w0 bp lv0 nsv0 nmv0 w lv nl nsv nn nmv nn) : BookAt w bp nsv nmv nn := ⟨h.typ, h.c6, h.c7, h.c8, h.c9, h.hs, h.hm⟩

theorem ints_of_pts {w : World} {A c : Nat} {xs ys : List Int} (h : Pts w A c (xs ++ ys)) (hm : xs.length ≤ 17592186044416) (c' : Nat) (hc : xs.length ≤ c') : IntsAt w (.slice (some ⟨A, 0, none⟩) xs.length c') xs := by
  refine ⟨_, _, rfl, hc, hm, .inr ⟨A, 0, rfl, fun i hi => ?_⟩⟩
  have := h.cell i (by simp; omega)
  simpa [List.getD_eq_getElem?_getD, List.getElem?_append_left hi] using this

/-- The pair behind the book's turn: 'ints' was called with a list of a block A that is none of theirs. -/
theorem PairAt.ints {W0 w w' : World} {bp bb bs bm br : Nat} {dim cap : Int} {la : Option Addr} {lc : Nat} {nsv nmv nsv' nmv' lv lv' : Value} {nn n' : Nat} {L M : List Ent} (h : PairAt W0 w bp bb bs bm br dim cap la lc nsv nmv nn L M)
    (hA : ∀ g, lv.ownBlock = some g → W0.heap.size ≤ g ∧ g ≠ bb ∧ g ≠ bs ∧ g ≠ bm ∧ g ≠ br ∧ (∀ e ∈ L, g ≠ e.mb) ∧ (∀ e ∈ M, g ≠ e.rb) ∧ (∀ b, (Value.slice la M.length lc).ownBlock = some b → g ≠ b))
    (hs : InS w bp lv nsv nmv w' lv' n' nsv' (nn + 4) nmv' (nn + 4)) : PairAt W0 w' bp bb bs bm br dim cap la lc nsv' nmv' (nn + 4) L M := by
  obtain ⟨x4, h4⟩ := h.p4
  obtain ⟨x5, h5⟩ := h.p5
  obtain ⟨cb, hcb⟩ := h.tb
  obtain ⟨cs, hcs⟩ := h.ts
  obtain ⟨cp, hcp⟩ := h.book.typ
  obtain ⟨cr, hcr⟩ := h.ref.typ
  obtain ⟨ys, hys⟩ := h.book.hs
  obtain ⟨zs, hzs⟩ := h.book.hm
  have hk := hs.kept
  have nsne : ∀ {b : Nat} {c : Array Value} {e : TypeId}, w.heap[b]? = some (.cells c e (0, 0)) → e ≠ 32 → nsv.ownBlock ≠ some b := fun hb he e' => by
    obtain ⟨c2, h2⟩ := ownsRow_obj hys e'
    exact ne_of_elem hb h2 he rfl
  have nmne : ∀ {b : Nat} {c : Array Value} {e : TypeId}, w.heap[b]? = some (.cells c e (0, 0)) → e ≠ 3 → nmv.ownBlock ≠ some b := fun hb he e' => by
    obtain ⟨c2, h2⟩ := ownsRow_obj hzs e'
    exact ne_of_elem hb h2 he rfl
  have no : ∀ {b : Nat} {c : Array Value} {e : TypeId}, w.heap[b]? = some (.cells c e (0, 0)) → e ≠ 41 → e ≠ 32 → e ≠ 3 → lv.ownBlock ≠ some b → ¬ (b = bp ∨ lv.ownBlock = some b ∨ nsv.ownBlock = some b ∨ nmv.ownBlock = some b) := fun hb h1 h2 h3 h4 hx => by
    rcases hx with e | e | e | e
    · subst e; rw [hb] at hcp; simp at hcp; exact h1 hcp.2
    · exact h4 e
    · exact nsne hb h2 e
    · exact nmne hb h3 e
  have noPm : ∀ e ∈ L, ¬ (e.mb = bp ∨ lv.ownBlock = some e.mb ∨ nsv.ownBlock = some e.mb ∨ nmv.ownBlock = some e.mb) := fun e he hx => by
    obtain ⟨c, hc⟩ := (h.base.map.pts e he).obj
    rcases hx with e1 | e1 | e1 | e1
    · exact ne_of_elem hc hcp (by decide) e1
    · exact (hA _ e1).2.2.2.2.2.1 e he rfl
    · exact nsne hc (by decide) e1
    · exact h.am.1 e he e1
  have noPr : ∀ e ∈ M, ¬ (e.rb = bp ∨ lv.ownBlock = some e.rb ∨ nsv.ownBlock = some e.rb ∨ nmv.ownBlock = some e.rb) := fun e he hx => by
    obtain ⟨c, hc⟩ := (h.ref.pts e he).obj
    rcases hx with e1 | e1 | e1 | e1
    · exact ne_of_elem hc hcp (by decide) e1
    · exact (hA _ e1).2.2.2.2.2.2.1 e he rfl
    · exact nsne hc (by decide) e1
    · exact h.am.2 e he e1
  have hbm : ¬ (bm = bp ∨ lv.ownBlock = some bm ∨ nsv.ownBlock = some bm ∨ nmv.ownBlock = some bm) := fun hx => by
    rcases hx with e1 | e1 | e1 | e1
    · exact h.base.map.mb_ne hcp e1.symm
    · exact (hA bm e1).2.2.2.1 rfl
    · obtain ⟨c2, h2⟩ := ownsRow_obj hys e1; exact h.base.map.mb_ne h2 rfl
    · obtain ⟨c2, h2⟩ := ownsRow_obj hzs e1; exact h.base.map.mb_ne h2 rfl
  have h00 : ¬ (0 = bp ∨ lv.ownBlock = some 0 ∨ nsv.ownBlock = some 0 ∨ nmv.ownBlock = some 0) := fun hx => by
    have := h.pos
    rcases hx with e1 | e1 | e1 | e1
    · have := h.lbp; omega
    · have := (hA 0 e1).1; omega
    · have := h.lns 0 e1; omega
    · have := h.lnm 0 e1; omega
  have hbb := no hcb (by decide) (by decide) (by decide) (fun e => (hA bb e).2.1 rfl)
  have hbs := no hcs (by decide) (by decide) (by decide) (fun e => (hA bs e).2.2.1 rfl)
  have hbr := no hcr (by decide) (by decide) (by decide) (fun e => (hA br e).2.2.2.2.1 rfl)
  have hla : ∀ g, (Value.slice la M.length lc).ownBlock = some g → ¬ (g = bp ∨ lv.ownBlock = some g ∨ nsv.ownBlock = some g ∨ nmv.ownBlock = some g) := fun g hg => by
    obtain ⟨c, hc⟩ := ownsRow_obj h.ref.row hg
    exact no hc (by decide) (by decide) (by decide) (fun e => (hA g e).2.2.2.2.2.2.2 g hg rfl)
  have hold : Below W0.heap.size w w' := hk.toBelow h.old.size fun k hk => by
    rcases hk with e | e | e | e
    · rw [e]; exact h.lbp
    · exact (hA k e).1
    · exact h.lns k e
    · exact h.lnm k e
  refine ⟨hs.low 0 _ (by omega) h.p0, hs.low 1 _ (by omega) h.p1, ⟨x4, hs.low 4 _ (by omega) h4⟩, ⟨x5, hs.low 5 _ (by omega) h5⟩, hs.bookAt, h.base.keptS hk hbb hbs hbm h00 noPm, h.ref.keptS hk hbr hla noPr,
    ⟨cb, (hk.block _ (Array.getElem?_eq_some_iff.1 hcb).1 hbb).trans hcb⟩, ⟨cs, (hk.block _ (Array.getElem?_eq_some_iff.1 hcs).1 hbs).trans hcs⟩, ?_, h.old.trans hold, h.pos, h.lbp, h.lbm, h.lbr, h.lla, ?_, ?_, h.d1, h.d8, h.c60⟩
  · refine ⟨fun e he e1 => ?_, fun e he e1 => ?_⟩
    · have hm1 := ((h.base.map.pts e he).lt e.mb rfl).2
      rcases hs.lm _ e1 with h1 | h1
      · exact h.am.1 e he h1
      · omega
    · have hm2 := ((h.ref.pts e he).lt e.rb rfl).2
      rcases hs.lm _ e1 with h1 | h1
      · exact h.am.2 e he h1
      · omega
  · intro g hg
    rcases hs.ls g hg with h1 | h1
    · exact h.lns g h1
    · exact Nat.le_trans h.old.size h1
  · intro g hg
    rcases hs.lm g hg with h1 | h1
    · exact h.lnm g h1
    · exact Nat.le_trans h.old.size h1

/-- The block A is none of theirs. -/
structure Apart (W0 : World) (A bp bb bs bm br : Nat) (la : Option Addr) (lc : Nat) (nsv nmv : Value) (L M : List Ent) : Prop where
  old : W0.heap.size ≤ A
  p : A ≠ bp
  b : A ≠ bb
  s : A ≠ bs
  m : A ≠ bm
  r : A ≠ br
  ns : nsv.ownBlock ≠ some A
  nm : nmv.ownBlock ≠ some A
  l : (Value.slice la M.length lc).ownBlock ≠ some A
  mb : ∀ e ∈ L, A ≠ e.mb
  rb : ∀ e ∈ M, A ≠ e.rb

section
variable {W0 w w' : World} {bp bb bs bm br : Nat} {dim cap : Int} {la : Option Addr} {lc : Nat} {nsv nmv : Value} {nn : Nat} {L M : List Ent} {A : Nat}
theorem PairAt.apart (h : PairAt W0 w bp bb bs bm br dim cap la lc nsv nmv nn L M) (hA : w.heap.size ≤ A) : Apart W0 A bp bb bs bm br la lc nsv nmv L M := by
  obtain ⟨cb, hcb⟩ := h.tb
  obtain ⟨cs, hcs⟩ := h.ts
  obtain ⟨ys, hys⟩ := h.book.hs
  obtain ⟨zs, hzs⟩ := h.book.hm
  have h1 := h.book.lt
  have h2 := (Array.getElem?_eq_some_iff.1 hcb).1
  have h3 := (Array.getElem?_eq_some_iff.1 hcs).1
  have h4 := h.base.map.lt
  have h5 := h.ref.lt
  exact ⟨Nat.le_trans h.old.size hA, by omega, by omega, by omega, by omega, by omega, fun e => by have := (hys.lt A e).2; omega, fun e => by have := (hzs.lt A e).2; omega, fun e => by have := (h.ref.row.lt A e).2; omega, fun e he => by have := h.base.map.plt e he; omega, fun e he => by have := ((h.ref.pts e he).lt e.rb rfl).2; omega⟩
theorem Apart.ins (h : Apart W0 A bp bb bs bm br la lc nsv nmv L M) (x : Ent) (hx : A ≠ x.mb) : Apart W0 A bp bb bs bm br la lc nsv nmv (insE x L) M :=
  ⟨h.old, h.p, h.b, h.s, h.m, h.r, h.ns, h.nm, h.l, fun e he => by
    rcases mem_insE he with rfl | he
    · exact hx
    · exact h.mb e he, h.rb⟩
/-- The block A alone was written. -/
theorem PairAt.one (h : PairAt W0 w bp bb bs bm br dim cap la lc nsv nmv nn L M) (hA : Apart W0 A bp bb bs bm br la lc nsv nmv L M) (hk : Kept (fun k => k = A) w w') : PairAt W0 w' bp bb bs bm br dim cap la lc nsv nmv nn L M := by
  obtain ⟨x4, h4⟩ := h.p4
  obtain ⟨x5, h5⟩ := h.p5
  obtain ⟨cb, hcb⟩ := h.tb
  obtain ⟨cs, hcs⟩ := h.ts
  have h0 := h.pos
  have hold := hA.old
  refine ⟨hk.cell h.p0 hA.p.symm, hk.cell h.p1 hA.p.symm, ⟨x4, hk.cell h4 hA.p.symm⟩, ⟨x5, hk.cell h5 hA.p.symm⟩, h.book.keptS hk hA.p.symm (fun g hg e => hA.ns (by rw [hg, e])) (fun g hg e => hA.nm (by rw [hg, e])), h.base.keptS hk hA.b.symm hA.s.symm hA.m.symm (by omega) (fun e he => (hA.mb e he).symm), h.ref.keptS hk hA.r.symm (fun g hg e => hA.l (by rw [hg, e])) (fun e he => (hA.rb e he).symm),
    ⟨cb, (hk.block _ (Array.getElem?_eq_some_iff.1 hcb).1 hA.b.symm).trans hcb⟩, ⟨cs, (hk.block _ (Array.getElem?_eq_some_iff.1 hcs).1 hA.s.symm).trans hcs⟩, h.am, h.old.trans (hk.toBelow h.old.size (fun k e => by rw [e]; exact hold)), h.pos, h.lbp, h.lbm, h.lbr, h.lla, h.lns, h.lnm, h.d1, h.d8, h.c60⟩
/-- 'ints' with a list in the block A. -/
theorem PairAt.ints' {nsv' nmv' lv' : Value} {n n' c : Nat} (h : PairAt W0 w bp bb bs bm br dim cap la lc nsv nmv nn L M) (hA : Apart W0 A bp bb bs bm br la lc nsv nmv L M) (hs : InS w bp (.slice (some ⟨A, 0, none⟩) n c) nsv nmv w' lv' n' nsv' (nn + 4) nmv' (nn + 4)) : PairAt W0 w' bp bb bs bm br dim cap la lc nsv' nmv' (nn + 4) L M :=
  h.ints (fun g hg => by
    obtain rfl : A = g := by simpa [Value.ownBlock] using hg
    exact ⟨hA.old, hA.b, hA.s, hA.m, hA.r, hA.mb, hA.rb, fun b hb e => hA.l (by rw [hb, e])⟩) hs
/-- 'ints' with nil. -/
theorem PairAt.intsN {nsv' nmv' lv' : Value} {n' : Nat} (h : PairAt W0 w bp bb bs bm br dim cap la lc nsv nmv nn L M) (hs : InS w bp (.slice none 0 0) nsv nmv w' lv' n' nsv' (nn + 4) nmv' (nn + 4)) : PairAt W0 w' bp bb bs bm br dim cap la lc nsv' nmv' (nn + 4) L M :=
  h.ints (fun g hg => by cases hg) hs

/-- The document's base has turned. -/
theorem PairAt.refTurned {la' : Option Addr} {lc' : Nat} {M' : List Ent} (h : PairAt W0 w bp bb bs bm br dim cap la lc nsv nmv nn L M) (hk : Kept (fun k => k = br ∨ (Value.slice la M.length lc).ownBlock = some k) w w') (hr : RefAt w' br dim cap la' lc' M') (hl : ∀ g, (Value.slice la' M'.length lc').ownBlock = some g → W0.heap.size ≤ g) (ham : ∀ e ∈ M', nmv.ownBlock ≠ some e.rb) :
    PairAt W0 w' bp bb bs bm br dim cap la' lc' nsv nmv nn L M' := by
  obtain ⟨x4, h4⟩ := h.p4
  obtain ⟨x5, h5⟩ := h.p5
  obtain ⟨cb, hcb⟩ := h.tb
  obtain ⟨cs, hcs⟩ := h.ts
  obtain ⟨cp, hcp⟩ := h.book.typ
  obtain ⟨cr, hcr⟩ := h.ref.typ
  obtain ⟨ys, hys⟩ := h.book.hs
  obtain ⟨zs, hzs⟩ := h.book.hm
  have no : ∀ {b : Nat} {c : Array Value} {e : TypeId}, w.heap[b]? = some (.cells c e (0, 0)) → e ≠ 64 → e ≠ 90 → ¬ (b = br ∨ (Value.slice la M.length lc).ownBlock = some b) := fun hb h1 h2 hx => by
    rcases hx with e | e
    · exact ne_of_elem hb hcr h1 e
    · obtain ⟨c2, h3⟩ := ownsRow_obj h.ref.row e
      exact ne_of_elem hb h3 h2 rfl
  have hbm : ¬ (bm = br ∨ (Value.slice la M.length lc).ownBlock = some bm) := fun hx => by
    rcases hx with e | e
    · exact h.base.map.mb_ne hcr e.symm
    · obtain ⟨c2, h3⟩ := ownsRow_obj h.ref.row e
      exact h.base.map.mb_ne h3 rfl
  have h00 : ¬ (0 = br ∨ (Value.slice la M.length lc).ownBlock = some 0) := fun hx => by
    have := h.pos
    rcases hx with e | e
    · have := h.lbr; omega
    · have := h.lla 0 e; omega
  have hbp := no hcp (by decide) (by decide)
  refine ⟨hk.cell h.p0 hbp, hk.cell h.p1 hbp, ⟨x4, hk.cell h4 hbp⟩, ⟨x5, hk.cell h5 hbp⟩, h.book.keptS hk hbp (fun g hg => ?_) (fun g hg => ?_), h.base.keptS hk (no hcb (by decide) (by decide)) (no hcs (by decide) (by decide)) hbm h00 (fun e he => ?_), hr,
    ⟨cb, (hk.block _ (Array.getElem?_eq_some_iff.1 hcb).1 (no hcb (by decide) (by decide))).trans hcb⟩, ⟨cs, (hk.block _ (Array.getElem?_eq_some_iff.1 hcs).1 (no hcs (by decide) (by decide))).trans hcs⟩, ⟨h.am.1, ham⟩, h.old.trans (hk.toBelow h.old.size (fun k e => ?_)), h.pos, h.lbp, h.lbm, h.lbr, hl, h.lns, h.lnm, h.d1, h.d8, h.c60⟩
  · obtain ⟨c, hc⟩ := ownsRow_obj hys hg
    exact no hc (by decide) (by decide)
  · obtain ⟨c, hc⟩ := ownsRow_obj hzs hg
    exact no hc (by decide) (by decide)
  · obtain ⟨c, hc⟩ := (h.base.map.pts e he).obj
    exact no hc (by decide) (by decide)
  · rcases e with e | e
    · rw [e]; exact h.lbr
    · exact h.lla k e
/-- The fields 'last' and 'put' are written. -/
theorem PairAt.field (h : PairAt W0 w bp bb bs bm br dim cap la lc nsv nmv nn L M) {o : Nat} (u : Value) (ho : (o = 4 ∧ ∃ x, u = .int .i64 x) ∨ (o = 5 ∧ ∃ x, u = .bool x)) : PairAt W0 (w.setCell ⟨bp, o, none⟩ u) bp bb bs bm br dim cap la lc nsv nmv nn L M := by
  obtain ⟨x4, h4⟩ := h.p4
  obtain ⟨x5, h5⟩ := h.p5
  obtain ⟨cb, hcb⟩ := h.tb
  obtain ⟨cs, hcs⟩ := h.ts
  obtain ⟨cp, hcp⟩ := h.book.typ
  obtain ⟨cr, hcr⟩ := h.ref.typ
  have hk : Kept (fun k => k = bp) w (w.setCell ⟨bp, o, none⟩ u) := (Kept.refl (fun k => k = bp) w).setCell (p := ⟨bp, o, none⟩) (fun _ => rfl) _
  have ne : ∀ {b : Nat} {c : Array Value} {e : TypeId}, w.heap[b]? = some (.cells c e (0, 0)) → e ≠ 41 → b ≠ bp := fun hb h1 => ne_of_elem hb hcp h1
  have far : ∀ k, k ≠ o → (w.setCell ⟨bp, o, none⟩ u).cell? ⟨bp, k, none⟩ = w.cell? ⟨bp, k, none⟩ := fun k hk => World.cell?_setCell_other _ _ _ _ (by simp <;> omega)
  have hpos := h.pos
  have hlbp := h.lbp
  refine ⟨(far 0 (by omega)).trans h.p0, (far 1 (by omega)).trans h.p1, ?_, ?_, h.book.setF (by omega) u, h.base.keptS hk (ne hcb (by decide)) (ne hcs (by decide)) (fun e => h.base.map.mb_ne hcp e.symm) (by omega) (fun e he => ?_), h.ref.keptS hk (ne hcr (by decide)) (fun g hg => ?_) (fun e he => ?_),
    ⟨cb, (hk.block _ (Array.getElem?_eq_some_iff.1 hcb).1 (ne hcb (by decide))).trans hcb⟩, ⟨cs, (hk.block _ (Array.getElem?_eq_some_iff.1 hcs).1 (ne hcs (by decide))).trans hcs⟩, h.am, h.old.trans (hk.toBelow h.old.size (fun k e => by rw [e]; exact h.lbp)), h.pos, h.lbp, h.lbm, h.lbr, h.lla, h.lns, h.lnm, h.d1, h.d8, h.c60⟩
  · rcases ho with ⟨rfl, x, rfl⟩ | ⟨rfl, _⟩
    · exact ⟨x, World.cell?_setCell_same _ _ _ h4⟩
    · exact ⟨x4, (far 4 (by omega)).trans h4⟩
  · rcases ho with ⟨rfl, _⟩ | ⟨rfl, x, rfl⟩
    · exact ⟨x5, (far 5 (by omega)).trans h5⟩
    · exact ⟨x, World.cell?_setCell_same _ _ _ h5⟩
  · obtain ⟨c, hc⟩ := (h.base.map.pts e he).obj
    exact ne hc (by decide)
  · obtain ⟨c, hc⟩ := ownsRow_obj h.ref.row hg
    exact ne hc (by decide)
  · obtain ⟨c, hc⟩ := (h.ref.pts e he).obj
    exact ne hc (by decide)
end
end Go.Proofs.YtgilnaheedmmfaaDoor
