import Derived.Test.YtpkiefjanmfgfaaGreatDoorGra15
namespace Go.Proofs.YtpkiefjanmfgfaaGreatDoor
open Go.RowKit Go.Maps

theorem BookAt.ins {w : World} {bp : Nat} {nsv nmv lv : Value} {nn n : Nat} {xs : List Value} (h : BookAt w bp nsv nmv nn) (hl : w.ownsRow 0 3 1 lv n xs) (ha : ∀ g, lv.ownBlock = some g → nmv.ownBlock ≠ some g) : InS w bp lv nsv nmv w lv n nsv nn nmv nn :=
  ⟨h.typ, fun _ _ _ hv => hv, h.c6, h.c7, h.c8, h.c9, ⟨xs, hl⟩, h.hs, h.hm, ha, fun _ hg => .inl hg, fun _ hg => .inl hg, fun _ hg => .inl hg, Kept.refl _ _⟩
theorem InS.bookAt {w0 w : World} {bp : Nat} {lv0 nsv0 nmv0 lv nsv nmv : Value} {nl nn : Nat} (h : InS w0 bp lv0 nsv0 nmv0 w lv nl nsv nn nmv nn) : BookAt w bp nsv nmv nn := ⟨h.typ, h.c6, h.c7, h.c8, h.c9, h.hs, h.hm⟩

theorem ints_of_pts {w : World} {A c : Nat} {xs ys : List Int} (h : Pts w A c (xs ++ ys)) (hm : xs.length ≤ 17592186044416) (c' : Nat) (hc : xs.length ≤ c') : IntsAt w (.slice (some ⟨A, 0, none⟩) xs.length c') xs := by
  refine ⟨_, _, rfl, hc, hm, .inr ⟨A, 0, rfl, fun i hi => ?_⟩⟩
  have := h.cell i (by simp; omega)
  simpa [List.getD_eq_getElem?_getD, List.getElem?_append_left hi] using this

theorem PairAt.ints {W0 w w' : World} {bp bb bs bm br : Nat} {cf : Cf} {gn : Net} {la : Option Addr} {lc : Nat} {nsv nmv nsv' nmv' lv lv' : Value} {nn n' : Nat} {L M : List Ent} (h : PairAt W0 w bp bb bs bm br cf gn la lc nsv nmv nn L M)
    (hA : ∀ g, lv.ownBlock = some g → W0.heap.size ≤ g ∧ g ≠ bb ∧ g ≠ bs ∧ g ≠ bm ∧ g ≠ br ∧ (∀ e ∈ L, g ≠ e.mb) ∧ (∀ e ∈ M, g ≠ e.rb) ∧ (∀ b, (Value.slice la M.length lc).ownBlock = some b → g ≠ b) ∧ ¬ gn.F g ∧ ¬ gn.ex.own g)
    (hs : InS w bp lv nsv nmv w' lv' n' nsv' (nn + 4) nmv' (nn + 4)) : PairAt W0 w' bp bb bs bm br cf gn la lc nsv' nmv' (nn + 4) L M := by
  obtain ⟨x4, h4⟩ := h.p4
  obtain ⟨x5, h5⟩ := h.p5
  obtain ⟨cb, hcb⟩ := h.tb
  obtain ⟨cs, hcs⟩ := h.ts
  obtain ⟨cp, hcp⟩ := h.book.typ
  obtain ⟨cr, hcr⟩ := h.ref.typ
  obtain ⟨ys, hys⟩ := h.book.hs
  obtain ⟨zs, hzs⟩ := h.book.hm
  have hk := hs.kept
  have nsne : ∀ {b : Nat} {c : Array Value} {e : TypeId}, w.heap[b]? = some (.cells c e (0, 0)) → e ≠ 32 → nsv.ownBlock ≠ some b := fun hb he e' => by
    obtain ⟨c2, h2⟩ := ownsRow_obj hys e'
    exact ne_of_elem hb h2 he rfl
  have nmne : ∀ {b : Nat} {c : Array Value} {e : TypeId}, w.heap[b]? = some (.cells c e (0, 0)) → e ≠ 3 → nmv.ownBlock ≠ some b := fun hb he e' => by
    obtain ⟨c2, h2⟩ := ownsRow_obj hzs e'
    exact ne_of_elem hb h2 he rfl
  have no : ∀ {b : Nat} {c : Array Value} {e : TypeId}, w.heap[b]? = some (.cells c e (0, 0)) → e ≠ 41 → e ≠ 32 → e ≠ 3 → lv.ownBlock ≠ some b → ¬ (b = bp ∨ lv.ownBlock = some b ∨ nsv.ownBlock = some b ∨ nmv.ownBlock = some b) := fun hb h1 h2 h3 h4 hx => by
    rcases hx with e | e | e | e
    · subst e; rw [hb] at hcp; simp at hcp; exact h1 hcp.2
    · exact h4 e
    · exact nsne hb h2 e
    · exact nmne hb h3 e
  have noPm : ∀ e ∈ L, ¬ (e.mb = bp ∨ lv.ownBlock = some e.mb ∨ nsv.ownBlock = some e.mb ∨ nmv.ownBlock = some e.mb) := fun e he hx => by
    obtain ⟨c, hc⟩ := (h.base.map.pts e he).obj
    rcases hx with e1 | e1 | e1 | e1
    · exact ne_of_elem hc hcp (by decide) e1
    · exact (hA _ e1).2.2.2.2.2.1 e he rfl
    · exact nsne hc (by decide) e1
    · exact h.am.1 e he e1
  have noPr : ∀ e ∈ M, ¬ (e.rb = bp ∨ lv.ownBlock = some e.rb ∨ nsv.ownBlock = some e.rb ∨ nmv.ownBlock = some e.rb) := fun e he hx => by
    obtain ⟨c, hc⟩ := (h.ref.pts e he).obj
    rcases hx with e1 | e1 | e1 | e1
    · exact ne_of_elem hc hcp (by decide) e1
    · exact (hA _ e1).2.2.2.2.2.2.1 e he rfl
    · exact nsne hc (by decide) e1
    · exact h.am.2 e he e1
  have hbm : ¬ (bm = bp ∨ lv.ownBlock = some bm ∨ nsv.ownBlock = some bm ∨ nmv.ownBlock = some bm) := fun hx => by
    rcases hx with e1 | e1 | e1 | e1
    · exact h.base.map.mb_ne hcp e1.symm
    · exact (hA bm e1).2.2.2.1 rfl
    · obtain ⟨c2, h2⟩ := ownsRow_obj hys e1; exact h.base.map.mb_ne h2 rfl
    · obtain ⟨c2, h2⟩ := ownsRow_obj hzs e1; exact h.base.map.mb_ne h2 rfl
  have h00 : ¬ (0 = bp ∨ lv.ownBlock = some 0 ∨ nsv.ownBlock = some 0 ∨ nmv.ownBlock = some 0) := fun hx => by
    have := h.pos
    rcases hx with e1 | e1 | e1 | e1
    · have := h.lbp; omega
    · have := (hA 0 e1).1; omega
    · have := h.lns 0 e1; omega
    · have := h.lnm 0 e1; omega
  have hbb := no hcb (by decide) (by decide) (by decide) (fun e => (hA bb e).2.1 rfl)
  have hbs := no hcs (by decide) (by decide) (by decide) (fun e => (hA bs e).2.2.1 rfl)
  have hbr := no hcr (by decide) (by decide) (by decide) (fun e => (hA br e).2.2.2.2.1 rfl)
  have hla : ∀ g, (Value.slice la M.length lc).ownBlock = some g → ¬ (g = bp ∨ lv.ownBlock = some g ∨ nsv.ownBlock = some g ∨ nmv.ownBlock = some g) := fun g hg => by
    obtain ⟨c, hc⟩ := ownsRow_obj h.ref.row hg
    exact no hc (by decide) (by decide) (by decide) (fun e => (hA g e).2.2.2.2.2.2.2.1 g hg rfl)
  have hFF : ∀ k, gn.F k → ¬ (k = bp ∨ lv.ownBlock = some k ∨ nsv.ownBlock = some k ∨ nmv.ownBlock = some k) := fun k hf hx => by
    obtain ⟨_, q1, _, q2, q3, _⟩ := h.pf k hf
    rcases hx with e | e | e | e
    · exact q1 e
    · exact (hA k e).2.2.2.2.2.2.2.2.1 hf
    · exact q2 e
    · exact q3 e
  have hold : Below W0.heap.size w w' := hk.toBelow h.old.size fun k hk => by
    rcases hk with e | e | e | e
    · rw [e]; exact h.lbp
    · exact (hA k e).1
    · exact h.lns k e
    · exact h.lnm k e
  refine ⟨hs.low 0 _ (by omega) h.p0, hs.low 1 _ (by omega) h.p1, hs.low 2 _ (by omega) h.p2, hs.low 3 _ (by omega) h.p3, ⟨x4, hs.low 4 _ (by omega) h4⟩, ⟨x5, hs.low 5 _ (by omega) h5⟩, hs.bookAt, h.base.keptS hk hbb hbs hbm h00 noPm hFF, h.ref.keptS hk hbr hla noPr,
    ⟨cb, (hk.block _ (Array.getElem?_eq_some_iff.1 hcb).1 hbb).trans hcb⟩, ⟨cs, (hk.block _ (Array.getElem?_eq_some_iff.1 hcs).1 hbs).trans hcs⟩, ?_, h.old.trans hold, h.pos, h.lbp, h.lbb, h.lbm, h.lbr, h.lla, ?_, ?_, ?_, ?_, ?_, ?_⟩
  · refine ⟨fun e he e1 => ?_, fun e he e1 => ?_⟩
    · have hm1 := ((h.base.map.pts e he).lt e.mb rfl).2
      rcases hs.lm _ e1 with h1 | h1
      · exact h.am.1 e he h1
      · omega
    · have hm2 := ((h.ref.pts e he).lt e.rb rfl).2
      rcases hs.lm _ e1 with h1 | h1
      · exact h.am.2 e he h1
      · omega
  · intro g hg
    rcases hs.ls g hg with h1 | h1
    · exact h.lns g h1
    · exact Nat.le_trans h.old.size h1
  · intro g hg
    rcases hs.lm g hg with h1 | h1
    · exact h.lnm g h1
    · exact Nat.le_trans h.old.size h1
  · intro k hf
    obtain ⟨q0, q1, q2, q3, q4, q5, q6⟩ := h.pf k hf
    have hlt := (h.base.foot k hf).1
    exact ⟨q0, q1, q2, fun e => (hs.ls k e).elim q3 (fun e => by omega), fun e => (hs.lm k e).elim q4 (fun e => by omega), q5, q6⟩
  · refine h.x.rows hk (fun k hx e => ?_) (fun o v ho hv => hs.low o v (.inr ho) hv)
    rcases e with e | e | e | e
    · exact (h.xa k hx).p e
    · exact (hA k e).2.2.2.2.2.2.2.2.2 hx
    · exact (h.xa k hx).ns e
    · exact (h.xa k hx).nm e
  · intro k hx
    have hlt := h.x.lt hx
    have q := h.xa k hx
    exact ⟨q.old, q.p, q.b, q.s, q.m, q.r, fun e => (hs.ls k e).elim q.ns (fun e => by omega), fun e => (hs.lm k e).elim q.nm (fun e => by omega), q.l, q.mb, q.rb, q.f⟩
  · have q := h.xn
    omega

section
variable {W0 w w' : World} {bp bb bs bm br : Nat} {cf : Cf} {gn : Net} {la : Option Addr} {lc : Nat} {nsv nmv : Value} {nn : Nat} {L M : List Ent} {A : Nat}
theorem PairAt.apart (h : PairAt W0 w bp bb bs bm br cf gn la lc nsv nmv nn L M) (hA : w.heap.size ≤ A) : Apart W0 A bp bb bs bm br gn la lc nsv nmv L M := by
  obtain ⟨cb, hcb⟩ := h.tb
  obtain ⟨cs, hcs⟩ := h.ts
  obtain ⟨ys, hys⟩ := h.book.hs
  obtain ⟨zs, hzs⟩ := h.book.hm
  have h1 := h.book.lt
  have h2 := (Array.getElem?_eq_some_iff.1 hcb).1
  have h3 := (Array.getElem?_eq_some_iff.1 hcs).1
  have h4 := h.base.map.lt
  have h5 := h.ref.lt
  exact ⟨⟨Nat.le_trans h.old.size hA, by omega, by omega, by omega, by omega, by omega, fun e => by have := (hys.lt A e).2; omega, fun e => by have := (hzs.lt A e).2; omega, fun e => by have := (h.ref.row.lt A e).2; omega, fun e he => by have := h.base.map.plt e he; omega, fun e he => (by have := ((h.ref.pts e he).lt e.rb rfl).2; omega), fun e => by have := (h.base.foot A e).1; omega⟩, fun e => by have := h.x.lt e; omega⟩
theorem Apart.ins (h : Apart W0 A bp bb bs bm br gn la lc nsv nmv L M) (x : Ent) (hx : A ≠ x.mb) : Apart W0 A bp bb bs bm br gn la lc nsv nmv (insE x L) M :=
  ⟨⟨h.old, h.p, h.b, h.s, h.m, h.r, h.ns, h.nm, h.l, fun e he => by
    rcases mem_insE he with rfl | he
    · exact hx
    · exact h.mb e he, h.rb, h.f⟩, h.x⟩
theorem PairAt.one (h : PairAt W0 w bp bb bs bm br cf gn la lc nsv nmv nn L M) (hA : Apart W0 A bp bb bs bm br gn la lc nsv nmv L M) (hk : Kept (fun k => k = A) w w') : PairAt W0 w' bp bb bs bm br cf gn la lc nsv nmv nn L M := by
  obtain ⟨x4, h4⟩ := h.p4
  obtain ⟨x5, h5⟩ := h.p5
  obtain ⟨cb, hcb⟩ := h.tb
  obtain ⟨cs, hcs⟩ := h.ts
  have h0 := h.pos
  have hold := hA.old
  refine ⟨hk.cell h.p0 hA.p.symm, hk.cell h.p1 hA.p.symm, hk.cell h.p2 hA.p.symm, hk.cell h.p3 hA.p.symm, ⟨x4, hk.cell h4 hA.p.symm⟩, ⟨x5, hk.cell h5 hA.p.symm⟩, h.book.keptS hk hA.p.symm (fun g hg e => hA.ns (by rw [hg, e])) (fun g hg e => hA.nm (by rw [hg, e])), h.base.keptS hk hA.b.symm hA.s.symm hA.m.symm (by omega) (fun e he => (hA.mb e he).symm) (fun k hf e => hA.f (e ▸ hf)), h.ref.keptS hk hA.r.symm (fun g hg e => hA.l (by rw [hg, e])) (fun e he => (hA.rb e he).symm),
    ⟨cb, (hk.block _ (Array.getElem?_eq_some_iff.1 hcb).1 hA.b.symm).trans hcb⟩, ⟨cs, (hk.block _ (Array.getElem?_eq_some_iff.1 hcs).1 hA.s.symm).trans hcs⟩, h.am, h.old.trans (hk.toBelow h.old.size (fun k e => by rw [e]; exact hold)), h.pos, h.lbp, h.lbb, h.lbm, h.lbr, h.lla, h.lns, h.lnm, h.pf, h.x.keptS hk hA.p.symm (fun k hx e => hA.x (e ▸ hx)), h.xa, h.xn⟩
theorem PairAt.ints' {nsv' nmv' lv' : Value} {n n' c : Nat} (h : PairAt W0 w bp bb bs bm br cf gn la lc nsv nmv nn L M) (hA : Apart W0 A bp bb bs bm br gn la lc nsv nmv L M) (hs : InS w bp (.slice (some ⟨A, 0, none⟩) n c) nsv nmv w' lv' n' nsv' (nn + 4) nmv' (nn + 4)) : PairAt W0 w' bp bb bs bm br cf gn la lc nsv' nmv' (nn + 4) L M :=
  h.ints (fun g hg => by
    obtain rfl : A = g := by simpa [Value.ownBlock] using hg
    exact ⟨hA.old, hA.b, hA.s, hA.m, hA.r, hA.mb, hA.rb, fun b hb e => hA.l (by rw [hb, e]), hA.f, hA.x⟩) hs
theorem PairAt.intsN {nsv' nmv' lv' : Value} {n' : Nat} (h : PairAt W0 w bp bb bs bm br cf gn la lc nsv nmv nn L M) (hs : InS w bp (.slice none 0 0) nsv nmv w' lv' n' nsv' (nn + 4) nmv' (nn + 4)) : PairAt W0 w' bp bb bs bm br cf gn la lc nsv' nmv' (nn + 4) L M :=
  h.ints (fun g hg => by cases hg) hs

theorem PairAt.refTurned {la' : Option Addr} {lc' : Nat} {M' : List Ent} (h : PairAt W0 w bp bb bs bm br cf gn la lc nsv nmv nn L M) (hk : Kept (fun k => k = br ∨ (Value.slice la M.length lc).ownBlock = some k) w w') (hr : RefAt w' br cf la' lc' M') (hl : ∀ g, (Value.slice la' M'.length lc').ownBlock = some g → W0.heap.size ≤ g) (ham : ∀ e ∈ M', nmv.ownBlock ≠ some e.rb) (hpf : ∀ k, gn.F k → (Value.slice la' M'.length lc').ownBlock ≠ some k ∧ ∀ e ∈ M', k ≠ e.rb) (hxa : ∀ k, k < w.heap.size → gn.ex.own k → (Value.slice la' M'.length lc').ownBlock ≠ some k ∧ ∀ e ∈ M', k ≠ e.rb) :
    PairAt W0 w' bp bb bs bm br cf gn la' lc' nsv nmv nn L M' := by
  obtain ⟨x4, h4⟩ := h.p4
  obtain ⟨x5, h5⟩ := h.p5
  obtain ⟨cb, hcb⟩ := h.tb
  obtain ⟨cs, hcs⟩ := h.ts
  obtain ⟨cp, hcp⟩ := h.book.typ
  obtain ⟨cr, hcr⟩ := h.ref.typ
  obtain ⟨ys, hys⟩ := h.book.hs
  obtain ⟨zs, hzs⟩ := h.book.hm
  have no : ∀ {b : Nat} {c : Array Value} {e : TypeId}, w.heap[b]? = some (.cells c e (0, 0)) → e ≠ 92 → e ≠ 135 → ¬ (b = br ∨ (Value.slice la M.length lc).ownBlock = some b) := fun hb h1 h2 hx => by
    rcases hx with e | e
    · exact ne_of_elem hb hcr h1 e
    · obtain ⟨c2, h3⟩ := ownsRow_obj h.ref.row e
      exact ne_of_elem hb h3 h2 rfl
  have hbm : ¬ (bm = br ∨ (Value.slice la M.length lc).ownBlock = some bm) := fun hx => by
    rcases hx with e | e
    · exact h.base.map.mb_ne hcr e.symm
    · obtain ⟨c2, h3⟩ := ownsRow_obj h.ref.row e
      exact h.base.map.mb_ne h3 rfl
  have h00 : ¬ (0 = br ∨ (Value.slice la M.length lc).ownBlock = some 0) := fun hx => by
    have := h.pos
    rcases hx with e | e
    · have := h.lbr; omega
    · have := h.lla 0 e; omega
  have hbp := no hcp (by decide) (by decide)
  refine ⟨hk.cell h.p0 hbp, hk.cell h.p1 hbp, hk.cell h.p2 hbp, hk.cell h.p3 hbp, ⟨x4, hk.cell h4 hbp⟩, ⟨x5, hk.cell h5 hbp⟩, h.book.keptS hk hbp (fun g hg => ?_) (fun g hg => ?_), h.base.keptS hk (no hcb (by decide) (by decide)) (no hcs (by decide) (by decide)) hbm h00 (fun e he => ?_) (fun k hf e => e.elim (h.pf k hf).2.2.1 (h.pf k hf).2.2.2.2.2.1), hr,
    ⟨cb, (hk.block _ (Array.getElem?_eq_some_iff.1 hcb).1 (no hcb (by decide) (by decide))).trans hcb⟩, ⟨cs, (hk.block _ (Array.getElem?_eq_some_iff.1 hcs).1 (no hcs (by decide) (by decide))).trans hcs⟩, ⟨h.am.1, ham⟩, h.old.trans (hk.toBelow h.old.size (fun k e => ?_)), h.pos, h.lbp, h.lbb, h.lbm, h.lbr, hl, h.lns, h.lnm, fun k hf => ⟨(h.pf k hf).1, (h.pf k hf).2.1, (h.pf k hf).2.2.1, (h.pf k hf).2.2.2.1, (h.pf k hf).2.2.2.2.1, (hpf k hf).1, (hpf k hf).2⟩, h.x.keptS hk hbp (fun k hx e => e.elim (h.xa k hx).r (h.xa k hx).l), fun k hx => ?_, h.xn⟩
  · obtain ⟨c, hc⟩ := ownsRow_obj hys hg
    exact no hc (by decide) (by decide)
  · obtain ⟨c, hc⟩ := ownsRow_obj hzs hg
    exact no hc (by decide) (by decide)
  · obtain ⟨c, hc⟩ := (h.base.map.pts e he).obj
    exact no hc (by decide) (by decide)
  · rcases e with e | e
    · rw [e]; exact h.lbr
    · exact h.lla k e
  · have q := h.xa k hx
    have q2 := hxa k (h.x.lt hx) hx
    exact ⟨q.old, q.p, q.b, q.s, q.m, q.r, q.ns, q.nm, q2.1, q.mb, q2.2, q.f⟩
theorem PairAt.field4 (h : PairAt W0 w bp bb bs bm br cf gn la lc nsv nmv nn L M) (x : Int) : PairAt W0 (w.setCell ⟨bp, 4, none⟩ (.int .i64 x)) bp bb bs bm br cf { gn with lst := x } la lc nsv nmv nn L M := by
  obtain ⟨x4, h4⟩ := h.p4
  obtain ⟨x5, h5⟩ := h.p5
  obtain ⟨cb, hcb⟩ := h.tb
  obtain ⟨cs, hcs⟩ := h.ts
  obtain ⟨cp, hcp⟩ := h.book.typ
  obtain ⟨cr, hcr⟩ := h.ref.typ
  have hk : Kept (fun k => k = bp) w (w.setCell ⟨bp, 4, none⟩ (.int .i64 x)) := (Kept.refl (fun k => k = bp) w).setCell (p := ⟨bp, 4, none⟩) (fun _ => rfl) _
  have ne : ∀ {b : Nat} {c : Array Value} {e : TypeId}, w.heap[b]? = some (.cells c e (0, 0)) → e ≠ 41 → b ≠ bp := fun hb h1 => ne_of_elem hb hcp h1
  have far : ∀ k, k ≠ 4 → (w.setCell ⟨bp, 4, none⟩ (.int .i64 x)).cell? ⟨bp, k, none⟩ = w.cell? ⟨bp, k, none⟩ := fun k hk => World.cell?_setCell_other _ _ _ _ (by simp <;> omega)
  have hpos := h.pos
  have hlbp := h.lbp
  have hB := h.base.keptS hk (ne hcb (by decide)) (ne hcs (by decide)) (fun e => h.base.map.mb_ne hcp e.symm) (by omega) (fun e he => by obtain ⟨c, hc⟩ := (h.base.map.pts e he).obj; exact ne hc (by decide)) (fun k hf => (h.pf k hf).2.1)
  refine ⟨(far 0 (by omega)).trans h.p0, (far 1 (by omega)).trans h.p1, (far 2 (by omega)).trans h.p2, (far 3 (by omega)).trans h.p3, ⟨⟨x, rfl⟩, World.cell?_setCell_same _ _ _ h4⟩, ⟨x5, (far 5 (by omega)).trans h5⟩, h.book.setF (by omega) _, ⟨hB.b0, hB.b2, hB.b3, hB.b4, hB.b5, hB.b6, hB.b7, hB.b8, hB.s0, hB.s1, hB.map, hB.hdl, hB.g, hB.ok, hB.lv, hB.few, hB.ints, hB.len, hB.crd, hB.drw, hB.foot, hB.cfok⟩, h.ref.keptS hk (ne hcr (by decide)) (fun g hg => ?_) (fun e he => ?_),
    ⟨cb, (hk.block _ (Array.getElem?_eq_some_iff.1 hcb).1 (ne hcb (by decide))).trans hcb⟩, ⟨cs, (hk.block _ (Array.getElem?_eq_some_iff.1 hcs).1 (ne hcs (by decide))).trans hcs⟩, h.am, h.old.trans (hk.toBelow h.old.size (fun k e => by rw [e]; exact h.lbp)), h.pos, h.lbp, h.lbb, h.lbm, h.lbr, h.lla, h.lns, h.lnm, h.pf, h.x.rows hk (fun k hx => (h.xa k hx).p) (fun o v ho hv => (far o (by omega)).trans hv), fun k hx => ?_, h.xn⟩
  · obtain ⟨c, hc⟩ := ownsRow_obj h.ref.row hg
    exact ne hc (by decide)
  · obtain ⟨c, hc⟩ := (h.ref.pts e he).obj
    exact ne hc (by decide)
  · have q := h.xa k hx
    exact ⟨q.old, q.p, q.b, q.s, q.m, q.r, q.ns, q.nm, q.l, q.mb, q.rb, q.f⟩
theorem PairAt.field5 (h : PairAt W0 w bp bb bs bm br cf gn la lc nsv nmv nn L M) (x : Bool) : PairAt W0 (w.setCell ⟨bp, 5, none⟩ (.bool x)) bp bb bs bm br cf { gn with pt := x } la lc nsv nmv nn L M := by
  obtain ⟨x4, h4⟩ := h.p4
  obtain ⟨x5, h5⟩ := h.p5
  obtain ⟨cb, hcb⟩ := h.tb
  obtain ⟨cs, hcs⟩ := h.ts
  obtain ⟨cp, hcp⟩ := h.book.typ
  obtain ⟨cr, hcr⟩ := h.ref.typ
  have hk : Kept (fun k => k = bp) w (w.setCell ⟨bp, 5, none⟩ (.bool x)) := (Kept.refl (fun k => k = bp) w).setCell (p := ⟨bp, 5, none⟩) (fun _ => rfl) _
  have ne : ∀ {b : Nat} {c : Array Value} {e : TypeId}, w.heap[b]? = some (.cells c e (0, 0)) → e ≠ 41 → b ≠ bp := fun hb h1 => ne_of_elem hb hcp h1
  have far : ∀ k, k ≠ 5 → (w.setCell ⟨bp, 5, none⟩ (.bool x)).cell? ⟨bp, k, none⟩ = w.cell? ⟨bp, k, none⟩ := fun k hk => World.cell?_setCell_other _ _ _ _ (by simp <;> omega)
  have hpos := h.pos
  have hlbp := h.lbp
  have hB := h.base.keptS hk (ne hcb (by decide)) (ne hcs (by decide)) (fun e => h.base.map.mb_ne hcp e.symm) (by omega) (fun e he => by obtain ⟨c, hc⟩ := (h.base.map.pts e he).obj; exact ne hc (by decide)) (fun k hf => (h.pf k hf).2.1)
  refine ⟨(far 0 (by omega)).trans h.p0, (far 1 (by omega)).trans h.p1, (far 2 (by omega)).trans h.p2, (far 3 (by omega)).trans h.p3, ⟨x4, (far 4 (by omega)).trans h4⟩, ⟨⟨x, rfl⟩, World.cell?_setCell_same _ _ _ h5⟩, h.book.setF (by omega) _, ⟨hB.b0, hB.b2, hB.b3, hB.b4, hB.b5, hB.b6, hB.b7, hB.b8, hB.s0, hB.s1, hB.map, hB.hdl, hB.g, hB.ok, hB.lv, hB.few, hB.ints, hB.len, hB.crd, hB.drw, hB.foot, hB.cfok⟩, h.ref.keptS hk (ne hcr (by decide)) (fun g hg => ?_) (fun e he => ?_),
    ⟨cb, (hk.block _ (Array.getElem?_eq_some_iff.1 hcb).1 (ne hcb (by decide))).trans hcb⟩, ⟨cs, (hk.block _ (Array.getElem?_eq_some_iff.1 hcs).1 (ne hcs (by decide))).trans hcs⟩, h.am, h.old.trans (hk.toBelow h.old.size (fun k e => by rw [e]; exact h.lbp)), h.pos, h.lbp, h.lbb, h.lbm, h.lbr, h.lla, h.lns, h.lnm, h.pf, h.x.rows hk (fun k hx => (h.xa k hx).p) (fun o v ho hv => (far o (by omega)).trans hv), fun k hx => ?_, h.xn⟩
  · obtain ⟨c, hc⟩ := ownsRow_obj h.ref.row hg
    exact ne hc (by decide)
  · obtain ⟨c, hc⟩ := (h.ref.pts e he).obj
    exact ne hc (by decide)
  · have q := h.xa k hx
    exact ⟨q.old, q.p, q.b, q.s, q.m, q.r, q.ns, q.nm, q.l, q.mb, q.rb, q.f⟩
end
end Go.Proofs.YtpkiefjanmfgfaaGreatDoor
namespace Go.Proofs.YtpkiefjanmfgfaaGreatDoor
open Go.RowKit Go.Maps

theorem opS {w : World} {X bp o : Nat} {q pv fv : Value} {kd id kk be t0 t1 draw : Int} (hX : w.heap[X]? = some (.cells #[.int .i64 kd, .int .i64 id, .int .i64 kk, .int .i64 be, pv, .int .i64 t0, .int .i64 t1, .int .u64 draw, fv] 49 (0, 0))) (p0 : w.cell? ⟨bp, o, none⟩ = some q) :
    w.cell? ⟨bp, o, none⟩ = some q ∧ w.cell? ⟨X, 1, none⟩ = some (.int .i64 id) ∧ w.cell? ⟨X, 4, none⟩ = some pv ∧ w.cell? ⟨X, 5, none⟩ = some (.int .i64 t0) ∧ w.cell? ⟨X, 6, none⟩ = some (.int .i64 t1) ∧ w.cell? ⟨X, 7, none⟩ = some (.int .u64 draw) :=
  ⟨p0, by simp [World.cell?, hX], by simp [World.cell?, hX], by simp [World.cell?, hX], by simp [World.cell?, hX], by simp [World.cell?, hX]⟩

theorem pts_prefix {w : World} {A c : Nat} {xs ys : List Int} (h : Pts w A c (xs ++ ys)) {i : Nat} (hi : i < xs.length) : w.cell? ⟨A, 0 + i, none⟩ = some (.int .i64 (xs.getD i 0)) := by
  have := h.cell i (by simp; omega)
  simpa [List.getD_eq_getElem?_getD, List.getElem?_append_left hi] using this

theorem puts_two {W0 w w' : World} {bp bb bs bm br X A c : Nat} {cf : Cf} {gn : Net} {la : Option Addr} {lc : Nat} {nsv nmv : Value} {nn : Nat} {L M : List Ent} {cs : Array Value} {ys : List Int} (h : PairAt W0 w bp bb bs bm br cf gn la lc nsv nmv nn L M) (hX : w.heap[X]? = some (.cells cs 49 (0, 0))) (hp : Pts w A c ys) (hkd : Kept (fun k => k = bm ∨ gn.F k) w.drew w') (hXF : ¬ gn.F X) (hAF : ¬ gn.F A) :
    Kept (fun k => k = bm ∨ gn.F k) w w' ∧ w'.heap[X]? = some (.cells cs 49 (0, 0)) ∧ Pts w' A c ys := by
  have hk : Kept (fun k => k = bm ∨ gn.F k) w w' := (Kept.refl _ w).drew.trans hkd (fun _ _ h => h)
  refine ⟨hk, (hk.block X (Array.getElem?_eq_some_iff.1 hX).1 (fun e => e.elim (h.base.map.mb_ne hX) hXF)).trans hX, ownsRow_kept hp hk fun g hg => ?_⟩
  obtain ⟨cu, hcu⟩ := ownsRow_obj hp hg
  obtain rfl : A = g := by simpa [Value.ownBlock] using hg
  exact fun e => e.elim (h.base.map.mb_ne hcu) hAF

theorem nm_lt {W0 w : World} {bp bb bs bm br : Nat} {cf : Cf} {gn : Net} {la : Option Addr} {lc : Nat} {nsv nmv : Value} {nn : Nat} {L M : List Ent} (h : PairAt W0 w bp bb bs bm br cf gn la lc nsv nmv nn L M) {b : Nat} (e : nmv.ownBlock = some b) : b < w.heap.size := by
  obtain ⟨xs, hx⟩ := h.book.hm
  exact (hx.lt b e).2
theorem PairAt.pfNew {W0 w : World} {bp bb bs bm br : Nat} {cf : Cf} {gn gn' : Net} {la : Option Addr} {lc : Nat} {nsv nmv : Value} {nn : Nat} {L M : List Ent} (h : PairAt W0 w bp bb bs bm br cf gn la lc nsv nmv nn L M) (hf : ∀ k, gn'.F k → gn.F k ∨ w.heap.size ≤ k) :
    ∀ k, gn'.F k → W0.heap.size ≤ k ∧ k ≠ bp ∧ k ≠ br ∧ nsv.ownBlock ≠ some k ∧ nmv.ownBlock ≠ some k ∧ (Value.slice la M.length lc).ownBlock ≠ some k ∧ ∀ e ∈ M, k ≠ e.rb := by
  intro k hk
  rcases hf k hk with e | e
  · exact h.pf k e
  · have hA := h.apart (A := k) e
    exact ⟨hA.old, hA.p, hA.r, hA.ns, hA.nm, hA.l, hA.rb⟩
theorem puts_base {W0 w w' : World} {bp bb bs bm br g gc : Nat} {cf : Cf} {gn gn' : Net} {id t0 t1 draw : Int} {la : Option Addr} {lc : Nat} {nsv nmv : Value} {nn : Nat} {L M : List Ent} {xs : List Int} (h : PairAt W0 w bp bb bs bm br cf gn la lc nsv nmv nn L M) (hk : Kept (fun k => k = bm ∨ gn.F k) w w') (hB : ∀ rb rc, BaseAt w' bb bs bm cf gn' (insE ⟨id, xs, t0, t1, draw, g, gc, rb, rc⟩ L)) (hg : ∀ b, nmv.ownBlock = some b → b ≠ g) (hf : ∀ k, gn'.F k → gn.F k ∨ w.heap.size ≤ k) (hlk : gn.like gn') (hg2 : w.heap.size ≤ g) :
    ∀ rb rc, PairAt W0 w' bp bb bs bm br cf gn' la lc nsv nmv nn (insE ⟨id, xs, t0, t1, draw, g, gc, rb, rc⟩ L) M := by
  intro rb rc
  obtain ⟨p0, p1, p2, p3, p4, p5, bk, rf, tb, ts, old, hx⟩ := h.turned hk
  obtain ⟨l1, l2, l3, l4, l5⟩ := hlk
  refine ⟨p0, p1, l3 ▸ p2, l3 ▸ p3, (by rw [l4]; exact p4), (by rw [l5]; exact p5), bk, hB rb rc, rf, tb, ts, ⟨fun e he e1 => ?_, h.am.2⟩, old, h.pos, h.lbp, h.lbb, h.lbm, h.lbr, h.lla, h.lns, h.lnm, h.pfNew hf, l2 ▸ hx, fun k hk => ?_, ?_⟩
  · rcases mem_insE he with rfl | he
    · exact hg _ e1 rfl
    · exact h.am.1 e he e1
  · rw [l2] at hk
    have q := h.xa k hk
    have hlt := h.x.lt hk
    exact ⟨q.old, q.p, q.b, q.s, q.m, q.r, q.ns, q.nm, q.l, fun e he => (by
      rcases mem_insE he with rfl | he
      · show k ≠ g
        omega
      · exact q.mb e he), q.rb, fun e => (hf k e).elim q.f (fun e => by omega)⟩
  · rw [l2]; exact h.xn

def StepOk (W0 : World) (bp bb bs bm br : Nat) (cf : Cf) (nn : Nat) (w' : World) : Prop :=
  ∃ la lc nsv nmv nn' L gn, nn' ≤ nn + 4 ∧ PairAt W0 w' bp bb bs bm br cf gn la lc nsv nmv nn' L L ∧ Lk gn nn'

theorem Apart.net {W0 : World} {A bp bb bs bm br : Nat} {gn gn' : Net} {la : Option Addr} {lc : Nat} {nsv nmv : Value} {L M : List Ent} (h : Apart W0 A bp bb bs bm br gn la lc nsv nmv L M) (hf : ¬ gn'.F A) (hlk : gn.like gn') : Apart W0 A bp bb bs bm br gn' la lc nsv nmv L M :=
  ⟨⟨h.old, h.p, h.b, h.s, h.m, h.r, h.ns, h.nm, h.l, h.mb, h.rb, hf⟩, fun e => h.x (hlk.2.1 ▸ e)⟩
section
variable {W0 w w1 w2 w3 w4 w5 : World} {bp bb bs bm br g gc n : Nat} {cf : Cf} {gn gn' : Net} {id t0 t1 draw : Int} {la : Option Addr} {lc : Nat} {nsv nmv nsv' nmv' lv' : Value} {nn n' : Nat} {L : List Ent} {cs : Array Value} {xs ys : List Int}
theorem puts_three (h : PairAt W0 w bp bb bs bm br cf gn la lc nsv nmv nn L L) (h2 : ∀ rb rc, PairAt W0 w2 bp bb bs bm br cf gn' la lc nsv nmv nn (insE ⟨id, xs, t0, t1, draw, g, gc, rb, rc⟩ L) L) (hX : w2.heap[w.heap.size]? = some (.cells cs 49 (0, 0))) (hk : Kept (fun k => k = w.heap.size + 1) w2 w3) (hf : ¬ gn'.F (w.heap.size + 1)) (hlk : gn.like gn') (hg : w.heap.size + 1 ≠ g) (hyl : ys.length = n + 2) (hpy : Pts w3 (w.heap.size + 1) (n + 2) ys) :
    w3.heap[w.heap.size]? = some (.cells cs 49 (0, 0)) ∧ (∀ rb rc, PairAt W0 w3 bp bb bs bm br cf gn' la lc nsv nmv nn (insE ⟨id, xs, t0, t1, draw, g, gc, rb, rc⟩ L) L) ∧ InS w3 bp (.slice (some ⟨w.heap.size + 1, 0, none⟩) (n + 2) (n + 2)) nsv nmv w3 (.slice (some ⟨w.heap.size + 1, 0, none⟩) (n + 2) (n + 2)) (n + 2) nsv nn nmv nn := by
  have hA := (h.apart (A := w.heap.size + 1) (by omega)).net hf hlk
  have h3 : ∀ rb rc, PairAt W0 w3 bp bb bs bm br cf gn' la lc nsv nmv nn (insE ⟨id, xs, t0, t1, draw, g, gc, rb, rc⟩ L) L := fun rb rc => (h2 rb rc).one (hA.ins _ hg) hk
  refine ⟨(hk.block _ (Array.getElem?_eq_some_iff.1 hX).1 (by omega)).trans hX, h3, ?_⟩
  have hp : w3.ownsRow 0 3 1 (.slice (some ⟨w.heap.size + 1, 0, none⟩) (n + 2) (n + 2)) (n + 2) (ys.map (Value.int .i64)) := hyl ▸ hpy
  exact (h3 0 0).book.ins hp fun g' hg' e => hA.nm (by rw [e, ← hg']; rfl)
theorem puts_four (h : PairAt W0 w bp bb bs bm br cf gn la lc nsv nmv nn L L) (h3 : ∀ rb rc, PairAt W0 w3 bp bb bs bm br cf gn' la lc nsv nmv nn (insE ⟨id, xs, t0, t1, draw, g, gc, rb, rc⟩ L) L) (hX : w3.heap[w.heap.size]? = some (.cells cs 49 (0, 0))) (hg : w.heap.size + 1 ≠ g) (hf : ¬ gn'.F (w.heap.size + 1)) (hlk : gn.like gn') (hs : InS w3 bp (.slice (some ⟨w.heap.size + 1, 0, none⟩) (n + 2) (n + 2)) nsv nmv w4 lv' n' nsv' (nn + 4) nmv' (nn + 4)) :
    w4.heap[w.heap.size]? = some (.cells cs 49 (0, 0)) ∧ ∀ rb rc, PairAt W0 w4 bp bb bs bm br cf gn' la lc nsv' nmv' (nn + 4) (insE ⟨id, xs, t0, t1, draw, g, gc, rb, rc⟩ L) L := by
  have hA := (h.apart (A := w.heap.size + 1) (by omega)).net hf hlk
  have hB := h.apart (A := w.heap.size) (Nat.le_refl _)
  refine ⟨(hs.kept.block _ (Array.getElem?_eq_some_iff.1 hX).1 (fun hx => ?_)).trans hX, fun rb rc => (h3 rb rc).ints' (hA.ins _ hg) hs⟩
  rcases hx with e | e | e | e
  · exact hB.p e
  · simp [Value.ownBlock] at e
  · exact hB.ns e
  · exact hB.nm e
theorem puts_five (h : PairAt W0 w bp bb bs bm br cf gn la lc nsv nmv nn L L) (h4 : ∀ rb rc, PairAt W0 w4 bp bb bs bm br cf gn' la lc nsv' nmv' (nn + 4) (insE ⟨id, xs, t0, t1, draw, g, gc, rb, rc⟩ L) L) (hX : w4.heap[w.heap.size]? = some (.cells cs 49 (0, 0))) (hp : RefPut w4.drew br cf la lc L id t0 t1 draw xs w5) :
    w5.heap[w.heap.size]? = some (.cells cs 49 (0, 0)) ∧ ∃ la' lc' x, PairAt W0 w5 bp bb bs bm br cf gn' la' lc' nsv' nmv' (nn + 4) (insE x L) (insE x L) := by
  obtain ⟨rg, rgc, la', lc', hrg, hR, hkd, hl⟩ := hp
  have hk : Kept (fun k => k = br ∨ (Value.slice la L.length lc).ownBlock = some k) w4 w5 := (Kept.refl _ w4).drew.trans hkd (fun _ _ h => h)
  have hB := h.apart (A := w.heap.size) (Nat.le_refl _)
  refine ⟨(hk.block _ (Array.getElem?_eq_some_iff.1 hX).1 (fun hx => ?_)).trans hX, la', lc', ⟨id, xs, t0, t1, draw, g, gc, rg, rgc⟩, (h4 rg rgc).refTurned hk (hR g gc) (fun b hb => ?_) (fun e he e1 => ?_) (fun k hk => ⟨fun e => ?_, fun e he e1 => ?_⟩) (fun k hlt hk => ⟨fun e => ?_, fun e he e1 => ?_⟩)⟩
  · rcases hx with e | e
    · exact hB.r e
    · exact hB.l e
  · rcases hl _ b hb with e | e
    · exact h.lla b e
    · exact Nat.le_trans (h4 0 0).old.size e
  · rcases mem_insE he with rfl | he
    · have h1 := nm_lt (h4 0 0) e1
      have h2 : w4.heap.size ≤ rg := hrg
      simp at h1
      omega
    · exact (h4 0 0).am.2 e he e1
  · rcases hl _ k e with e | e
    · exact ((h4 0 0).pf k hk).2.2.2.2.2.1 e
    · have := ((h4 0 0).base.foot k hk).1
      have : w4.heap.size ≤ k := e
      omega
  · rcases mem_insE he with rfl | he
    · have := ((h4 0 0).base.foot k hk).1
      have : w4.heap.size ≤ rg := hrg
      simp only at e1
      omega
    · exact ((h4 0 0).pf k hk).2.2.2.2.2.2 e he e1
  · rcases hl _ k e with e | e
    · exact ((h4 0 0).xa k hk).l e
    · have : w4.heap.size ≤ k := e
      omega
  · rcases mem_insE he with rfl | he
    · have : w4.heap.size ≤ rg := hrg
      simp only at e1
      omega
    · exact ((h4 0 0).xa k hk).rb e he e1
end

set_option maxHeartbeats 2000000 in
set_option maxRecDepth 20000 in
theorem puts18_ok (W0 w : World) (bp bb bs bm br : Nat) (cf : Cf) (gn : Net) (la : Option Addr) (lc : Nat) (nsv nmv : Value) (nn : Nat) (L : List Ent) (kd id kk be t0 t1 draw : Int) (xs : List Int) (pa : Option Addr) (pc : Nat) (fv : Value) (hfv : ∃ a n c, fv = .slice a n c)
    (h : PairAt W0 w bp bb bs bm br cf gn la lc nsv nmv nn L L) (hlk : Lk gn nn) (hv : IntsAt W0 (.slice pa xs.length pc) xs) (hid : I64 id) (hn : (xs.length + 6) * 8 ≤ 140737488355328) (hnn : (nn + 4) * 24 ≤ 140737488355328)
    (hdr : 0 ≤ draw ∧ draw < 18446744073709551616) (hcode : ptCode cf.dim xs = 0) (hroom : Room cf.cap id L) :
    Calls Tryz.prog 35 #[.pointer (some ⟨bp, 0, none⟩), .agg #[.int .i64 kd, .int .i64 id, .int .i64 kk, .int .i64 be, .slice pa xs.length pc, .int .i64 t0, .int .i64 t1, .int .u64 draw, fv]] w fun ev w' => ev = .returned (.bool true) ∧ StepOk W0 bp bb bs bm br cf nn w' := by
  obtain ⟨fa, fl, fc, rfl⟩ := hfv
  obtain ⟨dn, rfl⟩ : ∃ dn : Nat, draw = (dn : Int) := ⟨draw.toNat, by omega⟩
  have hdn : dn < 18446744073709551616 := by omega
  clear hdr
  have hlen : (xs.length : Int) = cf.dim := by
    unfold ptCode at hcode
    split at hcode
    · assumption
    · cases hcode
  have h0 : 0 < xs.length := by have := h.base.cfok.d1; omega
  have h8 : xs.length ≤ 8 := by have := h.base.cfok.d8; omega
  have hL : L.length ≤ 60 := h.ref.small
  obtain ⟨b, off, rfl, hcb⟩ : ∃ b off, pa = some ⟨b, off, none⟩ ∧ ∀ i, i < xs.length → W0.cell? ⟨b, off + i, none⟩ = some (.int .i64 (xs.getD i 0)) := by
    obtain ⟨a', c', e', _, _, hx⟩ := hv
    simp only [Value.slice.injEq] at e'
    obtain ⟨rfl, _, rfl⟩ := e'
    rcases hx with rfl | ⟨b, off, rfl, hc⟩
    · simp at h0
    · exact ⟨b, off, rfl, hc⟩
  have HCB := hide hcb
  have hb0 := block_lt_of_cell (hcb 0 h0)
  clear hcb
  have hvw := hv.below h.old
  have hva := hvw.below ((Below.refl _ _).alloc (Nat.le_refl _) (.cells #[.int .i64 kd, .int .i64 id, .int .i64 kk, .int .i64 be, .slice (some ⟨b, off, none⟩) xs.length pc, .int .i64 t0, .int .i64 t1, .int .u64 (dn : Int), .slice fa fl fc] 49))
  have hn2 : (xs.length + 2) * 8 ≤ 140737488355328 := Nat.le_trans (Nat.mul_le_mul_right 8 (by omega)) hn
  have hpl := h.book.lt
  have HXF : Hid (¬ gn.F w.heap.size) := (h.apart (Nat.le_refl _)).f
  have HAF : Hid (¬ gn.F (w.heap.size + 1)) := (h.apart (A := w.heap.size + 1) (by omega)).f
  have H := hide h
  have HV := hide hv
  have HVA := hide hva
  have HC := hide hcode
  have HN := hide hn
  have HN2 := hide hn2
  have HNN := hide hnn
  have HLEN := hide hlen
  clear hvw hva hcode hn hn2 hnn hv h hlen
  go_enter Tryz.func35, Tryz.ntmps35
  go_wp2_with fail
  refine (copied33_any xs (.slice (some ⟨b, off, none⟩) xs.length pc) _ HVA.out HN2.out).mono ?_
  rintro ev w1 ⟨rfl, hp, hb⟩
  have hp1 : Pts w1 (w.heap.size + 1) (xs.length + 2) (xs ++ [77, 78]) := by simpa using hp
  have hX1 : w1.heap[w.heap.size]? = some (.cells #[.int .i64 kd, .int .i64 id, .int .i64 kk, .int .i64 be, .slice (some ⟨b, off, none⟩) xs.length pc, .int .i64 t0, .int .i64 t1, .int .u64 (dn : Int), .slice fa fl fc] 49 (0, 0)) := (hb.block _ (by simp)).trans (heap_alloc_new w _)
  have hbw : Below w.heap.size w w1 := ((Below.refl _ _).alloc (Nat.le_refl _) _).trans (hb.mono (by simp))
  have h1 := H.out.below hbw
  have H1 := hide h1
  have HP1 := hide hp1
  have HX1 := hide hX1
  have HBW := hide hbw
  have hzw : w.heap.size + 1 < w1.heap.size := (hp1.lt (w.heap.size + 1) rfl).2
  have hp0 := h1.p0
  clear hp hb hp1 hX1 hbw h1
  have hS1 := opS HX1.out hp0
  have bz1 : (0 : Int) ≤ (xs.length : Int) := by omega
  have bz2 : (xs.length : Int) ≤ (xs.length : Int) + 2 := by omega
  have HVL : Hid (∀ o, IntsAt (w1.drew.alloc o) (.slice (some ⟨w.heap.size + 1, 0, none⟩) xs.length (xs.length + 2)) xs) := fun o => (ints_of_pts HP1.out (by omega) _ (by omega)).below (((Below.refl _ _).drew).alloc (Nat.le_refl _) o)
  have HCC : Hid (∀ i, i < xs.length → w1.drew.cell? ⟨w.heap.size + 1, 0 + i, none⟩ = some (.int .i64 (xs.getD i 0))) := fun i hi => pts_prefix HP1.out hi
  go_wp2
  go_region_held3 (fun wx => wx.cell? ⟨bp, 0, none⟩ = some (.pointer (some ⟨bb, 0, none⟩)) ∧ wx.cell? ⟨w.heap.size, 1, none⟩ = some (.int .i64 id) ∧ wx.cell? ⟨w.heap.size, 4, none⟩ = some (.slice (some ⟨b, off, none⟩) xs.length pc) ∧ wx.cell? ⟨w.heap.size, 5, none⟩ = some (.int .i64 t0) ∧ wx.cell? ⟨w.heap.size, 6, none⟩ = some (.int .i64 t1) ∧ wx.cell? ⟨w.heap.size, 7, none⟩ = some (.int .u64 (dn : Int)))
    (first | (exact hS1) | (exact hS2))
    (first
      | (go_at_call 21; refine (put13_ok bb bs bm cf gn id t0 t1 dn xs (w.heap.size + 1) 0 (xs.length + 2) L _ hid hdn ?_ HC.out ?_ hroom h0 h8 ?_).mono ?_; (exact H1.out.base.below (Below.refl _ _).drew); (exact HVL.out); (exact HCC.out); rintro ev2 w2 ⟨rfl, g, gc, gn', hg, hB2, hk2d, hf2, hlk2, hlnk⟩; obtain ⟨hk2, hX2, hp2⟩ := puts_two H1.out HX1.out HP1.out hk2d HXF.out HAF.out; have hS2 := opS hX2 (H1.out.turned hk2).1))
  have h2 := puts_base H1.out hk2 hB2 (fun b e => by have h3 := nm_lt H1.out e; have h4 : w1.heap.size ≤ g := hg; omega) (fun k hk => hf2 k hk) hlk2 hg
  have HLK : Hid (gn.like gn') := hlk2
  have HLN : Hid ((∃ t, levOf gn'.lev id = some t) ∧ (1 < gn'.lev.length → gn'.lk (id, 0) ≠ [])) := ⟨⟨_, ((hB2 0 0).lv id).trans (by rw [show id = (⟨id, xs, t0, t1, dn, g, gc, 0, 0⟩ : Ent).id from rfl, findE_ins_self]; rfl)⟩, hlnk⟩
  have HF2 : Hid (¬ gn'.F (w.heap.size + 1)) := fun e => (hf2 _ e).elim HAF.out (fun e => by have : w1.heap.size ≤ w.heap.size + 1 := e; omega)
  clear hf2 hlk2 hlnk
  have HP2 := hide hp2
  have HX2 := hide hX2
  have H2 := hide h2
  have HG := hide hg
  have HB2 := hide hB2
  clear hp2 hX2 h2 hg hB2 hS1 hS2 hk2 hk2d HVL HCC
  go_wp2_with fail
  refine (whole34_any xs (.slice (some ⟨b, off, none⟩) xs.length pc) (w.heap.size + 1) (xs.length + 2) w2 HP2.out ?c1 ?c2).mono ?_
  case c1 => exact HV.out.below (H2.out 0 0).old
  case c2 => exact fun b off n c e hx => by have := HV.out.lt b off n c e hx; have := H.out.old.size; omega
  rintro ev w3 ⟨rfl, ⟨ys, hyl, hpy⟩, hk3⟩
  obtain ⟨hX3, h3, hins⟩ := puts_three (id := id) (t0 := t0) (t1 := t1) (xs := xs) (g := g) (gc := gc) H.out H2.out HX2.out hk3 HF2.out HLK.out (by have : w1.heap.size ≤ g := HG.out; omega) hyl hpy
  have HX3 := hide hX3
  have H3 := hide h3
  have HI := hide hins
  have hbp6 : (⟨bp, 6, none⟩ : Addr) = ⟨bp, 6, none⟩ := rfl
  clear hX3 h3 hins hyl hpy hk3
  go_wp2_with fail
  refine (ints35_any bp (some ⟨w.heap.size + 1, 0, none⟩) (xs.length + 2) (xs.length + 2) nsv nmv nn w3 HI.out HN.out HNN.out).mono ?_
  rintro ev w4 ⟨rfl, lv', nsv', nmv', hs4⟩
  obtain ⟨hX4, h4⟩ := puts_four (id := id) (t0 := t0) (t1 := t1) (xs := xs) (g := g) (gc := gc) H.out H3.out HX3.out (by have : w1.heap.size ≤ g := HG.out; omega) HF2.out HLK.out hs4
  have HX4 := hide hX4
  have H4 := hide h4
  have hp1 := (h4 0 0).p1
  have hS3 := opS hX4 hp1
  have HVL4 : Hid (∀ o, IntsAt (w4.drew.alloc o) (.slice (some ⟨b, off, none⟩) xs.length pc) xs) := fun o => (HV.out.below (h4 0 0).old).below (((Below.refl _ _).drew).alloc (Nat.le_refl _) o)
  have HCC4 : Hid (∀ i, i < xs.length → w4.drew.cell? ⟨b, off + i, none⟩ = some (.int .i64 (xs.getD i 0))) := fun i hi => Below.at (h4 0 0).old (HCB.out i hi) hb0
  clear hX4 h4 hs4 hp0
  go_wp2
  go_region_held3 (fun wx => wx.cell? ⟨bp, 1, none⟩ = some (.pointer (some ⟨br, 0, none⟩)) ∧ wx.cell? ⟨w.heap.size, 1, none⟩ = some (.int .i64 id) ∧ wx.cell? ⟨w.heap.size, 4, none⟩ = some (.slice (some ⟨b, off, none⟩) xs.length pc) ∧ wx.cell? ⟨w.heap.size, 5, none⟩ = some (.int .i64 t0) ∧ wx.cell? ⟨w.heap.size, 6, none⟩ = some (.int .i64 t1) ∧ wx.cell? ⟨w.heap.size, 7, none⟩ = some (.int .u64 (dn : Int)))
    (first | (exact hS3) | (exact hS5))
    (first
      | (go_at_call 71; refine (put36_ok br cf la lc L id t0 t1 dn xs b off pc _ ?_ HC.out ?_ hroom (H.out.base.cfok.c60) h0 h8 ?_).mono ?_; (exact (H4.out 0 0).ref.below (Below.refl _ _).drew); (exact HVL4.out); (exact HCC4.out); rintro ev5 w5 ⟨rfl, hput⟩; obtain ⟨hX5, la5, lc5, x5, h5⟩ := puts_five H.out H4.out HX4.out hput; have hS5 := opS hX5 h5.p1; obtain ⟨y4, hy4⟩ := h5.p4; obtain ⟨y5, hy5⟩ := h5.p5; have hfz := h5.book.frozen; have hb5 := h5.book.lt))
  have H5 := hide h5
  clear h5
  go_wp2
  go_ret
  exact ⟨rfl, _, _, _, _, _, _, _, Nat.le_refl _, (H5.out.field4 id).field5 true, (hlk.put HLK.out HLN.out.1 HLN.out.2).mono (Nat.le_add_right _ _)⟩
end Go.Proofs.YtpkiefjanmfgfaaGreatDoor
namespace Go.Proofs.YtpkiefjanmfgfaaGreatDoor
open Go.RowKit Go.Maps

section
variable {W0 w w2 w3 w4 : World} {bp bb bs bm br n : Nat} {cf : Cf} {gn : Net} {la : Option Addr} {lc : Nat} {nsv nmv nsv' nmv' lv' : Value} {nn n' : Nat} {L : List Ent} {cs : Array Value} {ys : List Int}
theorem puts_threeN (h : PairAt W0 w bp bb bs bm br cf gn la lc nsv nmv nn L L) (h2 : PairAt W0 w2 bp bb bs bm br cf gn la lc nsv nmv nn L L) (hX : w2.heap[w.heap.size]? = some (.cells cs 49 (0, 0))) (hk : Kept (fun k => k = w.heap.size + 1) w2 w3) (hyl : ys.length = n + 2) (hpy : Pts w3 (w.heap.size + 1) (n + 2) ys) :
    w3.heap[w.heap.size]? = some (.cells cs 49 (0, 0)) ∧ PairAt W0 w3 bp bb bs bm br cf gn la lc nsv nmv nn L L ∧ InS w3 bp (.slice (some ⟨w.heap.size + 1, 0, none⟩) (n + 2) (n + 2)) nsv nmv w3 (.slice (some ⟨w.heap.size + 1, 0, none⟩) (n + 2) (n + 2)) (n + 2) nsv nn nmv nn := by
  have hA := h.apart (A := w.heap.size + 1) (by omega)
  have h3 := h2.one hA hk
  refine ⟨(hk.block _ (Array.getElem?_eq_some_iff.1 hX).1 (by omega)).trans hX, h3, ?_⟩
  have hp : w3.ownsRow 0 3 1 (.slice (some ⟨w.heap.size + 1, 0, none⟩) (n + 2) (n + 2)) (n + 2) (ys.map (Value.int .i64)) := hyl ▸ hpy
  exact h3.book.ins hp fun g' hg' e => hA.nm (by rw [e, ← hg']; rfl)
theorem puts_fourN (h : PairAt W0 w bp bb bs bm br cf gn la lc nsv nmv nn L L) (h3 : PairAt W0 w3 bp bb bs bm br cf gn la lc nsv nmv nn L L) (hX : w3.heap[w.heap.size]? = some (.cells cs 49 (0, 0))) (hs : InS w3 bp (.slice (some ⟨w.heap.size + 1, 0, none⟩) (n + 2) (n + 2)) nsv nmv w4 lv' n' nsv' (nn + 4) nmv' (nn + 4)) :
    w4.heap[w.heap.size]? = some (.cells cs 49 (0, 0)) ∧ PairAt W0 w4 bp bb bs bm br cf gn la lc nsv' nmv' (nn + 4) L L := by
  have hA := h.apart (A := w.heap.size + 1) (by omega)
  have hB := h.apart (A := w.heap.size) (Nat.le_refl _)
  refine ⟨(hs.kept.block _ (Array.getElem?_eq_some_iff.1 hX).1 (fun hx => ?_)).trans hX, h3.ints' hA hs⟩
  rcases hx with e | e | e | e
  · exact hB.p e
  · simp [Value.ownBlock] at e
  · exact hB.ns e
  · exact hB.nm e
end

set_option maxHeartbeats 2000000 in
set_option maxRecDepth 20000 in
theorem puts18_no (W0 w : World) (bp bb bs bm br : Nat) (cf : Cf) (gn : Net) (la : Option Addr) (lc : Nat) (nsv nmv : Value) (nn : Nat) (L : List Ent) (kd id kk be t0 t1 draw : Int) (xs : List Int) (pa : Option Addr) (pc : Nat) (fv : Value) (hfv : ∃ a n c, fv = .slice a n c)
    (h : PairAt W0 w bp bb bs bm br cf gn la lc nsv nmv nn L L) (hlk : Lk gn nn) (hv : IntsAt W0 (.slice pa xs.length pc) xs) (_hid : I64 id) (hn : (xs.length + 6) * 8 ≤ 140737488355328) (hnn : (nn + 4) * 24 ≤ 140737488355328)
    (r : Int) (hr0 : (r == 0) = false)
    (hput : ∀ W, BaseAt W bb bs bm cf gn L → (∀ o, IntsAt (W.alloc o) (.slice (some ⟨w.heap.size + 1, 0, none⟩) xs.length (xs.length + 2)) xs) → Calls Tryz.prog 21 #[.pointer (some ⟨bb, 0, none⟩), .int .i64 id, .slice (some ⟨w.heap.size + 1, 0, none⟩) xs.length (xs.length + 2), .agg #[.int .i64 t0, .int .i64 t1], .int .u64 draw] W fun ev w' => ev = .returned (.int .i64 r) ∧ Below W.heap.size W w')
    (href : ∀ W, RefAt W br cf la lc L → (∀ o, IntsAt (W.alloc o) (.slice pa xs.length pc) xs) → Calls Tryz.prog 71 #[.pointer (some ⟨br, 0, none⟩), .int .i64 id, .slice pa xs.length pc, .agg #[.int .i64 t0, .int .i64 t1], .int .u64 draw] W fun ev w' => ev = .returned (.int .i64 r) ∧ Below W.heap.size W w') :
    Calls Tryz.prog 35 #[.pointer (some ⟨bp, 0, none⟩), .agg #[.int .i64 kd, .int .i64 id, .int .i64 kk, .int .i64 be, .slice pa xs.length pc, .int .i64 t0, .int .i64 t1, .int .u64 draw, fv]] w fun ev w' => ev = .returned (.bool true) ∧ StepOk W0 bp bb bs bm br cf nn w' := by
  obtain ⟨fa, fl, fc, rfl⟩ := hfv
  have hxl : xs.length ≤ 17592186044416 := by omega
  have hvw := hv.below h.old
  have hva := hvw.below ((Below.refl _ _).alloc (Nat.le_refl _) (.cells #[.int .i64 kd, .int .i64 id, .int .i64 kk, .int .i64 be, .slice pa xs.length pc, .int .i64 t0, .int .i64 t1, .int .u64 draw, .slice fa fl fc] 49))
  have hn2 : (xs.length + 2) * 8 ≤ 140737488355328 := Nat.le_trans (Nat.mul_le_mul_right 8 (by omega)) hn
  have hpl := h.book.lt
  have H := hide h
  have HV := hide hv
  have HVA := hide hva
  have HPUT := hide hput
  have HREF := hide href
  have HN := hide hn
  have HN2 := hide hn2
  have HNN := hide hnn
  clear hvw hva hn hn2 hnn hv h hput href
  go_enter Tryz.func35, Tryz.ntmps35
  go_wp2_with fail
  refine (copied33_any xs (.slice pa xs.length pc) _ HVA.out HN2.out).mono ?_
  rintro ev w1 ⟨rfl, hp, hb⟩
  have hp1 : Pts w1 (w.heap.size + 1) (xs.length + 2) (xs ++ [77, 78]) := by simpa using hp
  have hX1 : w1.heap[w.heap.size]? = some (.cells #[.int .i64 kd, .int .i64 id, .int .i64 kk, .int .i64 be, .slice pa xs.length pc, .int .i64 t0, .int .i64 t1, .int .u64 draw, .slice fa fl fc] 49 (0, 0)) := (hb.block _ (by simp)).trans (heap_alloc_new w _)
  have hbw : Below w.heap.size w w1 := ((Below.refl _ _).alloc (Nat.le_refl _) _).trans (hb.mono (by simp))
  have h1 := H.out.below hbw
  have H1 := hide h1
  have HP1 := hide hp1
  have HX1 := hide hX1
  have HBW := hide hbw
  have hzw : w.heap.size + 1 < w1.heap.size := (hp1.lt (w.heap.size + 1) rfl).2
  have hp0 := h1.p0
  clear hp hb hp1 hX1 hbw h1
  have hS1 := opS HX1.out hp0
  have bz1 : (0 : Int) ≤ (xs.length : Int) := by omega
  have bz2 : (xs.length : Int) ≤ (xs.length : Int) + 2 := by omega
  have HVL : Hid (∀ o, IntsAt (w1.drew.alloc o) (.slice (some ⟨w.heap.size + 1, 0, none⟩) xs.length (xs.length + 2)) xs) := fun o => (ints_of_pts HP1.out (by omega) _ (by omega)).below (((Below.refl _ _).drew).alloc (Nat.le_refl _) o)
  go_wp2
  go_region_held3 (fun wx => wx.cell? ⟨bp, 0, none⟩ = some (.pointer (some ⟨bb, 0, none⟩)) ∧ wx.cell? ⟨w.heap.size, 1, none⟩ = some (.int .i64 id) ∧ wx.cell? ⟨w.heap.size, 4, none⟩ = some (.slice pa xs.length pc) ∧ wx.cell? ⟨w.heap.size, 5, none⟩ = some (.int .i64 t0) ∧ wx.cell? ⟨w.heap.size, 6, none⟩ = some (.int .i64 t1) ∧ wx.cell? ⟨w.heap.size, 7, none⟩ = some (.int .u64 draw))
    (first | (exact hS1) | (exact hS2))
    (first
      | (go_at_call 21; refine (HPUT.out _ ?_ ?_).mono ?_; (exact H1.out.base.below (Below.refl _ _).drew); (exact HVL.out); rintro ev2 w2 ⟨rfl, hb2d⟩; have hb2 := Below.undrew hb2d; have hX2 : w2.heap[w.heap.size]? = some (.cells #[.int .i64 kd, .int .i64 id, .int .i64 kk, .int .i64 be, .slice pa xs.length pc, .int .i64 t0, .int .i64 t1, .int .u64 draw, .slice fa fl fc] 49 (0, 0)) := (hb2.block _ (by omega)).trans HX1.out; have hS2 := opS hX2 (H1.out.below hb2).p0))
  have H2 := hide (H1.out.below hb2)
  have HP2 := hide (ownsRow_below HP1.out hb2)
  have HX2 := hide hX2
  clear hX2 hS1 hS2 hb2 hb2d HVL
  go_wp2_with fail
  refine (whole34_any xs (.slice pa xs.length pc) (w.heap.size + 1) (xs.length + 2) w2 HP2.out ?c1 ?c2).mono ?_
  case c1 => exact HV.out.below H2.out.old
  case c2 => exact fun b off n c e hx => by have := HV.out.lt b off n c e hx; have := H.out.old.size; omega
  rintro ev w3 ⟨rfl, ⟨ys, hyl, hpy⟩, hk3⟩
  obtain ⟨hX3, h3, hins⟩ := puts_threeN H.out H2.out HX2.out hk3 hyl hpy
  have HX3 := hide hX3
  have H3 := hide h3
  have HI := hide hins
  have hbp6 : (⟨bp, 6, none⟩ : Addr) = ⟨bp, 6, none⟩ := rfl
  clear hX3 h3 hins hyl hpy hk3
  go_wp2_with fail
  refine (ints35_any bp (some ⟨w.heap.size + 1, 0, none⟩) (xs.length + 2) (xs.length + 2) nsv nmv nn w3 HI.out HN.out HNN.out).mono ?_
  rintro ev w4 ⟨rfl, lv', nsv', nmv', hs4⟩
  obtain ⟨hX4, h4⟩ := puts_fourN H.out H3.out HX3.out hs4
  have HX4 := hide hX4
  have H4 := hide h4
  have hp1 := h4.p1
  have hS3 := opS hX4 hp1
  have HVL4 : Hid (∀ o, IntsAt (w4.drew.alloc o) (.slice pa xs.length pc) xs) := fun o => (HV.out.below h4.old).below (((Below.refl _ _).drew).alloc (Nat.le_refl _) o)
  clear hX4 h4 hs4 hp0
  go_wp2
  go_region_held3 (fun wx => wx.cell? ⟨bp, 1, none⟩ = some (.pointer (some ⟨br, 0, none⟩)) ∧ wx.cell? ⟨w.heap.size, 1, none⟩ = some (.int .i64 id) ∧ wx.cell? ⟨w.heap.size, 4, none⟩ = some (.slice pa xs.length pc) ∧ wx.cell? ⟨w.heap.size, 5, none⟩ = some (.int .i64 t0) ∧ wx.cell? ⟨w.heap.size, 6, none⟩ = some (.int .i64 t1) ∧ wx.cell? ⟨w.heap.size, 7, none⟩ = some (.int .u64 draw))
    (first | (exact hS3) | (exact hS5))
    (first
      | (go_at_call 71; refine (HREF.out _ ?_ ?_).mono ?_; (exact H4.out.ref.below (Below.refl _ _).drew); (exact HVL4.out); rintro ev5 w5 ⟨rfl, hb5d⟩; have hb5 := Below.undrew hb5d; have hX5 : w5.heap[w.heap.size]? = some (.cells #[.int .i64 kd, .int .i64 id, .int .i64 kk, .int .i64 be, .slice pa xs.length pc, .int .i64 t0, .int .i64 t1, .int .u64 draw, .slice fa fl fc] 49 (0, 0)) := (hb5.block _ (Array.getElem?_eq_some_iff.1 HX4.out).1).trans HX4.out; have hS5 := opS hX5 (H4.out.below hb5).p1))
  have H5 := hide (H4.out.below hb5)
  clear hb5 hb5d hX5 hS5 hS3
  go_wp2
  go_ret
  exact ⟨rfl, _, _, _, _, _, _, _, Nat.le_refl _, H5.out, hlk.mono (Nat.le_add_right _ _)⟩
end Go.Proofs.YtpkiefjanmfgfaaGreatDoor
namespace Go.Proofs.YtpkiefjanmfgfaaGreatDoor
open Go.RowKit Go.Maps

theorem puts18_any (W0 w : World) (bp bb bs bm br : Nat) (cf : Cf) (gn : Net) (la : Option Addr) (lc : Nat) (nsv nmv : Value) (nn : Nat) (L : List Ent) (kd id kk be t0 t1 draw : Int) (xs : List Int) (pa : Option Addr) (pc : Nat) (fv : Value) (hfv : ∃ a n c, fv = .slice a n c)
    (h : PairAt W0 w bp bb bs bm br cf gn la lc nsv nmv nn L L) (hlk : Lk gn nn) (hv : IntsAt W0 (.slice pa xs.length pc) xs) (hid : I64 id) (hn : (xs.length + 6) * 8 ≤ 140737488355328) (hnn : (nn + 4) * 24 ≤ 140737488355328) (hdr : 0 ≤ draw ∧ draw < 18446744073709551616) :
    Calls Tryz.prog 35 #[.pointer (some ⟨bp, 0, none⟩), .agg #[.int .i64 kd, .int .i64 id, .int .i64 kk, .int .i64 be, .slice pa xs.length pc, .int .i64 t0, .int .i64 t1, .int .u64 draw, fv]] w fun ev w' => ev = .returned (.bool true) ∧ StepOk W0 bp bb bs bm br cf nn w' := by
  by_cases hc : ptCode cf.dim xs = 0
  · cases he : findE id L with
    | some e => exact puts18_ok W0 w bp bb bs bm br cf gn la lc nsv nmv nn L kd id kk be t0 t1 draw xs pa pc fv hfv h hlk hv hid hn hnn hdr hc (.inl (by rw [he]; rfl))
    | none =>
      by_cases hf : cf.cap ≤ L.length
      · exact puts18_no W0 w bp bb bs bm br cf gn la lc nsv nmv nn L kd id kk be t0 t1 draw xs pa pc fv hfv h hlk hv hid hn hnn 4 rfl
          (fun W hB hi => put13_full bb bs bm cf gn id t0 t1 draw xs _ _ _ L W hid hB hc hi he hf)
          (fun W hR hi => put36_full br cf la lc L id t0 t1 draw xs _ W hR hc hi he hf)
      · exact puts18_ok W0 w bp bb bs bm br cf gn la lc nsv nmv nn L kd id kk be t0 t1 draw xs pa pc fv hfv h hlk hv hid hn hnn hdr hc (.inr hf)
  · exact puts18_no W0 w bp bb bs bm br cf gn la lc nsv nmv nn L kd id kk be t0 t1 draw xs pa pc fv hfv h hlk hv hid hn hnn (ptCode cf.dim xs) (by simpa using hc)
      (fun W hB hi => put13_bad bb bs bm cf gn id t0 t1 draw xs _ L W hB _ rfl hc hi)
      (fun W hR hi => put36_bad br cf la lc L id t0 t1 draw xs _ W hR _ rfl (by simpa using hc) hi)
end Go.Proofs.YtpkiefjanmfgfaaGreatDoor
