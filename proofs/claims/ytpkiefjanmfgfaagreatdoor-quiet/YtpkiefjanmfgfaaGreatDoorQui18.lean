import Derived.Test.YtpkiefjanmfgfaaGreatDoorQui06
import Derived.Test.YtpkiefjanmfgfaaGreatDoorQui14
import Derived.Test.YtpkiefjanmfgfaaGreatDoorQui16
import Derived.Test.YtpkiefjanmfgfaaGreatDoorQui17
namespace Go.Proofs.YtpkiefjanmfgfaaGreatDoor
open Go.RowKit Go.Maps

theorem BookAt.ins {w : World} {bp : Nat} {nsv nmv lv : Value} {nn n : Nat} {xs : List Value} (h : BookAt w bp nsv nmv nn) (hl : w.ownsRow 0 3 1 lv n xs) (ha : ∀ g, lv.ownBlock = some g → nmv.ownBlock ≠ some g) : InS w bp lv nsv nmv w lv n nsv nn nmv nn :=
  ⟨h.typ, fun _ _ _ hv => hv, h.c6, h.c7, h.c8, h.c9, ⟨xs, hl⟩, h.hs, h.hm, ha, fun _ hg => .inl hg, fun _ hg => .inl hg, fun _ hg => .inl hg, Kept.refl _ _⟩
theorem InS.bookAt {w0 w : World} {bp : Nat} {lv0 nsv0 nmv0 lv nsv nmv : Value} {nl nn : Nat} (h : InS w0 bp lv0 nsv0 nmv0 w lv nl nsv nn nmv nn) : BookAt w bp nsv nmv nn := ⟨h.typ, h.c6, h.c7, h.c8, h.c9, h.hs, h.hm⟩

theorem ints_of_pts {w : World} {A c : Nat} {xs ys : List Int} (h : Pts w A c (xs ++ ys)) (hm : xs.length ≤ 17592186044416) (c' : Nat) (hc : xs.length ≤ c') : IntsAt w (.slice (some ⟨A, 0, none⟩) xs.length c') xs := by
  refine ⟨_, _, rfl, hc, hm, .inr ⟨A, 0, rfl, fun i hi => ?_⟩⟩
  have := h.cell i (by simp; omega)
  simpa [List.getD_eq_getElem?_getD, List.getElem?_append_left hi] using this

theorem PairAt.ints {W0 w w' : World} {bp bb bs bm br : Nat} {cf : Cf} {gn : Net} {la : Option Addr} {lc : Nat} {nsv nmv nsv' nmv' lv lv' : Value} {nn n' : Nat} {L M : List Ent} (h : PairAt W0 w bp bb bs bm br cf gn la lc nsv nmv nn L M)
    (hA : ∀ g, lv.ownBlock = some g → W0.heap.size ≤ g ∧ g ≠ bb ∧ g ≠ bs ∧ g ≠ bm ∧ g ≠ br ∧ (∀ e ∈ L, g ≠ e.mb) ∧ (∀ e ∈ M, g ≠ e.rb) ∧ (∀ b, (Value.slice la M.length lc).ownBlock = some b → g ≠ b) ∧ ¬ gn.F g ∧ ¬ gn.ex.own g)
    (hs : InS w bp lv nsv nmv w' lv' n' nsv' (nn + 4) nmv' (nn + 4)) : PairAt W0 w' bp bb bs bm br cf gn la lc nsv' nmv' (nn + 4) L M := by
  obtain ⟨x4, h4⟩ := h.p4
  obtain ⟨x5, h5⟩ := h.p5
  obtain ⟨cb, hcb⟩ := h.tb
  obtain ⟨cs, hcs⟩ := h.ts
  obtain ⟨cp, hcp⟩ := h.book.typ
  obtain ⟨cr, hcr⟩ := h.ref.typ
  obtain ⟨ys, hys⟩ := h.book.hs
  obtain ⟨zs, hzs⟩ := h.book.hm
  have hk := hs.kept
  have nsne : ∀ {b : Nat} {c : Array Value} {e : TypeId}, w.heap[b]? = some (.cells c e (0, 0)) → e ≠ 32 → nsv.ownBlock ≠ some b := fun hb he e' => by
    obtain ⟨c2, h2⟩ := ownsRow_obj hys e'
    exact ne_of_elem hb h2 he rfl
  have nmne : ∀ {b : Nat} {c : Array Value} {e : TypeId}, w.heap[b]? = some (.cells c e (0, 0)) → e ≠ 3 → nmv.ownBlock ≠ some b := fun hb he e' => by
    obtain ⟨c2, h2⟩ := ownsRow_obj hzs e'
    exact ne_of_elem hb h2 he rfl
  have no : ∀ {b : Nat} {c : Array Value} {e : TypeId}, w.heap[b]? = some (.cells c e (0, 0)) → e ≠ 41 → e ≠ 32 → e ≠ 3 → lv.ownBlock ≠ some b → ¬ (b = bp ∨ lv.ownBlock = some b ∨ nsv.ownBlock = some b ∨ nmv.ownBlock = some b) := fun hb h1 h2 h3 h4 hx => by
    rcases hx with e | e | e | e
    · subst e; rw [hb] at hcp; simp at hcp; exact h1 hcp.2
    · exact h4 e
    · exact nsne hb h2 e
    · exact nmne hb h3 e
  have noPm : ∀ e ∈ L, ¬ (e.mb = bp ∨ lv.ownBlock = some e.mb ∨ nsv.ownBlock = some e.mb ∨ nmv.ownBlock = some e.mb) := fun e he hx => by
    obtain ⟨c, hc⟩ := (h.base.map.pts e he).obj
    rcases hx with e1 | e1 | e1 | e1
    · exact ne_of_elem hc hcp (by decide) e1
    · exact (hA _ e1).2.2.2.2.2.1 e he rfl
    · exact nsne hc (by decide) e1
    · exact h.am.1 e he e1
  have noPr : ∀ e ∈ M, ¬ (e.rb = bp ∨ lv.ownBlock = some e.rb ∨ nsv.ownBlock = some e.rb ∨ nmv.ownBlock = some e.rb) := fun e he hx => by
    obtain ⟨c, hc⟩ := (h.ref.pts e he).obj
    rcases hx with e1 | e1 | e1 | e1
    · exact ne_of_elem hc hcp (by decide) e1
    · exact (hA _ e1).2.2.2.2.2.2.1 e he rfl
    · exact nsne hc (by decide) e1
    · exact h.am.2 e he e1
  have hbm : ¬ (bm = bp ∨ lv.ownBlock = some bm ∨ nsv.ownBlock = some bm ∨ nmv.ownBlock = some bm) := fun hx => by
    rcases hx with e1 | e1 | e1 | e1
    · exact h.base.map.mb_ne hcp e1.symm
    · exact (hA bm e1).2.2.2.1 rfl
    · obtain ⟨c2, h2⟩ := ownsRow_obj hys e1; exact h.base.map.mb_ne h2 rfl
    · obtain ⟨c2, h2⟩ := ownsRow_obj hzs e1; exact h.base.map.mb_ne h2 rfl
  have h00 : ¬ (0 = bp ∨ lv.ownBlock = some 0 ∨ nsv.ownBlock = some 0 ∨ nmv.ownBlock = some 0) := fun hx => by
    have := h.pos
    rcases hx with e1 | e1 | e1 | e1
    · have := h.lbp; omega
    · have := (hA 0 e1).1; omega
    · have := h.lns 0 e1; omega
    · have := h.lnm 0 e1; omega
  have hbb := no hcb (by decide) (by decide) (by decide) (fun e => (hA bb e).2.1 rfl)
  have hbs := no hcs (by decide) (by decide) (by decide) (fun e => (hA bs e).2.2.1 rfl)
  have hbr := no hcr (by decide) (by decide) (by decide) (fun e => (hA br e).2.2.2.2.1 rfl)
  have hla : ∀ g, (Value.slice la M.length lc).ownBlock = some g → ¬ (g = bp ∨ lv.ownBlock = some g ∨ nsv.ownBlock = some g ∨ nmv.ownBlock = some g) := fun g hg => by
    obtain ⟨c, hc⟩ := ownsRow_obj h.ref.row hg
    exact no hc (by decide) (by decide) (by decide) (fun e => (hA g e).2.2.2.2.2.2.2.1 g hg rfl)
  have hFF : ∀ k, gn.F k → ¬ (k = bp ∨ lv.ownBlock = some k ∨ nsv.ownBlock = some k ∨ nmv.ownBlock = some k) := fun k hf hx => by
    obtain ⟨_, q1, _, q2, q3, _⟩ := h.pf k hf
    rcases hx with e | e | e | e
    · exact q1 e
    · exact (hA k e).2.2.2.2.2.2.2.2.1 hf
    · exact q2 e
    · exact q3 e
  have hold : Below W0.heap.size w w' := hk.toBelow h.old.size fun k hk => by
    rcases hk with e | e | e | e
    · rw [e]; exact h.lbp
    · exact (hA k e).1
    · exact h.lns k e
    · exact h.lnm k e
  refine ⟨hs.low 0 _ (by omega) h.p0, hs.low 1 _ (by omega) h.p1, hs.low 2 _ (by omega) h.p2, hs.low 3 _ (by omega) h.p3, ⟨x4, hs.low 4 _ (by omega) h4⟩, ⟨x5, hs.low 5 _ (by omega) h5⟩, hs.bookAt, h.base.keptS hk hbb hbs hbm h00 noPm hFF, h.ref.keptS hk hbr hla noPr,
    ⟨cb, (hk.block _ (Array.getElem?_eq_some_iff.1 hcb).1 hbb).trans hcb⟩, ⟨cs, (hk.block _ (Array.getElem?_eq_some_iff.1 hcs).1 hbs).trans hcs⟩, ?_, h.old.trans hold, h.pos, h.lbp, h.lbb, h.lbm, h.lbr, h.lla, ?_, ?_, ?_, ?_, ?_, ?_⟩
  · refine ⟨fun e he e1 => ?_, fun e he e1 => ?_⟩
    · have hm1 := ((h.base.map.pts e he).lt e.mb rfl).2
      rcases hs.lm _ e1 with h1 | h1
      · exact h.am.1 e he h1
      · omega
    · have hm2 := ((h.ref.pts e he).lt e.rb rfl).2
      rcases hs.lm _ e1 with h1 | h1
      · exact h.am.2 e he h1
      · omega
  · intro g hg
    rcases hs.ls g hg with h1 | h1
    · exact h.lns g h1
    · exact Nat.le_trans h.old.size h1
  · intro g hg
    rcases hs.lm g hg with h1 | h1
    · exact h.lnm g h1
    · exact Nat.le_trans h.old.size h1
  · intro k hf
    obtain ⟨q0, q1, q2, q3, q4, q5, q6⟩ := h.pf k hf
    have hlt := (h.base.foot k hf).1
    exact ⟨q0, q1, q2, fun e => (hs.ls k e).elim q3 (fun e => by omega), fun e => (hs.lm k e).elim q4 (fun e => by omega), q5, q6⟩
  · refine h.x.rows hk (fun k hx e => ?_) (fun o v ho hv => hs.low o v (.inr ho) hv)
    rcases e with e | e | e | e
    · exact (h.xa k hx).p e
    · exact (hA k e).2.2.2.2.2.2.2.2.2 hx
    · exact (h.xa k hx).ns e
    · exact (h.xa k hx).nm e
  · intro k hx
    have hlt := h.x.lt hx
    have q := h.xa k hx
    exact ⟨q.old, q.p, q.b, q.s, q.m, q.r, fun e => (hs.ls k e).elim q.ns (fun e => by omega), fun e => (hs.lm k e).elim q.nm (fun e => by omega), q.l, q.mb, q.rb, q.f⟩
  · have q := h.xn
    omega

section
variable {W0 w w' : World} {bp bb bs bm br : Nat} {cf : Cf} {gn : Net} {la : Option Addr} {lc : Nat} {nsv nmv : Value} {nn : Nat} {L M : List Ent} {A : Nat}
theorem PairAt.apart (h : PairAt W0 w bp bb bs bm br cf gn la lc nsv nmv nn L M) (hA : w.heap.size ≤ A) : Apart W0 A bp bb bs bm br gn la lc nsv nmv L M := by
  obtain ⟨cb, hcb⟩ := h.tb
  obtain ⟨cs, hcs⟩ := h.ts
  obtain ⟨ys, hys⟩ := h.book.hs
  obtain ⟨zs, hzs⟩ := h.book.hm
  have h1 := h.book.lt
  have h2 := (Array.getElem?_eq_some_iff.1 hcb).1
  have h3 := (Array.getElem?_eq_some_iff.1 hcs).1
  have h4 := h.base.map.lt
  have h5 := h.ref.lt
  exact ⟨⟨Nat.le_trans h.old.size hA, by omega, by omega, by omega, by omega, by omega, fun e => by have := (hys.lt A e).2; omega, fun e => by have := (hzs.lt A e).2; omega, fun e => by have := (h.ref.row.lt A e).2; omega, fun e he => by have := h.base.map.plt e he; omega, fun e he => (by have := ((h.ref.pts e he).lt e.rb rfl).2; omega), fun e => by have := (h.base.foot A e).1; omega⟩, fun e => by have := h.x.lt e; omega⟩
theorem Apart.ins (h : Apart W0 A bp bb bs bm br gn la lc nsv nmv L M) (x : Ent) (hx : A ≠ x.mb) : Apart W0 A bp bb bs bm br gn la lc nsv nmv (insE x L) M :=
  ⟨⟨h.old, h.p, h.b, h.s, h.m, h.r, h.ns, h.nm, h.l, fun e he => by
    rcases mem_insE he with rfl | he
    · exact hx
    · exact h.mb e he, h.rb, h.f⟩, h.x⟩
theorem PairAt.one (h : PairAt W0 w bp bb bs bm br cf gn la lc nsv nmv nn L M) (hA : Apart W0 A bp bb bs bm br gn la lc nsv nmv L M) (hk : Kept (fun k => k = A) w w') : PairAt W0 w' bp bb bs bm br cf gn la lc nsv nmv nn L M := by
  obtain ⟨x4, h4⟩ := h.p4
  obtain ⟨x5, h5⟩ := h.p5
  obtain ⟨cb, hcb⟩ := h.tb
  obtain ⟨cs, hcs⟩ := h.ts
  have h0 := h.pos
  have hold := hA.old
  refine ⟨hk.cell h.p0 hA.p.symm, hk.cell h.p1 hA.p.symm, hk.cell h.p2 hA.p.symm, hk.cell h.p3 hA.p.symm, ⟨x4, hk.cell h4 hA.p.symm⟩, ⟨x5, hk.cell h5 hA.p.symm⟩, h.book.keptS hk hA.p.symm (fun g hg e => hA.ns (by rw [hg, e])) (fun g hg e => hA.nm (by rw [hg, e])), h.base.keptS hk hA.b.symm hA.s.symm hA.m.symm (by omega) (fun e he => (hA.mb e he).symm) (fun k hf e => hA.f (e ▸ hf)), h.ref.keptS hk hA.r.symm (fun g hg e => hA.l (by rw [hg, e])) (fun e he => (hA.rb e he).symm),
    ⟨cb, (hk.block _ (Array.getElem?_eq_some_iff.1 hcb).1 hA.b.symm).trans hcb⟩, ⟨cs, (hk.block _ (Array.getElem?_eq_some_iff.1 hcs).1 hA.s.symm).trans hcs⟩, h.am, h.old.trans (hk.toBelow h.old.size (fun k e => by rw [e]; exact hold)), h.pos, h.lbp, h.lbb, h.lbm, h.lbr, h.lla, h.lns, h.lnm, h.pf, h.x.keptS hk hA.p.symm (fun k hx e => hA.x (e ▸ hx)), h.xa, h.xn⟩
theorem PairAt.ints' {nsv' nmv' lv' : Value} {n n' c : Nat} (h : PairAt W0 w bp bb bs bm br cf gn la lc nsv nmv nn L M) (hA : Apart W0 A bp bb bs bm br gn la lc nsv nmv L M) (hs : InS w bp (.slice (some ⟨A, 0, none⟩) n c) nsv nmv w' lv' n' nsv' (nn + 4) nmv' (nn + 4)) : PairAt W0 w' bp bb bs bm br cf gn la lc nsv' nmv' (nn + 4) L M :=
  h.ints (fun g hg => by
    obtain rfl : A = g := by simpa [Value.ownBlock] using hg
    exact ⟨hA.old, hA.b, hA.s, hA.m, hA.r, hA.mb, hA.rb, fun b hb e => hA.l (by rw [hb, e]), hA.f, hA.x⟩) hs
theorem PairAt.intsN {nsv' nmv' lv' : Value} {n' : Nat} (h : PairAt W0 w bp bb bs bm br cf gn la lc nsv nmv nn L M) (hs : InS w bp (.slice none 0 0) nsv nmv w' lv' n' nsv' (nn + 4) nmv' (nn + 4)) : PairAt W0 w' bp bb bs bm br cf gn la lc nsv' nmv' (nn + 4) L M :=
  h.ints (fun g hg => by cases hg) hs

theorem PairAt.refTurned {la' : Option Addr} {lc' : Nat} {M' : List Ent} (h : PairAt W0 w bp bb bs bm br cf gn la lc nsv nmv nn L M) (hk : Kept (fun k => k = br ∨ (Value.slice la M.length lc).ownBlock = some k) w w') (hr : RefAt w' br cf la' lc' M') (hl : ∀ g, (Value.slice la' M'.length lc').ownBlock = some g → W0.heap.size ≤ g) (ham : ∀ e ∈ M', nmv.ownBlock ≠ some e.rb) (hpf : ∀ k, gn.F k → (Value.slice la' M'.length lc').ownBlock ≠ some k ∧ ∀ e ∈ M', k ≠ e.rb) (hxa : ∀ k, k < w.heap.size → gn.ex.own k → (Value.slice la' M'.length lc').ownBlock ≠ some k ∧ ∀ e ∈ M', k ≠ e.rb) :
    PairAt W0 w' bp bb bs bm br cf gn la' lc' nsv nmv nn L M' := by
  obtain ⟨x4, h4⟩ := h.p4
  obtain ⟨x5, h5⟩ := h.p5
  obtain ⟨cb, hcb⟩ := h.tb
  obtain ⟨cs, hcs⟩ := h.ts
  obtain ⟨cp, hcp⟩ := h.book.typ
  obtain ⟨cr, hcr⟩ := h.ref.typ
  obtain ⟨ys, hys⟩ := h.book.hs
  obtain ⟨zs, hzs⟩ := h.book.hm
  have no : ∀ {b : Nat} {c : Array Value} {e : TypeId}, w.heap[b]? = some (.cells c e (0, 0)) → e ≠ 92 → e ≠ 135 → ¬ (b = br ∨ (Value.slice la M.length lc).ownBlock = some b) := fun hb h1 h2 hx => by
    rcases hx with e | e
    · exact ne_of_elem hb hcr h1 e
    · obtain ⟨c2, h3⟩ := ownsRow_obj h.ref.row e
      exact ne_of_elem hb h3 h2 rfl
  have hbm : ¬ (bm = br ∨ (Value.slice la M.length lc).ownBlock = some bm) := fun hx => by
    rcases hx with e | e
    · exact h.base.map.mb_ne hcr e.symm
    · obtain ⟨c2, h3⟩ := ownsRow_obj h.ref.row e
      exact h.base.map.mb_ne h3 rfl
  have h00 : ¬ (0 = br ∨ (Value.slice la M.length lc).ownBlock = some 0) := fun hx => by
    have := h.pos
    rcases hx with e | e
    · have := h.lbr; omega
    · have := h.lla 0 e; omega
  have hbp := no hcp (by decide) (by decide)
  refine ⟨hk.cell h.p0 hbp, hk.cell h.p1 hbp, hk.cell h.p2 hbp, hk.cell h.p3 hbp, ⟨x4, hk.cell h4 hbp⟩, ⟨x5, hk.cell h5 hbp⟩, h.book.keptS hk hbp (fun g hg => ?_) (fun g hg => ?_), h.base.keptS hk (no hcb (by decide) (by decide)) (no hcs (by decide) (by decide)) hbm h00 (fun e he => ?_) (fun k hf e => e.elim (h.pf k hf).2.2.1 (h.pf k hf).2.2.2.2.2.1), hr,
    ⟨cb, (hk.block _ (Array.getElem?_eq_some_iff.1 hcb).1 (no hcb (by decide) (by decide))).trans hcb⟩, ⟨cs, (hk.block _ (Array.getElem?_eq_some_iff.1 hcs).1 (no hcs (by decide) (by decide))).trans hcs⟩, ⟨h.am.1, ham⟩, h.old.trans (hk.toBelow h.old.size (fun k e => ?_)), h.pos, h.lbp, h.lbb, h.lbm, h.lbr, hl, h.lns, h.lnm, fun k hf => ⟨(h.pf k hf).1, (h.pf k hf).2.1, (h.pf k hf).2.2.1, (h.pf k hf).2.2.2.1, (h.pf k hf).2.2.2.2.1, (hpf k hf).1, (hpf k hf).2⟩, h.x.keptS hk hbp (fun k hx e => e.elim (h.xa k hx).r (h.xa k hx).l), fun k hx => ?_, h.xn⟩
  · obtain ⟨c, hc⟩ := ownsRow_obj hys hg
    exact no hc (by decide) (by decide)
  · obtain ⟨c, hc⟩ := ownsRow_obj hzs hg
    exact no hc (by decide) (by decide)
  · obtain ⟨c, hc⟩ := (h.base.map.pts e he).obj
    exact no hc (by decide) (by decide)
  · rcases e with e | e
    · rw [e]; exact h.lbr
    · exact h.lla k e
  · have q := h.xa k hx
    have q2 := hxa k (h.x.lt hx) hx
    exact ⟨q.old, q.p, q.b, q.s, q.m, q.r, q.ns, q.nm, q2.1, q.mb, q2.2, q.f⟩
theorem PairAt.field4 (h : PairAt W0 w bp bb bs bm br cf gn la lc nsv nmv nn L M) (x : Int) : PairAt W0 (w.setCell ⟨bp, 4, none⟩ (.int .i64 x)) bp bb bs bm br cf { gn with lst := x } la lc nsv nmv nn L M := by
  obtain ⟨x4, h4⟩ := h.p4
  obtain ⟨x5, h5⟩ := h.p5
  obtain ⟨cb, hcb⟩ := h.tb
  obtain ⟨cs, hcs⟩ := h.ts
  obtain ⟨cp, hcp⟩ := h.book.typ
  obtain ⟨cr, hcr⟩ := h.ref.typ
  have hk : Kept (fun k => k = bp) w (w.setCell ⟨bp, 4, none⟩ (.int .i64 x)) := (Kept.refl (fun k => k = bp) w).setCell (p := ⟨bp, 4, none⟩) (fun _ => rfl) _
  have ne : ∀ {b : Nat} {c : Array Value} {e : TypeId}, w.heap[b]? = some (.cells c e (0, 0)) → e ≠ 41 → b ≠ bp := fun hb h1 => ne_of_elem hb hcp h1
  have far : ∀ k, k ≠ 4 → (w.setCell ⟨bp, 4, none⟩ (.int .i64 x)).cell? ⟨bp, k, none⟩ = w.cell? ⟨bp, k, none⟩ := fun k hk => World.cell?_setCell_other _ _ _ _ (by simp <;> omega)
  have hpos := h.pos
  have hlbp := h.lbp
  have hB := h.base.keptS hk (ne hcb (by decide)) (ne hcs (by decide)) (fun e => h.base.map.mb_ne hcp e.symm) (by omega) (fun e he => by obtain ⟨c, hc⟩ := (h.base.map.pts e he).obj; exact ne hc (by decide)) (fun k hf => (h.pf k hf).2.1)
  refine ⟨(far 0 (by omega)).trans h.p0, (far 1 (by omega)).trans h.p1, (far 2 (by omega)).trans h.p2, (far 3 (by omega)).trans h.p3, ⟨⟨x, rfl⟩, World.cell?_setCell_same _ _ _ h4⟩, ⟨x5, (far 5 (by omega)).trans h5⟩, h.book.setF (by omega) _, ⟨hB.b0, hB.b2, hB.b3, hB.b4, hB.b5, hB.b6, hB.b7, hB.b8, hB.s0, hB.s1, hB.map, hB.hdl, hB.g, hB.ok, hB.lv, hB.few, hB.ints, hB.len, hB.crd, hB.drw, hB.foot, hB.cfok⟩, h.ref.keptS hk (ne hcr (by decide)) (fun g hg => ?_) (fun e he => ?_),
    ⟨cb, (hk.block _ (Array.getElem?_eq_some_iff.1 hcb).1 (ne hcb (by decide))).trans hcb⟩, ⟨cs, (hk.block _ (Array.getElem?_eq_some_iff.1 hcs).1 (ne hcs (by decide))).trans hcs⟩, h.am, h.old.trans (hk.toBelow h.old.size (fun k e => by rw [e]; exact h.lbp)), h.pos, h.lbp, h.lbb, h.lbm, h.lbr, h.lla, h.lns, h.lnm, h.pf, h.x.rows hk (fun k hx => (h.xa k hx).p) (fun o v ho hv => (far o (by omega)).trans hv), fun k hx => ?_, h.xn⟩
  · obtain ⟨c, hc⟩ := ownsRow_obj h.ref.row hg
    exact ne hc (by decide)
  · obtain ⟨c, hc⟩ := (h.ref.pts e he).obj
    exact ne hc (by decide)
  · have q := h.xa k hx
    exact ⟨q.old, q.p, q.b, q.s, q.m, q.r, q.ns, q.nm, q.l, q.mb, q.rb, q.f⟩
theorem PairAt.field5 (h : PairAt W0 w bp bb bs bm br cf gn la lc nsv nmv nn L M) (x : Bool) : PairAt W0 (w.setCell ⟨bp, 5, none⟩ (.bool x)) bp bb bs bm br cf { gn with pt := x } la lc nsv nmv nn L M := by
  obtain ⟨x4, h4⟩ := h.p4
  obtain ⟨x5, h5⟩ := h.p5
  obtain ⟨cb, hcb⟩ := h.tb
  obtain ⟨cs, hcs⟩ := h.ts
  obtain ⟨cp, hcp⟩ := h.book.typ
  obtain ⟨cr, hcr⟩ := h.ref.typ
  have hk : Kept (fun k => k = bp) w (w.setCell ⟨bp, 5, none⟩ (.bool x)) := (Kept.refl (fun k => k = bp) w).setCell (p := ⟨bp, 5, none⟩) (fun _ => rfl) _
  have ne : ∀ {b : Nat} {c : Array Value} {e : TypeId}, w.heap[b]? = some (.cells c e (0, 0)) → e ≠ 41 → b ≠ bp := fun hb h1 => ne_of_elem hb hcp h1
  have far : ∀ k, k ≠ 5 → (w.setCell ⟨bp, 5, none⟩ (.bool x)).cell? ⟨bp, k, none⟩ = w.cell? ⟨bp, k, none⟩ := fun k hk => World.cell?_setCell_other _ _ _ _ (by simp <;> omega)
  have hpos := h.pos
  have hlbp := h.lbp
  have hB := h.base.keptS hk (ne hcb (by decide)) (ne hcs (by decide)) (fun e => h.base.map.mb_ne hcp e.symm) (by omega) (fun e he => by obtain ⟨c, hc⟩ := (h.base.map.pts e he).obj; exact ne hc (by decide)) (fun k hf => (h.pf k hf).2.1)
  refine ⟨(far 0 (by omega)).trans h.p0, (far 1 (by omega)).trans h.p1, (far 2 (by omega)).trans h.p2, (far 3 (by omega)).trans h.p3, ⟨x4, (far 4 (by omega)).trans h4⟩, ⟨⟨x, rfl⟩, World.cell?_setCell_same _ _ _ h5⟩, h.book.setF (by omega) _, ⟨hB.b0, hB.b2, hB.b3, hB.b4, hB.b5, hB.b6, hB.b7, hB.b8, hB.s0, hB.s1, hB.map, hB.hdl, hB.g, hB.ok, hB.lv, hB.few, hB.ints, hB.len, hB.crd, hB.drw, hB.foot, hB.cfok⟩, h.ref.keptS hk (ne hcr (by decide)) (fun g hg => ?_) (fun e he => ?_),
    ⟨cb, (hk.block _ (Array.getElem?_eq_some_iff.1 hcb).1 (ne hcb (by decide))).trans hcb⟩, ⟨cs, (hk.block _ (Array.getElem?_eq_some_iff.1 hcs).1 (ne hcs (by decide))).trans hcs⟩, h.am, h.old.trans (hk.toBelow h.old.size (fun k e => by rw [e]; exact h.lbp)), h.pos, h.lbp, h.lbb, h.lbm, h.lbr, h.lla, h.lns, h.lnm, h.pf, h.x.rows hk (fun k hx => (h.xa k hx).p) (fun o v ho hv => (far o (by omega)).trans hv), fun k hx => ?_, h.xn⟩
  · obtain ⟨c, hc⟩ := ownsRow_obj h.ref.row hg
    exact ne hc (by decide)
  · obtain ⟨c, hc⟩ := (h.ref.pts e he).obj
    exact ne hc (by decide)
  · have q := h.xa k hx
    exact ⟨q.old, q.p, q.b, q.s, q.m, q.r, q.ns, q.nm, q.l, q.mb, q.rb, q.f⟩
end
end Go.Proofs.YtpkiefjanmfgfaaGreatDoor
namespace Go.Proofs.YtpkiefjanmfgfaaGreatDoor
open Go.RowKit

theorem info58b : (Tryz.prog.info? 58).map (fun i => (i.zero, i.size, i.bytes)) = some (some (.slice none 0 0), 1, 24) := by kernel_rfl

structure HiS (w0 : World) (bp : Nat) (lv0 nsv0 nmv0 : Value) (X : Nat) (m m' : Int) (w : World) (lv : Value) (nl : Nat) (nsv : Value) (ns : Nat) (nmv : Value) (nm : Nat) : Prop where
  typ : ∃ cs, w.heap[bp]? = some (.cells cs 41 (0, 0))
  low : ∀ o v, o ≠ 7 ∧ o ≠ 10 ∧ o ≠ 11 → w0.cell? ⟨bp, o, none⟩ = some v → w.cell? ⟨bp, o, none⟩ = some v
  c7 : ∃ b, w.cell? ⟨bp, 7, none⟩ = some (.int .i64 b)
  c8 : w.cell? ⟨bp, 10, none⟩ = some nsv
  c9 : w.cell? ⟨bp, 11, none⟩ = some nmv
  hl : ∃ xs, w.ownsRow 0 63 2 lv nl xs
  hs : ∃ xs, w.ownsRow 0 58 1 nsv ns xs
  hm : ∃ xs, w.ownsRow 0 3 1 nmv nm xs
  bx : w.heap[X]? = some (.cells #[.int .i64 m, .int .i64 m'] 63 (0, 0))
  lx : lv.ownBlock ≠ some X
  ll : ∀ g, lv.ownBlock = some g → lv0.ownBlock = some g ∨ w0.heap.size ≤ g
  ls : ∀ g, nsv.ownBlock = some g → nsv0.ownBlock = some g ∨ w0.heap.size ≤ g
  lm : ∀ g, nmv.ownBlock = some g → nmv0.ownBlock = some g ∨ w0.heap.size ≤ g
  kept : Kept (fun k => k = bp ∨ lv0.ownBlock = some k ∨ nsv0.ownBlock = some k ∨ nmv0.ownBlock = some k) w0 w

theorem row_grownN {w w1 : World} {o : Obj} {e sz : Nat} {v : Value} {n : Nat} {xs : List Value} {row : Option Nat} (h : w.ownsRow 0 e sz v n xs) (hg : (w.alloc o).grownBy w1 row) (hne : ∀ g, v.ownBlock = some g → row ≠ some g) : w1.ownsRow 0 e sz v n xs :=
  ownsRow_of_block (h.alloc o) fun g hv => hg.block g ((h.alloc o).lt g hv).2 (fun e => hne g hv e.symm)
theorem blk_grown {w w1 : World} {o b : Obj} {X : Nat} {row : Option Nat} (h : w.heap[X]? = some b) (hg : (w.alloc o).grownBy w1 row) (hne : row ≠ some X) : w1.heap[X]? = some b := by
  have hlt := (Array.getElem?_eq_some_iff.1 h).1
  exact (hg.block X (by simp; omega) (fun e => hne e.symm)).trans ((Below.heap_alloc _ _ _ hlt).trans h)

section
variable {w0 w w1 : World} {bp X : Nat} {m m' : Int} {lv0 nsv0 nmv0 lv nsv nmv v2 : Value} {nl ns nm : Nat} {o : Obj} {xs : List Value}

theorem HiS.frozen (h : HiS w0 bp lv0 nsv0 nmv0 X m m' w lv nl nsv ns nmv nm) (k : Nat) : w.frozen? ⟨bp, k, none⟩ = false := by
  obtain ⟨cs, hc⟩ := h.typ
  simp [World.frozen?, hc]
theorem HiS.lt (h : HiS w0 bp lv0 nsv0 nmv0 X m m' w lv nl nsv ns nmv nm) : bp < w.heap.size := by
  obtain ⟨cs, hc⟩ := h.typ
  exact (Array.getElem?_eq_some_iff.1 hc).1
theorem HiS.ns_ne (h : HiS w0 bp lv0 nsv0 nmv0 X m m' w lv nl nsv ns nmv nm) : some bp ≠ nsv.ownBlock := by
  intro e
  obtain ⟨cs, hc⟩ := h.typ
  obtain ⟨ys, hy⟩ := h.hs
  obtain ⟨c2, h2⟩ := ownsRow_obj hy e.symm
  exact ne_of_elem hc h2 (by decide) rfl
theorem HiS.nm_ne (h : HiS w0 bp lv0 nsv0 nmv0 X m m' w lv nl nsv ns nmv nm) : some bp ≠ nmv.ownBlock := by
  intro e
  obtain ⟨cs, hc⟩ := h.typ
  obtain ⟨ys, hy⟩ := h.hm
  obtain ⟨c2, h2⟩ := ownsRow_obj hy e.symm
  exact ne_of_elem hc h2 (by decide) rfl
theorem HiS.lv_ne (h : HiS w0 bp lv0 nsv0 nmv0 X m m' w lv nl nsv ns nmv nm) : some bp ≠ lv.ownBlock := by
  intro e
  obtain ⟨cs, hc⟩ := h.typ
  obtain ⟨ys, hy⟩ := h.hl
  obtain ⟨c2, h2⟩ := ownsRow_obj hy e.symm
  exact ne_of_elem hc h2 (by decide) rfl
theorem HiS.ns_x (h : HiS w0 bp lv0 nsv0 nmv0 X m m' w lv nl nsv ns nmv nm) : nsv.ownBlock ≠ some X := by
  intro e
  obtain ⟨ys, hy⟩ := h.hs
  obtain ⟨c2, h2⟩ := ownsRow_obj hy e
  exact ne_of_elem h.bx h2 (by decide) rfl
theorem HiS.nm_x (h : HiS w0 bp lv0 nsv0 nmv0 X m m' w lv nl nsv ns nmv nm) : nmv.ownBlock ≠ some X := by
  intro e
  obtain ⟨ys, hy⟩ := h.hm
  obtain ⟨c2, h2⟩ := ownsRow_obj hy e
  exact ne_of_elem h.bx h2 (by decide) rfl
theorem HiS.bp_x (h : HiS w0 bp lv0 nsv0 nmv0 X m m' w lv nl nsv ns nmv nm) : X ≠ bp := by
  obtain ⟨cs, hc⟩ := h.typ
  exact ne_of_elem h.bx hc (by decide)

theorem HiS.stepL (h : HiS w0 bp lv0 nsv0 nmv0 X m m' w lv nl nsv ns nmv nm) (ho : w1.ownsRow 0 63 2 v2 (nl + 1) xs) (hg : (w.alloc o).grownBy w1 lv.ownBlock) (hl : v2.ownBlock = lv.ownBlock ∨ v2.ownBlock = some (w.heap.size + 1)) :
    HiS w0 bp lv0 nsv0 nmv0 X m m' w1 v2 (nl + 1) nsv ns nmv nm := by
  obtain ⟨b7, h7⟩ := h.c7
  obtain ⟨ys, hy⟩ := h.hs
  obtain ⟨zs, hz⟩ := h.hm
  obtain ⟨ls, hls⟩ := h.hl
  have hz0 := h.kept.size
  have hXl := (Array.getElem?_eq_some_iff.1 h.bx).1
  refine ⟨typ_grown h.typ hg h.lv_ne, fun o v ho hv => cell_grown (h.low o v ho hv) hg h.lv_ne, ⟨b7, cell_grown h7 hg h.lv_ne⟩, cell_grown h.c8 hg h.lv_ne, cell_grown h.c9 hg h.lv_ne, ⟨_, ho⟩, ⟨ys, row_grown hy hg ?_⟩, ⟨zs, row_grown hz hg ?_⟩, blk_grown h.bx hg h.lx, ?_, ?_, h.ls, h.lm, ?_⟩
  · intro g hn e
    obtain ⟨c1, h1⟩ := ownsRow_obj hy hn
    obtain ⟨c2, h2⟩ := ownsRow_obj hls e
    exact ne_of_elem h1 h2 (by decide) rfl
  · intro g hn e
    obtain ⟨c1, h1⟩ := ownsRow_obj hz hn
    obtain ⟨c2, h2⟩ := ownsRow_obj hls e
    exact ne_of_elem h1 h2 (by decide) rfl
  · intro hv
    rcases hl with e | e
    · exact h.lx (e ▸ hv)
    · rw [hv] at e
      have := Option.some.inj e
      omega
  · intro g hv
    rcases hl with e | e
    · exact h.ll g (e ▸ hv)
    · rw [hv] at e
      have := Option.some.inj e
      right; omega
  · exact (h.kept.alloc o).grown hg fun k hk hlt => by
      rcases h.ll k hk with e | e
      · exact .inr (.inl e)
      · omega

theorem HiS.stepM (h : HiS w0 bp lv0 nsv0 nmv0 X m m' w lv nl nsv ns nmv nm) (ho : w1.ownsRow 0 3 1 v2 (nm + 1) xs) (hg : (w.alloc o).grownBy w1 nmv.ownBlock) (hl : v2.ownBlock = nmv.ownBlock ∨ v2.ownBlock = some (w.heap.size + 1)) :
    HiS w0 bp lv0 nsv0 nmv0 X m m' (w1.setCell ⟨bp, 11, none⟩ v2) lv nl nsv ns v2 (nm + 1) ∧ w1.cell? ⟨bp, 11, none⟩ = some nmv ∧ w1.frozen? ⟨bp, 11, none⟩ = false := by
  obtain ⟨b7, h7⟩ := h.c7
  obtain ⟨ys, hy⟩ := h.hs
  obtain ⟨zs, hz⟩ := h.hm
  obtain ⟨ls, hls⟩ := h.hl
  have hz0 := h.kept.size
  obtain ⟨cs, hc⟩ := typ_grown h.typ hg h.nm_ne
  have k9 := cell_grown h.c9 hg h.nm_ne
  have rs : ∀ {e sz : Nat} {v : Value} {n : Nat} {l : List Value}, e ≠ 41 → w1.ownsRow 0 e sz v n l → (w1.setCell ⟨bp, 11, none⟩ v2).ownsRow 0 e sz v n l := fun {e sz v n l} he hr => ownsRow_of_block hr fun g hv => Below.heap_setCell _ _ _ _ (by
    obtain ⟨c2, h2⟩ := ownsRow_obj hr hv
    exact (ne_of_elem hc h2 (fun e' => he e'.symm)).symm)
  refine ⟨⟨⟨_, heap_setCell_same _ _ _ _ _ _ hc⟩, fun o v ho hv => (World.cell?_setCell_other _ _ _ _ (by simp <;> omega)).trans (cell_grown (h.low o v ho hv) hg h.nm_ne), ⟨b7, ?_⟩, ?_, World.cell?_setCell_same _ _ _ k9, ⟨ls, rs (by decide) (row_grownN hls hg ?_)⟩, ⟨ys, rs (by decide) (row_grown hy hg ?_)⟩, ⟨_, rs (by decide) ho⟩, ?_, h.lx, h.ll, h.ls, ?_, ?_⟩, k9, by simp [World.frozen?, hc]⟩
  · rw [World.cell?_setCell_other _ _ _ _ (by simp)]; exact cell_grown h7 hg h.nm_ne
  · rw [World.cell?_setCell_other _ _ _ _ (by simp)]; exact cell_grown h.c8 hg h.nm_ne
  · intro g hn e
    obtain ⟨c1, h1⟩ := ownsRow_obj hls hn
    obtain ⟨c2, h2⟩ := ownsRow_obj hz e
    exact ne_of_elem h1 h2 (by decide) rfl
  · intro g hn e
    obtain ⟨c1, h1⟩ := ownsRow_obj hy hn
    obtain ⟨c2, h2⟩ := ownsRow_obj hz e
    exact ne_of_elem h1 h2 (by decide) rfl
  · exact (Below.heap_setCell _ _ _ _ h.bp_x).trans (blk_grown h.bx hg h.nm_x)
  · intro g hv
    rcases hl with e | e
    · exact h.lm g (e ▸ hv)
    · rw [hv] at e
      have := Option.some.inj e
      right; omega
  · refine Kept.setCell ((h.kept.alloc o).grown hg fun k hk hlt => ?_) (fun _ => .inl rfl) _
    rcases h.lm k hk with e | e
    · exact .inr (.inr (.inr e))
    · omega

theorem HiS.stepN (h : HiS w0 bp lv0 nsv0 nmv0 X m m' w lv nl nsv ns nmv nm) (ho : w1.ownsRow 0 58 1 v2 (ns + 1) xs) (hg : (w.alloc o).grownBy w1 nsv.ownBlock) (hl : v2.ownBlock = nsv.ownBlock ∨ v2.ownBlock = some (w.heap.size + 1)) :
    HiS w0 bp lv0 nsv0 nmv0 X m m' (w1.setCell ⟨bp, 10, none⟩ v2) lv nl v2 (ns + 1) nmv nm ∧ w1.cell? ⟨bp, 10, none⟩ = some nsv ∧ w1.cell? ⟨bp, 11, none⟩ = some nmv ∧ w1.frozen? ⟨bp, 10, none⟩ = false := by
  obtain ⟨b7, h7⟩ := h.c7
  obtain ⟨ys, hy⟩ := h.hs
  obtain ⟨zs, hz⟩ := h.hm
  obtain ⟨ls, hls⟩ := h.hl
  have hz0 := h.kept.size
  obtain ⟨cs, hc⟩ := typ_grown h.typ hg h.ns_ne
  have k8 := cell_grown h.c8 hg h.ns_ne
  have rs : ∀ {e sz : Nat} {v : Value} {n : Nat} {l : List Value}, e ≠ 41 → w1.ownsRow 0 e sz v n l → (w1.setCell ⟨bp, 10, none⟩ v2).ownsRow 0 e sz v n l := fun {e sz v n l} he hr => ownsRow_of_block hr fun g hv => Below.heap_setCell _ _ _ _ (by
    obtain ⟨c2, h2⟩ := ownsRow_obj hr hv
    exact (ne_of_elem hc h2 (fun e' => he e'.symm)).symm)
  refine ⟨⟨⟨_, heap_setCell_same _ _ _ _ _ _ hc⟩, fun o v ho hv => (World.cell?_setCell_other _ _ _ _ (by simp <;> omega)).trans (cell_grown (h.low o v ho hv) hg h.ns_ne), ⟨b7, ?_⟩, World.cell?_setCell_same _ _ _ k8, ?_, ⟨ls, rs (by decide) (row_grownN hls hg ?_)⟩, ⟨_, rs (by decide) ho⟩, ⟨zs, rs (by decide) (row_grown hz hg ?_)⟩, ?_, h.lx, h.ll, ?_, h.lm, ?_⟩, k8, cell_grown h.c9 hg h.ns_ne, by simp [World.frozen?, hc]⟩
  · rw [World.cell?_setCell_other _ _ _ _ (by simp)]; exact cell_grown h7 hg h.ns_ne
  · rw [World.cell?_setCell_other _ _ _ _ (by simp)]; exact cell_grown h.c9 hg h.ns_ne
  · intro g hn e
    obtain ⟨c1, h1⟩ := ownsRow_obj hls hn
    obtain ⟨c2, h2⟩ := ownsRow_obj hy e
    exact ne_of_elem h1 h2 (by decide) rfl
  · intro g hn e
    obtain ⟨c1, h1⟩ := ownsRow_obj hz hn
    obtain ⟨c2, h2⟩ := ownsRow_obj hy e
    exact ne_of_elem h1 h2 (by decide) rfl
  · exact (Below.heap_setCell _ _ _ _ h.bp_x).trans (blk_grown h.bx hg h.ns_x)
  · intro g hv
    rcases hl with e | e
    · exact h.ls g (e ▸ hv)
    · rw [hv] at e
      have := Option.some.inj e
      right; omega
  · refine Kept.setCell ((h.kept.alloc o).grown hg fun k hk hlt => ?_) (fun _ => .inl rfl) _
    rcases h.ls k hk with e | e
    · exact .inr (.inr (.inl e))
    · omega

theorem HiS.setL {g n c : Nat} (h : HiS w0 bp lv0 nsv0 nmv0 X m m' w (.slice (some ⟨g, 0, none⟩) n c) n nsv ns nmv nm) (j : Nat) (u : Value) : HiS w0 bp lv0 nsv0 nmv0 X m m' (w.setCell ⟨g, j, none⟩ u) (.slice (some ⟨g, 0, none⟩) n c) n nsv ns nmv nm := by
  obtain ⟨b7, h7⟩ := h.c7
  obtain ⟨ys, hy⟩ := h.hs
  obtain ⟨zs, hz⟩ := h.hm
  obtain ⟨ls, hls⟩ := h.hl
  obtain ⟨cs, hc⟩ := h.typ
  obtain ⟨cl, hcl⟩ := ownsRow_obj hls (g := g) rfl
  have hne : g ≠ bp := ne_of_elem hcl hc (by decide)
  have cl : ∀ {o : Nat} {v : Value}, w.cell? ⟨bp, o, none⟩ = some v → (w.setCell ⟨g, j, none⟩ u).cell? ⟨bp, o, none⟩ = some v := fun hh => by
    rw [World.cell?_setCell_far _ _ _ _ (by exact hne)]; exact hh
  have hgx : X ≠ g := fun e => h.lx (by rw [e]; rfl)
  refine ⟨⟨cs, (Below.heap_setCell _ _ _ _ hne.symm).trans hc⟩, fun o v ho hv => cl (h.low o v ho hv), ⟨b7, cl h7⟩, cl h.c8, cl h.c9, ⟨_, ownsRow_set hls j u⟩, ⟨ys, ownsRow_of_block hy fun g' hv => Below.heap_setCell _ _ _ _ ?_⟩, ⟨zs, ownsRow_of_block hz fun g' hv => Below.heap_setCell _ _ _ _ ?_⟩, (Below.heap_setCell _ _ _ _ hgx).trans h.bx, h.lx, h.ll, h.ls, h.lm, h.kept.setCell (fun hlt => ?_) _⟩
  · obtain ⟨c2, h2⟩ := ownsRow_obj hy hv
    exact ne_of_elem h2 hcl (by decide)
  · obtain ⟨c2, h2⟩ := ownsRow_obj hz hv
    exact ne_of_elem h2 hcl (by decide)
  · rcases h.ll g rfl with e | e
    · exact .inr (.inl e)
    · exact absurd e (by have : g < w0.heap.size := hlt; omega)
end
end Go.Proofs.YtpkiefjanmfgfaaGreatDoor
namespace Go.Proofs.YtpkiefjanmfgfaaGreatDoor
open Go.RowKit

theorem HiS.start {w : World} {bp : Nat} {lv nsv nmv : Value} {n nn : Nat} (typ : ∃ cs, w.heap[bp]? = some (.cells cs 41 (0, 0))) (c7 : ∃ b, w.cell? ⟨bp, 7, none⟩ = some (.int .i64 b)) (c8 : w.cell? ⟨bp, 10, none⟩ = some nsv) (c9 : w.cell? ⟨bp, 11, none⟩ = some nmv) (hl : ∃ xs, w.ownsRow 0 63 2 lv n xs) (hs : ∃ xs, w.ownsRow 0 58 1 nsv nn xs) (hm : ∃ xs, w.ownsRow 0 3 1 nmv nn xs) (nx m m' : Int) (nq : Nat) :
    HiS w bp lv nsv nmv w.heap.size m m' (((w.setCell ⟨bp, 7, none⟩ (.int .i64 nx)).drewN nq).alloc (.cells #[.int .i64 m, .int .i64 m'] 63)) lv n nsv nn nmv nn := by
  obtain ⟨cs, hc⟩ := typ
  obtain ⟨b7, h7⟩ := c7
  obtain ⟨ys, hy⟩ := hs
  obtain ⟨zs, hz⟩ := hm
  obtain ⟨ls, hls⟩ := hl
  have hlt := (Array.getElem?_eq_some_iff.1 hc).1
  have hsz : ((w.setCell ⟨bp, 7, none⟩ (.int .i64 nx)).drewN nq).heap.size = w.heap.size := by simp
  have rs : ∀ {e sz : Nat} {v : Value} {n : Nat} {l : List Value}, e ≠ 41 → w.ownsRow 0 e sz v n l → (((w.setCell ⟨bp, 7, none⟩ (.int .i64 nx)).drewN nq).alloc (.cells #[.int .i64 m, .int .i64 m'] 63)).ownsRow 0 e sz v n l := fun {e sz v n l} he hr => (ownsRow_drewN (ownsRow_of_block hr fun g hv => Below.heap_setCell _ _ _ _ (by
    obtain ⟨c2, h2⟩ := ownsRow_obj hr hv
    exact (ne_of_elem hc h2 (fun e' => he e'.symm)).symm)) nq).alloc _
  have cl : ∀ {k : Nat} {v : Value}, (w.setCell ⟨bp, 7, none⟩ (.int .i64 nx)).cell? ⟨bp, k, none⟩ = some v → (((w.setCell ⟨bp, 7, none⟩ (.int .i64 nx)).drewN nq).alloc (.cells #[.int .i64 m, .int .i64 m'] 63)).cell? ⟨bp, k, none⟩ = some v := fun {k v} hv => by
    have h1 : ((w.setCell ⟨bp, 7, none⟩ (.int .i64 nx)).drewN nq).cell? ⟨bp, k, none⟩ = some v := hv
    rw [World.cell?_alloc_lt _ _ _ (by rw [hsz]; exact hlt)]; exact h1
  refine ⟨⟨_, (Below.heap_alloc _ _ _ (by rw [hsz]; exact hlt)).trans (by rw [heap_drewN]; exact heap_setCell_same _ _ _ _ _ _ hc)⟩, fun o v ho hv => cl ((World.cell?_setCell_other w ⟨bp, 7, none⟩ ⟨bp, o, none⟩ _ (by simp <;> omega)).trans hv), ⟨nx, cl (World.cell?_setCell_same w ⟨bp, 7, none⟩ _ h7)⟩, cl ((World.cell?_setCell_other w ⟨bp, 7, none⟩ ⟨bp, 10, none⟩ _ (by simp)).trans c8), cl ((World.cell?_setCell_other w ⟨bp, 7, none⟩ ⟨bp, 11, none⟩ _ (by simp)).trans c9), ⟨ls, rs (by decide) hls⟩, ⟨ys, rs (by decide) hy⟩, ⟨zs, rs (by decide) hz⟩, ?_, fun e => ?_, fun _ hg => .inl hg, fun _ hg => .inl hg, fun _ hg => .inl hg, ?_⟩
  · have := heap_alloc_new ((w.setCell ⟨bp, 7, none⟩ (.int .i64 nx)).drewN nq) (.cells #[.int .i64 m, .int .i64 m'] 63)
    rwa [hsz] at this
  · have := (hls.lt _ e).2; omega
  · exact (((Kept.refl _ w).setCell (p := ⟨bp, 7, none⟩) (fun _ => .inl rfl) _).drewN nq).alloc _

theorem news_two (w : World) (x y : Value) (t : TypeId) (H0 : Nat) (h : H0 = w.heap.size) : ∀ j u, [x, y][j]? = some u → (w.alloc (.cells #[x, y] t)).cell? ((⟨H0, 0, none⟩ : Addr).add j) = some u := by
  subst h
  exact World.news_of_block (cs := #[x, y]) (t := t) (fr := (0, 0)) (heap_alloc_new _ _)
theorem hd16 (n : Nat) (h : n ≤ 1000) : ∀ q, q < 4 → n + q + 1 ≤ maxLen ∧ (n + q + 1) * 16 ≤ 140737488355328 := by
  intro q hq
  unfold maxLen
  omega

set_option maxHeartbeats 1000000 in
set_option maxRecDepth 10000 in
theorem hits77 (bp : Nat) (a : Option Addr) (n c : Nat) (nsv nmv : Value) (nn : Nat) (w : World) (typ : ∃ cs, w.heap[bp]? = some (.cells cs 41 (0, 0))) (c6 : ∃ b, w.cell? ⟨bp, 6, none⟩ = some (.int .i64 b)) (c7 : ∃ b, w.cell? ⟨bp, 7, none⟩ = some (.int .i64 b)) (c8 : w.cell? ⟨bp, 10, none⟩ = some nsv) (c9 : w.cell? ⟨bp, 11, none⟩ = some nmv) (hl : ∃ xs, w.ownsRow 0 63 2 (.slice a n c) n xs) (hs : ∃ xs, w.ownsRow 0 58 1 nsv nn xs) (hm : ∃ xs, w.ownsRow 0 3 1 nmv nn xs) (hn : n ≤ 1000) (hnn : (nn + 4) * 24 ≤ 140737488355328) :
    Calls Tryz.prog 77 #[.pointer (some ⟨bp, 6, none⟩), .slice a n c] w fun ev w' => ev = .returned (.tuple #[]) ∧ ∃ X m m' lv' nsv' nmv', HiS w bp (.slice a n c) nsv nmv X m m' w' lv' (n + 4) nsv' (nn + 4) nmv' (nn + 4) := by
  have B1 := hide (bd1 nn hnn)
  have B2 := hide (bd2 nn hnn)
  have B3 := hide (hd16 n hn)
  have M1 := hide (md1 nn hnn)
  clear hnn
  obtain ⟨i3, hi3, hz30, hz31, hz32⟩ := info_parts info3
  obtain ⟨i58, hi58, hz580, hz581, hz582⟩ := info_parts info58b
  obtain ⟨i63, hi63, hz630, hz631, hz632⟩ := info_parts info63
  have hst := HiS.start typ c7 c8 c9 hl hs hm
  obtain ⟨b6, h6⟩ := c6
  obtain ⟨b7, h7⟩ := c7
  have h7f : w.frozen? ⟨bp, 7, none⟩ = false := by
    obtain ⟨cs, hc⟩ := typ
    simp [World.frozen?, hc]
  have HST := hide hst
  clear hst typ c8 c9 hl hs hm
  go_enter Tryz.func77, Tryz.ntmps77
  go_wp2_with fail
  refine (mark58_any bp b6 b7 _ h6 h7 h7f).mono ?_
  rintro ev w1 ⟨m, nx, nq, rfl, rfl⟩
  have H1' := HST.out nx m (wrap64 (-m)) nq
  have hsz : ((w.setCell ⟨bp, 7, none⟩ (.int .i64 nx)).drewN nq).heap.size = w.heap.size := by simp
  have H1 := hide H1'
  clear H1' HST h6 h7 h7f
  generalize (w.setCell ⟨bp, 7, none⟩ (.int .i64 nx)).drewN nq = w1 at H1 hsz ⊢
  rw [← hsz] at H1
  clear hsz
  go_wp2
  generalize hwe : w1.alloc (.cells #[.int .i64 m, .int .i64 (wrap64 (-m))] 63) = w2 at H1 ⊢
  generalize w1.heap.size = X at H1 ⊢
  clear hwe
  generalize wrap64 (-m) = m' at H1
  go_loopw [6] (fun i wr => ∃ k : Nat, k ≤ n ∧ i = .int .i64 k ∧ Hid (HiS w bp (.slice a n c) nsv nmv X m m' wr (.slice a n c) n nsv nn nmv nn)) (fun i _ => n - (intOf i).toNat)
  case atStart => exact ⟨0, Nat.zero_le _, rfl, H1⟩
  case round =>
    obtain ⟨k, hk, rfl, hr⟩ := hrel
    have bx0 := cells_at hr.out.bx 0 rfl
    have bx1 := cells_at hr.out.bx 1 rfl
    by_cases hlt : k < n
    · obtain ⟨xs, hxs⟩ := hr.out.hl
      rcases hxs.2 with ⟨_, h0⟩ | ⟨g, cap, cur, hv, _⟩
      · omega
      simp only [Value.slice.injEq] at hv
      obtain ⟨rfl, _, rfl⟩ := hv
      have hxl : xs.length = n * 2 := by simpa using hxs.1
      have hcx : wr.cell? ⟨g, k * 2, none⟩ = some xs[k * 2] := ownsRow_cell hxs (List.getElem?_eq_getElem (by omega))
      have hcy : wr.cell? ⟨g, k * 2 + 1, none⟩ = some xs[k * 2 + 1] := ownsRow_cell hxs (List.getElem?_eq_getElem (by omega))
      have hfx := ownsRow_frozen hxs
      generalize xs[k * 2] = x at hcx
      generalize xs[k * 2 + 1] = y at hcy
      clear hxs hxl
      go_wp2
      exact ⟨⟨k + 1, by omega, by go_num, (hr.out.setL (k * 2) _).setL (k * 2 + 1) _⟩, by simp [intOf]; omega⟩
    · have H2 : Hid (HiS w bp (.slice a n c) nsv nmv X m m' wr (.slice a n c) n nsv nn nmv nn) := hr
      clear hr H1 bx0 bx1
      go_wp2
      go_loopw [1, 7] (fun l i wr => ∃ (k : Nat) (al : Option Addr) (cl : Nat) (nsv' nmv' : Value), k ≤ 4 ∧ i = .int .i64 k ∧ l = .slice al (n + k) cl ∧ Hid (HiS w bp (.slice a n c) nsv nmv X m m' wr (.slice al (n + k) cl) (n + k) nsv' (nn + k) nmv' (nn + k))) (fun _ i _ => 4 - (intOf i).toNat)
      case atStart => exact ⟨0, a, c, nsv, nmv, Nat.zero_le _, rfl, rfl, H2⟩
      case round =>
        clear H2
        obtain ⟨q, al, cl, nsv', nmv', hq, rfl, rfl, hr⟩ := hrel
        by_cases hlt : q < 4
        · have c8 := hr.out.c8
          have hbl := hr.out.lt
          obtain ⟨ls, hls⟩ := hr.out.hl
          obtain ⟨ys, hys⟩ := hr.out.hs
          have HL1 := hide (one_of_row hls)
          have HYS := hide hys
          clear hls hys
          go_upto_region 10 with (at_builtin; refine wpList_append_lies _ rfl _ _ 33 rfl 0 58 i58 (.slice none 0 0) 1 24 Tryz.underlying33 hi58 hz580 hz581 hz582 rfl (by decide) nsv' (nn + q) ys rfl (HYS.out.alloc _) ⟨wr.heap.size, 0, none⟩ 1 1 [.slice al (n + q) cl] rfl rfl (cell_one_new _ _ _) HL1.out (by decide) (M1.out q hlt) (B1.out q hlt) (Nat.zero_le _) (wr.heap.size + 1) (by simp) ?_; intro g1 cap1 w2 ho1 hg1 hl1 hlt1; obtain ⟨hS2, k8, k9, kf⟩ := hr.out.stepN ho1 hg1 (hl1.imp (fun e => e.symm) (fun e => congrArg some e)); obtain ⟨zs, hzs⟩ := hS2.hm; have HS2 := hide hS2; have HZS := hide hzs; clear hS2 hzs ho1 hg1 hl1)
          go_upto_region 11 with (at_builtin; go_must (refine wpList_append_lies _ rfl _ _ 32 rfl 0 3 i3 (.int .i64 0) 1 8 Tryz.underlying32 hi3 hz30 hz31 hz32 rfl (by decide) nmv' (nn + q) zs rfl (HZS.out.alloc _) ⟨w2.heap.size, 0, none⟩ 1 1 [.int .i64 m] rfl rfl (cell_one_new' _ _ _ _ (by simp)) (ints_oneCell .i64 [m]) (by decide) (M1.out q hlt) (B2.out q hlt) (Nat.zero_le _) (w2.heap.size + 1) (by simp) ?_); intro g2 cap2 w3 ho2 hg2 hl2 hlt2; obtain ⟨hS3, m9, mf⟩ := HS2.out.stepM ho2 hg2 (hl2.imp (fun e => e.symm) (fun e => (congrArg some e).trans (by simp))); obtain ⟨ls, hls⟩ := hS3.hl; have HS3 := hide hS3; have HLS := hide hls; clear hS3 hls ho2 hg2 hl2)
          have bx0 := cells_at HS3.out.bx 0 rfl
          have bx1 := cells_at HS3.out.bx 1 rfl
          go_wp2_with (at_builtin; go_must (refine wpList_append_lies _ rfl _ _ 58 rfl 0 63 i63 (.agg #[.int .i64 0, .int .i64 0]) 2 16 Tryz.underlying58 hi63 hz630 hz631 hz632 rfl (by decide) (.slice al (n + q) cl) (n + q) ls rfl (HLS.out.alloc _) ⟨w3.heap.size, 0, none⟩ 1 1 [.int .i64 m, .int .i64 m'] rfl rfl (news_two _ _ _ _ _ (by simp)) (by simp [Value.oneCell']) (by decide) (B3.out q hlt).1 (B3.out q hlt).2 (Nat.zero_le _) (w3.heap.size + 1) (by simp) ?_); intro g3 cap3 w4 ho3 hg3 hl3 hlt3; have HS4 := hide (HS3.out.stepL ho3 hg3 (hl3.imp (fun e => e.symm) (fun e => (congrArg some e).trans (by simp)))))
          refine ⟨⟨q + 1, some ⟨g3, 0, none⟩, cap3, _, _, by omega, by go_num, rfl, HS4⟩, by simp [intOf]; omega⟩
        · obtain rfl : q = 4 := by omega
          go_wp2
          go_end0
          exact ⟨rfl, _, _, _, _, _, _, hr.out⟩
end Go.Proofs.YtpkiefjanmfgfaaGreatDoor
namespace Go.Proofs.YtpkiefjanmfgfaaGreatDoor
open Go.RowKit Go.Maps

theorem ne_type {w : World} {a b : Nat} {c1 c2 : Array Value} {e1 e2 : TypeId} {f1 f2 : Nat × Nat} (h1 : w.heap[a]? = some (.cells c1 e1 f1)) (h2 : w.heap[b]? = some (.cells c2 e2 f2)) (hne : e1 ≠ e2) : a ≠ b := ne_of_elem h1 h2 hne

section
variable {W0 w w' : World} {bp bb bs bm br : Nat} {cf : Cf} {gn : Net} {la : Option Addr} {lc : Nat} {nsv nmv : Value} {nn : Nat} {L M : List Ent}

def Net.hits (gn : Net) (hsv hmv : Value) : Net := { gn with ex := { gn.ex with hsv := hsv, hmv := hmv, nh := gn.ex.nh + 4 } }

theorem PairAt.hits {lv lv' hsv' hmv' : Value} {X n' : Nat} {m m' : Int} (h : PairAt W0 w bp bb bs bm br cf gn la lc nsv nmv nn L M) (hA : ∀ g, lv.ownBlock = some g → Apart W0 g bp bb bs bm br gn la lc nsv nmv L M) (hx : gn.ex.nh + 4 ≤ nn)
    (hs : HiS w bp lv gn.ex.hsv gn.ex.hmv X m m' w' lv' n' hsv' (gn.ex.nh + 4) hmv' (gn.ex.nh + 4)) : PairAt W0 w' bp bb bs bm br cf (gn.hits hsv' hmv') la lc nsv nmv nn L M := by
  obtain ⟨x4, h4⟩ := h.p4
  obtain ⟨x5, h5⟩ := h.p5
  obtain ⟨b6, h6⟩ := h.book.c6
  obtain ⟨cb, hcb⟩ := h.tb
  obtain ⟨cs, hcs⟩ := h.ts
  obtain ⟨ys, hys⟩ := h.book.hs
  obtain ⟨zs, hzs⟩ := h.book.hm
  have hk := hs.kept
  have x1 : ∀ k, gn.ex.hsv.ownBlock = some k → Apt W0 k bp bb bs bm br gn la lc nsv nmv L M := fun k e => h.xa k (.inl e)
  have x2 : ∀ k, gn.ex.hmv.ownBlock = some k → Apt W0 k bp bb bs bm br gn la lc nsv nmv L M := fun k e => h.xa k (.inr (.inl e))
  have no : ∀ {b : Nat}, b ≠ bp → (∀ g, lv.ownBlock = some g → g ≠ b) → (∀ g, gn.ex.hsv.ownBlock = some g → g ≠ b) → (∀ g, gn.ex.hmv.ownBlock = some g → g ≠ b) → ¬ (b = bp ∨ lv.ownBlock = some b ∨ gn.ex.hsv.ownBlock = some b ∨ gn.ex.hmv.ownBlock = some b) := fun h1 h2 h3 h4 hx => by
    rcases hx with e | e | e | e
    · exact h1 e
    · exact h2 _ e rfl
    · exact h3 _ e rfl
    · exact h4 _ e rfl
  obtain ⟨cp, hcp⟩ := h.book.typ
  obtain ⟨cr, hcr⟩ := h.ref.typ
  have hbb := no (b := bb) (ne_type hcb hcp (by decide)) (fun g e => (hA g e).b) (fun g e => (x1 g e).b) (fun g e => (x2 g e).b)
  have hbs := no (b := bs) (ne_type hcs hcp (by decide)) (fun g e => (hA g e).s) (fun g e => (x1 g e).s) (fun g e => (x2 g e).s)
  have hbm := no (b := bm) (fun e => h.base.map.mb_ne hcp e.symm) (fun g e => (hA g e).m) (fun g e => (x1 g e).m) (fun g e => (x2 g e).m)
  have hbr := no (b := br) (ne_type hcr hcp (by decide)) (fun g e => (hA g e).r) (fun g e => (x1 g e).r) (fun g e => (x2 g e).r)
  have hpos := h.pos
  have hlbp := h.lbp
  have h00 := no (b := 0) (by omega) (fun g e => by have := (hA g e).old; omega) (fun g e => by have := (x1 g e).old; omega) (fun g e => by have := (x2 g e).old; omega)
  have noPm : ∀ e ∈ L, ¬ (e.mb = bp ∨ lv.ownBlock = some e.mb ∨ gn.ex.hsv.ownBlock = some e.mb ∨ gn.ex.hmv.ownBlock = some e.mb) := fun e he => by
    obtain ⟨c, hc⟩ := (h.base.map.pts e he).obj
    exact no (ne_type hc hcp (by decide)) (fun g q => (hA g q).mb e he) (fun g q => (x1 g q).mb e he) (fun g q => (x2 g q).mb e he)
  have noPr : ∀ e ∈ M, ¬ (e.rb = bp ∨ lv.ownBlock = some e.rb ∨ gn.ex.hsv.ownBlock = some e.rb ∨ gn.ex.hmv.ownBlock = some e.rb) := fun e he => by
    obtain ⟨c, hc⟩ := (h.ref.pts e he).obj
    exact no (ne_type hc hcp (by decide)) (fun g q => (hA g q).rb e he) (fun g q => (x1 g q).rb e he) (fun g q => (x2 g q).rb e he)
  have noF : ∀ k, gn.F k → ¬ (k = bp ∨ lv.ownBlock = some k ∨ gn.ex.hsv.ownBlock = some k ∨ gn.ex.hmv.ownBlock = some k) := fun k hf => no (h.pf k hf).2.1 (fun g q e => (hA g q).f (e ▸ hf)) (fun g q e => (x1 g q).f (e ▸ hf)) (fun g q e => (x2 g q).f (e ▸ hf))
  have noN : ∀ g, nsv.ownBlock = some g → ¬ (g = bp ∨ lv.ownBlock = some g ∨ gn.ex.hsv.ownBlock = some g ∨ gn.ex.hmv.ownBlock = some g) := fun g hg => by
    obtain ⟨c, hc⟩ := ownsRow_obj hys hg
    exact no (ne_type hc hcp (by decide)) (fun k q e => (hA k q).ns (e ▸ hg)) (fun k q e => (x1 k q).ns (e ▸ hg)) (fun k q e => (x2 k q).ns (e ▸ hg))
  have noM : ∀ g, nmv.ownBlock = some g → ¬ (g = bp ∨ lv.ownBlock = some g ∨ gn.ex.hsv.ownBlock = some g ∨ gn.ex.hmv.ownBlock = some g) := fun g hg => by
    obtain ⟨c, hc⟩ := ownsRow_obj hzs hg
    exact no (ne_type hc hcp (by decide)) (fun k q e => (hA k q).nm (e ▸ hg)) (fun k q e => (x1 k q).nm (e ▸ hg)) (fun k q e => (x2 k q).nm (e ▸ hg))
  have noL : ∀ g, (Value.slice la M.length lc).ownBlock = some g → ¬ (g = bp ∨ lv.ownBlock = some g ∨ gn.ex.hsv.ownBlock = some g ∨ gn.ex.hmv.ownBlock = some g) := fun g hg => by
    obtain ⟨c, hc⟩ := ownsRow_obj h.ref.row hg
    exact no (ne_type hc hcp (by decide)) (fun k q e => (hA k q).l (e ▸ hg)) (fun k q e => (x1 k q).l (e ▸ hg)) (fun k q e => (x2 k q).l (e ▸ hg))
  have hold : Below W0.heap.size w w' := hk.toBelow h.old.size fun k hk => by
    rcases hk with e | e | e | e
    · rw [e]; exact h.lbp
    · exact (hA k e).old
    · exact (x1 k e).old
    · exact (x2 k e).old
  have hB : BaseAt w' bb bs bm cf (gn.hits hsv' hmv') L := by
    have q := h.base.keptS hk hbb hbs hbm h00 noPm noF
    exact ⟨q.b0, q.b2, q.b3, q.b4, q.b5, q.b6, q.b7, q.b8, q.s0, q.s1, q.map, q.hdl, q.g, q.ok, q.lv, q.few, q.ints, q.len, q.crd, q.drw, q.foot, q.cfok⟩
  have apt : ∀ {k : Nat}, Apt W0 k bp bb bs bm br gn la lc nsv nmv L M → Apt W0 k bp bb bs bm br (gn.hits hsv' hmv') la lc nsv nmv L M := fun q => ⟨q.old, q.p, q.b, q.s, q.m, q.r, q.ns, q.nm, q.l, q.mb, q.rb, q.f⟩
  have fresh : ∀ {k : Nat}, w.heap.size ≤ k → Apt W0 k bp bb bs bm br (gn.hits hsv' hmv') la lc nsv nmv L M := fun hk => apt (h.apart hk).toApt
  obtain ⟨g1, q1⟩ := h.x.gs
  obtain ⟨g2, q2⟩ := h.x.gm
  obtain ⟨g3, q3⟩ := h.x.ls
  obtain ⟨g4, q4⟩ := h.x.lm
  have lne : ∀ {g k : Nat}, lv.ownBlock = some g → gn.ex.own k → g ≠ k := fun hg hk e => (hA _ hg).x (e ▸ hk)
  obtain ⟨f1, r1⟩ := h.x.hs
  obtain ⟨f2, r2⟩ := h.x.hm
  have rows : ∀ {e sz n : Nat} {v : Value} {xs : List Value}, w.ownsRow 0 e sz v n xs → e ≠ 41 → (∀ k, v.ownBlock = some k → gn.ex.own k) → e ≠ 58 → (∀ g, v.ownBlock = some g → gn.ex.hmv.ownBlock ≠ some g) → w'.ownsRow 0 e sz v n xs := fun {e sz n v xs} hr h1 h2 h3 h4 => ownsRow_kept hr hk fun g hg => by
    obtain ⟨c, hc⟩ := ownsRow_obj hr hg
    refine no (ne_type hc hcp h1) (fun k q => lne q (h2 g hg)) (fun k q e => ?_) (fun k q e => h4 g hg (e ▸ q))
    obtain ⟨c2, hc2⟩ := ownsRow_obj r1 q
    exact ne_type hc hc2 h3 e.symm
  have lo : ∀ {o : Nat} {v : Value}, o ≠ 7 ∧ o ≠ 10 ∧ o ≠ 11 → w.cell? ⟨bp, o, none⟩ = some v → w'.cell? ⟨bp, o, none⟩ = some v := fun ho hv => hs.low _ _ ho hv
  have mlt : ∀ g, gn.ex.gmv.ownBlock = some g ∨ gn.ex.lmv.ownBlock = some g → g < w.heap.size := fun g e => e.elim (fun e => h.x.lt (.inr (.inr (.inr (.inl e))))) (fun e => h.x.lt (.inr (.inr (.inr (.inr (.inr e))))))
  have hX : XAt w' bp (gn.hits hsv' hmv').ex := by
    refine ⟨hs.c8, hs.c9, lo (by omega) h.x.c12, lo (by omega) h.x.c13, lo (by omega) h.x.c14, lo (by omega) h.x.c15, hs.hs, hs.hm, ⟨g1, rows q1 (by decide) (fun k e => .inr (.inr (.inl e))) (by decide) ?_⟩, ⟨g2, rows q2 (by decide) (fun k e => .inr (.inr (.inr (.inl e)))) (by decide) ?_⟩, ⟨g3, rows q3 (by decide) (fun k e => .inr (.inr (.inr (.inr (.inl e))))) (by decide) ?_⟩, ⟨g4, rows q4 (by decide) (fun k e => .inr (.inr (.inr (.inr (.inr e))))) (by decide) ?_⟩, ⟨fun g e => ?_, h.x.dj.2⟩⟩
    · intro g hg e
      obtain ⟨c1, hc1⟩ := ownsRow_obj q1 hg
      obtain ⟨c2, hc2⟩ := ownsRow_obj r2 e
      exact ne_type hc1 hc2 (by decide) rfl
    · intro g hg e
      exact (h.x.dj.1 g e).1 hg
    · intro g hg e
      obtain ⟨c1, hc1⟩ := ownsRow_obj q3 hg
      obtain ⟨c2, hc2⟩ := ownsRow_obj r2 e
      exact ne_type hc1 hc2 (by decide) rfl
    · intro g hg e
      exact (h.x.dj.1 g e).2 hg
    · rcases hs.lm g e with e1 | e1
      · exact h.x.dj.1 g e1
      · exact ⟨fun e2 => by have := mlt g (.inl e2); omega, fun e2 => by have := mlt g (.inr e2); omega⟩
  refine ⟨lo (by omega) h.p0, lo (by omega) h.p1, lo (by omega) h.p2, lo (by omega) h.p3, ⟨x4, lo (by omega) h4⟩, ⟨x5, lo (by omega) h5⟩, ⟨hs.typ, ⟨b6, lo (by omega) h6⟩, hs.c7, lo (by omega) h.book.c8, lo (by omega) h.book.c9, ⟨ys, ownsRow_kept hys hk noN⟩, ⟨zs, ownsRow_kept hzs hk noM⟩⟩, hB, h.ref.keptS hk hbr noL noPr,
    ⟨cb, (hk.block _ (Array.getElem?_eq_some_iff.1 hcb).1 hbb).trans hcb⟩, ⟨cs, (hk.block _ (Array.getElem?_eq_some_iff.1 hcs).1 hbs).trans hcs⟩, h.am, h.old.trans hold, h.pos, h.lbp, h.lbb, h.lbm, h.lbr, h.lla, h.lns, h.lnm, h.pf, hX, fun k hk2 => ?_, ?_⟩
  · rcases hk2 with e | e | e | e | e | e
    · exact (hs.ls k e).elim (fun e => apt (x1 k e)) fresh
    · exact (hs.lm k e).elim (fun e => apt (x2 k e)) fresh
    · exact apt (h.xa k (.inr (.inr (.inl e))))
    · exact apt (h.xa k (.inr (.inr (.inr (.inl e)))))
    · exact apt (h.xa k (.inr (.inr (.inr (.inr (.inl e))))))
    · exact apt (h.xa k (.inr (.inr (.inr (.inr (.inr e))))))
  · have q := h.xn
    exact ⟨hx, q.2⟩
end
end Go.Proofs.YtpkiefjanmfgfaaGreatDoor
namespace Go.Proofs.YtpkiefjanmfgfaaGreatDoor
open Go.RowKit Go.Maps

section
variable {W0 w w' : World} {bp bb bs bm br : Nat} {cf : Cf} {gn : Net} {la : Option Addr} {lc : Nat} {nsv nmv : Value} {nn : Nat} {L M : List Ent}
theorem PairAt.away {S : Nat → Prop} (h : PairAt W0 w bp bb bs bm br cf gn la lc nsv nmv nn L M) (hA : ∀ k, S k → Apart W0 k bp bb bs bm br gn la lc nsv nmv L M) (hk : Kept S w w') : PairAt W0 w' bp bb bs bm br cf gn la lc nsv nmv nn L M := by
  obtain ⟨x4, h4⟩ := h.p4
  obtain ⟨x5, h5⟩ := h.p5
  obtain ⟨cb, hcb⟩ := h.tb
  obtain ⟨cs, hcs⟩ := h.ts
  have h0 := h.pos
  have np : ¬ S bp := fun e => (hA _ e).p rfl
  have nb : ¬ S bb := fun e => (hA _ e).b rfl
  have ns : ¬ S bs := fun e => (hA _ e).s rfl
  refine ⟨hk.cell h.p0 np, hk.cell h.p1 np, hk.cell h.p2 np, hk.cell h.p3 np, ⟨x4, hk.cell h4 np⟩, ⟨x5, hk.cell h5 np⟩, h.book.keptS hk np (fun g hg e => (hA _ e).ns hg) (fun g hg e => (hA _ e).nm hg), h.base.keptS hk nb ns (fun e => (hA _ e).m rfl) (fun e => by have := (hA _ e).old; omega) (fun e he q => (hA _ q).mb e he rfl) (fun k hf e => (hA _ e).f hf), h.ref.keptS hk (fun e => (hA _ e).r rfl) (fun g hg e => (hA _ e).l hg) (fun e he q => (hA _ q).rb e he rfl),
    ⟨cb, (hk.block _ (Array.getElem?_eq_some_iff.1 hcb).1 nb).trans hcb⟩, ⟨cs, (hk.block _ (Array.getElem?_eq_some_iff.1 hcs).1 ns).trans hcs⟩, h.am, h.old.trans (hk.toBelow h.old.size (fun k e => (hA _ e).old)), h.pos, h.lbp, h.lbb, h.lbm, h.lbr, h.lla, h.lns, h.lnm, h.pf, h.x.keptS hk np (fun k hx e => (hA _ e).x hx), h.xa, h.xn⟩
end

theorem LentAt.keptS {S : Nat → Prop} {w0 w w' : World} {A : Nat} {mv : Value} {Z : Nat} {F : List (List Cnd)} {ks : List Nat} (h : LentAt w0 w A mv Z F ks) (hk : Kept S w w') (hS : ∀ k, S k → k < w0.heap.size ∨ (k ≠ A ∧ k ≠ Z ∧ k ∉ ks ∧ mv.ownBlock ≠ some k)) : LentAt w0 w' A mv Z F ks := by
  have st : ∀ {k : Nat} {o : Obj}, w.heap[k]? = some o → ¬ S k → w'.heap[k]? = some o := fun hk2 hn => (hk.block _ (Array.getElem?_eq_some_iff.1 hk2).1 hn).trans hk2
  have memk : ∀ i, i < F.length → ks.getD i 0 ∈ ks := fun i hi => by
    rw [List.getD_eq_getElem?_getD, List.getElem?_eq_getElem (by rw [h.len]; exact hi)]
    exact List.getElem_mem _
  refine ⟨st h.all (fun e => ?_), ownsRow_kept h.mine hk (fun g hg e => ?_), h.len, fun i hi => st (h.cls i hi) (fun e => ?_), h.nod, st h.z (fun e => ?_), h.zk, h.new, h.znew, h.anew, h.mnew⟩
  · rcases hS _ e with q | q
    · have := h.anew; omega
    · exact q.1 rfl
  · rcases hS _ e with q | q
    · have := h.mnew g hg; omega
    · exact q.2.2.2 hg
  · have hm := memk i hi
    rcases hS _ e with q | q
    · have := h.new _ hm; omega
    · exact q.2.2.1 hm
  · rcases hS _ e with q | q
    · have := h.znew; omega
    · exact q.2.1 rfl
theorem LentAt.filt {w0 w : World} {A : Nat} {mv : Value} {Z : Nat} {F : List (List Cnd)} {ks : List Nat} (h : LentAt w0 w A mv Z F ks) (hm : ∀ c ∈ F, c.length ≤ 17592186044416) (hn : F.length ≤ 17592186044416) : FiltAt w (.slice (some ⟨A, 0, none⟩) F.length (F.length + 1)) F := by
  refine ⟨_, _, rfl, by omega, hn, .inr ⟨A, 0, rfl, fun i hi => ?_⟩⟩
  have hz := zip_at cutS h.len hi
  have h2 := (List.getElem?_eq_some_iff.1 hz).1
  refine ⟨cutS (ks.getD i 0) (F.getD i []), ?_, (h.cls i hi).conds (hm _ (by rw [List.getD_eq_getElem?_getD, List.getElem?_eq_getElem hi]; exact List.getElem_mem hi))⟩
  simp only [World.cell?, h.all]
  simp [List.getElem?_append_left h2, hz]

set_option maxHeartbeats 400000 in
theorem looks31 (bb : Nat) (n : Int) (w : World) (b8 : w.cell? ⟨bb, 8, none⟩ = some (.int .i64 n)) : Calls Tryz.prog 31 #[.pointer (some ⟨bb, 0, none⟩)] w fun ev w' => ev = .returned (.int .i64 n) ∧ w = w' := by
  go_enter Tryz.func31, Tryz.ntmps31
  go_wp2
  go_ret
  exact ⟨rfl, rfl⟩
end Go.Proofs.YtpkiefjanmfgfaaGreatDoor
