import Derived.Test.YtgilnaheedmmfaaDoorNear3
import Derived.Test.YtgilnaheedmmfaaDoorRef5
import Derived.Test.YtgilnaheedmmfaaDoorBook2
namespace Go.Proofs.YtgilnaheedmmfaaDoor
open Go.RowKit Go.Maps

theorem IntsAt.below {w w' : World} {v : Value} {xs : List Int} (h : IntsAt w v xs) (hb : Below w.heap.size w w') : IntsAt w' v xs := by
  obtain ⟨a, cap, rfl, h1, h2, h3⟩ := h
  refine ⟨a, cap, rfl, h1, h2, ?_⟩
  rcases h3 with h3 | ⟨b, off, rfl, hc⟩
  · exact .inl h3
  · exact .inr ⟨b, off, rfl, fun i hi => Below.at hb (hc i hi) (block_lt_of_cell (hc i hi))⟩
theorem IntsAt.lt {w : World} {v : Value} {xs : List Int} (h : IntsAt w v xs) : ∀ b off n c, v = .slice (some ⟨b, off, none⟩) n c → 0 < xs.length → b < w.heap.size := by
  obtain ⟨a, cap, rfl, h1, h2, h3⟩ := h
  intro b off n c e h0
  rcases h3 with rfl | ⟨b', off', rfl, hc⟩
  · simp at h0
  · simp only [Value.slice.injEq, Option.some.injEq, Addr.mk.injEq] at e
    obtain ⟨⟨rfl, _⟩, _⟩ := e
    exact block_lt_of_cell (hc 0 h0)

theorem MapAt.keptS {S : Nat → Prop} {w w' : World} {bm : Nat} {L : List Ent} (h : MapAt w bm L) (hk : Kept S w w') (h1 : ¬ S bm) (h2 : ∀ e ∈ L, ¬ S e.mb) : MapAt w' bm L :=
  h.block (hk.block _ h.lt h1) fun e he => hk.block _ (h.plt e he) (h2 e he)
theorem BaseAt.keptS {S : Nat → Prop} {w w' : World} {bb bs bm : Nat} {dim cap : Int} {L : List Ent} (h : BaseAt w bb bs bm dim cap L) (hk : Kept S w w') (h1 : ¬ S bb) (h2 : ¬ S bs) (h3 : ¬ S bm) (h4 : ¬ S 0) (h5 : ∀ e ∈ L, ¬ S e.mb) : BaseAt w' bb bs bm dim cap L :=
  ⟨hk.cell h.b0 h1, hk.cell h.b6 h1, hk.cell h.s0 h2, hk.cell h.s1 h2, h.map.keptS hk h3 h5, h.hdl.kept hk h4⟩
theorem RefAt.keptS {S : Nat → Prop} {w w' : World} {br : Nat} {dim cap : Int} {la : Option Addr} {lc : Nat} {L : List Ent} (h : RefAt w br dim cap la lc L) (hk : Kept S w w') (h1 : ¬ S br) (h2 : ∀ g, (Value.slice la L.length lc).ownBlock = some g → ¬ S g) (h3 : ∀ e ∈ L, ¬ S e.rb) : RefAt w' br dim cap la lc L := by
  obtain ⟨cs, hc⟩ := h.typ
  have hlt := h.lt
  exact ⟨⟨cs, (hk.block br hlt h1).trans hc⟩, hk.cell h.r0 h1, hk.cell h.r1 h1, hk.cell h.r6 h1, ownsRow_kept h.row hk h2, fun e he => ownsRow_kept (h.pts e he) hk fun g hg => by
    obtain rfl : e.rb = g := by simpa [Value.ownBlock] using hg
    exact h3 e he, h.rising, h.small⟩

/-- The book's cells and lists. -/
structure BookAt (w : World) (bp : Nat) (nsv nmv : Value) (nn : Nat) : Prop where
  typ : ∃ cs, w.heap[bp]? = some (.cells cs 41 (0, 0))
  c6 : ∃ b, w.cell? ⟨bp, 6, none⟩ = some (.int .i64 b)
  c7 : ∃ b, w.cell? ⟨bp, 7, none⟩ = some (.int .i64 b)
  c8 : w.cell? ⟨bp, 8, none⟩ = some nsv
  c9 : w.cell? ⟨bp, 9, none⟩ = some nmv
  hs : ∃ xs, w.ownsRow 0 32 1 nsv nn xs
  hm : ∃ xs, w.ownsRow 0 3 1 nmv nn xs
theorem BookAt.lt {w : World} {bp : Nat} {nsv nmv : Value} {nn : Nat} (h : BookAt w bp nsv nmv nn) : bp < w.heap.size := by
  obtain ⟨cs, hc⟩ := h.typ
  exact (Array.getElem?_eq_some_iff.1 hc).1
theorem BookAt.frozen {w : World} {bp : Nat} {nsv nmv : Value} {nn : Nat} (h : BookAt w bp nsv nmv nn) (o : Nat) : w.frozen? ⟨bp, o, none⟩ = false := by
  obtain ⟨cs, hc⟩ := h.typ
  simp [World.frozen?, hc]
theorem BookAt.keptS {S : Nat → Prop} {w w' : World} {bp : Nat} {nsv nmv : Value} {nn : Nat} (h : BookAt w bp nsv nmv nn) (hk : Kept S w w') (h1 : ¬ S bp) (h2 : ∀ g, nsv.ownBlock = some g → ¬ S g) (h3 : ∀ g, nmv.ownBlock = some g → ¬ S g) : BookAt w' bp nsv nmv nn := by
  obtain ⟨cs, hc⟩ := h.typ
  obtain ⟨b6, h6⟩ := h.c6
  obtain ⟨b7, h7⟩ := h.c7
  obtain ⟨xs, hx⟩ := h.hs
  obtain ⟨ys, hy⟩ := h.hm
  exact ⟨⟨cs, (hk.block bp h.lt h1).trans hc⟩, ⟨b6, hk.cell h6 h1⟩, ⟨b7, hk.cell h7 h1⟩, hk.cell h.c8 h1, hk.cell h.c9 h1, ⟨xs, ownsRow_kept hx hk h2⟩, ⟨ys, ownsRow_kept hy hk h3⟩⟩
/-- A field of the pair beside the book is written. -/
theorem BookAt.setF {w : World} {bp : Nat} {nsv nmv : Value} {nn : Nat} (h : BookAt w bp nsv nmv nn) {o : Nat} (ho : o < 6) (u : Value) : BookAt (w.setCell ⟨bp, o, none⟩ u) bp nsv nmv nn := by
  obtain ⟨cs, hc⟩ := h.typ
  obtain ⟨b6, h6⟩ := h.c6
  obtain ⟨b7, h7⟩ := h.c7
  obtain ⟨xs, hx⟩ := h.hs
  obtain ⟨ys, hy⟩ := h.hm
  have rs : ∀ {e : Nat} {v : Value} {n : Nat} {l : List Value}, e ≠ 41 → w.ownsRow 0 e 1 v n l → (w.setCell ⟨bp, o, none⟩ u).ownsRow 0 e 1 v n l := fun {e v n l} he hr => ownsRow_of_block hr fun g hv => Below.heap_setCell _ _ _ _ (by
    obtain ⟨c2, h2⟩ := ownsRow_obj hr hv
    exact (ne_of_elem hc h2 (fun e' => he e'.symm)).symm)
  have cl : ∀ {k : Nat} {v : Value}, 6 ≤ k → w.cell? ⟨bp, k, none⟩ = some v → (w.setCell ⟨bp, o, none⟩ u).cell? ⟨bp, k, none⟩ = some v := fun hk hh => by
    rw [World.cell?_setCell_other _ _ _ _ (by simp <;> omega)]; exact hh
  exact ⟨⟨_, heap_setCell_same _ _ _ _ _ _ hc⟩, ⟨b6, cl (by omega) h6⟩, ⟨b7, cl (by omega) h7⟩, cl (by omega) h.c8, cl (by omega) h.c9, ⟨xs, rs (by decide) hx⟩, ⟨ys, rs (by decide) hy⟩⟩

/-- The pair: the program's base and the document's hold the same entries; all that is written lies behind what was there at the law's beginning (W0). -/
structure PairAt (W0 w : World) (bp bb bs bm br : Nat) (dim cap : Int) (la : Option Addr) (lc : Nat) (nsv nmv : Value) (nn : Nat) (L M : List Ent) : Prop where
  p0 : w.cell? ⟨bp, 0, none⟩ = some (.pointer (some ⟨bb, 0, none⟩))
  p1 : w.cell? ⟨bp, 1, none⟩ = some (.pointer (some ⟨br, 0, none⟩))
  p4 : ∃ x, w.cell? ⟨bp, 4, none⟩ = some (.int .i64 x)
  p5 : ∃ x, w.cell? ⟨bp, 5, none⟩ = some (.bool x)
  book : BookAt w bp nsv nmv nn
  base : BaseAt w bb bs bm dim cap L
  ref : RefAt w br dim cap la lc M
  tb : ∃ cs, w.heap[bb]? = some (.cells cs 79 (0, 0))
  ts : ∃ cs, w.heap[bs]? = some (.cells cs 122 (0, 0))
  am : (∀ e ∈ L, nmv.ownBlock ≠ some e.mb) ∧ ∀ e ∈ M, nmv.ownBlock ≠ some e.rb
  old : Below W0.heap.size W0 w
  pos : 0 < W0.heap.size
  lbp : W0.heap.size ≤ bp
  lbm : W0.heap.size ≤ bm
  lbr : W0.heap.size ≤ br
  lla : ∀ g, (Value.slice la M.length lc).ownBlock = some g → W0.heap.size ≤ g
  lns : ∀ g, nsv.ownBlock = some g → W0.heap.size ≤ g
  lnm : ∀ g, nmv.ownBlock = some g → W0.heap.size ≤ g
  d1 : 1 ≤ dim
  d8 : dim ≤ 8
  c60 : cap ≤ 60

section
variable {W0 w w' : World} {bp bb bs bm br : Nat} {dim cap : Int} {la : Option Addr} {lc : Nat} {nsv nmv : Value} {nn : Nat} {L M : List Ent}

/-- Old blocks stand as they were. -/
theorem PairAt.below (h : PairAt W0 w bp bb bs bm br dim cap la lc nsv nmv nn L M) (hb : Below w.heap.size w w') : PairAt W0 w' bp bb bs bm br dim cap la lc nsv nmv nn L M := by
  obtain ⟨x4, h4⟩ := h.p4
  obtain ⟨x5, h5⟩ := h.p5
  obtain ⟨cb, hcb⟩ := h.tb
  obtain ⟨cs, hcs⟩ := h.ts
  have hlt := h.book.lt
  exact ⟨Below.at hb h.p0 hlt, Below.at hb h.p1 hlt, ⟨x4, Below.at hb h4 hlt⟩, ⟨x5, Below.at hb h5 hlt⟩, h.book.keptS (Kept.of_below (fun _ => False) hb) id (fun _ _ => id) (fun _ _ => id), h.base.below hb, h.ref.below hb, ⟨cb, (hb.block _ (Array.getElem?_eq_some_iff.1 hcb).1).trans hcb⟩, ⟨cs, (hb.block _ (Array.getElem?_eq_some_iff.1 hcs).1).trans hcs⟩, h.am, h.old.trans (hb.mono h.old.size), h.pos, h.lbp, h.lbm, h.lbr, h.lla, h.lns, h.lnm, h.d1, h.d8, h.c60⟩
theorem PairAt.alloc (h : PairAt W0 w bp bb bs bm br dim cap la lc nsv nmv nn L M) (o : Obj) : PairAt W0 (w.alloc o) bp bb bs bm br dim cap la lc nsv nmv nn L M := h.below ((Below.refl _ _).alloc (Nat.le_refl _) o)

/-- One block that is none of theirs is written. -/
theorem PairAt.other (h : PairAt W0 w bp bb bs bm br dim cap la lc nsv nmv nn L M) {A : Nat} (hk : Kept (fun k => k = A) w w') (hA : w.heap.size ≤ A) : PairAt W0 w' bp bb bs bm br dim cap la lc nsv nmv nn L M :=
  h.below (hk.toBelow (Nat.le_refl _) (fun k hk => by omega))

/-- The program's map has turned (Put, Delete). -/
theorem PairAt.turned (h : PairAt W0 w bp bb bs bm br dim cap la lc nsv nmv nn L M) (hk : Kept (fun k => k = bm) w w') :
    w'.cell? ⟨bp, 0, none⟩ = some (.pointer (some ⟨bb, 0, none⟩)) ∧ w'.cell? ⟨bp, 1, none⟩ = some (.pointer (some ⟨br, 0, none⟩)) ∧ (∃ x, w'.cell? ⟨bp, 4, none⟩ = some (.int .i64 x)) ∧ (∃ x, w'.cell? ⟨bp, 5, none⟩ = some (.bool x)) ∧ BookAt w' bp nsv nmv nn ∧ RefAt w' br dim cap la lc M ∧
      (∃ cs, w'.heap[bb]? = some (.cells cs 79 (0, 0))) ∧ (∃ cs, w'.heap[bs]? = some (.cells cs 122 (0, 0))) ∧ Below W0.heap.size W0 w' := by
  obtain ⟨x4, h4⟩ := h.p4
  obtain ⟨x5, h5⟩ := h.p5
  obtain ⟨cb, hcb⟩ := h.tb
  obtain ⟨cs, hcs⟩ := h.ts
  have hm := h.base.map
  have hne : ∀ {b : Nat} {c : Array Value} {e : TypeId}, w.heap[b]? = some (.cells c e (0, 0)) → b ≠ bm := fun hb => hm.mb_ne hb
  obtain ⟨cp, hcp⟩ := h.book.typ
  obtain ⟨cr, hcr⟩ := h.ref.typ
  refine ⟨hk.cell h.p0 (hne hcp), hk.cell h.p1 (hne hcp), ⟨x4, hk.cell h4 (hne hcp)⟩, ⟨x5, hk.cell h5 (hne hcp)⟩, h.book.keptS hk (hne hcp) ?_ ?_, h.ref.keptS hk (hne hcr) ?_ ?_, ⟨cb, (hk.block _ (Array.getElem?_eq_some_iff.1 hcb).1 (hne hcb)).trans hcb⟩, ⟨cs, (hk.block _ (Array.getElem?_eq_some_iff.1 hcs).1 (hne hcs)).trans hcs⟩, h.old.trans (hk.toBelow h.old.size (fun k hk => by rw [hk]; exact h.lbm))⟩
  · intro g hg
    obtain ⟨xs, hx⟩ := h.book.hs
    obtain ⟨c, hc⟩ := ownsRow_obj hx hg
    exact hne hc
  · intro g hg
    obtain ⟨xs, hx⟩ := h.book.hm
    obtain ⟨c, hc⟩ := ownsRow_obj hx hg
    exact hne hc
  · intro g hg
    obtain ⟨c, hc⟩ := ownsRow_obj h.ref.row hg
    exact hne hc
  · intro e he
    obtain ⟨c, hc⟩ := (h.ref.pts e he).obj
    exact hne hc
end
end Go.Proofs.YtgilnaheedmmfaaDoor
