import Derived.Test.YtpkiefjanmfgfaaGreatDoorGra24
import Derived.Test.YtpkiefjanmfgfaaGreatDoorGra25
namespace Go.Proofs.YtpkiefjanmfgfaaGreatDoor
open Go.RowKit Go.Maps

section
variable {W0 w w' : World} {bp bb bs bm br : Nat} {cf : Cf} {gn : Net} {la : Option Addr} {lc : Nat} {nsv nmv : Value} {nn : Nat} {L M : List Ent} {lv lv' v1 v2 : Value} {n' : Nat}
theorem ap_row {o E e0 sz0 : Nat} {S1 S2 S3 S4 : Value} {a b : Nat} (h : PairAt W0 w bp bb bs bm br cf gn la lc nsv nmv nn L M) (hA : ∀ g, lv.ownBlock = some g → Apart W0 g bp bb bs bm br gn la lc nsv nmv L M) (hs : ApS o E e0 sz0 w bp lv S1 S2 w' lv' n' S3 a S4 b)
    {e sz n : Nat} {v : Value} {xs : List Value} (hr : w.ownsRow 0 e sz v n xs) (h1 : e ≠ 41) (h2 : ∀ k, v.ownBlock = some k → gn.ex.own k) (h3 : ∀ g, v.ownBlock = some g → S1.ownBlock ≠ some g) (h4 : ∀ g, v.ownBlock = some g → S2.ownBlock ≠ some g) : w'.ownsRow 0 e sz v n xs := by
  obtain ⟨cp, hcp⟩ := h.book.typ
  refine ownsRow_kept hr hs.kept fun g hg hx => ?_
  obtain ⟨c, hc⟩ := ownsRow_obj hr hg
  rcases hx with q | q | q | q
  · exact ne_of_elem hc hcp h1 q
  · exact (hA g q).x (h2 g hg)
  · exact h3 g hg q
  · exact h4 g hg q
theorem ty_ne {w : World} {e1 e2 sz1 sz2 n1 n2 : Nat} {v1 v2 : Value} {x1 x2 : List Value} (h1 : w.ownsRow 0 e1 sz1 v1 n1 x1) (h2 : w.ownsRow 0 e2 sz2 v2 n2 x2) (hne : e1 ≠ e2) : ∀ g, v1.ownBlock = some g → v2.ownBlock ≠ some g := fun g a b => by
  obtain ⟨c1, k1⟩ := ownsRow_obj h1 a
  obtain ⟨c2, k2⟩ := ownsRow_obj h2 b
  exact ne_of_elem k1 k2 hne rfl

theorem PairAt.ap14 (h : PairAt W0 w bp bb bs bm br cf gn la lc nsv nmv nn L M) (hA : ∀ g, lv.ownBlock = some g → Apart W0 g bp bb bs bm br gn la lc nsv nmv L M) (hs : ApS 14 31 32 1 w bp lv gn.ex.lsv gn.ex.lmv w' lv' n' v1 (gn.ex.nl + 4) v2 (gn.ex.nl + 4)) (hx : gn.ex.nl + 4 ≤ nn) :
    PairAt W0 w' bp bb bs bm br cf { gn with ex := { gn.ex with lsv := v1, lmv := v2, nl := gn.ex.nl + 4 } } la lc nsv nmv nn L M ∧ Stays W0 w w' bp bb bs bm br gn { gn with ex := { gn.ex with lsv := v1, lmv := v2, nl := gn.ex.nl + 4 } } la lc nsv nmv nsv nmv L M (fun k => lv.ownBlock = some k) := by
  obtain ⟨y1, q1⟩ := h.x.hs
  obtain ⟨y2, q2⟩ := h.x.hm
  obtain ⟨y3, q3⟩ := h.x.gs
  obtain ⟨y4, q4⟩ := h.x.gm
  obtain ⟨y5, q5⟩ := h.x.ls
  obtain ⟨y6, q6⟩ := h.x.lm
  have x1 : ∀ k, gn.ex.lsv.ownBlock = some k → gn.ex.own k := fun k e => .inr (.inr (.inr (.inr (.inl e))))
  have x2 : ∀ k, gn.ex.lmv.ownBlock = some k → gn.ex.own k := fun k e => .inr (.inr (.inr (.inr (.inr e))))
  have hxa : ∀ k, ({ gn.ex with lsv := v1, lmv := v2, nl := gn.ex.nl + 4 } : Bks).own k → gn.ex.own k ∨ w.heap.size ≤ k := by
    rintro k (e | e | e | e | e | e)
    · exact .inl (.inl e)
    · exact .inl (.inr (.inl e))
    · exact .inl (.inr (.inr (.inl e)))
    · exact .inl (.inr (.inr (.inr (.inl e))))
    · exact (hs.ls k e).imp (x1 k) (fun e => e)
    · exact (hs.lm k e).imp (x2 k) (fun e => e)
  have row : ∀ {e sz n : Nat} {v : Value} {xs : List Value}, w.ownsRow 0 e sz v n xs → e ≠ 41 → (∀ k, v.ownBlock = some k → gn.ex.own k) → (∀ g, v.ownBlock = some g → gn.ex.lsv.ownBlock ≠ some g) → (∀ g, v.ownBlock = some g → gn.ex.lmv.ownBlock ≠ some g) → w'.ownsRow 0 e sz v n xs := fun hr h1 h2 h3 h4 => ap_row h hA hs hr h1 h2 h3 h4
  have mlt : ∀ {g : Nat}, gn.ex.own g → ¬ w.heap.size ≤ g := fun e => by have := h.x.lt e; omega
  have hX : XAt w' bp { gn.ex with lsv := v1, lmv := v2, nl := gn.ex.nl + 4 } := by
    refine ⟨hs.low 10 _ (by omega) h.x.c10, hs.low 11 _ (by omega) h.x.c11, hs.low 12 _ (by omega) h.x.c12, hs.low 13 _ (by omega) h.x.c13, hs.c8, hs.c9, ⟨y1, row q1 (by decide) (fun k e => .inl e) (ty_ne q1 q5 (by decide)) (ty_ne q1 q6 (by decide))⟩, ⟨y2, row q2 (by decide) (fun k e => .inr (.inl e)) (ty_ne q2 q5 (by decide)) (fun g e => (h.x.dj.1 g e).2)⟩, ⟨y3, row q3 (by decide) (fun k e => .inr (.inr (.inl e))) (ty_ne q3 q5 (by decide)) (ty_ne q3 q6 (by decide))⟩, ⟨y4, row q4 (by decide) (fun k e => .inr (.inr (.inr (.inl e)))) (ty_ne q4 q5 (by decide)) (fun g e => h.x.dj.2 g e)⟩, hs.hs, hs.hm, fun g e => ⟨(h.x.dj.1 g e).1, fun e2 => ?_⟩, fun g e e2 => ?_⟩
    · exact (hs.lm g e2).elim (h.x.dj.1 g e).2 (mlt (.inr (.inl e)))
    · exact (hs.lm g e2).elim (h.x.dj.2 g e) (mlt (.inr (.inr (.inr (.inl e)))))
  have hS : ∀ k, (k = bp ∨ lv.ownBlock = some k ∨ gn.ex.lsv.ownBlock = some k ∨ gn.ex.lmv.ownBlock = some k) → k < w.heap.size → k = bp ∨ Apt W0 k bp bb bs bm br gn la lc nsv nmv L M := by
    rintro k (e | e | e | e) _
    · exact .inl e
    · exact .inr (hA k e).toApt
    · exact .inr (h.xa k (x1 k e))
    · exact .inr (h.xa k (x2 k e))
  have h7 := h.book.c7
  have hn := h.xn
  refine ⟨h.exTurned hs.kept hS hs.typ (fun o v ho _ hv => hs.low o v (by omega) hv) (h7.imp fun b hb => hs.low 7 _ (by omega) hb) hX hxa ⟨hn.1, hn.2.1, hx⟩, Stays.kept hs.kept ?_ hxa⟩
  rintro k (e | e | e | e) _
  · exact .inr (fun q => q.p e)
  · exact .inl e
  · exact .inr (fun q => q.x (x1 k e))
  · exact .inr (fun q => q.x (x2 k e))

theorem PairAt.ap12 (h : PairAt W0 w bp bb bs bm br cf gn la lc nsv nmv nn L M) (hA : ∀ g, lv.ownBlock = some g → Apart W0 g bp bb bs bm br gn la lc nsv nmv L M) (hs : ApS 12 81 95 3 w bp lv gn.ex.gsv gn.ex.gmv w' lv' n' v1 (gn.ex.ng + 4) v2 (gn.ex.ng + 4)) (hx : gn.ex.ng + 4 ≤ nn) :
    PairAt W0 w' bp bb bs bm br cf { gn with ex := { gn.ex with gsv := v1, gmv := v2, ng := gn.ex.ng + 4 } } la lc nsv nmv nn L M ∧ Stays W0 w w' bp bb bs bm br gn { gn with ex := { gn.ex with gsv := v1, gmv := v2, ng := gn.ex.ng + 4 } } la lc nsv nmv nsv nmv L M (fun k => lv.ownBlock = some k) := by
  obtain ⟨y1, q1⟩ := h.x.hs
  obtain ⟨y2, q2⟩ := h.x.hm
  obtain ⟨y3, q3⟩ := h.x.gs
  obtain ⟨y4, q4⟩ := h.x.gm
  obtain ⟨y5, q5⟩ := h.x.ls
  obtain ⟨y6, q6⟩ := h.x.lm
  have x1 : ∀ k, gn.ex.gsv.ownBlock = some k → gn.ex.own k := fun k e => .inr (.inr (.inl e))
  have x2 : ∀ k, gn.ex.gmv.ownBlock = some k → gn.ex.own k := fun k e => .inr (.inr (.inr (.inl e)))
  have hxa : ∀ k, ({ gn.ex with gsv := v1, gmv := v2, ng := gn.ex.ng + 4 } : Bks).own k → gn.ex.own k ∨ w.heap.size ≤ k := by
    rintro k (e | e | e | e | e | e)
    · exact .inl (.inl e)
    · exact .inl (.inr (.inl e))
    · exact (hs.ls k e).imp (x1 k) (fun e => e)
    · exact (hs.lm k e).imp (x2 k) (fun e => e)
    · exact .inl (.inr (.inr (.inr (.inr (.inl e)))))
    · exact .inl (.inr (.inr (.inr (.inr (.inr e)))))
  have row : ∀ {e sz n : Nat} {v : Value} {xs : List Value}, w.ownsRow 0 e sz v n xs → e ≠ 41 → (∀ k, v.ownBlock = some k → gn.ex.own k) → (∀ g, v.ownBlock = some g → gn.ex.gsv.ownBlock ≠ some g) → (∀ g, v.ownBlock = some g → gn.ex.gmv.ownBlock ≠ some g) → w'.ownsRow 0 e sz v n xs := fun hr h1 h2 h3 h4 => ap_row h hA hs hr h1 h2 h3 h4
  have mlt : ∀ {g : Nat}, gn.ex.own g → ¬ w.heap.size ≤ g := fun e => by have := h.x.lt e; omega
  have hX : XAt w' bp { gn.ex with gsv := v1, gmv := v2, ng := gn.ex.ng + 4 } := by
    refine ⟨hs.low 10 _ (by omega) h.x.c10, hs.low 11 _ (by omega) h.x.c11, hs.c8, hs.c9, hs.low 14 _ (by omega) h.x.c14, hs.low 15 _ (by omega) h.x.c15, ⟨y1, row q1 (by decide) (fun k e => .inl e) (ty_ne q1 q3 (by decide)) (ty_ne q1 q4 (by decide))⟩, ⟨y2, row q2 (by decide) (fun k e => .inr (.inl e)) (ty_ne q2 q3 (by decide)) (fun g e => (h.x.dj.1 g e).1)⟩, hs.hs, hs.hm, ⟨y5, row q5 (by decide) (fun k e => .inr (.inr (.inr (.inr (.inl e))))) (ty_ne q5 q3 (by decide)) (ty_ne q5 q4 (by decide))⟩, ⟨y6, row q6 (by decide) (fun k e => .inr (.inr (.inr (.inr (.inr e))))) (ty_ne q6 q3 (by decide)) (fun g e e2 => h.x.dj.2 g e2 e)⟩, fun g e => ⟨fun e2 => ?_, (h.x.dj.1 g e).2⟩, fun g e e2 => ?_⟩
    · exact (hs.lm g e2).elim (h.x.dj.1 g e).1 (mlt (.inr (.inl e)))
    · exact (hs.lm g e).elim (fun e3 => h.x.dj.2 g e3 e2) (mlt (.inr (.inr (.inr (.inr (.inr e2))))))
  have hS : ∀ k, (k = bp ∨ lv.ownBlock = some k ∨ gn.ex.gsv.ownBlock = some k ∨ gn.ex.gmv.ownBlock = some k) → k < w.heap.size → k = bp ∨ Apt W0 k bp bb bs bm br gn la lc nsv nmv L M := by
    rintro k (e | e | e | e) _
    · exact .inl e
    · exact .inr (hA k e).toApt
    · exact .inr (h.xa k (x1 k e))
    · exact .inr (h.xa k (x2 k e))
  have h7 := h.book.c7
  have hn := h.xn
  refine ⟨h.exTurned hs.kept hS hs.typ (fun o v ho _ hv => hs.low o v (by omega) hv) (h7.imp fun b hb => hs.low 7 _ (by omega) hb) hX hxa ⟨hn.1, hx, hn.2.2⟩, Stays.kept hs.kept ?_ hxa⟩
  rintro k (e | e | e | e) _
  · exact .inr (fun q => q.p e)
  · exact .inl e
  · exact .inr (fun q => q.x (x1 k e))
  · exact .inr (fun q => q.x (x2 k e))
theorem PairAt.begin14 (h : PairAt W0 w bp bb bs bm br cf gn la lc nsv nmv nn L M) {n : Nat} (hl : ∃ xs, w.ownsRow 0 32 1 lv n xs) : ApS 14 31 32 1 w bp lv gn.ex.lsv gn.ex.lmv w lv n gn.ex.lsv gn.ex.nl gn.ex.lmv gn.ex.nl :=
  ⟨h.book.typ, fun _ _ _ hv => hv, h.x.c14, h.x.c15, hl, h.x.ls, h.x.lm, by decide, fun _ e => .inl e, fun _ e => .inl e, fun _ e => .inl e, Kept.refl _ _⟩
theorem PairAt.begin12 (h : PairAt W0 w bp bb bs bm br cf gn la lc nsv nmv nn L M) {n : Nat} (hl : ∃ xs, w.ownsRow 0 95 3 lv n xs) : ApS 12 81 95 3 w bp lv gn.ex.gsv gn.ex.gmv w lv n gn.ex.gsv gn.ex.ng gn.ex.gmv gn.ex.ng :=
  ⟨h.book.typ, fun _ _ _ hv => hv, h.x.c12, h.x.c13, hl, h.x.gs, h.x.gm, by decide, fun _ e => .inl e, fun _ e => .inl e, fun _ e => .inl e, Kept.refl _ _⟩
end
end Go.Proofs.YtpkiefjanmfgfaaGreatDoor
namespace Go.Proofs.YtpkiefjanmfgfaaGreatDoor
open Go.RowKit Go.Maps

theorem info31 : (Tryz.prog.info? 31).map (fun i => (i.zero, i.size, i.bytes)) = some (some (.slice none 0 0), 1, 24) := by kernel_rfl
theorem row_of_block {w : World} {A e : Nat} {us : List Value} (h : w.heap[A]? = some (.cells us.toArray e (0, 0))) (hl : us.length ≤ 1000) : w.ownsRow 0 e 1 (.slice (some ⟨A, 0, none⟩) us.length us.length) us.length us :=
  ⟨by simp, .inr ⟨A, us.length, us.toArray, rfl, Nat.zero_le _, h, Nat.le_refl _, by unfold maxLen; omega, by simp, by simp⟩⟩
theorem djs_at {us : List Value} (h : Djs us) {i j : Nat} (hi : i < us.length) (hj : j < us.length) (hij : i < j) {g : Nat} (h1 : us[i].ownBlock = some g) : us[j].ownBlock ≠ some g := (List.pairwise_iff_getElem.1 h) i j hi hj hij g h1
theorem getD_at {us : List Value} {i : Nat} (hi : i < us.length) (z : Value) : us.getD i z = us[i] := by rw [List.getD_eq_getElem?_getD, List.getElem?_eq_getElem hi]; rfl
theorem set_same {us : List Value} {k : Nat} {v : Value} : ∀ i, k + 1 ≤ i → (us.set k v)[i]? = us[i]? := fun i hi => by rw [List.getElem?_set_ne (by omega)]

structure LiS (W0 w w' : World) (bp bb bs bm br : Nat) (cf : Cf) (gn : Net) (la : Option Addr) (lc : Nat) (nsv nmv nsv' nmv' : Value) (nn : Nat) (L M : List Ent) (A : Nat) (us us' : List Value) (k : Nat) : Prop where
  pair : PairAt W0 w' bp bb bs bm br cf gn la lc nsv' nmv' (nn + 4 * k) L M
  stay : Stays W0 w w' bp bb bs bm br gn gn la lc nsv nmv nsv' nmv' L M (fun x => x = A ∨ ∃ i, ∃ hi : i < us.length, i < k ∧ us[i].ownBlock = some x)
  blk : w'.heap[A]? = some (.cells us'.toArray 32 (0, 0))
  len : us'.length = us.length
  rest : ∀ i, k ≤ i → us'[i]? = us[i]?
section
variable {W0 w w' : World} {bp bb bs bm br : Nat} {cf : Cf} {gn : Net} {la : Option Addr} {lc : Nat} {nsv nmv nsv' nmv' : Value} {nn : Nat} {L M : List Ent} {A : Nat} {us us' : List Value} {ls : List (List Int)} {k : Nat}
theorem LiS.list (h : LiS W0 w w' bp bb bs bm br cf gn la lc nsv nmv nsv' nmv' nn L M A us us' k) (hl : LksAt w A us ls) (hus : ∀ u ∈ us, ∀ g, u.ownBlock = some g → Apart W0 g bp bb bs bm br gn la lc nsv nmv L M) (hdj : Djs us) (hk : k < us.length) :
    IRow w' us[k] (ls.getD k []) ∧ (∀ g, us[k].ownBlock = some g → Apart W0 g bp bb bs bm br gn la lc nsv' nmv' L M) ∧ w'.cell? ⟨A, k, none⟩ = some us[k] := by
  have hr := hl.row k (by rw [← hl.len]; exact hk)
  rw [getD_at hk] at hr
  refine ⟨ownsRow_of_block hr fun g hg => ?_, fun g hg => ?_, ?_⟩
  · have hlt := (hr.lt g hg).2
    refine (h.stay.2 g hlt (hus _ (List.getElem_mem hk) g hg)).2 ?_
    rintro (e | ⟨i, hi, hik, e⟩)
    · obtain ⟨c, hc⟩ := ownsRow_obj hr hg
      exact ne_of_elem hc hl.blk (by decide) e
    · exact djs_at hdj hi hk hik e hg
  · exact (h.stay.2 g (hr.lt g hg).2 (hus _ (List.getElem_mem hk) g hg)).1
  · simp only [World.cell?, h.blk]
    have := h.rest k (Nat.le_refl _)
    rw [List.getElem?_eq_getElem hk] at this
    simpa using this
theorem LiS.next {w3 : World} {nsv3 nmv3 lv' : Value} {n' : Nat} (h : LiS W0 w w' bp bb bs bm br cf gn la lc nsv nmv nsv' nmv' nn L M A us us' k) (hl : LksAt w A us ls) (hA : Apart W0 A bp bb bs bm br gn la lc nsv nmv L M) (hus : ∀ u ∈ us, ∀ g, u.ownBlock = some g → Apart W0 g bp bb bs bm br gn la lc nsv nmv L M) (hdj : Djs us) (hk : k < us.length)
    (hs : InS w' bp us[k] nsv' nmv' w3 lv' n' nsv3 (nn + 4 * k + 4) nmv3 (nn + 4 * k + 4)) (o : Obj) (v : Value) :
    w3.heap[A]? = some (.cells us'.toArray 32 (0, 0)) ∧ LiS W0 w ((w3.setCell ⟨A, k, none⟩ v).alloc o) bp bb bs bm br cf gn la lc nsv nmv nsv3 nmv3 nn L M A us (us'.set k v) (k + 1) := by
  obtain ⟨h1, h2, _⟩ := h.list hl hus hdj hk
  have hAl := heap_lt hl.blk
  have hA' := (h.stay.2 A hAl hA).1
  have hAl' := heap_lt h.blk
  have hnA : ¬ us[k].ownBlock = some A := fun e => by
    obtain ⟨c, hc⟩ := ownsRow_obj h1 e
    exact ne_of_elem hc h.blk (by decide) rfl
  have st3 := Stays.ints (W0 := W0) (bb := bb) (bs := bs) (bm := bm) (br := br) (gn := gn) (la := la) (lc := lc) (L := L) (M := M) hs
  have hA3 := st3.2 A hAl' hA'
  have hb3 := (hA3.2 hnA).trans h.blk
  have hP3 := h.pair.intsA h2 hs
  have hk5 : Kept (fun x => x = A) w3 (w3.setCell ⟨A, k, none⟩ v) := (Kept.refl (fun x => x = A) _).setCell (p := ⟨A, k, none⟩) (fun _ => rfl) v
  have hb5 : (w3.setCell ⟨A, k, none⟩ v).heap[A]? = some (.cells (us'.set k v).toArray 32 (0, 0)) := by
    rw [heap_setCell_same _ _ _ _ _ _ hb3]
    simp
  refine ⟨hb3, ⟨?_, ?_, (Below.heap_alloc _ _ _ (heap_lt hb5)).trans hb5, by simp [h.len], fun i hi => ?_⟩⟩
  · have := (hP3.one hA3.1 hk5).alloc o
    rw [show nn + 4 * (k + 1) = nn + 4 * k + 4 by omega]
    exact this
  · refine ((h.stay.trans st3 (R := fun x => x = A ∨ ∃ i, ∃ hi : i < us.length, i < k + 1 ∧ us[i].ownBlock = some x) ?_ ?_).trans (Stays.one (P := fun x => x = A) hk5 rfl) (fun _ _ e => e) (fun _ _ e => .inl e)).trans (Stays.below (P := fun _ => False) ((Below.refl _ _).alloc (Nat.le_refl _) o)) (fun _ _ e => e) (fun _ _ e => e.elim)
    · rintro x _ (e | ⟨i, hi, hik, e⟩)
      · exact .inl e
      · exact .inr ⟨i, hi, by omega, e⟩
    · intro x _ e
      exact .inr ⟨k, hk, by omega, e⟩
  · rw [set_same i hi, h.rest i (by omega)]
end

set_option maxHeartbeats 4000000 in
set_option maxRecDepth 20000 in
theorem lists128 (W0 w : World) (bp bb bs bm br : Nat) (cf : Cf) (gn : Net) (la : Option Addr) (lc : Nat) (nsv nmv : Value) (nn : Nat) (L M : List Ent) (A : Nat) (us : List Value) (ls : List (List Int)) (h : PairAt W0 w bp bb bs bm br cf gn la lc nsv nmv nn L M) (hl : LksAt w A us ls) (hA : Apart W0 A bp bb bs bm br gn la lc nsv nmv L M) (hus : ∀ u ∈ us, ∀ g, u.ownBlock = some g → Apart W0 g bp bb bs bm br gn la lc nsv nmv L M) (hdj : Djs us) (hone : 1 ≤ us.length) (hle : us.length ≤ 11) (hss : ∀ l ∈ ls, l.length ≤ 1000) (hnn : (nn + 100) * 24 ≤ 140737488355328) :
    Calls Tryz.prog 128 #[.pointer (some ⟨bp, 6, none⟩), .slice (some ⟨A, 0, none⟩) us.length us.length] w fun ev w' => ev = .returned (.tuple #[]) ∧ ∃ ex' nsv' nmv', PairAt W0 w' bp bb bs bm br cf { gn with ex := ex' } la lc nsv' nmv' (nn + 4 * us.length) L M ∧ ex'.ng = gn.ex.ng ∧
      Stays W0 w w' bp bb bs bm br gn { gn with ex := ex' } la lc nsv nmv nsv' nmv' L M (fun x => x = A ∨ ∃ u ∈ us, u.ownBlock = some x) := by
  obtain ⟨i3, hi3, hz30, hz31, hz32⟩ := info_parts info3
  obtain ⟨i31, hi31, hz310, hz311, hz312⟩ := info_parts info31
  obtain ⟨i32, hi32, hz320, hz321, hz322⟩ := info_parts info32
  obtain ⟨b6, h6⟩ := h.book.c6
  obtain ⟨b7, h7⟩ := h.book.c7
  have h7f := h.book.frozen 7
  have hnl := h.xn.2.2
  have HS0 : Hid (∀ nx nq, LiS W0 w ((w.setCell ⟨bp, 7, none⟩ (.int .i64 nx)).drewN nq) bp bb bs bm br cf gn la lc nsv nmv nsv nmv nn L M A us us 0) := fun nx nq => ⟨h.mark nx nq, Stays.mark nx nq, ((Stays.mark (W0 := W0) (bb := bb) (bs := bs) (bm := bm) (br := br) (gn := gn) (la := la) (lc := lc) (nsv := nsv) (nmv := nmv) (L := L) (M := M) nx nq (P := fun _ => False)).2 A (heap_lt hl.blk) hA).2 (fun e => e) |>.trans hl.blk, rfl, fun _ _ => rfl⟩
  have HL := hide hl
  have HA := hide hA
  have HUS := hide hus
  have HDJ := hide hdj
  have HSS := hide hss
  have HNN := hide hnn
  clear h hl hA hus hdj hss hnn
  go_enter Tryz.func128, Tryz.ntmps128
  go_wp2_with fail
  refine (mark58_any bp b6 b7 _ h6 h7 h7f).mono ?_
  rintro ev w1 ⟨m, nx, nq, rfl, rfl⟩
  have HS1 := hide (HS0.out nx nq)
  generalize (w.setCell ⟨bp, 7, none⟩ (.int .i64 nx)).drewN nq = w1 at HS1 ⊢
  clear HS0 h6 h7 h7f
  go_wp2
  go_loopw [5] (fun iv wr => ∃ (k : Nat) (us' : List Value) (nsv' nmv' : Value), iv = .int .i64 k ∧ k ≤ us.length ∧ Hid (LiS W0 w wr bp bb bs bm br cf gn la lc nsv nmv nsv' nmv' nn L M A us us' k)) (fun iv _ => us.length - (intOf iv).toNat)
  case atStart => exact ⟨0, us, nsv, nmv, rfl, Nat.zero_le _, HS1.out⟩
  case round =>
    clear HS1
    obtain ⟨k, us', nsv', nmv', rfl, hk, HS⟩ := hrel
    by_cases hlt : k < us.length
    · obtain ⟨r1, r2, r3⟩ := HS.out.list HL.out HUS.out HDJ.out hlt
      have hll : (ls.getD k []).length ≤ 1000 := by
        have hk2 : k < ls.length := by rw [← HL.out.len]; exact hlt
        rw [List.getD_eq_getElem?_getD, List.getElem?_eq_getElem hk2]
        exact HSS.out _ (List.getElem_mem hk2)
      have hAl := heap_lt HS.out.blk
      have HNX := hide (fun w3 nsv3 nmv3 lv' n' hs => HS.out.next (w3 := w3) (nsv3 := nsv3) (nmv3 := nmv3) (lv' := lv') (n' := n') HL.out HA.out HUS.out HDJ.out hlt hs)
      generalize us[k] = u at *
      obtain ⟨ua, uc, rfl, _⟩ := IRow_slice r1
      have hins := HS.out.pair.book.ins r1 (fun g hg => (r2 g hg).nm)
      generalize ls.getD k [] = l at *
      have HI := hide (ints35_any bp ua l.length uc nsv' nmv' (nn + 4 * k) wr hins (by omega) (by have h1 := HNN.out; exact Nat.le_trans (Nat.mul_le_mul_right 24 (by omega)) h1))
      clear r1 r2 hins
      go_wp2_with fail
      go_fit HI.out
      rintro ev w3 ⟨rfl, lv', nsv3, nmv3, hs3⟩
      have HNX3 := hide (HNX.out w3 nsv3 nmv3 lv' _ hs3)
      have x0 : w3.cell? ⟨A, k, none⟩ = some (us'.getD k (.slice none 0 0)) := by
        have hb := (HNX3.out (.cells #[] 3) (.int .i64 0)).1
        rw [cell_of_row w3 _ _ _ _ _ hb]
        have := HS.out.len
        simp [List.getD_eq_getElem?_getD, show k < us'.length by omega]
      have fz : w3.frozen? ⟨A, k, none⟩ = false := cells_frozen (HNX3.out (.cells #[] 3) (.int .i64 0)).1 _
      have hAl3 : A < w3.heap.size := heap_lt (HNX3.out (.cells #[] 3) (.int .i64 0)).1
      generalize us'.getD k (.slice none 0 0) = ox at x0
      clear hs3 HI HNX r3
      go_wp2
      exact ⟨⟨k + 1, _, nsv3, nmv3, by go_num, by omega, (HNX3.out _ _).2⟩, by simp [intOf]; omega⟩
    · obtain rfl : k = us.length := by omega
      have hlen := HS.out.len
      have hrow := row_of_block HS.out.blk (by omega)
      rw [hlen] at hrow
      have hA9 := (HS.out.stay.2 A (heap_lt HL.out.blk) HA.out).1
      have HA0 := hide (HS.out.pair.begin14 ⟨_, hrow⟩)
      have HFIN : Hid (∀ w' lv' n' v1 v2, ApS 14 31 32 1 wr bp (.slice (some ⟨A, 0, none⟩) us.length us.length) gn.ex.lsv gn.ex.lmv w' lv' n' v1 (gn.ex.nl + 4) v2 (gn.ex.nl + 4) → ∃ ex' nsv' nmv', PairAt W0 w' bp bb bs bm br cf { gn with ex := ex' } la lc nsv' nmv' (nn + 4 * us.length) L M ∧ ex'.ng = gn.ex.ng ∧
          Stays W0 w w' bp bb bs bm br gn { gn with ex := ex' } la lc nsv nmv nsv' nmv' L M (fun x => x = A ∨ ∃ u ∈ us, u.ownBlock = some x)) := fun w' lv' n' v1 v2 hs => by
        obtain ⟨p1, p2⟩ := HS.out.pair.ap14 (fun g hg => by
          obtain rfl : A = g := (by simpa [Value.ownBlock] using hg)
          exact hA9) hs (by omega)
        refine ⟨_, nsv', nmv', p1, rfl, HS.out.stay.trans p2 ?_ ?_⟩
        · rintro x _ (e | ⟨i, hi, _, e⟩)
          · exact .inl e
          · exact .inr ⟨us[i], List.getElem_mem hi, e⟩
        · intro x _ e
          left
          simpa [Value.ownBlock] using e.symm
      have hq : ∀ q, q < 4 → us.length + q + 1 ≤ maxLen ∧ (us.length + q + 1) * 24 ≤ 140737488355328 ∧ gn.ex.nl + q + 1 ≤ maxLen ∧ (gn.ex.nl + q + 1) * 24 ≤ 140737488355328 ∧ (gn.ex.nl + q + 1) * 8 ≤ 140737488355328 := fun q hq => by
        have h1 := HNN.out
        unfold maxLen
        omega
      have HQ := hide hq
      clear hrow hA9 hlen hq
      go_wp2
      go_loopw [1, 6] (fun lv iv wx => ∃ (q : Nat) (al : Option Addr) (cl : Nat) (v1 v2 : Value), q ≤ 4 ∧ iv = .int .i64 q ∧ lv = .slice al (us.length + q) cl ∧ Hid (ApS 14 31 32 1 wr bp (.slice (some ⟨A, 0, none⟩) us.length us.length) gn.ex.lsv gn.ex.lmv wx (.slice al (us.length + q) cl) (us.length + q) v1 (gn.ex.nl + q) v2 (gn.ex.nl + q))) (fun _ iv _ => 4 - (intOf iv).toNat)
      case atStart => exact ⟨0, some ⟨A, 0, none⟩, us.length, gn.ex.lsv, gn.ex.lmv, Nat.zero_le _, rfl, rfl, HA0.out⟩
      case round =>
        rename World => wx
        obtain ⟨q, al, cl, v1, v2, hq4, rfl, rfl, hr⟩ := hrel
        by_cases hlt : q < 4
        · have c8 := hr.out.c8
          have hbl := hr.out.lt
          obtain ⟨xl, hxl⟩ := hr.out.hl
          obtain ⟨ys, hys⟩ := hr.out.hs
          have HL1 := hide (one_of_row hxl)
          have HYS := hide hys
          clear hxl hys
          go_upto_region 10 with (at_builtin; go_must (refine wpList_append_lies _ rfl _ _ 35 rfl 0 31 i31 (.slice none 0 0) 1 24 Tryz.underlying35 hi31 hz310 hz311 hz312 rfl (by decide) v1 (gn.ex.nl + q) ys rfl (HYS.out.alloc _) ⟨wx.heap.size, 0, none⟩ 1 1 [.slice al (us.length + q) cl] rfl rfl (cell_one_new _ _ _) HL1.out (by decide) (HQ.out q hlt).2.2.1 (HQ.out q hlt).2.2.2.1 (Nat.zero_le _) (wx.heap.size + 1) (by simp) ?_); intro g1 cap1 w2 ho1 hg1 hl1 hlt1; obtain ⟨hS2, k8, k9, kf⟩ := (hr.out.below ((Below.refl _ _).alloc (Nat.le_refl _) _)).stepN ho1 hg1 (hl1.imp (fun e => e.symm) (fun e => (congrArg some e).trans (by simp))); obtain ⟨zs, hzs⟩ := hS2.hm; have HS2 := hide hS2; have HZS := hide hzs; clear hS2 hzs ho1 hg1 hl1)
          have k9' : w2.cell? ⟨bp, 15, none⟩ = some v2 := k9
          clear k9
          go_upto_region 11 with (at_builtin; go_must (refine wpList_append_lies _ rfl _ _ 32 rfl 0 3 i3 (.int .i64 0) 1 8 Tryz.underlying32 hi3 hz30 hz31 hz32 rfl (by decide) v2 (gn.ex.nl + q) zs rfl (HZS.out.alloc _) ⟨w2.heap.size, 0, none⟩ 1 1 [.int .i64 m] rfl rfl (cell_one_new' _ _ _ _ (by simp)) (ints_oneCell .i64 [m]) (by decide) (HQ.out q hlt).2.2.1 (HQ.out q hlt).2.2.2.2 (Nat.zero_le _) (w2.heap.size + 1) (by simp) ?_); intro g2 cap2 w3 ho2 hg2 hl2 hlt2; obtain ⟨hS3, m9, mf⟩ := (HS2.out.below ((Below.refl _ _).alloc (Nat.le_refl _) _)).stepM ho2 hg2 (hl2.imp (fun e => e.symm) (fun e => (congrArg some e).trans (by simp))); have m9' : w3.cell? ⟨bp, 15, none⟩ = some v2 := m9; have mf' : w3.frozen? ⟨bp, 15, none⟩ = false := mf; obtain ⟨xs3, hxs3⟩ := hS3.hl; have HS3 := hide hS3; have HLS := hide hxs3; clear hS3 hxs3 ho2 hg2 hl2 m9 mf)
          go_wp2_with (at_builtin; go_must (refine wpList_append_lies _ rfl _ _ 31 rfl 0 32 i32 (.slice none 0 0) 1 24 Tryz.underlying31 hi32 hz320 hz321 hz322 rfl (by decide) (.slice al (us.length + q) cl) (us.length + q) xs3 rfl ((HLS.out.alloc _).alloc _) ⟨w3.heap.size + 1, 0, none⟩ 1 1 [.slice (some ⟨w3.heap.size, 0, none⟩) 1 1] rfl rfl (cell_one_new' _ _ _ _ (by simp)) (by simp [Value.oneCell']) (by decide) (HQ.out q hlt).1 (HQ.out q hlt).2.1 (Nat.zero_le _) (w3.heap.size + 2) (by simp) ?_); intro g3 cap3 w4 ho3 hg3 hl3 hlt3; have HS4 := hide (((HS3.out.below ((Below.refl _ _).alloc (Nat.le_refl _) _)).below ((Below.refl _ _).alloc (Nat.le_refl _) _)).stepL ho3 hg3 (hl3.imp (fun e => e.symm) (fun e => (congrArg some e).trans (by simp)))))
          refine ⟨⟨q + 1, some ⟨g3, 0, none⟩, cap3, _, _, by omega, by go_num, rfl, HS4⟩, by simp [intOf]; omega⟩
        · obtain rfl : q = 4 := by omega
          go_wp2
          go_end0
          exact ⟨rfl, HFIN.out _ _ _ _ _ hr.out⟩
end Go.Proofs.YtpkiefjanmfgfaaGreatDoor
namespace Go.Proofs.YtpkiefjanmfgfaaGreatDoor
open Go.RowKit Go.Maps

theorem info81 : (Tryz.prog.info? 81).map (fun i => (i.zero, i.size, i.bytes)) = some (some (.slice none 0 0), 1, 24) := by kernel_rfl
def TB (nv : Value) (ns : List TNode) (k : Nat) : Prop := nv.ownBlock = some k ∨ ∃ n ∈ ns, n.A = k ∨ ∃ u ∈ n.us, u.ownBlock = some k
theorem NodesAt.blocks {w w' : World} {lk : Int × Int → List Int} {nv : Value} {ns : List TNode} (h : NodesAt w lk nv ns) (hb : ∀ k, TB nv ns k → w'.heap[k]? = w.heap[k]?) : NodesAt w' lk nv ns :=
  ⟨ownsRow_of_block h.row fun g hg => hb g (.inl hg), fun n hn => ⟨(hb _ (.inr ⟨n, hn, .inl rfl⟩)).trans (h.lks n hn).blk, (h.lks n hn).len, fun i hi => ownsRow_of_block ((h.lks n hn).row i hi) fun g hg => hb g (.inr ⟨n, hn, .inr ⟨_, by
    have hl : i < n.us.length := by rw [(h.lks n hn).len]; exact hi
    rw [getD_at hl]; exact List.getElem_mem hl, hg⟩⟩)⟩⟩
theorem NodesAt.lt {w : World} {lk : Int × Int → List Int} {nv : Value} {ns : List TNode} (h : NodesAt w lk nv ns) {k : Nat} (hk : TB nv ns k) : k < w.heap.size := by
  rcases hk with e | ⟨n, hn, rfl | ⟨u, hu, hg⟩⟩
  · exact (h.row.lt k e).2
  · exact heap_lt (h.lks n hn).blk
  · exact (h.lks n hn).lt hu hg
theorem djs_flat {ns : List TNode} (h : Djs (ns.flatMap (·.us))) {i j : Nat} (hi : i < ns.length) (hj : j < ns.length) (hij : j < i) {u v : Value} (hu : u ∈ ns[j].us) (hv : v ∈ ns[i].us) {g : Nat} (hg : u.ownBlock = some g) : v.ownBlock ≠ some g := by
  have e : ns = ns.take (j + 1) ++ ns.drop (j + 1) := (List.take_append_drop _ _).symm
  unfold Djs at h
  rw [e, List.flatMap_append, List.pairwise_append] at h
  refine h.2.2 u (List.mem_flatMap.2 ⟨ns[j], ?_, hu⟩) v (List.mem_flatMap.2 ⟨ns[i], ?_, hv⟩) g hg
  · exact List.mem_take_iff_getElem.2 ⟨j, by omega, rfl⟩
  · exact List.mem_drop_iff_getElem.2 ⟨i - (j + 1), by omega, by congr 1; omega⟩
theorem djs_one {ns : List TNode} (h : Djs (ns.flatMap (·.us))) {n : TNode} (hn : n ∈ ns) : Djs n.us := by
  obtain ⟨s, t, rfl⟩ := List.append_of_mem hn
  unfold Djs at h ⊢
  rw [List.flatMap_append, List.pairwise_append, List.flatMap_cons, List.pairwise_append] at h
  exact h.2.1.1

structure GrS (W0 w w' : World) (bp bb bs bm br : Nat) (cf : Cf) (gn gn' : Net) (la : Option Addr) (lc : Nat) (nsv nmv nsv' nmv' : Value) (nn nn' : Nat) (L M : List Ent) (nv : Value) (ns : List TNode) (cs : List Value) (i : Nat) : Prop where
  pair : PairAt W0 w' bp bb bs bm br cf gn' la lc nsv' nmv' nn' L M
  net : ∃ ex', gn' = { gn with ex := ex' } ∧ ex'.ng = gn.ex.ng
  le : nn ≤ nn' ∧ nn' ≤ nn + 44 * i
  stay : Stays W0 w w' bp bb bs bm br gn gn' la lc nsv nmv nsv' nmv' L M (fun x => nv.ownBlock = some x ∨ ∃ j, ∃ hj : j < ns.length, j < i ∧ (ns[j].A = x ∨ ∃ u ∈ ns[j].us, u.ownBlock = some x))
  row : w'.ownsRow 0 95 3 nv ns.length cs
  rest : ∀ k, 3 * i ≤ k → cs[k]? = (ncells ns)[k]?
section
variable {W0 w w' : World} {bp bb bs bm br : Nat} {cf : Cf} {gn gn' : Net} {la : Option Addr} {lc : Nat} {nsv nmv nsv' nmv' : Value} {nn nn' : Nat} {L M : List Ent} {nv : Value} {ns : List TNode} {cs : List Value} {i : Nat} {lk : Int × Int → List Int}
theorem GrS.node (h : GrS W0 w w' bp bb bs bm br cf gn gn' la lc nsv nmv nsv' nmv' nn nn' L M nv ns cs i) (hn : NodesAt w lk nv ns) (hT : ∀ k, TB nv ns k → Apart W0 k bp bb bs bm br gn la lc nsv nmv L M) (hAd : (ns.map (·.A)).Nodup) (hdj : Djs (ns.flatMap (·.us))) (hi : i < ns.length) :
    LksAt w' ns[i].A ns[i].us (nodeL lk ns[i].id (ns[i].t + 1)) ∧ Apart W0 ns[i].A bp bb bs bm br gn' la lc nsv' nmv' L M ∧ ∀ u ∈ ns[i].us, ∀ g, u.ownBlock = some g → Apart W0 g bp bb bs bm br gn' la lc nsv' nmv' L M := by
  have hm := List.getElem_mem hi
  have hl := hn.lks _ hm
  have tA : TB nv ns ns[i].A := .inr ⟨_, hm, .inl rfl⟩
  have tU : ∀ u ∈ ns[i].us, ∀ g, u.ownBlock = some g → TB nv ns g := fun u hu g hg => .inr ⟨_, hm, .inr ⟨u, hu, hg⟩⟩
  have bA := (h.stay.2 _ (hn.lt tA) (hT _ tA)).2 (by
    rintro (e | ⟨j, hj, hji, e | ⟨u, hu, e⟩⟩)
    · obtain ⟨c, hc⟩ := ownsRow_obj hn.row e
      exact ne_of_elem hl.blk hc (by decide) rfl
    · have := (List.pairwise_iff_getElem.1 hAd) j i (by simpa using hj) (by simpa using hi) hji
      simp at this
      exact this e
    · obtain ⟨k, hk, rfl⟩ := List.mem_iff_getElem.1 hu
      have hlj := hn.lks _ (List.getElem_mem hj)
      have hr := hlj.row k (by rw [← hlj.len]; exact hk)
      rw [getD_at hk] at hr
      obtain ⟨c, hc⟩ := ownsRow_obj hr e
      exact ne_of_elem hl.blk hc (by decide) rfl)
  have bU : ∀ u ∈ ns[i].us, ∀ g, u.ownBlock = some g → w'.heap[g]? = w.heap[g]? := fun u hu g hg => (h.stay.2 g (hn.lt (tU u hu g hg)) (hT g (tU u hu g hg))).2 (by
    obtain ⟨k, hk, rfl⟩ := List.mem_iff_getElem.1 hu
    have hr := hl.row k (by rw [← hl.len]; exact hk)
    rw [getD_at hk] at hr
    obtain ⟨c, hc⟩ := ownsRow_obj hr hg
    rintro (e | ⟨j, hj, hji, e | ⟨u2, hu2, e⟩⟩)
    · obtain ⟨c2, hc2⟩ := ownsRow_obj hn.row e
      exact ne_of_elem hc hc2 (by decide) rfl
    · have hb2 := (hn.lks _ (List.getElem_mem hj)).blk
      rw [e] at hb2
      exact ne_of_elem hc hb2 (by decide) rfl
    · exact djs_flat hdj hi hj hji hu2 hu e hg)
  refine ⟨⟨bA.trans hl.blk, hl.len, fun k hk => ownsRow_of_block (hl.row k hk) fun g hg => ?_⟩, (h.stay.2 _ (hn.lt tA) (hT _ tA)).1, fun u hu g hg => (h.stay.2 g (hn.lt (tU u hu g hg)) (hT g (tU u hu g hg))).1⟩
  have hk2 : k < ns[i].us.length := by rw [hl.len]; exact hk
  rw [getD_at hk2] at hg
  exact bU _ (List.getElem_mem hk2) g hg
theorem GrS.place (h : GrS W0 w w' bp bb bs bm br cf gn gn' la lc nsv nmv nsv' nmv' nn nn' L M nv ns cs i) {g c : Nat} (hv : nv = .slice (some ⟨g, 0, none⟩) ns.length c) (hi : i < ns.length) : w'.cell? ⟨g, i * 3 + 2, none⟩ = some (.slice (some ⟨ns[i].A, 0, none⟩) (ns[i].t + 1) (ns[i].t + 1)) := by
  have hr := h.row
  rw [hv] at hr
  refine ownsRow_cell hr ?_
  rw [h.rest _ (by omega), ncells_get ns i 2 hi (by omega)]
  rfl
theorem GrS.next {w3 : World} {ex3 : Bks} {nsv3 nmv3 : Value} (h : GrS W0 w w' bp bb bs bm br cf gn gn' la lc nsv nmv nsv' nmv' nn nn' L M nv ns cs i) (hn : NodesAt w lk nv ns) (hT : ∀ k, TB nv ns k → Apart W0 k bp bb bs bm br gn la lc nsv nmv L M) {g c : Nat} (hv : nv = .slice (some ⟨g, 0, none⟩) ns.length c) (hi : i < ns.length) (hlen : ns[i].us.length ≤ 11)
    (hp : PairAt W0 w3 bp bb bs bm br cf { gn' with ex := ex3 } la lc nsv3 nmv3 (nn' + 4 * ns[i].us.length) L M) (hng : ex3.ng = gn'.ex.ng) (hs : Stays W0 w' w3 bp bb bs bm br gn' { gn' with ex := ex3 } la lc nsv' nmv' nsv3 nmv3 L M (fun x => x = ns[i].A ∨ ∃ u ∈ ns[i].us, u.ownBlock = some x)) :
    w3.ownsRow 0 95 3 nv ns.length cs ∧ ∀ a b d, GrS W0 w (((w3.setCell ⟨g, i * 3, none⟩ a).setCell ⟨g, i * 3 + 1, none⟩ b).setCell ⟨g, i * 3 + 2, none⟩ d) bp bb bs bm br cf gn { gn' with ex := ex3 } la lc nsv nmv nsv3 nmv3 nn (nn' + 4 * ns[i].us.length) L M nv ns (((cs.set (i * 3) a).set (i * 3 + 1) b).set (i * 3 + 2) d) (i + 1) := by
  have hm := List.getElem_mem hi
  have tg : TB nv ns g := .inl (by rw [hv]; rfl)
  have hlt := hn.lt tg
  have hA' := (h.stay.2 g hlt (hT g tg)).1
  have hg0 : nv.ownBlock = some g := by rw [hv]; rfl
  obtain ⟨cg, hcg⟩ := ownsRow_obj hn.row hg0
  have hl := hn.lks _ hm
  have hl2 : g < w'.heap.size := (h.row.lt g hg0).2
  have hA3 := hs.2 g hl2 hA'
  have hb3 := hA3.2 (by
    rintro (e | ⟨u, hu, e⟩)
    · rw [e] at hcg
      exact ne_of_elem hl.blk hcg (by decide) rfl
    · obtain ⟨k, hk, rfl⟩ := List.mem_iff_getElem.1 hu
      have hr := hl.row k (by rw [← hl.len]; exact hk)
      rw [getD_at hk] at hr
      obtain ⟨c, hc⟩ := ownsRow_obj hr e
      exact ne_of_elem hc hcg (by decide) rfl)
  have hrow3 : w3.ownsRow 0 95 3 nv ns.length cs := ownsRow_of_block h.row fun g' hg' => by
    rw [hg0] at hg'
    obtain rfl := Option.some.inj hg'
    exact hb3
  refine ⟨hrow3, fun a b d => ?_⟩
  have hk5 : Kept (fun x => x = g) w3 (((w3.setCell ⟨g, i * 3, none⟩ a).setCell ⟨g, i * 3 + 1, none⟩ b).setCell ⟨g, i * 3 + 2, none⟩ d) := (((Kept.refl (fun x => x = g) w3).setCell (p := ⟨g, i * 3, none⟩) (fun _ => rfl) _).setCell (p := ⟨g, i * 3 + 1, none⟩) (fun _ => rfl) _).setCell (p := ⟨g, i * 3 + 2, none⟩) (fun _ => rfl) _
  obtain ⟨ex', e1, e2⟩ := h.net
  have hle := h.le
  refine ⟨hp.one hA3.1 hk5, ⟨ex3, by rw [e1], by rw [hng, e1]; exact e2⟩, by omega, ?_, ?_, fun k hk => ?_⟩
  · refine (h.stay.trans hs (R := fun x => nv.ownBlock = some x ∨ ∃ j, ∃ hj : j < ns.length, j < i + 1 ∧ (ns[j].A = x ∨ ∃ u ∈ ns[j].us, u.ownBlock = some x)) ?_ ?_).trans (Stays.one (P := fun x => x = g) hk5 rfl) (fun _ _ e => e) (fun _ _ e => .inl (by rw [e]; exact hg0))
    · rintro x _ (e | ⟨j, hj, hji, e⟩)
      · exact .inl e
      · exact .inr ⟨j, hj, by omega, e⟩
    · rintro x _ (e | e)
      · exact .inr ⟨i, hi, by omega, .inl e.symm⟩
      · exact .inr ⟨i, hi, by omega, .inr e⟩
  · rw [hv] at hrow3 ⊢
    exact ownsRow_set (ownsRow_set (ownsRow_set hrow3 _ _) _ _) _ _
  · rw [List.getElem?_set_ne (by omega), List.getElem?_set_ne (by omega), List.getElem?_set_ne (by omega), h.rest k (by omega)]
end
end Go.Proofs.YtpkiefjanmfgfaaGreatDoor
namespace Go.Proofs.YtpkiefjanmfgfaaGreatDoor
open Go.RowKit Go.Maps

theorem news_three (w : World) (x y z : Value) (t : TypeId) (H0 : Nat) (h : H0 = w.heap.size) : ∀ j u, [x, y, z][j]? = some u → (w.alloc (.cells #[x, y, z] t)).cell? ((⟨H0, 0, none⟩ : Addr).add j) = some u := by
  subst h
  exact World.news_of_block (cs := #[x, y, z]) (t := t) (fr := (0, 0)) (heap_alloc_new _ _)

set_option maxHeartbeats 4000000 in
set_option maxRecDepth 20000 in
theorem graph85 (W0 w : World) (bp bb bs bm br : Nat) (cf : Cf) (gn : Net) (la : Option Addr) (lc : Nat) (nsv nmv : Value) (nn : Nat) (L M : List Ent) (has : Bool) (ent : Int) (chv nv : Value) (ch : List Int) (lk : Int × Int → List Int) (ns : List TNode) (h : PairAt W0 w bp bb bs bm br cf gn la lc nsv nmv nn L M) (hc : IRow w chv ch) (hn : NodesAt w lk nv ns)
    (hcA : ∀ g, chv.ownBlock = some g → Apart W0 g bp bb bs bm br gn la lc nsv nmv L M) (hT : ∀ k, TB nv ns k → Apart W0 k bp bb bs bm br gn la lc nsv nmv L M) (hcT : ∀ n ∈ ns, ∀ u ∈ n.us, ∀ g, u.ownBlock = some g → chv.ownBlock ≠ some g) (hAd : (ns.map (·.A)).Nodup) (hdj : Djs (ns.flatMap (·.us)))
    (hcl : ch.length ≤ 60) (hnl : ns.length ≤ 60) (ht : ∀ n ∈ ns, n.t ≤ 10) (hss : ∀ p, (lk p).length ≤ 1000) (hnn : (nn + 4000) * 24 ≤ 140737488355328) :
    Calls Tryz.prog 85 #[.pointer (some ⟨bp, 6, none⟩), .agg #[.bool has, .int .i64 ent, chv, nv]] w fun ev w' => ev = .returned (.tuple #[]) ∧ ∃ ex' nsv' nmv' nn', nn ≤ nn' ∧ nn' ≤ nn + 3000 ∧ PairAt W0 w' bp bb bs bm br cf { gn with ex := ex' } la lc nsv' nmv' nn' L M := by
  obtain ⟨i3, hi3, hz30, hz31, hz32⟩ := info_parts info3
  obtain ⟨i81, hi81, hz810, hz811, hz812⟩ := info_parts info81
  obtain ⟨i95, hi95, hz950, hz951, hz952⟩ := info_parts info95
  obtain ⟨ca, cc, rfl, hca0⟩ := IRow_slice hc
  clear hca0
  obtain ⟨na, nc, rfl, hna⟩ := hn.slice
  have hng := h.xn.2.1
  have hct : ∀ k, TB (.slice na ns.length nc) ns k → ¬ (Value.slice ca ch.length cc).ownBlock = some k := fun k hk e => by
    obtain ⟨c1, hc1⟩ := ownsRow_obj hc e
    rcases hk with e2 | ⟨n, hm, rfl | ⟨u, hu, hg⟩⟩
    · obtain ⟨c2, hc2⟩ := ownsRow_obj hn.row e2
      exact ne_of_elem hc1 hc2 (by decide) rfl
    · exact ne_of_elem hc1 (hn.lks n hm).blk (by decide) rfl
    · exact hcT n hm u hu k hg e
  obtain ⟨w1, hw1⟩ : ∃ w1, w1 = w.alloc (.cells #[.bool has, .int .i64 ent, .slice ca ch.length cc, .slice na ns.length nc] 83) := ⟨_, rfl⟩
  have hb1 : Below w.heap.size w w1 := hw1 ▸ (Below.refl _ _).alloc (Nat.le_refl _) _
  have hx1 : w1.heap[w.heap.size]? = some (.cells #[.bool has, .int .i64 ent, .slice ca ch.length cc, .slice na ns.length nc] 83 (0, 0)) := by rw [hw1]; exact heap_alloc_new _ _
  have h1 := h.below hb1
  have hbx := h.apart (A := w.heap.size) (Nat.le_refl _)
  have x2 : w1.cell? ⟨w.heap.size, 2, none⟩ = some (.slice ca ch.length cc) := cells_at hx1 2 rfl
  have hc1 := ownsRow_below hc hb1
  have HCX : Hid (∀ g, (Value.slice ca ch.length cc).ownBlock = some g → g < w.heap.size) := fun g hg => (hc.lt g hg).2
  have HTX : Hid (∀ k, TB (.slice na ns.length nc) ns k → k < w.heap.size) := fun k hk => hn.lt hk
  have HI := hide (ints35_any bp ca ch.length cc nsv nmv nn w1 (h1.book.ins hc1 (fun g hg => (hcA g hg).nm)) (by omega) (Nat.le_trans (Nat.mul_le_mul_right 24 (by omega)) hnn))
  have HN1 := hide (hn.below hb1)
  have H1 := hide h1
  have HX1 := hide hx1
  have HBX := hide hbx
  have HT := hide hT
  have HCA := hide hcA
  have HCT := hide hct
  have HAD := hide hAd
  have HDJ := hide hdj
  have HTT := hide ht
  have HSS := hide hss
  have HNN := hide hnn
  have HNA := hide hna
  clear h hc hn hcA hT hcT hAd hdj ht hss hnn hna hct hx1 hb1 h1 hbx hc1
  go_enter Tryz.func85, Tryz.ntmps85
  go_wp2_with fail
  rw [← hw1]
  clear hw1
  go_fit HI.out
  rintro ev w2 ⟨rfl, lv2, nsv2, nmv2, hs2⟩
  have h2 := H1.out.intsA HCA.out hs2
  have st2 := Stays.ints (W0 := W0) (bb := bb) (bs := bs) (bm := bm) (br := br) (gn := gn) (la := la) (lc := lc) (L := L) (M := M) hs2
  have hn2 := HN1.out.blocks (fun k hk => (st2.2 k (HN1.out.lt hk) (HT.out k hk)).2 (HCT.out k hk))
  have hT2 : ∀ k, TB (.slice na ns.length nc) ns k → Apart W0 k bp bb bs bm br gn la lc nsv2 nmv2 L M := fun k hk => (st2.2 k (HN1.out.lt hk) (HT.out k hk)).1
  have hbx2 := st2.2 _ (heap_lt HX1.out) HBX.out
  have hx2 := (hbx2.2 (fun e => by have := HCX.out _ e; omega)).trans HX1.out
  obtain ⟨b6, h6⟩ := h2.book.c6
  obtain ⟨b7, h7⟩ := h2.book.c7
  have h7f := h2.book.frozen 7
  have HM : Hid (∀ nx nq, PairAt W0 ((w2.setCell ⟨bp, 7, none⟩ (.int .i64 nx)).drewN nq) bp bb bs bm br cf gn la lc nsv2 nmv2 (nn + 4) L M ∧ NodesAt ((w2.setCell ⟨bp, 7, none⟩ (.int .i64 nx)).drewN nq) lk (.slice na ns.length nc) ns ∧ ((w2.setCell ⟨bp, 7, none⟩ (.int .i64 nx)).drewN nq).heap[w.heap.size]? = some (.cells #[.bool has, .int .i64 ent, .slice ca ch.length cc, .slice na ns.length nc] 83 (0, 0)) ∧ w2.heap.size ≤ ((w2.setCell ⟨bp, 7, none⟩ (.int .i64 nx)).drewN nq).heap.size) := fun nx nq => by
    have st3 := Stays.mark (W0 := W0) (w := w2) (bp := bp) (bb := bb) (bs := bs) (bm := bm) (br := br) (gn := gn) (la := la) (lc := lc) (nsv := nsv2) (nmv := nmv2) (L := L) (M := M) nx nq (P := fun _ => False)
    exact ⟨h2.mark nx nq, hn2.blocks (fun k hk => (st3.2 k (hn2.lt hk) (hT2 k hk)).2 (fun e => e)), ((st3.2 _ (heap_lt hx2) hbx2.1).2 (fun e => e)).trans hx2, st3.1⟩
  have HT2 := hide hT2
  have hz2 : w.heap.size < w2.heap.size := heap_lt hx2
  have HZ2 := hide hz2
  clear h2 st2 hn2 hT2 hbx2 hx2 hs2 HI HT HCT HCA HBX x2 hz2
  go_wp2_with fail
  refine (mark58_any bp b6 b7 _ h6 h7 h7f).mono ?_
  rintro ev w3 ⟨m, nx, nq, rfl, rfl⟩
  obtain ⟨h3, hn3, hx3, hz3⟩ := HM.out nx nq
  generalize (w2.setCell ⟨bp, 7, none⟩ (.int .i64 nx)).drewN nq = w3 at h3 hn3 hx3 hz3 ⊢
  clear HM h6 h7 h7f
  obtain ⟨w4, hw4⟩ : ∃ w4, w4 = w3.alloc (.cells #[.int .i64 m, .int .i64 (wrap64 (-m)), .slice none 0 0] 95) := ⟨_, rfl⟩
  have hb4 : Below w3.heap.size w3 w4 := hw4 ▸ (Below.refl _ _).alloc (Nat.le_refl _) _
  have hX4 : w4.heap[w3.heap.size]? = some (.cells #[.int .i64 m, .int .i64 (wrap64 (-m)), .slice none 0 0] 95 (0, 0)) := by rw [hw4]; exact heap_alloc_new _ _
  have hXA := h3.apart (A := w3.heap.size) (Nat.le_refl _)
  have h4 := h3.below hb4
  have hn4 := hn3.below hb4
  have x3 : w4.cell? ⟨w.heap.size, 3, none⟩ = some (.slice na ns.length nc) := cells_at ((hb4.block _ (heap_lt hx3)).trans hx3) 3 rfl
  have HG0 : Hid (GrS W0 w4 w4 bp bb bs bm br cf gn gn la lc nsv2 nmv2 nsv2 nmv2 (nn + 4) (nn + 4) L M (.slice na ns.length nc) ns (ncells ns) 0) := ⟨h4, ⟨gn.ex, rfl, rfl⟩, by omega, Stays.refl _ _ _ _ _ _ _ _ _ _ _ _ _ _ _, hn4.row, fun _ _ => rfl⟩
  have hXT : ∀ k, TB (.slice na ns.length nc) ns k → k ≠ w3.heap.size := fun k hk e => by have h1 := HTX.out k hk; have h2 := HZ2.out; omega
  have HX4 := hide hX4
  have HXA := hide hXA
  have HXT := hide hXT
  have HN4 := hide hn4
  clear h3 hn3 hx3 hb4 hX4 hXA h4 hn4 hXT hz3 HN1 H1 HX1
  go_upto_region 4 with fail
  rw [← hw4]
  clear hw4
  generalize w3.heap.size = X at *
  generalize wrap64 (-m) = m' at *
  go_wp2
  clear x3
  go_loopw [7] (fun iv wr => ∃ (i : Nat) (gn' : Net) (nsv' nmv' : Value) (nn' : Nat) (cs : List Value), iv = .int .i64 i ∧ i ≤ ns.length ∧ Hid (GrS W0 w4 wr bp bb bs bm br cf gn gn' la lc nsv2 nmv2 nsv' nmv' (nn + 4) nn' L M (.slice na ns.length nc) ns cs i)) (fun iv _ => ns.length - (intOf iv).toNat)
  case atStart => exact ⟨0, gn, nsv2, nmv2, nn + 4, ncells ns, rfl, Nat.zero_le _, HG0.out⟩
  case round =>
    clear HG0
    obtain ⟨i, gn', nsv', nmv', nn', cs, rfl, hi, HG⟩ := hrel
    have hXr := HG.out.stay.2 X (heap_lt HX4.out) HXA.out
    have hXb : wr.heap[X]? = some (.cells #[.int .i64 m, .int .i64 m', .slice none 0 0] 95 (0, 0)) := (hXr.2 (by
      rintro (e | ⟨j, hj, _, e⟩)
      · exact HXT.out X (.inl e) rfl
      · exact HXT.out X (.inr ⟨_, List.getElem_mem hj, e⟩) rfl)).trans HX4.out
    have HXB := hide hXb
    have HXR := hide hXr.1
    clear hXr hXb
    by_cases hlt : i < ns.length
    · obtain ⟨g, rfl⟩ := HNA.out (by omega)
      obtain ⟨r1, r2, r3⟩ := HG.out.node HN4.out HT2.out HAD.out HDJ.out hlt
      have hpl := HG.out.place rfl hlt
      have htt := HTT.out _ (List.getElem_mem hlt)
      have hul : ns[i].us.length = ns[i].t + 1 := by rw [r1.len, nodeL_len]
      have hle := HG.out.le
      have HLI := hide (lists128 W0 wr bp bb bs bm br cf gn' la lc nsv' nmv' nn' L M ns[i].A ns[i].us _ HG.out.pair r1 r2 r3 (djs_one HDJ.out (List.getElem_mem hlt)) (by omega) (by omega) (fun l hl => by
        unfold nodeL at hl
        obtain ⟨k, _, rfl⟩ := List.mem_map.1 hl
        exact HSS.out _) (by have h1 := HNN.out; exact Nat.le_trans (Nat.mul_le_mul_right 24 (by omega)) h1))
      have HNX := hide (fun w5 ex5 nsv5 nmv5 hp hng hs => HG.out.next (w3 := w5) (ex3 := ex5) (nsv3 := nsv5) (nmv3 := nmv5) HN4.out HT2.out rfl hlt (by omega) hp hng hs)
      have HXN : Hid (¬ (X = ns[i].A ∨ ∃ u ∈ ns[i].us, u.ownBlock = some X)) := by
        rintro (e | ⟨u, hu, e⟩)
        · exact HXT.out X (.inr ⟨_, List.getElem_mem hlt, .inl e.symm⟩) rfl
        · exact HXT.out X (.inr ⟨_, List.getElem_mem hlt, .inr ⟨u, hu, e⟩⟩) rfl
      rw [hul] at HLI HNX
      clear r1 r2 r3 hul htt hle
      generalize ns[i].A = A at *
      generalize ns[i].t = t at *
      generalize ns[i].us = us at *
      have hgl : g < wr.heap.size := (HG.out.row.lt g rfl).2
      go_wp2_with fail
      go_fit HLI.out
      rintro ev w5 ⟨rfl, ex5, nsv5, nmv5, hp5, hng5, hs5⟩
      obtain ⟨hr5, HN5⟩ := HNX.out w5 ex5 nsv5 nmv5 hp5 hng5 hs5
      have hX5 := ((hs5.2 X (heap_lt HXB.out) HXR.out).2 HXN.out).trans HXB.out
      have y0 := cells_at hX5 0 rfl
      have y1 := cells_at hX5 1 rfl
      have y2 := cells_at hX5 2 rfl
      simp only [List.getElem_toArray, List.getElem_cons_zero, List.getElem_cons_succ] at y0 y1 y2
      have hcl5 : cs.length = ns.length * 3 := hr5.1
      have z0 : w5.cell? ⟨g, i * 3, none⟩ = some cs[i * 3] := ownsRow_cell hr5 (List.getElem?_eq_getElem (by omega))
      have z1 : w5.cell? ⟨g, i * 3 + 1, none⟩ = some cs[i * 3 + 1] := ownsRow_cell hr5 (List.getElem?_eq_getElem (by omega))
      have z2 : w5.cell? ⟨g, i * 3 + 2, none⟩ = some cs[i * 3 + 2] := ownsRow_cell hr5 (List.getElem?_eq_getElem (by omega))
      have hfz := ownsRow_frozen hr5
      have hgX : g ≠ X := HXT.out g (.inl rfl)
      generalize cs[i * 3] = q0 at z0
      generalize cs[i * 3 + 1] = q1 at z1
      generalize cs[i * 3 + 2] = q2 at z2
      have HN5' := hide HN5
      clear HN5 hr5 hX5 hp5 hng5 hs5 HLI HNX hcl5 hpl
      go_wp2
      exact ⟨⟨i + 1, _, nsv5, nmv5, _, _, by go_num, by omega, HN5'.out _ _ _⟩, by simp [intOf]; omega⟩
    · obtain rfl : i = ns.length := by omega
      clear hlt hi
      have hle := HG.out.le
      obtain ⟨ex1, hg1, hng1⟩ := HG.out.net
      have hnge : gn'.ex.ng = gn.ex.ng := by rw [hg1]; exact hng1
      have HA0 := hide (HG.out.pair.begin12 ⟨_, HG.out.row⟩)
      have hTn : ∀ g, (Value.slice na ns.length nc).ownBlock = some g → Apart W0 g bp bb bs bm br gn' la lc nsv' nmv' L M := fun g hg => (HG.out.stay.2 g (HN4.out.lt (.inl hg)) (HT2.out g (.inl hg))).1
      have hXl := heap_lt HXB.out
      have hXb : wr.heap[X]? = some (.cells #[.int .i64 m, .int .i64 m', .slice none 0 0] 95 (0, 0)) := HXB.out
      have hXo : X ≠ bp := HXR.out.p
      have hXw : ∀ {o E e sz : Nat} {lv' : Value} {w' : World} {n' : Nat} {v1 v2 : Value} {a b : Nat}, ApS o E e sz wr bp (.slice na ns.length nc) gn'.ex.gsv gn'.ex.gmv w' lv' n' v1 a v2 b → w'.heap[X]? = some (.cells #[.int .i64 m, .int .i64 m', .slice none 0 0] 95 (0, 0)) := fun hs => (hs.kept.block X hXl (by
        rintro (e | e | e | e)
        · exact hXo e
        · exact HXT.out X (.inl e) rfl
        · exact HXR.out.x (.inr (.inr (.inl e)))
        · exact HXR.out.x (.inr (.inr (.inr (.inl e)))))).trans hXb
      have HXW : Hid (∀ (lv' : Value) (w' : World) (n' : Nat) (v1 v2 : Value) (a b : Nat), ApS 12 81 95 3 wr bp (.slice na ns.length nc) gn'.ex.gsv gn'.ex.gmv w' lv' n' v1 a v2 b → w'.heap[X]? = some (.cells #[.int .i64 m, .int .i64 m', .slice none 0 0] 95 (0, 0))) := fun _ _ _ _ _ _ _ hs => hXw hs
      have HFIN : Hid (∀ w' lv' n' v1 v2, ApS 12 81 95 3 wr bp (.slice na ns.length nc) gn'.ex.gsv gn'.ex.gmv w' lv' n' v1 (gn'.ex.ng + 4) v2 (gn'.ex.ng + 4) → ∃ ex' nsv' nmv' nn', nn ≤ nn' ∧ nn' ≤ nn + 3000 ∧ PairAt W0 w' bp bb bs bm br cf { gn with ex := ex' } la lc nsv' nmv' nn' L M) := fun w' lv' n' v1 v2 hs => by
        have p1 := (HG.out.pair.ap12 hTn hs (by omega)).1
        rw [hg1] at p1
        exact ⟨_, nsv', nmv', nn', by omega, by omega, p1⟩
      have hq : ∀ q, q < 4 → ns.length + q + 1 ≤ maxLen ∧ (ns.length + q + 1) * 40 ≤ 140737488355328 ∧ gn'.ex.ng + q + 1 ≤ maxLen ∧ (gn'.ex.ng + q + 1) * 24 ≤ 140737488355328 ∧ (gn'.ex.ng + q + 1) * 8 ≤ 140737488355328 := fun q hq => by
        have h1 := HNN.out
        unfold maxLen
        omega
      have HQ := hide hq
      clear hTn hXw hXo hXb hle hnge hq hg1 hng1 hXl hng hcl hnl
      go_wp2
      go_loopw [6, 8] (fun lv iv wx => ∃ (q : Nat) (al : Option Addr) (cl : Nat) (v1 v2 : Value), q ≤ 4 ∧ iv = .int .i64 q ∧ lv = .slice al (ns.length + q) cl ∧ Hid (ApS 12 81 95 3 wr bp (.slice na ns.length nc) gn'.ex.gsv gn'.ex.gmv wx (.slice al (ns.length + q) cl) (ns.length + q) v1 (gn'.ex.ng + q) v2 (gn'.ex.ng + q))) (fun _ iv _ => 4 - (intOf iv).toNat)
      case atStart => exact ⟨0, na, nc, gn'.ex.gsv, gn'.ex.gmv, Nat.zero_le _, rfl, rfl, HA0.out⟩
      case round =>
        rename World => wx
        obtain ⟨q, al, cl, v1, v2, hq4, rfl, rfl, hr⟩ := hrel
        by_cases hlt : q < 4
        · have c8 := hr.out.c8
          have hbl := hr.out.lt
          obtain ⟨xl, hxl⟩ := hr.out.hl
          obtain ⟨ys, hys⟩ := hr.out.hs
          have HL1 := hide (one_of_row hxl)
          have HYS := hide hys
          clear hxl hys
          have hd : decide ((q : Int) < 4) = true := decide_eq_true (by omega)
          go_upto_region 14 with (at_builtin; go_must (refine wpList_append_lies _ rfl _ _ 34 rfl 0 81 i81 (.slice none 0 0) 1 24 Tryz.underlying34 hi81 hz810 hz811 hz812 rfl (by decide) v1 (gn'.ex.ng + q) ys rfl (HYS.out.alloc _) ⟨wx.heap.size, 0, none⟩ 1 1 [.slice al (ns.length + q) cl] rfl rfl (cell_one_new _ _ _) HL1.out (by decide) (HQ.out q hlt).2.2.1 (HQ.out q hlt).2.2.2.1 (Nat.zero_le _) (wx.heap.size + 1) (by simp) ?_); intro g1 cap1 w2 ho1 hg1 hl1 hlt1; obtain ⟨hS2, k8, k9, kf⟩ := (hr.out.below ((Below.refl _ _).alloc (Nat.le_refl _) _)).stepN ho1 hg1 (hl1.imp (fun e => e.symm) (fun e => (congrArg some e).trans (by simp))); obtain ⟨zs, hzs⟩ := hS2.hm; have HS2 := hide hS2; have HZS := hide hzs; clear hS2 hzs ho1 hg1 hl1)
          have k9' : w2.cell? ⟨bp, 13, none⟩ = some v2 := k9
          clear k9
          go_upto_region 15 with (at_builtin; go_must (refine wpList_append_lies _ rfl _ _ 32 rfl 0 3 i3 (.int .i64 0) 1 8 Tryz.underlying32 hi3 hz30 hz31 hz32 rfl (by decide) v2 (gn'.ex.ng + q) zs rfl (HZS.out.alloc _) ⟨w2.heap.size, 0, none⟩ 1 1 [.int .i64 m] rfl rfl (cell_one_new' _ _ _ _ (by simp)) (ints_oneCell .i64 [m]) (by decide) (HQ.out q hlt).2.2.1 (HQ.out q hlt).2.2.2.2 (Nat.zero_le _) (w2.heap.size + 1) (by simp) ?_); intro g2 cap2 w3 ho2 hg2 hl2 hlt2; obtain ⟨hS3, m9, mf⟩ := (HS2.out.below ((Below.refl _ _).alloc (Nat.le_refl _) _)).stepM ho2 hg2 (hl2.imp (fun e => e.symm) (fun e => (congrArg some e).trans (by simp))); have m9' : w3.cell? ⟨bp, 13, none⟩ = some v2 := m9; have mf' : w3.frozen? ⟨bp, 13, none⟩ = false := mf; obtain ⟨xs3, hxs3⟩ := hS3.hl; have HS3 := hide hS3; have HLS := hide hxs3; clear hS3 hxs3 ho2 hg2 hl2 m9 mf)
          have hX3 := HXW.out _ _ _ _ _ _ _ HS3.out
          have bx0 := cells_at hX3 0 rfl
          have bx1 := cells_at hX3 1 rfl
          have bx2 := cells_at hX3 2 rfl
          simp only [List.getElem_toArray, List.getElem_cons_zero, List.getElem_cons_succ] at bx0 bx1 bx2
          clear hX3
          go_wp2_with (at_builtin; go_must (refine wpList_append_lies _ rfl _ _ 81 rfl 0 95 i95 (.agg #[.int .i64 0, .int .i64 0, .slice none 0 0]) 3 40 Tryz.underlying81 hi95 hz950 hz951 hz952 rfl (by decide) (.slice al (ns.length + q) cl) (ns.length + q) xs3 rfl (HLS.out.alloc _) ⟨w3.heap.size, 0, none⟩ 1 1 [.int .i64 m, .int .i64 m', .slice none 0 0] rfl rfl (news_three _ _ _ _ _ _ (by simp)) (by simp [Value.oneCell']) (by decide) (HQ.out q hlt).1 (HQ.out q hlt).2.1 (Nat.zero_le _) (w3.heap.size + 1) (by simp) ?_); intro g3 cap3 w4 ho3 hg3 hl3 hlt3; have HS4 := hide ((HS3.out.below ((Below.refl _ _).alloc (Nat.le_refl _) _)).stepL ho3 hg3 (hl3.imp (fun e => e.symm) (fun e => (congrArg some e).trans (by simp)))))
          refine ⟨⟨q + 1, some ⟨g3, 0, none⟩, cap3, _, _, by omega, by go_num, rfl, HS4⟩, by simp [intOf]; omega⟩
        · obtain rfl : q = 4 := by omega
          go_wp2
          go_end0
          exact ⟨rfl, HFIN.out _ _ _ _ _ hr.out⟩
end Go.Proofs.YtpkiefjanmfgfaaGreatDoor
