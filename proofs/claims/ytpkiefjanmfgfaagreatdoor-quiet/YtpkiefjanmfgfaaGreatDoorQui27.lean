import Derived.Shelf.SlIterI.Nil
import Derived.Shelf.SortM.Plain
import Derived.Shelf.SortM.SortNone
import Derived.Ground.GgzProg
import Derived.Ground.SlgmProg
import Derived.Test.YtpkiefjanmfgfaaGreatDoorQui09
import Derived.Test.YtpkiefjanmfgfaaGreatDoorQui26
namespace Go.Proofs
open Go.RowKit Go.Maps Go.Sort Go.Shelf


theorem Tryz.sortsA (m : Nat) : AnyZI.SortsIn Tryz.prog Tryz.sortedA_ren Fence.wide m :=
  ⟨fun blk off cap ss W hH hblk hsz => callsIn_wide.2 (AnyM.slices_Sort_int Tryz.sortA blk off cap ss W hH hblk hsz),
   fun p cap W => callsIn_wide.2 (AnyM.slices_Sort_int_none Tryz.sortA p cap W)⟩

theorem Tryz.keys119 (mb : Option Nat) (W : World) : Calls Tryz.prog 119 #[.map mb] W fun e w' => e = .returned (.func (.func 156) #[] #[.pointer (some ⟨W.heap.size, 0, none⟩)]) ∧ w' = W.alloc (.cells #[.map mb] 169) :=
  (callsIn_wide (n := 5)).1 (AnyZI.keys_in Tryz.keysA Fence.wide 5 trivial rfl mb W)

set_option maxHeartbeats 1000000 in
theorem Tryz.sorted118 {H : Type} (b nn : Nat) (D0 : DataW H) (R : Value → Option (DataW H × List MemPlace)) (w : World) (hown : w.ownsMap Tryz.prog 3 R b nn D0) (hmax : Maps.size D0 ≤ maxLen) (hbytes : Maps.size D0 * 8 ≤ 140737488355328) :
    Calls Tryz.prog 118 #[.func (.func 156) #[] #[.pointer (some ⟨w.heap.size, 0, none⟩)]] (w.alloc (.cells #[.map (some b)] 169)) fun e w' => ∃ (v : Value) (ss : List Int), e = .returned v ∧ ss.Perm (intKeys D0) ∧
      w'.ownsRow (w.alloc (.cells #[.map (some b)] 169)).heap.size 3 1 v ss.length ((ss.mergeSort (fun x y => decide (x ≤ y))).map encZ) ∧ (v = .slice none 0 0 ↔ ss = []) ∧ Below (w.alloc (.cells #[.map (some b)] 169)).heap.size (w.alloc (.cells #[.map (some b)] 169)) w' := by
  have hbl := hown.lt
  have hseq : SeqGives Fence.wide 2 Tryz.prog 156 #[.pointer (some ⟨w.heap.size, 0, none⟩)] encZ (fun ss => ss.Perm (intKeys D0)) (Maps.size D0) (w.alloc (.cells #[.map (some b)] 169)) :=
    AnyZI.keys_gives (ρ := Tryz.keysA_ren) { Tryz.keysA with } Fence.wide _ trivial rfl (by omega) w.heap.size b nn D0 _ (by simp) (by simp) (by
      obtain ⟨es, clock, hb, Ft, hs, hD⟩ := hown
      exact ⟨es, clock, (Below.heap_alloc _ _ b hbl).trans hb, Ft, hs, hD⟩)
  have cS := AnyZI.sorted_in Tryz.sortedA Fence.wide 5 trivial trivial trivial trivial rfl (by omega) (Tryz.sortsA _) (enters_of Tryz.func155 (by kernel_rfl) rfl) 156 #[.pointer (some ⟨w.heap.size, 0, none⟩)] trivial (enters_of Tryz.func156 (by kernel_rfl) rfl) _ _ hmax hbytes _ hseq
  exact (callsIn_wide (n := 5)).1 cS
end Go.Proofs
namespace Go.Proofs.YtpkiefjanmfgfaaGreatDoor
open Go.RowKit Go.Maps Go.Sort

theorem keys_ok {w : World} {bg bl bk : Nat} {cv : Value} {lev : List (Int × Int)} {Ls : List LEnt} {ch : List Int} (h : GRaw w bg bl bk cv lev Ls ch) (hid : ∀ p ∈ lev, I64 p.1) (hln : lev.length ≤ 60) : KeysOk w bl lev := by
  obtain ⟨D, hown, hsz, htidy, hat⟩ := h.lev.own
  have hnod : (lev.map (·.1)).Nodup := by
    have := h.lev.nodup
    unfold keysA levV at this
    rw [List.map_map] at this
    exact this
  have hsz2 : Maps.size D ≤ 60 := by
    rw [hsz]
    simpa [levV] using hln
  have hhas : ∀ i, I64 i → Maps.has D (.int .i64 i) = (levOf lev i).isSome := fun i hi => by
    have h5 := has_of_at (hat i hi)
    rw [getA_levV] at h5
    have h6 : (Option.map (Value.int .i64) (levOf lev i)).isSome = (levOf lev i).isSome := by simp
    rw [h6] at h5
    exact h5
  have hback : ∀ x, Maps.has D (.int .i64 x) = true → I64 x := fun x hx => by
    obtain ⟨es, rfl, hko⟩ := hown.keysOf
    rw [has_eq, List.any_eq_true] at hx
    obtain ⟨p, hp, hs⟩ := hx
    obtain ⟨v, hv⟩ := hko p hp
    obtain ⟨y, _, hy, hl⟩ := Maps.keyOf_i64 Tryz.underlying3 hv
    rw [hy] at hs
    have e : y = x := by simpa [Lit.sameKey] using hs
    subst e
    exact hl
  have hcol : CollectedI D (fun _ => false) (lev.map (·.1)) := ⟨hnod, fun x => by
    constructor
    · intro hx
      obtain ⟨p, hp, rfl⟩ := List.mem_map.1 hx
      refine ⟨?_, rfl⟩
      rw [hhas p.1 (hid p hp), levOf_of_mem hnod hp]
      rfl
    · rintro ⟨hx, _⟩
      have := hhas x (hback x hx)
      rw [hx] at this
      obtain ⟨t, ht⟩ := Option.isSome_iff_exists.1 this.symm
      exact levOf_map ht⟩
  have hperm := hcol.perm hown key3 Tryz.underlying3 (fun _ => rfl)
  refine ⟨fun W => Tryz.keys119 (some bl) W, fun W hW => ?_⟩
  have hownW : W.ownsMap Tryz.prog 3 asIs bl (levV lev).length D := by
    obtain ⟨es, clock, h1, h2⟩ := hown
    exact ⟨es, clock, (hW.block _ (heap_lt h1)).trans h1, h2⟩
  refine (Tryz.sorted118 bl _ D asIs W hownW (by unfold maxLen; omega) (by omega)).mono ?_
  rintro e w' ⟨v, ss, rfl, hp, hrow, _, hb⟩
  have hss : ss.mergeSort (fun x y => decide (x ≤ y)) = idsL lev := mergeSort_of_perm_i (hp.trans hperm.symm)
  have hlen : ss.length = (idsL lev).length := by rw [← hss]; simp
  refine ⟨v, rfl, ?_, fun g hg => ?_, ((Below.refl _ _).alloc (Nat.le_refl _) _).trans (hb.mono (by simp))⟩
  · rw [hss, hlen] at hrow
    exact ownsRow_zero hrow
  · have := (hrow.lt g hg).1
    simp at this
    omega
end Go.Proofs.YtpkiefjanmfgfaaGreatDoor
namespace Go.Proofs.YtpkiefjanmfgfaaGreatDoor
open Go.RowKit Go.Maps

set_option maxHeartbeats 2000000 in
set_option maxRecDepth 20000 in
theorem graph30 (bb bs bm : Nat) (cf : Cf) (gn : Net) (L : List Ent) (w : World) (h : BaseAt w bb bs bm cf gn L) (hs : ∀ p, (gn.lk p).length ≤ 1000) :
    Calls Tryz.prog 30 #[.pointer (some ⟨bb, 0, none⟩)] w fun ev w' => ∃ chv nv ns, ev = .returned (.agg #[.bool (decide (0 ≤ (entrL gn.lev).2)), .int .i64 (entrL gn.lev).1, chv, nv]) ∧ IRow w' chv gn.ch ∧ NodesAt w' gn.lk nv ns ∧
      (ns.map (·.id) = idsL gn.lev ∧ ∀ n ∈ ns, levOf gn.lev n.id = some (n.t : Int)) ∧ (∀ g, chv.ownBlock = some g → w.heap.size ≤ g) ∧ ((∀ g, nv.ownBlock = some g → w.heap.size ≤ g) ∧ Frs w.heap.size chv ns) ∧ Below w.heap.size w w' := by
  have hidI : ∀ p ∈ gn.lev, I64 p.1 := fun p hp => by
    obtain ⟨e, he⟩ := Option.isSome_iff_exists.1 (h.ids.1 (List.mem_map.2 ⟨p, hp, rfl⟩))
    have := h.ints e (findE_mem he).1
    rw [(findE_mem he).2] at this
    exact this
  have b7 := h.b7
  have hbb := block_lt_of_cell b7
  have HT := hide (fun W (hW : Below w.heap.size w W) => tell62 gn.bg gn.F gn.lev gn.lk gn.ch W (h.g.below hW) (fun bl hbl => by
    obtain ⟨bl', bk, cv, Ls, hraw, _⟩ := h.g.below hW
    have e := hraw.c0.symm.trans hbl
    simp at e
    subst e
    exact keys_ok hraw hidI h.idsLen) (fun p hp => ⟨hidI p hp, h.ok.ok.lev5 p hp⟩) h.ok.ok.nod h.idsLen h.chLen hs)
  clear h hs hidI
  go_enter Tryz.func30, Tryz.ntmps30
  go_wp2_with fail
  go_fit (HT.out _ ((Below.refl _ _).alloc (Nat.le_refl _) _))
  rintro ev w1 ⟨chv, nv, ns, rfl, hc, hn, hx, hf1, hf2, hb⟩
  obtain ⟨a1, c1, rfl, _⟩ := IRow_slice hc
  obtain ⟨na, nc, hnv⟩ : ∃ na nc, nv = .slice na ns.length nc := by
    rcases hn.row.2 with ⟨e, e2⟩ | ⟨_, cp, _, e, _⟩
    · exact ⟨none, 0, by rw [e, e2]⟩
    · exact ⟨_, cp, e⟩
  subst hnv
  have hr : w1.heap[w.heap.size]? = some (.cells #[.bool false, .int .i64 0, .slice none 0 0, .slice none 0 0] 83 (0, 0)) := (hb.block _ (by simp)).trans (heap_alloc_new _ _)
  have y0 : w1.cell? ⟨w.heap.size, 0, none⟩ = some (.bool false) := cells_at hr 0 rfl
  have y1 : w1.cell? ⟨w.heap.size, 1, none⟩ = some (.int .i64 0) := cells_at hr 1 rfl
  have y2 : w1.cell? ⟨w.heap.size, 2, none⟩ = some (.slice none 0 0) := cells_at hr 2 rfl
  have y3 : w1.cell? ⟨w.heap.size, 3, none⟩ = some (.slice none 0 0) := cells_at hr 3 rfl
  have fz := cells_frozen hr
  generalize hhas : decide (0 ≤ (entrL gn.lev).2) = has
  generalize hent : (entrL gn.lev).1 = ent
  have HHE := hide (And.intro hhas hent)
  clear hhas hent
  have HR := hide hr
  have HC := hide hc
  have HN := hide hn
  have HX := hide hx
  have HF := hide (And.intro hf1 hf2)
  have HB := hide hb
  clear hr hc hn hx hf1 hf2 hb
  go_wp2
  generalize hwf : (((w1.setCell ⟨w.heap.size, 0, none⟩ (.bool has)).setCell ⟨w.heap.size, 1, none⟩ (.int .i64 ent)).setCell ⟨w.heap.size, 2, none⟩ (.slice a1 gn.ch.length c1)).setCell ⟨w.heap.size, 3, none⟩ (.slice na ns.length nc) = wf
  have hres : wf.heap[w.heap.size]? = some (.cells #[.bool has, .int .i64 ent, .slice a1 gn.ch.length c1, .slice na ns.length nc] 83 (0, 0)) := by
    rw [← hwf, heap_setCell_same _ _ _ _ _ _ (heap_setCell_same _ _ _ _ _ _ (heap_setCell_same _ _ _ _ _ _ (heap_setCell_same _ _ _ _ _ _ HR.out)))]
    rfl
  have hk : Kept (fun k => k = w.heap.size) w1 wf := by
    rw [← hwf]
    exact ((((Kept.refl (fun k => k = w.heap.size) w1).setCell (p := ⟨w.heap.size, 0, none⟩) (fun _ => rfl) _).setCell (p := ⟨w.heap.size, 1, none⟩) (fun _ => rfl) _).setCell (p := ⟨w.heap.size, 2, none⟩) (fun _ => rfl) _).setCell (p := ⟨w.heap.size, 3, none⟩) (fun _ => rfl) _
  have q0 := cells_at hres 0 rfl
  have q1 := cells_at hres 1 rfl
  have q2 := cells_at hres 2 rfl
  have q3 := cells_at hres 3 rfl
  simp only [List.getElem_toArray, List.getElem_cons_zero, List.getElem_cons_succ] at q0 q1 q2 q3
  have ne : ∀ {b : Nat} {c : Array Value} {e : TypeId}, w1.heap[b]? = some (.cells c e (0, 0)) → e ≠ 83 → ¬ b = w.heap.size := fun hb h1 e => ne_of_elem hb HR.out h1 e
  have hbw : Below w.heap.size w w1 := ((Below.refl _ _).alloc (Nat.le_refl _) _).trans (HB.out.mono (by simp))
  refine bodyPost_ret (v := .agg #[.bool has, .int .i64 ent, .slice a1 gn.ch.length c1, .slice na ns.length nc]) (by simp [results, Tryz.results30, go_sem, q0, q1, q2, q3]) rfl ?_
  refine ⟨_, _, ns, by rw [HHE.out.1, HHE.out.2], ownsRow_kept HC.out hk (fun g hg => ?_), ⟨ownsRow_kept HN.out.row hk (fun g hg => ?_), fun n hn => (HN.out.lks n hn).kept hk (ne (HN.out.lks n hn).blk (by decide)) (fun k c hc => ne hc (by decide))⟩, HX.out, fun g hg => ?_, ⟨fun g hg => ?_, HF.out.2.2.old (by simp)⟩, hbw.trans (hk.toBelow hbw.size (fun k e => by omega))⟩
  · obtain ⟨c, hc⟩ := ownsRow_obj HC.out hg
    exact ne hc (by decide)
  · obtain ⟨c, hc⟩ := ownsRow_obj HN.out.row hg
    exact ne hc (by decide)
  · have := HF.out.1 g hg
    simp at this
    omega
  · have := HF.out.2.1 g hg
    simp at this
    omega
end Go.Proofs.YtpkiefjanmfgfaaGreatDoor
namespace Go.Proofs.YtpkiefjanmfgfaaGreatDoor
open Go.RowKit Go.Maps

set_option maxHeartbeats 1000000 in
set_option maxRecDepth 20000 in
theorem sameInts63 (v1 v2 : Value) (l : List Int) (w : World) (h1 : IRow w v1 l) (h2 : IRow w v2 l) (hl : l.length ≤ 1000) : Calls Tryz.prog 63 #[v1, v2] w fun ev w' => ev = .returned (.bool true) ∧ Below w.heap.size w w' := by
  obtain ⟨a1, c1, rfl, ha1⟩ := IRow_slice h1
  obtain ⟨a2, c2, rfl, ha2⟩ := IRow_slice h2
  have H1 := hide h1
  have H2 := hide h2
  have HA1 := hide ha1
  have HA2 := hide ha2
  clear h1 h2 ha1 ha2
  go_enter Tryz.func63, Tryz.ntmps63
  go_wp2
  go_loopw [5] (fun i wr => ∃ k : Nat, i = .int .i64 k ∧ k ≤ l.length ∧ Hid (∃ n, wr = w.drewN n)) (fun i _ => l.length - (intOf i).toNat)
  case atStart => exact ⟨0, rfl, Nat.zero_le _, 0, rfl⟩
  case round =>
    obtain ⟨k, rfl, hk, hw⟩ := hrel
    obtain ⟨n0, hw0⟩ := id hw.out
    by_cases hlt : k < l.length
    · obtain ⟨g1, rfl⟩ := HA1.out (by omega)
      obtain ⟨g2, rfl⟩ := HA2.out (by omega)
      have x0 : wr.cell? ⟨g1, k, none⟩ = some (.int .i64 (l.getD k 0)) := by rw [hw0]; exact Pts.at (ownsRow_drewN H1.out n0) hlt
      have y0 : wr.cell? ⟨g2, k, none⟩ = some (.int .i64 (l.getD k 0)) := by rw [hw0]; exact Pts.at (ownsRow_drewN H2.out n0) hlt
      have hW : Hid (∀ j, ∃ n, wr.drewN j = w.drewN n) := fun j => ⟨n0 + j, by rw [hw0]; simp⟩
      generalize l.getD k 0 = y at x0 y0
      clear hw0 hw
      go_wp2
      go_quiet (fail)
      go_wp2
      exact ⟨⟨k + 1, by go_num, by omega, hW.out _⟩, by simp [intOf]; omega⟩
    · have HB : Hid (Below w.heap.size w wr) := by rw [hw0]; exact below_drewN (Below.refl _ _) _
      clear hw0
      go_wp2
      go_ret
      exact ⟨rfl, HB.out⟩
end Go.Proofs.YtpkiefjanmfgfaaGreatDoor
namespace Go.Proofs.YtpkiefjanmfgfaaGreatDoor
open Go.RowKit Go.Maps

theorem ncells_get : ∀ (ns : List TNode) (k j : Nat) (hk : k < ns.length), j < 3 → (ncells ns)[k * 3 + j]? = (ncell ns[k])[j]?
  | n :: ns, 0, j, _, hj => by
    unfold ncells
    rw [List.flatMap_cons, List.getElem?_append_left (by simp [ncell]; omega)]
    simp
  | n :: ns, k + 1, j, hk, hj => by
    have ih := ncells_get ns k j (by simpa using hk) hj
    unfold ncells at ih ⊢
    rw [List.flatMap_cons, List.getElem?_append_right (by simp [ncell]; omega)]
    have e1 : (k + 1) * 3 + j - (ncell n).length = k * 3 + j := by simp [ncell]; omega
    rw [e1, ih]
    simp
theorem NodesAt.at {w : World} {lk : Int × Int → List Int} {g c : Nat} {ns : List TNode} (h : NodesAt w lk (.slice (some ⟨g, 0, none⟩) ns.length c) ns) {k : Nat} (hk : k < ns.length) :
    w.cell? ⟨g, k * 3, none⟩ = some (.int .i64 ns[k].id) ∧ w.cell? ⟨g, k * 3 + 1, none⟩ = some (.int .i64 ns[k].t) ∧ w.cell? ⟨g, k * 3 + 2, none⟩ = some (.slice (some ⟨ns[k].A, 0, none⟩) (ns[k].t + 1) (ns[k].t + 1)) :=
  ⟨ownsRow_cell h.row (by have := ncells_get ns k 0 hk (by omega); simpa [ncell] using this), ownsRow_cell h.row (by have := ncells_get ns k 1 hk (by omega); simpa [ncell] using this), ownsRow_cell h.row (by have := ncells_get ns k 2 hk (by omega); simpa [ncell] using this)⟩
theorem NodesAt.slice {w : World} {lk : Int × Int → List Int} {nv : Value} {ns : List TNode} (h : NodesAt w lk nv ns) : ∃ a c, nv = .slice a ns.length c ∧ (0 < ns.length → ∃ g, a = some ⟨g, 0, none⟩) := by
  rcases h.row.2 with ⟨e, e2⟩ | ⟨g, cp, _, e, _⟩
  · exact ⟨none, 0, by rw [e, e2], fun h => by omega⟩
  · exact ⟨_, cp, e, fun _ => ⟨g, rfl⟩⟩
theorem LksAt.at {w : World} {A : Nat} {us : List Value} {ls : List (List Int)} (h : LksAt w A us ls) {i : Nat} (hi : i < ls.length) : w.cell? ⟨A, i, none⟩ = some (us.getD i (.slice none 0 0)) := by
  rw [cell_of_row w _ _ _ _ _ h.blk]
  have hl := h.len
  simp [List.getD_eq_getElem?_getD, show i < us.length by omega]

set_option maxHeartbeats 4000000 in
set_option maxRecDepth 20000 in
theorem unchanged32 (has : Bool) (ent : Int) (cv1 cv2 nv1 nv2 : Value) (ch : List Int) (lk : Int × Int → List Int) (ns1 ns2 : List TNode) (w : World) (hc1 : IRow w cv1 ch) (hc2 : IRow w cv2 ch) (hn1 : NodesAt w lk nv1 ns1) (hn2 : NodesAt w lk nv2 ns2)
    (hcl : ch.length ≤ 60) (hnl : ns1.length ≤ 60) (hle : ns2.length = ns1.length) (hsame : ∀ k (h1 : k < ns1.length) (h2 : k < ns2.length), ns1[k].id = ns2[k].id ∧ ns1[k].t = ns2[k].t) (ht : ∀ n ∈ ns1, n.t ≤ 10) (hs : ∀ p, (lk p).length ≤ 1000) :
    Calls Tryz.prog 32 #[.agg #[.bool has, .int .i64 ent, cv1, nv1], .agg #[.bool has, .int .i64 ent, cv2, nv2]] w fun ev w' => ev = .returned (.bool true) ∧ Below w.heap.size w w' := by
  obtain ⟨a1, c1, rfl, _⟩ := IRow_slice hc1
  obtain ⟨a2, c2, rfl, _⟩ := IRow_slice hc2
  obtain ⟨b1, d1, rfl, hb1⟩ := hn1.slice
  obtain ⟨b2, d2, rfl, hb2⟩ := hn2.slice
  rw [hle] at hn2 ⊢
  obtain ⟨w2, hw2⟩ : ∃ w2, w2 = (w.alloc (.cells #[.bool has, .int .i64 ent, .slice a1 ch.length c1, .slice b1 ns1.length d1] 83)).alloc (.cells #[.bool has, .int .i64 ent, .slice a2 ch.length c2, .slice b2 ns1.length d2] 83) := ⟨_, rfl⟩
  have hbw : Below w.heap.size w w2 := hw2 ▸ ((Below.refl _ _).alloc (Nat.le_refl _) _).alloc (by simp) _
  have hx1 : w2.heap[w.heap.size]? = some (.cells #[.bool has, .int .i64 ent, .slice a1 ch.length c1, .slice b1 ns1.length d1] 83 (0, 0)) := by rw [hw2]; exact heap_alloc_lt (heap_alloc_new _ _)
  have hx2 : w2.heap[w.heap.size + 1]? = some (.cells #[.bool has, .int .i64 ent, .slice a2 ch.length c2, .slice b2 ns1.length d2] 83 (0, 0)) := by rw [hw2]; exact heap_alloc_at _ _ _ _ (by simp)
  have HX1 := hide (fun W (hW : Below w2.heap.size w2 W) => (hW.block _ (heap_lt hx1)).trans hx1)
  have HX2 := hide (fun W (hW : Below w2.heap.size w2 W) => (hW.block _ (heap_lt hx2)).trans hx2)
  have HSM := hide (fun W (hW : Below w2.heap.size w2 W) => sameInts63 _ _ ch W (ownsRow_below (ownsRow_below hc1 hbw) hW) (ownsRow_below (ownsRow_below hc2 hbw) hW) (by omega))
  have HN1 := hide (fun W (hW : Below w2.heap.size w2 W) => (hn1.below hbw).below hW)
  have HN2 := hide (fun W (hW : Below w2.heap.size w2 W) => (hn2.below hbw).below hW)
  have HBW := hide hbw
  have u0 : w2.cell? ⟨w.heap.size, 2, none⟩ = some (.slice a1 ch.length c1) := cells_at hx1 2 rfl
  have u1 : w2.cell? ⟨w.heap.size + 1, 2, none⟩ = some (.slice a2 ch.length c2) := cells_at hx2 2 rfl
  clear hc1 hc2 hn1 hn2 hbw hx1 hx2
  go_enter Tryz.func32, Tryz.ntmps32
  go_wp2_with fail
  rw [← hw2]
  clear hw2
  go_fit (HSM.out w2 (Below.refl _ _))
  rintro ev w3 ⟨rfl, hb3⟩
  have p1 := HX1.out w3 hb3
  have p2 := HX2.out w3 hb3
  have e0 : w3.cell? ⟨w.heap.size, 0, none⟩ = some (.bool has) := cells_at p1 0 rfl
  have e1 : w3.cell? ⟨w.heap.size, 1, none⟩ = some (.int .i64 ent) := cells_at p1 1 rfl
  have e3 : w3.cell? ⟨w.heap.size, 3, none⟩ = some (.slice b1 ns1.length d1) := cells_at p1 3 rfl
  have f0 : w3.cell? ⟨w.heap.size + 1, 0, none⟩ = some (.bool has) := cells_at p2 0 rfl
  have f1 : w3.cell? ⟨w.heap.size + 1, 1, none⟩ = some (.int .i64 ent) := cells_at p2 1 rfl
  have f3 : w3.cell? ⟨w.heap.size + 1, 3, none⟩ = some (.slice b2 ns1.length d2) := cells_at p2 3 rfl
  have HB3 := hide hb3
  clear p1 p2 hb3 u0 u1
  go_upto_region 4 with fail
  all_goals
    clear e0 e1 e3 f0 f1 f3
    go_wp2
    go_loopw [6, 7, 8, 9, 10] (fun iv _ _ _ _ wr => ∃ k : Nat, iv = .int .i64 k ∧ k ≤ ns1.length ∧ Hid (Below w2.heap.size w2 wr)) (fun iv _ _ _ _ _ => ns1.length - (intOf iv).toNat)
    case atStart => exact ⟨0, rfl, Nat.zero_le _, HB3.out⟩
    case round =>
      obtain ⟨k, rfl, hk, HB⟩ := hrel
      have e3 : wr.cell? ⟨w.heap.size, 3, none⟩ = some (.slice b1 ns1.length d1) := cells_at (HX1.out wr HB.out) 3 rfl
      have f3 : wr.cell? ⟨w.heap.size + 1, 3, none⟩ = some (.slice b2 ns1.length d2) := cells_at (HX2.out wr HB.out) 3 rfl
      by_cases hlt : k < ns1.length
      · obtain ⟨g1, rfl⟩ := hb1 (by omega)
        obtain ⟨g2, rfl⟩ := hb2 (by omega)
        have hk2 : k < ns2.length := by omega
        obtain ⟨hid, htt⟩ := hsame k hlt hk2
        have hN2 : NodesAt wr lk (.slice (some ⟨g2, 0, none⟩) ns2.length d2) ns2 := by rw [hle]; exact HN2.out wr HB.out
        obtain ⟨q0, q1, q2⟩ := (HN1.out wr HB.out).at hlt
        obtain ⟨r0, r1, r2⟩ := hN2.at hk2
        have hl1 := (HN1.out wr HB.out).lks _ (List.getElem_mem hlt)
        have hl2 := hN2.lks _ (List.getElem_mem hk2)
        rw [← hid] at r0 hl2
        rw [← htt] at r1 r2 hl2
        have ht1 := ht _ (List.getElem_mem hlt)
        clear hid htt hN2
        generalize ns1[k].id = id at *
        generalize ns1[k].t = t at *
        generalize ns1[k].A = A1 at *
        generalize ns1[k].us = us1 at *
        generalize ns2[k].A = A2 at *
        generalize ns2[k].us = us2 at *
        have HL1 := hide hl1
        have HL2 := hide hl2
        have hgl1 := block_lt_of_cell q0
        have hgl2 := block_lt_of_cell r0
        have hfl := block_lt_of_cell f3
        simp only at hgl1 hgl2 hfl
        clear hl1 hl2
        go_upto_region 11 with fail
        obtain ⟨w5, hw5⟩ : ∃ w5, w5 = (wr.alloc (.cells #[.int .i64 id, .int .i64 t, .slice (some ⟨A1, 0, none⟩) (t + 1) (t + 1)] 95)).alloc (.cells #[.int .i64 id, .int .i64 t, .slice (some ⟨A2, 0, none⟩) (t + 1) (t + 1)] 95) := ⟨_, rfl⟩
        have hb5 : Below wr.heap.size wr w5 := hw5 ▸ ((Below.refl _ _).alloc (Nat.le_refl _) _).alloc (by simp) _
        have s1 : w5.heap[wr.heap.size]? = some (.cells #[.int .i64 id, .int .i64 t, .slice (some ⟨A1, 0, none⟩) (t + 1) (t + 1)] 95 (0, 0)) := by rw [hw5]; exact heap_alloc_lt (heap_alloc_new _ _)
        have s2 : w5.heap[wr.heap.size + 1]? = some (.cells #[.int .i64 id, .int .i64 t, .slice (some ⟨A2, 0, none⟩) (t + 1) (t + 1)] 95 (0, 0)) := by rw [hw5]; exact heap_alloc_at _ _ _ _ (by simp)
        rw [← hw5]
        clear hw5
        have HS1 := hide (fun W (hW : Below w5.heap.size w5 W) => (hW.block _ (heap_lt s1)).trans s1)
        have HS2 := hide (fun W (hW : Below w5.heap.size w5 W) => (hW.block _ (heap_lt s2)).trans s2)
        have HB5 := hide hb5
        clear s1 s2 hb5 q0 q1 q2 r0 r1 r2 e3 f3 hgl1 hgl2 hfl
        go_wp2
        go_loopw [9, 10] (fun jv _ wi => ∃ j : Nat, jv = .int .i64 j ∧ j ≤ t + 1 ∧ Hid (Below w5.heap.size w5 wi)) (fun jv _ _ => t + 1 - (intOf jv).toNat)
        case atStart => exact ⟨0, rfl, Nat.zero_le _, Below.refl _ _⟩
        case round =>
          rename World => wi
          obtain ⟨j, rfl, hj, HI⟩ := hrel
          have z1 : wi.cell? ⟨wr.heap.size, 2, none⟩ = some (.slice (some ⟨A1, 0, none⟩) (t + 1) (t + 1)) := cells_at (HS1.out wi HI.out) 2 rfl
          have z2 : wi.cell? ⟨wr.heap.size + 1, 2, none⟩ = some (.slice (some ⟨A2, 0, none⟩) (t + 1) (t + 1)) := cells_at (HS2.out wi HI.out) 2 rfl
          have hbi : Below wr.heap.size wr wi := HB5.out.trans (HI.out.mono HB5.out.size)
          by_cases hjt : j < t + 1
          · have jl : j < (nodeL lk id (t + 1)).length := by rw [nodeL_len]; exact hjt
            have v1 := (HL1.out.below hbi).at jl
            have v2 := (HL2.out.below hbi).at jl
            have y1 := (HL1.out.below hbi).row j jl
            have y2 := (HL2.out.below hbi).row j jl
            have hln : ((nodeL lk id (t + 1)).getD j []).length ≤ 1000 := by
              unfold nodeL
              rw [List.getD_eq_getElem?_getD, List.getElem?_eq_getElem (by simpa using hjt)]
              simpa using hs _
            generalize us1.getD j (.slice none 0 0) = o1 at v1 y1
            generalize us2.getD j (.slice none 0 0) = o2 at v2 y2
            generalize (nodeL lk id (t + 1)).getD j [] = ln at y1 y2 hln
            obtain ⟨a6, c6, rfl, _⟩ := IRow_slice y1
            obtain ⟨a7, c7, rfl, _⟩ := IRow_slice y2
            have HSJ := hide (fun W (hW : Below wi.heap.size wi W) => sameInts63 _ _ ln W (ownsRow_below y1 hW) (ownsRow_below y2 hW) hln)
            have HZ := hide (fun W (hW : Below wi.heap.size wi W) => And.intro (cell_below z1 hW) (And.intro (cell_below z2 hW) (And.intro (cell_below v1 hW) (cell_below v2 hW))))
            clear y1 y2 jl
            go_wp2
            go_region_held3 (fun wx => wx.cell? ⟨wr.heap.size, 2, none⟩ = some (.slice (some ⟨A1, 0, none⟩) (t + 1) (t + 1)) ∧ wx.cell? ⟨wr.heap.size + 1, 2, none⟩ = some (.slice (some ⟨A2, 0, none⟩) (t + 1) (t + 1)) ∧ wx.cell? ⟨A1, j, none⟩ = some (.slice a6 ln.length c6) ∧ wx.cell? ⟨A2, j, none⟩ = some (.slice a7 ln.length c7))
              ((refine HZ.out _ ?_; repeat (first | with_reducible exact hb7 | exact Below.refl _ _ | refine Below.drew ?_)))
              (first | (go_at_call 63; refine (HSJ.out _ ?_).mono ?_; (repeat (first | exact Below.refl _ _ | refine Below.drew ?_)); rintro e7 w7 ⟨rfl, hb7d⟩; have hb7 : Below wi.heap.size wi w7 := (by first | exact hb7d | exact Below.undrew hb7d)))
            go_wp2
            exact ⟨⟨j + 1, by go_num, by omega, HI.out.trans (hb7.mono HI.out.size)⟩, by simp [intOf]; omega⟩
          · go_wp2
            exact ⟨⟨k + 1, by go_num, by omega, HB.out.trans (hbi.mono HB.out.size)⟩, by simp [intOf]; omega⟩
      · go_wp2
        go_ret
        exact ⟨rfl, HBW.out.trans (HB.out.mono HBW.out.size)⟩
end Go.Proofs.YtpkiefjanmfgfaaGreatDoor
namespace Go.Proofs.YtpkiefjanmfgfaaGreatDoor
open Go.RowKit Go.Maps

theorem told_same {lev : List (Int × Int)} {ns1 ns2 : List TNode} (h1 : ns1.map (·.id) = idsL lev ∧ ∀ n ∈ ns1, levOf lev n.id = some (n.t : Int)) (h2 : ns2.map (·.id) = idsL lev ∧ ∀ n ∈ ns2, levOf lev n.id = some (n.t : Int)) :
    ns2.length = ns1.length ∧ ∀ k (hk1 : k < ns1.length) (hk2 : k < ns2.length), ns1[k].id = ns2[k].id ∧ ns1[k].t = ns2[k].t := by
  have hl : ns2.length = ns1.length := by
    have e1 := congrArg List.length h1.1
    have e2 := congrArg List.length h2.1
    simp only [List.length_map] at e1 e2
    omega
  refine ⟨hl, fun k hk1 hk2 => ?_⟩
  have e : (ns1.map (·.id))[k]? = (ns2.map (·.id))[k]? := by rw [h1.1, h2.1]
  rw [List.getElem?_map, List.getElem?_map, List.getElem?_eq_getElem hk1, List.getElem?_eq_getElem hk2] at e
  have e1 : ns1[k].id = ns2[k].id := by simpa using e
  refine ⟨e1, ?_⟩
  have a := h1.2 _ (List.getElem_mem hk1)
  have b := h2.2 _ (List.getElem_mem hk2)
  rw [e1, b] at a
  simp at a
  exact Int.ofNat.inj a.symm

section
variable {w : World} {bb bs bm : Nat} {cf : Cf} {gn : Net} {L : List Ent}
theorem BaseAt.levLen (h : BaseAt w bb bs bm cf gn L) : gn.lev.length = L.length := by
  have h1 : gn.lev.map (·.1) ⊆ L.map (·.id) := fun x hx => by
    obtain ⟨e, he⟩ := Option.isSome_iff_exists.1 (h.ids.1 hx)
    exact List.mem_map.2 ⟨e, (findE_mem he).1, (findE_mem he).2⟩
  have h2 : L.map (·.id) ⊆ gn.lev.map (·.1) := fun x hx => by
    obtain ⟨e, he, rfl⟩ := List.mem_map.1 hx
    refine h.ids.2 ?_
    cases hf : findE e.id L with
    | none =>
      have := List.find?_eq_none.1 hf e he
      simp at this
    | some y => rfl
  have n2 : (L.map (·.id)).Nodup := List.pairwise_map.2 (h.map.rising.imp fun {a b} hab => by omega)
  have a := List.Nodup.length_le_of_subset h.ok.ok.nod h1
  have b := List.Nodup.length_le_of_subset n2 h2
  simp at a b
  omega
theorem BaseAt.chainLen (h : BaseAt w bb bs bm cf gn L) : gn.ch.length = L.length := by
  have a := List.Nodup.length_le_of_subset h.ok.ok.chn (fun x hx => (h.ok.ok.chm x).1 hx)
  have b := List.Nodup.length_le_of_subset h.ok.ok.nod (fun x hx => (h.ok.ok.chm x).2 hx)
  have := h.levLen
  simp at a b
  omega
theorem BaseAt.short (h : BaseAt w bb bs bm cf gn L) : ∀ p, (gn.lk p).length ≤ 1000 := fun p => by
  have h1 := h.ok.few p.1 p.2
  have h2 := h.cfok.l8
  unfold mostL at h1
  have h3 : gn.lk (p.1, p.2) = gn.lk p := rfl
  rw [h3] at h1
  split at h1 <;> omega
theorem BaseAt.hasE (h : BaseAt w bb bs bm cf gn L) : decide (0 ≤ (entrL gn.lev).2) = decide (0 < L.length) := by
  have hl := h.levLen
  cases hc : gn.lev with
  | nil =>
    have he : EntrOf ([] : List (Int × Int)) (fun _ => true) 0 (-1) := .inl ⟨fun p hp => absurd hp List.not_mem_nil, rfl, rfl⟩
    rw [he.eq]
    rw [hc] at hl
    simp only [List.length_nil] at hl
    rw [← hl]
    decide
  | cons p r =>
    have hm := entrL_mem (lev := gn.lev) (fun p hp => (h.ok.ok.lev5 p hp).1) (by rw [hc]; exact List.cons_ne_nil _ _)
    have h5 := (h.ok.ok.lev5 _ hm).1
    rw [hc] at h5 hl
    simp only [List.length_cons] at hl
    rw [decide_eq_true h5, decide_eq_true (by omega)]
theorem told_len {ns : List TNode} {lev : List (Int × Int)} (h : ns.map (·.id) = idsL lev) : ns.length = lev.length := by
  have e := congrArg List.length h
  have p := (idsL_perm lev).length_eq
  simp only [List.length_map] at e p
  omega
theorem told_lev (h : BaseAt w bb bs bm cf gn L) {ns : List TNode} (hn : ∀ n ∈ ns, levOf gn.lev n.id = some (n.t : Int)) : ∀ n ∈ ns, n.t ≤ 10 := fun n hm => by
  have := (h.ok.ok.lev5 _ (levOf_mem (hn n hm))).2
  simp only at this
  omega
end
theorem NodesAt.kept {S : Nat → Prop} {w w' : World} {lk : Int × Int → List Int} {nv : Value} {ns : List TNode} (h : NodesAt w lk nv ns) (hk : Kept S w w') (h2 : ∀ k c e, w.heap[k]? = some (.cells c e (0, 0)) → e = 3 ∨ e = 32 ∨ e = 95 → ¬ S k) : NodesAt w' lk nv ns :=
  ⟨ownsRow_kept h.row hk fun g hg => by
    obtain ⟨c, hc⟩ := ownsRow_obj h.row hg
    exact h2 g c _ hc (.inr (.inr rfl)), fun n hn => (h.lks n hn).kept hk (h2 _ _ _ (h.lks n hn).blk (.inr (.inl rfl))) (fun k c hc => h2 k c _ hc (.inl rfl))⟩
theorem i64_fifty {n : Int} (h : 0 ≤ n ∧ n < 1000) : I64 (50 + n) := i64_small (by omega) (by omega)
theorem code_far : ptCode 2 [2097152, 0] = 3 := by decide
theorem sch_count {xs : List Int} (hx : ptCode 2 xs = 0) : schCode 2 xs 0 1 [] = 6 := by
  unfold schCode
  rw [hx]
  decide
theorem sch_dim : schCode 2 [] 1 1 [] = 2 := by decide
theorem no_50 {L : List Ent} (h : K50 L) {n : Int} (hn : 0 ≤ n) : findE (50 + n) L = none := by
  cases he : findE (50 + n) L with
  | none => rfl
  | some e =>
    have h1 := findE_mem he
    have := h e h1.1
    omega
end Go.Proofs.YtpkiefjanmfgfaaGreatDoor
namespace Go.Proofs.YtpkiefjanmfgfaaGreatDoor
open Go.RowKit Go.Maps

noncomputable def sList (cf : Cf) (gn : Net) (L : List Ent) (xs : List Int) (F : List (List Cnd)) (k beam : Int) : List Hit := (srR cf gn L xs F (max k beam)).2.take (min k ((srR cf gn L xs F (max k beam)).2.length : Int)).toNat
theorem sList_looks (cf : Cf) (gn : Net) (L : List Ent) (xs : List Int) (F : List (List Cnd)) (k beam n : Int) : sList cf { gn with looks := n } L xs F k beam = sList cf gn L xs F k beam := rfl
section
variable {W0 : World} {bb bs bm : Nat} {cf : Cf} {gn : Net} {L : List Ent}
theorem searchQ (pv : Value) (xs : List Int) (k beam : Int) (fv : Value) (F : List (List Cnd)) (w : World) (h : KB W0 w bb bs bm cf gn L) (hr : IRow w pv xs) (hp : IntsAt w pv xs) (hf : FiltAt w fv F) (hlo : 0 ≤ gn.looks ∧ gn.looks ≤ 4000000000000000000) (hc : schCode cf.dim xs k beam F = 0) :
    Calls Tryz.prog 26 #[.pointer (some ⟨bb, 0, none⟩), pv, .int .i64 k, .int .i64 beam, .agg #[fv]] w fun ev w' => ∃ v n, ev = .returned (.tuple #[v, .int .i64 0]) ∧ HRow w' v (sList cf gn L xs F k beam) ∧
      KB W0 w' bb bs bm cf { gn with looks := n } L ∧ Kept (fun k => k = bb) w w' ∧ (gn.looks + (sList cf gn L xs F k beam).length ≤ n ∧ n ≤ gn.looks + 60) ∧ (sList cf gn L xs F k beam).length ≤ 60 := by
  refine (searchU bb bs bm cf gn L pv xs k beam fv F w h.base h.tb h.ts hr hp hf hlo).mono ?_
  rintro ev w' ⟨v, l, n, rfl, h1, h2, h3, h4, h5, h6⟩
  obtain ⟨rfl, rfl⟩ := h6.2 hc
  have hk := schCode_k hc
  have hR := right_of h.base xs F k beam hk.1 (tellL cf.metric xs F L) (tellL_sorted _ _ _ _) (tellL_perm _ _ _ _)
  have hf60 := h.base.few
  refine ⟨v, _, by rw [hc], h1, h.looked h4 h3 h5, h4, ⟨?_, ?_⟩, ?_⟩
  · have := hR.2.1
    unfold sList
    omega
  · have := hR.2.2
    omega
  · unfold sList
    rw [List.length_take]
    omega
theorem searchN (pv : Value) (xs : List Int) (k beam r : Int) (fv : Value) (F : List (List Cnd)) (w : World) (h : KB W0 w bb bs bm cf gn L) (hp : IntsAt w pv xs) (hf : FiltAt w fv F) (hc : schCode cf.dim xs k beam F = r) (h0 : r ≠ 0) :
    Calls Tryz.prog 26 #[.pointer (some ⟨bb, 0, none⟩), pv, .int .i64 k, .int .i64 beam, .agg #[fv]] w fun ev w' => ∃ v, ev = .returned (.tuple #[v, .int .i64 r]) ∧ Below w.heap.size w w' := by
  refine (search25_no bb bs bm cf gn L pv xs k beam fv F w h.base hp hf r hc h0).mono ?_
  rintro ev w' ⟨rfl, hb⟩
  exact ⟨_, rfl, hb⟩
end
structure QS (w : World) (bG : Nat) (has : Bool) (ent : Int) (chv nv : Value) (ch : List Int) (lk : Int × Int → List Int) (ns : List TNode) : Prop where
  blk : w.heap[bG]? = some (.cells #[.bool has, .int .i64 ent, chv, nv] 83 (0, 0))
  chr : IRow w chv ch
  nds : NodesAt w lk nv ns
section
variable {w w' : World} {bG : Nat} {has : Bool} {ent : Int} {chv nv : Value} {ch : List Int} {lk : Int × Int → List Int} {ns : List TNode}
theorem QS.below (h : QS w bG has ent chv nv ch lk ns) (hb : Below w.heap.size w w') : QS w' bG has ent chv nv ch lk ns :=
  ⟨(hb.block _ (heap_lt h.blk)).trans h.blk, ownsRow_below h.chr hb, h.nds.below hb⟩
theorem QS.looked {W0 : World} {bb bs bm : Nat} {cf : Cf} {gn : Net} {L : List Ent} (h : QS w bG has ent chv nv ch lk ns) (hK : KB W0 w bb bs bm cf gn L) (hk : Kept (fun k => k = bb) w w') : QS w' bG has ent chv nv ch lk ns := by
  obtain ⟨cb, hcb⟩ := hK.tb
  refine ⟨(hk.block _ (heap_lt h.blk) (ne_of_elem h.blk hcb (by decide))).trans h.blk, ownsRow_kept h.chr hk fun g hg => ?_, h.nds.kept hk fun k c e hc he => ?_⟩
  · obtain ⟨c, hc⟩ := ownsRow_obj h.chr hg
    exact ne_of_elem hc hcb (by decide)
  · exact ne_of_elem hc hcb (by rcases he with rfl | rfl | rfl <;> decide)
end
theorem pts_looked {W0 w w' : World} {bb bs bm : Nat} {cf : Cf} {gn : Net} {L : List Ent} {A c : Nat} {xs : List Int} (hK : KB W0 w bb bs bm cf gn L) (h : Pts w A c xs) (hk : Kept (fun k => k = bb) w w') : Pts w' A c xs := by
  obtain ⟨cb, hcb⟩ := hK.tb
  exact ownsRow_kept h hk fun g hg => by
    obtain ⟨c, hc⟩ := ownsRow_obj h hg
    exact ne_of_elem hc hcb (by decide)

set_option maxHeartbeats 8000000 in
set_option maxRecDepth 20000 in
theorem quiet11 (sa : Option Addr) (len cap : Nat) (links metric beam : Int) (pa : Option Addr) (pc : Nat) (pts : List Int) (k0 : Int) (h1 : I64 links) (h2 : I64 metric) (h3 : I64 beam) (h7 : I64 k0) (w : World) (hor : IntsAt w (.slice pa pts.length pc) pts) (hoi : ∀ x ∈ pts, I64 x) (hg : Handle w) (hs : KScriptAt w sa len) :
    Calls Tryz.prog 11 #[.slice sa len cap, .int .i64 links, .int .i64 metric, .int .i64 beam, .slice pa pts.length pc, .int .i64 k0] w fun ev w' => ev = .returned (.bool true) ∧ Below w.heap.size w w' := by
  have HM := hide (made18 sa len cap links metric beam h1 h2 h3 w hg hs)
  have HD1 : Hid ((keepCf links metric beam).dim = 2 ∧ (keepCf links metric beam).cap = 60) := ⟨rfl, rfl⟩
  have HO := hide hor
  have HOI := hide hoi
  have hol : pts.length ≤ 17592186044416 := by
    obtain ⟨_, _, _, _, h, _⟩ := hor
    exact h
  clear hs hor hoi
  generalize keepCf links metric beam = cf at *
  have HPK := hide (fun W => pick17 k0 60 h7 (by omega) W)
  have ik := pickI_in (c := k0) (n := 60) (by omega)
  generalize pickI k0 60 = kq at HPK ik
  obtain ⟨kk, hkk⟩ : ∃ kk, kk = 1 + kq := ⟨_, rfl⟩
  have ekk : IntKind.i64.wrap (1 + kq) = kk := by rw [IntKind.wrap_i64]; omega
  have ekk2 : wrap64 (1 + kq) = kk := by unfold wrap64; omega
  have HKB : Hid (1 ≤ kk ∧ kk ≤ 60) := by show _ ∧ _; omega
  clear ik hkk
  go_enter Tryz.func11, Tryz.ntmps11
  go_wp2_with fail
  go_fit HM.out
  rintro ev w1 ⟨bb, bs, bm, gn, L, rfl, hK1, h50, hl1⟩
  have HK1 := hide hK1
  have HL1 := hide hl1
  have H50 := hide h50
  have HSH := hide hK1.base.short
  have hn60 := hK1.base.few
  have HHE := hide hK1.base.hasE
  have HLL := hide (And.intro hK1.base.levLen hK1.base.chainLen)
  have HTL := hide (fun ns => told_lev (ns := ns) hK1.base)
  clear hK1 h50 hl1 HM
  go_wp2_with fail
  go_fit (graph30 bb bs bm cf gn L w1 HK1.out.base HSH.out)
  rintro ev w2 ⟨chv, nv, ns, rfl, hc2, hn2, hx2, hf1, hf2, hb2⟩
  have hnl : ns.length = L.length := (told_len hx2.1).trans HLL.out.1
  have hcl := HLL.out.2
  obtain ⟨a1, c1, rfl, _⟩ := IRow_slice hc2
  obtain ⟨b1, d1, rfl, _⟩ := hn2.slice
  rw [HHE.out]
  rw [hcl] at hc2 hf1 ⊢
  rw [hnl] at hn2 ⊢
  have HNL := hide hnl
  have HCL := hide hcl
  clear hnl hcl hf1 hf2
  have HGR := hide (fun W (hW : KB w W bb bs bm cf gn L) => graph30 bb bs bm cf gn L W hW.base HSH.out)
  rw [HHE.out] at HGR
  go_wp2_with fail
  obtain ⟨w3, hw3⟩ : ∃ w3, w3 = w2.alloc (.cells #[.bool (decide (0 < L.length)), .int .i64 (entrL gn.lev).1, .slice a1 L.length c1, .slice b1 L.length d1] 83) := ⟨_, rfl⟩
  have hb3 : Below w2.heap.size w2 w3 := hw3 ▸ (Below.refl _ _).alloc (Nat.le_refl _) _
  have hx3 : w3.heap[w2.heap.size]? = some (.cells #[.bool (decide (0 < L.length)), .int .i64 (entrL gn.lev).1, .slice a1 L.length c1, .slice b1 L.length d1] 83 (0, 0)) := by rw [hw3]; exact heap_alloc_new _ _
  rw [← hw3]
  clear hw3
  have hK3 := (HK1.out.below hb2).below hb3
  have hQ3 : QS w3 w2.heap.size (decide (0 < L.length)) (entrL gn.lev).1 (.slice a1 L.length c1) (.slice b1 L.length d1) gn.ch gn.lk ns := ⟨hx3, ownsRow_below hc2 hb3, hn2.below hb3⟩
  have HCN := hide (count15_any bb bs bm cf gn L w3 hK3.base)
  have hdd : decide ((0 : Int) < (L.length : Int)) = decide (0 < L.length) := by
    by_cases h0 : 0 < L.length
    · rw [decide_eq_true h0, decide_eq_true (by omega)]
    · rw [decide_eq_false h0, decide_eq_false (by omega)]
  have HT1 := hide (HTL.out ns hx2.2)
  have HX2 := hide hx2
  generalize hent : (entrL gn.lev).1 = ent at *
  have HEN := hide hent
  clear hent
  have HHE2 := HHE
  generalize hhd : decide (0 < L.length) = has at *
  have HDD := hide hhd
  clear hhd
  generalize w2.heap.size = bG at *
  have x3 := cells_at hx3 3 rfl
  have x2 := cells_at hx3 2 rfl
  have x0 := cells_at hx3 0 rfl
  simp only [List.getElem_toArray, List.getElem_cons_zero, List.getElem_cons_succ] at x0 x2 x3
  have HK3 := hide hK3
  have HQ3 := hide hQ3
  clear hK3 hQ3 hx3 hb3 hc2 hn2 hx2 hb2 HK1 HTL HLL HHE
  go_wp2_with fail
  go_fit HCN.out
  rintro ev' w' ⟨rfl, rfl⟩
  go_upto_region 6 with fail
  go_cut [62] (fun c wx => c = .bool false ∧ w3 = wx)
  case first =>
    cases has
    · go_wp2_with fail
      go_meet
      exact ⟨by rw [HDD.out], rfl⟩
    · go_wp2_with fail
      go_meet
      exact ⟨by rw [HDD.out]; rfl, rfl⟩
  case rest =>
  obtain ⟨rfl, rfl⟩ := hcut
  go_wp2_with fail
  go_fit (HPK.out _)
  rintro ev' w' ⟨rfl, rfl⟩
  clear x0 x2 x3 HCN
  go_wp2
  go_loopw [16, 17, 18, 19, 20, 21, 22, 23, 24, 25, 26, 27, 28, 29, 30, 31, 32] (fun iv _ _ _ _ _ _ _ _ _ _ _ _ _ _ _ _ wr => ∃ (i : Nat) (n : Int), iv = .int .i64 i ∧ i ≤ pts.length ∧ Hid (KB w wr bb bs bm cf { gn with looks := n } L) ∧ Hid (QS wr bG has ent (.slice a1 L.length c1) (.slice b1 L.length d1) gn.ch gn.lk ns) ∧ Hid (0 ≤ n ∧ n ≤ 60 + 120 * (i : Int))) (fun iv _ _ _ _ _ _ _ _ _ _ _ _ _ _ _ _ _ => pts.length - (intOf iv).toNat)
  case atStart => exact ⟨0, gn.looks, rfl, Nat.zero_le _, HK3.out, HQ3.out, HL1.out.1, by have := HL1.out.2; omega⟩
  case round =>
    clear HK3 HQ3
    obtain ⟨i, n, rfl, hi, HK, HQ, HN⟩ := hrel
    by_cases hlt : i < pts.length
    · obtain ⟨b, off, rfl, hc⟩ := IntsAt.cell HO.out hlt
      have HQC := hide (fun W (hW : Below w.heap.size w W) => cell_below hc hW)
      have hq : I64 (pts.getD i 0) := HOI.out _ (by rw [List.getD_eq_getElem?_getD, List.getElem?_eq_getElem hlt]; exact List.getElem_mem hlt)
      generalize pts.getD i 0 = q at HQC hq
      clear hc
      have HCX := hide (fun W => coord20 q hq W)
      have hX := coordI_crd q
      generalize coordI q = X at HCX hX
      have hq41 : I64 (q.tdiv 41) := by
        have hb := i64_bounds hq
        have e1 : IntKind.i64.min = -9223372036854775808 := by decide
        have e2 : IntKind.i64.max = 9223372036854775807 := by decide
        unfold I64
        simp only [Lit.wf, e1, e2]
        have h1 : (q.tdiv 41).natAbs = q.natAbs / 41 := by rw [Int.natAbs_tdiv]; rfl
        simp
        omega
      have HCY := hide (fun W => coord20 (IntKind.i64.wrap (q.tdiv 41)) (by rw [i64_wrap hq41]; exact hq41) W)
      have hY := coordI_crd (IntKind.i64.wrap (q.tdiv 41))
      generalize coordI (IntKind.i64.wrap (q.tdiv 41)) = Y at HCY hY
      clear hq41
      have HPB := hide (fun W => pick17 q 100 hq (by omega) W)
      have ib := pickI_in (c := q) (n := 100) (by omega)
      generalize pickI q 100 = bq at HPB ib
      obtain ⟨bk, hbk⟩ : ∃ bk, bk = 1 + bq := ⟨_, rfl⟩
      have ebk : IntKind.i64.wrap (1 + bq) = bk := by rw [IntKind.wrap_i64]; omega
      have ebk2 : wrap64 (1 + bq) = bk := by unfold wrap64; omega
      have HBK : Hid (1 ≤ bk ∧ bk ≤ 100) := by show _ ∧ _; omega
      clear ib hbk
      have cq := HQC.out wr HK.out.old
      have HCW := hide (fun W (hW : Below wr.heap.size wr W) => cell_below cq hW)
      go_upto_region 12 with fail
      go_cut [17] (fun pv wx => ∃ g, pv = .slice (some ⟨g, 0, none⟩) 2 2 ∧ Pts wx g 2 [X, Y] ∧ Below wr.heap.size wr wx)
      case first =>
        go_region_held3 (fun wx => wx.cell? ⟨b, off + i, none⟩ = some (.int .i64 q))
          ((refine HCW.out _ ?_; repeat (first | exact Below.refl _ _ | refine Below.drew ?_ | refine Below.alloc ?_ (by simp) _)))
          (first
            | (go_at_call 20; with_reducible refine (HCX.out _).mono ?_; rintro ev' w' ⟨rfl, rfl⟩)
            | (go_at_call 20; with_reducible refine (HCY.out _).mono ?_; rintro ev' w' ⟨rfl, rfl⟩))
        all_goals
          go_wp2_with fail
          go_meet
          exact ⟨_, rfl, two_row (heap_alloc_new _ _), by repeat (first | exact Below.refl _ _ | refine Below.drew ?_ | refine Below.alloc ?_ (by simp) _)⟩
      case rest =>
        obtain ⟨g4, rfl, hA4, hb4⟩ := hcut
        rename World => w4
        have hK4 := HK.out.below hb4
        have hQ4 := HQ.out.below hb4
        have HDM := HD1.out.1
        have c4 := HQC.out w4 hK4.old
        have HS1 := hide (searchQ (.slice (some ⟨g4, 0, none⟩) 2 2) [X, Y] kk bk (.slice none 0 0) [] w4 hK4 hA4 (two_ints hA4) (filt_none _) (by have := HN.out; show 0 ≤ n ∧ n ≤ _; omega) (schCode_two HD1.out.1 hX hY HKB.out HBK.out (by decide)))
        rw [sList_looks] at HS1
        have hK4H := hide hK4
        have HQ4 := hide hQ4
        have HA4 := hide hA4
        clear HCX HCY HCW cq hK4 hQ4 hA4 hb4 HK HQ HDM
        generalize hsl : sList cf gn L [X, Y] [] kk bk = sl at *
        have HSL := hide hsl
        clear hsl
        go_wp2_with fail
        go_fit (HPB.out _)
        rintro ev' w' ⟨rfl, rfl⟩
        go_wp2_with fail
        go_fit HS1.out
        rintro ev w5 ⟨v5, n5, rfl, hr5, hK5, hk5, hn5, hl60⟩
        have hQ5 := HQ4.out.looked hK4H.out hk5
        have hA5 := pts_looked hK4H.out HA4.out hk5
        obtain ⟨a5, e5, rfl, _⟩ := HRow.slice hr5
        have c5 := HQC.out w5 hK5.old
        have HN5 : Hid (n + sl.length ≤ n5 ∧ n5 ≤ n + 60) := hn5
        have HS2 := hide (searchQ (.slice (some ⟨g4, 0, none⟩) 2 2) [X, Y] kk bk (.slice none 0 0) [] w5 hK5 hA5 (two_ints hA5) (filt_none _) (by have h1 := HN.out; have h2 := HN5.out; show 0 ≤ n5 ∧ n5 ≤ _; omega) (schCode_two HD1.out.1 hX hY HKB.out HBK.out (by decide)))
        rw [sList_looks, HSL.out] at HS2
        have HK5 := hide hK5
        have HQ5 := hide hQ5
        have HA5 := hide hA5
        have HR5 := hide hr5
        clear hK5 hQ5 hA5 hr5 hk5 hn5 HS1 hK4H HQ4 HA4 c4
        go_wp2_with fail
        go_fit (HPB.out _)
        rintro ev' w' ⟨rfl, rfl⟩
        go_wp2_with fail
        go_fit HS2.out
        rintro ev w6 ⟨v6, n6, rfl, hr6, hK6, hk6, hn6, _⟩
        have hQ6 := HQ5.out.looked HK5.out hk6
        have hA6 := pts_looked HK5.out HA5.out hk6
        have hr56 := HK5.out.rowLooked HR5.out hk6
        obtain ⟨a6, e6, rfl, _⟩ := HRow.slice hr6
        have HN6 : Hid (n5 + sl.length ≤ n6 ∧ n6 ≤ n5 + 60) := hn6
        have hN6 : 2 * (sl.length : Int) ≤ n6 := by have h1 := HN.out; have h2 := HN5.out; have h3 := HN6.out; omega
        have HLK := hide (looks31 bb n6 w6 hK6.base.b8)
        have HS3 := hide (searchN (.slice (some ⟨g4, 0, none⟩) 2 2) [X, Y] 0 1 6 (.slice none 0 0) [] w6 hK6 (two_ints hA6) (filt_none _) (by rw [HD1.out.1]; exact sch_count (two_code hX hY)) (by omega))
        have HK6 := hide hK6
        have HQ6 := hide hQ6
        have HR5' := hide hr56
        have HR6 := hide hr6
        clear hK6 hQ6 hA6 hr6 hr56 hk6 hn6 HS2 HK5 HQ5 HA5 HR5 c5
        go_wp2_with fail
        go_fit HLK.out
        rintro ev' w' ⟨rfl, rfl⟩
        go_wp2_with fail
        go_fit HS3.out
        rintro ev w7 ⟨v7, rfl, hb7⟩
        have hK7 := HK6.out.below hb7
        have HS4 := hide (searchN (.slice none 0 0) [] 1 1 2 (.slice none 0 0) [] w7 hK7 ⟨none, 0, rfl, Nat.le_refl _, by simp, .inl rfl⟩ (filt_none _) (by rw [HD1.out.1]; exact sch_dim) (by omega))
        have HB7 := hide hb7
        have HK7 := hide hK7
        clear hK7 hb7 HS3 HLK
        go_wp2_with fail
        go_fit HS4.out
        rintro ev w8 ⟨v8, rfl, hb8⟩
        have hK8 := HK7.out.below hb8
        have hb68 : Below w6.heap.size w6 w8 := HB7.out.trans (hb8.mono HB7.out.size)
        have c8 := HQC.out w8 hK8.old
        have HG8 := hide (getK q hq hK8)
        generalize (if (findE q L).isSome then (0 : Int) else 5) = rg at HG8
        have HK8 := hide hK8
        have HB8 := hide hb68
        clear hK8 hb8 hb68 HS4 HK7 HB7
        go_wp2_with fail
        go_fit HG8.out
        rintro ev w9 ⟨_, _, _, _, _, _, rfl, hb9⟩
        have hK9 := HK8.out.below hb9
        have hb69 : Below w6.heap.size w6 w9 := HB8.out.trans (hb9.mono HB8.out.size)
        have c9 := HQC.out w9 hK9.old
        have HPD := hide (fun W => pick17 q 1000 hq (by omega) W)
        have ido := pickI_in (c := q) (n := 1000) (by omega)
        generalize pickI q 1000 = dq at HPD ido
        have ed1 : IntKind.i64.wrap (50 + dq) = 50 + dq := by rw [IntKind.wrap_i64]; omega
        have ed2 : wrap64 (50 + dq) = 50 + dq := by unfold wrap64; omega
        have HDL := hide (delete16_no bb bs bm cf _ (50 + dq) L w9 (i64_fifty ido) hK9.base (no_50 H50.out ido.1))
        have HPU := hide (fun W => pick17 q 50 hq (by omega) W)
        generalize pickI q 50 = uq at HPU
        have HK9 := hide hK9
        have HB9 := hide hb69
        clear hK9 hb9 hb69 HG8 HK8 HB8 c8 ido
        go_wp2_with fail
        go_fit (HPD.out _)
        rintro ev' w' ⟨rfl, rfl⟩
        go_wp2_with fail
        go_fit HDL.out
        rintro ev w10 ⟨rfl, hb10⟩
        have hK10 := HK9.out.below hb10
        have hb610 : Below w6.heap.size w6 w10 := HB9.out.trans (hb10.mono HB9.out.size)
        have c10 := HQC.out w10 hK10.old
        have HK10 := hide hK10
        have HB10 := hide hb610
        clear hK10 hb10 hb610 HDL HK9 HB9 c9 HPD
        go_wp2_with fail
        go_fit (HPU.out _)
        rintro ev' w' ⟨rfl, rfl⟩
        go_wp2_with fail
        obtain ⟨w11, hw11⟩ : ∃ w11, w11 = w10.alloc (.cells #[.int .i64 2097152, .int .i64 0] 3) := ⟨_, rfl⟩
        have hA11 : Pts w11 w10.heap.size 2 [2097152, 0] := two_row (by rw [hw11]; exact heap_alloc_new _ _)
        have hb11 : Below w10.heap.size w10 w11 := hw11 ▸ (Below.refl _ _).alloc (Nat.le_refl _) _
        rw [← hw11]
        clear hw11
        have hK11 := HK10.out.below hb11
        have HPT := hide (put13_bad bb bs bm cf _ uq 0 0 0 [2097152, 0] (.slice (some ⟨w10.heap.size, 0, none⟩) 2 2) L w11 hK11.base 3 (by rw [HD1.out.1]; exact code_far) (by omega) (fun o => (two_ints hA11).below ((Below.refl _ _).alloc (Nat.le_refl _) o)))
        have hb611 : Below w6.heap.size w6 w11 := HB10.out.trans (hb11.mono HB10.out.size)
        have HB11 := hide hb611
        have HK11 := hide hK11
        clear hA11 hb11 hK11 hb611 HB10 HK10 c10 HPU
        go_fit HPT.out
        rintro ev w12 ⟨rfl, hb12⟩
        have hK12 := HK11.out.below hb12
        have hb612 : Below w6.heap.size w6 w12 := HB11.out.trans (hb12.mono HB11.out.size)
        have HGR2 := hide (graph30 bb bs bm cf _ L w12 hK12.base HSH.out)
        have HB12 := hide hb612
        have HK12 := hide hK12
        rw [HHE2.out, show (entrL ({ gn with looks := n6 } : Net).lev).1 = ent from HEN.out] at HGR2
        clear hK12 hb12 hb612 HB11 HK11 HPT
        go_wp2_with fail
        go_fit HGR2.out
        rintro ev w13 ⟨chv2, nv2, ns2, rfl, hc13, hn13, hx13, _, _, hb13⟩
        have hsm := told_same HX2.out hx13
        have hnl2 : ns2.length = L.length := hsm.1.trans HNL.out
        obtain ⟨a13, c13, rfl, _⟩ := IRow_slice hc13
        obtain ⟨b13, d13, rfl, _⟩ := hn13.slice
        have hcl2 : gn.ch.length = L.length := HCL.out
        change IRow w13 (.slice a13 gn.ch.length c13) gn.ch at hc13
        rw [hcl2] at hc13
        rw [hnl2] at hn13
        have hcs : Value.slice a13 ({ gn with looks := n6 } : Net).ch.length c13 = .slice a13 L.length c13 := by rw [show ({ gn with looks := n6 } : Net).ch.length = L.length from hcl2]
        rw [hcs, hnl2]
        have HT13 : Hid (ns2.length = ns.length ∧ ∀ k (h1 : k < ns.length) (h2 : k < ns2.length), ns[k].id = ns2[k].id ∧ ns[k].t = ns2[k].t) := hsm
        clear hcs hnl2 hcl2 hsm hx13 HGR2
        go_wp2_with fail
        obtain ⟨w14, hw14⟩ : ∃ w14, w14 = w13.alloc (.cells #[.bool has, .int .i64 ent, .slice a13 L.length c13, .slice b13 L.length d13] 83) := ⟨_, rfl⟩
        have hb14 : Below w13.heap.size w13 w14 := hw14 ▸ (Below.refl _ _).alloc (Nat.le_refl _) _
        have hx14 : w14.heap[w13.heap.size]? = some (.cells #[.bool has, .int .i64 ent, .slice a13 L.length c13, .slice b13 L.length d13] 83 (0, 0)) := by rw [hw14]; exact heap_alloc_new _ _
        rw [← hw14]
        clear hw14
        have hb614 : Below w6.heap.size w6 w14 := HB12.out.trans ((hb13.trans (hb14.mono hb13.size)).mono HB12.out.size)
        have hK14 := HK6.out.below hb614
        have hQ14 := HQ6.out.below hb614
        have hS14 : QS w14 w13.heap.size has ent (.slice a13 L.length c13) (.slice b13 L.length d13) gn.ch gn.lk ns2 := ⟨hx14, ownsRow_below hc13 hb14, hn13.below hb14⟩
        have HSM := hide (same25 _ _ sl w14 (ownsRow_below HR5'.out hb614) (ownsRow_below HR6.out hb614) (by omega))
        generalize w13.heap.size = bS at *
        have HK14 := hide hK14
        have HQ14 := hide hQ14
        have HS14 := hide hS14
        clear hb14 hx14 hb614 hK14 hQ14 hS14 hc13 hn13 hb13 HB12 HK12 HQ6 HR5' HR6
        go_fit HSM.out
        rintro ev w15 ⟨rfl, hb15⟩
        have hK15 := HK14.out.below hb15
        have hQ15 := HQ14.out.below hb15
        have hS15 := HS14.out.below hb15
        have p0 := cells_at hQ15.blk 0 rfl
        have p1 := cells_at hQ15.blk 1 rfl
        have p2 := cells_at hQ15.blk 2 rfl
        have p3 := cells_at hQ15.blk 3 rfl
        have q0 := cells_at hS15.blk 0 rfl
        have q1 := cells_at hS15.blk 1 rfl
        have q2 := cells_at hS15.blk 2 rfl
        have q3 := cells_at hS15.blk 3 rfl
        simp only [List.getElem_toArray, List.getElem_cons_zero, List.getElem_cons_succ] at p0 p1 p2 p3 q0 q1 q2 q3
        have HUN := hide (unchanged32 has ent _ _ _ _ gn.ch gn.lk ns ns2 w15 hQ15.chr hS15.chr hQ15.nds hS15.nds (by rw [HCL.out]; exact hn60) (by rw [HNL.out]; exact hn60) HT13.out.1 HT13.out.2 HT1.out HSH.out)
        have HK15 := hide hK15
        have HQ15 := hide hQ15
        clear hK15 hQ15 hS15 hb15 HK14 HQ14 HS14 HSM
        go_wp2_with fail
        go_fit HUN.out
        rintro ev w16 ⟨rfl, hb16⟩
        have hK16 := HK15.out.below hb16
        have hQ16 := HQ15.out.below hb16
        have HLK2 := hide (looks31 bb n6 w16 hK16.base.b8)
        have HK16 := hide hK16
        have HQ16 := hide hQ16
        clear hK16 hQ16 hb16 HK15 HQ15 HUN p0 p1 p2 p3 q0 q1 q2 q3
        go_wp2_with fail
        go_fit HLK2.out
        rintro ev' w' ⟨rfl, rfl⟩
        have hw2 : wrap64 (2 * (sl.length : Int)) = 2 * (sl.length : Int) := by unfold wrap64; omega
        have hd2 : decide (n6 < 2 * (sl.length : Int)) = false := decide_eq_false (by omega)
        go_wp2
        exact ⟨⟨i + 1, n6, by go_num, by omega, HK16.out, HQ16.out, by have h1 := HN.out; have h2 := HN5.out; have h3 := HN6.out; show _ ∧ _; push_cast; omega⟩, by simp [intOf]; omega⟩
    · obtain rfl : i = pts.length := by omega
      go_wp2
      go_ret
      exact ⟨rfl, HK.out.old⟩
end Go.Proofs.YtpkiefjanmfgfaaGreatDoor
namespace Go.Proofs.YtpkiefjanmfgfaaGreatDoor
open Go.ChangeShapes Go.WideShapes Go.ChangeAt Go.RowKit

theorem handle_quiet {W : World} (h : laidMetH Tryz.prog Rows.quietRow.laid W) : Handle W := by
  have h' : laidMet Tryz.prog [] W ∧ handlesMet Tryz.prog Rows.quietRow.laid W := h
  obtain ⟨name, u, ty, e1, e2, e3, e4, e5⟩ := h'.2 _ (List.mem_singleton.2 rfl)
  have en : name = [101, 114, 114, 111, 114] := (Option.some.inj e1).symm
  subst en
  obtain rfl := Option.some.inj (rtypeRow.symm.trans e2)
  have hm : ty ∈ (List.range 313).filter fun t => Tryz.prog.rowNamed t [101, 114, 114, 111, 114] := List.mem_filter.2 ⟨List.mem_range.2 (by rw [← typesSize]; exact e3), e4⟩
  rw [errRow] at hm
  obtain rfl := List.mem_singleton.1 hm
  have hh : typeHandle Tryz.prog 104 = .pointer (some ⟨1, 104, none⟩) := by kernel_rfl
  rw [hh] at e5
  unfold Handle
  simpa using World.var?_cell errVar e5 0

set_option maxRecDepth 100000 in
theorem quiet_contract (H : Type) (enc : TypeId × Value → H) (W : World) (base : Nat) (args : Array Value) (ds gs : List (DataW H)) (before : List MemPlace)
    (hval : ∀ (j : Nat) t v, Tryz.f11.params[j]? = some t → args[j]? = some v → Value.okWide Tryz.prog W .any base t v)
    (hW : DataW.Whole enc Tryz.prog Tryz.f11.params.toList Rows.quietSpec.vars false W args.toList ds gs before)
    (hz : (DataW.weightsEach Tryz.prog (Tryz.f11.params.toList ++ Rows.quietSpec.plain.varTypes Tryz.prog) (ds ++ gs)).all (· ≤ reachBytes) = true) (hL : laidMetH Tryz.prog Rows.quietRow.laid W) :
    Calls Tryz.prog 11 args W fun e W' => ∃ v, e = .returned v ∧ Rows.quietSpec.post enc Tryz.prog Tryz.f11 false true false false W args v W' := by
  have hW' := hW
  obtain ⟨p, q, hA0, hV, rfl, hfz, hnd⟩ := hW
  have hA : DataW.TrodAll enc Tryz.prog W 0 (fun _ => true) true Tryz.f11.params.toList args.toList ds p := hA0
  rw [Tryz.params11] at hA hval hz
  obtain ⟨v0, vs0, d0, ds0, p0, q0, hargs, rfl, rfl, h0, r0⟩ := trodAll_cons hA
  obtain ⟨v1, vs1, d1, ds1, p1, q1, rfl, rfl, rfl, h1, r1⟩ := trodAll_cons r0
  obtain ⟨v2, vs2, d2, ds2, p2, q2, rfl, rfl, rfl, h2, r2⟩ := trodAll_cons r1
  obtain ⟨v3, vs3, d3, ds3, p3, q3, rfl, rfl, rfl, h3, r3⟩ := trodAll_cons r2
  obtain ⟨v4, vs4, d4, ds4, p4, q4, rfl, rfl, rfl, h4, r4⟩ := trodAll_cons r3
  obtain ⟨v5, vs5, d5, ds5, p5, q5, rfl, rfl, rfl, h5, r5⟩ := trodAll_cons r4
  obtain ⟨rfl, rfl, rfl⟩ := trodAll_nil r5
  obtain rfl : args = #[v0, v1, v2, v3, v4, v5] := by cases args; simp_all
  obtain ⟨rfl, rfl⟩ := trodVars_none hV
  have hlt := hW'.lt
  obtain ⟨sa, len, cap, rfl, hs⟩ := kscript_open (hval 0 51 v0 rfl rfl) h0 (fun k hk => by
    have := List.all_eq_true.1 hz k (DataW.weights_mem_each (j := 0) rfl rfl k hk)
    simpa using this)
  obtain ⟨a1, rfl, w1⟩ := int_open (hval 1 3 v1 rfl rfl) h1
  obtain ⟨a2, rfl, w2⟩ := int_open (hval 2 3 v2 rfl rfl) h2
  obtain ⟨a3, rfl, w3⟩ := int_open (hval 3 3 v3 rfl rfl) h3
  obtain ⟨xs4, pa4, pc4, rfl, w4, o4⟩ := pt_openI (hval 4 32 v4 rfl rfl) h4 (fun k hk => by
    have := List.all_eq_true.1 hz k (DataW.weights_mem_each (j := 4) rfl rfl k hk)
    simpa using this)
  obtain ⟨a5, rfl, w5⟩ := int_open (hval 5 3 v5 rfl rfl) h5
  refine (quiet11 sa len cap a1 a2 a3 pa4 pc4 xs4 a5 w1 w2 w3 w5 W w4 o4 (handle_quiet hL) hs).mono fun e W' ⟨he, hb⟩ => ?_
  subst he
  refine ⟨_, rfl, _, _, _, [], p0 ++ (p1 ++ (p2 ++ (p3 ++ (p4 ++ (p5 ++ []))))), [], hW', ?_, ?_, ?_, hb.frame _, fun h => by cases h⟩
  · exact trodAll_cons_mk (shut_bool Tryz.underlying4 _) trodAll_mk0
  · exact (trodAll_cons_mk (Below.trod laidOut read51 (by rw [typesSize]; decide) h0 hb (fun x hx => hlt x (by simp [hx]))) (trodAll_cons_mk (Below.trod laidOut read3 (by rw [typesSize]; decide) h1 hb (fun x hx => hlt x (by simp [hx]))) (trodAll_cons_mk (Below.trod laidOut read3 (by rw [typesSize]; decide) h2 hb (fun x hx => hlt x (by simp [hx]))) (trodAll_cons_mk (Below.trod laidOut read3 (by rw [typesSize]; decide) h3 hb (fun x hx => hlt x (by simp [hx]))) (trodAll_cons_mk (Below.trod laidOut read32 (by rw [typesSize]; decide) h4 hb (fun x hx => hlt x (by simp [hx]))) (trodAll_cons_mk (Below.trod laidOut read3 (by rw [typesSize]; decide) h5 hb (fun x hx => hlt x (by simp [hx]))) trodAll_mk0))))))
  · rfl

noncomputable def quietArgs : Array Value := #[.slice none 0 0, .int .i64 0, .int .i64 0, .int .i64 0, .slice none 0 0, .int .i64 0]
theorem quiet_met (os : Os) : laidMetH Tryz.prog Rows.quietRow.laid ((laidWorld os).forCall (fun _ _ => 0) ⟨#[], quietArgs, []⟩).memory :=
  laidMetH_of_parts (laidMet_nil _ _) (by kernel_rfl)
theorem quiet_reads (os : Os) {H : Type} (enc : TypeId × Value → H) : ∃ places, DataW.whole enc Tryz.prog ((laidWorld os).forCall (fun _ _ => 0) ⟨#[], quietArgs, []⟩).memory Tryz.f11.params.toList Rows.quietSpec.vars false quietArgs.toList 8 = some ([.nil, .lit (.int .i64 0), .lit (.int .i64 0), .lit (.int .i64 0), .nil, .lit (.int .i64 0)], [], places) :=
  ⟨[], by kernel_rfl⟩

set_option maxRecDepth 100000 in
theorem quiet_lifted (os : Os) (started : os.Started) (H : Type) (enc : TypeId × Value → H) (F : Stop.Interp) :
    ReturnsInHanded {} Tryz.checked os 11 .any ((OpenSpec.ofChange Rows.quietSpec).preRow enc Tryz.prog Tryz.f11 Rows.quietRow.domain false Rows.quietRow.laid) (((OpenSpec.ofChange Rows.quietSpec).at F).post enc Tryz.prog Tryz.f11 false true false false) := by
  obtain ⟨places, hx⟩ := quiet_reads os enc
  refine returnsInHanded_of_row (C := Tryz.checked) (s := OpenSpec.ofChange Rows.quietSpec) knob started (by kernel_rfl) Tryz.func11
    (witness_row_at (enc := enc) (C := Tryz.checked) false (laidWorld os) quietArgs rfl (by kernel_rfl) (by kernel_rfl) (by kernel_rfl)
      (OpenSpec.preRow_of_cond 8 hx (by kernel_rfl) (fun k hk => by cases hk) (by kernel_rfl) (quiet_met os))) ?_
  intro W base args ds gs before hval hW _ _ hz hL _ _
  exact quiet_contract H enc W base args ds gs before hval hW hz hL

set_option maxRecDepth 100000 in
theorem quiet_said : Rows.QuietSaid :=
  OpenClaim.holds_of_cond 11 Tryz.f11 rfl rfl rfl rfl rfl rfl rfl ⟨rfl, rfl, rfl, rfl, rfl⟩ rfl rfl rfl rfl rfl (by kernel_rfl) Tryz.func11 (by kernel_rfl)
    (of_decide_eq_true (by kernel_rfl)) (by unfold Func.isWrapper; first | (rw [if_pos (by decide +kernel)]; kernel_rfl) | (rw [if_neg (by decide +kernel)]; exact ⟨rfl, rfl⟩))
    (fun os started H enc _ F => by rw [OpenClaim.pre_eq_preRow]; exact quiet_lifted os started H enc F)

theorem quiet_plain (f : FuncId) (fn : Func) (hf : Tryz.pinned.checked.prog.funcNamed "nearby/nearbykeep.Quiet" = some f) (hfn : Tryz.pinned.checked.prog.funcs[f]? = some fn) :
    true = Tryz.pinned.checked.prog.looks [] ∧ ∀ (j : Nat) t, fn.params[j]? = some t → Tryz.pinned.checked.prog.wantsStandIn t = false := by
  obtain rfl : f = 11 := Option.some.inj ((show Tryz.prog.funcNamed "nearby/nearbykeep.Quiet" = some 11 by kernel_rfl).symm.trans hf) |>.symm
  obtain rfl : fn = Tryz.f11 := (Option.some.inj (Tryz.func11.symm.trans hfn)).symm
  refine ⟨by kernel_rfl, fun j t ht => ?_⟩
  rw [Tryz.params11] at ht
  have hm := Array.mem_of_getElem? ht
  simp at hm
  rcases hm with rfl | rfl | rfl | rfl
  · exact (show Tryz.prog.wantsStandIn 51 = false by kernel_rfl)
  · exact (show Tryz.prog.wantsStandIn 3 = false by kernel_rfl)
  · exact (show Tryz.prog.wantsStandIn 32 = false by kernel_rfl)
  · exact (show Tryz.prog.wantsStandIn 3 = false by kernel_rfl)

theorem quiet_card : Rows.QuietCardSaid :=
  Claim7.holds_tied_plain_at .later [] _ _ _ _ quiet_said (fun _ h => by cases h) (by kernel_rfl) (fun _ h => by cases h) quiet_row_tie rfl ⟨rfl, rfl⟩ (by kernel_rfl) rfl quiet_plain (by kernel_rfl)
#print axioms quiet_card
end Go.Proofs.YtpkiefjanmfgfaaGreatDoor
