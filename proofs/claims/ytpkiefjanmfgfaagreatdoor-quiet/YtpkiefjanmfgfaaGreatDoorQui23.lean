import Derived.Shelf.SlIterI.Nil
import Derived.Shelf.SortM.Plain
import Derived.Shelf.SortM.SortNone
import Derived.Ground.GgzProg
import Derived.Ground.SlgmProg
import Derived.Test.YtpkiefjanmfgfaaGreatDoorRows
import Derived.Test.YtpkiefjanmfgfaaGreatDoorQui22
namespace Go.Proofs
open Go.Shelf
def Tryz.keysA_ren : Go.Shelf.Ren := ⟨fun | 7 => 119 | 10 => 156 | n => n, fun | 23 => 169 | 26 => 3 | 3 => 3 | 28 => 193 | 0 => 0 | 27 => 192 | 33 => 121 | 4 => 4 | n => n, fun | n => n⟩
theorem Tryz.keysA : Go.Proofs.SlLaysZI.n7 Tryz.prog Tryz.keysA_ren := {
  mixed := by kernel_rfl
  f7 := ⟨Tryz.f119.name, by decide, Tryz.func119.trans (congrArg some (by kernel_rfl))⟩
  f10 := ⟨Tryz.f156.name, by decide, Tryz.func156.trans (congrArg some (by kernel_rfl))⟩
  t0 := Tryz.underlying0
  a0 := Tryz.isAgg0
  z0 := Tryz.sizeOf0
  v0 := Tryz.zeroValue0
  t4 := Tryz.underlying4
  a4 := Tryz.isAgg4
  z4 := Tryz.sizeOf4
  v4 := Tryz.zeroValue4
  t23 := Tryz.underlying169
  a23 := Tryz.isAgg169
  z23 := Tryz.sizeOf169
  v23 := Tryz.zeroValue169
  t26 := Tryz.underlying3
  a26 := Tryz.isAgg3
  z26 := Tryz.sizeOf3
  v26 := Tryz.zeroValue3
  t27 := Tryz.underlying192
  a27 := Tryz.isAgg192
  z27 := Tryz.sizeOf192
  v27 := Tryz.zeroValue192
  t28 := Tryz.underlying193
  a28 := Tryz.isAgg193
  z28 := Tryz.sizeOf193
  v28 := Tryz.zeroValue193
  t33 := Tryz.underlying121
  a33 := Tryz.isAgg121
  z33 := Tryz.sizeOf121
  v33 := Tryz.zeroValue121 }
def Tryz.sortedA_ren : Go.Shelf.Ren := ⟨fun | 6 => 118 | 8 => 154 | 9 => 155 | 11 => 173 | 13 => 175 | 12 => 174 | 23 => 189 | 24 => 190 | 14 => 180 | 15 => 181 | 16 => 182 | 17 => 183 | 18 => 184 | 19 => 185 | 20 => 186 | 21 => 187 | 22 => 188 | 25 => 194 | 26 => 195 | 27 => 196 | 28 => 197 | 29 => 198 | 30 => 179 | 31 => 200 | n => n, fun | 26 => 3 | 28 => 193 | 24 => 32 | 0 => 0 | 3 => 3 | 37 => 224 | 48 => 274 | 50 => 44 | 4 => 4 | 40 => 268 | 39 => 267 | 45 => 138 | 5 => 5 | 9 => 9 | 51 => 276 | 55 => 280 | 57 => 282 | 58 => 283 | 33 => 121 | n => n, fun | n => n⟩
theorem Tryz.sortedA : Go.Proofs.SlLaysZI.n6 Tryz.prog Tryz.sortedA_ren := {
  mixed := by kernel_rfl
  f6 := ⟨Tryz.f118.name, by decide, Tryz.func118.trans (congrArg some (by kernel_rfl))⟩
  f8 := ⟨Tryz.f154.name, by decide, Tryz.func154.trans (congrArg some (by kernel_rfl))⟩
  f11 := ⟨Tryz.f173.name, by decide, Tryz.func173.trans (congrArg some (by kernel_rfl))⟩
  t0 := Tryz.underlying0
  a0 := Tryz.isAgg0
  z0 := Tryz.sizeOf0
  v0 := Tryz.zeroValue0
  t24 := Tryz.underlying32
  a24 := Tryz.isAgg32
  z24 := Tryz.sizeOf32
  v24 := Tryz.zeroValue32
  t26 := Tryz.underlying3
  a26 := Tryz.isAgg3
  z26 := Tryz.sizeOf3
  v26 := Tryz.zeroValue3
  t28 := Tryz.underlying193
  a28 := Tryz.isAgg193
  z28 := Tryz.sizeOf193
  v28 := Tryz.zeroValue193
  i26 := by kernel_rfl }
def Tryz.sortA_ren : Go.Shelf.Ren := ⟨fun | 5 => 155 | 8 => 175 | 7 => 174 | 19 => 189 | 20 => 190 | 10 => 180 | 11 => 181 | 12 => 182 | 13 => 183 | 14 => 184 | 15 => 185 | 16 => 186 | 17 => 187 | 18 => 188 | 30 => 194 | 31 => 195 | 32 => 196 | 33 => 197 | 34 => 198 | 35 => 179 | 40 => 200 | n => n, fun | 23 => 32 | 25 => 3 | 3 => 3 | 32 => 224 | 22 => 32 | 0 => 0 | 44 => 274 | 46 => 44 | 4 => 4 | 36 => 268 | 35 => 267 | 41 => 138 | 5 => 5 | 9 => 9 | 53 => 276 | 57 => 280 | 63 => 282 | 64 => 283 | n => n, fun | n => n⟩
theorem Tryz.sortA : Go.Proofs.SlLaysM.n5 Tryz.prog Tryz.sortA_ren := {
  mixed := by kernel_rfl
  f5 := ⟨Tryz.f155.name, by decide, Tryz.func155.trans (congrArg some (by kernel_rfl))⟩
  f7 := ⟨Tryz.f174.name, by decide, Tryz.func174.trans (congrArg some (by kernel_rfl))⟩
  f8 := Tryz.func175.trans (congrArg some (by kernel_rfl))
  f10 := ⟨Tryz.f180.name, by decide, Tryz.func180.trans (congrArg some (by kernel_rfl))⟩
  f11 := ⟨Tryz.f181.name, by decide, Tryz.func181.trans (congrArg some (by kernel_rfl))⟩
  f12 := ⟨Tryz.f182.name, by decide, Tryz.func182.trans (congrArg some (by kernel_rfl))⟩
  f13 := ⟨Tryz.f183.name, by decide, Tryz.func183.trans (congrArg some (by kernel_rfl))⟩
  f14 := ⟨Tryz.f184.name, by decide, Tryz.func184.trans (congrArg some (by kernel_rfl))⟩
  f15 := ⟨Tryz.f185.name, by decide, Tryz.func185.trans (congrArg some (by kernel_rfl))⟩
  f16 := ⟨Tryz.f186.name, by decide, Tryz.func186.trans (congrArg some (by kernel_rfl))⟩
  f17 := ⟨Tryz.f187.name, by decide, Tryz.func187.trans (congrArg some (by kernel_rfl))⟩
  f18 := ⟨Tryz.f188.name, by decide, Tryz.func188.trans (congrArg some (by kernel_rfl))⟩
  f19 := Tryz.func189.trans (congrArg some (by kernel_rfl))
  f20 := Tryz.func190.trans (congrArg some (by kernel_rfl))
  f30 := ⟨Tryz.f194.name, by decide, Tryz.func194.trans (congrArg some (by kernel_rfl))⟩
  f31 := Tryz.func195.trans (congrArg some (by kernel_rfl))
  f32 := Tryz.func196.trans (congrArg some (by kernel_rfl))
  f33 := ⟨Tryz.f197.name, by decide, Tryz.func197.trans (congrArg some (by kernel_rfl))⟩
  f34 := ⟨Tryz.f198.name, by decide, Tryz.func198.trans (congrArg some (by kernel_rfl))⟩
  f35 := ⟨Tryz.f179.name, by decide, Tryz.func179.trans (congrArg some (by kernel_rfl))⟩
  f40 := ⟨Tryz.f200.name, by decide, Tryz.func200.trans (congrArg some (by kernel_rfl))⟩
  t0 := Tryz.underlying0
  a0 := Tryz.isAgg0
  z0 := Tryz.sizeOf0
  v0 := Tryz.zeroValue0
  t3 := Tryz.underlying3
  a3 := Tryz.isAgg3
  z3 := Tryz.sizeOf3
  v3 := Tryz.zeroValue3
  t4 := Tryz.underlying4
  a4 := Tryz.isAgg4
  z4 := Tryz.sizeOf4
  v4 := Tryz.zeroValue4
  t5 := Tryz.underlying5
  a5 := Tryz.isAgg5
  z5 := Tryz.sizeOf5
  v5 := Tryz.zeroValue5
  t9 := Tryz.underlying9
  a9 := Tryz.isAgg9
  z9 := Tryz.sizeOf9
  v9 := Tryz.zeroValue9
  t22 := Tryz.underlying32
  a22 := Tryz.isAgg32
  z22 := Tryz.sizeOf32
  v22 := Tryz.zeroValue32
  t23 := Tryz.underlying32
  a23 := Tryz.isAgg32
  z23 := Tryz.sizeOf32
  v23 := Tryz.zeroValue32
  t25 := Tryz.underlying3
  a25 := Tryz.isAgg3
  z25 := Tryz.sizeOf3
  v25 := Tryz.zeroValue3
  t32 := Tryz.underlying224
  a32 := Tryz.isAgg224
  z32 := Tryz.sizeOf224
  v32 := Tryz.zeroValue224
  t35 := Tryz.underlying267
  a35 := Tryz.isAgg267
  z35 := Tryz.sizeOf267
  v35 := Tryz.zeroValue267
  t36 := Tryz.underlying268
  a36 := Tryz.isAgg268
  z36 := Tryz.sizeOf268
  v36 := Tryz.zeroValue268
  t41 := Tryz.underlying138
  a41 := Tryz.isAgg138
  z41 := Tryz.sizeOf138
  v41 := Tryz.zeroValue138
  t44 := Tryz.underlying274
  a44 := Tryz.isAgg274
  z44 := Tryz.sizeOf274
  v44 := Tryz.zeroValue274
  t46 := Tryz.underlying44
  a46 := Tryz.isAgg44
  z46 := Tryz.sizeOf44
  v46 := Tryz.zeroValue44
  t53 := Tryz.underlying276
  a53 := Tryz.isAgg276
  z53 := Tryz.sizeOf276
  v53 := Tryz.zeroValue276
  t57 := Tryz.underlying280
  a57 := Tryz.isAgg280
  z57 := Tryz.sizeOf280
  v57 := Tryz.zeroValue280
  t63 := Tryz.underlying282
  a63 := Tryz.isAgg282
  z63 := Tryz.sizeOf282
  v63 := Tryz.zeroValue282
  t64 := Tryz.underlying283
  a64 := Tryz.isAgg283
  z64 := Tryz.sizeOf283
  v64 := Tryz.zeroValue283 }
end Go.Proofs
namespace Go.Proofs
open Go.RowKit Go.Maps Go.Sort Go.Shelf


theorem Tryz.sortsA (m : Nat) : AnyZI.SortsIn Tryz.prog Tryz.sortedA_ren Fence.wide m :=
  ⟨fun blk off cap ss W hH hblk hsz => callsIn_wide.2 (AnyM.slices_Sort_int Tryz.sortA blk off cap ss W hH hblk hsz),
   fun p cap W => callsIn_wide.2 (AnyM.slices_Sort_int_none Tryz.sortA p cap W)⟩

theorem Tryz.keys119 (mb : Option Nat) (W : World) : Calls Tryz.prog 119 #[.map mb] W fun e w' => e = .returned (.func (.func 156) #[] #[.pointer (some ⟨W.heap.size, 0, none⟩)]) ∧ w' = W.alloc (.cells #[.map mb] 169) :=
  (callsIn_wide (n := 5)).1 (AnyZI.keys_in Tryz.keysA Fence.wide 5 trivial rfl mb W)

set_option maxHeartbeats 1000000 in
theorem Tryz.sorted118 {H : Type} (b nn : Nat) (D0 : DataW H) (R : Value → Option (DataW H × List MemPlace)) (w : World) (hown : w.ownsMap Tryz.prog 3 R b nn D0) (hmax : Maps.size D0 ≤ maxLen) (hbytes : Maps.size D0 * 8 ≤ 140737488355328) :
    Calls Tryz.prog 118 #[.func (.func 156) #[] #[.pointer (some ⟨w.heap.size, 0, none⟩)]] (w.alloc (.cells #[.map (some b)] 169)) fun e w' => ∃ (v : Value) (ss : List Int), e = .returned v ∧ ss.Perm (intKeys D0) ∧
      w'.ownsRow (w.alloc (.cells #[.map (some b)] 169)).heap.size 3 1 v ss.length ((ss.mergeSort (fun x y => decide (x ≤ y))).map encZ) ∧ (v = .slice none 0 0 ↔ ss = []) ∧ Below (w.alloc (.cells #[.map (some b)] 169)).heap.size (w.alloc (.cells #[.map (some b)] 169)) w' := by
  have hbl := hown.lt
  have hseq : SeqGives Fence.wide 2 Tryz.prog 156 #[.pointer (some ⟨w.heap.size, 0, none⟩)] encZ (fun ss => ss.Perm (intKeys D0)) (Maps.size D0) (w.alloc (.cells #[.map (some b)] 169)) :=
    AnyZI.keys_gives (ρ := Tryz.keysA_ren) { Tryz.keysA with } Fence.wide _ trivial rfl (by omega) w.heap.size b nn D0 _ (by simp) (by simp) (by
      obtain ⟨es, clock, hb, Ft, hs, hD⟩ := hown
      exact ⟨es, clock, (Below.heap_alloc _ _ b hbl).trans hb, Ft, hs, hD⟩)
  have cS := AnyZI.sorted_in Tryz.sortedA Fence.wide 5 trivial trivial trivial trivial rfl (by omega) (Tryz.sortsA _) (enters_of Tryz.func155 (by kernel_rfl) rfl) 156 #[.pointer (some ⟨w.heap.size, 0, none⟩)] trivial (enters_of Tryz.func156 (by kernel_rfl) rfl) _ _ hmax hbytes _ hseq
  exact (callsIn_wide (n := 5)).1 cS
end Go.Proofs
namespace Go.Proofs.YtpkiefjanmfgfaaGreatDoor
open Go.RowKit Go.Maps Go.Sort

theorem keys_ok {w : World} {bg bl bk : Nat} {cv : Value} {lev : List (Int × Int)} {Ls : List LEnt} {ch : List Int} (h : GRaw w bg bl bk cv lev Ls ch) (hid : ∀ p ∈ lev, I64 p.1) (hln : lev.length ≤ 60) : KeysOk w bl lev := by
  obtain ⟨D, hown, hsz, htidy, hat⟩ := h.lev.own
  have hnod : (lev.map (·.1)).Nodup := by
    have := h.lev.nodup
    unfold keysA levV at this
    rw [List.map_map] at this
    exact this
  have hsz2 : Maps.size D ≤ 60 := by
    rw [hsz]
    simpa [levV] using hln
  have hhas : ∀ i, I64 i → Maps.has D (.int .i64 i) = (levOf lev i).isSome := fun i hi => by
    have h5 := has_of_at (hat i hi)
    rw [getA_levV] at h5
    have h6 : (Option.map (Value.int .i64) (levOf lev i)).isSome = (levOf lev i).isSome := by simp
    rw [h6] at h5
    exact h5
  have hback : ∀ x, Maps.has D (.int .i64 x) = true → I64 x := fun x hx => by
    obtain ⟨es, rfl, hko⟩ := hown.keysOf
    rw [has_eq, List.any_eq_true] at hx
    obtain ⟨p, hp, hs⟩ := hx
    obtain ⟨v, hv⟩ := hko p hp
    obtain ⟨y, _, hy, hl⟩ := Maps.keyOf_i64 Tryz.underlying3 hv
    rw [hy] at hs
    have e : y = x := by simpa [Lit.sameKey] using hs
    subst e
    exact hl
  have hcol : CollectedI D (fun _ => false) (lev.map (·.1)) := ⟨hnod, fun x => by
    constructor
    · intro hx
      obtain ⟨p, hp, rfl⟩ := List.mem_map.1 hx
      refine ⟨?_, rfl⟩
      rw [hhas p.1 (hid p hp), levOf_of_mem hnod hp]
      rfl
    · rintro ⟨hx, _⟩
      have := hhas x (hback x hx)
      rw [hx] at this
      obtain ⟨t, ht⟩ := Option.isSome_iff_exists.1 this.symm
      exact levOf_map ht⟩
  have hperm := hcol.perm hown key3 Tryz.underlying3 (fun _ => rfl)
  refine ⟨fun W => Tryz.keys119 (some bl) W, fun W hW => ?_⟩
  have hownW : W.ownsMap Tryz.prog 3 asIs bl (levV lev).length D := by
    obtain ⟨es, clock, h1, h2⟩ := hown
    exact ⟨es, clock, (hW.block _ (heap_lt h1)).trans h1, h2⟩
  refine (Tryz.sorted118 bl _ D asIs W hownW (by unfold maxLen; omega) (by omega)).mono ?_
  rintro e w' ⟨v, ss, rfl, hp, hrow, _, hb⟩
  have hss : ss.mergeSort (fun x y => decide (x ≤ y)) = idsL lev := mergeSort_of_perm_i (hp.trans hperm.symm)
  have hlen : ss.length = (idsL lev).length := by rw [← hss]; simp
  refine ⟨v, rfl, ?_, fun g hg => ?_, ((Below.refl _ _).alloc (Nat.le_refl _) _).trans (hb.mono (by simp))⟩
  · rw [hss, hlen] at hrow
    exact ownsRow_zero hrow
  · have := (hrow.lt g hg).1
    simp at this
    omega
end Go.Proofs.YtpkiefjanmfgfaaGreatDoor
namespace Go.Proofs.YtpkiefjanmfgfaaGreatDoor
open Go.RowKit Go.Maps

set_option maxHeartbeats 2000000 in
set_option maxRecDepth 20000 in
theorem graph30 (bb bs bm : Nat) (cf : Cf) (gn : Net) (L : List Ent) (w : World) (h : BaseAt w bb bs bm cf gn L) (hs : ∀ p, (gn.lk p).length ≤ 1000) :
    Calls Tryz.prog 30 #[.pointer (some ⟨bb, 0, none⟩)] w fun ev w' => ∃ chv nv ns, ev = .returned (.agg #[.bool (decide (0 ≤ (entrL gn.lev).2)), .int .i64 (entrL gn.lev).1, chv, nv]) ∧ IRow w' chv gn.ch ∧ NodesAt w' gn.lk nv ns ∧
      (ns.map (·.id) = idsL gn.lev ∧ ∀ n ∈ ns, levOf gn.lev n.id = some (n.t : Int)) ∧ (∀ g, chv.ownBlock = some g → w.heap.size ≤ g) ∧ ((∀ g, nv.ownBlock = some g → w.heap.size ≤ g) ∧ Frs w.heap.size chv ns) ∧ Below w.heap.size w w' := by
  have hidI : ∀ p ∈ gn.lev, I64 p.1 := fun p hp => by
    obtain ⟨e, he⟩ := Option.isSome_iff_exists.1 (h.ids.1 (List.mem_map.2 ⟨p, hp, rfl⟩))
    have := h.ints e (findE_mem he).1
    rw [(findE_mem he).2] at this
    exact this
  have b7 := h.b7
  have hbb := block_lt_of_cell b7
  have HT := hide (fun W (hW : Below w.heap.size w W) => tell62 gn.bg gn.F gn.lev gn.lk gn.ch W (h.g.below hW) (fun bl hbl => by
    obtain ⟨bl', bk, cv, Ls, hraw, _⟩ := h.g.below hW
    have e := hraw.c0.symm.trans hbl
    simp at e
    subst e
    exact keys_ok hraw hidI h.idsLen) (fun p hp => ⟨hidI p hp, h.ok.ok.lev5 p hp⟩) h.ok.ok.nod h.idsLen h.chLen hs)
  clear h hs hidI
  go_enter Tryz.func30, Tryz.ntmps30
  go_wp2_with fail
  go_fit (HT.out _ ((Below.refl _ _).alloc (Nat.le_refl _) _))
  rintro ev w1 ⟨chv, nv, ns, rfl, hc, hn, hx, hf1, hf2, hb⟩
  obtain ⟨a1, c1, rfl, _⟩ := IRow_slice hc
  obtain ⟨na, nc, hnv⟩ : ∃ na nc, nv = .slice na ns.length nc := by
    rcases hn.row.2 with ⟨e, e2⟩ | ⟨_, cp, _, e, _⟩
    · exact ⟨none, 0, by rw [e, e2]⟩
    · exact ⟨_, cp, e⟩
  subst hnv
  have hr : w1.heap[w.heap.size]? = some (.cells #[.bool false, .int .i64 0, .slice none 0 0, .slice none 0 0] 83 (0, 0)) := (hb.block _ (by simp)).trans (heap_alloc_new _ _)
  have y0 : w1.cell? ⟨w.heap.size, 0, none⟩ = some (.bool false) := cells_at hr 0 rfl
  have y1 : w1.cell? ⟨w.heap.size, 1, none⟩ = some (.int .i64 0) := cells_at hr 1 rfl
  have y2 : w1.cell? ⟨w.heap.size, 2, none⟩ = some (.slice none 0 0) := cells_at hr 2 rfl
  have y3 : w1.cell? ⟨w.heap.size, 3, none⟩ = some (.slice none 0 0) := cells_at hr 3 rfl
  have fz := cells_frozen hr
  generalize hhas : decide (0 ≤ (entrL gn.lev).2) = has
  generalize hent : (entrL gn.lev).1 = ent
  have HHE := hide (And.intro hhas hent)
  clear hhas hent
  have HR := hide hr
  have HC := hide hc
  have HN := hide hn
  have HX := hide hx
  have HF := hide (And.intro hf1 hf2)
  have HB := hide hb
  clear hr hc hn hx hf1 hf2 hb
  go_wp2
  generalize hwf : (((w1.setCell ⟨w.heap.size, 0, none⟩ (.bool has)).setCell ⟨w.heap.size, 1, none⟩ (.int .i64 ent)).setCell ⟨w.heap.size, 2, none⟩ (.slice a1 gn.ch.length c1)).setCell ⟨w.heap.size, 3, none⟩ (.slice na ns.length nc) = wf
  have hres : wf.heap[w.heap.size]? = some (.cells #[.bool has, .int .i64 ent, .slice a1 gn.ch.length c1, .slice na ns.length nc] 83 (0, 0)) := by
    rw [← hwf, heap_setCell_same _ _ _ _ _ _ (heap_setCell_same _ _ _ _ _ _ (heap_setCell_same _ _ _ _ _ _ (heap_setCell_same _ _ _ _ _ _ HR.out)))]
    rfl
  have hk : Kept (fun k => k = w.heap.size) w1 wf := by
    rw [← hwf]
    exact ((((Kept.refl (fun k => k = w.heap.size) w1).setCell (p := ⟨w.heap.size, 0, none⟩) (fun _ => rfl) _).setCell (p := ⟨w.heap.size, 1, none⟩) (fun _ => rfl) _).setCell (p := ⟨w.heap.size, 2, none⟩) (fun _ => rfl) _).setCell (p := ⟨w.heap.size, 3, none⟩) (fun _ => rfl) _
  have q0 := cells_at hres 0 rfl
  have q1 := cells_at hres 1 rfl
  have q2 := cells_at hres 2 rfl
  have q3 := cells_at hres 3 rfl
  simp only [List.getElem_toArray, List.getElem_cons_zero, List.getElem_cons_succ] at q0 q1 q2 q3
  have ne : ∀ {b : Nat} {c : Array Value} {e : TypeId}, w1.heap[b]? = some (.cells c e (0, 0)) → e ≠ 83 → ¬ b = w.heap.size := fun hb h1 e => ne_of_elem hb HR.out h1 e
  have hbw : Below w.heap.size w w1 := ((Below.refl _ _).alloc (Nat.le_refl _) _).trans (HB.out.mono (by simp))
  refine bodyPost_ret (v := .agg #[.bool has, .int .i64 ent, .slice a1 gn.ch.length c1, .slice na ns.length nc]) (by simp [results, Tryz.results30, go_sem, q0, q1, q2, q3]) rfl ?_
  refine ⟨_, _, ns, by rw [HHE.out.1, HHE.out.2], ownsRow_kept HC.out hk (fun g hg => ?_), ⟨ownsRow_kept HN.out.row hk (fun g hg => ?_), fun n hn => (HN.out.lks n hn).kept hk (ne (HN.out.lks n hn).blk (by decide)) (fun k c hc => ne hc (by decide))⟩, HX.out, fun g hg => ?_, ⟨fun g hg => ?_, HF.out.2.2.old (by simp)⟩, hbw.trans (hk.toBelow hbw.size (fun k e => by omega))⟩
  · obtain ⟨c, hc⟩ := ownsRow_obj HC.out hg
    exact ne hc (by decide)
  · obtain ⟨c, hc⟩ := ownsRow_obj HN.out.row hg
    exact ne hc (by decide)
  · have := HF.out.1 g hg
    simp at this
    omega
  · have := HF.out.2.1 g hg
    simp at this
    omega
end Go.Proofs.YtpkiefjanmfgfaaGreatDoor
namespace Go.Proofs.YtpkiefjanmfgfaaGreatDoor
open Go.RowKit Go.Maps

structure KOpAt (w : World) (b p : Nat) (o : KOp) : Prop where
  c0 : w.cell? ⟨b, p, none⟩ = some (.int .i64 o.id)
  c1 : w.cell? ⟨b, p + 1, none⟩ = some (.int .i64 o.x)
  c2 : w.cell? ⟨b, p + 2, none⟩ = some (.int .i64 o.y)
  c3 : w.cell? ⟨b, p + 3, none⟩ = some (.int .i64 o.tag)
  c4 : w.cell? ⟨b, p + 4, none⟩ = some (.int .i64 o.out)
  c5 : w.cell? ⟨b, p + 5, none⟩ = some (.int .u64 o.draw)
structure KScriptAt (w : World) (a : Option Addr) (len : Nat) : Prop where
  sz : len ≤ 140737488355328
  op : ∀ i, i < len → ∃ b off, a = some ⟨b, off, none⟩ ∧ ∃ o : KOp, o.Ok ∧ KOpAt w b (off + i * 6) o
theorem KOpAt.below {w w' : World} {b p : Nat} {o : KOp} (h : KOpAt w b p o) (hb : Below w.heap.size w w') : KOpAt w' b p o :=
  ⟨cell_below h.c0 hb, cell_below h.c1 hb, cell_below h.c2 hb, cell_below h.c3 hb, cell_below h.c4 hb, cell_below h.c5 hb⟩
theorem KScriptAt.below {w w' : World} {a : Option Addr} {len : Nat} (h : KScriptAt w a len) (hb : Below w.heap.size w w') : KScriptAt w' a len :=
  ⟨h.sz, fun i hi => by
    obtain ⟨b, off, e, o, h1, h2⟩ := h.op i hi
    exact ⟨b, off, e, o, h1, h2.below hb⟩⟩
theorem Below.cells {W0 w : World} (h : Below W0.heap.size W0 w) {b p : Nat} {o : KOp} (ho : KOpAt W0 b p o) : KOpAt w b p o := ho.below h

set_option maxHeartbeats 2000000 in
set_option maxRecDepth 20000 in
theorem made18 (sa : Option Addr) (len cap : Nat) (links metric beam : Int) (h1 : I64 links) (h2 : I64 metric) (h3 : I64 beam) (w : World) (hg : Handle w) (hs : KScriptAt w sa len) :
    Calls Tryz.prog 18 #[.slice sa len cap, .int .i64 links, .int .i64 metric, .int .i64 beam] w fun ev w' => ∃ bb bs bm gn L, ev = .returned (.pointer (some ⟨bb, 0, none⟩)) ∧ KB w w' bb bs bm (keepCf links metric beam) gn L ∧ K50 L ∧ 0 ≤ gn.looks ∧ gn.looks ≤ 60 := by
  have HS := hide hs
  have hsz := hs.sz
  clear hs
  go_enter Tryz.func18, Tryz.ntmps18
  go_wp2_with fail
  refine (base28 links metric beam h1 h2 h3 w hg).mono ?_
  rintro ev w1 ⟨bb, bs, bm, gn0, rfl, hK, hl⟩
  have HK0 := hide hK
  have HL0 := hide hl
  clear hK hl
  go_wp2
  go_loopw [10, 11] (fun iv _ wr => ∃ (k : Nat) (L : List Ent) (gn : Net), k ≤ len ∧ iv = .int .i64 k ∧ Hid (KB w wr bb bs bm (keepCf links metric beam) gn L) ∧ Hid (K50 L) ∧ Hid (0 ≤ gn.looks ∧ gn.looks ≤ 60)) (fun iv _ _ => len - (intOf iv).toNat)
  case atStart => exact ⟨0, [], gn0, Nat.zero_le _, rfl, HK0.out, fun _ h => absurd h List.not_mem_nil, HL0.out⟩
  case round =>
    obtain ⟨k, L, gn, hk, rfl, HK, H5, HL⟩ := hrel
    by_cases hlt : k < len
    · obtain ⟨b', off, rfl, o, ho, hat⟩ := HS.out.op k hlt
      have hor := hat.below HK.out.old
      have hst := step40 wr o ho HK.out H5.out rfl rfl
      have HST := hide hst
      obtain ⟨oid, ox, oy, otag, oout, odraw⟩ := o
      have c0 := hor.c0
      have c1 := hor.c1
      have c2 := hor.c2
      have c3 := hor.c3
      have c4 := hor.c4
      have c5 := hor.c5
      simp only at c0 c1 c2 c3 c4 c5
      clear hat hor hst ho
      go_wp2_with fail
      refine HST.out.mono ?_
      rintro ev w5 ⟨rfl, gn5, L5, hK5, h55, hl5⟩
      have HK5 := hide hK5
      have H55 := hide h55
      have HL5 : Hid (0 ≤ gn5.looks ∧ gn5.looks ≤ 60) := by rw [hl5]; exact HL
      clear hK5 h55 hl5 c0 c1 c2 c3 c4 c5
      go_wp2
      exact ⟨⟨k + 1, L5, gn5, by omega, by go_num, HK5.out, H55.out, HL5.out⟩, by simp [intOf]; omega⟩
    · obtain rfl : k = len := by omega
      go_wp2
      go_ret
      exact ⟨bb, bs, bm, gn, L, rfl, HK.out, H5.out, HL.out⟩

section
variable {W0 : World} {bb bs bm : Nat} {cf : Cf} {gn : Net} {L : List Ent}
set_option maxHeartbeats 2000000 in
set_option maxRecDepth 20000 in
theorem all22 (x y : Int) (fv : Value) (F : List (List Cnd)) (w : World) (h : KB W0 w bb bs bm cf gn L) (hd : cf.dim = 2) (hx : Crd x) (hy : Crd y) (hf : FiltAt w fv F) (hfb : filtB F = true) (hlo : 0 ≤ gn.looks ∧ gn.looks ≤ 4000000000000000000) :
    Calls Tryz.prog 22 #[.pointer (some ⟨bb, 0, none⟩), .int .i64 x, .int .i64 y, .agg #[fv]] w fun ev w' => ∃ v n, ev = .returned (.tuple #[v, .bool true]) ∧ HRow w' v (tellL cf.metric [x, y] F L) ∧ (∀ g, v.ownBlock = some g → w.heap.size ≤ g) ∧
      KB W0 w' bb bs bm cf { gn with looks := n } L ∧ Kept (fun k => k = bb) w w' ∧ (gn.looks ≤ n ∧ n ≤ gn.looks + 60) := by
  have hsc : schCode cf.dim [x, y] 60 1 F = 0 := by
    unfold schCode
    rw [hd, two_code hx hy, hfb]
    decide
  have HF := hide hf
  have H := hide h
  obtain ⟨fa, fc, rfl, _⟩ := hf
  clear h
  go_enter Tryz.func22, Tryz.ntmps22
  go_wp2_with fail
  obtain ⟨w2, hw2⟩ : ∃ w2, w2 = (w.alloc (.cells #[.slice fa F.length fc] 47)).alloc (.cells #[.int .i64 x, .int .i64 y] 3) := ⟨_, rfl⟩
  have hb2 : Below w.heap.size w w2 := by rw [hw2]; exact ((Below.refl _ _).alloc (Nat.le_refl _) _).alloc (by simp) _
  have hA : Pts w2 (w.heap.size + 1) 2 [x, y] := two_row (by rw [hw2]; have := heap_alloc_new (w.alloc (.cells #[.slice fa F.length fc] 47)) (.cells #[.int .i64 x, .int .i64 y] 3); simpa using this)
  rw [← hw2]
  clear hw2
  refine (searchK (.slice (some ⟨w.heap.size + 1, 0, none⟩) 2 2) [x, y] 60 1 (.slice fa F.length fc) F w2 (H.out.below hb2) hA (two_ints hA) (HF.out.below hb2) hlo hsc).mono ?_
  rintro ev w3 ⟨v, l, n, rfl, hr, hv, hK, hk, hn, hR⟩
  have hlen : ((tellL cf.metric [x, y] F L).length : Int) ≤ 60 := by
    rw [tellL_len]
    have h1 : (passL F L).length ≤ L.length := List.length_filter_le _ _
    have := H.out.base.few
    omega
  obtain rfl := hR.all hlen
  have hv2 : ∀ g, v.ownBlock = some g → w.heap.size ≤ g := fun g hg => Nat.le_trans hb2.size (hv g hg)
  have hk2 : Kept (fun k => k = bb) w w3 := (Kept.of_below _ hb2).trans hk (fun _ _ h => h)
  have HR := hide hr
  have HV := hide hv2
  have HK := hide hK
  have HK2 := hide hk2
  clear hr hv hK hk hR hb2 hA hv2 hk2
  go_wp2
  go_ret2
  exact ⟨v, n, rfl, HR.out, HV.out, HK.out, HK2.out, by omega, hn.2⟩
end
end Go.Proofs.YtpkiefjanmfgfaaGreatDoor
namespace Go.Proofs.YtpkiefjanmfgfaaGreatDoor
open Go.RowKit Go.Maps

def keyE (e : Ent) : Int × List Int × Int × Int := (e.id, e.pt, e.t0, e.t1)
theorem hitsL_key {m : Int} {xs : List Int} {F : List (List Cnd)} {L M : List Ent} (h : L.map keyE = M.map keyE) : hitsL m xs F L = hitsL m xs F M := by
  have e : ∀ X : List Ent, hitsL m xs F X = ((X.map keyE).filter fun k => passB F k.2.2.1 k.2.2.2).map fun k => (k.1, distL m xs k.2.1) := fun X => by
    unfold hitsL
    rw [List.filter_map, List.map_map]
    rfl
  rw [e, e, h]
theorem tellL_key {m : Int} {xs : List Int} {F : List (List Cnd)} {L M : List Ent} (h : L.map keyE = M.map keyE) : tellL m xs F L = tellL m xs F M := by
  unfold tellL
  rw [hitsL_key h]
def fromE (i : Int) (L : List Ent) : List Ent := L.filter fun e => decide (i ≤ e.id)
theorem from_none {i : Int} {L : List Ent} (h : findE i L = none) : fromE i L = fromE (i + 1) L := by
  unfold fromE
  refine List.filter_congr fun e he => ?_
  have h1 : ¬ e.id = i := by
    have := List.find?_eq_none.1 h e he
    simpa using this
  by_cases h2 : i ≤ e.id
  · simp [h2, show i + 1 ≤ e.id by omega]
  · simp [h2, show ¬ i + 1 ≤ e.id by omega]
theorem from_some {i : Int} : ∀ {L : List Ent} {e : Ent}, Rising L → findE i L = some e → fromE i L = e :: fromE (i + 1) L
  | [], e, _, h => by cases h
  | x :: r, e, hr, h => by
    obtain ⟨h1, h2⟩ := List.pairwise_cons.1 hr
    by_cases hx : x.id = i
    · have he : x = e := by simpa [findE, hx] using h
      subst he
      have h3 : fromE i r = fromE (i + 1) r := by
        unfold fromE
        refine List.filter_congr fun y hy => ?_
        have := h1 y hy
        simp [show i ≤ y.id by omega, show i + 1 ≤ y.id by omega]
      unfold fromE at h3 ⊢
      rw [List.filter_cons, List.filter_cons]
      simp [hx, h3, show ¬ i + 1 ≤ i by omega]
    · have hf : findE i r = some e := by
        unfold findE at h ⊢
        rw [List.find?_cons] at h
        simpa [hx] using h
      have hm := findE_mem hf
      have h3 := h1 e hm.1
      have ih := from_some h2 hf
      unfold fromE at ih ⊢
      rw [List.filter_cons, List.filter_cons]
      simp only [show ¬ i ≤ x.id by omega, show ¬ i + 1 ≤ x.id by omega, decide_false, Bool.false_eq_true, if_false]
      exact ih
theorem insE_front {x : Ent} {M : List Ent} (h : ∀ e ∈ M, x.id < e.id) : insE x M = x :: M := by
  cases M with
  | nil => rfl
  | cons y r =>
    unfold insE
    rw [if_pos (h y (by simp))]
theorem from_high {L : List Ent} (h : K50 L) : fromE 50 L = [] := by
  unfold fromE
  refine List.filter_eq_nil_iff.2 fun e he => ?_
  have := h e he
  simp
  omega
theorem from_low {L : List Ent} (h : K50 L) : fromE 0 L = L := by
  unfold fromE
  refine List.filter_eq_self.2 fun e he => ?_
  have := h e he
  simp
  omega
theorem key_from {L M : List Ent} {i : Int} (h : M.map keyE = (fromE i L).map keyE) : ∀ e ∈ M, i ≤ e.id := fun e he => by
  have : keyE e ∈ (fromE i L).map keyE := h ▸ List.mem_map.2 ⟨e, he, rfl⟩
  obtain ⟨y, hy, hk⟩ := List.mem_map.1 this
  have h1 : y.id = e.id := congrArg (·.1) hk
  have h2 := (List.mem_filter.1 hy).2
  simp at h2
  omega

section
variable {W0 W1 w w' : World} {bb bs bm A : Nat} {cf : Cf} {gn : Net} {L : List Ent}
theorem KB.weaken (h : KB W1 w bb bs bm cf gn L) (hb : Below W0.heap.size W0 W1) : KB W0 w bb bs bm cf gn L :=
  ⟨h.base, h.tb, h.ts, hb.trans (h.old.mono hb.size), Nat.le_trans hb.size h.lbb, Nat.le_trans hb.size h.lbm, fun k hk => Nat.le_trans hb.size (h.pf k hk)⟩
theorem KB.other (h : KB W0 w bb bs bm cf gn L) (hA : ∃ c, w.heap[A]? = some (.cells c 102 (0, 0))) (hne : A ≠ bb) (hF : ∀ k, gn.F k → k ≠ A) (h0 : 0 < W0.heap.size) (hA0 : W0.heap.size ≤ A) (hk : Kept (fun k => k = A) w w') : KB W0 w' bb bs bm cf gn L := by
  obtain ⟨cb, hcb⟩ := h.tb
  obtain ⟨cs, hcs⟩ := h.ts
  obtain ⟨cA, hA⟩ := hA
  have ns : bs ≠ A := ne_of_elem hcs hA (by decide)
  refine ⟨h.base.keptS hk (fun e => hne e.symm) ns (fun e => h.base.map.mb_ne hA e.symm) (by omega) (fun e he => ?_) hF, ⟨cb, (hk.block _ (heap_lt hcb) (fun e => hne e.symm)).trans hcb⟩, ⟨cs, (hk.block _ (heap_lt hcs) ns).trans hcs⟩, h.old.trans (hk.toBelow h.old.size (fun k e => by rw [e]; exact hA0)), h.lbb, h.lbm, h.pf⟩
  obtain ⟨c, hc⟩ := (h.base.map.pts e he).obj
  exact ne_of_elem hc hA (by decide)
end
end Go.Proofs.YtpkiefjanmfgfaaGreatDoor
namespace Go.Proofs.YtpkiefjanmfgfaaGreatDoor
open Go.RowKit Go.Maps

theorem partI_nonneg {m a b : Int} (hm : m = 0 ∨ m = 1) : 0 ≤ partI m a b := by
  unfold partI
  rcases hm with rfl | rfl
  · simp only [if_true]
    rcases Int.le_total 0 (a - b) with h | h
    · exact Int.mul_nonneg h h
    · exact Int.mul_nonneg_of_nonpos_of_nonpos h h
  · simp only [show ¬ (1 : Int) = 0 by omega, if_false, if_true]
    omega
theorem distL_nonneg {m : Int} (hm : m = 0 ∨ m = 1) : ∀ p q : List Int, 0 ≤ distL m p q
  | a :: p, b :: q => by
    have := distL_nonneg hm p q
    have := partI_nonneg (a := a) (b := b) hm
    simp only [distL]
    omega
  | [], _ => by simp [distL]
  | _ :: _, [] => by simp [distL]
theorem distL_self {m : Int} (hm : m = 0 ∨ m = 1) : ∀ p : List Int, distL m p p = 0
  | a :: p => by
    have h1 := distL_self hm p
    have h2 : partI m a a = 0 := by
      unfold partI
      rcases hm with rfl | rfl <;> simp
    simp only [distL, h1, h2]
    rfl
  | [] => by simp [distL]
theorem found_at {l : List Hit} (hs : l.Pairwise hle) (hn : (l.map (·.1)).Nodup) (h0 : ∀ x ∈ l, 0 ≤ x.2) (hm : (1000, 0) ∈ l) : ∃ j, j < l.length ∧ nth l j = (1000, 0) ∧ ∀ i, i < j → (nth l i).2 = 0 ∧ (nth l i).1 ≠ 1000 := by
  obtain ⟨j, hj, he⟩ := List.mem_iff_getElem.1 hm
  have en : ∀ i (hi : i < l.length), nth l i = l[i] := fun i hi => by simp [nth, List.getD_eq_getElem?_getD, hi]
  refine ⟨j, hj, (en j hj).trans he, fun i hi => ?_⟩
  have hil : i < l.length := by omega
  have h1 := (List.pairwise_iff_getElem.1 hs) i j hil hj hi
  have h2 := (List.pairwise_iff_getElem.1 hn) i j (by simpa using hil) (by simpa using hj) hi
  have h3 := h0 l[i] (List.getElem_mem hil)
  rw [en i hil]
  rw [he] at h1
  simp only [List.getElem_map, he] at h2
  unfold hle at h1
  simp only at h1
  exact ⟨by omega, h2⟩
theorem passL_none (L : List Ent) : passL [] L = L := by
  unfold passL
  refine List.filter_eq_self.2 fun e _ => ?_
  simp [passB]
theorem mem_insE_self (x : Ent) : ∀ L : List Ent, x ∈ insE x L
  | [] => by simp [insE]
  | y :: r => by
    unfold insE
    split
    · simp
    · split
      · simp
      · exact List.mem_cons_of_mem _ (mem_insE_self x r)

structure FnInv (n : Nat) (L : List Ent) : Prop where
  one : ∀ e : Ent, e.id = 1000 → (insE e L).length = n + 1
  room : Room 60 1000 L
theorem FnInv.first {L : List Ent} (h : K50 L) (hr : Rising L) : FnInv L.length L := by
  have hf : findE 1000 L = none := by
    cases he : findE 1000 L with
    | none => rfl
    | some e =>
      have h1 := findE_mem he
      have := h e h1.1
      omega
  exact ⟨fun e he => length_insE_none e (by rw [he]; exact hf), .inr (by have := h.len hr; omega)⟩
theorem FnInv.next {n : Nat} {L : List Ent} (h : FnInv n L) (hr : Rising L) (e : Ent) (he : e.id = 1000) : FnInv n (insE e L) := by
  have hf : findE 1000 (insE e L) = some e := by rw [← he]; exact findE_ins_self
  refine ⟨fun x hx => ?_, .inl (by rw [hf]; rfl)⟩
  rw [length_insE_some x (rising_insE e hr) (e := e) (by rw [hx]; exact hf)]
  exact h.one e he
theorem found_tell {n : Nat} {L : List Ent} {m x y : Int} {draw g gc : Nat} (hm : m = 0 ∨ m = 1) (h : FnInv n L) (hr : Rising L) :
    (tellL m [x, y] [] (insE ⟨1000, [x, y], 9, 9, draw, g, gc, 0, 0⟩ L)).length = n + 1 ∧ Ordd (tellL m [x, y] [] (insE ⟨1000, [x, y], 9, 9, draw, g, gc, 0, 0⟩ L)) ∧
      ∃ j, j < n + 1 ∧ nth (tellL m [x, y] [] (insE ⟨1000, [x, y], 9, 9, draw, g, gc, 0, 0⟩ L)) j = (1000, 0) ∧ ∀ i, i < j → (nth (tellL m [x, y] [] (insE ⟨1000, [x, y], 9, 9, draw, g, gc, 0, 0⟩ L)) i).2 = 0 ∧ (nth (tellL m [x, y] [] (insE ⟨1000, [x, y], 9, 9, draw, g, gc, 0, 0⟩ L)) i).1 ≠ 1000 := by
  have hr2 := rising_insE ⟨1000, [x, y], 9, 9, draw, g, gc, 0, 0⟩ hr
  have hlen : (tellL m [x, y] [] (insE ⟨1000, [x, y], 9, 9, draw, g, gc, 0, 0⟩ L)).length = n + 1 := by
    rw [tellL_len, passL_none]
    exact h.one _ rfl
  have hn := tellL_nodup (m := m) (xs := [x, y]) (F := []) hr2
  refine ⟨hlen, ordd_of (tellL_sorted _ _ _ _) hn, ?_⟩
  have := found_at (tellL_sorted m [x, y] [] (insE ⟨1000, [x, y], 9, 9, draw, g, gc, 0, 0⟩ L)) hn (fun x' hx => by
    obtain ⟨e, _, _, rfl⟩ := tellL_mem.1 hx
    exact distL_nonneg hm _ _) (tellL_mem.2 ⟨_, mem_insE_self _ _, by simp [passB], by simp [distL_self hm]⟩)
  rw [hlen] at this
  exact this

theorem i64_wrap {n : Int} (h : I64 n) : IntKind.i64.wrap n = n := by
  have := i64_bounds h
  rw [IntKind.wrap_i64]
  omega
theorem i64_coord (c : Int) : I64 (coordI c) ∧ -20 ≤ coordI c ∧ coordI c ≤ 20 := by
  have h := pickI_in (c := c) (n := 41) (by omega)
  have e1 : IntKind.i64.min = -9223372036854775808 := by decide
  have e2 : IntKind.i64.max = 9223372036854775807 := by decide
  unfold coordI I64
  simp only [Lit.wf, e1, e2]
  refine ⟨?_, by omega, by omega⟩
  simp
  omega

set_option maxHeartbeats 8000000 in
set_option maxRecDepth 20000 in
theorem found7 (sa : Option Addr) (len cap : Nat) (links metric beam x0 y0 : Int) (draw : Nat) (h1 : I64 links) (h2 : I64 metric) (h3 : I64 beam) (h4 : I64 x0) (h5 : I64 y0) (hdr : draw < 18446744073709551616) (w : World) (hg : Handle w) (hs : KScriptAt w sa len) :
    Calls Tryz.prog 7 #[.slice sa len cap, .int .i64 links, .int .i64 metric, .int .i64 beam, .int .i64 x0, .int .i64 y0, .int .u64 draw] w fun ev w' => ev = .returned (.bool true) ∧ Below w.heap.size w w' := by
  have p1 := pick17 metric 2 h2 (by omega) w
  have im := pickI_in (c := metric) (n := 2) (by omega)
  generalize pickI metric 2 = m at *
  have hm3 : pickI m 3 = m := by unfold pickI; rw [if_neg (by omega)]; omega
  have hM := made18 sa len cap links m beam h1 (i64_small im.1 (by omega)) h3 w hg hs
  have hcm : (keepCf links m beam).metric = m := hm3
  have HM := hide hM
  have HP1 := hide p1
  clear hM p1 hs hm3
  have hcd : (keepCf links m beam).dim = 2 := rfl
  have hcc : (keepCf links m beam).cap = 60 := rfl
  generalize keepCf links m beam = cf at *
  go_enter Tryz.func7, Tryz.ntmps7
  go_wp2_with fail
  refine HP1.out.mono ?_
  rintro ev' w' ⟨rfl, rfl⟩
  go_wp2_with fail
  refine HM.out.mono ?_
  rintro ev w1 ⟨bb, bs, bm, gn0, L0, rfl, hK, h50, hl⟩
  have hn50 := h50.len hK.base.map.rising
  have HF0 : Hid (FnInv L0.length L0) := FnInv.first h50 hK.base.map.rising
  have HK0 := hide hK
  have HL0 := hide hl
  clear hK hl h50 HM HP1
  go_wp2_with fail
  refine (count15_any bb bs bm _ _ _ _ HK0.out.base).mono ?_
  rintro ev' w' ⟨rfl, rfl⟩
  go_wp2
  go_loopw [4, 5, 17, 18, 19, 20, 21, 22] (fun xv yv tv _ _ _ _ _ wr => ∃ (t : Nat) (x y : Int) (L : List Ent) (gn : Net), t ≤ 2 ∧ xv = .int .i64 x ∧ yv = .int .i64 y ∧ tv = .int .i64 t ∧ I64 x ∧ I64 y ∧ (t = 0 ∨ (-20 ≤ x ∧ x ≤ 20)) ∧ Hid (KB w wr bb bs bm cf gn L) ∧ Hid (FnInv L0.length L) ∧ Hid (0 ≤ gn.looks ∧ gn.looks ≤ 60 + 60 * t)) (fun _ _ tv _ _ _ _ _ _ => 2 - (intOf tv).toNat)
  case atStart => exact ⟨0, x0, y0, L0, gn0, by omega, rfl, rfl, rfl, h4, h5, .inl rfl, HK0.out, HF0.out, by have := HL0.out; show _ ∧ _; omega⟩
  case round =>
    obtain ⟨t, x, y, L, gn, ht, rfl, rfl, rfl, hx, hy, hxt, HK, HF, HL⟩ := hrel
    by_cases hlt : t < 2
    · have hI7 : I64 (x + 7 * t) := by
        rcases hxt with rfl | hxt
        · simp only [Int.natCast_zero, Int.mul_zero, Int.add_zero]
          exact hx
        · have e1 : IntKind.i64.min = -9223372036854775808 := by decide
          have e2 : IntKind.i64.max = 9223372036854775807 := by decide
          unfold I64; simp only [Lit.wf, e1, e2]; simp; omega
      have e8 : wrap64 (x + 7 * t) = x + 7 * t := by unfold wrap64; have := i64_bounds hI7; omega
      have hcx := fun W => coord20 (x + 7 * t) hI7 W
      have hcy := fun W => coord20 y hy W
      have hX := coordI_crd (x + 7 * t)
      have hY := coordI_crd y
      have hX2 := i64_coord (x + 7 * t)
      have hY2 := i64_coord y
      generalize coordI (x + 7 * t) = X at hcx hX hX2
      generalize coordI y = Y at hcy hY hY2
      have HCX := hide hcx
      have HCY := hide hcy
      clear hcx hcy hI7
      go_wp2_with fail
      refine (HCX.out _).mono ?_
      rintro ev' w' ⟨rfl, rfl⟩
      go_wp2_with fail
      refine (HCY.out _).mono ?_
      rintro ev' w' ⟨rfl, rfl⟩
      go_wp2_with fail
      obtain ⟨w3, hw3⟩ : ∃ w3, w3 = wr.alloc (.cells #[.int .i64 X, .int .i64 Y] 3) := ⟨_, rfl⟩
      have hA : Pts w3 wr.heap.size 2 [X, Y] := two_row (by rw [hw3]; exact heap_alloc_new _ _)
      have hK3 : KB w w3 bb bs bm cf gn L := hw3 ▸ HK.out.alloc _
      rw [← hw3]
      clear hw3
      refine (putK 1000 9 9 draw X Y wr.heap.size (i64_small (by omega) (by omega)) hdr hK3 hcd hX hY (by rw [hcc]; exact HF.out.room) hA).mono ?_
      rintro ev w4 ⟨rfl, g, gc, gn4, hK4, _, _, hl4⟩
      have hfn := HF.out.next hK3.base.map.rising ⟨1000, [X, Y], 9, 9, draw, g, gc, 0, 0⟩ rfl
      have hft := found_tell (x := X) (y := Y) (draw := draw) (g := g) (gc := gc) (show m = 0 ∨ m = 1 by omega) HF.out hK3.base.map.rising
      have hone := HF.out.one ⟨1000, [X, Y], 9, 9, draw, g, gc, 0, 0⟩ rfl
      rw [← hcm] at hft
      generalize insE ⟨1000, [X, Y], 9, 9, draw, g, gc, 0, 0⟩ L = L4 at *
      have hl44 : 0 ≤ gn4.looks ∧ gn4.looks ≤ 60 + 60 * t := by rw [hl4]; exact HL.out
      have HK4 := hide hK4
      have HFN := hide hfn
      have HFT := hide hft
      have HL4 := hide hl44
      clear hK4 hK3 hA hfn hft hl4 hl44
      go_wp2_with fail
      refine (all22 X Y (.slice none 0 0) [] w4 HK4.out hcd hX hY (filt_none _) (by decide) (by have := HL4.out; omega)).mono ?_
      rintro ev w5 ⟨v, n5, rfl, hr5, _, hK5, _, hn5⟩
      obtain ⟨f1, f2, j, hj, f3, f4⟩ := HFT.out
      generalize tellL cf.metric [X, Y] [] L4 = l at *
      obtain ⟨va, vc, rfl, hva⟩ := HRow.slice hr5
      obtain ⟨vg, rfl⟩ := hva (by omega)
      have hl55 : 0 ≤ n5 ∧ n5 ≤ 60 + 60 * ((t + 1 : Nat) : Int) := by have := HL4.out; omega
      have hor := ordered23 _ l w5 hr5 f2 (by omega)
      have HK5 := hide hK5
      have HR5 := hide hr5
      have HL5 := hide hl55
      have HOR := hide hor
      have HF3 := hide f3
      have HF4 := hide f4
      clear hK5 hr5 hl55 hor f2 f3 f4 HFT hva hn5
      have hcn := count15_any bb bs bm cf _ L4 w5 HK5.out.base
      have HCN := hide hcn
      clear hcn
      rw [hone, ← f1] at HCN
      have F1 : Hid ((l.length : Int) = (L0.length : Int) + 1) := by show _ = _; omega
      have hjl : j < l.length := by omega
      have hll : l.length ≤ 51 := by omega
      clear f1 hone hj
      go_wp2_with fail
      refine HCN.out.mono ?_
      rintro ev' w' ⟨rfl, rfl⟩
      go_wp2_with fail
      refine HOR.out.mono ?_
      rintro ev w6 ⟨rfl, hb6⟩
      have hR6 := ownsRow_below HR5.out hb6
      have hK6 := HK5.out.below hb6
      have HR6 := hide hR6
      have HK6 := hide hK6
      clear hR6 hK6 hb6 HOR HCN HK5 HR5
      go_wp2
      go_loop [22] (fun iv => ∃ k : Nat, iv = .int .i64 k ∧ k ≤ j) (fun iv => j - (intOf iv).toNat)
      case atStart => exact ⟨0, rfl, Nat.zero_le _⟩
      case round =>
        obtain ⟨k, rfl, hk⟩ := hrel
        have y0 := HRow.at0 HR6.out (k := k) (by omega)
        have y1 := HRow.at1 HR6.out (k := k) (by omega)
        by_cases hkj : k < j
        · obtain ⟨q1, q2⟩ := HF4.out k hkj
          generalize nth l k = z at y0 y1 q1 q2
          obtain ⟨zi, zd⟩ := z
          simp only at q1 q2 y0 y1
          subst q1
          have hd : (zi == 1000) = false := by simpa using q2
          have hd2 : (zi != 1000) = true := by simpa using q2
          have hk0 : k < L0.length := by have := F1.out; omega
          go_wp2
          exact ⟨⟨k + 1, by go_num, by omega⟩, by simp [intOf]; omega⟩
        · obtain rfl : k = j := by omega
          rw [HF3.out] at y0 y1
          simp only at y0 y1
          go_wp2
          exact ⟨⟨t + 1, X, Y, L4, _, by omega, rfl, rfl, by go_num, hX2.1, hY2.1, .inr hX2.2, HK6.out, HFN.out, HL5.out⟩, by simp [intOf]; omega⟩
    · obtain rfl : t = 2 := by omega
      go_wp2
      go_ret
      exact ⟨rfl, HK.out.old⟩
end Go.Proofs.YtpkiefjanmfgfaaGreatDoor
namespace Go.Proofs.YtpkiefjanmfgfaaGreatDoor
open Go.RowKit Go.Maps

theorem u64_nat (n : Int) : ∃ d : Nat, IntKind.u64.wrap n = d ∧ d < 18446744073709551616 := by
  have h1 : 0 ≤ n % 18446744073709551616 := Int.emod_nonneg _ (by decide)
  have h2 : n % 18446744073709551616 < 18446744073709551616 := Int.emod_lt_of_pos _ (by decide)
  refine ⟨(n % 18446744073709551616).toNat, ?_, by omega⟩
  rw [IntKind.wrap_u64]
  omega
theorem RightL.wide {l l' all : List Hit} {k : Int} (h : RightL l all k 100) (h' : RightL l' all k 100) (ha : all.length ≤ 60) : l' = l := by
  have h1 := h.exact (.inr (by omega))
  have h2 := h'.exact (.inr (by omega))
  have h3 := h.len
  have h4 := h'.len
  rw [h1, h2, show l'.length = l.length by omega]
theorem schCode_two {x y k beam : Int} {dim : Int} (hd : dim = 2) (hx : Crd x) (hy : Crd y) (hk : 1 ≤ k ∧ k ≤ 60) (hb : 1 ≤ beam ∧ beam ≤ 100) {F : List (List Cnd)} (hF : filtB F = true) : schCode dim [x, y] k beam F = 0 := by
  unfold schCode
  rw [hd, two_code hx hy, hF]
  have h1 : inB k 1 60 = true := by simp only [inB, Bool.and_eq_true, decide_eq_true_eq]; exact hk
  have h2 : inB beam 1 100 = true := by simp only [inB, Bool.and_eq_true, decide_eq_true_eq]; exact hb
  simp [h1, h2, okCode]

set_option maxHeartbeats 8000000 in
set_option maxRecDepth 20000 in
theorem alike10 (sa : Option Addr) (len cap : Nat) (links metric beam other : Int) (draw : Nat) (x0 y0 k0 : Int) (h1 : I64 links) (h2 : I64 metric) (h3 : I64 beam) (h4 : I64 other) (_hdr : draw < 18446744073709551616) (h6 : I64 x0) (h7 : I64 y0) (h8 : I64 k0) (w : World) (hg : Handle w) (hs : KScriptAt w sa len) :
    Calls Tryz.prog 10 #[.slice sa len cap, .int .i64 links, .int .i64 metric, .int .i64 beam, .int .i64 other, .int .u64 draw, .int .i64 x0, .int .i64 y0, .int .i64 k0] w fun ev w' => ev = .returned (.bool true) ∧ Below w.heap.size w w' := by
  have hM := made18 sa len cap links metric beam h1 h2 h3 w hg hs
  have HM := hide hM
  have hpos := hg.lt
  clear hM hs
  go_enter Tryz.func10, Tryz.ntmps10
  go_wp2_with fail
  refine HM.out.mono ?_
  rintro ev w1 ⟨b1, s1, m1, gn1, L, rfl, hK1, h50, hl1⟩
  have hg1 : Handle w1 := hK1.base.hdl
  have HK1 := hide hK1
  have H50 := hide h50
  have HL1 := hide hl1
  clear hK1 h50 hl1 HM
  go_wp2_with fail
  refine (base28 other metric other h4 h2 h4 w1 hg1).mono ?_
  rintro ev w2 ⟨b2, s2, m2, gn2, rfl, hK2, hl2⟩
  have HK2 := hide hK2
  have HL2 := hide hl2
  have HD1 : Hid ((keepCf links metric beam).dim = 2 ∧ (keepCf links metric beam).cap = 60) := ⟨rfl, rfl⟩
  have HD2 : Hid ((keepCf other metric other).dim = 2 ∧ (keepCf other metric other).cap = 60) := ⟨rfl, rfl⟩
  have HDM : Hid ((keepCf other metric other).metric = (keepCf links metric beam).metric) := rfl
  generalize keepCf links metric beam = cf1 at *
  generalize keepCf other metric other = cf2 at *
  clear hK2 hl2
  go_wp2
  go_loopw [21, 22, 23, 24] (fun iv _ _ _ wr => ∃ (k : Nat) (M : List Ent) (gn : Net), iv = .int .i64 ((k : Int) - 1) ∧ k ≤ 50 ∧ Hid (KB w1 wr b2 s2 m2 cf2 gn M) ∧ Hid (M.map keyE = (fromE k L).map keyE) ∧ Hid (0 ≤ gn.looks ∧ gn.looks ≤ 60)) (fun iv _ _ _ _ => (intOf iv + 1).toNat)
  case atStart => exact ⟨50, [], gn2, rfl, by omega, HK2.out, by show _ = _; rw [show ((50 : Nat) : Int) = 50 from rfl, from_high H50.out], HL2.out⟩
  case round =>
    obtain ⟨k, M, gn, rfl, hk, HK, HM, HL⟩ := hrel
    by_cases hlt : 0 < k
    · obtain ⟨j, rfl⟩ : ∃ j, k = j + 1 := ⟨k - 1, by omega⟩
      have ej : ((j + 1 : Nat) : Int) - 1 = j := by omega
      rw [ej]
      have hK1r := HK1.out.below HK.out.old
      cases he : findE j L with
      | none =>
        have HG := hide (get14_no b1 s1 m1 cf1 gn1 j L wr (i64_small (by omega) (by omega)) hK1r.base he)
        have HFN := hide (from_none he)
        clear he hK1r
        go_wp2_with fail
        refine HG.out.mono ?_
        rintro ev w5 ⟨rfl, hb5⟩
        have HK5 := hide ((HK.out.below hb5).alloc (.cells #[.int .i64 0, .slice none 0 0, .int .i64 0, .int .i64 0] 77))
        clear hb5 HG
        go_wp2
        refine ⟨⟨j, M, gn, by go_num, by omega, HK5.out, ?_, HL.out⟩, by simp [intOf]⟩
        show _ = _
        rw [HFN.out]
        exact HM.out
      | some e =>
        have HG := hide (get14_yes b1 s1 m1 cf1 gn1 j L e wr (i64_small (by omega) (by omega)) hK1r.base he)
        have HFS := hide (from_some HK1.out.base.map.rising he)
        have hm := findE_mem he
        have hpt := HK1.out.base.len e hm.1
        rw [HD1.out.1] at hpt
        have hp2 : e.pt.length = 2 := by omega
        have hcr := HK1.out.base.crd e hm.1
        have hcode : ptCode cf2.dim e.pt = 0 := by
          obtain ⟨a, b, hab⟩ : ∃ a b, e.pt = [a, b] := by
            match e.pt, hp2 with
            | [a, b], _ => exact ⟨a, b, rfl⟩
          rw [hab] at hcr ⊢
          rw [HD2.out.1]
          exact two_code (hcr a (by simp)) (hcr b (by simp))
        have HCD := hide hcode
        have hid := hm.2
        clear he hK1r hpt hcr hcode hm
        go_wp2_with fail
        refine HG.out.mono ?_
        rintro ev w5 ⟨g5, gc5, rfl, hg5, hp5, hb5⟩
        rw [hid, hp2]
        have hroom : Room cf2.cap j M := .inr (by
          have e1 : M.length = (fromE ((j + 1 : Nat) : Int) L).length := by have := congrArg List.length HM.out; simpa using this
          have e2 : (fromE ((j + 1 : Nat) : Int) L).length ≤ L.length := List.length_filter_le _ _
          have e3 := H50.out.len HK1.out.base.map.rising
          rw [HD2.out.2]
          omega)
        obtain ⟨w6, hw6⟩ : ∃ w6, w6 = w5.alloc (.cells #[.int .i64 j, .slice (some ⟨g5, 0, none⟩) 2 gc5, .int .i64 e.t0, .int .i64 e.t1] 77) := ⟨_, rfl⟩
        have hb6 : Below w5.heap.size w5 w6 := hw6 ▸ (Below.refl _ _).alloc (Nat.le_refl _) _
        have hX6 : w6.heap[w5.heap.size]? = some (.cells #[.int .i64 j, .slice (some ⟨g5, 0, none⟩) 2 gc5, .int .i64 e.t0, .int .i64 e.t1] 77 (0, 0)) := by rw [hw6]; exact heap_alloc_new _ _
        have hp6 := ownsRow_below hp5 hb6
        have hK6 := (HK.out.below hb5).below hb6
        have hput := (fun d (hd : d < 18446744073709551616) => putX (j : Int) e.t0 e.t1 d e.pt g5 gc5 (i64_small (by omega) (by omega)) hd hK6 HCD.out (by omega) (by omega) hroom hp6)
        rw [hp2] at hput
        have HPUT := hide hput
        have HX6 := hide hX6
        have HNF6 : Hid (¬ (w5.heap.size = m2 ∨ gn.F w5.heap.size)) := fun h => h.elim (fun h => by have := (HK.out.below hb5).base.map.lt; omega) ((HK.out.below hb5).fresh (Nat.le_refl _))
        have hzz : w5.heap.size < w6.heap.size := heap_lt hX6
        clear hX6 hp6 hK6 hp5 hroom hb5 hb6 HG hput
        go_wp2_with fail
        obtain ⟨d, hdd, hdl⟩ := u64_nat (↑draw * (↑j + 1))
        rw [hdd, ← hw6]
        clear hw6
        refine (HPUT.out d hdl).mono ?_
        rintro ev w7 ⟨rfl, g7, gc7, gn7, hK7, hk7, _, hl7⟩
        have hX7 := (hk7.block _ hzz HNF6.out).trans HX6.out
        have x0 : w7.cell? ⟨w5.heap.size, 0, none⟩ = some (.int .i64 j) := cells_at hX7 0 rfl
        have x1 : w7.cell? ⟨w5.heap.size, 1, none⟩ = some (.slice (some ⟨g5, 0, none⟩) 2 gc5) := cells_at hX7 1 rfl
        have hzz7 := heap_lt hX7
        have HK7 := hide hK7
        have HL7 : Hid (0 ≤ gn7.looks ∧ gn7.looks ≤ 60) := by rw [hl7]; exact HL.out
        clear hK7 hk7 hX7 HPUT hl7
        go_wp2
        refine ⟨⟨j, _, gn7, by go_num, by omega, HK7.out, ?_, HL7.out⟩, by simp [intOf]⟩
        show _ = _
        rw [insE_front (fun x hx => by have := key_from HM.out x hx; simp only; omega), HFS.out]
        simp only [List.map_cons, keyE, hid]
        exact congrArg _ HM.out
    · obtain rfl : k = 0 := by omega
      have hpk := fun W => pick17 k0 60 h8 (by omega) W
      have ik := pickI_in (c := k0) (n := 60) (by omega)
      have hcx := fun W => coord20 x0 h6 W
      have hcy := fun W => coord20 y0 h7 W
      have hX := coordI_crd x0
      have hY := coordI_crd y0
      generalize pickI k0 60 = kq at hpk ik
      generalize coordI x0 = X at hcx hX
      generalize coordI y0 = Y at hcy hY
      obtain ⟨kk, hkk⟩ : ∃ kk, kk = 1 + kq := ⟨_, rfl⟩
      have ekk : IntKind.i64.wrap (1 + kq) = kk := by rw [IntKind.wrap_i64]; omega
      have ekk2 : wrap64 (1 + kq) = kk := by unfold wrap64; omega
      have hkb : 1 ≤ kk ∧ kk ≤ 60 := by omega
      have HPK := hide hpk
      have HCX := hide hcx
      have HCY := hide hcy
      have HKB := hide hkb
      clear hpk hcx hcy hkk hkb ik
      go_wp2_with fail
      refine (HPK.out _).mono ?_
      rintro ev' w' ⟨rfl, rfl⟩
      go_wp2_with fail
      refine (HCX.out _).mono ?_
      rintro ev' w' ⟨rfl, rfl⟩
      go_wp2_with fail
      refine (HCY.out _).mono ?_
      rintro ev' w' ⟨rfl, rfl⟩
      go_wp2_with fail
      obtain ⟨w5, hw5⟩ : ∃ w5, w5 = wr.alloc (.cells #[.int .i64 X, .int .i64 Y] 3) := ⟨_, rfl⟩
      have hA5 : Pts w5 wr.heap.size 2 [X, Y] := two_row (by rw [hw5]; exact heap_alloc_new _ _)
      have hK15 : KB w w5 b1 s1 m1 cf1 gn1 L := hw5 ▸ (HK1.out.below HK.out.old).alloc _
      have hK25 : KB w1 w5 b2 s2 m2 cf2 gn M := hw5 ▸ HK.out.alloc _
      rw [← hw5]
      clear hw5
      have hb1 : b1 < w1.heap.size := block_lt_of_cell HK1.out.base.b0
      have hb2 := hK25.lbb
      have HF1 : Hid (∀ k, gn1.F k → k ≠ b2) := fun k hk => by have := (HK1.out.base.foot k hk).1; omega
      have HF2 : Hid (∀ k, gn.F k → k ≠ b1) := fun k hk => by have := hK25.pf k hk; omega
      refine (searchK (.slice (some ⟨wr.heap.size, 0, none⟩) 2 2) [X, Y] kk 100 (.slice none 0 0) [] w5 hK15 hA5 (two_ints hA5) (filt_none _) (by have := HL1.out; omega) (schCode_two HD1.out.1 hX hY HKB.out (by omega) (by decide))).mono ?_
      rintro ev w6 ⟨v1, l1, n1, rfl, hr6, _, hK16, hk6, _, hR1⟩
      have hK26 := (hK25.weaken HK1.out.old).other hK15.tb (by omega) HF2.out hpos HK1.out.lbb hk6
      have HR6 := hide hr6
      have HK16 := hide hK16
      have HK26 := hide hK26
      have HR1 := hide hR1
      clear hr6 hK16 hK26 hR1 hk6 hK15 hK25 hA5
      go_wp2_with fail
      obtain ⟨w7, hw7⟩ : ∃ w7, w7 = w6.alloc (.cells #[.int .i64 X, .int .i64 Y] 3) := ⟨_, rfl⟩
      have hA7 : Pts w7 w6.heap.size 2 [X, Y] := two_row (by rw [hw7]; exact heap_alloc_new _ _)
      have hb7 : Below w6.heap.size w6 w7 := hw7 ▸ (Below.refl _ _).alloc (Nat.le_refl _) _
      rw [← hw7]
      clear hw7
      have hK17 := HK16.out.below hb7
      have hK27 := HK26.out.below hb7
      have hr7 := ownsRow_below HR6.out hb7
      refine (searchK (.slice (some ⟨w6.heap.size, 0, none⟩) 2 2) [X, Y] kk 100 (.slice none 0 0) [] w7 hK27 hA7 (two_ints hA7) (filt_none _) (by have := HL.out; omega) (schCode_two HD2.out.1 hX hY HKB.out (by omega) (by decide))).mono ?_
      rintro ev w8 ⟨v2, l2, n2, rfl, hr8, _, hK28, hk8, _, hR2⟩
      have hK18 := hK17.other hK27.tb (by omega) HF1.out hpos hK27.lbb hk8
      have hr18 := hK27.rowLooked hr7 hk8
      have hML : M.map keyE = L.map keyE := by
        have := HM.out
        rw [show ((0 : Nat) : Int) = 0 from rfl, from_low H50.out] at this
        exact this
      rw [HDM.out, tellL_key hML] at hR2
      have htl : (tellL cf1.metric [X, Y] [] L).length = L.length := by rw [tellL_len, passL_none]
      have h60 := hK18.base.few
      obtain rfl := RightL.wide HR1.out hR2 (by omega)
      have hlen := HR1.out.len
      rw [htl] at hlen
      have hml : M.length = L.length := by have := congrArg List.length hML; simpa using this
      have hsm := same25 v1 v2 l2 w8 hr18 hr8 (by omega)
      obtain ⟨va, vc, rfl, _⟩ := HRow.slice hr18
      have HSM := hide hsm
      have HK18 := hide hK18
      have HK28 := hide hK28
      have hq : (l2.length : Int) = kk ∨ L.length = l2.length := by omega
      have HQ := hide hq
      clear hsm hK18 hK28 hr8 hr18 hr7 hK17 hK27 hA7 hb7 hk8 hR2 hlen hq htl hML HR6 HK16 HK26
      go_wp2_with fail
      refine HSM.out.mono ?_
      rintro ev w9 ⟨rfl, hb9⟩
      have HC1 := hide (count15_any b1 s1 m1 cf1 _ L w9 (HK18.out.below hb9).base)
      have HC2 := hide (count15_any b2 s2 m2 cf2 _ M w9 (HK28.out.below hb9).base)
      have HB9 : Hid (Below w.heap.size w w9) := (HK18.out.below hb9).old
      rw [hml] at HC2
      clear hb9 HSM hml
      rcases HQ.out with hq | hq
      · subst hq
        go_wp2_with fail
        refine HC1.out.mono ?_
        rintro ev' w' ⟨rfl, rfl⟩
        go_wp2_with fail
        refine HC2.out.mono ?_
        rintro ev' w' ⟨rfl, rfl⟩
        go_wp2
        go_ret
        exact ⟨rfl, HB9.out⟩
      · rw [hq] at HC1 HC2
        clear hq HQ h60
        go_wp2_with fail
        refine HC1.out.mono ?_
        rintro ev' w' ⟨rfl, rfl⟩
        go_wp2_with fail
        refine HC2.out.mono ?_
        rintro ev' w' ⟨rfl, rfl⟩
        go_wp2
        all_goals go_ret
        all_goals exact ⟨rfl, HB9.out⟩
end Go.Proofs.YtpkiefjanmfgfaaGreatDoor
