import Derived.Deep.CutBlock
import Derived.Test.YtpkiefjanmfgfaaGreatDoorQui18
import Derived.Test.YtpkiefjanmfgfaaGreatDoorQui24
namespace Go.Proofs.YtpkiefjanmfgfaaGreatDoor
open Go.RowKit Go.Maps

theorem rising_len : ∀ {L : List Ent} {a b : Int}, Rising L → (∀ e ∈ L, a ≤ e.id ∧ e.id < b) → (L.length : Int) ≤ max 0 (b - a)
  | [], _, _, _, _ => by simp; omega
  | x :: r, a, b, h, hi => by
    obtain ⟨h1, h2⟩ := List.pairwise_cons.1 h
    have hx := hi x (by simp)
    have := rising_len (L := r) (a := x.id + 1) (b := b) h2 fun e he => ⟨by have := h1 e he; omega, (hi e (by simp [he])).2⟩
    simp only [List.length_cons, Int.natCast_add, Int.cast_ofNat_Int]
    omega
def K50 (L : List Ent) : Prop := ∀ e ∈ L, 0 ≤ e.id ∧ e.id < 50
theorem K50.len {L : List Ent} (h : K50 L) (hr : Rising L) : L.length ≤ 50 := by
  have := rising_len hr h
  omega
theorem K50.ins {L : List Ent} (h : K50 L) {x : Ent} (hx : 0 ≤ x.id ∧ x.id < 50) : K50 (insE x L) := fun e he => (mem_insE he).elim (fun q => q ▸ hx) (h e)
theorem K50.del {L : List Ent} (h : K50 L) (id : Int) : K50 (delE id L) := fun e he => h e (mem_delE he)

section
variable {W0 w : World} {bb bs bm : Nat} {cf : Cf} {gn : Net} {L : List Ent}
theorem getK (id : Int) (hid : I64 id) (h : KB W0 w bb bs bm cf gn L) :
    Calls Tryz.prog 29 #[.pointer (some ⟨bb, 0, none⟩), .int .i64 id] w fun ev w' => ∃ a p n c t0 t1, ev = .returned (.tuple #[.agg #[.int .i64 a, .slice p n c, .int .i64 t0, .int .i64 t1], .int .i64 (if (findE id L).isSome then 0 else 5)]) ∧ Below w.heap.size w w' := by
  cases he : findE id L with
  | none =>
    refine (get14_no bb bs bm cf gn id L w hid h.base he).mono ?_
    rintro ev w' ⟨rfl, hb⟩
    exact ⟨_, _, _, _, _, _, rfl, hb⟩
  | some e =>
    refine (get14_yes bb bs bm cf gn id L e w hid h.base he).mono ?_
    rintro ev w' ⟨g, gc, rfl, _, _, hb⟩
    exact ⟨_, _, _, _, _, _, rfl, hb⟩
theorem delKU (id : Int) (hid : I64 id) (h : KB W0 w bb bs bm cf gn L) (hk : K50 L) :
    Calls Tryz.prog 24 #[.pointer (some ⟨bb, 0, none⟩), .int .i64 id] w fun ev w' => ev = .returned (.int .i64 (if (findE id L).isSome then 0 else 5)) ∧ ∃ gn' L', KB W0 w' bb bs bm cf gn' L' ∧ K50 L' ∧ gn'.looks = gn.looks := by
  cases he : findE id L with
  | none =>
    refine (delete16_no bb bs bm cf gn id L w hid h.base he).mono ?_
    rintro ev w' ⟨rfl, hb⟩
    exact ⟨rfl, gn, L, h.below hb, hk, rfl⟩
  | some e =>
    refine (delK id e hid h he).mono ?_
    rintro ev w' ⟨rfl, gn', h1, _, _, h4⟩
    exact ⟨rfl, gn', _, h1, hk.del id, h4⟩
end

structure KOp where
  id : Int
  x : Int
  y : Int
  tag : Int
  out : Int
  draw : Nat
structure KOp.Ok (o : KOp) : Prop where
  id : I64 o.id
  x : I64 o.x
  y : I64 o.y
  tag : I64 o.tag
  draw : o.draw < 18446744073709551616
def KOp.val (o : KOp) : Value := .agg #[.int .i64 o.id, .int .i64 o.x, .int .i64 o.y, .int .i64 o.tag, .int .i64 o.out, .int .u64 o.draw]

theorem i64_small {n : Int} (h0 : 0 ≤ n) (h1 : n < 1000000) : I64 n := by
  have e1 : IntKind.i64.min = -9223372036854775808 := by decide
  have e2 : IntKind.i64.max = 9223372036854775807 := by decide
  unfold I64
  simp [Lit.wf, e1, e2]
  omega

set_option maxHeartbeats 4000000 in
set_option maxRecDepth 20000 in
theorem step40 {W0 : World} {bb bs bm : Nat} {cf : Cf} {gn : Net} {L : List Ent} (w : World) (o : KOp) (ho : o.Ok) (h : KB W0 w bb bs bm cf gn L) (hk : K50 L) (hd : cf.dim = 2) (hc : cf.cap = 60) :
    Calls Tryz.prog 40 #[.pointer (some ⟨bb, 0, none⟩), o.val] w fun ev w' => ev = .returned (.bool true) ∧ ∃ gn' L', KB W0 w' bb bs bm cf gn' L' ∧ K50 L' ∧ gn'.looks = gn.looks := by
  obtain ⟨oid, ox, oy, otag, oout, odraw⟩ := o
  obtain ⟨h1, h2, h3, h4, h5⟩ := ho
  simp only at h1 h2 h3 h4 h5
  have i1 := pickI_in (c := oid) (n := 50) (by omega)
  have hroom : Room cf.cap (pickI oid 50) L := .inr (by have := hk.len h.base.map.rising; omega)
  have hidd : I64 (pickI oid 50) := i64_small i1.1 (by omega)
  have hp := fun W => pick17 oid 50 h1 (by omega) W
  unfold KOp.val
  simp only
  generalize pickI oid 50 = id at *
  have hnF : ¬ (w.heap.size = bm ∨ gn.F w.heap.size) := fun e => e.elim (fun e => by have := h.base.map.lt; omega) (h.fresh (Nat.le_refl _))
  have HNF := hide hnF
  have H := hide h
  have HP := hide hp
  clear hnF
  have HK := hide hk
  clear h hp hk
  obtain ⟨r, hr⟩ : ∃ r : Int, r = if (findE id L).isSome then 0 else 5 := ⟨_, rfl⟩
  have HGET := hide (fun W (hW : KB W0 W bb bs bm cf gn L) => getK id hidd hW)
  have HDEL := hide (fun W (hW : KB W0 W bb bs bm cf gn L) => delKU id hidd hW HK.out)
  rw [← hr] at HGET HDEL
  clear hr
  go_enter Tryz.func40, Tryz.ntmps40
  go_wp2_with fail
  refine (HP.out _).mono ?_
  rintro ev' w' ⟨rfl, rfl⟩
  go_wp2_with fail
  obtain ⟨w1, hw1⟩ : ∃ w1, w1 = w.alloc (.cells #[.int .i64 oid, .int .i64 ox, .int .i64 oy, .int .i64 otag, .int .i64 oout, .int .u64 odraw] 98) := ⟨_, rfl⟩
  have hX : w1.heap[w.heap.size]? = some (.cells #[.int .i64 oid, .int .i64 ox, .int .i64 oy, .int .i64 otag, .int .i64 oout, .int .u64 odraw] 98 (0, 0)) := by rw [hw1]; exact heap_alloc_new _ _
  have hK1 : KB W0 w1 bb bs bm cf gn L := hw1 ▸ H.out.alloc _
  rw [← hw1]
  clear hw1 H
  refine (HGET.out w1 hK1).mono ?_
  rintro ev w2 ⟨a, p, n, c, t0, t1, rfl, hb2⟩
  have hX2 := (hb2.block _ (heap_lt hX)).trans hX
  have hK2 := hK1.below hb2
  have x4 : w2.cell? ⟨w.heap.size, 4, none⟩ = some (.int .i64 oout) := cells_at hX2 4 rfl
  have hxl := heap_lt hX2
  have hK3 : ∀ o, KB W0 (w2.alloc o) bb bs bm cf gn L := fun o => hK2.alloc o
  have hS : ∀ o W, Below (w2.alloc o).heap.size (w2.alloc o) W → W.cell? ⟨w.heap.size, 1, none⟩ = some (.int .i64 ox) ∧ W.cell? ⟨w.heap.size, 2, none⟩ = some (.int .i64 oy) ∧ W.cell? ⟨w.heap.size, 3, none⟩ = some (.int .i64 otag) ∧ W.cell? ⟨w.heap.size, 5, none⟩ = some (.int .u64 odraw) := fun o W hW => by
    have h0 := (hW.block _ (by simp; omega)).trans ((((Below.refl w2.heap.size w2).alloc (Nat.le_refl _) o).block _ hxl).trans hX2)
    exact ⟨cells_at h0 1 rfl, cells_at h0 2 rfl, cells_at h0 3 rfl, cells_at h0 5 rfl⟩
  have hX' : ∀ o, (w2.alloc o).heap[w.heap.size]? = some (.cells #[.int .i64 oid, .int .i64 ox, .int .i64 oy, .int .i64 otag, .int .i64 oout, .int .u64 odraw] 98 (0, 0)) := fun o => (((Below.refl w2.heap.size w2).alloc (Nat.le_refl _) o).block _ hxl).trans hX2
  have HX := hide hX'
  have HK3 := hide hK3
  have HS := hide hS
  clear hX'
  clear hX hX2 hK1 hK2 hb2 hK3 hS HGET
  by_cases hbit : (Go.bits BinOp.and IntKind.i64 oout 1 == 1) = true
  · go_wp2_with fail
    refine (HDEL.out _ (HK3.out _)).mono ?_
    rintro ev w4 ⟨rfl, gn4, L4, hK4, h54, hl4⟩
    have HK4 := hide hK4
    clear hK4
    go_wp2
    go_ret
    exact ⟨rfl, gn4, L4, HK4.out, h54, hl4⟩
  · have hbit' : (Go.bits BinOp.and IntKind.i64 oout 1 == 1) = false := by simpa using hbit
    clear hbit HDEL
    have hcx := fun W => coord20 ox h2 W
    have hcy := fun W => coord20 oy h3 W
    have hct := fun W => pick17 otag 4 h4 (by omega) W
    have hX := coordI_crd ox
    have hY := coordI_crd oy
    generalize coordI ox = X at hcx hX
    generalize coordI oy = Y at hcy hY
    generalize pickI otag 4 = T at hct
    have HPUT := hide (fun A W (hW : KB W0 W bb bs bm cf gn L) (hA : Pts W A 2 [X, Y]) => putK id T otag odraw X Y A hidd h5 hW hd hX hY hroom hA)
    have HCX := hide hcx
    have HCY := hide hcy
    have HCT := hide hct
    clear hcx hcy hct hX hY
    go_wp2_with fail
    obtain ⟨w3, hw3⟩ : ∃ w3, w3 = w2.alloc (.cells #[.int .i64 a, .slice p n c, .int .i64 t0, .int .i64 t1] 77) := ⟨_, rfl⟩
    have hX3 := HX.out (.cells #[.int .i64 a, .slice p n c, .int .i64 t0, .int .i64 t1] 77)
    have HS3 := HS.out (.cells #[.int .i64 a, .slice p n c, .int .i64 t0, .int .i64 t1] 77)
    have HKB3 := HK3.out (.cells #[.int .i64 a, .slice p n c, .int .i64 t0, .int .i64 t1] 77)
    rw [← hw3] at HS3 HKB3 hX3 ⊢
    have HX3 := hide hX3
    clear hX3
    have HS3 := hide HS3
    have HKB3 := hide HKB3
    have hz3 : w.heap.size < w3.heap.size := by rw [hw3]; simp; omega
    have hst : ∀ (W : World) (o : Obj), W.heap[w.heap.size]? = (w3.alloc o).heap[w.heap.size]? → W.cell? ⟨w.heap.size, 1, none⟩ = some (.int .i64 ox) ∧ W.cell? ⟨w.heap.size, 2, none⟩ = some (.int .i64 oy) ∧ W.cell? ⟨w.heap.size, 3, none⟩ = some (.int .i64 otag) ∧ W.cell? ⟨w.heap.size, 5, none⟩ = some (.int .u64 odraw) := fun W o hW => by
      have h0 := hW.trans ((((Below.refl w3.heap.size w3).alloc (Nat.le_refl _) o).block _ hz3).trans HX3.out)
      exact ⟨cells_at h0 1 rfl, cells_at h0 2 rfl, cells_at h0 3 rfl, cells_at h0 5 rfl⟩
    have HST := hide hst
    clear hw3 HS HK3 hst
    go_region_held3 (fun wx => wx.cell? ⟨w.heap.size, 1, none⟩ = some (.int .i64 ox) ∧ wx.cell? ⟨w.heap.size, 2, none⟩ = some (.int .i64 oy) ∧ wx.cell? ⟨w.heap.size, 3, none⟩ = some (.int .i64 otag) ∧ wx.cell? ⟨w.heap.size, 5, none⟩ = some (.int .u64 odraw))
      (first | (exact hS4) | (refine HS3.out _ ?_; repeat (first | exact Below.refl _ _ | refine Below.drew ?_ | refine Below.alloc ?_ (by first | exact Nat.le_refl _ | simp) _)))
      (first
        | (go_at_call 20; with_reducible refine (HCX.out _).mono ?_; rintro ev' w' ⟨rfl, rfl⟩)
        | (go_at_call 20; with_reducible refine (HCY.out _).mono ?_; rintro ev' w' ⟨rfl, rfl⟩)
        | (go_at_call 17; with_reducible refine (HCT.out _).mono ?_; rintro ev' w' ⟨rfl, rfl⟩)
        | (go_at_call 21; refine (HPUT.out _ _ ?_ ?_).mono ?_; (exact HKB3.out.below (by repeat (first | exact Below.refl _ _ | refine Below.drew ?_ | refine Below.alloc ?_ (by first | exact Nat.le_refl _ | simp) _))); (exact two_row (heap_alloc_new _ _)); rintro ev4 w4 ⟨rfl, g4, gc4, gn4, hK4, hk4, _, hl4⟩; have hS4 := HST.out w4 _ (hk4.block _ (by simp; omega) HNF.out)))
    all_goals
      have HK4 := hide hK4
      clear hK4 hk4 hS4
      go_wp2
      go_ret
      exact ⟨rfl, gn4, _, HK4.out, HK.out.ins i1, hl4⟩
end Go.Proofs.YtpkiefjanmfgfaaGreatDoor
namespace Go.Proofs.YtpkiefjanmfgfaaGreatDoor
open Go.RowKit Go.Maps

structure KOpAt (w : World) (b p : Nat) (o : KOp) : Prop where
  c0 : w.cell? ⟨b, p, none⟩ = some (.int .i64 o.id)
  c1 : w.cell? ⟨b, p + 1, none⟩ = some (.int .i64 o.x)
  c2 : w.cell? ⟨b, p + 2, none⟩ = some (.int .i64 o.y)
  c3 : w.cell? ⟨b, p + 3, none⟩ = some (.int .i64 o.tag)
  c4 : w.cell? ⟨b, p + 4, none⟩ = some (.int .i64 o.out)
  c5 : w.cell? ⟨b, p + 5, none⟩ = some (.int .u64 o.draw)
structure KScriptAt (w : World) (a : Option Addr) (len : Nat) : Prop where
  sz : len ≤ 140737488355328
  op : ∀ i, i < len → ∃ b off, a = some ⟨b, off, none⟩ ∧ ∃ o : KOp, o.Ok ∧ KOpAt w b (off + i * 6) o
theorem KOpAt.below {w w' : World} {b p : Nat} {o : KOp} (h : KOpAt w b p o) (hb : Below w.heap.size w w') : KOpAt w' b p o :=
  ⟨cell_below h.c0 hb, cell_below h.c1 hb, cell_below h.c2 hb, cell_below h.c3 hb, cell_below h.c4 hb, cell_below h.c5 hb⟩
theorem KScriptAt.below {w w' : World} {a : Option Addr} {len : Nat} (h : KScriptAt w a len) (hb : Below w.heap.size w w') : KScriptAt w' a len :=
  ⟨h.sz, fun i hi => by
    obtain ⟨b, off, e, o, h1, h2⟩ := h.op i hi
    exact ⟨b, off, e, o, h1, h2.below hb⟩⟩
theorem Below.cells {W0 w : World} (h : Below W0.heap.size W0 w) {b p : Nat} {o : KOp} (ho : KOpAt W0 b p o) : KOpAt w b p o := ho.below h

set_option maxHeartbeats 2000000 in
set_option maxRecDepth 20000 in
theorem made18 (sa : Option Addr) (len cap : Nat) (links metric beam : Int) (h1 : I64 links) (h2 : I64 metric) (h3 : I64 beam) (w : World) (hg : Handle w) (hs : KScriptAt w sa len) :
    Calls Tryz.prog 18 #[.slice sa len cap, .int .i64 links, .int .i64 metric, .int .i64 beam] w fun ev w' => ∃ bb bs bm gn L, ev = .returned (.pointer (some ⟨bb, 0, none⟩)) ∧ KB w w' bb bs bm (keepCf links metric beam) gn L ∧ K50 L ∧ 0 ≤ gn.looks ∧ gn.looks ≤ 60 := by
  have HS := hide hs
  have hsz := hs.sz
  clear hs
  go_enter Tryz.func18, Tryz.ntmps18
  go_wp2_with fail
  refine (base28 links metric beam h1 h2 h3 w hg).mono ?_
  rintro ev w1 ⟨bb, bs, bm, gn0, rfl, hK, hl⟩
  have HK0 := hide hK
  have HL0 := hide hl
  clear hK hl
  go_wp2
  go_loopw [10, 11] (fun iv _ wr => ∃ (k : Nat) (L : List Ent) (gn : Net), k ≤ len ∧ iv = .int .i64 k ∧ Hid (KB w wr bb bs bm (keepCf links metric beam) gn L) ∧ Hid (K50 L) ∧ Hid (0 ≤ gn.looks ∧ gn.looks ≤ 60)) (fun iv _ _ => len - (intOf iv).toNat)
  case atStart => exact ⟨0, [], gn0, Nat.zero_le _, rfl, HK0.out, fun _ h => absurd h List.not_mem_nil, HL0.out⟩
  case round =>
    obtain ⟨k, L, gn, hk, rfl, HK, H5, HL⟩ := hrel
    by_cases hlt : k < len
    · obtain ⟨b', off, rfl, o, ho, hat⟩ := HS.out.op k hlt
      have hor := hat.below HK.out.old
      have hst := step40 wr o ho HK.out H5.out rfl rfl
      have HST := hide hst
      obtain ⟨oid, ox, oy, otag, oout, odraw⟩ := o
      have c0 := hor.c0
      have c1 := hor.c1
      have c2 := hor.c2
      have c3 := hor.c3
      have c4 := hor.c4
      have c5 := hor.c5
      simp only at c0 c1 c2 c3 c4 c5
      clear hat hor hst ho
      go_wp2_with fail
      refine HST.out.mono ?_
      rintro ev w5 ⟨rfl, gn5, L5, hK5, h55, hl5⟩
      have HK5 := hide hK5
      have H55 := hide h55
      have HL5 : Hid (0 ≤ gn5.looks ∧ gn5.looks ≤ 60) := by rw [hl5]; exact HL
      clear hK5 h55 hl5 c0 c1 c2 c3 c4 c5
      go_wp2
      exact ⟨⟨k + 1, L5, gn5, by omega, by go_num, HK5.out, H55.out, HL5.out⟩, by simp [intOf]; omega⟩
    · obtain rfl : k = len := by omega
      go_wp2
      go_ret
      exact ⟨bb, bs, bm, gn, L, rfl, HK.out, H5.out, HL.out⟩

section
variable {W0 : World} {bb bs bm : Nat} {cf : Cf} {gn : Net} {L : List Ent}
set_option maxHeartbeats 2000000 in
set_option maxRecDepth 20000 in
theorem all22 (x y : Int) (fv : Value) (F : List (List Cnd)) (w : World) (h : KB W0 w bb bs bm cf gn L) (hd : cf.dim = 2) (hx : Crd x) (hy : Crd y) (hf : FiltAt w fv F) (hfb : filtB F = true) (hlo : 0 ≤ gn.looks ∧ gn.looks ≤ 4000000000000000000) :
    Calls Tryz.prog 22 #[.pointer (some ⟨bb, 0, none⟩), .int .i64 x, .int .i64 y, .agg #[fv]] w fun ev w' => ∃ v n, ev = .returned (.tuple #[v, .bool true]) ∧ HRow w' v (tellL cf.metric [x, y] F L) ∧ (∀ g, v.ownBlock = some g → w.heap.size ≤ g) ∧
      KB W0 w' bb bs bm cf { gn with looks := n } L ∧ Kept (fun k => k = bb) w w' ∧ (gn.looks ≤ n ∧ n ≤ gn.looks + 60) := by
  have hsc : schCode cf.dim [x, y] 60 1 F = 0 := by
    unfold schCode
    rw [hd, two_code hx hy, hfb]
    decide
  have HF := hide hf
  have H := hide h
  obtain ⟨fa, fc, rfl, _⟩ := hf
  clear h
  go_enter Tryz.func22, Tryz.ntmps22
  go_wp2_with fail
  obtain ⟨w2, hw2⟩ : ∃ w2, w2 = (w.alloc (.cells #[.slice fa F.length fc] 47)).alloc (.cells #[.int .i64 x, .int .i64 y] 3) := ⟨_, rfl⟩
  have hb2 : Below w.heap.size w w2 := by rw [hw2]; exact ((Below.refl _ _).alloc (Nat.le_refl _) _).alloc (by simp) _
  have hA : Pts w2 (w.heap.size + 1) 2 [x, y] := two_row (by rw [hw2]; have := heap_alloc_new (w.alloc (.cells #[.slice fa F.length fc] 47)) (.cells #[.int .i64 x, .int .i64 y] 3); simpa using this)
  rw [← hw2]
  clear hw2
  refine (searchK (.slice (some ⟨w.heap.size + 1, 0, none⟩) 2 2) [x, y] 60 1 (.slice fa F.length fc) F w2 (H.out.below hb2) hA (two_ints hA) (HF.out.below hb2) hlo hsc).mono ?_
  rintro ev w3 ⟨v, l, n, rfl, hr, hv, hK, hk, hn, hR⟩
  have hlen : ((tellL cf.metric [x, y] F L).length : Int) ≤ 60 := by
    rw [tellL_len]
    have h1 : (passL F L).length ≤ L.length := List.length_filter_le _ _
    have := H.out.base.few
    omega
  obtain rfl := hR.all hlen
  have hv2 : ∀ g, v.ownBlock = some g → w.heap.size ≤ g := fun g hg => Nat.le_trans hb2.size (hv g hg)
  have hk2 : Kept (fun k => k = bb) w w3 := (Kept.of_below _ hb2).trans hk (fun _ _ h => h)
  have HR := hide hr
  have HV := hide hv2
  have HK := hide hK
  have HK2 := hide hk2
  clear hr hv hK hk hR hb2 hA hv2 hk2
  go_wp2
  go_ret2
  exact ⟨v, n, rfl, HR.out, HV.out, HK.out, HK2.out, by omega, hn.2⟩
end
end Go.Proofs.YtpkiefjanmfgfaaGreatDoor
namespace Go.Proofs.YtpkiefjanmfgfaaGreatDoor
open Go.ChangeShapes Go.WideShapes Go.RowKit

theorem cells98 : Tryz.prog.cellsOf 98 = 6 := by kernel_rfl
theorem bytes98 : Tryz.prog.bytesOf 98 = 48 := by kernel_rfl

section
variable {H : Type} {enc : TypeId × Value → H} {W : World} {hd : Bool}

set_option maxRecDepth 100000 in
theorem kop_open {n : Nat} {cs : List Value} {x : DataW H × List MemPlace} (h : DataW.trod enc Tryz.prog W 0 (fun _ => true) hd n 98 cs = some x) :
    ∃ o : KOp, o.Ok ∧ cs = [.int .i64 o.id, .int .i64 o.x, .int .i64 o.y, .int .i64 o.tag, .int .i64 o.out, .int .u64 o.draw] := by
  obtain ⟨xs, m, _, rfl, hl, hlen, hx⟩ := DataW.trod_struct Tryz.underlying98 h
  rw [cells98] at hl
  match cs, hl with
  | [c0, c1, c2, c3, c4, c5], _ =>
    match xs, hlen with
    | [y0, y1, y2, y3, y4, y5], _ =>
      have g0 := hx 0 _ rfl
      have g1 := hx 1 _ rfl
      have g2 := hx 2 _ rfl
      have g3 := hx 3 _ rfl
      have g4 := hx 4 _ rfl
      have g5 := hx 5 _ rfl
      simp [cells3, cells44] at g0 g1 g2 g3 g4 g5
      clear hx
      obtain ⟨a0, e0, _, w0⟩ := DataW.trod_int Tryz.underlying3 g0
      obtain ⟨a1, e1, _, w1⟩ := DataW.trod_int Tryz.underlying3 g1
      obtain ⟨a2, e2, _, w2⟩ := DataW.trod_int Tryz.underlying3 g2
      obtain ⟨a3, e3, _, w3⟩ := DataW.trod_int Tryz.underlying3 g3
      obtain ⟨a4, e4, _⟩ := DataW.trod_int Tryz.underlying3 g4
      obtain ⟨dr, e5, _, w5⟩ := DataW.trod_int Tryz.underlying44 g5
      simp at e0 e1 e2 e3 e4 e5
      subst e0; subst e1; subst e2; subst e3; subst e4; subst e5
      have hu := u64_wf w5
      obtain ⟨k, rfl⟩ := Int.eq_ofNat_of_zero_le hu.1
      exact ⟨⟨a0, a1, a2, a3, a4, k⟩, ⟨w0, w1, w2, w3, by have := hu.2; simp only; omega⟩, rfl⟩

set_option maxRecDepth 100000 in
theorem kscript_open {b0 : Nat} {r : Reach} {v : Value} {d : DataW H} {p : List MemPlace} (hv : Value.okWide Tryz.prog W r b0 51 v) (h : DataW.Trod enc Tryz.prog W 0 (fun _ => true) hd 51 v d p) (hw : ∀ k ∈ d.weights Tryz.prog 51, k ≤ reachBytes) :
    ∃ sa len cap, v = .slice sa len cap ∧ KScriptAt W sa len := by
  obtain ⟨sa, len, cap, rfl⟩ := okWide_slice Tryz.underlying51 hv
  obtain ⟨fuel, hf⟩ := h
  have hf' : DataW.trod enc Tryz.prog W 0 (fun _ => true) hd fuel 51 [.slice sa len cap] = some (d, p) := hf
  rcases Deep.open_slice Tryz.underlying51 hf' with ⟨e, _⟩ | ⟨a, len', cap', m, n, D, Pl, e, _, hl, _, hm, hx, hi⟩
  · simp at e
    obtain ⟨rfl, rfl, rfl⟩ := e
    exact ⟨none, 0, 0, rfl, by simp, fun i hi => by omega⟩
  · simp at e hm
    obtain ⟨rfl, rfl, rfl⟩ := e
    have hm' := hm.symm
    subst hm'
    simp only [Prod.mk.injEq] at hx
    obtain ⟨rfl, _⟩ := hx
    refine ⟨some a, len, cap, rfl, ?_, fun i hil => ?_⟩
    · have hb : (((List.range len).map D).length + ((List.range (cap - len)).map fun j => D (len + j)).length) * Tryz.prog.bytesOf 98 ≤ reachBytes := hw _ (by simp only [DataW.weights, Tryz.underlying51]; exact List.mem_cons_self)
      simp [bytes98, reachBytes] at hb
      have h1 : len * 48 ≤ (len + (cap - len)) * 48 := Nat.mul_le_mul_right 48 (by omega)
      omega
    · have ha : a = ⟨a.block, a.off, none⟩ := by
        obtain ⟨cs0, h1, _⟩ := hi 0 (by omega)
        obtain ⟨_, h2, h3⟩ := World.cells?_some h1
        rw [cells98] at h2 h3
        match cs0, h2 with
        | c :: _, _ => exact addr_plain (a := a) (v := c) (by simpa [Addr.add] using h3 0 (by omega))
      obtain ⟨cs', h1, h2⟩ := hi i (by omega)
      obtain ⟨o, ho, hall⟩ := kop_open h2
      obtain ⟨_, _, h3⟩ := World.cells?_some h1
      rw [cells98] at h3
      refine ⟨a.block, a.off, by rw [← ha], o, ho, ?_⟩
      have hc : ∀ j v, j < 6 → cs'[j]? = some v → W.cell? ⟨a.block, a.off + i * 6 + j, none⟩ = some v := fun j v hj hv => by
        have := h3 j hj
        rw [ha, addr_at, addr_at] at this
        exact this.trans hv
      rw [hall] at hc
      exact ⟨hc 0 _ (by omega) rfl, hc 1 _ (by omega) rfl, hc 2 _ (by omega) rfl, hc 3 _ (by omega) rfl, hc 4 _ (by omega) rfl, hc 5 _ (by omega) rfl⟩
set_option maxRecDepth 100000 in
theorem int_open {b0 : Nat} {r : Reach} {v : Value} {d : DataW H} {p : List MemPlace} (hv : Value.okWide Tryz.prog W r b0 3 v) (h : DataW.Trod enc Tryz.prog W 0 (fun _ => true) hd 3 v d p) : ∃ a, v = .int .i64 a ∧ I64 a := by
  obtain ⟨a, e, _, _, hw⟩ := open_int Tryz.underlying3 hv h
  exact ⟨a, e, hw⟩
set_option maxRecDepth 100000 in
theorem u64_open {b0 : Nat} {r : Reach} {v : Value} {d : DataW H} {p : List MemPlace} (hv : Value.okWide Tryz.prog W r b0 44 v) (h : DataW.Trod enc Tryz.prog W 0 (fun _ => true) hd 44 v d p) : ∃ a : Nat, v = .int .u64 a ∧ a < 18446744073709551616 := by
  obtain ⟨a, e, _, _, hw⟩ := open_int Tryz.underlying44 hv h
  have hu := u64_wf hw
  obtain ⟨k, rfl⟩ := Int.eq_ofNat_of_zero_le hu.1
  exact ⟨k, e, by have := hu.2; omega⟩
end
end Go.Proofs.YtpkiefjanmfgfaaGreatDoor
namespace Go.Proofs.YtpkiefjanmfgfaaGreatDoor
open Go.ChangeShapes Go.WideShapes Go.ChangeAt Go.RowKit

theorem read3 : Tryz.prog.readableRec 3 = true := by kernel_rfl
theorem read32 : Tryz.prog.readableRec 32 = true := by kernel_rfl
theorem read44 : Tryz.prog.readableRec 44 = true := by kernel_rfl
theorem read51 : Tryz.prog.readableRec 51 = true := by kernel_rfl
set_option maxRecDepth 100000 in
theorem pt_open {H : Type} {enc : TypeId × Value → H} {W : World} {hd : Bool} {b0 : Nat} {r : Reach} {v : Value} {d : DataW H} {p : List MemPlace} (hv : Value.okWide Tryz.prog W r b0 32 v) (h : DataW.Trod enc Tryz.prog W 0 (fun _ => true) hd 32 v d p) (hw : ∀ k ∈ d.weights Tryz.prog 32, k ≤ reachBytes) :
    ∃ (xs : List Int) (pa : Option Addr) (pc : Nat), v = .slice pa xs.length pc ∧ IntsAt W (.slice pa xs.length pc) xs ∧ (xs.length + 6) * 8 ≤ 140737488355328 := by
  obtain ⟨sa, len, cap, rfl⟩ := okWide_slice Tryz.underlying32 hv
  obtain ⟨fuel, hf⟩ := h
  have hf' : DataW.trod enc Tryz.prog W 0 (fun _ => true) hd fuel 32 [.slice sa len cap] = some (d, p) := hf
  exact point_open hf' hw
end Go.Proofs.YtpkiefjanmfgfaaGreatDoor
namespace Go.Proofs.YtpkiefjanmfgfaaGreatDoor
open Go.RowKit Go.Maps

theorem partI_nonneg {m a b : Int} (hm : m = 0 ∨ m = 1) : 0 ≤ partI m a b := by
  unfold partI
  rcases hm with rfl | rfl
  · simp only [if_true]
    rcases Int.le_total 0 (a - b) with h | h
    · exact Int.mul_nonneg h h
    · exact Int.mul_nonneg_of_nonpos_of_nonpos h h
  · simp only [show ¬ (1 : Int) = 0 by omega, if_false, if_true]
    omega
theorem distL_nonneg {m : Int} (hm : m = 0 ∨ m = 1) : ∀ p q : List Int, 0 ≤ distL m p q
  | a :: p, b :: q => by
    have := distL_nonneg hm p q
    have := partI_nonneg (a := a) (b := b) hm
    simp only [distL]
    omega
  | [], _ => by simp [distL]
  | _ :: _, [] => by simp [distL]
theorem distL_self {m : Int} (hm : m = 0 ∨ m = 1) : ∀ p : List Int, distL m p p = 0
  | a :: p => by
    have h1 := distL_self hm p
    have h2 : partI m a a = 0 := by
      unfold partI
      rcases hm with rfl | rfl <;> simp
    simp only [distL, h1, h2]
    rfl
  | [] => by simp [distL]
theorem found_at {l : List Hit} (hs : l.Pairwise hle) (hn : (l.map (·.1)).Nodup) (h0 : ∀ x ∈ l, 0 ≤ x.2) (hm : (1000, 0) ∈ l) : ∃ j, j < l.length ∧ nth l j = (1000, 0) ∧ ∀ i, i < j → (nth l i).2 = 0 ∧ (nth l i).1 ≠ 1000 := by
  obtain ⟨j, hj, he⟩ := List.mem_iff_getElem.1 hm
  have en : ∀ i (hi : i < l.length), nth l i = l[i] := fun i hi => by simp [nth, List.getD_eq_getElem?_getD, hi]
  refine ⟨j, hj, (en j hj).trans he, fun i hi => ?_⟩
  have hil : i < l.length := by omega
  have h1 := (List.pairwise_iff_getElem.1 hs) i j hil hj hi
  have h2 := (List.pairwise_iff_getElem.1 hn) i j (by simpa using hil) (by simpa using hj) hi
  have h3 := h0 l[i] (List.getElem_mem hil)
  rw [en i hil]
  rw [he] at h1
  simp only [List.getElem_map, he] at h2
  unfold hle at h1
  simp only at h1
  exact ⟨by omega, h2⟩
theorem passL_none (L : List Ent) : passL [] L = L := by
  unfold passL
  refine List.filter_eq_self.2 fun e _ => ?_
  simp [passB]
theorem mem_insE_self (x : Ent) : ∀ L : List Ent, x ∈ insE x L
  | [] => by simp [insE]
  | y :: r => by
    unfold insE
    split
    · simp
    · split
      · simp
      · exact List.mem_cons_of_mem _ (mem_insE_self x r)

structure FnInv (n : Nat) (L : List Ent) : Prop where
  one : ∀ e : Ent, e.id = 1000 → (insE e L).length = n + 1
  room : Room 60 1000 L
theorem FnInv.first {L : List Ent} (h : K50 L) (hr : Rising L) : FnInv L.length L := by
  have hf : findE 1000 L = none := by
    cases he : findE 1000 L with
    | none => rfl
    | some e =>
      have h1 := findE_mem he
      have := h e h1.1
      omega
  exact ⟨fun e he => length_insE_none e (by rw [he]; exact hf), .inr (by have := h.len hr; omega)⟩
theorem FnInv.next {n : Nat} {L : List Ent} (h : FnInv n L) (hr : Rising L) (e : Ent) (he : e.id = 1000) : FnInv n (insE e L) := by
  have hf : findE 1000 (insE e L) = some e := by rw [← he]; exact findE_ins_self
  refine ⟨fun x hx => ?_, .inl (by rw [hf]; rfl)⟩
  rw [length_insE_some x (rising_insE e hr) (e := e) (by rw [hx]; exact hf)]
  exact h.one e he
theorem found_tell {n : Nat} {L : List Ent} {m x y : Int} {draw g gc : Nat} (hm : m = 0 ∨ m = 1) (h : FnInv n L) (hr : Rising L) :
    (tellL m [x, y] [] (insE ⟨1000, [x, y], 9, 9, draw, g, gc, 0, 0⟩ L)).length = n + 1 ∧ Ordd (tellL m [x, y] [] (insE ⟨1000, [x, y], 9, 9, draw, g, gc, 0, 0⟩ L)) ∧
      ∃ j, j < n + 1 ∧ nth (tellL m [x, y] [] (insE ⟨1000, [x, y], 9, 9, draw, g, gc, 0, 0⟩ L)) j = (1000, 0) ∧ ∀ i, i < j → (nth (tellL m [x, y] [] (insE ⟨1000, [x, y], 9, 9, draw, g, gc, 0, 0⟩ L)) i).2 = 0 ∧ (nth (tellL m [x, y] [] (insE ⟨1000, [x, y], 9, 9, draw, g, gc, 0, 0⟩ L)) i).1 ≠ 1000 := by
  have hr2 := rising_insE ⟨1000, [x, y], 9, 9, draw, g, gc, 0, 0⟩ hr
  have hlen : (tellL m [x, y] [] (insE ⟨1000, [x, y], 9, 9, draw, g, gc, 0, 0⟩ L)).length = n + 1 := by
    rw [tellL_len, passL_none]
    exact h.one _ rfl
  have hn := tellL_nodup (m := m) (xs := [x, y]) (F := []) hr2
  refine ⟨hlen, ordd_of (tellL_sorted _ _ _ _) hn, ?_⟩
  have := found_at (tellL_sorted m [x, y] [] (insE ⟨1000, [x, y], 9, 9, draw, g, gc, 0, 0⟩ L)) hn (fun x' hx => by
    obtain ⟨e, _, _, rfl⟩ := tellL_mem.1 hx
    exact distL_nonneg hm _ _) (tellL_mem.2 ⟨_, mem_insE_self _ _, by simp [passB], by simp [distL_self hm]⟩)
  rw [hlen] at this
  exact this

theorem i64_wrap {n : Int} (h : I64 n) : IntKind.i64.wrap n = n := by
  have := i64_bounds h
  rw [IntKind.wrap_i64]
  omega
theorem i64_coord (c : Int) : I64 (coordI c) ∧ -20 ≤ coordI c ∧ coordI c ≤ 20 := by
  have h := pickI_in (c := c) (n := 41) (by omega)
  have e1 : IntKind.i64.min = -9223372036854775808 := by decide
  have e2 : IntKind.i64.max = 9223372036854775807 := by decide
  unfold coordI I64
  simp only [Lit.wf, e1, e2]
  refine ⟨?_, by omega, by omega⟩
  simp
  omega

set_option maxHeartbeats 8000000 in
set_option maxRecDepth 20000 in
theorem found7 (sa : Option Addr) (len cap : Nat) (links metric beam x0 y0 : Int) (draw : Nat) (h1 : I64 links) (h2 : I64 metric) (h3 : I64 beam) (h4 : I64 x0) (h5 : I64 y0) (hdr : draw < 18446744073709551616) (w : World) (hg : Handle w) (hs : KScriptAt w sa len) :
    Calls Tryz.prog 7 #[.slice sa len cap, .int .i64 links, .int .i64 metric, .int .i64 beam, .int .i64 x0, .int .i64 y0, .int .u64 draw] w fun ev w' => ev = .returned (.bool true) ∧ Below w.heap.size w w' := by
  have p1 := pick17 metric 2 h2 (by omega) w
  have im := pickI_in (c := metric) (n := 2) (by omega)
  generalize pickI metric 2 = m at *
  have hm3 : pickI m 3 = m := by unfold pickI; rw [if_neg (by omega)]; omega
  have hM := made18 sa len cap links m beam h1 (i64_small im.1 (by omega)) h3 w hg hs
  have hcm : (keepCf links m beam).metric = m := hm3
  have HM := hide hM
  have HP1 := hide p1
  clear hM p1 hs hm3
  have hcd : (keepCf links m beam).dim = 2 := rfl
  have hcc : (keepCf links m beam).cap = 60 := rfl
  generalize keepCf links m beam = cf at *
  go_enter Tryz.func7, Tryz.ntmps7
  go_wp2_with fail
  refine HP1.out.mono ?_
  rintro ev' w' ⟨rfl, rfl⟩
  go_wp2_with fail
  refine HM.out.mono ?_
  rintro ev w1 ⟨bb, bs, bm, gn0, L0, rfl, hK, h50, hl⟩
  have hn50 := h50.len hK.base.map.rising
  have HF0 : Hid (FnInv L0.length L0) := FnInv.first h50 hK.base.map.rising
  have HK0 := hide hK
  have HL0 := hide hl
  clear hK hl h50 HM HP1
  go_wp2_with fail
  refine (count15_any bb bs bm _ _ _ _ HK0.out.base).mono ?_
  rintro ev' w' ⟨rfl, rfl⟩
  go_wp2
  go_loopw [4, 5, 17, 18, 19, 20, 21, 22] (fun xv yv tv _ _ _ _ _ wr => ∃ (t : Nat) (x y : Int) (L : List Ent) (gn : Net), t ≤ 2 ∧ xv = .int .i64 x ∧ yv = .int .i64 y ∧ tv = .int .i64 t ∧ I64 x ∧ I64 y ∧ (t = 0 ∨ (-20 ≤ x ∧ x ≤ 20)) ∧ Hid (KB w wr bb bs bm cf gn L) ∧ Hid (FnInv L0.length L) ∧ Hid (0 ≤ gn.looks ∧ gn.looks ≤ 60 + 60 * t)) (fun _ _ tv _ _ _ _ _ _ => 2 - (intOf tv).toNat)
  case atStart => exact ⟨0, x0, y0, L0, gn0, by omega, rfl, rfl, rfl, h4, h5, .inl rfl, HK0.out, HF0.out, by have := HL0.out; show _ ∧ _; omega⟩
  case round =>
    obtain ⟨t, x, y, L, gn, ht, rfl, rfl, rfl, hx, hy, hxt, HK, HF, HL⟩ := hrel
    by_cases hlt : t < 2
    · have hI7 : I64 (x + 7 * t) := by
        rcases hxt with rfl | hxt
        · simp only [Int.natCast_zero, Int.mul_zero, Int.add_zero]
          exact hx
        · have e1 : IntKind.i64.min = -9223372036854775808 := by decide
          have e2 : IntKind.i64.max = 9223372036854775807 := by decide
          unfold I64; simp only [Lit.wf, e1, e2]; simp; omega
      have e8 : wrap64 (x + 7 * t) = x + 7 * t := by unfold wrap64; have := i64_bounds hI7; omega
      have hcx := fun W => coord20 (x + 7 * t) hI7 W
      have hcy := fun W => coord20 y hy W
      have hX := coordI_crd (x + 7 * t)
      have hY := coordI_crd y
      have hX2 := i64_coord (x + 7 * t)
      have hY2 := i64_coord y
      generalize coordI (x + 7 * t) = X at hcx hX hX2
      generalize coordI y = Y at hcy hY hY2
      have HCX := hide hcx
      have HCY := hide hcy
      clear hcx hcy hI7
      go_wp2_with fail
      refine (HCX.out _).mono ?_
      rintro ev' w' ⟨rfl, rfl⟩
      go_wp2_with fail
      refine (HCY.out _).mono ?_
      rintro ev' w' ⟨rfl, rfl⟩
      go_wp2_with fail
      obtain ⟨w3, hw3⟩ : ∃ w3, w3 = wr.alloc (.cells #[.int .i64 X, .int .i64 Y] 3) := ⟨_, rfl⟩
      have hA : Pts w3 wr.heap.size 2 [X, Y] := two_row (by rw [hw3]; exact heap_alloc_new _ _)
      have hK3 : KB w w3 bb bs bm cf gn L := hw3 ▸ HK.out.alloc _
      rw [← hw3]
      clear hw3
      refine (putK 1000 9 9 draw X Y wr.heap.size (i64_small (by omega) (by omega)) hdr hK3 hcd hX hY (by rw [hcc]; exact HF.out.room) hA).mono ?_
      rintro ev w4 ⟨rfl, g, gc, gn4, hK4, _, _, hl4⟩
      have hfn := HF.out.next hK3.base.map.rising ⟨1000, [X, Y], 9, 9, draw, g, gc, 0, 0⟩ rfl
      have hft := found_tell (x := X) (y := Y) (draw := draw) (g := g) (gc := gc) (show m = 0 ∨ m = 1 by omega) HF.out hK3.base.map.rising
      have hone := HF.out.one ⟨1000, [X, Y], 9, 9, draw, g, gc, 0, 0⟩ rfl
      rw [← hcm] at hft
      generalize insE ⟨1000, [X, Y], 9, 9, draw, g, gc, 0, 0⟩ L = L4 at *
      have hl44 : 0 ≤ gn4.looks ∧ gn4.looks ≤ 60 + 60 * t := by rw [hl4]; exact HL.out
      have HK4 := hide hK4
      have HFN := hide hfn
      have HFT := hide hft
      have HL4 := hide hl44
      clear hK4 hK3 hA hfn hft hl4 hl44
      go_wp2_with fail
      refine (all22 X Y (.slice none 0 0) [] w4 HK4.out hcd hX hY (filt_none _) (by decide) (by have := HL4.out; omega)).mono ?_
      rintro ev w5 ⟨v, n5, rfl, hr5, _, hK5, _, hn5⟩
      obtain ⟨f1, f2, j, hj, f3, f4⟩ := HFT.out
      generalize tellL cf.metric [X, Y] [] L4 = l at *
      obtain ⟨va, vc, rfl, hva⟩ := HRow.slice hr5
      obtain ⟨vg, rfl⟩ := hva (by omega)
      have hl55 : 0 ≤ n5 ∧ n5 ≤ 60 + 60 * ((t + 1 : Nat) : Int) := by have := HL4.out; omega
      have hor := ordered23 _ l w5 hr5 f2 (by omega)
      have HK5 := hide hK5
      have HR5 := hide hr5
      have HL5 := hide hl55
      have HOR := hide hor
      have HF3 := hide f3
      have HF4 := hide f4
      clear hK5 hr5 hl55 hor f2 f3 f4 HFT hva hn5
      have hcn := count15_any bb bs bm cf _ L4 w5 HK5.out.base
      have HCN := hide hcn
      clear hcn
      rw [hone, ← f1] at HCN
      have F1 : Hid ((l.length : Int) = (L0.length : Int) + 1) := by show _ = _; omega
      have hjl : j < l.length := by omega
      have hll : l.length ≤ 51 := by omega
      clear f1 hone hj
      go_wp2_with fail
      refine HCN.out.mono ?_
      rintro ev' w' ⟨rfl, rfl⟩
      go_wp2_with fail
      refine HOR.out.mono ?_
      rintro ev w6 ⟨rfl, hb6⟩
      have hR6 := ownsRow_below HR5.out hb6
      have hK6 := HK5.out.below hb6
      have HR6 := hide hR6
      have HK6 := hide hK6
      clear hR6 hK6 hb6 HOR HCN HK5 HR5
      go_wp2
      go_loop [22] (fun iv => ∃ k : Nat, iv = .int .i64 k ∧ k ≤ j) (fun iv => j - (intOf iv).toNat)
      case atStart => exact ⟨0, rfl, Nat.zero_le _⟩
      case round =>
        obtain ⟨k, rfl, hk⟩ := hrel
        have y0 := HRow.at0 HR6.out (k := k) (by omega)
        have y1 := HRow.at1 HR6.out (k := k) (by omega)
        by_cases hkj : k < j
        · obtain ⟨q1, q2⟩ := HF4.out k hkj
          generalize nth l k = z at y0 y1 q1 q2
          obtain ⟨zi, zd⟩ := z
          simp only at q1 q2 y0 y1
          subst q1
          have hd : (zi == 1000) = false := by simpa using q2
          have hd2 : (zi != 1000) = true := by simpa using q2
          have hk0 : k < L0.length := by have := F1.out; omega
          go_wp2
          exact ⟨⟨k + 1, by go_num, by omega⟩, by simp [intOf]; omega⟩
        · obtain rfl : k = j := by omega
          rw [HF3.out] at y0 y1
          simp only at y0 y1
          go_wp2
          exact ⟨⟨t + 1, X, Y, L4, _, by omega, rfl, rfl, by go_num, hX2.1, hY2.1, .inr hX2.2, HK6.out, HFN.out, HL5.out⟩, by simp [intOf]; omega⟩
    · obtain rfl : t = 2 := by omega
      go_wp2
      go_ret
      exact ⟨rfl, HK.out.old⟩
end Go.Proofs.YtpkiefjanmfgfaaGreatDoor
namespace Go.Proofs.YtpkiefjanmfgfaaGreatDoor
open Go.RowKit Go.Maps

def keyE (e : Ent) : Int × List Int × Int × Int := (e.id, e.pt, e.t0, e.t1)
theorem hitsL_key {m : Int} {xs : List Int} {F : List (List Cnd)} {L M : List Ent} (h : L.map keyE = M.map keyE) : hitsL m xs F L = hitsL m xs F M := by
  have e : ∀ X : List Ent, hitsL m xs F X = ((X.map keyE).filter fun k => passB F k.2.2.1 k.2.2.2).map fun k => (k.1, distL m xs k.2.1) := fun X => by
    unfold hitsL
    rw [List.filter_map, List.map_map]
    rfl
  rw [e, e, h]
theorem tellL_key {m : Int} {xs : List Int} {F : List (List Cnd)} {L M : List Ent} (h : L.map keyE = M.map keyE) : tellL m xs F L = tellL m xs F M := by
  unfold tellL
  rw [hitsL_key h]
def fromE (i : Int) (L : List Ent) : List Ent := L.filter fun e => decide (i ≤ e.id)
theorem from_none {i : Int} {L : List Ent} (h : findE i L = none) : fromE i L = fromE (i + 1) L := by
  unfold fromE
  refine List.filter_congr fun e he => ?_
  have h1 : ¬ e.id = i := by
    have := List.find?_eq_none.1 h e he
    simpa using this
  by_cases h2 : i ≤ e.id
  · simp [h2, show i + 1 ≤ e.id by omega]
  · simp [h2, show ¬ i + 1 ≤ e.id by omega]
theorem from_some {i : Int} : ∀ {L : List Ent} {e : Ent}, Rising L → findE i L = some e → fromE i L = e :: fromE (i + 1) L
  | [], e, _, h => by cases h
  | x :: r, e, hr, h => by
    obtain ⟨h1, h2⟩ := List.pairwise_cons.1 hr
    by_cases hx : x.id = i
    · have he : x = e := by simpa [findE, hx] using h
      subst he
      have h3 : fromE i r = fromE (i + 1) r := by
        unfold fromE
        refine List.filter_congr fun y hy => ?_
        have := h1 y hy
        simp [show i ≤ y.id by omega, show i + 1 ≤ y.id by omega]
      unfold fromE at h3 ⊢
      rw [List.filter_cons, List.filter_cons]
      simp [hx, h3, show ¬ i + 1 ≤ i by omega]
    · have hf : findE i r = some e := by
        unfold findE at h ⊢
        rw [List.find?_cons] at h
        simpa [hx] using h
      have hm := findE_mem hf
      have h3 := h1 e hm.1
      have ih := from_some h2 hf
      unfold fromE at ih ⊢
      rw [List.filter_cons, List.filter_cons]
      simp only [show ¬ i ≤ x.id by omega, show ¬ i + 1 ≤ x.id by omega, decide_false, Bool.false_eq_true, if_false]
      exact ih
theorem insE_front {x : Ent} {M : List Ent} (h : ∀ e ∈ M, x.id < e.id) : insE x M = x :: M := by
  cases M with
  | nil => rfl
  | cons y r =>
    unfold insE
    rw [if_pos (h y (by simp))]
theorem from_high {L : List Ent} (h : K50 L) : fromE 50 L = [] := by
  unfold fromE
  refine List.filter_eq_nil_iff.2 fun e he => ?_
  have := h e he
  simp
  omega
theorem from_low {L : List Ent} (h : K50 L) : fromE 0 L = L := by
  unfold fromE
  refine List.filter_eq_self.2 fun e he => ?_
  have := h e he
  simp
  omega
theorem key_from {L M : List Ent} {i : Int} (h : M.map keyE = (fromE i L).map keyE) : ∀ e ∈ M, i ≤ e.id := fun e he => by
  have : keyE e ∈ (fromE i L).map keyE := h ▸ List.mem_map.2 ⟨e, he, rfl⟩
  obtain ⟨y, hy, hk⟩ := List.mem_map.1 this
  have h1 : y.id = e.id := congrArg (·.1) hk
  have h2 := (List.mem_filter.1 hy).2
  simp at h2
  omega

section
variable {W0 W1 w w' : World} {bb bs bm A : Nat} {cf : Cf} {gn : Net} {L : List Ent}
theorem KB.weaken (h : KB W1 w bb bs bm cf gn L) (hb : Below W0.heap.size W0 W1) : KB W0 w bb bs bm cf gn L :=
  ⟨h.base, h.tb, h.ts, hb.trans (h.old.mono hb.size), Nat.le_trans hb.size h.lbb, Nat.le_trans hb.size h.lbm, fun k hk => Nat.le_trans hb.size (h.pf k hk)⟩
theorem KB.other (h : KB W0 w bb bs bm cf gn L) (hA : ∃ c, w.heap[A]? = some (.cells c 102 (0, 0))) (hne : A ≠ bb) (hF : ∀ k, gn.F k → k ≠ A) (h0 : 0 < W0.heap.size) (hA0 : W0.heap.size ≤ A) (hk : Kept (fun k => k = A) w w') : KB W0 w' bb bs bm cf gn L := by
  obtain ⟨cb, hcb⟩ := h.tb
  obtain ⟨cs, hcs⟩ := h.ts
  obtain ⟨cA, hA⟩ := hA
  have ns : bs ≠ A := ne_of_elem hcs hA (by decide)
  refine ⟨h.base.keptS hk (fun e => hne e.symm) ns (fun e => h.base.map.mb_ne hA e.symm) (by omega) (fun e he => ?_) hF, ⟨cb, (hk.block _ (heap_lt hcb) (fun e => hne e.symm)).trans hcb⟩, ⟨cs, (hk.block _ (heap_lt hcs) ns).trans hcs⟩, h.old.trans (hk.toBelow h.old.size (fun k e => by rw [e]; exact hA0)), h.lbb, h.lbm, h.pf⟩
  obtain ⟨c, hc⟩ := (h.base.map.pts e he).obj
  exact ne_of_elem hc hA (by decide)
end
end Go.Proofs.YtpkiefjanmfgfaaGreatDoor
namespace Go.Proofs.YtpkiefjanmfgfaaGreatDoor
open Go.RowKit Go.Maps

theorem u64_nat (n : Int) : ∃ d : Nat, IntKind.u64.wrap n = d ∧ d < 18446744073709551616 := by
  have h1 : 0 ≤ n % 18446744073709551616 := Int.emod_nonneg _ (by decide)
  have h2 : n % 18446744073709551616 < 18446744073709551616 := Int.emod_lt_of_pos _ (by decide)
  refine ⟨(n % 18446744073709551616).toNat, ?_, by omega⟩
  rw [IntKind.wrap_u64]
  omega
theorem RightL.wide {l l' all : List Hit} {k : Int} (h : RightL l all k 100) (h' : RightL l' all k 100) (ha : all.length ≤ 60) : l' = l := by
  have h1 := h.exact (.inr (by omega))
  have h2 := h'.exact (.inr (by omega))
  have h3 := h.len
  have h4 := h'.len
  rw [h1, h2, show l'.length = l.length by omega]
theorem schCode_two {x y k beam : Int} {dim : Int} (hd : dim = 2) (hx : Crd x) (hy : Crd y) (hk : 1 ≤ k ∧ k ≤ 60) (hb : 1 ≤ beam ∧ beam ≤ 100) {F : List (List Cnd)} (hF : filtB F = true) : schCode dim [x, y] k beam F = 0 := by
  unfold schCode
  rw [hd, two_code hx hy, hF]
  have h1 : inB k 1 60 = true := by simp only [inB, Bool.and_eq_true, decide_eq_true_eq]; exact hk
  have h2 : inB beam 1 100 = true := by simp only [inB, Bool.and_eq_true, decide_eq_true_eq]; exact hb
  simp [h1, h2, okCode]

set_option maxHeartbeats 8000000 in
set_option maxRecDepth 20000 in
theorem alike10 (sa : Option Addr) (len cap : Nat) (links metric beam other : Int) (draw : Nat) (x0 y0 k0 : Int) (h1 : I64 links) (h2 : I64 metric) (h3 : I64 beam) (h4 : I64 other) (_hdr : draw < 18446744073709551616) (h6 : I64 x0) (h7 : I64 y0) (h8 : I64 k0) (w : World) (hg : Handle w) (hs : KScriptAt w sa len) :
    Calls Tryz.prog 10 #[.slice sa len cap, .int .i64 links, .int .i64 metric, .int .i64 beam, .int .i64 other, .int .u64 draw, .int .i64 x0, .int .i64 y0, .int .i64 k0] w fun ev w' => ev = .returned (.bool true) ∧ Below w.heap.size w w' := by
  have hM := made18 sa len cap links metric beam h1 h2 h3 w hg hs
  have HM := hide hM
  have hpos := hg.lt
  clear hM hs
  go_enter Tryz.func10, Tryz.ntmps10
  go_wp2_with fail
  refine HM.out.mono ?_
  rintro ev w1 ⟨b1, s1, m1, gn1, L, rfl, hK1, h50, hl1⟩
  have hg1 : Handle w1 := hK1.base.hdl
  have HK1 := hide hK1
  have H50 := hide h50
  have HL1 := hide hl1
  clear hK1 h50 hl1 HM
  go_wp2_with fail
  refine (base28 other metric other h4 h2 h4 w1 hg1).mono ?_
  rintro ev w2 ⟨b2, s2, m2, gn2, rfl, hK2, hl2⟩
  have HK2 := hide hK2
  have HL2 := hide hl2
  have HD1 : Hid ((keepCf links metric beam).dim = 2 ∧ (keepCf links metric beam).cap = 60) := ⟨rfl, rfl⟩
  have HD2 : Hid ((keepCf other metric other).dim = 2 ∧ (keepCf other metric other).cap = 60) := ⟨rfl, rfl⟩
  have HDM : Hid ((keepCf other metric other).metric = (keepCf links metric beam).metric) := rfl
  generalize keepCf links metric beam = cf1 at *
  generalize keepCf other metric other = cf2 at *
  clear hK2 hl2
  go_wp2
  go_loopw [21, 22, 23, 24] (fun iv _ _ _ wr => ∃ (k : Nat) (M : List Ent) (gn : Net), iv = .int .i64 ((k : Int) - 1) ∧ k ≤ 50 ∧ Hid (KB w1 wr b2 s2 m2 cf2 gn M) ∧ Hid (M.map keyE = (fromE k L).map keyE) ∧ Hid (0 ≤ gn.looks ∧ gn.looks ≤ 60)) (fun iv _ _ _ _ => (intOf iv + 1).toNat)
  case atStart => exact ⟨50, [], gn2, rfl, by omega, HK2.out, by show _ = _; rw [show ((50 : Nat) : Int) = 50 from rfl, from_high H50.out], HL2.out⟩
  case round =>
    obtain ⟨k, M, gn, rfl, hk, HK, HM, HL⟩ := hrel
    by_cases hlt : 0 < k
    · obtain ⟨j, rfl⟩ : ∃ j, k = j + 1 := ⟨k - 1, by omega⟩
      have ej : ((j + 1 : Nat) : Int) - 1 = j := by omega
      rw [ej]
      have hK1r := HK1.out.below HK.out.old
      cases he : findE j L with
      | none =>
        have HG := hide (get14_no b1 s1 m1 cf1 gn1 j L wr (i64_small (by omega) (by omega)) hK1r.base he)
        have HFN := hide (from_none he)
        clear he hK1r
        go_wp2_with fail
        refine HG.out.mono ?_
        rintro ev w5 ⟨rfl, hb5⟩
        have HK5 := hide ((HK.out.below hb5).alloc (.cells #[.int .i64 0, .slice none 0 0, .int .i64 0, .int .i64 0] 77))
        clear hb5 HG
        go_wp2
        refine ⟨⟨j, M, gn, by go_num, by omega, HK5.out, ?_, HL.out⟩, by simp [intOf]⟩
        show _ = _
        rw [HFN.out]
        exact HM.out
      | some e =>
        have HG := hide (get14_yes b1 s1 m1 cf1 gn1 j L e wr (i64_small (by omega) (by omega)) hK1r.base he)
        have HFS := hide (from_some HK1.out.base.map.rising he)
        have hm := findE_mem he
        have hpt := HK1.out.base.len e hm.1
        rw [HD1.out.1] at hpt
        have hp2 : e.pt.length = 2 := by omega
        have hcr := HK1.out.base.crd e hm.1
        have hcode : ptCode cf2.dim e.pt = 0 := by
          obtain ⟨a, b, hab⟩ : ∃ a b, e.pt = [a, b] := by
            match e.pt, hp2 with
            | [a, b], _ => exact ⟨a, b, rfl⟩
          rw [hab] at hcr ⊢
          rw [HD2.out.1]
          exact two_code (hcr a (by simp)) (hcr b (by simp))
        have HCD := hide hcode
        have hid := hm.2
        clear he hK1r hpt hcr hcode hm
        go_wp2_with fail
        refine HG.out.mono ?_
        rintro ev w5 ⟨g5, gc5, rfl, hg5, hp5, hb5⟩
        rw [hid, hp2]
        have hroom : Room cf2.cap j M := .inr (by
          have e1 : M.length = (fromE ((j + 1 : Nat) : Int) L).length := by have := congrArg List.length HM.out; simpa using this
          have e2 : (fromE ((j + 1 : Nat) : Int) L).length ≤ L.length := List.length_filter_le _ _
          have e3 := H50.out.len HK1.out.base.map.rising
          rw [HD2.out.2]
          omega)
        obtain ⟨w6, hw6⟩ : ∃ w6, w6 = w5.alloc (.cells #[.int .i64 j, .slice (some ⟨g5, 0, none⟩) 2 gc5, .int .i64 e.t0, .int .i64 e.t1] 77) := ⟨_, rfl⟩
        have hb6 : Below w5.heap.size w5 w6 := hw6 ▸ (Below.refl _ _).alloc (Nat.le_refl _) _
        have hX6 : w6.heap[w5.heap.size]? = some (.cells #[.int .i64 j, .slice (some ⟨g5, 0, none⟩) 2 gc5, .int .i64 e.t0, .int .i64 e.t1] 77 (0, 0)) := by rw [hw6]; exact heap_alloc_new _ _
        have hp6 := ownsRow_below hp5 hb6
        have hK6 := (HK.out.below hb5).below hb6
        have hput := (fun d (hd : d < 18446744073709551616) => putX (j : Int) e.t0 e.t1 d e.pt g5 gc5 (i64_small (by omega) (by omega)) hd hK6 HCD.out (by omega) (by omega) hroom hp6)
        rw [hp2] at hput
        have HPUT := hide hput
        have HX6 := hide hX6
        have HNF6 : Hid (¬ (w5.heap.size = m2 ∨ gn.F w5.heap.size)) := fun h => h.elim (fun h => by have := (HK.out.below hb5).base.map.lt; omega) ((HK.out.below hb5).fresh (Nat.le_refl _))
        have hzz : w5.heap.size < w6.heap.size := heap_lt hX6
        clear hX6 hp6 hK6 hp5 hroom hb5 hb6 HG hput
        go_wp2_with fail
        obtain ⟨d, hdd, hdl⟩ := u64_nat (↑draw * (↑j + 1))
        rw [hdd, ← hw6]
        clear hw6
        refine (HPUT.out d hdl).mono ?_
        rintro ev w7 ⟨rfl, g7, gc7, gn7, hK7, hk7, _, hl7⟩
        have hX7 := (hk7.block _ hzz HNF6.out).trans HX6.out
        have x0 : w7.cell? ⟨w5.heap.size, 0, none⟩ = some (.int .i64 j) := cells_at hX7 0 rfl
        have x1 : w7.cell? ⟨w5.heap.size, 1, none⟩ = some (.slice (some ⟨g5, 0, none⟩) 2 gc5) := cells_at hX7 1 rfl
        have hzz7 := heap_lt hX7
        have HK7 := hide hK7
        have HL7 : Hid (0 ≤ gn7.looks ∧ gn7.looks ≤ 60) := by rw [hl7]; exact HL.out
        clear hK7 hk7 hX7 HPUT hl7
        go_wp2
        refine ⟨⟨j, _, gn7, by go_num, by omega, HK7.out, ?_, HL7.out⟩, by simp [intOf]⟩
        show _ = _
        rw [insE_front (fun x hx => by have := key_from HM.out x hx; simp only; omega), HFS.out]
        simp only [List.map_cons, keyE, hid]
        exact congrArg _ HM.out
    · obtain rfl : k = 0 := by omega
      have hpk := fun W => pick17 k0 60 h8 (by omega) W
      have ik := pickI_in (c := k0) (n := 60) (by omega)
      have hcx := fun W => coord20 x0 h6 W
      have hcy := fun W => coord20 y0 h7 W
      have hX := coordI_crd x0
      have hY := coordI_crd y0
      generalize pickI k0 60 = kq at hpk ik
      generalize coordI x0 = X at hcx hX
      generalize coordI y0 = Y at hcy hY
      obtain ⟨kk, hkk⟩ : ∃ kk, kk = 1 + kq := ⟨_, rfl⟩
      have ekk : IntKind.i64.wrap (1 + kq) = kk := by rw [IntKind.wrap_i64]; omega
      have ekk2 : wrap64 (1 + kq) = kk := by unfold wrap64; omega
      have hkb : 1 ≤ kk ∧ kk ≤ 60 := by omega
      have HPK := hide hpk
      have HCX := hide hcx
      have HCY := hide hcy
      have HKB := hide hkb
      clear hpk hcx hcy hkk hkb ik
      go_wp2_with fail
      refine (HPK.out _).mono ?_
      rintro ev' w' ⟨rfl, rfl⟩
      go_wp2_with fail
      refine (HCX.out _).mono ?_
      rintro ev' w' ⟨rfl, rfl⟩
      go_wp2_with fail
      refine (HCY.out _).mono ?_
      rintro ev' w' ⟨rfl, rfl⟩
      go_wp2_with fail
      obtain ⟨w5, hw5⟩ : ∃ w5, w5 = wr.alloc (.cells #[.int .i64 X, .int .i64 Y] 3) := ⟨_, rfl⟩
      have hA5 : Pts w5 wr.heap.size 2 [X, Y] := two_row (by rw [hw5]; exact heap_alloc_new _ _)
      have hK15 : KB w w5 b1 s1 m1 cf1 gn1 L := hw5 ▸ (HK1.out.below HK.out.old).alloc _
      have hK25 : KB w1 w5 b2 s2 m2 cf2 gn M := hw5 ▸ HK.out.alloc _
      rw [← hw5]
      clear hw5
      have hb1 : b1 < w1.heap.size := block_lt_of_cell HK1.out.base.b0
      have hb2 := hK25.lbb
      have HF1 : Hid (∀ k, gn1.F k → k ≠ b2) := fun k hk => by have := (HK1.out.base.foot k hk).1; omega
      have HF2 : Hid (∀ k, gn.F k → k ≠ b1) := fun k hk => by have := hK25.pf k hk; omega
      refine (searchK (.slice (some ⟨wr.heap.size, 0, none⟩) 2 2) [X, Y] kk 100 (.slice none 0 0) [] w5 hK15 hA5 (two_ints hA5) (filt_none _) (by have := HL1.out; omega) (schCode_two HD1.out.1 hX hY HKB.out (by omega) (by decide))).mono ?_
      rintro ev w6 ⟨v1, l1, n1, rfl, hr6, _, hK16, hk6, _, hR1⟩
      have hK26 := (hK25.weaken HK1.out.old).other hK15.tb (by omega) HF2.out hpos HK1.out.lbb hk6
      have HR6 := hide hr6
      have HK16 := hide hK16
      have HK26 := hide hK26
      have HR1 := hide hR1
      clear hr6 hK16 hK26 hR1 hk6 hK15 hK25 hA5
      go_wp2_with fail
      obtain ⟨w7, hw7⟩ : ∃ w7, w7 = w6.alloc (.cells #[.int .i64 X, .int .i64 Y] 3) := ⟨_, rfl⟩
      have hA7 : Pts w7 w6.heap.size 2 [X, Y] := two_row (by rw [hw7]; exact heap_alloc_new _ _)
      have hb7 : Below w6.heap.size w6 w7 := hw7 ▸ (Below.refl _ _).alloc (Nat.le_refl _) _
      rw [← hw7]
      clear hw7
      have hK17 := HK16.out.below hb7
      have hK27 := HK26.out.below hb7
      have hr7 := ownsRow_below HR6.out hb7
      refine (searchK (.slice (some ⟨w6.heap.size, 0, none⟩) 2 2) [X, Y] kk 100 (.slice none 0 0) [] w7 hK27 hA7 (two_ints hA7) (filt_none _) (by have := HL.out; omega) (schCode_two HD2.out.1 hX hY HKB.out (by omega) (by decide))).mono ?_
      rintro ev w8 ⟨v2, l2, n2, rfl, hr8, _, hK28, hk8, _, hR2⟩
      have hK18 := hK17.other hK27.tb (by omega) HF1.out hpos hK27.lbb hk8
      have hr18 := hK27.rowLooked hr7 hk8
      have hML : M.map keyE = L.map keyE := by
        have := HM.out
        rw [show ((0 : Nat) : Int) = 0 from rfl, from_low H50.out] at this
        exact this
      rw [HDM.out, tellL_key hML] at hR2
      have htl : (tellL cf1.metric [X, Y] [] L).length = L.length := by rw [tellL_len, passL_none]
      have h60 := hK18.base.few
      obtain rfl := RightL.wide HR1.out hR2 (by omega)
      have hlen := HR1.out.len
      rw [htl] at hlen
      have hml : M.length = L.length := by have := congrArg List.length hML; simpa using this
      have hsm := same25 v1 v2 l2 w8 hr18 hr8 (by omega)
      obtain ⟨va, vc, rfl, _⟩ := HRow.slice hr18
      have HSM := hide hsm
      have HK18 := hide hK18
      have HK28 := hide hK28
      have hq : (l2.length : Int) = kk ∨ L.length = l2.length := by omega
      have HQ := hide hq
      clear hsm hK18 hK28 hr8 hr18 hr7 hK17 hK27 hA7 hb7 hk8 hR2 hlen hq htl hML HR6 HK16 HK26
      go_wp2_with fail
      refine HSM.out.mono ?_
      rintro ev w9 ⟨rfl, hb9⟩
      have HC1 := hide (count15_any b1 s1 m1 cf1 _ L w9 (HK18.out.below hb9).base)
      have HC2 := hide (count15_any b2 s2 m2 cf2 _ M w9 (HK28.out.below hb9).base)
      have HB9 : Hid (Below w.heap.size w w9) := (HK18.out.below hb9).old
      rw [hml] at HC2
      clear hb9 HSM hml
      rcases HQ.out with hq | hq
      · subst hq
        go_wp2_with fail
        refine HC1.out.mono ?_
        rintro ev' w' ⟨rfl, rfl⟩
        go_wp2_with fail
        refine HC2.out.mono ?_
        rintro ev' w' ⟨rfl, rfl⟩
        go_wp2
        go_ret
        exact ⟨rfl, HB9.out⟩
      · rw [hq] at HC1 HC2
        clear hq HQ h60
        go_wp2_with fail
        refine HC1.out.mono ?_
        rintro ev' w' ⟨rfl, rfl⟩
        go_wp2_with fail
        refine HC2.out.mono ?_
        rintro ev' w' ⟨rfl, rfl⟩
        go_wp2
        all_goals go_ret
        all_goals exact ⟨rfl, HB9.out⟩
end Go.Proofs.YtpkiefjanmfgfaaGreatDoor
namespace Go.Proofs.YtpkiefjanmfgfaaGreatDoor
open Go.RowKit Go.Maps

def oppI (o : Int) : Int := if o = 0 then 1 else if o = 1 then 0 else if o = 2 then 3 else 2
theorem holdV_opp {o : Int} (h : 0 ≤ o ∧ o ≤ 3) (v x : Int) : holdV (oppI o) v x = !holdV o v x := by
  obtain rfl | rfl | rfl | rfl : o = 0 ∨ o = 1 ∨ o = 2 ∨ o = 3 := by omega
  · by_cases e : x = v <;> simp [oppI, holdV, e]
  · by_cases e : x = v <;> simp [oppI, holdV, e]
  · by_cases e : x < v
    · simp [oppI, holdV, e, show ¬ v ≤ x by omega]
    · simp [oppI, holdV, e, show v ≤ x by omega]
  · by_cases e : v ≤ x
    · simp [oppI, holdV, e, show ¬ x < v by omega]
    · simp [oppI, holdV, e, show x < v by omega]
theorem holdB_opp {t o v : Int} (h : 0 ≤ o ∧ o ≤ 3) (t0 t1 : Int) : holdB t0 t1 (t, oppI o, v) = !holdB t0 t1 (t, o, v) := by
  unfold holdB
  exact holdV_opp h _ _
section
variable {t o v : Int}
theorem pass_two (h : 0 ≤ o ∧ o ≤ 3) (t0 t1 : Int) : passB [[(t, oppI o, v)]] t0 t1 = !passB [[(t, o, v)]] t0 t1 := by
  simp [passB, holdB_opp h]
theorem pass_both (h : 0 ≤ o ∧ o ≤ 3) (t0 t1 : Int) : passB [[(t, o, v)], [(t, oppI o, v)]] t0 t1 = true := by
  simp [passB, holdB_opp h]
theorem pass_none (h : 0 ≤ o ∧ o ≤ 3) (t0 t1 : Int) : passB [[(t, o, v), (t, oppI o, v)]] t0 t1 = false := by
  simp [passB, holdB_opp h]
theorem tell_both (h : 0 ≤ o ∧ o ≤ 3) (m : Int) (xs : List Int) (L : List Ent) : tellL m xs [[(t, o, v)], [(t, oppI o, v)]] L = tellL m xs [] L := by
  unfold tellL hitsL
  have e : (L.filter fun e => passB [[(t, o, v)], [(t, oppI o, v)]] e.t0 e.t1) = L.filter fun e => passB [] e.t0 e.t1 := List.filter_congr fun e _ => by rw [pass_both h]; simp [passB]
  rw [e]
theorem tell_none (h : 0 ≤ o ∧ o ≤ 3) (m : Int) (xs : List Int) (L : List Ent) : tellL m xs [[(t, o, v), (t, oppI o, v)]] L = [] := by
  have : (tellL m xs [[(t, o, v), (t, oppI o, v)]] L).length = 0 := by
    rw [tellL_len]
    have e : passL [[(t, o, v), (t, oppI o, v)]] L = [] := List.filter_eq_nil_iff.2 fun e _ => by rw [pass_none h]; simp
    rw [e]; rfl
  exact List.length_eq_zero_iff.1 this
theorem tell_sum (h : 0 ≤ o ∧ o ≤ 3) (m : Int) (xs : List Int) (L : List Ent) : (tellL m xs [[(t, o, v)]] L).length + (tellL m xs [[(t, oppI o, v)]] L).length = L.length := by
  rw [tellL_len, tellL_len]
  have e : passL [[(t, oppI o, v)]] L = L.filter fun e => !passB [[(t, o, v)]] e.t0 e.t1 := List.filter_congr fun e _ => pass_two h _ _
  rw [e]
  clear e
  unfold passL
  induction L with
  | nil => rfl
  | cons x r ih =>
    rw [List.filter_cons, List.filter_cons]
    cases passB [[(t, o, v)]] x.t0 x.t1 <;> simp <;> omega
end
theorem any_tell {m : Int} {xs : List Int} {F : List (List Cnd)} {L : List Ent} (hr : Rising L) {e : Ent} (he : e ∈ L) : ((tellL m xs F L).any fun x => x.1 == e.id) = passB F e.t0 e.t1 := by
  cases hp : passB F e.t0 e.t1 with
  | true =>
    refine List.any_eq_true.2 ⟨_, tellL_mem.2 ⟨e, he, hp, rfl⟩, ?_⟩
    simp
  | false =>
    refine List.any_eq_false.2 fun x hx => ?_
    obtain ⟨y, hy, hq, rfl⟩ := tellL_mem.1 hx
    intro h
    have hid : y.id = e.id := by simpa using h
    obtain ⟨i, hi, rfl⟩ := List.mem_iff_getElem.1 hy
    obtain ⟨j, hj, rfl⟩ := List.mem_iff_getElem.1 he
    have hij : i = j := by
      rcases Nat.lt_trichotomy i j with h | h | h
      · have := (List.pairwise_iff_getElem.1 hr) i j hi hj h; omega
      · exact h
      · have := (List.pairwise_iff_getElem.1 hr) j i hj hi h; omega
    subst hij
    rw [hp] at hq
    cases hq
theorem any_parts {t o v : Int} (h : 0 ≤ o ∧ o ≤ 3) {m : Int} {xs : List Int} {L : List Ent} (hr : Rising L) {i : Nat} (hi : i < (tellL m xs [] L).length) :
    ((tellL m xs [[(t, oppI o, v)]] L).any fun x => x.1 == (nth (tellL m xs [] L) i).1) = !((tellL m xs [[(t, o, v)]] L).any fun x => x.1 == (nth (tellL m xs [] L) i).1) := by
  have e1 : nth (tellL m xs [] L) i = (tellL m xs [] L)[i] := by simp [nth, List.getD_eq_getElem?_getD, hi]
  obtain ⟨e, he, _, hx⟩ := tellL_mem.1 (List.getElem_mem hi)
  rw [e1, hx, any_tell hr he, any_tell hr he, pass_two h]
theorem any_sub {l all : List Hit} (h : l.Sublist all) {i : Nat} (hi : i < l.length) : (all.any fun x => x.1 == (nth l i).1) = true := by
  have e1 : nth l i = l[i] := by simp [nth, List.getD_eq_getElem?_getD, hi]
  rw [e1]
  exact List.any_eq_true.2 ⟨l[i], h.subset (List.getElem_mem hi), by simp⟩

theorem conds_one {w : World} {A : Nat} {t o v : Int} (hA : w.heap[A]? = some (.cells #[.int .i64 t, .int .i64 o, .int .i64 v] 72 (0, 0))) : CondsAt w (.slice (some ⟨A, 0, none⟩) 1 1) [(t, o, v)] := by
  refine ⟨_, _, rfl, by simp, by simp, .inr ⟨A, 0, rfl, fun i hi => ?_⟩⟩
  obtain rfl : i = 0 := by simp at hi; omega
  exact ⟨cells_at hA 0 rfl, cells_at hA 1 rfl, cells_at hA 2 rfl⟩
theorem conds_two {w : World} {A : Nat} {t o v t' o' v' : Int} (hA : w.heap[A]? = some (.cells #[.int .i64 t, .int .i64 o, .int .i64 v, .int .i64 t', .int .i64 o', .int .i64 v'] 72 (0, 0))) : CondsAt w (.slice (some ⟨A, 0, none⟩) 2 2) [(t, o, v), (t', o', v')] := by
  refine ⟨_, _, rfl, by simp, by simp, .inr ⟨A, 0, rfl, fun i hi => ?_⟩⟩
  obtain rfl | rfl : i = 0 ∨ i = 1 := by simp at hi; omega
  · exact ⟨cells_at hA 0 rfl, cells_at hA 1 rfl, cells_at hA 2 rfl⟩
  · exact ⟨cells_at hA 3 rfl, cells_at hA 4 rfl, cells_at hA 5 rfl⟩
theorem filt_one {w : World} {B : Nat} {u : Value} {c : List Cnd} (hB : w.heap[B]? = some (.cells #[u] 73 (0, 0))) (hu : CondsAt w u c) : FiltAt w (.slice (some ⟨B, 0, none⟩) 1 1) [c] := by
  refine ⟨_, _, rfl, by simp, by simp, .inr ⟨B, 0, rfl, fun i hi => ?_⟩⟩
  obtain rfl : i = 0 := by simp at hi; omega
  exact ⟨u, cells_at hB 0 rfl, hu⟩
theorem filt_two {w : World} {B : Nat} {u u' : Value} {c c' : List Cnd} (hB : w.heap[B]? = some (.cells #[u, u'] 73 (0, 0))) (hu : CondsAt w u c) (hu' : CondsAt w u' c') : FiltAt w (.slice (some ⟨B, 0, none⟩) 2 2) [c, c'] := by
  refine ⟨_, _, rfl, by simp, by simp, .inr ⟨B, 0, rfl, fun i hi => ?_⟩⟩
  obtain rfl | rfl : i = 0 ∨ i = 1 := by simp at hi; omega
  · exact ⟨u, cells_at hB 0 rfl, hu⟩
  · exact ⟨u', cells_at hB 1 rfl, hu'⟩
theorem filtB_one {t o v : Int} (ht : 0 ≤ t ∧ t < 2) (ho : 0 ≤ o ∧ o ≤ 3) : filtB [[(t, o, v)]] = true := by
  simp [filtB, clauseB, condB, inB]
  omega
theorem filtB_two {t o v t' o' v' : Int} (ht : 0 ≤ t ∧ t < 2) (ho : 0 ≤ o ∧ o ≤ 3) (ht' : 0 ≤ t' ∧ t' < 2) (ho' : 0 ≤ o' ∧ o' ≤ 3) : filtB [[(t, o, v)], [(t', o', v')]] = true := by
  simp [filtB, clauseB, condB, inB]
  omega
theorem filtB_both {t o v t' o' v' : Int} (ht : 0 ≤ t ∧ t < 2) (ho : 0 ≤ o ∧ o ≤ 3) (ht' : 0 ≤ t' ∧ t' < 2) (ho' : 0 ≤ o' ∧ o' ≤ 3) : filtB [[(t, o, v), (t', o', v')]] = true := by
  simp [filtB, clauseB, condB, inB]
  omega
theorem oppI_in {o : Int} (_h : 0 ≤ o ∧ o ≤ 3) : 0 ≤ oppI o ∧ oppI o ≤ 3 := by
  unfold oppI
  split
  · omega
  · split
    · omega
    · split <;> omega

def RowsAt (w : World) (rs : List (Value × List Hit)) : Prop := ∀ p ∈ rs, HRow w p.1 p.2
theorem RowsAt.below {w w' : World} {rs : List (Value × List Hit)} (h : RowsAt w rs) (hb : Below w.heap.size w w') : RowsAt w' rs := fun p hp => ownsRow_below (h p hp) hb
theorem RowsAt.looked {W0 w w' : World} {bb bs bm : Nat} {cf : Cf} {gn : Net} {L : List Ent} {rs : List (Value × List Hit)} (h : RowsAt w rs) (hK : KB W0 w bb bs bm cf gn L) (hk : Kept (fun k => k = bb) w w') : RowsAt w' rs := fun p hp => hK.rowLooked (h p hp) hk
theorem RowsAt.cons {w : World} {v : Value} {l : List Hit} {rs : List (Value × List Hit)} (h : HRow w v l) (hr : RowsAt w rs) : RowsAt w ((v, l) :: rs) := fun p hp => by
  rcases List.mem_cons.1 hp with rfl | hp
  · exact h
  · exact hr p hp
theorem RowsAt.head {w : World} {v : Value} {l : List Hit} {rs : List (Value × List Hit)} (h : RowsAt w ((v, l) :: rs)) : HRow w v l := h (v, l) (by simp)
theorem RowsAt.tail {w : World} {p : Value × List Hit} {rs : List (Value × List Hit)} (h : RowsAt w (p :: rs)) : RowsAt w rs := fun q hq => h q (by simp [hq])
end Go.Proofs.YtpkiefjanmfgfaaGreatDoor
