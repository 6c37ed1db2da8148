import Derived.Test.YtpkiefjanmfgfaaGreatDoorQui13
import Derived.Test.YtpkiefjanmfgfaaGreatDoorQui14
import Derived.Test.YtpkiefjanmfgfaaGreatDoorQui16
namespace Go.Proofs.YtpkiefjanmfgfaaGreatDoor
open Go.RowKit Go.Maps

set_option maxHeartbeats 2000000 in
theorem get14_yes (bb bs bm : Nat) (cf : Cf) (gn : Net) (id : Int) (L : List Ent) (e : Ent) (w : World) (hid : I64 id) (h : BaseAt w bb bs bm cf gn L) (he : findE id L = some e) :
    Calls Tryz.prog 29 #[.pointer (some ⟨bb, 0, none⟩), .int .i64 id] w fun ev w' => ∃ g gc, ev = .returned (.tuple #[.agg #[.int .i64 e.id, .slice (some ⟨g, 0, none⟩) e.pt.length gc, .int .i64 e.t0, .int .i64 e.t1], .int .i64 0]) ∧ w.heap.size ≤ g ∧ Pts w' g gc e.pt ∧ Below w.heap.size w w' := by
  have b6 := h.b6
  have hbb := block_lt_of_cell b6
  go_enter Tryz.func29, Tryz.ntmps29
  go_wp2_with fail
  refine (get29_yes bs bm id L e _ hid (h.alloc _).s1 (h.alloc _).map he).mono ?_
  rintro ev w1 ⟨g, gc, rfl, hg, hp, hb1⟩
  have hz : w.heap.size < w1.heap.size := by have := hb1.size; simp at this; omega
  have hne : w.heap.size ≠ w1.heap.size := by omega
  have HH := hide ((h.alloc _).hdl.below hb1)
  have l0 : w1.cell? ⟨w.heap.size, 0, none⟩ = some (.int .i64 0) := Below.at hb1 (by simp) (by simp)
  have l1 : w1.cell? ⟨w.heap.size, 1, none⟩ = some (.slice none 0 0) := Below.at hb1 (by simp) (by simp)
  have l2 : w1.cell? ⟨w.heap.size, 2, none⟩ = some (.int .i64 0) := Below.at hb1 (by simp) (by simp)
  have l3 : w1.cell? ⟨w.heap.size, 3, none⟩ = some (.int .i64 0) := Below.at hb1 (by simp) (by simp)
  have fl : ∀ o, w1.frozen? ⟨w.heap.size, o, none⟩ = false := fun o => (hb1.frozen (p := ⟨_, o, none⟩) (by simp)).trans (by simp)
  have HB := hide hb1
  have HG := hide hg
  have HP := hide hp
  clear hb1 h b6 hg hp
  go_wp2
  go_region_held3 (fun wx => wx.cell? ⟨w1.heap.size, 0, none⟩ = some (.int .i64 e.id) ∧ wx.cell? ⟨w1.heap.size, 1, none⟩ = some (.slice (some ⟨g, 0, none⟩) e.pt.length gc) ∧ wx.cell? ⟨w1.heap.size, 2, none⟩ = some (.int .i64 e.t0) ∧ wx.cell? ⟨w1.heap.size, 3, none⟩ = some (.int .i64 e.t1))
    (first | (refine ⟨?_, ?_, ?_, ?_⟩ <;> (simp; done)) | (exact ⟨n0, n1, n2, n3⟩) | (refine ⟨?_, ?_, ?_, ?_⟩ <;> (repeat rw [World.cell?_setCell_far _ _ _ _ (by exact hne)]) <;> assumption))
    (first
      | (go_at_call 43; refine (errno_nil _).mono ?_; rintro ev3 w3 ⟨rfl, hb3⟩; have n0 : w3.cell? ⟨w1.heap.size, 0, none⟩ = some (.int .i64 e.id) := Below.at hb3 (by simp) (by simp); have n1 : w3.cell? ⟨w1.heap.size, 1, none⟩ = some (.slice (some ⟨g, 0, none⟩) e.pt.length gc) := Below.at hb3 (by simp) (by simp); have n2 : w3.cell? ⟨w1.heap.size, 2, none⟩ = some (.int .i64 e.t0) := Below.at hb3 (by simp) (by simp); have n3 : w3.cell? ⟨w1.heap.size, 3, none⟩ = some (.int .i64 e.t1) := Below.at hb3 (by simp) (by simp); have p0 : w3.cell? ⟨w.heap.size, 0, none⟩ = some (.int .i64 0) := Below.at hb3 (by simp [World.cell?_alloc_past, hz, l0]) (by simp; omega); have p1 : w3.cell? ⟨w.heap.size, 1, none⟩ = some (.slice none 0 0) := Below.at hb3 (by simp [World.cell?_alloc_past, hz, l1]) (by simp; omega); have p2 : w3.cell? ⟨w.heap.size, 2, none⟩ = some (.int .i64 0) := Below.at hb3 (by simp [World.cell?_alloc_past, hz, l2]) (by simp; omega); have p3 : w3.cell? ⟨w.heap.size, 3, none⟩ = some (.int .i64 0) := Below.at hb3 (by simp [World.cell?_alloc_past, hz, l3]) (by simp; omega); have fp : ∀ o, w3.frozen? ⟨w.heap.size, o, none⟩ = false := fun o => (hb3.frozen (p := ⟨_, o, none⟩) (by simp; omega)).trans ((World.frozen?_alloc_old _ _ _ (by simp; omega)).trans (fl o))))
  go_wp2
  refine bodyPost_ret (v := .tuple #[.agg #[.int .i64 e.id, .slice (some ⟨g, 0, none⟩) e.pt.length gc, .int .i64 e.t0, .int .i64 e.t1], .int .i64 0]) (by simp [results, Tryz.results29, go_sem, p0, p1, p2, p3]) rfl ⟨g, gc, rfl, ?_, ?_, ?_⟩
  · have := HG.out; simp at this; omega
  · have hg := HG.out
    simp at hg
    have hlt := (HP.out.lt g rfl).2
    refine ownsRow_of_block HP.out fun g' e' => ?_
    obtain rfl : g = g' := by simpa [Value.ownBlock] using e'
    repeat rw [Below.heap_setCell _ _ _ _ (by simp; omega)]
    rw [hb3.block g (by simp; omega)]
    exact Below.heap_alloc _ _ _ hlt
  · have hb2 : Below w.heap.size w w1 := ((Below.refl _ _).alloc (Nat.le_refl _) _).trans (HB.out.mono (by simp))
    have hb4 : Below w.heap.size w w3 := ((hb2.alloc (by omega) _).drew).trans (hb3.mono (by simp; omega))
    repeat (first | exact hb4 | refine Below.setCell ?_ (by first | omega | (simp; done) | (simp; omega)) _ | refine Below.alloc ?_ (by first | omega | (simp; done) | (simp; omega)) _)

set_option maxHeartbeats 2000000 in
theorem new12_bad (d c l m b t : Int) (w : World) (hg : Handle w) (hb : cfgB d c l m b t = false) :
    Calls Tryz.prog 33 #[.agg #[.int .i64 d, .int .i64 c, .int .i64 l, .int .i64 m, .int .i64 b, .int .i64 t]] w fun ev w' => ev = .returned (.tuple #[.pointer none, .int .i64 1]) ∧ Below w.heap.size w w' := by
  have HC : Hid (cfgCode d c l m b t = 1) := by simp [Hid, cfgCode, hb]
  clear hb
  go_enter Tryz.func33, Tryz.ntmps33
  go_wp2_with fail
  refine (config24_any d c l m b t _).mono ?_
  rintro ev w1 ⟨⟨x, rfl, hx⟩, hb1⟩
  rw [HC.out] at hx
  have hbw : Below w.heap.size w w1 := ((Below.refl _ _).alloc (Nat.le_refl _) _).trans (hb1.mono (by simp))
  rcases hx with ⟨h0, _⟩ | ⟨_, ⟨s, n, rfl⟩ | ⟨s, n, s2, n2, rfl⟩⟩
  · cases h0
  · go_wp2_with fail
    refine (errno_one s n 1 _ (hg.below hbw)).mono ?_
    rintro ev w2 ⟨rfl, hb2⟩
    go_wp2
    go_ret2
    exact ⟨rfl, hbw.trans (hb2.mono hbw.size)⟩
  · go_wp2_with fail
    refine (errno_two s s2 n n2 1 _ (hg.below hbw)).mono ?_
    rintro ev w2 ⟨rfl, hb2⟩
    go_wp2
    go_ret2
    exact ⟨rfl, hbw.trans (hb2.mono hbw.size)⟩

theorem mapAt_new (w : World) : MapAt (w.alloc (.map #[] 0)) w.heap.size [] :=
  ⟨World.ownsMap_made w Tryz.prog 3 asIs, fun e he => (by simp at he), fun e he => (by simp at he), by simp [Rising]⟩
theorem new26' (c : Int) (w : World) : Calls Tryz.prog 65 #[.int .i64 c] w fun ev w' => ev = .returned (.pointer (some ⟨w.heap.size + 1, 0, none⟩)) ∧ MapAt w' w.heap.size [] ∧ w'.heap[w.heap.size + 1]? = some (.cells #[.int .i64 c, .map (some w.heap.size)] 155 (0, 0)) ∧ Below w.heap.size w w' := by
  refine (new26_any c w).mono ?_
  rintro ev w' ⟨rfl, rfl⟩
  exact ⟨rfl, (mapAt_new w).alloc _, heap_alloc2_new _ _ _, ((Below.refl _ _).alloc (Nat.le_refl _) _).alloc (by simp) _⟩

theorem NOk.empty (links : Int) (h : 0 ≤ links) : NOk links [] (fun _ => []) [] :=
  ⟨⟨⟨fun _ => List.Pairwise.nil, fun _ _ _ hm => absurd hm List.not_mem_nil, fun _ _ hm => absurd hm List.not_mem_nil, fun _ _ _ hm => absurd hm List.not_mem_nil⟩, fun _ hp => absurd hp List.not_mem_nil, List.nodup_nil, List.nodup_nil, fun x => by simp⟩, fun a l => by
    unfold mostL
    simp
    split <;> omega⟩

set_option maxHeartbeats 2000000 in
set_option maxRecDepth 20000 in
theorem new12_ok (d c l m b t : Int) (w : World) (hh : Handle w) (hb : cfgB d c l m b t = true) :
    Calls Tryz.prog 33 #[.agg #[.int .i64 d, .int .i64 c, .int .i64 l, .int .i64 m, .int .i64 b, .int .i64 t]] w fun ev w' => ∃ bb bs bm gn cs ct, ev = .returned (.tuple #[.pointer (some ⟨bb, 0, none⟩), .int .i64 0]) ∧ BaseAt w' bb bs bm ⟨d, c, l, m, b, t⟩ gn [] ∧
      w'.heap[bs]? = some (.cells cs 155 (0, 0)) ∧ w'.heap[bb]? = some (.cells ct 102 (0, 0)) ∧ Below w.heap.size w w' ∧ w.heap.size ≤ bb ∧ w.heap.size ≤ bs ∧ w.heap.size ≤ bm ∧ (∀ k, gn.F k → w.heap.size ≤ k) ∧ gn.looks = 0 ∧ gn.ex = Bks.nil ∧ (gn.lows = 0 ∧ gn.lst = 0 ∧ gn.pt = false) := by
  have HC : Hid (cfgCode d c l m b t = 0) := by simp [Hid, cfgCode, hb]
  have hcf : CfOk ⟨d, c, l, m, b, t⟩ := by
    simp only [cfgB, inB, Bool.and_eq_true, decide_eq_true_eq] at hb
    constructor <;> simp only <;> omega
  have HCF := hide hcf
  have HH := hide hh
  clear hb hcf hh
  go_enter Tryz.func33, Tryz.ntmps33
  go_wp2_with fail
  refine (config24_any d c l m b t _).mono ?_
  rintro ev w1 ⟨⟨x, rfl, hx⟩, hb1⟩
  rw [HC.out] at hx
  have hbw : Below w.heap.size w w1 := ((Below.refl _ _).alloc (Nat.le_refl _) _).trans (hb1.mono (by simp))
  have hz : w.heap.size < w1.heap.size := by have := hb1.size; simp at this; omega
  rcases hx with ⟨_, rfl⟩ | ⟨h0, _⟩
  · have k0 : w1.cell? ⟨w.heap.size, 0, none⟩ = some (.int .i64 d) := Below.at hb1 (by simp) (by simp)
    have k1 : w1.cell? ⟨w.heap.size, 1, none⟩ = some (.int .i64 c) := Below.at hb1 (by simp) (by simp)
    have k2 : w1.cell? ⟨w.heap.size, 2, none⟩ = some (.int .i64 l) := Below.at hb1 (by simp) (by simp)
    have k3 : w1.cell? ⟨w.heap.size, 3, none⟩ = some (.int .i64 m) := Below.at hb1 (by simp) (by simp)
    have k4 : w1.cell? ⟨w.heap.size, 4, none⟩ = some (.int .i64 b) := Below.at hb1 (by simp) (by simp)
    have k5 : w1.cell? ⟨w.heap.size, 5, none⟩ = some (.int .i64 t) := Below.at hb1 (by simp) (by simp)
    have HSB : Hid (∀ W, Below w1.heap.size w1 W → W.cell? ⟨w.heap.size, 0, none⟩ = some (.int .i64 d) ∧ W.cell? ⟨w.heap.size, 1, none⟩ = some (.int .i64 c) ∧ W.cell? ⟨w.heap.size, 2, none⟩ = some (.int .i64 l) ∧ W.cell? ⟨w.heap.size, 3, none⟩ = some (.int .i64 m) ∧ W.cell? ⟨w.heap.size, 4, none⟩ = some (.int .i64 b) ∧ W.cell? ⟨w.heap.size, 5, none⟩ = some (.int .i64 t)) := fun W hW => ⟨cell_below k0 hW, cell_below k1 hW, cell_below k2 hW, cell_below k3 hW, cell_below k4 hW, cell_below k5 hW⟩
    have HBW := hide hbw
    clear hb1 hbw k0 k1 k2 k3 k4 k5
    go_wp2
    go_region_held3 (fun wx => wx.cell? ⟨w.heap.size, 0, none⟩ = some (.int .i64 d) ∧ wx.cell? ⟨w.heap.size, 1, none⟩ = some (.int .i64 c) ∧ wx.cell? ⟨w.heap.size, 2, none⟩ = some (.int .i64 l) ∧ wx.cell? ⟨w.heap.size, 3, none⟩ = some (.int .i64 m) ∧ wx.cell? ⟨w.heap.size, 4, none⟩ = some (.int .i64 b) ∧ wx.cell? ⟨w.heap.size, 5, none⟩ = some (.int .i64 t))
      ((refine HSB.out _ ?_; repeat (first | with_reducible exact hb3 | with_reducible exact hb2 | exact Below.refl _ _ | refine Below.drew ?_ | refine Below.alloc ?_ (by first | exact hb3.size | exact hb2.size | exact Nat.le_refl _) _)))
      (first
        | (go_at_call 65; refine (new26' c w1.drew).mono ?_; rintro ev2 w2 ⟨rfl, hm2, hs2, hb2d⟩; have hb2 := Below.undrew hb2d)
        | (go_at_call 66; refine (new61 w2).mono ?_; rintro ev3 w3 ⟨rfl, hg3, hb3d⟩; have hb3 := hb2.trans (hb3d.mono hb2.size)))
    have HM2 := hide hm2
    have HS2 := hide hs2
    have HG3 := hide hg3
    have HB2 := hide hb2
    have HB3 := hide hb3
    have HB3D := hide hb3d
    clear hm2 hs2 hg3 hb2 hb3 hb2d hb3d HSB
    go_wp2
    go_ret2
    have hal : Below w3.heap.size w3 (w3.alloc (.cells #[.int .i64 d, .int .i64 c, .int .i64 l, .int .i64 m, .int .i64 b, .int .i64 t, .pointer (some ⟨w1.heap.size + 1, 0, none⟩), .pointer (some ⟨w2.heap.size + 2, 0, none⟩), .int .i64 0] 102)) := (Below.refl _ _).alloc (Nat.le_refl _) _
    have hbk : (w3.alloc (.cells #[.int .i64 d, .int .i64 c, .int .i64 l, .int .i64 m, .int .i64 b, .int .i64 t, .pointer (some ⟨w1.heap.size + 1, 0, none⟩), .pointer (some ⟨w2.heap.size + 2, 0, none⟩), .int .i64 0] 102)).heap[w3.heap.size]? = some (.cells #[.int .i64 d, .int .i64 c, .int .i64 l, .int .i64 m, .int .i64 b, .int .i64 t, .pointer (some ⟨w1.heap.size + 1, 0, none⟩), .pointer (some ⟨w2.heap.size + 2, 0, none⟩), .int .i64 0] 102 (0, 0)) := heap_alloc_new _ _
    have hs2 : w2.heap[w1.heap.size + 1]? = some (.cells #[.int .i64 c, .map (some w1.heap.size)] 155 (0, 0)) := HS2.out
    have hm2 : MapAt w2 w1.heap.size [] := HM2.out
    have hs3 := (HB3D.out.block _ (heap_lt hs2)).trans hs2
    have hs4 := (hal.block _ (heap_lt hs3)).trans hs3
    have hlt := heap_lt hs2
    have hlt3 := HB3D.out.size
    have hm4 := (hm2.below HB3D.out).below hal
    have hg4 := HG3.out.tight.below hal
    have hbw1 := HBW.out.size
    have hba : Below w.heap.size w (w3.alloc (.cells #[.int .i64 d, .int .i64 c, .int .i64 l, .int .i64 m, .int .i64 b, .int .i64 t, .pointer (some ⟨w1.heap.size + 1, 0, none⟩), .pointer (some ⟨w2.heap.size + 2, 0, none⟩), .int .i64 0] 102)) := (HBW.out.trans (HB3.out.mono hbw1)).trans (hal.mono (by omega))
    refine ⟨w3.heap.size, w1.heap.size + 1, w1.heap.size, ⟨w2.heap.size + 2, fun k => w2.heap.size ≤ k ∧ k < w3.heap.size, [], fun _ => [], [], 0, Bks.nil, 0, 0, false⟩, _, _, rfl, ⟨cells_at hbk 0 rfl, cells_at hbk 2 rfl, cells_at hbk 3 rfl, cells_at hbk 4 rfl, cells_at hbk 5 rfl, cells_at hbk 6 rfl, cells_at hbk 7 rfl, cells_at hbk 8 rfl, cells_at hs4 0 rfl, cells_at hs4 1 rfl, hm4, HH.out.below hba, hg4, NOk.empty l (by have := HCF.out.l2; simp only at this; omega), fun i => rfl, Nat.zero_le _, fun e he => absurd he List.not_mem_nil, fun e he => absurd he List.not_mem_nil, fun e he => absurd he List.not_mem_nil, fun e he => absurd he List.not_mem_nil, fun k hk => ?_, HCF.out⟩, hs4, hbk, hba, by omega, by omega, by omega, fun k hk => ?_, rfl, rfl, rfl, rfl, rfl⟩
    · have h1 : w2.heap.size ≤ k ∧ k < w3.heap.size := hk
      exact ⟨Nat.lt_of_lt_of_le h1.2 hal.size, by omega, by omega, by omega, by omega, fun e he => absurd he List.not_mem_nil⟩
    · have h1 : w2.heap.size ≤ k ∧ k < w3.heap.size := hk
      omega
  · exact absurd rfl h0
end Go.Proofs.YtpkiefjanmfgfaaGreatDoor
namespace Go.Proofs.YtpkiefjanmfgfaaGreatDoor
open Go.RowKit

theorem rcells_set (x : Ent) : ∀ (L : List Ent) (k : Nat), k < L.length →
    (((((rcells L).set (k * 5) (.int .i64 x.id)).set (k * 5 + 1) (.slice (some ⟨x.rb, 0, none⟩) x.pt.length x.rc)).set (k * 5 + 2) (.int .i64 x.t0)).set (k * 5 + 3) (.int .i64 x.t1)).set (k * 5 + 4) (.int .u64 x.draw) = rcells (L.set k x)
  | e :: L, 0, _ => by simp [rcell, rcells]
  | e :: L, k + 1, h => by
    have hl : (rcell e).length = 5 := rfl
    rw [rcells_cons, List.set_cons_succ, rcells_cons, ← rcells_set x L k (by simpa using h)]
    have e0 : (k + 1) * 5 = 5 + k * 5 := by omega
    rw [e0]
    simp only [Nat.add_assoc]
    rw [List.set_append_right _ _ (by omega), List.set_append_right _ _ (by omega), List.set_append_right _ _ (by omega), List.set_append_right _ _ (by omega), List.set_append_right _ _ (by omega), hl]
    congr 1
    congr 1
    · congr 1
      · congr 1
        · congr 1
          · congr 1
            omega
          · omega
        · omega
      · omega
    · omega

set_option maxHeartbeats 1000000 in
theorem put36_bad (br : Nat) (cf : Cf) (la : Option Addr) (lc : Nat) (L : List Ent) (id t0 t1 draw : Int) (xs : List Int) (v : Value) (w : World) (h : RefAt w br cf la lc L) (r : Int) (hr : ptCode cf.dim xs = r) (hbad : (r != 0) = true) (hvl : ∀ o, IntsAt (w.alloc o) v xs) :
    Calls Tryz.prog 71 #[.pointer (some ⟨br, 0, none⟩), .int .i64 id, v, .agg #[.int .i64 t0, .int .i64 t1], .int .u64 draw] w fun ev w' => ev = .returned (.int .i64 r) ∧ Below w.heap.size w w' := by
  have HR := hide hr
  clear hr
  go_enter Tryz.func71, Tryz.ntmps71
  go_wp2_with fail
  refine (point59_any xs v cf.dim br _ (hvl _) (h.alloc _).r0).mono ?_
  rintro ev w1 ⟨rfl, rfl⟩
  rw [HR.out]
  go_wp2
  go_ret
  exact ⟨rfl, (Below.refl _ _).alloc (Nat.le_refl _) _⟩

set_option maxHeartbeats 1000000 in
theorem put36_full (br : Nat) (cf : Cf) (la : Option Addr) (lc : Nat) (L : List Ent) (id t0 t1 draw : Int) (xs : List Int) (v : Value) (w : World) (h : RefAt w br cf la lc L) (hr : ptCode cf.dim xs = 0) (hvl : ∀ o, IntsAt (w.alloc o) v xs)
    (he : findE id L = none) (hfull : cf.cap ≤ L.length) :
    Calls Tryz.prog 71 #[.pointer (some ⟨br, 0, none⟩), .int .i64 id, v, .agg #[.int .i64 t0, .int .i64 t1], .int .u64 draw] w fun ev w' => ev = .returned (.int .i64 4) ∧ Below w.heap.size w w' := by
  have HR := hide hr
  have HE : Hid ((findE id L).isSome = false) := by rw [he]; rfl
  have hd : decide (cf.cap ≤ (L.length : Int)) = true := by simpa using hfull
  have r1 := h.r1
  have r6 := h.r6
  have hbr := h.lt
  clear hr he hfull
  go_enter Tryz.func71, Tryz.ntmps71
  go_wp2_with fail
  refine (point59_any xs v cf.dim br _ (hvl _) (h.alloc _).r0).mono ?_
  rintro ev w1 ⟨rfl, rfl⟩
  rw [HR.out]
  go_wp2_with fail
  refine (find38_any br cf la lc L id _ (h.alloc _)).mono ?_
  rintro ev w1 ⟨rfl, nq, rfl⟩
  rw [HE.out]
  clear h
  go_wp2
  go_quiet (fail)
  go_wp2
  go_ret
  refine ⟨rfl, ?_⟩
  repeat (first | exact Below.refl _ _ | refine below_drewN ?_ _ | refine Below.alloc ?_ (by first | omega | (simp; done) | (simp; omega)) _)

theorem small_bytes8 (m : Nat) (h : m ≤ 200) : m * 8 ≤ 140737488355328 := Nat.le_trans (Nat.mul_le_mul_right 8 h) (by decide)
theorem put36_src {w : World} {b off np nq : Nat} {xs : List Int} {T : Obj} (hc : ∀ i, i < xs.length → w.cell? ⟨b, off + i, none⟩ = some (.int .i64 (xs.getD i 0))) (hbb : b < w.heap.size) :
    ∀ j u, (vals xs)[j]? = some u → (((w.alloc T).drewN np).drewN nq).cell? ((⟨b, off, none⟩ : Addr).add j) = some u := by
  intro j u hj
  obtain ⟨hlt, rfl⟩ := vals_get hj
  rw [addr_add]
  exact (World.cell?_alloc_lt _ _ _ (by exact hbb)).trans (hc j hlt)
theorem put36_own {w w2 : World} {g gc np nq : Nat} {xs : List Int} {T : Obj} (ho : w2.ownsRow 0 3 1 (.slice (some ⟨g, 0, none⟩) (0 + xs.length) gc) (0 + xs.length) ([] ++ vals xs)) (hg : (((w.alloc T).drewN np).drewN nq).grownBy w2 (Value.slice none 0 0).ownBlock)
    (hl : (Value.slice none 0 0).ownBlock = some g ∨ g = w.heap.size + 1) : Pts w2 g gc xs ∧ Below w.heap.size w w2 ∧ Below (w.heap.size + 1) (w.alloc T) w2 ∧ g = w.heap.size + 1 := by
  rw [Nat.zero_add, List.nil_append] at ho
  refine ⟨ho, ?_, (below_drewN (below_drewN (Below.refl _ _) np) nq).grown hg (by simp) (fun k e => by cases e), ?_⟩
  · exact (below_drewN (below_drewN ((Below.refl _ _).alloc (Nat.le_refl _) T) np) nq).grown hg (by simp) (fun k e => by cases e)
  · rcases hl with e | e
    · cases e
    · exact e

theorem keep5 {W : World} {g0 b o : Nat} {x : Value} (h : W.cell? ⟨b, o, none⟩ = some x) (hne : g0 ≠ b) (o0 o1 o2 o3 o4 : Nat) (v0 v1 v2 v3 v4 : Value) :
    (((((W.setCell ⟨g0, o0, none⟩ v0).setCell ⟨g0, o1, none⟩ v1).setCell ⟨g0, o2, none⟩ v2).setCell ⟨g0, o3, none⟩ v3).setCell ⟨g0, o4, none⟩ v4).cell? ⟨b, o, none⟩ = some x := by
  rw [World.cell?_setCell_far _ _ _ _ (by exact hne), World.cell?_setCell_far _ _ _ _ (by exact hne), World.cell?_setCell_far _ _ _ _ (by exact hne), World.cell?_setCell_far _ _ _ _ (by exact hne), World.cell?_setCell_far _ _ _ _ (by exact hne)]
  exact h

theorem put36_S {w2 : World} {g0 br : Nat} {x : Value} (h : w2.cell? ⟨br, 6, none⟩ = some x) (hne : g0 ≠ br) (o0 o1 o2 o3 o4 : Nat) (v0 v1 v2 v3 v4 b0 b1 b2 b3 b4 : Value) :
    ((((((w2.setCell ⟨g0, o0, none⟩ v0).setCell ⟨g0, o1, none⟩ v1).setCell ⟨g0, o2, none⟩ v2).setCell ⟨g0, o3, none⟩ v3).setCell ⟨g0, o4, none⟩ v4).alloc (.cells #[b0, b1, b2, b3, b4] 135)).drew.cell? ⟨br, 6, none⟩ = some x ∧
    ((((((w2.setCell ⟨g0, o0, none⟩ v0).setCell ⟨g0, o1, none⟩ v1).setCell ⟨g0, o2, none⟩ v2).setCell ⟨g0, o3, none⟩ v3).setCell ⟨g0, o4, none⟩ v4).alloc (.cells #[b0, b1, b2, b3, b4] 135)).drew.cell? ⟨w2.heap.size, 0, none⟩ = some b0 ∧
    ((((((w2.setCell ⟨g0, o0, none⟩ v0).setCell ⟨g0, o1, none⟩ v1).setCell ⟨g0, o2, none⟩ v2).setCell ⟨g0, o3, none⟩ v3).setCell ⟨g0, o4, none⟩ v4).alloc (.cells #[b0, b1, b2, b3, b4] 135)).drew.cell? ⟨w2.heap.size, 1, none⟩ = some b1 ∧
    ((((((w2.setCell ⟨g0, o0, none⟩ v0).setCell ⟨g0, o1, none⟩ v1).setCell ⟨g0, o2, none⟩ v2).setCell ⟨g0, o3, none⟩ v3).setCell ⟨g0, o4, none⟩ v4).alloc (.cells #[b0, b1, b2, b3, b4] 135)).drew.cell? ⟨w2.heap.size, 2, none⟩ = some b2 ∧
    ((((((w2.setCell ⟨g0, o0, none⟩ v0).setCell ⟨g0, o1, none⟩ v1).setCell ⟨g0, o2, none⟩ v2).setCell ⟨g0, o3, none⟩ v3).setCell ⟨g0, o4, none⟩ v4).alloc (.cells #[b0, b1, b2, b3, b4] 135)).drew.cell? ⟨w2.heap.size, 3, none⟩ = some b3 ∧
    ((((((w2.setCell ⟨g0, o0, none⟩ v0).setCell ⟨g0, o1, none⟩ v1).setCell ⟨g0, o2, none⟩ v2).setCell ⟨g0, o3, none⟩ v3).setCell ⟨g0, o4, none⟩ v4).alloc (.cells #[b0, b1, b2, b3, b4] 135)).drew.cell? ⟨w2.heap.size, 4, none⟩ = some b4 := by
  have hk := keep5 h hne o0 o1 o2 o3 o4 v0 v1 v2 v3 v4
  have hs : (((((w2.setCell ⟨g0, o0, none⟩ v0).setCell ⟨g0, o1, none⟩ v1).setCell ⟨g0, o2, none⟩ v2).setCell ⟨g0, o3, none⟩ v3).setCell ⟨g0, o4, none⟩ v4).heap.size = w2.heap.size := by simp
  generalize ((((w2.setCell ⟨g0, o0, none⟩ v0).setCell ⟨g0, o1, none⟩ v1).setCell ⟨g0, o2, none⟩ v2).setCell ⟨g0, o3, none⟩ v3).setCell ⟨g0, o4, none⟩ v4 = W at *
  have hc : ∀ a, (W.alloc (.cells #[b0, b1, b2, b3, b4] 135)).drew.cell? a = (W.alloc (.cells #[b0, b1, b2, b3, b4] 135)).cell? a := fun _ => rfl
  rw [← hs]
  refine ⟨?_, ?_, ?_, ?_, ?_, ?_⟩ <;> rw [hc]
  · rw [World.cell?_alloc_lt _ _ _ (by exact block_lt_of_cell hk)]; exact hk
  all_goals simp

def RefPut (w : World) (br : Nat) (cf : Cf) (la : Option Addr) (lc : Nat) (L : List Ent) (id t0 t1 draw : Int) (xs : List Int) (w' : World) : Prop :=
  ∃ g gc la' lc', w.heap.size ≤ g ∧ (∀ mb mc, RefAt w' br cf la' lc' (insE ⟨id, xs, t0, t1, draw, mb, mc, g, gc⟩ L)) ∧
    Kept (fun k => k = br ∨ (Value.slice la L.length lc).ownBlock = some k) w w' ∧ ∀ n b, (Value.slice la' n lc').ownBlock = some b → (Value.slice la L.length lc).ownBlock = some b ∨ w.heap.size ≤ b

theorem setCell_chain {w : World} {g0 b : Nat} (hne : b ≠ g0) (o0 o1 o2 o3 o4 : Nat) (v0 v1 v2 v3 v4 : Value) :
    (((((w.setCell ⟨g0, o0, none⟩ v0).setCell ⟨g0, o1, none⟩ v1).setCell ⟨g0, o2, none⟩ v2).setCell ⟨g0, o3, none⟩ v3).setCell ⟨g0, o4, none⟩ v4).heap[b]? = w.heap[b]? := by
  rw [Below.heap_setCell _ _ _ _ hne, Below.heap_setCell _ _ _ _ hne, Below.heap_setCell _ _ _ _ hne, Below.heap_setCell _ _ _ _ hne, Below.heap_setCell _ _ _ _ hne]

theorem put36_set {w w2 : World} {br g0 lc k g gc : Nat} {cf : Cf} {id t0 t1 draw : Int} {L : List Ent} {xs : List Int} {e : Ent} (h : RefAt w br cf (some ⟨g0, 0, none⟩) lc L) (hb : Below w.heap.size w w2) (hk : k < L.length) (hkk : posE id L = k) (he : findE id L = some e) (hp : Pts w2 g gc xs) (hg : w.heap.size ≤ g) (B : Obj) :
    RefPut w br cf (some ⟨g0, 0, none⟩) lc L id t0 t1 draw xs ((((((w2.setCell ⟨g0, k * 5, none⟩ (.int .i64 id)).setCell ⟨g0, k * 5 + 1, none⟩ (.slice (some ⟨g, 0, none⟩) xs.length gc)).setCell ⟨g0, k * 5 + 2, none⟩ (.int .i64 t0)).setCell ⟨g0, k * 5 + 3, none⟩ (.int .i64 t1)).setCell ⟨g0, k * 5 + 4, none⟩ (.int .u64 draw)).alloc B).drew := by
  have h2 := h.below hb
  obtain ⟨cs, hc⟩ := h2.typ
  obtain ⟨cg, hcg⟩ := ownsRow_obj h2.row (g := g0) rfl
  have hne : g0 ≠ br := ne_of_elem hcg hc (by decide)
  refine ⟨g, gc, some ⟨g0, 0, none⟩, lc, hg, fun mb mc => ?_, ?_, fun _ _ e => .inl e⟩
  · refine RefAt.below (w := ((((w2.setCell ⟨g0, k * 5, none⟩ (.int .i64 id)).setCell ⟨g0, k * 5 + 1, none⟩ (.slice (some ⟨g, 0, none⟩) xs.length gc)).setCell ⟨g0, k * 5 + 2, none⟩ (.int .i64 t0)).setCell ⟨g0, k * 5 + 3, none⟩ (.int .i64 t1)).setCell ⟨g0, k * 5 + 4, none⟩ (.int .u64 draw)) ?_ (((Below.refl _ _).alloc (Nat.le_refl _) B).drew)
    have hins := insE_set (x := ⟨id, xs, t0, t1, draw, mb, mc, g, gc⟩) h.rising he
    rw [show posE (Ent.mk id xs t0 t1 draw mb mc g gc).id L = k from hkk] at hins
    rw [hins]
    have hrow := ownsRow_set (ownsRow_set (ownsRow_set (ownsRow_set (ownsRow_set h2.row (k * 5) (.int .i64 id)) (k * 5 + 1) (.slice (some ⟨g, 0, none⟩) xs.length gc)) (k * 5 + 2) (.int .i64 t0)) (k * 5 + 3) (.int .i64 t1)) (k * 5 + 4) (.int .u64 draw)
    rw [rcells_set ⟨id, xs, t0, t1, draw, mb, mc, g, gc⟩ L k hk] at hrow
    refine ⟨⟨cs, (setCell_chain hne.symm _ _ _ _ _ _ _ _ _ _).trans hc⟩, keep5 h2.r0 hne _ _ _ _ _ _ _ _ _ _, keep5 h2.r1 hne _ _ _ _ _ _ _ _ _ _, keep5 h2.r2 hne _ _ _ _ _ _ _ _ _ _, keep5 h2.r3 hne _ _ _ _ _ _ _ _ _ _, keep5 h2.r5 hne _ _ _ _ _ _ _ _ _ _, ?_, ?_, ?_, ?_, ?_⟩
    · rw [List.length_set]; exact keep5 h2.r6 hne _ _ _ _ _ _ _ _ _ _
    · rw [List.length_set]; exact hrow
    · intro y hy
      have hpy : Pts w2 y.rb y.rc y.pt := by
        rcases List.mem_or_eq_of_mem_set hy with hy | rfl
        · exact h2.pts y hy
        · exact hp
      refine ownsRow_of_block hpy fun b hv => setCell_chain ?_ _ _ _ _ _ _ _ _ _ _
      obtain ⟨cb, hcb⟩ := ownsRow_obj hpy hv
      exact ne_of_elem hcb hcg (by decide)
    · rw [← hins]; exact rising_insE _ h.rising
    · rw [List.length_set]; exact h.small
  · refine Kept.drew (Kept.alloc ?_ B)
    repeat (refine Kept.setCell ?_ (fun _ => .inr rfl) _)
    exact Kept.of_below _ hb

set_option maxHeartbeats 1000000 in
set_option maxRecDepth 20000 in
theorem put36_there (br : Nat) (cf : Cf) (la : Option Addr) (lc : Nat) (L : List Ent) (id t0 t1 draw : Int) (xs : List Int) (b off pc : Nat) (w : World) (h : RefAt w br cf la lc L) (hr : ptCode cf.dim xs = 0) (hvl : ∀ o, IntsAt (w.alloc o) (.slice (some ⟨b, off, none⟩) xs.length pc) xs) (e : Ent)
    (he : findE id L = some e) (h0 : 0 < xs.length) (h8 : xs.length ≤ 8) (hc : ∀ i, i < xs.length → w.cell? ⟨b, off + i, none⟩ = some (.int .i64 (xs.getD i 0))) :
    Calls Tryz.prog 71 #[.pointer (some ⟨br, 0, none⟩), .int .i64 id, .slice (some ⟨b, off, none⟩) xs.length pc, .agg #[.int .i64 t0, .int .i64 t1], .int .u64 draw] w fun ev w' => ev = .returned (.int .i64 0) ∧ RefPut w br cf la lc L id t0 t1 draw xs w' := by
  have HR := hide hr
  have HE : Hid ((findE id L).isSome = true) := by rw [he]; rfl
  obtain ⟨hk, hke⟩ := pos_found h.rising he
  have HFE := hide he
  obtain ⟨g0, rfl⟩ := h.addr (by omega)
  obtain ⟨i3, hi3, hz30, hz31, hz32⟩ := info_parts info3
  have r1 := h.r1
  have r6 := h.r6
  have hbr := h.lt
  have hbb := block_lt_of_cell (hc 0 h0)
  have HC := hide hc
  have H := hide h
  clear hr he hc hke
  go_enter Tryz.func71, Tryz.ntmps71
  go_wp2_with fail
  refine (point59_any xs _ cf.dim br _ (hvl _) (h.alloc _).r0).mono ?_
  rintro ev w1 ⟨rfl, rfl⟩
  rw [HR.out]
  go_wp2_with fail
  refine (find38_any br cf _ lc L id _ (h.alloc _)).mono ?_
  rintro ev w1 ⟨rfl, np, rfl⟩
  rw [HE.out]
  clear h
  generalize hkk : posE id L = k at *
  have HKK := hide hkk
  clear hkk
  go_wp2
  go_quiet (fail)
  have HN := hide (put36_src (T := .cells #[.int .i64 t0, .int .i64 t1] 43) (np := np) (nq := nq) HC.out hbb)
  go_upto_region 9 with (at_builtin; go_must (refine wpList_append_lies _ rfl _ _ 32 rfl 0 3 i3 (.int .i64 0) 1 8 Tryz.underlying32 hi3 hz30 hz31 hz32 rfl (by decide) (.slice none 0 0) 0 [] rfl (World.ownsRow_nil _ _ _ _) ⟨b, off, none⟩ xs.length pc (vals xs) rfl (by simp [vals]) HN.out (vals_one xs) h0 (small_len _ (by omega)) (small_bytes8 _ (by omega)) (Nat.zero_le _) (w.heap.size + 1) (by simp) ?_); intro g gc w2 ho hg hl hlt; obtain ⟨hp, hb2, hbT, rfl⟩ := put36_own ho hg hl; have HP := hide hp; have HB2 := hide hb2; have u0 : w2.cell? ⟨w.heap.size, 0, none⟩ = some (.int .i64 t0) := Below.at hbT (by simp) (by simp); have u1 : w2.cell? ⟨w.heap.size, 1, none⟩ = some (.int .i64 t1) := Below.at hbT (by simp) (by simp); have hzw : w.heap.size < w2.heap.size := (by have := hbT.size; simp at this; omega); clear hp hbT ho hg hl)
  have H2 := hide (H.out.below HB2.out)
  have s6 : w2.cell? ⟨br, 6, none⟩ = some (.slice (some ⟨g0, 0, none⟩) L.length lc) := H2.out.r6
  have hbr2 : br < w2.heap.size := H2.out.lt
  have hbg : g0 < w2.heap.size := (H2.out.row.lt g0 rfl).2
  have hne : g0 ≠ br := by
    obtain ⟨c1, h1⟩ := H2.out.typ
    obtain ⟨c2, h2⟩ := ownsRow_obj H2.out.row (g := g0) rfl
    exact ne_of_elem h2 h1 (by decide)
  obtain ⟨z0, q0⟩ : ∃ z, w2.cell? ⟨g0, k * 5, none⟩ = some z := ⟨_, ref_cell H2.out.row hk (j := 0) (by omega) rfl⟩
  obtain ⟨z1, q1⟩ : ∃ z, w2.cell? ⟨g0, k * 5 + 1, none⟩ = some z := ⟨_, ref_cell H2.out.row hk (j := 1) (by omega) rfl⟩
  obtain ⟨z2, q2⟩ : ∃ z, w2.cell? ⟨g0, k * 5 + 2, none⟩ = some z := ⟨_, ref_cell H2.out.row hk (j := 2) (by omega) rfl⟩
  obtain ⟨z3, q3⟩ : ∃ z, w2.cell? ⟨g0, k * 5 + 3, none⟩ = some z := ⟨_, ref_cell H2.out.row hk (j := 3) (by omega) rfl⟩
  obtain ⟨z4, q4⟩ : ∃ z, w2.cell? ⟨g0, k * 5 + 4, none⟩ = some z := ⟨_, ref_cell H2.out.row hk (j := 4) (by omega) rfl⟩
  have fq : ∀ o, w2.frozen? ⟨g0, o, none⟩ = false := fun o => ownsRow_frozen H2.out.row o
  clear r1 r6 hvl HC
  have hne2 : g0 ≠ w2.heap.size := by omega
  go_wp2
  go_region_held3 (fun wx => wx.cell? ⟨br, 6, none⟩ = some (.slice (some ⟨g0, 0, none⟩) L.length lc) ∧ wx.cell? ⟨w2.heap.size, 0, none⟩ = some (.int .i64 id) ∧ wx.cell? ⟨w2.heap.size, 1, none⟩ = some (.slice (some ⟨w.heap.size + 1, 0, none⟩) xs.length gc) ∧ wx.cell? ⟨w2.heap.size, 2, none⟩ = some (.int .i64 t0) ∧ wx.cell? ⟨w2.heap.size, 3, none⟩ = some (.int .i64 t1) ∧ wx.cell? ⟨w2.heap.size, 4, none⟩ = some (.int .u64 draw))
    (first | (refine ⟨?_, ?_, ?_, ?_, ?_, ?_⟩ <;> (simp [World.cell?_alloc_past, hbr2, s6]; done)) | (exact put36_S s6 hne _ _ _ _ _ _ _ _ _ _ _ _ _ _ _))
    (fail)
  go_wp2
  go_ret
  exact ⟨rfl, put36_set H.out HB2.out hk HKK.out HFE.out HP.out (by omega) _⟩
end Go.Proofs.YtpkiefjanmfgfaaGreatDoor
namespace Go.Proofs.YtpkiefjanmfgfaaGreatDoor
open Go.RowKit

theorem row_cap {w : World} {base e size n c : Nat} {a : Option Addr} {xs : List Value} (h : w.ownsRow base e size (.slice a n c) n xs) : n ≤ c := by
  rcases h.2 with ⟨hv, hn⟩ | ⟨g, cap, cur, hv, _, _, hc, _⟩
  · omega
  · simp only [Value.slice.injEq] at hv
    omega
theorem src_take {w : World} {la : Option Addr} {n lc k : Nat} {L : List Ent} (h : w.ownsRow 0 135 5 (.slice la n lc) n (rcells L)) (hk : k ≤ L.length) : ∀ o, 0 < k → ∃ a, la = some a ∧ ∀ j u, (rcells (L.take k))[j]? = some u → (w.alloc o).cell? (a.add j) = some u := by
  intro o h0
  rcases h.2 with ⟨hv, hn⟩ | ⟨g, cap, cur, hv, _⟩
  · have := h.1
    rw [rcells_length] at this
    omega
  · simp only [Value.slice.injEq] at hv
    obtain ⟨rfl, _, rfl⟩ := hv
    refine ⟨_, rfl, fun j u hj => ?_⟩
    rw [addr_add, Nat.zero_add, World.cell?_alloc_lt _ _ _ (by exact (h.lt g rfl).2)]
    exact ownsRow_cell h (rcells_take L k hk hj)

theorem cell_five (w : World) (b0 b1 b2 b3 b4 : Value) : ∀ j u, [b0, b1, b2, b3, b4][j]? = some u → (w.alloc (.cells #[b0, b1, b2, b3, b4] 135)).cell? ((⟨w.heap.size, 0, none⟩ : Addr).add j) = some u := by
  intro j u hj
  rw [addr_add, Nat.zero_add, World.cell?_alloc_new]
  simpa using hj
theorem one_five (id : Int) (v : Value) (t0 t1 draw : Int) (h : v.oneCell' = true := by rfl) : ∀ u ∈ [Value.int .i64 id, v, Value.int .i64 t0, Value.int .i64 t1, Value.int .u64 draw], u.oneCell' = true := by
  intro u hu
  simp at hu
  rcases hu with rfl | rfl | rfl | rfl | rfl
  · rfl
  · exact h
  all_goals rfl
theorem new_first {w2 w3 : World} {b0 b1 b2 b3 b4 : Value} (hg : (w2.alloc (.cells #[b0, b1, b2, b3, b4] 135)).grownBy w3 (Value.slice none 0 0).ownBlock) :
    Below w2.heap.size w2 w3 ∧ w3.cell? ⟨w2.heap.size, 0, none⟩ = some b0 ∧ w3.cell? ⟨w2.heap.size, 1, none⟩ = some b1 ∧ w3.cell? ⟨w2.heap.size, 2, none⟩ = some b2 ∧ w3.cell? ⟨w2.heap.size, 3, none⟩ = some b3 ∧ w3.cell? ⟨w2.heap.size, 4, none⟩ = some b4 :=
  ⟨((Below.refl _ _).alloc (Nat.le_refl _) _).grown hg (by simp) (fun k e => by cases e), hg.cell (by simp) (by intro e; cases e), hg.cell (by simp) (by intro e; cases e), hg.cell (by simp) (by intro e; cases e), hg.cell (by simp) (by intro e; cases e), hg.cell (by simp) (by intro e; cases e)⟩
theorem new_second {w2 w3 w4 : World} {a1 : Option Addr} {k c1 g2 H : Nat} {o : Obj} (hz : w2.heap.size < w3.heap.size) (hl1 : (Value.slice a1 k c1).ownBlock = (Value.slice none 0 0).ownBlock ∨ (Value.slice a1 k c1).ownBlock = some H) (hH : w2.heap.size ≤ H) (hg : (w3.alloc o).grownBy w4 (Value.slice a1 k c1).ownBlock)
    (hl2 : (Value.slice a1 k c1).ownBlock = some g2 ∨ g2 = w3.heap.size + 1) : Below w2.heap.size w3 w4 ∧ w2.heap.size ≤ g2 := by
  have h1 : ∀ g, (Value.slice a1 k c1).ownBlock = some g → w2.heap.size ≤ g := by
    intro g e
    rcases hl1 with h | h
    · rw [e] at h; cases h
    · rw [e] at h; have := Option.some.inj h; omega
  refine ⟨((Below.refl _ _).alloc (by omega) _).grown hg (by simp; omega) h1, ?_⟩
  rcases hl2 with h | h
  · exact h1 _ h
  · omega

theorem src_drop {w : World} {la : Option Addr} {n lc k : Nat} {L : List Ent} (h : w.ownsRow 0 135 5 (.slice la n lc) n (rcells L)) (hk : k ≤ L.length) (h0 : 0 < L.length - k) : ∃ g, la = some ⟨g, 0, none⟩ ∧ ∀ j u, (rcells (L.drop k))[j]? = some u → w.cell? (((⟨g, 0, none⟩ : Addr).add (k * 5)).add j) = some u := by
  rcases h.2 with ⟨hv, hn⟩ | ⟨g, cap, cur, hv, _⟩
  · have := h.1
    rw [rcells_length] at this
    omega
  · simp only [Value.slice.injEq] at hv
    obtain ⟨rfl, _, rfl⟩ := hv
    refine ⟨g, rfl, fun j u hj => ?_⟩
    rw [addr_add, addr_add, Nat.zero_add]
    exact ownsRow_cell h (rcells_drop L k hk hj)

theorem put_fin {w w2 w4 w5 : World} {br k g2 gc c2 c3 lc mb mc : Nat} {cf : Cf} {id t0 t1 draw : Int} {la a3 : Option Addr} {L : List Ent} {xs : List Int} (h : RefAt w br cf la lc L) (hb2 : Below w.heap.size w w2) (hb24 : Below w2.heap.size w2 w4) (hp : Pts w2 (w.heap.size + 1) gc xs) (hg2 : w2.heap.size ≤ g2) (hcap : L.length < 60)
    (hk : k ≤ L.length) (hkk : posE id L = k) (he : findE id L = none)
    (ho : w5.ownsRow 0 135 5 (.slice a3 (k + 1 + (L.length - k)) c3) (k + 1 + (L.length - k)) (rcells (L.take k) ++ [.int .i64 id, .slice (some ⟨w.heap.size + 1, 0, none⟩) xs.length gc, .int .i64 t0, .int .i64 t1, .int .u64 draw] ++ rcells (L.drop k)))
    (hg : w4.grownBy w5 (Value.slice (some ⟨g2, 0, none⟩) (k + 1) c2).ownBlock) (hl : (Value.slice a3 (k + 1 + (L.length - k)) c3).ownBlock = (Value.slice (some ⟨g2, 0, none⟩) (k + 1) c2).ownBlock ∨ (Value.slice a3 (k + 1 + (L.length - k)) c3).ownBlock = some w4.heap.size) (hz : w.heap.size < w2.heap.size) (_hm : mb = mc) :
    w5.cell? ⟨br, 6, none⟩ = some (.slice la L.length lc) ∧ w5.frozen? ⟨br, 6, none⟩ = false ∧ RefPut w br cf la lc L id t0 t1 draw xs (w5.setCell ⟨br, 6, none⟩ (.slice a3 (k + 1 + (L.length - k)) c3)) := by
  have hb4 : Below w.heap.size w w4 := hb2.trans (hb24.mono hb2.size)
  have hrow : ∀ g, (Value.slice (some ⟨g2, 0, none⟩) (k + 1) c2).ownBlock = some g → w2.heap.size ≤ g := by
    intro g e
    have : g2 = g := by simpa [Value.ownBlock] using e
    omega
  have hnew : ∀ g, (Value.slice a3 (k + 1 + (L.length - k)) c3).ownBlock = some g → w.heap.size ≤ g := by
    intro g e
    rcases hl with h | h
    · have := hrow g (h ▸ e); omega
    · rw [e] at h; have := Option.some.inj h; have := hb4.size; omega
  have hb25 : Below w2.heap.size w2 w5 := hb24.grown hg hb24.size hrow
  have hp5 : Pts w5 (w.heap.size + 1) gc xs := ownsRow_below hp hb25
  have key : ∀ mb mc, _ := fun mb mc => ref_new (M := insE ⟨id, xs, t0, t1, draw, mb, mc, w.heap.size + 1, gc⟩ L) h hb4 (n2 := k + 1 + (L.length - k)) (a2 := a3) (c2 := c3) (w3 := w5)
    (by rw [length_insE_none _ (by exact he)]; omega) (fun g e => by have := hrow g e; omega)
    (by
      rw [insE_new h.rising (by exact he)]
      rw [show posE (Ent.mk id xs t0 t1 draw mb mc (w.heap.size + 1) gc).id L = k from hkk, rcells_append, rcells_cons]
      simpa [rcell] using ho) hg hnew
    (by
      intro e he'
      rcases mem_insE he' with rfl | he'
      · exact hp5
      · exact ownsRow_below ((h.below hb2).pts e he') hb25) (rising_insE _ h.rising) (by rw [length_insE_none _ (by exact he)]; omega)
  obtain ⟨_, hk0, h6, hf, _⟩ := key 0 0
  refine ⟨h6, hf, w.heap.size + 1, gc, a3, c3, by omega, fun mb mc => (key mb mc).2.2.2.2, hk0.mono (fun k _ hk => .inl hk), fun n b e => .inr (hnew b (by cases a3 <;> exact e))⟩

set_option maxHeartbeats 1000000 in
set_option maxRecDepth 20000 in
theorem put36_new (br : Nat) (cf : Cf) (la : Option Addr) (lc : Nat) (L : List Ent) (id t0 t1 draw : Int) (xs : List Int) (b off pc : Nat) (w : World) (h : RefAt w br cf la lc L) (hr : ptCode cf.dim xs = 0) (hvl : ∀ o, IntsAt (w.alloc o) (.slice (some ⟨b, off, none⟩) xs.length pc) xs)
    (he : findE id L = none) (hroom : ¬ cf.cap ≤ L.length) (h60 : cf.cap ≤ 60) (h0 : 0 < xs.length) (h8 : xs.length ≤ 8) (hc : ∀ i, i < xs.length → w.cell? ⟨b, off + i, none⟩ = some (.int .i64 (xs.getD i 0))) :
    Calls Tryz.prog 71 #[.pointer (some ⟨br, 0, none⟩), .int .i64 id, .slice (some ⟨b, off, none⟩) xs.length pc, .agg #[.int .i64 t0, .int .i64 t1], .int .u64 draw] w fun ev w' => ev = .returned (.int .i64 0) ∧ RefPut w br cf la lc L id t0 t1 draw xs w' := by
  have HR := hide hr
  have HE : Hid ((findE id L).isSome = false) := by rw [he]; rfl
  have hk := posE_le id L
  have hd : decide (cf.cap ≤ (L.length : Int)) = false := by simpa using hroom
  have hlt60 : L.length < 60 := by omega
  have HFE := hide he
  obtain ⟨i90, hi, hz0, hz1, hz2⟩ := info_parts info90
  have hsm := h.small
  have hcap := row_cap h.row
  obtain ⟨i3, hi3, hz30, hz31, hz32⟩ := info_parts info3
  have r1 := h.r1
  have r6 := h.r6
  have hbr := h.lt
  have hbb := block_lt_of_cell (hc 0 h0)
  have HC := hide hc
  have H := hide h
  clear hr he hc hroom
  go_enter Tryz.func71, Tryz.ntmps71
  go_wp2_with fail
  refine (point59_any xs _ cf.dim br _ (hvl _) (h.alloc _).r0).mono ?_
  rintro ev w1 ⟨rfl, rfl⟩
  rw [HR.out]
  go_wp2_with fail
  refine (find38_any br cf _ lc L id _ (h.alloc _)).mono ?_
  rintro ev w1 ⟨rfl, np, rfl⟩
  rw [HE.out]
  clear h
  generalize hkk : posE id L = k at *
  have HKK := hide hkk
  clear hkk
  go_wp2
  go_quiet (fail)
  have HN := hide (put36_src (T := .cells #[.int .i64 t0, .int .i64 t1] 43) (np := np) (nq := nq) HC.out hbb)
  go_upto_region 9 with (at_builtin; go_must (refine wpList_append_lies _ rfl _ _ 32 rfl 0 3 i3 (.int .i64 0) 1 8 Tryz.underlying32 hi3 hz30 hz31 hz32 rfl (by decide) (.slice none 0 0) 0 [] rfl (World.ownsRow_nil _ _ _ _) ⟨b, off, none⟩ xs.length pc (vals xs) rfl (by simp [vals]) HN.out (vals_one xs) h0 (small_len _ (by omega)) (small_bytes8 _ (by omega)) (Nat.zero_le _) (w.heap.size + 1) (by simp) ?_); intro g gc w2 ho hg hl hlt; obtain ⟨hp, hb2, hbT, rfl⟩ := put36_own ho hg hl; have HP := hide hp; have HB2 := hide hb2; have u0 : w2.cell? ⟨w.heap.size, 0, none⟩ = some (.int .i64 t0) := Below.at hbT (by simp) (by simp); have u1 : w2.cell? ⟨w.heap.size, 1, none⟩ = some (.int .i64 t1) := Below.at hbT (by simp) (by simp); have hzw : w.heap.size < w2.heap.size := (by have := hbT.size; simp at this; omega); clear hp hbT ho hg hl)
  have H2 := hide (H.out.below HB2.out)
  have s6 : w2.cell? ⟨br, 6, none⟩ = some (.slice la L.length lc) := H2.out.r6
  have hbr2 : br < w2.heap.size := H2.out.lt
  clear r1 r6 hvl HC
  have X1 := hide (src_take H2.out.row hk)
  go_upto_region 15 with (at_builtin; go_must (refine wpList_append_any _ rfl _ _ 90 rfl 0 135 i90 (.agg #[.int .i64 0, .slice none 0 0, .int .i64 0, .int .i64 0, .int .u64 0]) 5 56 Tryz.underlying90 hi hz0 hz1 hz2 rfl (by decide) (.slice none 0 0) 0 [] rfl (World.ownsRow_nil _ _ _ _) la k _ (rcells (L.take k)) rfl (rcells_take_len L k hk) (X1.out _) (rcells_one _) (small_len _ (by omega)) (small_bytes _ (by omega)) (Nat.zero_le _) ?_); go_must (intro v1 w3 ho1 hg1 hl1; rw [Nat.zero_add, List.nil_append] at ho1; obtain ⟨a1, c1, rfl⟩ := row_form ho1; obtain ⟨hb3, k0, k1, k2, k3, k4⟩ := new_first hg1; have hb3w := HB2.out.trans (hb3.mono (Nat.le_of_lt hzw)); have y6 := Below.at hb3 s6 hbr2; have HO1 := hide ho1; have HL1 := hide hl1; have HB3 := hide hb3; have HB3W := hide hb3w; have hz3 : w2.heap.size < w3.heap.size := block_lt_of_cell k0; clear ho1 hg1 hl1 hb3 hb3w))
  go_upto_region 16 with (at_builtin; go_must (refine wpList_append_lies _ rfl _ _ 90 rfl 0 135 i90 (.agg #[.int .i64 0, .slice none 0 0, .int .i64 0, .int .i64 0, .int .u64 0]) 5 56 Tryz.underlying90 hi hz0 hz1 hz2 rfl (by decide) (.slice a1 k c1) k (rcells (L.take k)) rfl (HO1.out.alloc _) ⟨w3.heap.size, 0, none⟩ 1 1 [.int .i64 id, .slice (some ⟨w.heap.size + 1, 0, none⟩) xs.length gc, .int .i64 t0, .int .i64 t1, .int .u64 draw] rfl rfl (cell_five _ _ _ _ _ _) (one_five _ _ _ _ _) (by decide) (small_len _ (by omega)) (small_bytes _ (by omega)) (Nat.zero_le _) (w3.heap.size + 1) (by simp) ?_); go_must (intro g2 c2 w4 ho2 hg2 hl2 hlt2; obtain ⟨hb4, hg2z⟩ := new_second hz3 HL1.out (by simp) hg2 hl2; have y62 := Below.at hb4 y6 hbr2; have HO2 := hide ho2; have HB4 := hide hb4; have HG2 := hide hg2z; have hz4 : w3.heap.size ≤ w4.heap.size := hb4.size; clear ho2 hg2 hl2 hb4 hg2z))
  have HB24 := hide (HB3.out.trans HB4.out)
  go_wp2_with (at_builtin; go_must (refine wpList_append_any _ rfl _ _ 90 rfl 0 135 i90 (.agg #[.int .i64 0, .slice none 0 0, .int .i64 0, .int .i64 0, .int .u64 0]) 5 56 Tryz.underlying90 hi hz0 hz1 hz2 rfl (by decide) (.slice (some ⟨g2, 0, none⟩) (k + 1) c2) (k + 1) _ rfl HO2.out _ (L.length - k) _ (rcells (L.drop k)) rfl (rcells_drop_len L k) ?_ (rcells_one _) (small_len _ (by omega)) (small_bytes _ (by omega)) (Nat.zero_le _) ?_); go_must ((intro hp; obtain ⟨g0, hg0, hsrc⟩ := src_drop (ownsRow_below H2.out.row HB24.out) hk hp; rw [if_neg (by omega), hg0]; exact ⟨_, rfl, hsrc⟩)); go_must (intro v3 w5 ho3 hg3 hl3; obtain ⟨a3, c3, rfl⟩ := row_form ho3; obtain ⟨z6, z6f, hfin⟩ := put_fin (mb := 0) (mc := 0) H.out HB2.out HB24.out HP.out HG2.out (by omega) hk HKK.out HFE.out ho3 hg3 hl3 hzw (by omega); have HF := hide hfin; clear hfin ho3 hg3 hl3))
  all_goals go_ret
  all_goals (refine ⟨rfl, ?_⟩; first | exact HF.out | (subst_vars; exact HF.out))

theorem put36_ok (br : Nat) (cf : Cf) (la : Option Addr) (lc : Nat) (L : List Ent) (id t0 t1 draw : Int) (xs : List Int) (b off pc : Nat) (w : World) (h : RefAt w br cf la lc L) (hr : ptCode cf.dim xs = 0) (hvl : ∀ o, IntsAt (w.alloc o) (.slice (some ⟨b, off, none⟩) xs.length pc) xs)
    (hroom : (findE id L).isSome = true ∨ ¬ cf.cap ≤ L.length) (h60 : cf.cap ≤ 60) (h0 : 0 < xs.length) (h8 : xs.length ≤ 8) (hc : ∀ i, i < xs.length → w.cell? ⟨b, off + i, none⟩ = some (.int .i64 (xs.getD i 0))) :
    Calls Tryz.prog 71 #[.pointer (some ⟨br, 0, none⟩), .int .i64 id, .slice (some ⟨b, off, none⟩) xs.length pc, .agg #[.int .i64 t0, .int .i64 t1], .int .u64 draw] w fun ev w' => ev = .returned (.int .i64 0) ∧ RefPut w br cf la lc L id t0 t1 draw xs w' := by
  cases he : findE id L with
  | some e => exact put36_there br cf la lc L id t0 t1 draw xs b off pc w h hr hvl e he h0 h8 hc
  | none =>
    rcases hroom with hx | hx
    · rw [he] at hx; cases hx
    · exact put36_new br cf la lc L id t0 t1 draw xs b off pc w h hr hvl he hx h60 h0 h8 hc
end Go.Proofs.YtpkiefjanmfgfaaGreatDoor
namespace Go.Proofs.YtpkiefjanmfgfaaGreatDoor
open Go.RowKit Go.Maps

theorem IntsAt.below {w w' : World} {v : Value} {xs : List Int} (h : IntsAt w v xs) (hb : Below w.heap.size w w') : IntsAt w' v xs := by
  obtain ⟨a, cap, rfl, h1, h2, h3⟩ := h
  refine ⟨a, cap, rfl, h1, h2, ?_⟩
  rcases h3 with h3 | ⟨b, off, rfl, hc⟩
  · exact .inl h3
  · exact .inr ⟨b, off, rfl, fun i hi => Below.at hb (hc i hi) (block_lt_of_cell (hc i hi))⟩
theorem IntsAt.lt {w : World} {v : Value} {xs : List Int} (h : IntsAt w v xs) : ∀ b off n c, v = .slice (some ⟨b, off, none⟩) n c → 0 < xs.length → b < w.heap.size := by
  obtain ⟨a, cap, rfl, h1, h2, h3⟩ := h
  intro b off n c e h0
  rcases h3 with rfl | ⟨b', off', rfl, hc⟩
  · simp at h0
  · simp only [Value.slice.injEq, Option.some.injEq, Addr.mk.injEq] at e
    obtain ⟨⟨rfl, _⟩, _⟩ := e
    exact block_lt_of_cell (hc 0 h0)

theorem RefAt.keptS {S : Nat → Prop} {w w' : World} {br : Nat} {cf : Cf} {la : Option Addr} {lc : Nat} {L : List Ent} (h : RefAt w br cf la lc L) (hk : Kept S w w') (h1 : ¬ S br) (h2 : ∀ g, (Value.slice la L.length lc).ownBlock = some g → ¬ S g) (h3 : ∀ e ∈ L, ¬ S e.rb) : RefAt w' br cf la lc L := by
  obtain ⟨cs, hc⟩ := h.typ
  have hlt := h.lt
  exact ⟨⟨cs, (hk.block br hlt h1).trans hc⟩, hk.cell h.r0 h1, hk.cell h.r1 h1, hk.cell h.r2 h1, hk.cell h.r3 h1, hk.cell h.r5 h1, hk.cell h.r6 h1, ownsRow_kept h.row hk h2, fun e he => ownsRow_kept (h.pts e he) hk fun g hg => by
    obtain rfl : e.rb = g := by simpa [Value.ownBlock] using hg
    exact h3 e he, h.rising, h.small⟩

structure BookAt (w : World) (bp : Nat) (nsv nmv : Value) (nn : Nat) : Prop where
  typ : ∃ cs, w.heap[bp]? = some (.cells cs 41 (0, 0))
  c6 : ∃ b, w.cell? ⟨bp, 6, none⟩ = some (.int .i64 b)
  c7 : ∃ b, w.cell? ⟨bp, 7, none⟩ = some (.int .i64 b)
  c8 : w.cell? ⟨bp, 8, none⟩ = some nsv
  c9 : w.cell? ⟨bp, 9, none⟩ = some nmv
  hs : ∃ xs, w.ownsRow 0 32 1 nsv nn xs
  hm : ∃ xs, w.ownsRow 0 3 1 nmv nn xs
theorem BookAt.lt {w : World} {bp : Nat} {nsv nmv : Value} {nn : Nat} (h : BookAt w bp nsv nmv nn) : bp < w.heap.size := by
  obtain ⟨cs, hc⟩ := h.typ
  exact (Array.getElem?_eq_some_iff.1 hc).1
theorem BookAt.frozen {w : World} {bp : Nat} {nsv nmv : Value} {nn : Nat} (h : BookAt w bp nsv nmv nn) (o : Nat) : w.frozen? ⟨bp, o, none⟩ = false := by
  obtain ⟨cs, hc⟩ := h.typ
  simp [World.frozen?, hc]
theorem BookAt.keptS {S : Nat → Prop} {w w' : World} {bp : Nat} {nsv nmv : Value} {nn : Nat} (h : BookAt w bp nsv nmv nn) (hk : Kept S w w') (h1 : ¬ S bp) (h2 : ∀ g, nsv.ownBlock = some g → ¬ S g) (h3 : ∀ g, nmv.ownBlock = some g → ¬ S g) : BookAt w' bp nsv nmv nn := by
  obtain ⟨cs, hc⟩ := h.typ
  obtain ⟨b6, h6⟩ := h.c6
  obtain ⟨b7, h7⟩ := h.c7
  obtain ⟨xs, hx⟩ := h.hs
  obtain ⟨ys, hy⟩ := h.hm
  exact ⟨⟨cs, (hk.block bp h.lt h1).trans hc⟩, ⟨b6, hk.cell h6 h1⟩, ⟨b7, hk.cell h7 h1⟩, hk.cell h.c8 h1, hk.cell h.c9 h1, ⟨xs, ownsRow_kept hx hk h2⟩, ⟨ys, ownsRow_kept hy hk h3⟩⟩
theorem BookAt.setF {w : World} {bp : Nat} {nsv nmv : Value} {nn : Nat} (h : BookAt w bp nsv nmv nn) {o : Nat} (ho : o < 6) (u : Value) : BookAt (w.setCell ⟨bp, o, none⟩ u) bp nsv nmv nn := by
  obtain ⟨cs, hc⟩ := h.typ
  obtain ⟨b6, h6⟩ := h.c6
  obtain ⟨b7, h7⟩ := h.c7
  obtain ⟨xs, hx⟩ := h.hs
  obtain ⟨ys, hy⟩ := h.hm
  have rs : ∀ {e : Nat} {v : Value} {n : Nat} {l : List Value}, e ≠ 41 → w.ownsRow 0 e 1 v n l → (w.setCell ⟨bp, o, none⟩ u).ownsRow 0 e 1 v n l := fun {e v n l} he hr => ownsRow_of_block hr fun g hv => Below.heap_setCell _ _ _ _ (by
    obtain ⟨c2, h2⟩ := ownsRow_obj hr hv
    exact (ne_of_elem hc h2 (fun e' => he e'.symm)).symm)
  have cl : ∀ {k : Nat} {v : Value}, 6 ≤ k → w.cell? ⟨bp, k, none⟩ = some v → (w.setCell ⟨bp, o, none⟩ u).cell? ⟨bp, k, none⟩ = some v := fun hk hh => by
    rw [World.cell?_setCell_other _ _ _ _ (by simp <;> omega)]; exact hh
  exact ⟨⟨_, heap_setCell_same _ _ _ _ _ _ hc⟩, ⟨b6, cl (by omega) h6⟩, ⟨b7, cl (by omega) h7⟩, cl (by omega) h.c8, cl (by omega) h.c9, ⟨xs, rs (by decide) hx⟩, ⟨ys, rs (by decide) hy⟩⟩

structure XAt (w : World) (bp : Nat) (x : Bks) : Prop where
  c10 : w.cell? ⟨bp, 10, none⟩ = some x.hsv
  c11 : w.cell? ⟨bp, 11, none⟩ = some x.hmv
  c12 : w.cell? ⟨bp, 12, none⟩ = some x.gsv
  c13 : w.cell? ⟨bp, 13, none⟩ = some x.gmv
  c14 : w.cell? ⟨bp, 14, none⟩ = some x.lsv
  c15 : w.cell? ⟨bp, 15, none⟩ = some x.lmv
  hs : ∃ xs, w.ownsRow 0 58 1 x.hsv x.nh xs
  hm : ∃ xs, w.ownsRow 0 3 1 x.hmv x.nh xs
  gs : ∃ xs, w.ownsRow 0 81 1 x.gsv x.ng xs
  gm : ∃ xs, w.ownsRow 0 3 1 x.gmv x.ng xs
  ls : ∃ xs, w.ownsRow 0 31 1 x.lsv x.nl xs
  lm : ∃ xs, w.ownsRow 0 3 1 x.lmv x.nl xs
  dj : (∀ g, x.hmv.ownBlock = some g → x.gmv.ownBlock ≠ some g ∧ x.lmv.ownBlock ≠ some g) ∧ ∀ g, x.gmv.ownBlock = some g → x.lmv.ownBlock ≠ some g
theorem XAt.lt {w : World} {bp : Nat} {x : Bks} (h : XAt w bp x) {k : Nat} (hk : x.own k) : k < w.heap.size := by
  obtain ⟨_, h1⟩ := h.hs
  obtain ⟨_, h2⟩ := h.hm
  obtain ⟨_, h3⟩ := h.gs
  obtain ⟨_, h4⟩ := h.gm
  obtain ⟨_, h5⟩ := h.ls
  obtain ⟨_, h6⟩ := h.lm
  rcases hk with e | e | e | e | e | e
  · exact (h1.lt k e).2
  · exact (h2.lt k e).2
  · exact (h3.lt k e).2
  · exact (h4.lt k e).2
  · exact (h5.lt k e).2
  · exact (h6.lt k e).2
theorem XAt.rows {S : Nat → Prop} {w w' : World} {bp : Nat} {x : Bks} (h : XAt w bp x) (hk : Kept S w w') (h2 : ∀ k, x.own k → ¬ S k) (hc : ∀ o v, 9 < o → w.cell? ⟨bp, o, none⟩ = some v → w'.cell? ⟨bp, o, none⟩ = some v) : XAt w' bp x := by
  obtain ⟨x1, q1⟩ := h.hs
  obtain ⟨x2, q2⟩ := h.hm
  obtain ⟨x3, q3⟩ := h.gs
  obtain ⟨x4, q4⟩ := h.gm
  obtain ⟨x5, q5⟩ := h.ls
  obtain ⟨x6, q6⟩ := h.lm
  exact ⟨hc _ _ (by decide) h.c10, hc _ _ (by decide) h.c11, hc _ _ (by decide) h.c12, hc _ _ (by decide) h.c13, hc _ _ (by decide) h.c14, hc _ _ (by decide) h.c15,
    ⟨x1, ownsRow_kept q1 hk fun g e => h2 g (.inl e)⟩, ⟨x2, ownsRow_kept q2 hk fun g e => h2 g (.inr (.inl e))⟩, ⟨x3, ownsRow_kept q3 hk fun g e => h2 g (.inr (.inr (.inl e)))⟩, ⟨x4, ownsRow_kept q4 hk fun g e => h2 g (.inr (.inr (.inr (.inl e))))⟩, ⟨x5, ownsRow_kept q5 hk fun g e => h2 g (.inr (.inr (.inr (.inr (.inl e)))))⟩, ⟨x6, ownsRow_kept q6 hk fun g e => h2 g (.inr (.inr (.inr (.inr (.inr e)))))⟩, h.dj⟩
theorem XAt.keptS {S : Nat → Prop} {w w' : World} {bp : Nat} {x : Bks} (h : XAt w bp x) (hk : Kept S w w') (h1 : ¬ S bp) (h2 : ∀ k, x.own k → ¬ S k) : XAt w' bp x :=
  h.rows hk h2 fun _ _ _ hv => hk.cell hv h1

structure Apt (W0 : World) (A bp bb bs bm br : Nat) (gn : Net) (la : Option Addr) (lc : Nat) (nsv nmv : Value) (L M : List Ent) : Prop where
  old : W0.heap.size ≤ A
  p : A ≠ bp
  b : A ≠ bb
  s : A ≠ bs
  m : A ≠ bm
  r : A ≠ br
  ns : nsv.ownBlock ≠ some A
  nm : nmv.ownBlock ≠ some A
  l : (Value.slice la M.length lc).ownBlock ≠ some A
  mb : ∀ e ∈ L, A ≠ e.mb
  rb : ∀ e ∈ M, A ≠ e.rb
  f : ¬ gn.F A
structure Apart (W0 : World) (A bp bb bs bm br : Nat) (gn : Net) (la : Option Addr) (lc : Nat) (nsv nmv : Value) (L M : List Ent) : Prop extends Apt W0 A bp bb bs bm br gn la lc nsv nmv L M where
  x : ¬ gn.ex.own A

structure PairAt (W0 w : World) (bp bb bs bm br : Nat) (cf : Cf) (gn : Net) (la : Option Addr) (lc : Nat) (nsv nmv : Value) (nn : Nat) (L M : List Ent) : Prop where
  p0 : w.cell? ⟨bp, 0, none⟩ = some (.pointer (some ⟨bb, 0, none⟩))
  p1 : w.cell? ⟨bp, 1, none⟩ = some (.pointer (some ⟨br, 0, none⟩))
  p2 : w.cell? ⟨bp, 2, none⟩ = some (.int .i64 gn.lows)
  p3 : w.cell? ⟨bp, 3, none⟩ = some (.int .i64 gn.lows)
  p4 : ∃ x : { x : Int // x = gn.lst }, w.cell? ⟨bp, 4, none⟩ = some (.int .i64 x.1)
  p5 : ∃ x : { x : Bool // x = gn.pt }, w.cell? ⟨bp, 5, none⟩ = some (.bool x.1)
  book : BookAt w bp nsv nmv nn
  base : BaseAt w bb bs bm cf gn L
  ref : RefAt w br cf la lc M
  tb : ∃ cs, w.heap[bb]? = some (.cells cs 102 (0, 0))
  ts : ∃ cs, w.heap[bs]? = some (.cells cs 155 (0, 0))
  am : (∀ e ∈ L, nmv.ownBlock ≠ some e.mb) ∧ ∀ e ∈ M, nmv.ownBlock ≠ some e.rb
  old : Below W0.heap.size W0 w
  pos : 0 < W0.heap.size
  lbp : W0.heap.size ≤ bp
  lbb : W0.heap.size ≤ bb
  lbm : W0.heap.size ≤ bm
  lbr : W0.heap.size ≤ br
  lla : ∀ g, (Value.slice la M.length lc).ownBlock = some g → W0.heap.size ≤ g
  lns : ∀ g, nsv.ownBlock = some g → W0.heap.size ≤ g
  lnm : ∀ g, nmv.ownBlock = some g → W0.heap.size ≤ g
  pf : ∀ k, gn.F k → W0.heap.size ≤ k ∧ k ≠ bp ∧ k ≠ br ∧ nsv.ownBlock ≠ some k ∧ nmv.ownBlock ≠ some k ∧ (Value.slice la M.length lc).ownBlock ≠ some k ∧ ∀ e ∈ M, k ≠ e.rb
  x : XAt w bp gn.ex
  xa : ∀ k, gn.ex.own k → Apt W0 k bp bb bs bm br gn la lc nsv nmv L M
  xn : gn.ex.nh ≤ nn ∧ gn.ex.ng ≤ nn ∧ gn.ex.nl ≤ nn

def PutOk (gn : Net) : Prop := gn.pt = true → (∃ t, levOf gn.lev gn.lst = some t) ∧ (1 < gn.lev.length → gn.lk (gn.lst, 0) ≠ [])
def Lk (gn : Net) (nn : Nat) : Prop := gn.lows = gn.looks ∧ 0 ≤ gn.looks ∧ gn.looks ≤ 400 * (nn : Int) ∧ PutOk gn
theorem Lk.mono {gn : Net} {nn nn' : Nat} (h : Lk gn nn) (hn : nn ≤ nn') : Lk gn nn' := ⟨h.1, h.2.1, by have := h.2.2.1; omega, h.2.2.2⟩
theorem Lk.put {gn gn' : Net} {nn : Nat} (h : Lk gn nn) (hl : gn.like gn') {id : Int} (h5 : ∃ t, levOf gn'.lev id = some t) (h6 : 1 < gn'.lev.length → gn'.lk (id, 0) ≠ []) : Lk { gn' with lst := id, pt := true } nn := by
  obtain ⟨l1, _, l3, _⟩ := hl
  obtain ⟨h1, h2, h3, _⟩ := h
  exact ⟨by show gn'.lows = gn'.looks; rw [l3, l1, h1], by show 0 ≤ gn'.looks; rw [l1]; exact h2, by show gn'.looks ≤ _; rw [l1]; exact h3, fun _ => ⟨h5, h6⟩⟩
theorem Lk.gone {gn gn' : Net} {nn : Nat} (h : Lk gn nn) (hl : gn.like gn') : Lk { gn' with pt := false } nn := by
  obtain ⟨l1, _, l3, _⟩ := hl
  obtain ⟨h1, h2, h3, _⟩ := h
  exact ⟨by show gn'.lows = gn'.looks; rw [l3, l1, h1], by show 0 ≤ gn'.looks; rw [l1]; exact h2, by show gn'.looks ≤ _; rw [l1]; exact h3, fun e => by cases e⟩
theorem Net.pt_eq {gn : Net} {b : Bool} (h : b = gn.pt) : ({ gn with pt := b } : Net) = gn := by subst h; rfl

section
variable {W0 w w' : World} {bp bb bs bm br : Nat} {cf : Cf} {gn : Net} {la : Option Addr} {lc : Nat} {nsv nmv : Value} {nn : Nat} {L M : List Ent}

theorem PairAt.below (h : PairAt W0 w bp bb bs bm br cf gn la lc nsv nmv nn L M) (hb : Below w.heap.size w w') : PairAt W0 w' bp bb bs bm br cf gn la lc nsv nmv nn L M := by
  obtain ⟨x4, h4⟩ := h.p4
  obtain ⟨x5, h5⟩ := h.p5
  obtain ⟨cb, hcb⟩ := h.tb
  obtain ⟨cs, hcs⟩ := h.ts
  have hlt := h.book.lt
  exact ⟨Below.at hb h.p0 hlt, Below.at hb h.p1 hlt, Below.at hb h.p2 hlt, Below.at hb h.p3 hlt, ⟨x4, Below.at hb h4 hlt⟩, ⟨x5, Below.at hb h5 hlt⟩, h.book.keptS (Kept.of_below (fun _ => False) hb) id (fun _ _ => id) (fun _ _ => id), h.base.below hb, h.ref.below hb, ⟨cb, (hb.block _ (Array.getElem?_eq_some_iff.1 hcb).1).trans hcb⟩, ⟨cs, (hb.block _ (Array.getElem?_eq_some_iff.1 hcs).1).trans hcs⟩, h.am, h.old.trans (hb.mono h.old.size), h.pos, h.lbp, h.lbb, h.lbm, h.lbr, h.lla, h.lns, h.lnm, h.pf, h.x.keptS (Kept.of_below (fun _ => False) hb) id (fun _ _ => id), h.xa, h.xn⟩
theorem PairAt.alloc (h : PairAt W0 w bp bb bs bm br cf gn la lc nsv nmv nn L M) (o : Obj) : PairAt W0 (w.alloc o) bp bb bs bm br cf gn la lc nsv nmv nn L M := h.below ((Below.refl _ _).alloc (Nat.le_refl _) o)

theorem PairAt.other (h : PairAt W0 w bp bb bs bm br cf gn la lc nsv nmv nn L M) {A : Nat} (hk : Kept (fun k => k = A) w w') (hA : w.heap.size ≤ A) : PairAt W0 w' bp bb bs bm br cf gn la lc nsv nmv nn L M :=
  h.below (hk.toBelow (Nat.le_refl _) (fun k hk => by omega))

theorem PairAt.turned (h : PairAt W0 w bp bb bs bm br cf gn la lc nsv nmv nn L M) (hk : Kept (fun k => k = bm ∨ gn.F k) w w') :
    w'.cell? ⟨bp, 0, none⟩ = some (.pointer (some ⟨bb, 0, none⟩)) ∧ w'.cell? ⟨bp, 1, none⟩ = some (.pointer (some ⟨br, 0, none⟩)) ∧ w'.cell? ⟨bp, 2, none⟩ = some (.int .i64 gn.lows) ∧ w'.cell? ⟨bp, 3, none⟩ = some (.int .i64 gn.lows) ∧ (∃ x : { x : Int // x = gn.lst }, w'.cell? ⟨bp, 4, none⟩ = some (.int .i64 x.1)) ∧ (∃ x : { x : Bool // x = gn.pt }, w'.cell? ⟨bp, 5, none⟩ = some (.bool x.1)) ∧ BookAt w' bp nsv nmv nn ∧ RefAt w' br cf la lc M ∧
      (∃ cs, w'.heap[bb]? = some (.cells cs 102 (0, 0))) ∧ (∃ cs, w'.heap[bs]? = some (.cells cs 155 (0, 0))) ∧ Below W0.heap.size W0 w' ∧ XAt w' bp gn.ex := by
  obtain ⟨x4, h4⟩ := h.p4
  obtain ⟨x5, h5⟩ := h.p5
  obtain ⟨cb, hcb⟩ := h.tb
  obtain ⟨cs, hcs⟩ := h.ts
  have hm := h.base.map
  have hne : ∀ {b : Nat} {c : Array Value} {e : TypeId}, w.heap[b]? = some (.cells c e (0, 0)) → ¬ gn.F b → ¬ (b = bm ∨ gn.F b) := fun hb hf e => e.elim (hm.mb_ne hb) hf
  have f1 : ¬ gn.F bp := fun e => (h.pf _ e).2.1 rfl
  have f2 : ¬ gn.F br := fun e => (h.pf _ e).2.2.1 rfl
  have f3 : ¬ gn.F bb := fun e => (h.base.foot _ e).2.2.1 rfl
  have f4 : ¬ gn.F bs := fun e => (h.base.foot _ e).2.2.2.1 rfl
  obtain ⟨cp, hcp⟩ := h.book.typ
  obtain ⟨cr, hcr⟩ := h.ref.typ
  refine ⟨hk.cell h.p0 (hne hcp f1), hk.cell h.p1 (hne hcp f1), hk.cell h.p2 (hne hcp f1), hk.cell h.p3 (hne hcp f1), ⟨x4, hk.cell h4 (hne hcp f1)⟩, ⟨x5, hk.cell h5 (hne hcp f1)⟩, h.book.keptS hk (hne hcp f1) ?_ ?_, h.ref.keptS hk (hne hcr f2) ?_ ?_, ⟨cb, (hk.block _ (Array.getElem?_eq_some_iff.1 hcb).1 (hne hcb f3)).trans hcb⟩, ⟨cs, (hk.block _ (Array.getElem?_eq_some_iff.1 hcs).1 (hne hcs f4)).trans hcs⟩, h.old.trans (hk.toBelow h.old.size (fun k hk => hk.elim (fun e => by rw [e]; exact h.lbm) (fun e => (h.pf k e).1))), h.x.keptS hk (hne hcp f1) (fun k hx e => e.elim (fun e => (h.xa k hx).m e) (h.xa k hx).f)⟩
  · intro g hg
    obtain ⟨xs, hx⟩ := h.book.hs
    obtain ⟨c, hc⟩ := ownsRow_obj hx hg
    exact hne hc (fun e => (h.pf _ e).2.2.2.1 hg)
  · intro g hg
    obtain ⟨xs, hx⟩ := h.book.hm
    obtain ⟨c, hc⟩ := ownsRow_obj hx hg
    exact hne hc (fun e => (h.pf _ e).2.2.2.2.1 hg)
  · intro g hg
    obtain ⟨c, hc⟩ := ownsRow_obj h.ref.row hg
    exact hne hc (fun e => (h.pf _ e).2.2.2.2.2.1 hg)
  · intro e he
    obtain ⟨c, hc⟩ := (h.ref.pts e he).obj
    exact hne hc (fun f => (h.pf _ f).2.2.2.2.2.2 e he rfl)
end
end Go.Proofs.YtpkiefjanmfgfaaGreatDoor
