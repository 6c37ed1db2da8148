import Derived.ProofKit
import Derived.OpenShut
import Derived.Deep.Slices
import Derived.SizedLaws
import Derived.Carry
import Derived.Test.YtpkiefjanmfgfaaGreatDoorCards
import Derived.Test.YtpkiefjanmfgfaaGreatDoorTie
import Derived.Deep.DeepHandedRow
import Derived.Lib.LaidTab
import Derived.LaidHandle
import Derived.Test.YtpkiefjanmfgfaaGreatDoorSea01
import Derived.Test.YtpkiefjanmfgfaaGreatDoorSea16
namespace Go.Proofs.YtpkiefjanmfgfaaGreatDoor
open Go.RowKit Go.Maps

set_option maxHeartbeats 2000000 in
set_option maxRecDepth 20000 in
theorem step10_delY (W0 w : World) (bp bb bs bm br : Nat) (cf : Cf) (gn : Net) (la : Option Addr) (lc : Nat) (nsv nmv : Value) (nn : Nat) (L : List Ent) (id kk be t0 t1 draw : Int) (pn : Nat) (pa : Option Addr) (pc : Nat) (fa : Option Addr) (fn fc : Nat) (e : Ent)
    (h : PairAt W0 w bp bb bs bm br cf gn la lc nsv nmv nn L L) (hlk : Lk gn nn) (hid : I64 id) (he : findE id L = some e) :
    Calls Tryz.prog 15 #[.pointer (some ⟨bp, 0, none⟩), .agg #[.int .i64 3, .int .i64 id, .int .i64 kk, .int .i64 be, .slice pa pn pc, .int .i64 t0, .int .i64 t1, .int .u64 draw, .slice fa fn fc]] w fun ev w' => ev = .returned (.bool true) ∧ StepOk W0 bp bb bs bm br cf nn w' := by
  have H := hide h
  have HE := hide he
  have HXF : Hid (¬ gn.F w.heap.size) := (h.apart (Nat.le_refl _)).f
  clear h he
  go_enter Tryz.func15, Tryz.ntmps15
  go_upto_region 7 with fail
  obtain ⟨w1, hw1⟩ : ∃ w1, w1 = w.alloc (.cells #[.int .i64 3, .int .i64 id, .int .i64 kk, .int .i64 be, .slice pa pn pc, .int .i64 t0, .int .i64 t1, .int .u64 draw, .slice fa fn fc] 49) := ⟨_, rfl⟩
  have h1 : PairAt W0 w1 bp bb bs bm br cf gn la lc nsv nmv nn L L := hw1 ▸ H.out.alloc _
  have hX1 : w1.heap[w.heap.size]? = some (.cells #[.int .i64 3, .int .i64 id, .int .i64 kk, .int .i64 be, .slice pa pn pc, .int .i64 t0, .int .i64 t1, .int .u64 draw, .slice fa fn fc] 49 (0, 0)) := by rw [hw1]; exact heap_alloc_new w _
  rw [← hw1]
  clear hw1
  have H1 := hide h1
  have HX1 := hide hX1
  have hS1 := opS hX1 h1.p0
  clear h1 hX1
  go_region_held3 (fun wx => wx.cell? ⟨bp, 0, none⟩ = some (.pointer (some ⟨bb, 0, none⟩)) ∧ wx.cell? ⟨w.heap.size, 1, none⟩ = some (.int .i64 id) ∧ wx.cell? ⟨w.heap.size, 4, none⟩ = some (.slice pa pn pc) ∧ wx.cell? ⟨w.heap.size, 5, none⟩ = some (.int .i64 t0) ∧ wx.cell? ⟨w.heap.size, 6, none⟩ = some (.int .i64 t1) ∧ wx.cell? ⟨w.heap.size, 7, none⟩ = some (.int .u64 draw))
    (first | (with_reducible exact hS1) | (with_reducible exact hS2) | (exact hS1))
    (first
      | (go_at_call 24; refine (delete16_yes bb bs bm cf gn id L e _ hid ?_ HE.out).mono ?_; (exact H1.out.base.below (Below.refl _ _).drew); rintro ev2 w2 ⟨rfl, gn', hB2, hk2, hf2, hlk2⟩; obtain ⟨h2, hX2⟩ := del_base H1.out HX1.out hk2 hB2 hf2 HXF.out hlk2; have hS2 := opS hX2 h2.p0))
  have H2 := hide h2
  have HX2 := hide hX2
  have hT1 := opS hX2 h2.p1
  clear h2 hX2 hB2 hk2 hf2 hS1 hS2
  go_upto_region 8 with fail
  go_region_held3 (fun wx => wx.cell? ⟨bp, 1, none⟩ = some (.pointer (some ⟨br, 0, none⟩)) ∧ wx.cell? ⟨w.heap.size, 1, none⟩ = some (.int .i64 id) ∧ wx.cell? ⟨w.heap.size, 4, none⟩ = some (.slice pa pn pc) ∧ wx.cell? ⟨w.heap.size, 5, none⟩ = some (.int .i64 t0) ∧ wx.cell? ⟨w.heap.size, 6, none⟩ = some (.int .i64 t1) ∧ wx.cell? ⟨w.heap.size, 7, none⟩ = some (.int .u64 draw))
    (first | (with_reducible exact hT1) | (with_reducible exact hT2) | (exact hT1))
    (first
      | (go_at_call 37; refine (delete20_yes br cf la lc L id e _ ?_ HE.out).mono ?_; (exact H2.out.ref.below (Below.refl _ _).drew); rintro ev3 w3 ⟨rfl, la3, lc3, hR3, hl3, hk3⟩; obtain ⟨h3, hX3⟩ := del_ref H2.out HX2.out hR3 hl3 hk3; have hT2 := opS hX3 h3.p1))
  have H3 := hide h3
  obtain ⟨y5, hy5⟩ := h3.p5
  have hfz := h3.book.frozen
  clear h3 hX3 hR3 hl3 hk3 hT1 hT2
  cases y5
  · go_wp2
    go_ret
    exact ⟨rfl, _, _, _, _, _, _, _, Nat.le_add_right _ _, H3.out.field (.bool false) (.inr ⟨rfl, _, rfl⟩), hlk.like hlk2⟩
  · go_wp2
    go_ret
    exact ⟨rfl, _, _, _, _, _, _, _, Nat.le_add_right _ _, H3.out.field (.bool false) (.inr ⟨rfl, _, rfl⟩), hlk.like hlk2⟩

set_option maxHeartbeats 2000000 in
set_option maxRecDepth 20000 in
theorem step10_delN (W0 w : World) (bp bb bs bm br : Nat) (cf : Cf) (gn : Net) (la : Option Addr) (lc : Nat) (nsv nmv : Value) (nn : Nat) (L : List Ent) (id kk be t0 t1 draw : Int) (pn : Nat) (pa : Option Addr) (pc : Nat) (fa : Option Addr) (fn fc : Nat)
    (h : PairAt W0 w bp bb bs bm br cf gn la lc nsv nmv nn L L) (hlk : Lk gn nn) (hid : I64 id) (he : findE id L = none) :
    Calls Tryz.prog 15 #[.pointer (some ⟨bp, 0, none⟩), .agg #[.int .i64 3, .int .i64 id, .int .i64 kk, .int .i64 be, .slice pa pn pc, .int .i64 t0, .int .i64 t1, .int .u64 draw, .slice fa fn fc]] w fun ev w' => ev = .returned (.bool true) ∧ StepOk W0 bp bb bs bm br cf nn w' := by
  have H := hide h
  have HE := hide he
  clear h he
  go_enter Tryz.func15, Tryz.ntmps15
  go_upto_region 7 with fail
  obtain ⟨w1, hw1⟩ : ∃ w1, w1 = w.alloc (.cells #[.int .i64 3, .int .i64 id, .int .i64 kk, .int .i64 be, .slice pa pn pc, .int .i64 t0, .int .i64 t1, .int .u64 draw, .slice fa fn fc] 49) := ⟨_, rfl⟩
  have h1 : PairAt W0 w1 bp bb bs bm br cf gn la lc nsv nmv nn L L := hw1 ▸ H.out.alloc _
  have hX1 : w1.heap[w.heap.size]? = some (.cells #[.int .i64 3, .int .i64 id, .int .i64 kk, .int .i64 be, .slice pa pn pc, .int .i64 t0, .int .i64 t1, .int .u64 draw, .slice fa fn fc] 49 (0, 0)) := by rw [hw1]; exact heap_alloc_new w _
  rw [← hw1]
  clear hw1
  have H1 := hide h1
  have HX1 := hide hX1
  have hS1 := opS hX1 h1.p0
  clear h1 hX1
  go_region_held3 (fun wx => wx.cell? ⟨bp, 0, none⟩ = some (.pointer (some ⟨bb, 0, none⟩)) ∧ wx.cell? ⟨w.heap.size, 1, none⟩ = some (.int .i64 id) ∧ wx.cell? ⟨w.heap.size, 4, none⟩ = some (.slice pa pn pc) ∧ wx.cell? ⟨w.heap.size, 5, none⟩ = some (.int .i64 t0) ∧ wx.cell? ⟨w.heap.size, 6, none⟩ = some (.int .i64 t1) ∧ wx.cell? ⟨w.heap.size, 7, none⟩ = some (.int .u64 draw))
    (first | (with_reducible exact hS1) | (with_reducible exact hS2) | (exact hS1))
    (first
      | (go_at_call 24; refine (delete16_no bb bs bm cf gn id L _ hid ?_ HE.out).mono ?_; (exact H1.out.base.below (Below.refl _ _).drew); rintro ev2 w2 ⟨rfl, hb2⟩; have hb2 := Below.undrew hb2; have h2 := H1.out.below hb2; have hX2 := (hb2.block _ (Array.getElem?_eq_some_iff.1 HX1.out).1).trans HX1.out; have hS2 := opS hX2 h2.p0))
  have H2 := hide h2
  have HX2 := hide hX2
  have hT1 := opS hX2 h2.p1
  clear h2 hX2 hb2 hS1 hS2
  go_upto_region 8 with fail
  go_region_held3 (fun wx => wx.cell? ⟨bp, 1, none⟩ = some (.pointer (some ⟨br, 0, none⟩)) ∧ wx.cell? ⟨w.heap.size, 1, none⟩ = some (.int .i64 id) ∧ wx.cell? ⟨w.heap.size, 4, none⟩ = some (.slice pa pn pc) ∧ wx.cell? ⟨w.heap.size, 5, none⟩ = some (.int .i64 t0) ∧ wx.cell? ⟨w.heap.size, 6, none⟩ = some (.int .i64 t1) ∧ wx.cell? ⟨w.heap.size, 7, none⟩ = some (.int .u64 draw))
    (first | (with_reducible exact hT1) | (with_reducible exact hT2) | (exact hT1))
    (first
      | (go_at_call 37; refine (delete20_no br cf la lc L id _ ?_ HE.out).mono ?_; (exact H2.out.ref.below (Below.refl _ _).drew); rintro ev3 w3 ⟨rfl, hb3⟩; have hb3 := Below.undrew hb3; have h3 := H2.out.below hb3; have hX3 := (hb3.block _ (Array.getElem?_eq_some_iff.1 HX2.out).1).trans HX2.out; have hT2 := opS hX3 h3.p1))
  have H3 := hide h3
  obtain ⟨y5, hy5⟩ := h3.p5
  have hfz := h3.book.frozen
  clear h3 hX3 hb3 hT1 hT2
  cases y5
  · go_wp2
    go_ret
    exact ⟨rfl, _, _, _, _, _, _, _, Nat.le_add_right _ _, H3.out.field (.bool false) (.inr ⟨rfl, _, rfl⟩), hlk⟩
  · go_wp2
    go_ret
    exact ⟨rfl, _, _, _, _, _, _, _, Nat.le_add_right _ _, H3.out.field (.bool true) (.inr ⟨rfl, _, rfl⟩), hlk⟩

/-- One step, of the kinds up to 4. -/
theorem step10_any (W0 w : World) (bp bb bs bm br : Nat) (cf : Cf) (gn : Net) (la : Option Addr) (lc : Nat) (nsv nmv : Value) (nn : Nat) (L : List Ent) (kd id kk be t0 t1 draw : Int) (xs : List Int) (pa : Option Addr) (pc : Nat) (fa : Option Addr) (fn fc : Nat)
    (h : PairAt W0 w bp bb bs bm br cf gn la lc nsv nmv nn L L) (hlk : Lk gn nn) (hv : IntsAt W0 (.slice pa xs.length pc) xs) (hid : I64 id) (hn : (xs.length + 6) * 8 ≤ 140737488355328) (hnn : (nn + 4) * 24 ≤ 140737488355328) (hdr : 0 ≤ draw ∧ draw < 18446744073709551616) (hkd : kd ≤ 4) :
    Calls Tryz.prog 15 #[.pointer (some ⟨bp, 0, none⟩), .agg #[.int .i64 kd, .int .i64 id, .int .i64 kk, .int .i64 be, .slice pa xs.length pc, .int .i64 t0, .int .i64 t1, .int .u64 draw, .slice fa fn fc]] w fun ev w' => ev = .returned (.bool true) ∧ StepOk W0 bp bb bs bm br cf nn w' := by
  by_cases h1 : kd = 1
  · subst h1; exact step10_put W0 w bp bb bs bm br cf gn la lc nsv nmv nn L id kk be t0 t1 draw xs pa pc fa fn fc h hlk hv hid hn hnn hdr
  by_cases h2 : kd = 2
  · subst h2; exact step10_get W0 w bp bb bs bm br cf gn la lc nsv nmv nn L id kk be t0 t1 draw xs.length pa pc fa fn fc h hlk hid hnn
  by_cases h3 : kd = 3
  · subst h3
    cases he : findE id L with
    | none => exact step10_delN W0 w bp bb bs bm br cf gn la lc nsv nmv nn L id kk be t0 t1 draw xs.length pa pc fa fn fc h hlk hid he
    | some e => exact step10_delY W0 w bp bb bs bm br cf gn la lc nsv nmv nn L id kk be t0 t1 draw xs.length pa pc fa fn fc e h hlk hid he
  by_cases h4 : kd = 4
  · subst h4; exact step10_count W0 w bp bb bs bm br cf gn la lc nsv nmv nn L id kk be t0 t1 draw xs.length pa pc fa fn fc h hlk
  exact step10_else W0 w bp bb bs bm br cf gn la lc nsv nmv nn L kd id kk be t0 t1 draw xs.length pa pc fa fn fc h hlk (by simp [h1]) (by simp [h2]) (by simp [h3]) (by simp [h4]) (by simp; omega) (by simp; omega) (by simp; omega)
end Go.Proofs.YtpkiefjanmfgfaaGreatDoor
namespace Go.Proofs.YtpkiefjanmfgfaaGreatDoor
open Go.RowKit Go.Maps

set_option maxHeartbeats 2000000 in
set_option maxRecDepth 20000 in
theorem begun9_no (d c l m b t : Int) (w : World) (hg : Handle w) (hc : cfgB d c l m b t = false) :
    Calls Tryz.prog 14 #[.agg #[.int .i64 d, .int .i64 c, .int .i64 l, .int .i64 m, .int .i64 b, .int .i64 t]] w fun ev w' => ev = .returned (.tuple #[.pointer none, .bool true]) ∧ Below w.heap.size w w' := by
  have HC := hide hc
  clear hc
  go_enter Tryz.func14, Tryz.ntmps14
  go_wp2_with fail
  refine (new12_bad d c l m b t _ (hg.alloc _) HC.out).mono ?_
  rintro ev w1 ⟨rfl, hb1⟩
  have k0 : w1.cell? ⟨w.heap.size, 0, none⟩ = some (.int .i64 d) := Below.at hb1 (by simp) (by simp)
  have k1 : w1.cell? ⟨w.heap.size, 1, none⟩ = some (.int .i64 c) := Below.at hb1 (by simp) (by simp)
  have k2 : w1.cell? ⟨w.heap.size, 2, none⟩ = some (.int .i64 l) := Below.at hb1 (by simp) (by simp)
  have k3 : w1.cell? ⟨w.heap.size, 3, none⟩ = some (.int .i64 m) := Below.at hb1 (by simp) (by simp)
  have k4 : w1.cell? ⟨w.heap.size, 4, none⟩ = some (.int .i64 b) := Below.at hb1 (by simp) (by simp)
  have k5 : w1.cell? ⟨w.heap.size, 5, none⟩ = some (.int .i64 t) := Below.at hb1 (by simp) (by simp)
  have hbw : Below w.heap.size w w1 := ((Below.refl _ _).alloc (Nat.le_refl _) _).trans (hb1.mono (by simp))
  have HBW := hide hbw
  clear hb1 hbw
  go_wp2_with fail
  refine (config17_any d c l m b t _).mono ?_
  rintro ev w2 ⟨rfl, hb2⟩
  rw [HC.out]
  have HB2 := hide hb2
  clear hb2
  go_wp2
  go_ret2
  exact ⟨rfl, HBW.out.trans (HB2.out.mono HBW.out.size)⟩

theorem pair_new {W0 w2 w3 : World} {d c l m b t : Int} {bb bs bm : Nat} {gn : Net} {cs ct : Array Value} (h0 : 0 < W0.heap.size) (hold : Below W0.heap.size W0 w2) (hb3 : Below w2.heap.size w2 w3) (hB : BaseAt w2 bb bs bm ⟨d, c, l, m, b, t⟩ gn [])
    (hts : w2.heap[bs]? = some (.cells cs 155 (0, 0))) (htb : w2.heap[bb]? = some (.cells ct 102 (0, 0))) (hbb : W0.heap.size ≤ bb) (hbm : W0.heap.size ≤ bm) (hF : ∀ k, gn.F k → W0.heap.size ≤ k) (_hlo : gn.looks = 0) (hex : gn.ex = Bks.nil) (hlw : gn.lows = 0) :
    PairAt W0 ((w3.alloc (.cells #[.int .i64 d, .int .i64 c, .int .i64 l, .int .i64 m, .int .i64 b, .int .i64 t, .slice none 0 0] 92)).alloc (.cells #[.pointer (some ⟨bb, 0, none⟩), .pointer (some ⟨w3.heap.size, 0, none⟩), .int .i64 0, .int .i64 0, .int .i64 0, .bool false, .int .i64 0, .int .i64 0, .slice none 0 0, .slice none 0 0, .slice none 0 0, .slice none 0 0, .slice none 0 0, .slice none 0 0, .slice none 0 0, .slice none 0 0] 41))
      (w3.heap.size + 1) bb bs bm w3.heap.size ⟨d, c, l, m, b, t⟩ gn none 0 (.slice none 0 0) (.slice none 0 0) 0 [] [] := by
  have hz2 := (Array.getElem?_eq_some_iff.1 htb).1
  have hzs := (Array.getElem?_eq_some_iff.1 hts).1
  have hz3 := hb3.size
  have hz1 := hold.size
  obtain ⟨w4, hw4⟩ : ∃ w4, w4 = w3.alloc (.cells #[.int .i64 d, .int .i64 c, .int .i64 l, .int .i64 m, .int .i64 b, .int .i64 t, .slice none 0 0] 92) := ⟨_, rfl⟩
  rw [← hw4]
  have hz4 : w4.heap.size = w3.heap.size + 1 := by rw [hw4]; simp
  obtain ⟨w5, hw5⟩ : ∃ w5, w5 = w4.alloc (.cells #[.pointer (some ⟨bb, 0, none⟩), .pointer (some ⟨w3.heap.size, 0, none⟩), .int .i64 0, .int .i64 0, .int .i64 0, .bool false, .int .i64 0, .int .i64 0, .slice none 0 0, .slice none 0 0, .slice none 0 0, .slice none 0 0, .slice none 0 0, .slice none 0 0, .slice none 0 0, .slice none 0 0] 41) := ⟨_, rfl⟩
  rw [← hw5]
  have hp : w5.heap[w3.heap.size + 1]? = some (.cells #[.pointer (some ⟨bb, 0, none⟩), .pointer (some ⟨w3.heap.size, 0, none⟩), .int .i64 0, .int .i64 0, .int .i64 0, .bool false, .int .i64 0, .int .i64 0, .slice none 0 0, .slice none 0 0, .slice none 0 0, .slice none 0 0, .slice none 0 0, .slice none 0 0, .slice none 0 0, .slice none 0 0] 41 (0, 0)) := by
    rw [hw5, ← hz4]; exact heap_alloc_new _ _
  have hr : w5.heap[w3.heap.size]? = some (.cells #[.int .i64 d, .int .i64 c, .int .i64 l, .int .i64 m, .int .i64 b, .int .i64 t, .slice none 0 0] 92 (0, 0)) := by
    rw [hw5, Below.heap_alloc _ _ _ (by omega), hw4]; exact heap_alloc_new _ _
  have hb5 : Below w3.heap.size w3 w5 := by
    rw [hw5, hw4]
    exact ((Below.refl _ _).alloc (Nat.le_refl _) _).alloc (by simp) _
  have hb25 : Below w2.heap.size w2 w5 := hb3.trans (hb5.mono hz3)
  clear hw4 hw5
  have nil32 : ∀ e, w5.ownsRow 0 e 1 (.slice none 0 0) 0 [] := fun e => ⟨rfl, .inl ⟨rfl, rfl⟩⟩
  refine ⟨?_, ?_, ?_, ?_, ⟨0, ?_⟩, ⟨false, ?_⟩, ⟨⟨_, hp⟩, ⟨0, ?_⟩, ⟨0, ?_⟩, ?_, ?_, ⟨[], nil32 32⟩, ⟨[], nil32 3⟩⟩, hB.below hb25, ⟨⟨_, hr⟩, ?_, ?_, ?_, ?_, ?_, ?_, ⟨rfl, .inl ⟨rfl, rfl⟩⟩, fun e he => (by simp at he), by simp [Rising], by simp⟩,
    ⟨_, (hb25.block _ hz2).trans htb⟩, ⟨_, (hb25.block _ hzs).trans hts⟩, ⟨fun e he => (by simp at he), fun e he => by simp at he⟩, hold.trans (hb25.mono hz1), h0, by omega, hbb, hbm, by omega, fun g hg => (by cases hg), fun g hg => (by cases hg), fun g hg => (by cases hg), fun k hf => ⟨hF k hf, by have := (hB.foot k hf).1; omega, by have := (hB.foot k hf).1; omega, fun e => (by cases e), fun e => (by cases e), fun e => (by cases e), fun e he => absurd he List.not_mem_nil⟩, hex ▸ ⟨?_, ?_, ?_, ?_, ?_, ?_, ⟨[], nil32 58⟩, ⟨[], nil32 3⟩, ⟨[], nil32 81⟩, ⟨[], nil32 3⟩, ⟨[], nil32 31⟩, ⟨[], nil32 3⟩, fun g e => (by cases e), fun g e => (by cases e)⟩, fun k hk => absurd (hex ▸ hk) (Bks.own_nil k), by rw [hex]; decide⟩ <;> (try rw [hlw]) <;>
    first
      | (simp only [World.cell?, hp]; rfl)
      | (simp only [World.cell?, hr]; rfl)

set_option maxHeartbeats 2000000 in
set_option maxRecDepth 20000 in
theorem begun9_yes (W0 : World) (d c l m b t : Int) (w : World) (hg : Handle w) (hW : Below W0.heap.size W0 w) (h0 : 0 < W0.heap.size) (hc : cfgB d c l m b t = true) :
    Calls Tryz.prog 14 #[.agg #[.int .i64 d, .int .i64 c, .int .i64 l, .int .i64 m, .int .i64 b, .int .i64 t]] w fun ev w' => ∃ bp bb bs bm br gn, ev = .returned (.tuple #[.pointer (some ⟨bp, 0, none⟩), .bool true]) ∧ PairAt W0 w' bp bb bs bm br ⟨d, c, l, m, b, t⟩ gn none 0 (.slice none 0 0) (.slice none 0 0) 0 [] [] ∧ Lk gn 0 := by
  have HC := hide hc
  clear hc
  go_enter Tryz.func14, Tryz.ntmps14
  go_wp2_with fail
  refine (new12_ok d c l m b t _ (hg.alloc _) HC.out).mono ?_
  rintro ev w2 ⟨bb, bs, bm, gn, cs, ct, rfl, hB, hts, htb, hb1, hbb, hbs, hbm, hF, hlo, hex, hlw⟩
  have hbw : Below w.heap.size w w2 := ((Below.refl _ _).alloc (Nat.le_refl _) _).trans (hb1.mono (by simp))
  have hz : w.heap.size < w2.heap.size := by have := hb1.size; simp at this; omega
  have k0 : w2.cell? ⟨w.heap.size, 0, none⟩ = some (.int .i64 d) := Below.at hb1 (by simp) (by simp)
  have k1 : w2.cell? ⟨w.heap.size, 1, none⟩ = some (.int .i64 c) := Below.at hb1 (by simp) (by simp)
  have k2 : w2.cell? ⟨w.heap.size, 2, none⟩ = some (.int .i64 l) := Below.at hb1 (by simp) (by simp)
  have k3 : w2.cell? ⟨w.heap.size, 3, none⟩ = some (.int .i64 m) := Below.at hb1 (by simp) (by simp)
  have k4 : w2.cell? ⟨w.heap.size, 4, none⟩ = some (.int .i64 b) := Below.at hb1 (by simp) (by simp)
  have k5 : w2.cell? ⟨w.heap.size, 5, none⟩ = some (.int .i64 t) := Below.at hb1 (by simp) (by simp)
  have HB := hide hB
  have HOLD : Hid (Below W0.heap.size W0 w2) := hW.trans (hbw.mono hW.size)
  have HBB : Hid (W0.heap.size ≤ bb) := by have := hW.size; simp at hbb; show _ ≤ _; omega
  have HBM : Hid (W0.heap.size ≤ bm) := by have := hW.size; simp at hbm; show _ ≤ _; omega
  have HFF : Hid (∀ k, gn.F k → W0.heap.size ≤ k) := fun k hk => by have := hF k hk; have := hW.size; simp at *; omega
  have HLO := hide hlo
  have HEX := hide hex
  have HLW := hide hlw
  have HTS := hide hts
  have HTB := hide htb
  have hz2 : w.heap.size < w2.heap.size := hz
  clear hb1 hbw hB hts htb hW hbb hbs hbm hF hz hlo hex hlw
  go_wp2_with fail
  refine (config17_any d c l m b t _).mono ?_
  rintro ev w3 ⟨rfl, hb3⟩
  rw [HC.out]
  have q0 := Below.at hb3 k0 hz2
  have q1 := Below.at hb3 k1 hz2
  have q2 := Below.at hb3 k2 hz2
  have q3 := Below.at hb3 k3 hz2
  have q4 := Below.at hb3 k4 hz2
  have q5 := Below.at hb3 k5 hz2
  have HB3 := hide hb3
  clear hb3 k0 k1 k2 k3 k4 k5
  go_wp2
  go_ret2
  exact ⟨w3.heap.size + 1, bb, bs, bm, w3.heap.size, gn, rfl, pair_new h0 HOLD.out HB3.out HB.out HTS.out HTB.out HBB.out HBM.out HFF.out HLO.out HEX.out HLW.out, by rw [HLW.out, HLO.out], by rw [HLO.out]; omega, by rw [HLO.out]; omega⟩
end Go.Proofs.YtpkiefjanmfgfaaGreatDoor
namespace Go.Proofs.YtpkiefjanmfgfaaGreatDoor
open Go.RowKit Go.Maps

theorem ints_seven {w : World} {A : Nat} {o : Obj} (h : w.cell? ⟨A, 0, none⟩ = some (.int .i64 7)) : IntsAt (w.alloc o) (.slice (some ⟨A, 0, none⟩) ([7] : List Int).length 1) [7] := by
  refine ⟨_, _, rfl, by simp, by simp, .inr ⟨A, 0, rfl, fun i hi => ?_⟩⟩
  obtain rfl : i = 0 := by simp at hi; omega
  exact (World.cell?_alloc_lt _ _ _ (block_lt_of_cell (a := ⟨A, 0, none⟩) h)).trans h

theorem i64_five : I64 5 := by unfold I64; decide
theorem find_five (g gc : Nat) : findE 5 (insE ⟨5, [7], 1, 2, ((0 : Nat) : Int), g, gc, 0, 0⟩ []) = some ⟨5, [7], 1, 2, ((0 : Nat) : Int), g, gc, 0, 0⟩ := by simp [insE, findE]
theorem del_five (g gc : Nat) : delE 5 (insE ⟨5, [7], 1, 2, ((0 : Nat) : Int), g, gc, 0, 0⟩ []) = [] := by simp [insE, delE]

set_option maxHeartbeats 2000000 in
set_option maxRecDepth 20000 in
theorem awake8_any (w : World) (hg : Handle w) :
    Calls Tryz.prog 13 #[] w fun ev w' => ev = .returned (.bool true) ∧ Below w.heap.size w w' := by
  go_enter Tryz.func13, Tryz.ntmps13
  go_wp2_with fail
  refine (new12_ok 1 2 2 0 1 0 _ hg (by decide)).mono ?_
  rintro ev w2 ⟨bb, bs, bm, gn, _, _, rfl, hB, _, _, hb2, _, _, hzm, hgF, _⟩
  have HB := hide hB
  have HB2 := hide hb2
  have HGF := hide hgF
  clear hB hb2 hgF
  go_wp2_with fail
  obtain ⟨w3, hw3⟩ : ∃ w3, w3 = w2.alloc (.cells #[.int .i64 7] 3) := ⟨_, rfl⟩
  have h7 : w3.cell? ⟨w2.heap.size, 0, none⟩ = some (.int .i64 7) := by rw [hw3]; simp
  have hB3 : BaseAt w3 bb bs bm ⟨1, 2, 2, 0, 1, 0⟩ gn [] := hw3 ▸ HB.out.alloc _
  have hb3 : Below w.heap.size w w3 := hw3 ▸ HB2.out.alloc HB2.out.size _
  rw [← hw3]
  clear hw3
  refine (put13_ok bb bs bm ⟨1, 2, 2, 0, 1, 0⟩ gn 5 1 2 0 [7] w2.heap.size 0 1 [] w3 i64_five (by decide) hB3 (by decide) (fun _ => ints_seven h7) (.inr (by decide)) (by decide) (by decide) ?_).mono ?_
  · intro i hi
    obtain rfl : i = 0 := by simp at hi; omega
    exact h7
  rintro ev w4 ⟨rfl, g, gc, gn4, hg4, hB4, hk4, hf4, _⟩
  have hB4 := hB4 0 0
  have hb4 : Below w.heap.size w w4 := hb3.trans (hk4.toBelow hb3.size (fun k e => e.elim (fun e => by rw [e]; exact hzm) (HGF.out k)))
  have HGF4 : Hid (∀ k, gn4.F k → w.heap.size ≤ k) := fun k hk => (hf4 k hk).elim (HGF.out k) (fun e => Nat.le_trans hb3.size e)
  have HB4 := hide hB4
  have HBL4 := hide hb4
  clear hB4 hb4 hk4 hg4 hB3 hb3 h7 hf4
  go_wp2_with fail
  refine (get14_yes bb bs bm _ _ 5 _ ⟨5, [7], 1, 2, ((0 : Nat) : Int), g, gc, 0, 0⟩ w4 i64_five HB4.out (find_five g gc)).mono ?_
  rintro ev w5 ⟨g5, gc5, rfl, hg5, hp5, hb5⟩
  have hB5 := HB4.out.below hb5
  have hb5w : Below w.heap.size w w5 := HBL4.out.trans (hb5.mono HBL4.out.size)
  have hlen5 : 1 ≤ gc5 := ownsRow_len hp5
  have HGF5 : Hid (¬ gn4.F g5) := fun e => by have := (HB4.out.foot _ e).1; omega
  have HXF : Hid (¬ gn4.F w5.heap.size) := fun e => by have := (hB5.foot _ e).1; omega
  have HP5 : Hid (Pts w5 g5 gc5 [7]) := hp5
  have HB5 := hide hB5
  have HBL5 := hide hb5w
  have hgl : g5 < w5.heap.size := (hp5.lt g5 rfl).2
  clear hB5 hb5w hp5 hb5 hg5
  go_wp2_with fail
  obtain ⟨w6, hw6⟩ : ∃ w6, w6 = w5.alloc (.cells #[.int .i64 5, .slice (some ⟨g5, 0, none⟩) 1 gc5, .int .i64 1, .int .i64 2] 77) := ⟨_, rfl⟩
  rw [← hw6]
  have hz6 : w6.heap.size = w5.heap.size + 1 := by rw [hw6]; simp
  have hb56 : Below w5.heap.size w5 w6 := hw6 ▸ (Below.refl _ _).alloc (Nat.le_refl _) _
  have hx6 : w6.heap[w5.heap.size]? = some (.cells #[.int .i64 5, .slice (some ⟨g5, 0, none⟩) 1 gc5, .int .i64 1, .int .i64 2] 77 (0, 0)) := by rw [hw6]; exact heap_alloc_new _ _
  clear hw6
  have HB6 := hide (HB5.out.below hb56)
  have HP6 := hide (ownsRow_below HP5.out hb56)
  have HBL6 : Hid (Below w.heap.size w w6) := HBL5.out.trans (hb56.mono HBL5.out.size)
  have HX6 := hide hx6
  clear hx6 hb56
  refine (count15_any bb bs bm _ _ _ w6 HB6.out).mono ?_
  rintro ev w7 ⟨rfl, rfl⟩
  go_wp2_with fail
  refine (delete16_yes bb bs bm _ _ 5 _ _ w6 i64_five HB6.out (find_five g gc)).mono ?_
  rintro ev w8 ⟨rfl, gn8, hB8, hk8, _⟩
  rw [del_five] at hB8
  have hx8 := (hk8.block w5.heap.size (by omega) (fun e => e.elim (HB6.out.map.mb_ne HX6.out) HXF.out)).trans HX6.out
  have hp8 : Pts w8 g5 gc5 [7] := ownsRow_kept HP6.out hk8 fun g' hg' => by
    obtain ⟨cu, hcu⟩ := ownsRow_obj HP6.out hg'
    obtain rfl : g5 = g' := by simpa [Value.ownBlock] using hg'
    exact fun e => e.elim (HB6.out.map.mb_ne hcu) HGF5.out
  have hb8 : Below w.heap.size w w8 := HBL6.out.trans (hk8.toBelow HBL6.out.size (fun k e => e.elim (fun e => by rw [e]; exact hzm) (HGF4.out k)))
  have hz8 : w5.heap.size < w8.heap.size := by have := hk8.size; omega
  have HB8 := hide hB8
  have HX8 := hide hx8
  have HP8 := hide hp8
  have HBL8 := hide hb8
  clear hB8 hx8 hp8 hb8 hk8
  go_wp2_with fail
  refine (get14_no bb bs bm _ _ 5 [] w8 i64_five HB8.out rfl).mono ?_
  rintro ev w9 ⟨rfl, hb9⟩
  have hx9 := (hb9.block _ hz8).trans HX8.out
  have hp9 := ownsRow_below HP8.out hb9
  have HBL9 : Hid (Below w.heap.size w w9) := HBL8.out.trans (hb9.mono HBL8.out.size)
  have hz9 : w5.heap.size < w9.heap.size := Nat.lt_of_lt_of_le hz8 hb9.size
  have hg9 : g5 < w9.heap.size := (hp9.lt g5 rfl).2
  have c1 : w9.cell? ⟨w5.heap.size, 1, none⟩ = some (.slice (some ⟨g5, 0, none⟩) 1 gc5) := by simp only [World.cell?, hx9]; rfl
  have c3 : w9.cell? ⟨w5.heap.size, 3, none⟩ = some (.int .i64 2) := by simp only [World.cell?, hx9]; rfl
  have c7 : w9.cell? ⟨g5, 0, none⟩ = some (.int .i64 7) := Pts.at (xs := [7]) hp9 (i := 0) (by simp)
  clear hx9 hp9 hb9 hz6
  go_wp2
  go_ret
  exact ⟨rfl, HBL9.out.alloc HBL9.out.size _⟩
end Go.Proofs.YtpkiefjanmfgfaaGreatDoor
namespace Go.Proofs.YtpkiefjanmfgfaaGreatDoor
open Go.RowKit Go.Maps

/-- One step of a script, in its nine cells. -/
structure OpAt (w : World) (b o : Nat) (kd id kk be t0 t1 draw : Int) (xs : List Int) (pa : Option Addr) (pc : Nat) (fa : Option Addr) (fn fc : Nat) : Prop where
  c0 : w.cell? ⟨b, o, none⟩ = some (.int .i64 kd)
  c1 : w.cell? ⟨b, o + 1, none⟩ = some (.int .i64 id)
  c2 : w.cell? ⟨b, o + 2, none⟩ = some (.int .i64 kk)
  c3 : w.cell? ⟨b, o + 3, none⟩ = some (.int .i64 be)
  c4 : w.cell? ⟨b, o + 4, none⟩ = some (.slice pa xs.length pc)
  c5 : w.cell? ⟨b, o + 5, none⟩ = some (.int .i64 t0)
  c6 : w.cell? ⟨b, o + 6, none⟩ = some (.int .i64 t1)
  c7 : w.cell? ⟨b, o + 7, none⟩ = some (.int .u64 draw)
  c8 : w.cell? ⟨b, o + 8, none⟩ = some (.slice fa fn fc)
  pt : IntsAt w (.slice pa xs.length pc) xs
  wf : I64 id
  dr : 0 ≤ draw ∧ draw < 18446744073709551616
  sz : (xs.length + 6) * 8 ≤ 140737488355328
/-- A script. -/
structure ScriptAt (w : World) (a : Option Addr) (len : Nat) : Prop where
  sz : len * 104 ≤ 140737488355328
  op : ∀ i, i < len → ∃ b off, a = some ⟨b, off, none⟩ ∧ ∃ kd id kk be t0 t1 draw xs pa pc fa fn fc, OpAt w b (off + i * 9) kd id kk be t0 t1 draw xs pa pc fa fn fc
theorem OpAt.below {w w' : World} {b o : Nat} {kd id kk be t0 t1 draw : Int} {xs : List Int} {pa : Option Addr} {pc : Nat} {fa : Option Addr} {fn fc : Nat} (h : OpAt w b o kd id kk be t0 t1 draw xs pa pc fa fn fc) (hb : Below w.heap.size w w') : OpAt w' b o kd id kk be t0 t1 draw xs pa pc fa fn fc :=
  have hl := block_lt_of_cell h.c0
  ⟨Below.at hb h.c0 hl, Below.at hb h.c1 hl, Below.at hb h.c2 hl, Below.at hb h.c3 hl, Below.at hb h.c4 hl, Below.at hb h.c5 hl, Below.at hb h.c6 hl, Below.at hb h.c7 hl, Below.at hb h.c8 hl, h.pt.below hb, h.wf, h.dr, h.sz⟩
theorem ScriptAt.below {w w' : World} {a : Option Addr} {len : Nat} (h : ScriptAt w a len) (hb : Below w.heap.size w w') : ScriptAt w' a len :=
  ⟨h.sz, fun i hi => by
    obtain ⟨b, off, e, kd, id, kk, be, t0, t1, draw, xs, pa, pc, fa, fn, fc, ho⟩ := h.op i hi
    exact ⟨b, off, e, kd, id, kk, be, t0, t1, draw, xs, pa, pc, fa, fn, fc, ho.below hb⟩⟩

set_option maxHeartbeats 2000000 in
set_option maxRecDepth 20000 in
theorem played7_no (d c l m b t : Int) (sa : Option Addr) (len cap : Nat) (w : World) (hg : Handle w) (hc : cfgB d c l m b t = false) :
    Calls Tryz.prog 12 #[.agg #[.int .i64 d, .int .i64 c, .int .i64 l, .int .i64 m, .int .i64 b, .int .i64 t], .slice sa len cap, .int .i64 4] w fun ev w' => ev = .returned (.bool true) ∧ Below w.heap.size w w' := by
  have HC := hide hc
  clear hc
  go_enter Tryz.func12, Tryz.ntmps12
  go_wp2_with fail
  refine (awake8_any _ (hg.alloc _)).mono ?_
  rintro ev w1 ⟨rfl, hb1⟩
  have k0 : w1.cell? ⟨w.heap.size, 0, none⟩ = some (.int .i64 d) := Below.at hb1 (by simp) (by simp)
  have k1 : w1.cell? ⟨w.heap.size, 1, none⟩ = some (.int .i64 c) := Below.at hb1 (by simp) (by simp)
  have k2 : w1.cell? ⟨w.heap.size, 2, none⟩ = some (.int .i64 l) := Below.at hb1 (by simp) (by simp)
  have k3 : w1.cell? ⟨w.heap.size, 3, none⟩ = some (.int .i64 m) := Below.at hb1 (by simp) (by simp)
  have k4 : w1.cell? ⟨w.heap.size, 4, none⟩ = some (.int .i64 b) := Below.at hb1 (by simp) (by simp)
  have k5 : w1.cell? ⟨w.heap.size, 5, none⟩ = some (.int .i64 t) := Below.at hb1 (by simp) (by simp)
  have hbw : Below w.heap.size w w1 := ((Below.refl _ _).alloc (Nat.le_refl _) _).trans (hb1.mono (by simp))
  have HBW := hide hbw
  clear hb1 hbw
  go_wp2_with fail
  refine (begun9_no d c l m b t w1 (hg.below HBW.out) HC.out).mono ?_
  rintro ev w2 ⟨rfl, hb2⟩
  have HB2 := hide hb2
  clear hb2
  go_wp2
  refine wp_loop_rounds 1 ?_
  rw [rounds_succ]
  go_wp2
  go_ret
  exact ⟨rfl, HBW.out.trans (HB2.out.mono HBW.out.size)⟩
end Go.Proofs.YtpkiefjanmfgfaaGreatDoor
namespace Go.Proofs.YtpkiefjanmfgfaaGreatDoor
open Go.RowKit Go.Maps

set_option maxHeartbeats 2000000 in
set_option maxRecDepth 20000 in
theorem played7_yes (d c l m b t : Int) (sa : Option Addr) (len cap : Nat) (w : World) (hg : Handle w) (hc : cfgB d c l m b t = true) (hs : ScriptAt w sa len) (hlc : len ≤ cap) :
    Calls Tryz.prog 12 #[.agg #[.int .i64 d, .int .i64 c, .int .i64 l, .int .i64 m, .int .i64 b, .int .i64 t], .slice sa len cap, .int .i64 4] w fun ev w' => ev = .returned (.bool true) ∧ Below w.heap.size w w' := by
  have HC := hide hc
  have HS := hide hs
  have hsz : len ≤ 1353245080339 := by have := hs.sz; omega
  clear hc hs
  go_enter Tryz.func12, Tryz.ntmps12
  go_wp2_with fail
  refine (awake8_any _ (hg.alloc _)).mono ?_
  rintro ev w1 ⟨rfl, hb1⟩
  have k0 : w1.cell? ⟨w.heap.size, 0, none⟩ = some (.int .i64 d) := Below.at hb1 (by simp) (by simp)
  have k1 : w1.cell? ⟨w.heap.size, 1, none⟩ = some (.int .i64 c) := Below.at hb1 (by simp) (by simp)
  have k2 : w1.cell? ⟨w.heap.size, 2, none⟩ = some (.int .i64 l) := Below.at hb1 (by simp) (by simp)
  have k3 : w1.cell? ⟨w.heap.size, 3, none⟩ = some (.int .i64 m) := Below.at hb1 (by simp) (by simp)
  have k4 : w1.cell? ⟨w.heap.size, 4, none⟩ = some (.int .i64 b) := Below.at hb1 (by simp) (by simp)
  have k5 : w1.cell? ⟨w.heap.size, 5, none⟩ = some (.int .i64 t) := Below.at hb1 (by simp) (by simp)
  have hbw : Below w.heap.size w w1 := ((Below.refl _ _).alloc (Nat.le_refl _) _).trans (hb1.mono (by simp))
  have HBW := hide hbw
  clear hb1 hbw
  go_wp2_with fail
  refine (begun9_yes w d c l m b t w1 (hg.below HBW.out) HBW.out hg.lt HC.out).mono ?_
  rintro ev w2 ⟨bp, bb, bs, bm, br, gn0, rfl, hp2, hlk2⟩
  have HP2 := hide hp2
  have HLK2 := hide hlk2
  clear hp2 hlk2 k0 k1 k2 k3 k4 k5
  go_wp2
  go_loopw [9, 10] (fun ok iv wr => ∃ (k : Nat) (la : Option Addr) (lc : Nat) (nsv nmv : Value) (nn : Nat) (L : List Ent) (gn : Net), k ≤ len ∧ iv = .int .i64 k ∧ ok = .bool true ∧ nn ≤ 4 * k ∧ Hid (PairAt w wr bp bb bs bm br ⟨d, c, l, m, b, t⟩ gn la lc nsv nmv nn L L) ∧ Hid (Lk gn nn)) (fun _ iv _ => len - (intOf iv).toNat)
  case atStart => exact ⟨0, _, _, _, _, 0, [], gn0, Nat.zero_le _, rfl, rfl, Nat.le_refl _, HP2.out, HLK2.out⟩
  case round =>
    obtain ⟨k, la, lc, nsv, nmv, nn, L, gn, hk, rfl, rfl, hnn, HP, HLK⟩ := hrel
    by_cases hlt : k < len
    · obtain ⟨b', off, rfl, kd, id, kk, be, t0, t1, draw, xs, pa, pc, fa, fn, fc, ho⟩ := HS.out.op k hlt
      have hor := ho.below HP.out.old
      have HO := hide ho
      have c0 := hor.c0
      have c1 := hor.c1
      have c2 := hor.c2
      have c3 := hor.c3
      have c4 := hor.c4
      have c5 := hor.c5
      have c6 := hor.c6
      have c7 := hor.c7
      have c8 := hor.c8
      have HNN : Hid ((nn + 4) * 24 ≤ 140737488355328) := by
        have h1 : (nn + 4) * 24 ≤ (4 * len) * 24 := Nat.mul_le_mul_right 24 (by omega)
        have h2 := HS.out.sz
        exact Nat.le_trans h1 (by omega)
      clear ho hor
      by_cases hkd : kd ≤ 4
      · have hd4 : decide (kd ≤ 4) = true := by simpa using hkd
        go_wp2_with fail
        refine (step10_any w wr bp bb bs bm br _ gn la lc nsv nmv nn L kd id kk be t0 t1 draw xs pa pc fa fn fc HP.out HLK.out HO.out.pt HO.out.wf HO.out.sz HNN.out HO.out.dr hkd).mono ?_
        rintro ev w5 ⟨rfl, la5, lc5, nsv5, nmv5, nn5, L5, gn5, hn5, hp5, hlk5⟩
        have HP5 := hide hp5
        have HLK5 := hide hlk5
        clear hp5 hlk5 c0 c1 c2 c3 c4 c5 c6 c7 c8
        go_wp2
        exact ⟨⟨k + 1, la5, lc5, nsv5, nmv5, nn5, L5, gn5, by omega, by go_num, rfl, by omega, HP5.out, HLK5.out⟩, by simp [intOf]; omega⟩
      · have hd4 : decide (kd ≤ 4) = false := by simpa using hkd
        go_wp2
        exact ⟨⟨k + 1, la, lc, nsv, nmv, nn, L, gn, by omega, by go_num, rfl, by omega, HP, HLK⟩, by simp [intOf]; omega⟩
    · obtain rfl : k = len := by omega
      go_wp2
      go_ret
      exact ⟨rfl, HP.out.old⟩

set_option maxHeartbeats 2000000 in
set_option maxRecDepth 20000 in
/-- The law, over every script. -/
theorem entries3_any (d c l m b t : Int) (sa : Option Addr) (len cap : Nat) (w : World) (hg : Handle w) (hs : ScriptAt w sa len) (hlc : len ≤ cap) :
    Calls Tryz.prog 3 #[.agg #[.int .i64 d, .int .i64 c, .int .i64 l, .int .i64 m, .int .i64 b, .int .i64 t], .slice sa len cap] w fun ev w' => ev = .returned (.bool true) ∧ Below w.heap.size w w' := by
  have HS := hide hs
  clear hs
  go_enter Tryz.func3, Tryz.ntmps3
  go_wp2_with fail
  have key : ∀ o, Calls Tryz.prog 12 #[.agg #[.int .i64 d, .int .i64 c, .int .i64 l, .int .i64 m, .int .i64 b, .int .i64 t], .slice sa len cap, .int .i64 4] (w.alloc o) fun ev w' => ev = .returned (.bool true) ∧ Below (w.alloc o).heap.size (w.alloc o) w' := fun o => by
    cases hc : cfgB d c l m b t
    · exact played7_no d c l m b t sa len cap _ (hg.alloc o) hc
    · exact played7_yes d c l m b t sa len cap _ (hg.alloc o) hc (HS.out.below ((Below.refl _ _).alloc (Nat.le_refl _) o)) hlc
  refine (key _).mono ?_
  rintro ev w1 ⟨rfl, hb1⟩
  have hb : Below w.heap.size w w1 := ((Below.refl _ _).alloc (Nat.le_refl _) _).trans (hb1.mono (by simp))
  have HB := hide hb
  clear hb hb1 key
  go_wp2
  go_ret
  exact ⟨rfl, HB.out⟩
end Go.Proofs.YtpkiefjanmfgfaaGreatDoor
namespace Go.Proofs.YtpkiefjanmfgfaaGreatDoor
open Go.ChangeShapes Go.WideShapes Go.RowKit

theorem cells23 : Tryz.prog.cellsOf 23 = 6 := by kernel_rfl
theorem cells32 : Tryz.prog.cellsOf 32 = 1 := by kernel_rfl
theorem cells43 : Tryz.prog.cellsOf 43 = 2 := by kernel_rfl
theorem cells44 : Tryz.prog.cellsOf 44 = 1 := by kernel_rfl
theorem cells45 : Tryz.prog.cellsOf 45 = 1 := by kernel_rfl
theorem cells47 : Tryz.prog.cellsOf 47 = 1 := by kernel_rfl
theorem cells49 : Tryz.prog.cellsOf 49 = 9 := by kernel_rfl
theorem bytes3 : Tryz.prog.bytesOf 3 = 8 := by kernel_rfl
theorem bytes49 : Tryz.prog.bytesOf 49 = 104 := by kernel_rfl

theorem addr_plain {w : World} {a : Addr} {v : Value} (h : w.cell? a = some v) : a = ⟨a.block, a.off, none⟩ := by
  obtain ⟨b, o, s⟩ := a
  cases s with
  | none => rfl
  | some x =>
    simp only [World.cell?] at h
    split at h <;> simp at h
theorem addr_at (b o i : Nat) : (⟨b, o, none⟩ : Addr).add i = ⟨b, o + i, none⟩ := by
  unfold Addr.add
  split
  · subst_vars; rfl
  · rfl

section
variable {H : Type} {enc : TypeId × Value → H} {W : World} {sp : Nat → Bool} {hd : Bool}

set_option maxRecDepth 100000 in
/-- The config: six numbers. -/
theorem cfg_open {b0 : Nat} {r : Reach} {v : Value} {d : DataW H} {p : List MemPlace} (hv : Value.okWide Tryz.prog W r b0 23 v) (h : DataW.Trod enc Tryz.prog W 0 sp hd 23 v d p) :
    ∃ a0 a1 a2 a3 a4 a5 : Int, v = .agg #[.int .i64 a0, .int .i64 a1, .int .i64 a2, .int .i64 a3, .int .i64 a4, .int .i64 a5] := by
  obtain ⟨cs, rfl, hsz⟩ := okWide_struct Tryz.underlying23 hv
  rw [cells23] at hsz
  obtain ⟨l⟩ := cs
  match l, hsz with
  | [c0, c1, c2, c3, c4, c5], _ =>
    obtain ⟨fuel, hf⟩ := h
    obtain ⟨xs, n, _, _, _, hlen, hx⟩ := DataW.trod_struct Tryz.underlying23 hf
    match xs, hlen with
    | [y0, y1, y2, y3, y4, y5], _ =>
      have g0 := hx 0 _ rfl
      have g1 := hx 1 _ rfl
      have g2 := hx 2 _ rfl
      have g3 := hx 3 _ rfl
      have g4 := hx 4 _ rfl
      have g5 := hx 5 _ rfl
      simp [Value.cells, cells3] at g0 g1 g2 g3 g4 g5
      obtain ⟨a0, e0, _⟩ := DataW.trod_int Tryz.underlying3 g0
      obtain ⟨a1, e1, _⟩ := DataW.trod_int Tryz.underlying3 g1
      obtain ⟨a2, e2, _⟩ := DataW.trod_int Tryz.underlying3 g2
      obtain ⟨a3, e3, _⟩ := DataW.trod_int Tryz.underlying3 g3
      obtain ⟨a4, e4, _⟩ := DataW.trod_int Tryz.underlying3 g4
      obtain ⟨a5, e5, _⟩ := DataW.trod_int Tryz.underlying3 g5
      simp at e0 e1 e2 e3 e4 e5
      subst e0; subst e1; subst e2; subst e3; subst e4; subst e5
      exact ⟨a0, a1, a2, a3, a4, a5, rfl⟩

/-- A list of numbers that came in. -/
theorem point_open {n : Nat} {c : Value} {x : DataW H × List MemPlace} (h : DataW.trod enc Tryz.prog W 0 (fun _ => true) hd n 32 [c] = some x) (hw : ∀ k ∈ x.1.weights Tryz.prog 32, k ≤ reachBytes) :
    ∃ (xs : List Int) (pa : Option Addr) (pc : Nat), c = .slice pa xs.length pc ∧ IntsAt W (.slice pa xs.length pc) xs ∧ (xs.length + 6) * 8 ≤ 140737488355328 := by
  rcases open_ints Tryz.underlying32 Tryz.underlying3 cells3 h with ⟨e, _⟩ | ⟨a, len, cap, zs, e, _, hl, hm, hz, rfl, hc, _⟩
  · simp at e
    subst e
    exact ⟨[], none, 0, rfl, ⟨none, 0, rfl, Nat.le_refl _, by simp, .inl rfl⟩, by simp⟩
  · simp at e hz
    subst e
    have hlen : (zs.take len).length = len := by simp; omega
    have hb : ((lits (H := H) .i64 (zs.take len)).length + (lits (H := H) .i64 (zs.drop len)).length) * Tryz.prog.bytesOf 3 ≤ reachBytes := hw _ (by simp only [DataW.weights, Tryz.underlying32]; exact List.mem_cons_self)
    simp [lits, bytes3, reachBytes] at hb
    have hb2 : len * 8 ≤ 140737488351232 := by omega
    refine ⟨zs.take len, some a, cap, by rw [hlen], ⟨some a, cap, rfl, by omega, by omega, ?_⟩, by rw [hlen]; omega⟩
    by_cases h0 : len = 0
    · left; subst h0; simp
    · right
      have e0 := hc 0 (by omega)
      have ea : a = ⟨a.block, a.off, none⟩ := addr_plain (a := a) (by simpa [Addr.add] using e0)
      refine ⟨a.block, a.off, by rw [← ea], fun i hi => ?_⟩
      rw [hlen] at hi
      have := hc i (by omega)
      rw [ea, addr_at] at this
      rw [this]
      simp [List.getD_eq_getElem?_getD, hi]
end
end Go.Proofs.YtpkiefjanmfgfaaGreatDoor
namespace Go.Proofs.YtpkiefjanmfgfaaGreatDoor
open Go.ChangeShapes Go.WideShapes Go.RowKit

section
variable {H : Type} {enc : TypeId × Value → H} {W : World} {hd : Bool}

theorem weights_all {P : Program} {e : TypeId} : ∀ {l : List (DataW H)} {d : DataW H}, d ∈ l → ∀ k ∈ d.weights P e, k ∈ DataW.weightsAll P e l
  | x :: r, d, hm, k, hk => by
    simp only [DataW.weightsAll, List.mem_append]
    rcases List.mem_cons.1 hm with rfl | hm
    · exact .inl hk
    · exact .inr (weights_all hm k hk)
  | [], _, hm, _, _ => by cases hm

theorem u64_wf {n : Int} (h : (Lit.int .u64 n).wf = true) : 0 ≤ n ∧ n < 18446744073709551616 := by
  have h1 : IntKind.u64.min = 0 := by decide
  have h2 : IntKind.u64.max = 18446744073709551615 := by decide
  simp [Lit.wf, h1, h2] at h
  omega

/-- What a step's nine cells hold. -/
structure OpCells (W : World) (cs : List Value) (kd id kk be t0 t1 draw : Int) (xs : List Int) (pa : Option Addr) (pc : Nat) (fa : Option Addr) (fn fc : Nat) : Prop where
  all : cs = [.int .i64 kd, .int .i64 id, .int .i64 kk, .int .i64 be, .slice pa xs.length pc, .int .i64 t0, .int .i64 t1, .int .u64 draw, .slice fa fn fc]
  pt : IntsAt W (.slice pa xs.length pc) xs
  wf : I64 id
  dr : 0 ≤ draw ∧ draw < 18446744073709551616
  sz : (xs.length + 6) * 8 ≤ 140737488355328

set_option maxRecDepth 100000 in
theorem op_open {n : Nat} {cs : List Value} {x : DataW H × List MemPlace} (h : DataW.trod enc Tryz.prog W 0 (fun _ => true) hd n 49 cs = some x) (hw : ∀ k ∈ x.1.weights Tryz.prog 49, k ≤ reachBytes) :
    ∃ kd id kk be t0 t1 draw xs pa pc fa fn fc, OpCells W cs kd id kk be t0 t1 draw xs pa pc fa fn fc := by
  obtain ⟨xs, m, _, rfl, hl, hlen, hx⟩ := DataW.trod_struct Tryz.underlying49 h
  rw [cells49] at hl
  match cs, hl with
  | [c0, c1, c2, c3, c4, c5, c6, c7, c8], _ =>
    match xs, hlen with
    | [y0, y1, y2, y3, y4, y5, y6, y7], _ =>
      have g0 := hx 0 _ rfl
      have g1 := hx 1 _ rfl
      have g2 := hx 2 _ rfl
      have g3 := hx 3 _ rfl
      have g4 := hx 4 _ rfl
      have g5 := hx 5 _ rfl
      have g6 := hx 6 _ rfl
      have g7 := hx 7 _ rfl
      simp [cells3, cells32, cells43, cells44, cells47] at g0 g1 g2 g3 g4 g5 g6 g7
      clear hx
      obtain ⟨kd, e0, _⟩ := DataW.trod_int Tryz.underlying3 g0
      obtain ⟨id, e1, _, hid⟩ := DataW.trod_int Tryz.underlying3 g1
      obtain ⟨kk, e2, _⟩ := DataW.trod_int Tryz.underlying3 g2
      obtain ⟨be, e3, _⟩ := DataW.trod_int Tryz.underlying3 g3
      obtain ⟨draw, e7, _, hdr⟩ := DataW.trod_int Tryz.underlying44 g6
      obtain ⟨ps, pa, pc, e4, hp, hs⟩ := point_open g4 (fun k hk => hw k (by
        simp only [DataW.weights, Tryz.underlying49]
        exact DataW.weights_mem_each (j := 4) rfl rfl k hk))
      obtain ⟨us, m2, _, _, _, hul, hu⟩ := DataW.trod_array Tryz.underlying43 g5
      match us, hul with
      | [u0, u1], _ =>
        have k0 := hu 0 (by omega)
        have k1 := hu 1 (by omega)
        simp [cells3] at k0 k1
        obtain ⟨t0, e5, _⟩ := DataW.trod_int Tryz.underlying3 k0
        obtain ⟨t1, e6, _⟩ := DataW.trod_int Tryz.underlying3 k1
        obtain ⟨z0, m3, _, _, g8⟩ := trod_struct1 Tryz.underlying47 g7
        simp [cells45] at g8
        obtain ⟨fa, fn, fc, e8⟩ : ∃ fa fn fc, c8 = .slice fa fn fc := by
          rcases Deep.open_slice Tryz.underlying45 g8 with ⟨e, _⟩ | ⟨a, len, cap, _, _, _, _, e, _⟩
          · simp at e; exact ⟨_, _, _, e⟩
          · simp at e; exact ⟨_, _, _, e⟩
        simp at e0 e1 e2 e3 e5 e6 e7
        subst e0; subst e1; subst e2; subst e3; subst e4; subst e5; subst e6; subst e7; subst e8
        exact ⟨kd, id, kk, be, t0, t1, draw, ps, pa, pc, fa, fn, fc, rfl, hp, hid, u64_wf hdr, hs⟩

set_option maxRecDepth 100000 in
/-- The script. -/
theorem script_open {b0 : Nat} {r : Reach} {v : Value} {d : DataW H} {p : List MemPlace} (hv : Value.okWide Tryz.prog W r b0 24 v) (h : DataW.Trod enc Tryz.prog W 0 (fun _ => true) hd 24 v d p) (hw : ∀ k ∈ d.weights Tryz.prog 24, k ≤ reachBytes) :
    ∃ sa len cap, v = .slice sa len cap ∧ len ≤ cap ∧ ScriptAt W sa len := by
  obtain ⟨sa, len, cap, rfl⟩ := okWide_slice Tryz.underlying24 hv
  obtain ⟨fuel, hf⟩ := h
  have hf' : DataW.trod enc Tryz.prog W 0 (fun _ => true) hd fuel 24 [.slice sa len cap] = some (d, p) := hf
  rcases Deep.open_slice Tryz.underlying24 hf' with ⟨e, _⟩ | ⟨a, len', cap', m, n, D, Pl, e, _, hl, _, hm, hx, hi⟩
  · simp at e
    obtain ⟨rfl, rfl, rfl⟩ := e
    exact ⟨none, 0, 0, rfl, Nat.le_refl _, by simp, fun i hi => by omega⟩
  · simp at e hm
    obtain ⟨rfl, rfl, rfl⟩ := e
    have hm' := hm.symm
    subst hm'
    simp only [Prod.mk.injEq] at hx
    obtain ⟨rfl, _⟩ := hx
    refine ⟨some a, len, cap, rfl, hl, ?_, fun i hil => ?_⟩
    · have hb : (((List.range len).map D).length + ((List.range (cap - len)).map fun j => D (len + j)).length) * Tryz.prog.bytesOf 49 ≤ reachBytes := hw _ (by simp only [DataW.weights, Tryz.underlying24]; exact List.mem_cons_self)
      simp [bytes49, reachBytes] at hb
      have h1 : len * 104 ≤ (len + (cap - len)) * 104 := Nat.mul_le_mul_right 104 (by omega)
      exact Nat.le_trans h1 (by omega)
    · have ha : a = ⟨a.block, a.off, none⟩ := by
        obtain ⟨cs0, h1, _⟩ := hi 0 (by omega)
        obtain ⟨_, h2, h3⟩ := World.cells?_some h1
        rw [cells49] at h2 h3
        match cs0, h2 with
        | c :: _, _ => exact addr_plain (a := a) (v := c) (by simpa [Addr.add] using h3 0 (by omega))
      obtain ⟨cs', h1, h2⟩ := hi i (by omega)
      obtain ⟨kd, id, kk, be, t0, t1, draw, xs, pa, pc, fa, fn, fc, ho⟩ := op_open h2 (fun k hk => hw k (by
        simp only [DataW.weights, Tryz.underlying24, List.mem_cons, List.mem_append]
        exact .inr (.inl (weights_all (List.mem_map.2 ⟨i, List.mem_range.2 hil, rfl⟩) k hk))))
      obtain ⟨_, _, h3⟩ := World.cells?_some h1
      rw [cells49] at h3
      refine ⟨a.block, a.off, by rw [← ha], kd, id, kk, be, t0, t1, draw, xs, pa, pc, fa, fn, fc, ?_⟩
      have hc : ∀ j v, j < 9 → cs'[j]? = some v → W.cell? ⟨a.block, a.off + i * 9 + j, none⟩ = some v := fun j v hj hv => by
        have := h3 j hj
        rw [ha, addr_at, addr_at] at this
        exact this.trans hv
      rw [ho.all] at hc
      exact ⟨hc 0 _ (by omega) rfl, hc 1 _ (by omega) rfl, hc 2 _ (by omega) rfl, hc 3 _ (by omega) rfl, hc 4 _ (by omega) rfl, hc 5 _ (by omega) rfl, hc 6 _ (by omega) rfl, hc 7 _ (by omega) rfl, hc 8 _ (by omega) rfl, ho.pt, ho.wf, ho.dr, ho.sz⟩
end
end Go.Proofs.YtpkiefjanmfgfaaGreatDoor
namespace Go.Proofs.YtpkiefjanmfgfaaGreatDoor
open Go.ChangeShapes Go.WideShapes Go.ChangeAt Go.RowKit

theorem knob : ownKnob Tryz.prog.godebug = none := by kernel_rfl
theorem errVar : Tryz.prog.globalNamed "errors.errorType" = some 0 := by kernel_rfl
theorem rtypeRow : (Tryz.prog.cutTypes.find? (·.1 == "internal/reflectlite.rtype")).map (·.2) = some 237 := by kernel_rfl
theorem errRow : ((List.range 313).filter fun t => Tryz.prog.rowNamed t [101, 114, 114, 111, 114]) = [104] := by kernel_rfl
theorem typesSize : Tryz.prog.types.size = 313 := by kernel_rfl
theorem read23 : Tryz.prog.readableRec 23 = true := by kernel_rfl
theorem read24 : Tryz.prog.readableRec 24 = true := by kernel_rfl

/-- What the row's list gives: the variable's one cell. -/
theorem handle_laid {W : World} (h : laidMetH Tryz.prog Rows.entriesRow.laid W) : Handle W := by
  have h' : laidMet Tryz.prog [] W ∧ handlesMet Tryz.prog Rows.entriesRow.laid W := h
  obtain ⟨name, u, ty, e1, e2, e3, e4, e5⟩ := h'.2 _ (List.mem_singleton.2 rfl)
  have en : name = [101, 114, 114, 111, 114] := (Option.some.inj e1).symm
  subst en
  obtain rfl := Option.some.inj (rtypeRow.symm.trans e2)
  have hm : ty ∈ (List.range 313).filter fun t => Tryz.prog.rowNamed t [101, 114, 114, 111, 114] := List.mem_filter.2 ⟨List.mem_range.2 (by rw [← typesSize]; exact e3), e4⟩
  rw [errRow] at hm
  obtain rfl := List.mem_singleton.1 hm
  have hh : typeHandle Tryz.prog 104 = .pointer (some ⟨1, 104, none⟩) := by kernel_rfl
  rw [hh] at e5
  unfold Handle
  simpa using World.var?_cell errVar e5 0

set_option maxRecDepth 100000 in
/-- The law, from what came in to what it leaves. -/
theorem entries_contract (H : Type) (enc : TypeId × Value → H) (W : World) (base : Nat) (args : Array Value) (ds gs : List (DataW H)) (before : List MemPlace)
    (hval : ∀ (j : Nat) t v, Tryz.f3.params[j]? = some t → args[j]? = some v → Value.okWide Tryz.prog W .any base t v)
    (hW : DataW.Whole enc Tryz.prog Tryz.f3.params.toList Rows.entriesSpec.vars false W args.toList ds gs before)
    (hz : (DataW.weightsEach Tryz.prog (Tryz.f3.params.toList ++ Rows.entriesSpec.plain.varTypes Tryz.prog) (ds ++ gs)).all (· ≤ reachBytes) = true) (hL : laidMetH Tryz.prog Rows.entriesRow.laid W) :
    Calls Tryz.prog 3 args W fun e W' => ∃ v, e = .returned v ∧ Rows.entriesSpec.post enc Tryz.prog Tryz.f3 false true false false W args v W' := by
  have hW' := hW
  obtain ⟨p, q, hA0, hV, rfl, hfz, hnd⟩ := hW
  have hA : DataW.TrodAll enc Tryz.prog W 0 (fun _ => true) true Tryz.f3.params.toList args.toList ds p := hA0
  rw [Tryz.params3] at hA hval hz
  obtain ⟨v0, vs0, d0, ds0, p0, q0, hargs, rfl, rfl, h0, r0⟩ := trodAll_cons hA
  obtain ⟨v1, vs1, d1, ds1, p1, q1, rfl, rfl, rfl, h1, r1⟩ := trodAll_cons r0
  obtain ⟨rfl, rfl, rfl⟩ := trodAll_nil r1
  obtain rfl : args = #[v0, v1] := by cases args; simp_all
  obtain ⟨rfl, rfl⟩ := trodVars_none hV
  have hlt := hW'.lt
  obtain ⟨a0, a1, a2, a3, a4, a5, rfl⟩ := cfg_open (hval 0 23 v0 rfl rfl) h0
  obtain ⟨sa, len, cap, rfl, hlc, hs⟩ := script_open (hval 1 24 v1 rfl rfl) h1 (fun k hk => by
    have := List.all_eq_true.1 hz k (DataW.weights_mem_each (j := 1) rfl rfl k hk)
    simpa using this)
  refine (entries3_any a0 a1 a2 a3 a4 a5 sa len cap W (handle_laid hL) hs hlc).mono fun e W' ⟨he, hb⟩ => ?_
  subst he
  refine ⟨_, rfl, _, _, _, [], p0 ++ (p1 ++ []), [], hW', ?_, ?_, ?_, hb.frame _, fun h => by cases h⟩
  · exact trodAll_cons_mk (shut_bool Tryz.underlying4 _) trodAll_mk0
  · exact trodAll_cons_mk (Below.trod laidOut read23 (by rw [typesSize]; decide) h0 hb (fun x hx => hlt x (by simp [hx]))) (trodAll_cons_mk (Below.trod laidOut read24 (by rw [typesSize]; decide) h1 hb (fun x hx => hlt x (by simp [hx]))) trodAll_mk0)
  · rfl

/-- A world for the witness: the settled one, the variable's cell laid. -/
noncomputable def laidWorld (os : Os) : World :=
  let w0 := World.holding Tryz.prog os ⟨#[], #[], []⟩
  { w0 with heap := w0.heap.modify 0 fun
      | .cells _ t frozen => .cells #[.iface 237 (.agg #[.pointer (some ⟨1, 104, none⟩)])] t frozen
      | o => o }
noncomputable def noArgs : Array Value := #[.agg #[.int .i64 0, .int .i64 0, .int .i64 0, .int .i64 0, .int .i64 0, .int .i64 0], .slice none 0 0]
theorem laid_met (os : Os) : laidMetH Tryz.prog Rows.entriesRow.laid ((laidWorld os).forCall (fun _ _ => 0) ⟨#[], noArgs, []⟩).memory :=
  laidMetH_of_parts (laidMet_nil _ _) (by kernel_rfl)
theorem reads_none (os : Os) {H : Type} (enc : TypeId × Value → H) : ∃ places, DataW.whole enc Tryz.prog ((laidWorld os).forCall (fun _ _ => 0) ⟨#[], noArgs, []⟩).memory Tryz.f3.params.toList Rows.entriesSpec.vars false noArgs.toList 8 = some ([.agg [.lit (.int .i64 0), .lit (.int .i64 0), .lit (.int .i64 0), .lit (.int .i64 0), .lit (.int .i64 0), .lit (.int .i64 0)], .nil], [], places) :=
  ⟨[], by kernel_rfl⟩

set_option maxRecDepth 100000 in
theorem entries_lifted (os : Os) (started : os.Started) (H : Type) (enc : TypeId × Value → H) (F : Stop.Interp) :
    ReturnsInHanded {} Tryz.checked os 3 .any ((OpenSpec.ofChange Rows.entriesSpec).preRow enc Tryz.prog Tryz.f3 Rows.entriesRow.domain false Rows.entriesRow.laid) (((OpenSpec.ofChange Rows.entriesSpec).at F).post enc Tryz.prog Tryz.f3 false true false false) := by
  obtain ⟨places, hx⟩ := reads_none os enc
  refine returnsInHanded_of_row (C := Tryz.checked) (s := OpenSpec.ofChange Rows.entriesSpec) knob started (by kernel_rfl) Tryz.func3
    (witness_row_at (enc := enc) (C := Tryz.checked) false (laidWorld os) noArgs rfl (by kernel_rfl) (by kernel_rfl) (by kernel_rfl)
      (OpenSpec.preRow_of_cond 8 hx (by kernel_rfl) (fun k hk => by cases hk) (by kernel_rfl) (laid_met os))) ?_
  intro W base args ds gs before hval hW _ _ hz hL _ _
  exact entries_contract H enc W base args ds gs before hval hW hz hL

set_option maxRecDepth 100000 in
theorem entries_said : Rows.EntriesSaid :=
  OpenClaim.holds_of_cond 3 Tryz.f3 rfl rfl rfl rfl rfl rfl rfl ⟨rfl, rfl, rfl, rfl, rfl⟩ rfl rfl rfl rfl rfl (by kernel_rfl) Tryz.func3 (by kernel_rfl)
    (of_decide_eq_true (by kernel_rfl)) (by unfold Func.isWrapper; first | (rw [if_pos (by decide +kernel)]; kernel_rfl) | (rw [if_neg (by decide +kernel)]; exact ⟨rfl, rfl⟩))
    (fun os started H enc _ F => by rw [OpenClaim.pre_eq_preRow]; exact entries_lifted os started H enc F)

/-- No parameter wants a stand-in; the program's own looks are on: what the card asks. -/
theorem entries_plain (f : FuncId) (fn : Func) (hf : Tryz.pinned.checked.prog.funcNamed "nearby/nearbylaw.Entries" = some f) (hfn : Tryz.pinned.checked.prog.funcs[f]? = some fn) :
    true = Tryz.pinned.checked.prog.looks [] ∧ ∀ (j : Nat) t, fn.params[j]? = some t → Tryz.pinned.checked.prog.wantsStandIn t = false := by
  obtain rfl : f = 3 := Option.some.inj ((show Tryz.prog.funcNamed "nearby/nearbylaw.Entries" = some 3 by kernel_rfl).symm.trans hf) |>.symm
  obtain rfl : fn = Tryz.f3 := (Option.some.inj (Tryz.func3.symm.trans hfn)).symm
  refine ⟨by kernel_rfl, fun j t ht => ?_⟩
  rw [Tryz.params3] at ht
  have hm := Array.mem_of_getElem? ht
  simp at hm
  rcases hm with rfl | rfl
  · exact (show Tryz.prog.wantsStandIn 23 = false by kernel_rfl)
  · exact (show Tryz.prog.wantsStandIn 24 = false by kernel_rfl)

/-- The card. -/
theorem entries_card : Rows.EntriesCardSaid :=
  Claim7.holds_tied_plain_at .later [] _ _ _ _ entries_said (fun _ h => by cases h) (by kernel_rfl) (fun _ h => by cases h) entries_row_tie rfl ⟨rfl, rfl⟩ (by kernel_rfl) rfl entries_plain (by kernel_rfl)
end Go.Proofs.YtpkiefjanmfgfaaGreatDoor
namespace Go.Proofs.YtpkiefjanmfgfaaGreatDoor
open Go.RowKit Go.Extern.Stop Go.Stop Go.Extern

set_option maxHeartbeats 8000000 in
set_option maxRecDepth 10000 in
theorem as69_three (s s2 s3 : ByteArray) (n n2 n3 r : Int) (t a : Addr) (old : Value) (w : World) (ha : w.cell? a = some (.pointer (some t))) (ht0 : w.cell? t = some old) (hf0 : w.frozen? t = false) :
    Calls Tryz.prog 132 #[.iface 158 (.agg #[.string s, .int .i64 n, .iface 158 (.agg #[.string s2, .int .i64 n2, .iface 158 (.agg #[.string s3, .int .i64 n3, .iface 156 (.int .i64 r)])])]), .iface 160 (.pointer (some t)), .agg #[.pointer (some ⟨1, 160, none⟩), .pointer (some a), .int .u64 150], .iface 237 (.agg #[.pointer (some ⟨1, 156, none⟩)])] w
      fun ev w' => ev = .returned (.bool true) ∧ ∃ o1 o2 o3 o4 o5, w' = (((((w.alloc o1).alloc o2).alloc o3).alloc o4).alloc o5).setCell t (.int .i64 r) := by
  have h66 := @run_callFunc_extern Tryz.prog 129 _ (fun args => ReflectliteValue.unpack (args.getD 0 (.tuple #[]))) Tryz.func129 (by kernel_rfl) (by kernel_rfl) (by kernel_rfl) (by kernel_rfl)
  have h73 := @run_callFunc_extern Tryz.prog 158 _ ReflectliteType.typeOf Tryz.func158 (by kernel_rfl) (by kernel_rfl) (by kernel_rfl) (by kernel_rfl)
  have h101 := @run_callFunc_extern Tryz.prog 226 _ (ReflectliteType.relation "AssignableTo" ReflectliteType.assignableTo) Tryz.func226 (by kernel_rfl) (by kernel_rfl) (by kernel_rfl) (by kernel_rfl)
  have h74 := @run_callFunc_extern Tryz.prog 159 _ (ReflectliteValue.method (ReflectliteValue.valueError "reflectlite.Value.Elem" 0) ReflectliteValue.elem) Tryz.func159 (by kernel_rfl) (by kernel_rfl) (by kernel_rfl) (by kernel_rfl)
  have h75 := @run_callFunc_extern Tryz.prog 160 _ ReflectliteValue.set Tryz.func160 (by kernel_rfl) (by kernel_rfl) (by kernel_rfl) (by kernel_rfl)
  have f1 := typeOf115
  have f2 := typeOf117
  have f3 := methodAssignableTo
  have f4 := assignable115
  have f5 := assignable117
  have f6 := valueOf115
  have f16 := noAs117
  have f17 := hasUnwrap117
  have f18 := methodUnwrap
  have hal := block_lt_of_cell ha
  have htl := block_lt_of_cell ht0
  have ca : ∀ o1 o2 o3 o4, ((((w.alloc o1).alloc o2).alloc o3).alloc o4).cell? a = some (.pointer (some t)) := fun o1 o2 o3 o4 => by
    rw [World.cell?_alloc_lt _ _ a (by simp; omega), World.cell?_alloc_lt _ _ a (by simp; omega), World.cell?_alloc_lt _ _ a (by simp; omega), World.cell?_alloc_lt _ _ a hal]; exact ha
  have el := fun o1 o2 o3 o4 => elemV119 a t _ (ca o1 o2 o3 o4)
  have st := fun o1 o2 o3 o4 => set115 t ⟨w.heap.size + 1 + 1 + 1 + 1, 0, none⟩ r old (((((w.alloc o1).alloc o2).alloc o3).alloc o4).alloc (.cells #[.int .i64 r] 156))
    (by rw [World.cell?_alloc_at _ _ _ _ (by simp)]; rfl)
    (by rw [World.cell?_alloc_lt _ _ t (by simp; omega), World.cell?_alloc_lt _ _ t (by simp; omega), World.cell?_alloc_lt _ _ t (by simp; omega), World.cell?_alloc_lt _ _ t (by simp; omega), World.cell?_alloc_lt _ _ t htl]; exact ht0)
    (by rw [World.frozen?_alloc_old _ _ t (by simp; omega), World.frozen?_alloc_old _ _ t (by simp; omega), World.frozen?_alloc_old _ _ t (by simp; omega), World.frozen?_alloc_old _ _ t (by simp; omega), World.frozen?_alloc_old _ _ t (by omega)]; exact hf0)
  clear ca
  go_enter Tryz.func132, Tryz.ntmps132
  go_wp2
  refine wp_loop_rounds 4 ?_
  rw [rounds_succ]
  go_wp2
  rw [rounds_succ]
  go_wp2
  rw [rounds_succ]
  go_wp2
  rw [rounds_succ]
  go_wp2
  go_ret
  exact ⟨rfl, _, _, _, _, _, rfl⟩

set_option maxHeartbeats 8000000 in
set_option maxRecDepth 10000 in
theorem as_three (s s2 s3 : ByteArray) (n n2 n3 r : Int) (t : Addr) (old : Value) (w : World) (hg : w.cell? ⟨0, 0, none⟩ = some (.iface 237 (.agg #[.pointer (some ⟨1, 104, none⟩)]))) (ht0 : w.cell? t = some old) (hf0 : w.frozen? t = false) :
    Calls Tryz.prog 87 #[.iface 158 (.agg #[.string s, .int .i64 n, .iface 158 (.agg #[.string s2, .int .i64 n2, .iface 158 (.agg #[.string s3, .int .i64 n3, .iface 156 (.int .i64 r)])])]), .iface 160 (.pointer (some t))] w fun ev w' => ev = .returned (.bool true) ∧ w'.cell? t = some (.int .i64 r) ∧ Below t.block w w' := by
  have h66 := @run_callFunc_extern Tryz.prog 129 _ (fun args => ReflectliteValue.unpack (args.getD 0 (.tuple #[]))) Tryz.func129 (by kernel_rfl) (by kernel_rfl) (by kernel_rfl) (by kernel_rfl)
  have h67 := @run_callFunc_extern Tryz.prog 130 _ (ReflectliteValue.methodAny (ReflectliteValue.valueError "reflectlite.Value.Type" 0) (fun t _ _ _ => ReflectliteType.toType t)) Tryz.func130 (by kernel_rfl) (by kernel_rfl) (by kernel_rfl) (by kernel_rfl)
  have h68 := @run_callFunc_extern Tryz.prog 131 _ (ReflectliteValue.method (ReflectliteValue.valueError "reflectlite.Value.IsNil" 0) ReflectliteValue.isNil) Tryz.func131 (by kernel_rfl) (by kernel_rfl) (by kernel_rfl) (by kernel_rfl)
  have h91 := @run_callFunc_extern Tryz.prog 216 _ (ReflectliteType.abiMethod fun t => do pure (.int .u8 (← Rtype.kind t))) Tryz.func216 (by kernel_rfl) (by kernel_rfl) (by kernel_rfl) (by kernel_rfl)
  have h103 := @run_callFunc_extern Tryz.prog 228 _ (ReflectliteType.method ReflectliteType.elem) Tryz.func228 (by kernel_rfl) (by kernel_rfl) (by kernel_rfl) (by kernel_rfl)
  have h104 := @run_callFunc_extern Tryz.prog 229 _ (ReflectliteType.relation "Implements" ReflectliteType.implements_) Tryz.func229 (by kernel_rfl) (by kernel_rfl) (by kernel_rfl) (by kernel_rfl)
  have f7 := valueOf119
  have f8 := type119
  have f9 := methodKind
  have f10 := methodElem
  have f11 := methodImplements
  have f12 := kind119
  have f13 := kind115
  have f14 := elem119
  have f15 := implements115
  have hlt := block_lt_of_cell hg
  have htl := block_lt_of_cell ht0
  have n8 := isNil119 ⟨w.heap.size, 0, none⟩ t ((w.alloc (.cells #[.pointer (some t)] 160)).alloc (.cells #[.pointer (some ⟨1, 160, none⟩), .pointer (some ⟨w.heap.size, 0, none⟩), .int .u64 150] 207)) (by simp)
  have hg2 : ((w.alloc (.cells #[.pointer (some t)] 160)).alloc (.cells #[.pointer (some ⟨1, 160, none⟩), .pointer (some ⟨w.heap.size, 0, none⟩), .int .u64 150] 207)).cell? ⟨0, 0, none⟩ = some (.iface 237 (.agg #[.pointer (some ⟨1, 104, none⟩)])) := by
    rw [World.cell?_alloc_lt _ _ ⟨0, 0, none⟩ (by simp), World.cell?_alloc_lt _ _ ⟨0, 0, none⟩ hlt]; exact hg
  go_enter Tryz.func87, Tryz.ntmps87
  go_wp2_with fail
  refine (as69_three s s2 s3 n n2 n3 r t ⟨w.heap.size, 0, none⟩ old _ ?c1 ?c2 ?c3).mono ?_
  case c1 => simp
  case c2 => rw [World.cell?_alloc_lt _ _ t (by first | omega | (simp; omega)), World.cell?_alloc_lt _ _ t htl]; exact ht0
  case c3 => rw [World.frozen?_alloc_old _ _ t (by first | omega | (simp; omega)), World.frozen?_alloc_old _ _ t (by omega)]; exact hf0
  rintro e w' ⟨rfl, o1, o2, o3, o4, o5, rfl⟩
  go_wp2
  go_ret
  refine ⟨rfl, World.cell?_setCell_same _ _ _ (u := old) ?_, ?_⟩
  · rw [World.cell?_alloc_lt _ _ t (by first | omega | (simp; omega)), World.cell?_alloc_lt _ _ t (by first | omega | (simp; omega)), World.cell?_alloc_lt _ _ t (by first | omega | (simp; omega)), World.cell?_alloc_lt _ _ t (by first | omega | (simp; omega)), World.cell?_alloc_lt _ _ t (by first | omega | (simp; omega)), World.cell?_alloc_lt _ _ t (by first | omega | (simp; omega)), World.cell?_alloc_lt _ _ t htl]; exact ht0
  · refine Below.setCell ?_ (Nat.le_refl _) _
    exact Below.alloc (Below.alloc (Below.alloc (Below.alloc (Below.alloc (Below.alloc (Below.alloc (Below.refl _ _) (by first | omega | (simp; omega)) _) (by first | omega | (simp; omega)) _) (by first | omega | (simp; omega)) _) (by first | omega | (simp; omega)) _) (by first | omega | (simp; omega)) _) (by first | omega | (simp; omega)) _) (by first | omega | (simp; omega)) _

set_option maxHeartbeats 1000000 in
theorem errno_three (s s2 s3 : ByteArray) (n n2 n3 r : Int) (w : World) (hg : Handle w) :
    Calls Tryz.prog 43 #[.iface 158 (.agg #[.string s, .int .i64 n, .iface 158 (.agg #[.string s2, .int .i64 n2, .iface 158 (.agg #[.string s3, .int .i64 n3, .iface 156 (.int .i64 r)])])])] w fun e w' => e = .returned (.int .i64 r) ∧ Below w.heap.size w w' := by
  go_enter Tryz.func43, Tryz.ntmps43
  go_wp2_with fail
  refine (as_three s s2 s3 n n2 n3 r ⟨w.heap.size, 0, none⟩ (.int .i64 0) _ (hg.alloc _) ?c2 ?c3).mono ?_
  case c2 => simp
  case c3 => simp
  rintro e w1 ⟨rfl, hc, hb⟩
  go_wp2
  go_ret
  exact ⟨rfl, ((Below.refl _ _).alloc (Nat.le_refl _) _).trans hb⟩
end Go.Proofs.YtpkiefjanmfgfaaGreatDoor
