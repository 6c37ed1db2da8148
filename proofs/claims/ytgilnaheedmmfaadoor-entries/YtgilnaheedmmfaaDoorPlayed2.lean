import Derived.Test.YtgilnaheedmmfaaDoorPlayed
namespace Go.Proofs.YtgilnaheedmmfaaDoor
open Go.RowKit Go.Maps

set_option maxHeartbeats 2000000 in
set_option maxRecDepth 20000 in
theorem played7_yes (d c l m b t : Int) (sa : Option Addr) (len cap : Nat) (w : World) (hg : Handle w) (hc : cfgB d c l m b t = true) (hs : ScriptAt w sa len) (hlc : len ≤ cap) :
    Calls Tryd.prog 7 #[.agg #[.int .i64 d, .int .i64 c, .int .i64 l, .int .i64 m, .int .i64 b, .int .i64 t], .slice sa len cap, .int .i64 4] w fun ev w' => ev = .returned (.bool true) ∧ Below w.heap.size w w' := by
  have HC := hide hc
  have HS := hide hs
  have hsz : len ≤ 1353245080339 := by have := hs.sz; omega
  clear hc hs
  go_enter Tryd.func7, Tryd.ntmps7
  go_wp2_with fail
  refine (awake8_any _ (hg.alloc _)).mono ?_
  rintro ev w1 ⟨rfl, hb1⟩
  have k0 : w1.cell? ⟨w.heap.size, 0, none⟩ = some (.int .i64 d) := Below.at hb1 (by simp) (by simp)
  have k1 : w1.cell? ⟨w.heap.size, 1, none⟩ = some (.int .i64 c) := Below.at hb1 (by simp) (by simp)
  have k2 : w1.cell? ⟨w.heap.size, 2, none⟩ = some (.int .i64 l) := Below.at hb1 (by simp) (by simp)
  have k3 : w1.cell? ⟨w.heap.size, 3, none⟩ = some (.int .i64 m) := Below.at hb1 (by simp) (by simp)
  have k4 : w1.cell? ⟨w.heap.size, 4, none⟩ = some (.int .i64 b) := Below.at hb1 (by simp) (by simp)
  have k5 : w1.cell? ⟨w.heap.size, 5, none⟩ = some (.int .i64 t) := Below.at hb1 (by simp) (by simp)
  have hbw : Below w.heap.size w w1 := ((Below.refl _ _).alloc (Nat.le_refl _) _).trans (hb1.mono (by simp))
  have HBW := hide hbw
  clear hb1 hbw
  go_wp2_with fail
  refine (begun9_yes w d c l m b t w1 (hg.below HBW.out) HBW.out hg.lt HC.out).mono ?_
  rintro ev w2 ⟨bp, bb, bs, bm, br, rfl, hp2⟩
  have HP2 := hide hp2
  clear hp2 k0 k1 k2 k3 k4 k5
  go_wp2
  go_loopw [9, 10] (fun ok iv wr => ∃ (k : Nat) (la : Option Addr) (lc : Nat) (nsv nmv : Value) (nn : Nat) (L : List Ent), k ≤ len ∧ iv = .int .i64 k ∧ ok = .bool true ∧ nn ≤ 4 * k ∧ Hid (PairAt w wr bp bb bs bm br d c la lc nsv nmv nn L L)) (fun _ iv _ => len - (intOf iv).toNat)
  case atStart => exact ⟨0, _, _, _, _, 0, [], Nat.zero_le _, rfl, rfl, Nat.le_refl _, HP2.out⟩
  case round =>
    obtain ⟨k, la, lc, nsv, nmv, nn, L, hk, rfl, rfl, hnn, HP⟩ := hrel
    by_cases hlt : k < len
    · obtain ⟨b', off, rfl, kd, id, kk, be, t0, t1, draw, xs, pa, pc, fa, fn, fc, ho⟩ := HS.out.op k hlt
      have hor := ho.below HP.out.old
      have HO := hide ho
      have c0 := hor.c0
      have c1 := hor.c1
      have c2 := hor.c2
      have c3 := hor.c3
      have c4 := hor.c4
      have c5 := hor.c5
      have c6 := hor.c6
      have c7 := hor.c7
      have c8 := hor.c8
      have HNN : Hid ((nn + 4) * 24 ≤ 140737488355328) := by
        have h1 : (nn + 4) * 24 ≤ (4 * len) * 24 := Nat.mul_le_mul_right 24 (by omega)
        have h2 := HS.out.sz
        exact Nat.le_trans h1 (by omega)
      clear ho hor
      by_cases hkd : kd ≤ 4
      · have hd4 : decide (kd ≤ 4) = true := by simpa using hkd
        go_wp2_with fail
        refine (step10_any w wr bp bb bs bm br d c la lc nsv nmv nn L kd id kk be t0 t1 draw xs pa pc fa fn fc HP.out HO.out.pt HO.out.wf HO.out.sz HNN.out hkd).mono ?_
        rintro ev w5 ⟨rfl, la5, lc5, nsv5, nmv5, nn5, L5, hn5, hp5⟩
        have HP5 := hide hp5
        clear hp5 c0 c1 c2 c3 c4 c5 c6 c7 c8
        go_wp2
        exact ⟨⟨k + 1, la5, lc5, nsv5, nmv5, nn5, L5, by omega, by go_num, rfl, by omega, HP5.out⟩, by simp [intOf]; omega⟩
      · have hd4 : decide (kd ≤ 4) = false := by simpa using hkd
        go_wp2
        exact ⟨⟨k + 1, la, lc, nsv, nmv, nn, L, by omega, by go_num, rfl, by omega, HP⟩, by simp [intOf]; omega⟩
    · obtain rfl : k = len := by omega
      go_wp2
      go_ret
      exact ⟨rfl, HP.out.old⟩

set_option maxHeartbeats 2000000 in
set_option maxRecDepth 20000 in
/-- The law, over every script. -/
theorem entries3_any (d c l m b t : Int) (sa : Option Addr) (len cap : Nat) (w : World) (hg : Handle w) (hs : ScriptAt w sa len) (hlc : len ≤ cap) :
    Calls Tryd.prog 3 #[.agg #[.int .i64 d, .int .i64 c, .int .i64 l, .int .i64 m, .int .i64 b, .int .i64 t], .slice sa len cap] w fun ev w' => ev = .returned (.bool true) ∧ Below w.heap.size w w' := by
  have HS := hide hs
  clear hs
  go_enter Tryd.func3, Tryd.ntmps3
  go_wp2_with fail
  have key : ∀ o, Calls Tryd.prog 7 #[.agg #[.int .i64 d, .int .i64 c, .int .i64 l, .int .i64 m, .int .i64 b, .int .i64 t], .slice sa len cap, .int .i64 4] (w.alloc o) fun ev w' => ev = .returned (.bool true) ∧ Below (w.alloc o).heap.size (w.alloc o) w' := fun o => by
    cases hc : cfgB d c l m b t
    · exact played7_no d c l m b t sa len cap _ (hg.alloc o) hc
    · exact played7_yes d c l m b t sa len cap _ (hg.alloc o) hc (HS.out.below ((Below.refl _ _).alloc (Nat.le_refl _) o)) hlc
  refine (key _).mono ?_
  rintro ev w1 ⟨rfl, hb1⟩
  have hb : Below w.heap.size w w1 := ((Below.refl _ _).alloc (Nat.le_refl _) _).trans (hb1.mono (by simp))
  have HB := hide hb
  clear hb hb1 key
  go_wp2
  go_ret
  exact ⟨rfl, HB.out⟩
end Go.Proofs.YtgilnaheedmmfaaDoor
