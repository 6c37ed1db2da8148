import Derived.Test.YtgilnaheedmmfaaDoorAwake
namespace Go.Proofs.YtgilnaheedmmfaaDoor
open Go.RowKit Go.Maps

/-- One step of a script, in its nine cells. -/
structure OpAt (w : World) (b o : Nat) (kd id kk be t0 t1 draw : Int) (xs : List Int) (pa : Option Addr) (pc : Nat) (fa : Option Addr) (fn fc : Nat) : Prop where
  c0 : w.cell? ⟨b, o, none⟩ = some (.int .i64 kd)
  c1 : w.cell? ⟨b, o + 1, none⟩ = some (.int .i64 id)
  c2 : w.cell? ⟨b, o + 2, none⟩ = some (.int .i64 kk)
  c3 : w.cell? ⟨b, o + 3, none⟩ = some (.int .i64 be)
  c4 : w.cell? ⟨b, o + 4, none⟩ = some (.slice pa xs.length pc)
  c5 : w.cell? ⟨b, o + 5, none⟩ = some (.int .i64 t0)
  c6 : w.cell? ⟨b, o + 6, none⟩ = some (.int .i64 t1)
  c7 : w.cell? ⟨b, o + 7, none⟩ = some (.int .u64 draw)
  c8 : w.cell? ⟨b, o + 8, none⟩ = some (.slice fa fn fc)
  pt : IntsAt w (.slice pa xs.length pc) xs
  wf : I64 id
  sz : (xs.length + 6) * 8 ≤ 140737488355328
/-- A script. -/
structure ScriptAt (w : World) (a : Option Addr) (len : Nat) : Prop where
  sz : len * 104 ≤ 140737488355328
  op : ∀ i, i < len → ∃ b off, a = some ⟨b, off, none⟩ ∧ ∃ kd id kk be t0 t1 draw xs pa pc fa fn fc, OpAt w b (off + i * 9) kd id kk be t0 t1 draw xs pa pc fa fn fc
theorem OpAt.below {w w' : World} {b o : Nat} {kd id kk be t0 t1 draw : Int} {xs : List Int} {pa : Option Addr} {pc : Nat} {fa : Option Addr} {fn fc : Nat} (h : OpAt w b o kd id kk be t0 t1 draw xs pa pc fa fn fc) (hb : Below w.heap.size w w') : OpAt w' b o kd id kk be t0 t1 draw xs pa pc fa fn fc :=
  have hl := block_lt_of_cell h.c0
  ⟨Below.at hb h.c0 hl, Below.at hb h.c1 hl, Below.at hb h.c2 hl, Below.at hb h.c3 hl, Below.at hb h.c4 hl, Below.at hb h.c5 hl, Below.at hb h.c6 hl, Below.at hb h.c7 hl, Below.at hb h.c8 hl, h.pt.below hb, h.wf, h.sz⟩
theorem ScriptAt.below {w w' : World} {a : Option Addr} {len : Nat} (h : ScriptAt w a len) (hb : Below w.heap.size w w') : ScriptAt w' a len :=
  ⟨h.sz, fun i hi => by
    obtain ⟨b, off, e, kd, id, kk, be, t0, t1, draw, xs, pa, pc, fa, fn, fc, ho⟩ := h.op i hi
    exact ⟨b, off, e, kd, id, kk, be, t0, t1, draw, xs, pa, pc, fa, fn, fc, ho.below hb⟩⟩

set_option maxHeartbeats 2000000 in
set_option maxRecDepth 20000 in
theorem played7_no (d c l m b t : Int) (sa : Option Addr) (len cap : Nat) (w : World) (hg : Handle w) (hc : cfgB d c l m b t = false) :
    Calls Tryd.prog 7 #[.agg #[.int .i64 d, .int .i64 c, .int .i64 l, .int .i64 m, .int .i64 b, .int .i64 t], .slice sa len cap, .int .i64 4] w fun ev w' => ev = .returned (.bool true) ∧ Below w.heap.size w w' := by
  have HC := hide hc
  clear hc
  go_enter Tryd.func7, Tryd.ntmps7
  go_wp2_with fail
  refine (awake8_any _ (hg.alloc _)).mono ?_
  rintro ev w1 ⟨rfl, hb1⟩
  have k0 : w1.cell? ⟨w.heap.size, 0, none⟩ = some (.int .i64 d) := Below.at hb1 (by simp) (by simp)
  have k1 : w1.cell? ⟨w.heap.size, 1, none⟩ = some (.int .i64 c) := Below.at hb1 (by simp) (by simp)
  have k2 : w1.cell? ⟨w.heap.size, 2, none⟩ = some (.int .i64 l) := Below.at hb1 (by simp) (by simp)
  have k3 : w1.cell? ⟨w.heap.size, 3, none⟩ = some (.int .i64 m) := Below.at hb1 (by simp) (by simp)
  have k4 : w1.cell? ⟨w.heap.size, 4, none⟩ = some (.int .i64 b) := Below.at hb1 (by simp) (by simp)
  have k5 : w1.cell? ⟨w.heap.size, 5, none⟩ = some (.int .i64 t) := Below.at hb1 (by simp) (by simp)
  have hbw : Below w.heap.size w w1 := ((Below.refl _ _).alloc (Nat.le_refl _) _).trans (hb1.mono (by simp))
  have HBW := hide hbw
  clear hb1 hbw
  go_wp2_with fail
  refine (begun9_no d c l m b t w1 (hg.below HBW.out) HC.out).mono ?_
  rintro ev w2 ⟨rfl, hb2⟩
  have HB2 := hide hb2
  clear hb2
  go_wp2
  refine wp_loop_rounds 1 ?_
  rw [rounds_succ]
  go_wp2
  go_ret
  exact ⟨rfl, HBW.out.trans (HB2.out.mono HBW.out.size)⟩
end Go.Proofs.YtgilnaheedmmfaaDoor
