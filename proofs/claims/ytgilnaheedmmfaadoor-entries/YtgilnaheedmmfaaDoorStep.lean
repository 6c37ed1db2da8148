import Derived.Test.YtgilnaheedmmfaaDoorGets
namespace Go.Proofs.YtgilnaheedmmfaaDoor
open Go.RowKit Go.Maps

section
variable {W0 w w1 w2 : World} {bp bb bs bm br X : Nat} {dim cap id : Int} {la : Option Addr} {lc : Nat} {nsv nmv : Value} {nn : Nat} {L : List Ent} {cs : Array Value}
theorem del_base (h : PairAt W0 w bp bb bs bm br dim cap la lc nsv nmv nn L L) (hX : w.heap[X]? = some (.cells cs 49 (0, 0))) (hk : Kept (fun k => k = bm) w.drew w1) (hB : BaseAt w1 bb bs bm dim cap (delE id L)) :
    PairAt W0 w1 bp bb bs bm br dim cap la lc nsv nmv nn (delE id L) L ∧ w1.heap[X]? = some (.cells cs 49 (0, 0)) := by
  have hk' : Kept (fun k => k = bm) w w1 := (Kept.refl _ w).drew.trans hk (fun _ _ h => h)
  obtain ⟨p0, p1, p4, p5, bk, rf, tb, ts, old⟩ := h.turned hk'
  refine ⟨⟨p0, p1, p4, p5, bk, hB, rf, tb, ts, ⟨fun e he e1 => ?_, h.am.2⟩, old, h.pos, h.lbp, h.lbm, h.lbr, h.lla, h.lns, h.lnm, h.d1, h.d8, h.c60⟩, (hk'.block X (Array.getElem?_eq_some_iff.1 hX).1 (h.base.map.mb_ne hX)).trans hX⟩
  exact h.am.1 e (mem_delE he) e1
theorem del_ref {la' : Option Addr} {lc' : Nat} (h : PairAt W0 w bp bb bs bm br dim cap la lc nsv nmv nn (delE id L) L) (hX : w.heap[X]? = some (.cells cs 49 (0, 0))) (hR : RefAt w1 br dim cap la' lc' (delE id L)) (hl : ∀ g, (Value.slice la' (delE id L).length lc').ownBlock = some g → w.drew.heap.size ≤ g) (hk : Kept (fun k => k = br) w.drew w1) :
    PairAt W0 w1 bp bb bs bm br dim cap la' lc' nsv nmv nn (delE id L) (delE id L) ∧ w1.heap[X]? = some (.cells cs 49 (0, 0)) := by
  have hk' : Kept (fun k => k = br) w w1 := (Kept.refl _ w).drew.trans hk (fun _ _ h => h)
  obtain ⟨cr, hcr⟩ := h.ref.typ
  refine ⟨h.refTurned (hk'.mono fun k _ e => .inl e) hR (fun g hg => Nat.le_trans h.old.size (hl g hg)) (fun e he => h.am.2 e (mem_delE he)), (hk'.block X (Array.getElem?_eq_some_iff.1 hX).1 (ne_of_elem hX hcr (by decide))).trans hX⟩
end

set_option maxHeartbeats 2000000 in
set_option maxRecDepth 20000 in
theorem step10_put (W0 w : World) (bp bb bs bm br : Nat) (dim cap : Int) (la : Option Addr) (lc : Nat) (nsv nmv : Value) (nn : Nat) (L : List Ent) (id kk be t0 t1 draw : Int) (xs : List Int) (pa : Option Addr) (pc : Nat) (fa : Option Addr) (fn fc : Nat)
    (h : PairAt W0 w bp bb bs bm br dim cap la lc nsv nmv nn L L) (hv : IntsAt W0 (.slice pa xs.length pc) xs) (hid : I64 id) (hn : (xs.length + 6) * 8 ≤ 140737488355328) (hnn : (nn + 4) * 24 ≤ 140737488355328) :
    Calls Tryd.prog 10 #[.pointer (some ⟨bp, 0, none⟩), .agg #[.int .i64 1, .int .i64 id, .int .i64 kk, .int .i64 be, .slice pa xs.length pc, .int .i64 t0, .int .i64 t1, .int .u64 draw, .slice fa fn fc]] w fun ev w' => ev = .returned (.bool true) ∧ StepOk W0 bp bb bs bm br dim cap nn w' := by
  have H := hide h
  have HV := hide hv
  have HN := hide hn
  have HNN := hide hnn
  clear h hv hn hnn
  go_enter Tryd.func10, Tryd.ntmps10
  go_wp2_with fail
  refine (puts18_any W0 _ bp bb bs bm br dim cap la lc nsv nmv nn L 1 id kk be t0 t1 draw xs pa pc _ ⟨_, _, _, rfl⟩ (H.out.alloc _) HV.out hid HN.out HNN.out).mono ?_
  rintro ev w1 ⟨rfl, hs⟩
  go_wp2
  go_ret
  exact ⟨rfl, hs⟩

set_option maxHeartbeats 2000000 in
set_option maxRecDepth 20000 in
theorem step10_get (W0 w : World) (bp bb bs bm br : Nat) (dim cap : Int) (la : Option Addr) (lc : Nat) (nsv nmv : Value) (nn : Nat) (L : List Ent) (id kk be t0 t1 draw : Int) (pn : Nat) (pa : Option Addr) (pc : Nat) (fa : Option Addr) (fn fc : Nat)
    (h : PairAt W0 w bp bb bs bm br dim cap la lc nsv nmv nn L L) (hid : I64 id) (hnn : (nn + 4) * 24 ≤ 140737488355328) :
    Calls Tryd.prog 10 #[.pointer (some ⟨bp, 0, none⟩), .agg #[.int .i64 2, .int .i64 id, .int .i64 kk, .int .i64 be, .slice pa pn pc, .int .i64 t0, .int .i64 t1, .int .u64 draw, .slice fa fn fc]] w fun ev w' => ev = .returned (.bool true) ∧ StepOk W0 bp bb bs bm br dim cap nn w' := by
  have H := hide h
  have HNN := hide hnn
  clear h hnn
  go_enter Tryd.func10, Tryd.ntmps10
  go_wp2_with fail
  refine (gets19_all W0 _ bp bb bs bm br dim cap la lc nsv nmv nn L 2 id kk be t0 t1 draw _ _ (H.out.alloc _) hid HNN.out).mono ?_
  rintro ev w1 ⟨rfl, hs⟩
  go_wp2
  go_ret
  exact ⟨rfl, hs⟩

set_option maxHeartbeats 2000000 in
set_option maxRecDepth 20000 in
theorem step10_count (W0 w : World) (bp bb bs bm br : Nat) (dim cap : Int) (la : Option Addr) (lc : Nat) (nsv nmv : Value) (nn : Nat) (L : List Ent) (id kk be t0 t1 draw : Int) (pn : Nat) (pa : Option Addr) (pc : Nat) (fa : Option Addr) (fn fc : Nat)
    (h : PairAt W0 w bp bb bs bm br dim cap la lc nsv nmv nn L L) :
    Calls Tryd.prog 10 #[.pointer (some ⟨bp, 0, none⟩), .agg #[.int .i64 4, .int .i64 id, .int .i64 kk, .int .i64 be, .slice pa pn pc, .int .i64 t0, .int .i64 t1, .int .u64 draw, .slice fa fn fc]] w fun ev w' => ev = .returned (.bool true) ∧ StepOk W0 bp bb bs bm br dim cap nn w' := by
  have H := hide h
  have hp0 := h.p0
  have hp1 := h.p1
  have hr6 := h.ref.r6
  have hbp := h.book.lt
  have hbr := h.ref.lt
  clear h
  go_enter Tryd.func10, Tryd.ntmps10
  go_wp2_with fail
  refine (count15_any bb bs bm dim cap L _ (H.out.alloc _).base).mono ?_
  rintro ev w1 ⟨rfl, rfl⟩
  go_wp2
  go_ret
  exact ⟨rfl, _, _, _, _, _, _, Nat.le_add_right _ _, H.out.alloc _⟩

set_option maxHeartbeats 2000000 in
set_option maxRecDepth 20000 in
theorem step10_else (W0 w : World) (bp bb bs bm br : Nat) (dim cap : Int) (la : Option Addr) (lc : Nat) (nsv nmv : Value) (nn : Nat) (L : List Ent) (kd id kk be t0 t1 draw : Int) (pn : Nat) (pa : Option Addr) (pc : Nat) (fa : Option Addr) (fn fc : Nat)
    (h : PairAt W0 w bp bb bs bm br dim cap la lc nsv nmv nn L L) (b1 : (kd == 1) = false) (b2 : (kd == 2) = false) (b3 : (kd == 3) = false) (b4 : (kd == 4) = false) (b5 : (kd == 5) = false) (b6 : (kd == 6) = false) (b7 : (kd == 7) = false) :
    Calls Tryd.prog 10 #[.pointer (some ⟨bp, 0, none⟩), .agg #[.int .i64 kd, .int .i64 id, .int .i64 kk, .int .i64 be, .slice pa pn pc, .int .i64 t0, .int .i64 t1, .int .u64 draw, .slice fa fn fc]] w fun ev w' => ev = .returned (.bool true) ∧ StepOk W0 bp bb bs bm br dim cap nn w' := by
  have H := hide h
  clear h
  go_enter Tryd.func10, Tryd.ntmps10
  go_wp2
  go_ret
  exact ⟨rfl, _, _, _, _, _, _, Nat.le_add_right _ _, H.out.alloc _⟩
end Go.Proofs.YtgilnaheedmmfaaDoor
