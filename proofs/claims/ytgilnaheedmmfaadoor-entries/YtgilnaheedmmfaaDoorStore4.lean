import Derived.Test.YtgilnaheedmmfaaDoorStore3
namespace Go.Proofs.YtgilnaheedmmfaaDoor
open Go.RowKit Go.Maps

set_option maxHeartbeats 1000000 in
theorem get29_no (bs bm : Nat) (id : Int) (L : List Ent) (w : World) (hid : I64 id) (c1 : w.cell? ⟨bs, 1, none⟩ = some (.map (some bm))) (hm : MapAt w bm L) (he : findE id L = none) :
    Calls Tryd.prog 29 #[.pointer (some ⟨bs, 0, none⟩), .int .i64 id] w fun ev w' => (∃ s, ev = .returned (.tuple #[.agg #[.int .i64 0, .slice none 0 0, .int .i64 0, .int .i64 0], .iface 117 (.agg #[.string s, .int .i64 id, .iface 115 (.int .i64 5)])])) ∧ Below w.heap.size w w' := by
  have hb := block_lt_of_cell c1
  go_enter Tryd.func29, Tryd.ntmps29
  go_wp2_with fail
  refine (find57_no bs bm id L _ hid ?c1 (hm.alloc _) he).mono ?_
  case c1 => rw [World.cell?_alloc_lt _ _ _ (by exact hb)]; exact c1
  rintro ev w1 ⟨⟨s, rfl⟩, hb1⟩
  have l0 : w1.cell? ⟨w.heap.size, 0, none⟩ = some (.int .i64 0) := Below.at hb1 (by simp) (by simp)
  have l1 : w1.cell? ⟨w.heap.size, 1, none⟩ = some (.slice none 0 0) := Below.at hb1 (by simp) (by simp)
  have l2 : w1.cell? ⟨w.heap.size, 2, none⟩ = some (.int .i64 0) := Below.at hb1 (by simp) (by simp)
  have l3 : w1.cell? ⟨w.heap.size, 3, none⟩ = some (.int .i64 0) := Below.at hb1 (by simp) (by simp)
  have fl : ∀ o, w1.frozen? ⟨w.heap.size, o, none⟩ = false := fun o => (hb1.frozen (p := ⟨_, o, none⟩) (by simp)).trans (by simp)
  have hz : w.heap.size < w1.heap.size := by have := hb1.size; simp at this; omega
  have HB := hide hb1
  clear hb1 hm he c1
  go_wp2
  refine bodyPost_ret (v := .tuple #[.agg #[.int .i64 0, .slice none 0 0, .int .i64 0, .int .i64 0], .iface 117 (.agg #[.string s, .int .i64 id, .iface 115 (.int .i64 5)])]) (by simp [results, Tryd.results29, go_sem, l0, l1, l2, l3, hz]) rfl ⟨⟨s, rfl⟩, ?_⟩
  have hb2 : Below w.heap.size w w1 := ((Below.refl _ _).alloc (Nat.le_refl _) _).trans (HB.out.mono (by simp))
  repeat (first | exact hb2 | refine Below.setCell ?_ (by first | omega | (simp; done) | (simp; omega)) _ | refine Below.alloc ?_ (by first | omega | (simp; done) | (simp; omega)) _)

set_option maxHeartbeats 1000000 in
theorem get29_yes (bs bm : Nat) (id : Int) (L : List Ent) (e : Ent) (w : World) (hid : I64 id) (c1 : w.cell? ⟨bs, 1, none⟩ = some (.map (some bm))) (hm : MapAt w bm L) (he : findE id L = some e) :
    Calls Tryd.prog 29 #[.pointer (some ⟨bs, 0, none⟩), .int .i64 id] w fun ev w' => ∃ g gc, ev = .returned (.tuple #[.agg #[.int .i64 e.id, .slice (some ⟨g, 0, none⟩) e.pt.length gc, .int .i64 e.t0, .int .i64 e.t1], .nilIface]) ∧ w.heap.size ≤ g ∧ Pts w' g gc e.pt ∧ Below w.heap.size w w' := by
  have hb := block_lt_of_cell c1
  have hmem := (findE_mem he).1
  have hpos := hm.pos e hmem
  have hlt := hm.plt e hmem
  go_enter Tryd.func29, Tryd.ntmps29
  go_wp2_with fail
  refine (find57_yes bs bm id L e _ hid ?c1 (hm.alloc _) he).mono ?_
  case c1 => rw [World.cell?_alloc_lt _ _ _ (by exact hb)]; exact c1
  rintro ev w1 ⟨rfl, hb1⟩
  have hbw : Below w.heap.size w w1 := ((Below.refl _ _).alloc (Nat.le_refl _) _).trans (hb1.mono (by simp))
  have hz : w.heap.size < w1.heap.size := by have := hb1.size; simp at this; omega
  have HP : Hid (∀ o, Pts (w1.alloc o) e.mb e.mc e.pt) := fun o => ((hm.below hbw).alloc o).pts e hmem
  have l0 : w1.cell? ⟨w.heap.size, 0, none⟩ = some (.int .i64 0) := Below.at hb1 (by simp) (by simp)
  have l1 : w1.cell? ⟨w.heap.size, 1, none⟩ = some (.slice none 0 0) := Below.at hb1 (by simp) (by simp)
  have l2 : w1.cell? ⟨w.heap.size, 2, none⟩ = some (.int .i64 0) := Below.at hb1 (by simp) (by simp)
  have l3 : w1.cell? ⟨w.heap.size, 3, none⟩ = some (.int .i64 0) := Below.at hb1 (by simp) (by simp)
  have fl : ∀ o, w1.frozen? ⟨w.heap.size, o, none⟩ = false := fun o => (hb1.frozen (p := ⟨_, o, none⟩) (by simp)).trans (by simp)
  have HB := hide hbw
  clear hb1 hm he c1 hbw
  go_wp2_with fail
  refine (copied56_any e.id e.t0 e.t1 e.pt e.mb 0 e.mc _ hpos.1 (by omega) (Pts.cell (HP.out _))).mono ?_
  rintro ev w2 ⟨g, gc, rfl, hg, hp, hb2⟩
  have m0 : w2.cell? ⟨w.heap.size, 0, none⟩ = some (.int .i64 0) := Below.at hb2 (by rw [World.cell?_alloc_lt _ _ _ (by exact hz)]; exact l0) (by simp; omega)
  have m1 : w2.cell? ⟨w.heap.size, 1, none⟩ = some (.slice none 0 0) := Below.at hb2 (by rw [World.cell?_alloc_lt _ _ _ (by exact hz)]; exact l1) (by simp; omega)
  have m2 : w2.cell? ⟨w.heap.size, 2, none⟩ = some (.int .i64 0) := Below.at hb2 (by rw [World.cell?_alloc_lt _ _ _ (by exact hz)]; exact l2) (by simp; omega)
  have m3 : w2.cell? ⟨w.heap.size, 3, none⟩ = some (.int .i64 0) := Below.at hb2 (by rw [World.cell?_alloc_lt _ _ _ (by exact hz)]; exact l3) (by simp; omega)
  have fm : ∀ o, w2.frozen? ⟨w.heap.size, o, none⟩ = false := fun o => (hb2.frozen (p := ⟨_, o, none⟩) (by simp; omega)).trans ((World.frozen?_alloc_old _ _ _ (by simp; omega)).trans (fl o))
  have HB2 := hide hb2
  have HP2 := hide hp
  have HG := hide hg
  clear l0 l1 l2 l3 fl hb2 hp hg HP
  go_wp2
  refine bodyPost_ret (v := .tuple #[.agg #[.int .i64 e.id, .slice (some ⟨g, 0, none⟩) e.pt.length gc, .int .i64 e.t0, .int .i64 e.t1], .nilIface]) (by simp [results, Tryd.results29, go_sem, m0, m1, m2, m3]) rfl ⟨g, gc, rfl, ?_, ?_, ?_⟩
  · have := HG.out; simp at this; omega
  · have hg := HG.out
    simp at hg
    refine ownsRow_of_block HP2.out fun g' e' => ?_
    obtain rfl : g = g' := by simpa [Value.ownBlock] using e'
    repeat rw [Below.heap_setCell _ _ _ _ (by simp; omega)]
  · have hb3 : Below w.heap.size w w2 := (HB.out.alloc (by omega) _).trans (HB2.out.mono (by simp; omega))
    repeat (first | exact hb3 | refine Below.setCell ?_ (by first | omega | (simp; done) | (simp; omega)) _)

set_option maxHeartbeats 1000000 in
theorem delete31_no (bs bm : Nat) (id : Int) (L : List Ent) (w : World) (hid : I64 id) (c1 : w.cell? ⟨bs, 1, none⟩ = some (.map (some bm))) (hm : MapAt w bm L) (he : findE id L = none) :
    Calls Tryd.prog 31 #[.pointer (some ⟨bs, 0, none⟩), .int .i64 id] w fun ev w' => (∃ s, ev = .returned (.iface 117 (.agg #[.string s, .int .i64 id, .iface 115 (.int .i64 5)]))) ∧ Below w.heap.size w w' := by
  go_enter Tryd.func31, Tryd.ntmps31
  go_wp2_with fail
  refine (find57_no bs bm id L _ hid c1 hm he).mono ?_
  rintro ev w1 ⟨⟨s, rfl⟩, hb1⟩
  have hz : w.heap.size ≤ w1.heap.size := hb1.size
  have HB := hide hb1
  clear hb1 hm he c1
  go_wp2
  go_ret
  refine ⟨⟨s, rfl⟩, ?_⟩
  repeat (first | exact HB.out | refine Below.setCell ?_ (by first | omega | (simp; done) | (simp; omega)) _ | refine Below.alloc ?_ (by first | omega | (simp; done) | (simp; omega)) _)

set_option maxHeartbeats 1000000 in
theorem delete31_yes (bs bm : Nat) (id : Int) (L : List Ent) (e : Ent) (w : World) (hid : I64 id) (c1 : w.cell? ⟨bs, 1, none⟩ = some (.map (some bm))) (hm : MapAt w bm L) (he : findE id L = some e) :
    Calls Tryd.prog 31 #[.pointer (some ⟨bs, 0, none⟩), .int .i64 id] w fun ev w' => ev = .returned .nilIface ∧ MapAt w' bm (delE id L) ∧ Kept (fun k => k = bm) w w' := by
  go_enter Tryd.func31, Tryd.ntmps31
  go_wp2_with fail
  refine (find57_yes bs bm id L e _ hid c1 hm he).mono ?_
  rintro ev w1 ⟨rfl, hb1⟩
  have hz : w.heap.size ≤ w1.heap.size := hb1.size
  have c1' := Below.at hb1 c1 (block_lt_of_cell c1)
  have hbs := block_lt_of_cell c1'
  obtain ⟨w3, hrun, hm3, hk3⟩ := ((hm.below hb1).alloc (.cells #[.int .i64 e.id, .slice (some ⟨e.mb, 0, none⟩) e.pt.length e.mc, .int .i64 e.t0, .int .i64 e.t1] 56)).drop id hid
  have HB := hide hb1
  have HM := hide hm3
  have HK := hide hk3
  clear hb1 hm he c1 hm3 hk3
  go_wp2
  go_ret
  exact ⟨rfl, HM.out, ((Kept.of_below _ HB.out).alloc _).trans HK.out (fun _ _ h => h)⟩

set_option maxHeartbeats 1000000 in
theorem new26_any (places : Int) (w : World) :
    Calls Tryd.prog 26 #[.int .i64 places] w fun ev w' => ev = .returned (.pointer (some ⟨w.heap.size + 1, 0, none⟩)) ∧ (w.alloc (.map #[] 0)).alloc (.cells #[.int .i64 places, .map (some w.heap.size)] 122) = w' := by
  have hmm := @run_makeMap Tryd.prog
  go_enter Tryd.func26, Tryd.ntmps26
  go_wp2
  go_ret
  exact ⟨rfl, rfl⟩
end Go.Proofs.YtgilnaheedmmfaaDoor
