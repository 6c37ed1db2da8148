import Derived.Test.YtgilnaheedmmfaaDoorStep2
namespace Go.Proofs.YtgilnaheedmmfaaDoor
open Go.RowKit Go.Maps

theorem mapAt_new (w : World) : MapAt (w.alloc (.map #[] 0)) w.heap.size [] :=
  ⟨World.ownsMap_made w Tryd.prog 3 asIs, fun e he => (by simp at he), fun e he => (by simp at he), by simp [Rising]⟩
theorem newWorld_bb (w : World) (d c l m b t : Int) : (newWorld w d c l m b t).heap[w.heap.size + 1 + 1]? = some (.cells #[.int .i64 d, .int .i64 c, .int .i64 l, .int .i64 m, .int .i64 b, .int .i64 t, .pointer (some ⟨w.heap.size + 1, 0, none⟩)] 79 (0, 0)) := by
  have := heap_alloc_new ((w.alloc (.map #[] 0)).alloc (.cells #[.int .i64 c, .map (some w.heap.size)] 122)) (.cells #[.int .i64 d, .int .i64 c, .int .i64 l, .int .i64 m, .int .i64 b, .int .i64 t, .pointer (some ⟨w.heap.size + 1, 0, none⟩)] 79)
  simpa [newWorld] using this
theorem newWorld_bs (w : World) (d c l m b t : Int) : (newWorld w d c l m b t).heap[w.heap.size + 1]? = some (.cells #[.int .i64 c, .map (some w.heap.size)] 122 (0, 0)) := by
  have := heap_alloc_new (w.alloc (.map #[] 0)) (.cells #[.int .i64 c, .map (some w.heap.size)] 122)
  unfold newWorld
  rw [Below.heap_alloc _ _ _ (by simp)]
  simpa using this
theorem baseAt_new (w : World) (d c l m b t : Int) (hg : Handle w) : BaseAt (newWorld w d c l m b t).drew (w.heap.size + 1 + 1) (w.heap.size + 1) w.heap.size d c [] := by
  have h1 : (newWorld w d c l m b t).drew.heap[w.heap.size + 1 + 1]? = _ := newWorld_bb w d c l m b t
  have h2 : (newWorld w d c l m b t).drew.heap[w.heap.size + 1]? = _ := newWorld_bs w d c l m b t
  refine ⟨?_, ?_, ?_, ?_, ?_, ?_⟩
  · simp only [World.cell?, h1]; rfl
  · simp only [World.cell?, h1]; rfl
  · simp only [World.cell?, h2]; rfl
  · simp only [World.cell?, h2]; rfl
  · exact (((mapAt_new w).alloc _).alloc _).below (Below.refl _ _).drew
  · exact (((hg.alloc _).alloc _).alloc _).below (Below.refl _ _).drew

set_option maxHeartbeats 2000000 in
set_option maxRecDepth 20000 in
theorem begun9_no (d c l m b t : Int) (w : World) (hg : Handle w) (hc : cfgB d c l m b t = false) :
    Calls Tryd.prog 9 #[.agg #[.int .i64 d, .int .i64 c, .int .i64 l, .int .i64 m, .int .i64 b, .int .i64 t]] w fun ev w' => ev = .returned (.tuple #[.pointer none, .bool true]) ∧ Below w.heap.size w w' := by
  have HC := hide hc
  clear hc
  go_enter Tryd.func9, Tryd.ntmps9
  go_wp2_with fail
  refine (new12_bad d c l m b t _ (hg.alloc _) HC.out).mono ?_
  rintro ev w1 ⟨rfl, hb1⟩
  have k0 : w1.cell? ⟨w.heap.size, 0, none⟩ = some (.int .i64 d) := Below.at hb1 (by simp) (by simp)
  have k1 : w1.cell? ⟨w.heap.size, 1, none⟩ = some (.int .i64 c) := Below.at hb1 (by simp) (by simp)
  have k2 : w1.cell? ⟨w.heap.size, 2, none⟩ = some (.int .i64 l) := Below.at hb1 (by simp) (by simp)
  have k3 : w1.cell? ⟨w.heap.size, 3, none⟩ = some (.int .i64 m) := Below.at hb1 (by simp) (by simp)
  have k4 : w1.cell? ⟨w.heap.size, 4, none⟩ = some (.int .i64 b) := Below.at hb1 (by simp) (by simp)
  have k5 : w1.cell? ⟨w.heap.size, 5, none⟩ = some (.int .i64 t) := Below.at hb1 (by simp) (by simp)
  have hbw : Below w.heap.size w w1 := ((Below.refl _ _).alloc (Nat.le_refl _) _).trans (hb1.mono (by simp))
  have HBW := hide hbw
  clear hb1 hbw
  go_wp2_with fail
  refine (config17_any d c l m b t _).mono ?_
  rintro ev w2 ⟨rfl, hb2⟩
  rw [HC.out]
  have HB2 := hide hb2
  clear hb2
  go_wp2
  go_ret2
  exact ⟨rfl, HBW.out.trans (HB2.out.mono HBW.out.size)⟩

theorem pair_new {W0 w1 w2 w3 : World} {d c l m b t : Int} {cs ct : Array Value} (h0 : 0 < W0.heap.size) (hold : Below W0.heap.size W0 w1) (hb2 : Below w1.heap.size w1 w2) (hb3 : Below w2.heap.size w2 w3) (hB : BaseAt w2 (w1.heap.size + 1 + 1) (w1.heap.size + 1) w1.heap.size d c [])
    (hts : w2.heap[w1.heap.size + 1]? = some (.cells cs 122 (0, 0))) (htb : w2.heap[w1.heap.size + 1 + 1]? = some (.cells ct 79 (0, 0))) (hc : cfgB d c l m b t = true) :
    PairAt W0 ((w3.alloc (.cells #[.int .i64 d, .int .i64 c, .int .i64 l, .int .i64 m, .int .i64 b, .int .i64 t, .slice none 0 0] 64)).alloc (.cells #[.pointer (some ⟨w1.heap.size + 1 + 1, 0, none⟩), .pointer (some ⟨w3.heap.size, 0, none⟩), .int .i64 0, .int .i64 0, .int .i64 0, .bool false, .int .i64 0, .int .i64 0, .slice none 0 0, .slice none 0 0, .slice none 0 0, .slice none 0 0, .slice none 0 0, .slice none 0 0, .slice none 0 0, .slice none 0 0] 41))
      (w3.heap.size + 1) (w1.heap.size + 1 + 1) (w1.heap.size + 1) w1.heap.size w3.heap.size d c none 0 (.slice none 0 0) (.slice none 0 0) 0 [] [] := by
  have hz2 := (Array.getElem?_eq_some_iff.1 htb).1
  have hz3 := hb3.size
  have hz1 := hold.size
  obtain ⟨w4, hw4⟩ : ∃ w4, w4 = w3.alloc (.cells #[.int .i64 d, .int .i64 c, .int .i64 l, .int .i64 m, .int .i64 b, .int .i64 t, .slice none 0 0] 64) := ⟨_, rfl⟩
  rw [← hw4]
  have hz4 : w4.heap.size = w3.heap.size + 1 := by rw [hw4]; simp
  obtain ⟨w5, hw5⟩ : ∃ w5, w5 = w4.alloc (.cells #[.pointer (some ⟨w1.heap.size + 1 + 1, 0, none⟩), .pointer (some ⟨w3.heap.size, 0, none⟩), .int .i64 0, .int .i64 0, .int .i64 0, .bool false, .int .i64 0, .int .i64 0, .slice none 0 0, .slice none 0 0, .slice none 0 0, .slice none 0 0, .slice none 0 0, .slice none 0 0, .slice none 0 0, .slice none 0 0] 41) := ⟨_, rfl⟩
  rw [← hw5]
  have hp : w5.heap[w3.heap.size + 1]? = some (.cells #[.pointer (some ⟨w1.heap.size + 1 + 1, 0, none⟩), .pointer (some ⟨w3.heap.size, 0, none⟩), .int .i64 0, .int .i64 0, .int .i64 0, .bool false, .int .i64 0, .int .i64 0, .slice none 0 0, .slice none 0 0, .slice none 0 0, .slice none 0 0, .slice none 0 0, .slice none 0 0, .slice none 0 0, .slice none 0 0] 41 (0, 0)) := by
    rw [hw5, ← hz4]; exact heap_alloc_new _ _
  have hr : w5.heap[w3.heap.size]? = some (.cells #[.int .i64 d, .int .i64 c, .int .i64 l, .int .i64 m, .int .i64 b, .int .i64 t, .slice none 0 0] 64 (0, 0)) := by
    rw [hw5, Below.heap_alloc _ _ _ (by omega), hw4]; exact heap_alloc_new _ _
  have hb5 : Below w3.heap.size w3 w5 := by
    rw [hw5, hw4]
    exact ((Below.refl _ _).alloc (Nat.le_refl _) _).alloc (by simp) _
  have hb25 : Below w2.heap.size w2 w5 := hb3.trans (hb5.mono hz3)
  have hb15 : Below w1.heap.size w1 w5 := hb2.trans (hb25.mono (by omega))
  clear hw4 hw5
  simp only [cfgB, inB, Bool.and_eq_true, decide_eq_true_eq] at hc
  have nil32 : ∀ e, w5.ownsRow 0 e 1 (.slice none 0 0) 0 [] := fun e => ⟨rfl, .inl ⟨rfl, rfl⟩⟩
  refine ⟨?_, ?_, ⟨0, ?_⟩, ⟨false, ?_⟩, ⟨⟨_, hp⟩, ⟨0, ?_⟩, ⟨0, ?_⟩, ?_, ?_, ⟨[], nil32 32⟩, ⟨[], nil32 3⟩⟩, hB.below hb25, ⟨⟨_, hr⟩, ?_, ?_, ?_, ⟨rfl, .inl ⟨rfl, rfl⟩⟩, fun e he => (by simp at he), by simp [Rising], by simp⟩,
    ⟨_, (hb25.block _ hz2).trans htb⟩, ⟨_, (hb25.block _ (by omega)).trans hts⟩, ⟨fun e he => (by simp at he), fun e he => by simp at he⟩, hold.trans (hb15.mono hz1), h0, by omega, by omega, by omega, fun g hg => (by cases hg), fun g hg => (by cases hg), fun g hg => (by cases hg), by omega, by omega, by omega⟩ <;>
    first
      | (simp only [World.cell?, hp]; rfl)
      | (simp only [World.cell?, hr]; rfl)

set_option maxHeartbeats 2000000 in
set_option maxRecDepth 20000 in
theorem begun9_yes (W0 : World) (d c l m b t : Int) (w : World) (hg : Handle w) (hW : Below W0.heap.size W0 w) (h0 : 0 < W0.heap.size) (hc : cfgB d c l m b t = true) :
    Calls Tryd.prog 9 #[.agg #[.int .i64 d, .int .i64 c, .int .i64 l, .int .i64 m, .int .i64 b, .int .i64 t]] w fun ev w' => ∃ bp bb bs bm br, ev = .returned (.tuple #[.pointer (some ⟨bp, 0, none⟩), .bool true]) ∧ PairAt W0 w' bp bb bs bm br d c none 0 (.slice none 0 0) (.slice none 0 0) 0 [] [] := by
  have HC := hide hc
  clear hc
  go_enter Tryd.func9, Tryd.ntmps9
  go_wp2_with fail
  refine (new12_ok d c l m b t _ HC.out).mono ?_
  rintro ev w2 ⟨w1, rfl, hb1, hw2⟩
  have hbw : Below w.heap.size w w1 := ((Below.refl _ _).alloc (Nat.le_refl _) _).trans (hb1.mono (by simp))
  have hz : w.heap.size < w1.heap.size := by have := hb1.size; simp at this; omega
  have hB : BaseAt w2 (w1.heap.size + 1 + 1) (w1.heap.size + 1) w1.heap.size d c [] := hw2 ▸ baseAt_new w1 d c l m b t (hg.below hbw)
  have hb2 : Below w1.heap.size w1 w2 := by
    rw [hw2]
    exact ((((Below.refl _ _).alloc (Nat.le_refl _) _).alloc (by simp) _).alloc (by simp; omega) _).drew
  have hts : w2.heap[w1.heap.size + 1]? = some (.cells #[.int .i64 c, .map (some w1.heap.size)] 122 (0, 0)) := hw2 ▸ newWorld_bs w1 d c l m b t
  have htb : w2.heap[w1.heap.size + 1 + 1]? = some (.cells #[.int .i64 d, .int .i64 c, .int .i64 l, .int .i64 m, .int .i64 b, .int .i64 t, .pointer (some ⟨w1.heap.size + 1, 0, none⟩)] 79 (0, 0)) := hw2 ▸ newWorld_bb w1 d c l m b t
  have k0 : w2.cell? ⟨w.heap.size, 0, none⟩ = some (.int .i64 d) := Below.at hb2 (Below.at hb1 (by simp) (by simp)) hz
  have k1 : w2.cell? ⟨w.heap.size, 1, none⟩ = some (.int .i64 c) := Below.at hb2 (Below.at hb1 (by simp) (by simp)) hz
  have k2 : w2.cell? ⟨w.heap.size, 2, none⟩ = some (.int .i64 l) := Below.at hb2 (Below.at hb1 (by simp) (by simp)) hz
  have k3 : w2.cell? ⟨w.heap.size, 3, none⟩ = some (.int .i64 m) := Below.at hb2 (Below.at hb1 (by simp) (by simp)) hz
  have k4 : w2.cell? ⟨w.heap.size, 4, none⟩ = some (.int .i64 b) := Below.at hb2 (Below.at hb1 (by simp) (by simp)) hz
  have k5 : w2.cell? ⟨w.heap.size, 5, none⟩ = some (.int .i64 t) := Below.at hb2 (Below.at hb1 (by simp) (by simp)) hz
  have HB := hide hB
  have HOLD : Hid (Below W0.heap.size W0 w1) := hW.trans (hbw.mono hW.size)
  have HB2 := hide hb2
  have HTS := hide hts
  have HTB := hide htb
  have hz2 : w.heap.size < w2.heap.size := Nat.lt_of_lt_of_le hz hb2.size
  clear hb1 hw2 hbw hB hb2 hts htb hW
  go_wp2_with fail
  refine (config17_any d c l m b t _).mono ?_
  rintro ev w3 ⟨rfl, hb3⟩
  rw [HC.out]
  have q0 := Below.at hb3 k0 hz2
  have q1 := Below.at hb3 k1 hz2
  have q2 := Below.at hb3 k2 hz2
  have q3 := Below.at hb3 k3 hz2
  have q4 := Below.at hb3 k4 hz2
  have q5 := Below.at hb3 k5 hz2
  have HB3 := hide hb3
  clear hb3 k0 k1 k2 k3 k4 k5
  go_wp2
  go_ret2
  exact ⟨w3.heap.size + 1, w1.heap.size + 1 + 1, w1.heap.size + 1, w1.heap.size, w3.heap.size, rfl, pair_new h0 HOLD.out HB2.out HB3.out HB.out HTS.out HTB.out HC.out⟩
end Go.Proofs.YtgilnaheedmmfaaDoor
