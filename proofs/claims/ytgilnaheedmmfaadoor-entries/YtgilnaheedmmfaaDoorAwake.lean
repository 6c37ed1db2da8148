import Derived.Test.YtgilnaheedmmfaaDoorBegun
namespace Go.Proofs.YtgilnaheedmmfaaDoor
open Go.RowKit Go.Maps

theorem ints_seven {w : World} {A : Nat} {o : Obj} (h : w.cell? ⟨A, 0, none⟩ = some (.int .i64 7)) : IntsAt (w.alloc o) (.slice (some ⟨A, 0, none⟩) ([7] : List Int).length 1) [7] := by
  refine ⟨_, _, rfl, by simp, by simp, .inr ⟨A, 0, rfl, fun i hi => ?_⟩⟩
  obtain rfl : i = 0 := by simp at hi; omega
  exact (World.cell?_alloc_lt _ _ _ (block_lt_of_cell (a := ⟨A, 0, none⟩) h)).trans h

theorem i64_five : I64 5 := by unfold I64; decide
theorem find_five (g gc : Nat) : findE 5 (insE ⟨5, [7], 1, 2, 0, g, gc, 0, 0⟩ []) = some ⟨5, [7], 1, 2, 0, g, gc, 0, 0⟩ := by simp [insE, findE]
theorem del_five (g gc : Nat) : delE 5 (insE ⟨5, [7], 1, 2, 0, g, gc, 0, 0⟩ []) = [] := by simp [insE, delE]

set_option maxHeartbeats 2000000 in
set_option maxRecDepth 20000 in
theorem awake8_any (w : World) (hg : Handle w) :
    Calls Tryd.prog 8 #[] w fun ev w' => ev = .returned (.bool true) ∧ Below w.heap.size w w' := by
  go_enter Tryd.func8, Tryd.ntmps8
  go_wp2_with fail
  refine (new12_ok 1 2 2 0 1 0 _ (by decide)).mono ?_
  rintro ev w2 ⟨w1, rfl, hb1, hw2⟩
  have hB : BaseAt w2 (w1.heap.size + 1 + 1) (w1.heap.size + 1) w1.heap.size 1 2 [] := hw2 ▸ baseAt_new w1 1 2 2 0 1 0 (hg.below hb1)
  have hb2 : Below w.heap.size w w2 := by
    rw [hw2]
    have := hb1.size
    exact ((((hb1.alloc (by omega) _).alloc (by simp; omega) _).alloc (by simp; omega) _)).drew
  have hzm : w.heap.size ≤ w1.heap.size := hb1.size
  generalize w1.heap.size + 1 + 1 = bb at *
  generalize w1.heap.size + 1 = bs at *
  generalize w1.heap.size = bm at *
  have HB := hide hB
  have HB2 := hide hb2
  clear hB hb2 hw2 hb1
  go_wp2_with fail
  obtain ⟨w3, hw3⟩ : ∃ w3, w3 = w2.alloc (.cells #[.int .i64 7] 3) := ⟨_, rfl⟩
  have h7 : w3.cell? ⟨w2.heap.size, 0, none⟩ = some (.int .i64 7) := by rw [hw3]; simp
  have hB3 : BaseAt w3 bb bs bm 1 2 [] := hw3 ▸ HB.out.alloc _
  have hb3 : Below w.heap.size w w3 := hw3 ▸ HB2.out.alloc HB2.out.size _
  rw [← hw3]
  clear hw3
  refine (put13_ok bb bs bm 1 2 5 1 2 0 [7] w2.heap.size 0 1 [] w3 i64_five hB3 (by decide) (fun _ => ints_seven h7) (.inr (by decide)) (by decide) (by decide) (by decide) ?_).mono ?_
  · intro i hi
    obtain rfl : i = 0 := by simp at hi; omega
    exact h7
  rintro ev w4 ⟨rfl, g, gc, hg4, hB4, hk4⟩
  have hB4 := hB4 0 0 0
  have hb4 : Below w.heap.size w w4 := hb3.trans (hk4.toBelow hb3.size (fun k e => by rw [e]; exact hzm))
  have HB4 := hide hB4
  have HBL4 := hide hb4
  clear hB4 hb4 hk4 hg4 hB3 hb3 h7
  go_wp2_with fail
  refine (get14_yes bb bs bm 1 2 5 _ ⟨5, [7], 1, 2, 0, g, gc, 0, 0⟩ w4 i64_five HB4.out (find_five g gc)).mono ?_
  rintro ev w5 ⟨g5, gc5, rfl, hg5, hp5, hb5⟩
  have hB5 := HB4.out.below hb5
  have hb5w : Below w.heap.size w w5 := HBL4.out.trans (hb5.mono HBL4.out.size)
  have hlen5 : 1 ≤ gc5 := ownsRow_len hp5
  have HP5 : Hid (Pts w5 g5 gc5 [7]) := hp5
  have HB5 := hide hB5
  have HBL5 := hide hb5w
  have hgl : g5 < w5.heap.size := (hp5.lt g5 rfl).2
  clear hB5 hb5w hp5 hb5 hg5
  go_wp2_with fail
  obtain ⟨w6, hw6⟩ : ∃ w6, w6 = w5.alloc (.cells #[.int .i64 5, .slice (some ⟨g5, 0, none⟩) 1 gc5, .int .i64 1, .int .i64 2] 56) := ⟨_, rfl⟩
  rw [← hw6]
  have hz6 : w6.heap.size = w5.heap.size + 1 := by rw [hw6]; simp
  have hb56 : Below w5.heap.size w5 w6 := hw6 ▸ (Below.refl _ _).alloc (Nat.le_refl _) _
  have hx6 : w6.heap[w5.heap.size]? = some (.cells #[.int .i64 5, .slice (some ⟨g5, 0, none⟩) 1 gc5, .int .i64 1, .int .i64 2] 56 (0, 0)) := by rw [hw6]; exact heap_alloc_new _ _
  clear hw6
  have HB6 := hide (HB5.out.below hb56)
  have HP6 := hide (ownsRow_below HP5.out hb56)
  have HBL6 : Hid (Below w.heap.size w w6) := HBL5.out.trans (hb56.mono HBL5.out.size)
  have HX6 := hide hx6
  clear hx6 hb56
  refine (count15_any bb bs bm 1 2 _ w6 HB6.out).mono ?_
  rintro ev w7 ⟨rfl, rfl⟩
  go_wp2_with fail
  refine (delete16_yes bb bs bm 1 2 5 _ _ w6 i64_five HB6.out (find_five g gc)).mono ?_
  rintro ev w8 ⟨rfl, hB8, hk8⟩
  rw [del_five] at hB8
  have hx8 := (hk8.block w5.heap.size (by omega) (HB6.out.map.mb_ne HX6.out)).trans HX6.out
  have hp8 : Pts w8 g5 gc5 [7] := ownsRow_kept HP6.out hk8 fun g' hg' => by
    obtain ⟨cu, hcu⟩ := ownsRow_obj HP6.out hg'
    exact HB6.out.map.mb_ne hcu
  have hb8 : Below w.heap.size w w8 := HBL6.out.trans (hk8.toBelow HBL6.out.size (fun k e => by rw [e]; exact hzm))
  have hz8 : w5.heap.size < w8.heap.size := by have := hk8.size; omega
  have HB8 := hide hB8
  have HX8 := hide hx8
  have HP8 := hide hp8
  have HBL8 := hide hb8
  clear hB8 hx8 hp8 hb8 hk8
  go_wp2_with fail
  refine (get14_no bb bs bm 1 2 5 [] w8 i64_five HB8.out rfl).mono ?_
  rintro ev w9 ⟨rfl, hb9⟩
  have hx9 := (hb9.block _ hz8).trans HX8.out
  have hp9 := ownsRow_below HP8.out hb9
  have HBL9 : Hid (Below w.heap.size w w9) := HBL8.out.trans (hb9.mono HBL8.out.size)
  have hz9 : w5.heap.size < w9.heap.size := Nat.lt_of_lt_of_le hz8 hb9.size
  have hg9 : g5 < w9.heap.size := (hp9.lt g5 rfl).2
  have c1 : w9.cell? ⟨w5.heap.size, 1, none⟩ = some (.slice (some ⟨g5, 0, none⟩) 1 gc5) := by simp only [World.cell?, hx9]; rfl
  have c3 : w9.cell? ⟨w5.heap.size, 3, none⟩ = some (.int .i64 2) := by simp only [World.cell?, hx9]; rfl
  have c7 : w9.cell? ⟨g5, 0, none⟩ = some (.int .i64 7) := Pts.at (xs := [7]) hp9 (i := 0) (by simp)
  clear hx9 hp9 hb9 hz6
  go_wp2
  go_ret
  exact ⟨rfl, HBL9.out.alloc HBL9.out.size _⟩
end Go.Proofs.YtgilnaheedmmfaaDoor
