import Derived.Test.YtgilnaheedmmfaaDoorStore4
import Derived.Test.YtgilnaheedmmfaaDoorPoint
import Derived.Test.YtgilnaheedmmfaaDoorConf2
namespace Go.Proofs.YtgilnaheedmmfaaDoor
open Go.RowKit Go.Maps

/-- A base of the program: the entries L. -/
structure BaseAt (w : World) (bb bs bm : Nat) (dim cap : Int) (L : List Ent) : Prop where
  b0 : w.cell? ⟨bb, 0, none⟩ = some (.int .i64 dim)
  b6 : w.cell? ⟨bb, 6, none⟩ = some (.pointer (some ⟨bs, 0, none⟩))
  s0 : w.cell? ⟨bs, 0, none⟩ = some (.int .i64 cap)
  s1 : w.cell? ⟨bs, 1, none⟩ = some (.map (some bm))
  map : MapAt w bm L
  hdl : Handle w

theorem Handle.below {w w' : World} (h : Handle w) (hb : Below w.heap.size w w') : Handle w' := Below.at hb h h.lt
theorem Handle.kept {S : Nat → Prop} {w w' : World} (h : Handle w) (hk : Kept S w w') (hn : ¬ S 0) : Handle w' := hk.cell h hn

theorem BaseAt.below {w w' : World} {bb bs bm : Nat} {dim cap : Int} {L : List Ent} (h : BaseAt w bb bs bm dim cap L) (hb : Below w.heap.size w w') : BaseAt w' bb bs bm dim cap L :=
  ⟨Below.at hb h.b0 (block_lt_of_cell h.b0), Below.at hb h.b6 (block_lt_of_cell h.b6), Below.at hb h.s0 (block_lt_of_cell h.s0), Below.at hb h.s1 (block_lt_of_cell h.s1), h.map.below hb, h.hdl.below hb⟩
theorem BaseAt.alloc {w : World} {bb bs bm : Nat} {dim cap : Int} {L : List Ent} (h : BaseAt w bb bs bm dim cap L) (o : Obj) : BaseAt (w.alloc o) bb bs bm dim cap L := h.below ((Below.refl _ _).alloc (Nat.le_refl _) o)
/-- The map alone has turned. -/
theorem BaseAt.turned {w w' : World} {bb bs bm : Nat} {dim cap : Int} {L L' : List Ent} (h : BaseAt w bb bs bm dim cap L) (hk : Kept (fun k => k = bm) w w') (hm : MapAt w' bm L') : BaseAt w' bb bs bm dim cap L' :=
  ⟨hk.cell h.b0 (h.map.cell_ne h.b0), hk.cell h.b6 (h.map.cell_ne h.b6), hk.cell h.s0 (h.map.cell_ne h.s0), hk.cell h.s1 (h.map.cell_ne h.s1), hm, h.hdl.kept hk (h.map.cell_ne h.hdl)⟩

set_option maxHeartbeats 1000000 in
theorem count15_any (bb bs bm : Nat) (dim cap : Int) (L : List Ent) (w : World) (h : BaseAt w bb bs bm dim cap L) :
    Calls Tryd.prog 15 #[.pointer (some ⟨bb, 0, none⟩)] w fun ev w' => ev = .returned (.int .i64 L.length) ∧ w = w' := by
  have b6 := h.b6
  go_enter Tryd.func15, Tryd.ntmps15
  go_wp2_with (go_at_call 30; refine (count30_any bs bm L _ h.s1 h.map).mono ?_; rintro ev w' ⟨rfl, rfl⟩)
  go_ret
  exact ⟨rfl, rfl⟩

set_option maxHeartbeats 1000000 in
theorem delete16_no (bb bs bm : Nat) (dim cap : Int) (id : Int) (L : List Ent) (w : World) (hid : I64 id) (h : BaseAt w bb bs bm dim cap L) (he : findE id L = none) :
    Calls Tryd.prog 16 #[.pointer (some ⟨bb, 0, none⟩), .int .i64 id] w fun ev w' => ev = .returned (.int .i64 5) ∧ Below w.heap.size w w' := by
  have b6 := h.b6
  go_enter Tryd.func16, Tryd.ntmps16
  go_wp2_with fail
  refine (delete31_no bs bm id L _ hid h.s1 h.map he).mono ?_
  rintro ev w1 ⟨⟨s, rfl⟩, hb⟩
  go_wp2_with fail
  refine (errno_one s id 5 _ (h.hdl.below hb)).mono ?_
  rintro ev w2 ⟨rfl, hb2⟩
  go_wp2
  go_ret
  exact ⟨rfl, hb.trans (hb2.mono hb.size)⟩

set_option maxHeartbeats 1000000 in
theorem delete16_yes (bb bs bm : Nat) (dim cap : Int) (id : Int) (L : List Ent) (e : Ent) (w : World) (hid : I64 id) (h : BaseAt w bb bs bm dim cap L) (he : findE id L = some e) :
    Calls Tryd.prog 16 #[.pointer (some ⟨bb, 0, none⟩), .int .i64 id] w fun ev w' => ev = .returned (.int .i64 0) ∧ BaseAt w' bb bs bm dim cap (delE id L) ∧ Kept (fun k => k = bm) w w' := by
  have b6 := h.b6
  go_enter Tryd.func16, Tryd.ntmps16
  go_wp2_with fail
  refine (delete31_yes bs bm id L e _ hid h.s1 h.map he).mono ?_
  rintro ev w1 ⟨rfl, hm1, hk⟩
  go_wp2_with fail
  refine (errno_nil _).mono ?_
  rintro ev w2 ⟨rfl, hb2⟩
  go_wp2
  go_ret
  exact ⟨rfl, (h.turned hk hm1).below hb2, hk.below hb2⟩

/-- What Put answers. -/
def putCode (dim cap : Int) (id : Int) (xs : List Int) (L : List Ent) : Int :=
  if ptCode dim xs ≠ 0 then ptCode dim xs else if (findE id L).isSome = true ∨ ¬ cap ≤ L.length then 0 else 4

set_option maxHeartbeats 1000000 in
theorem put13_bad (bb bs bm : Nat) (dim cap : Int) (id t0 t1 draw : Int) (xs : List Int) (v : Value) (L : List Ent) (w : World) (h : BaseAt w bb bs bm dim cap L) (r : Int) (hr : ptCode dim xs = r) (hbad : r ≠ 0) (hvl : ∀ o, IntsAt (w.alloc o) v xs) :
    Calls Tryd.prog 13 #[.pointer (some ⟨bb, 0, none⟩), .int .i64 id, v, .agg #[.int .i64 t0, .int .i64 t1], .int .u64 draw] w fun ev w' => ev = .returned (.int .i64 r) ∧ Below w.heap.size w w' := by
  have b0 := h.b0
  have hbb := block_lt_of_cell b0
  have HR := hide hr
  clear hr
  go_enter Tryd.func13, Tryd.ntmps13
  go_wp2_with fail
  refine (point27_any xs v dim _ (hvl _)).mono ?_
  rintro ev w1 ⟨⟨x, rfl, hx⟩, hb1⟩
  rw [HR.out] at hx
  have hbw : Below w.heap.size w w1 := ((Below.refl _ _).alloc (Nat.le_refl _) _).trans (hb1.mono (by simp))
  rcases hx with ⟨h0, _⟩ | ⟨_, ⟨s, n, rfl⟩ | ⟨s, n, s2, n2, rfl⟩⟩
  · exact absurd h0 hbad
  · go_wp2_with fail
    refine (errno_one s n r _ (h.hdl.below hbw)).mono ?_
    rintro ev w2 ⟨rfl, hb2⟩
    go_wp2
    go_ret
    exact ⟨rfl, hbw.trans (hb2.mono hbw.size)⟩
  · go_wp2_with fail
    refine (errno_two s s2 n n2 r _ (h.hdl.below hbw)).mono ?_
    rintro ev w2 ⟨rfl, hb2⟩
    go_wp2
    go_ret
    exact ⟨rfl, hbw.trans (hb2.mono hbw.size)⟩

set_option maxHeartbeats 2000000 in
theorem put13_full (bb bs bm : Nat) (dim cap : Int) (id t0 t1 draw : Int) (xs : List Int) (a : Option Addr) (pn pc : Nat) (L : List Ent) (w : World) (hid : I64 id) (h : BaseAt w bb bs bm dim cap L) (hr : ptCode dim xs = 0) (hvl : ∀ o, IntsAt (w.alloc o) (.slice a pn pc) xs)
    (he : findE id L = none) (hfull : cap ≤ L.length) :
    Calls Tryd.prog 13 #[.pointer (some ⟨bb, 0, none⟩), .int .i64 id, .slice a pn pc, .agg #[.int .i64 t0, .int .i64 t1], .int .u64 draw] w fun ev w' => ev = .returned (.int .i64 4) ∧ Below w.heap.size w w' := by
  have b0 := h.b0
  have hbb := block_lt_of_cell b0
  have HR := hide hr
  clear hr
  go_enter Tryd.func13, Tryd.ntmps13
  go_wp2_with fail
  refine (point27_any xs (.slice a pn pc) dim _ (hvl _)).mono ?_
  rintro ev w1 ⟨⟨x, rfl, hx⟩, hb1⟩
  rw [HR.out] at hx
  have hbw : Below w.heap.size w w1 := ((Below.refl _ _).alloc (Nat.le_refl _) _).trans (hb1.mono (by simp))
  rcases hx with ⟨_, rfl⟩ | ⟨h0, _⟩
  · have k0 : w1.cell? ⟨w.heap.size, 0, none⟩ = some (.int .i64 t0) := Below.at hb1 (by simp) (by simp)
    have k1 : w1.cell? ⟨w.heap.size, 1, none⟩ = some (.int .i64 t1) := Below.at hb1 (by simp) (by simp)
    have h1 := h.below hbw
    have b6 := h1.b6
    have HB := hide hbw
    clear b0 hbw hb1 h
    go_wp2
    go_region_held3 (fun wx => wx.cell? ⟨bb, 6, none⟩ = some (.pointer (some ⟨bs, 0, none⟩)) ∧ wx.cell? ⟨w.heap.size, 0, none⟩ = some (.int .i64 t0) ∧ wx.cell? ⟨w.heap.size, 1, none⟩ = some (.int .i64 t1))
      (first | (exact ⟨b6, k0, k1⟩) | (exact ⟨Below.at hb2 b6 (block_lt_of_cell b6), Below.at hb2 k0 (block_lt_of_cell k0), Below.at hb2 k1 (block_lt_of_cell k1)⟩) | (exact ⟨Below.at hb3 b6 (block_lt_of_cell b6), Below.at hb3 k0 (block_lt_of_cell k0), Below.at hb3 k1 (block_lt_of_cell k1)⟩))
      (first
        | (go_at_call 28; refine (put28_full bs bm id t0 t1 _ a pn pc rfl L _ hid cap ?_ ?_ ?_ he hfull).mono ?_; (exact h1.s0); (exact h1.s1); (exact h1.map.below (Below.refl _ _).drew); rintro ev2 w2 ⟨⟨s, rfl⟩, hb2d⟩; have hb2 := Below.undrew hb2d)
        | (go_at_call 25; refine (errno_one s id 4 _ ?_).mono ?_; (exact h1.hdl.below hb2); rintro ev3 w3 ⟨rfl, hb3d⟩; have hb3 := hb2.trans (hb3d.mono hb2.size)))
    go_wp2
    go_ret
    exact ⟨rfl, HB.out.trans (hb3.mono HB.out.size)⟩
  · exact absurd rfl h0

set_option maxHeartbeats 2000000 in
theorem put13_ok (bb bs bm : Nat) (dim cap : Int) (id t0 t1 draw : Int) (xs : List Int) (b off pc : Nat) (L : List Ent) (w : World) (hid : I64 id) (h : BaseAt w bb bs bm dim cap L) (hr : ptCode dim xs = 0) (hvl : ∀ o, IntsAt (w.alloc o) (.slice (some ⟨b, off, none⟩) xs.length pc) xs)
    (hroom : Room cap id L) (hL : L.length ≤ 60) (h0 : 0 < xs.length) (h8 : xs.length ≤ 8) (hc : ∀ i, i < xs.length → w.cell? ⟨b, off + i, none⟩ = some (.int .i64 (xs.getD i 0))) :
    Calls Tryd.prog 13 #[.pointer (some ⟨bb, 0, none⟩), .int .i64 id, .slice (some ⟨b, off, none⟩) xs.length pc, .agg #[.int .i64 t0, .int .i64 t1], .int .u64 draw] w fun ev w' => ev = .returned (.int .i64 0) ∧
      ∃ g gc, w.heap.size ≤ g ∧ (∀ draw rb rc, BaseAt w' bb bs bm dim cap (insE ⟨id, xs, t0, t1, draw, g, gc, rb, rc⟩ L)) ∧ Kept (fun k => k = bm) w w' := by
  have b0 := h.b0
  have hbb := block_lt_of_cell b0
  have hbx := block_lt_of_cell (hc 0 h0)
  have HR := hide hr
  have HC := hide hc
  clear hr hc
  go_enter Tryd.func13, Tryd.ntmps13
  go_wp2_with fail
  refine (point27_any xs (.slice (some ⟨b, off, none⟩) xs.length pc) dim _ (hvl _)).mono ?_
  rintro ev w1 ⟨⟨x, rfl, hx⟩, hb1⟩
  rw [HR.out] at hx
  have hbw : Below w.heap.size w w1 := ((Below.refl _ _).alloc (Nat.le_refl _) _).trans (hb1.mono (by simp))
  rcases hx with ⟨_, rfl⟩ | ⟨h0, _⟩
  · have k0 : w1.cell? ⟨w.heap.size, 0, none⟩ = some (.int .i64 t0) := Below.at hb1 (by simp) (by simp)
    have k1 : w1.cell? ⟨w.heap.size, 1, none⟩ = some (.int .i64 t1) := Below.at hb1 (by simp) (by simp)
    have h1 := h.below hbw
    have b6 := h1.b6
    have HC1 : Hid (∀ i, i < xs.length → w1.cell? ⟨b, off + i, none⟩ = some (.int .i64 (xs.getD i 0))) := fun i hi => Below.at hbw (HC.out i hi) hbx
    have HB := hide hbw
    clear b0 hbw hb1 h HC
    go_wp2
    go_region_held3 (fun wx => wx.cell? ⟨bb, 6, none⟩ = some (.pointer (some ⟨bs, 0, none⟩)) ∧ wx.cell? ⟨w.heap.size, 0, none⟩ = some (.int .i64 t0) ∧ wx.cell? ⟨w.heap.size, 1, none⟩ = some (.int .i64 t1))
      (first | (exact ⟨b6, k0, k1⟩) | (exact ⟨hk2.cell b6 (h1.map.cell_ne b6), hk2.cell k0 (h1.map.cell_ne k0), hk2.cell k1 (h1.map.cell_ne k1)⟩) | (exact ⟨hk3.cell b6 (h1.map.cell_ne b6), hk3.cell k0 (h1.map.cell_ne k0), hk3.cell k1 (h1.map.cell_ne k1)⟩))
      (first
        | (go_at_call 28; refine (put28_ok bs bm id t0 t1 xs b off pc L _ hid cap ?_ ?_ ?_ hroom hL h0 h8 ?_).mono ?_; (exact h1.s0); (exact h1.s1); (exact h1.map.below (Below.refl _ _).drew); (exact HC1.out); rintro ev2 w2 ⟨rfl, g, gc, hg, hm2, hk2d⟩; have hk2 : Kept (fun k => k = bm) w1 w2 := (Kept.refl _ w1).drew.trans hk2d (fun _ _ h => h))
        | (go_at_call 25; refine (errno_nil _).mono ?_; rintro ev3 w3 ⟨rfl, hb3⟩; have hk3 := hk2.below hb3))
    go_wp2
    go_ret
    refine ⟨rfl, g, gc, ?_, fun draw rb rc => (h1.turned hk2 (hm2 draw rb rc)).below hb3, (Kept.of_below _ HB.out).trans hk3 (fun _ _ h => h)⟩
    have := HB.out.size
    have : w1.heap.size ≤ g := hg
    omega
  · exact absurd rfl h0
end Go.Proofs.YtgilnaheedmmfaaDoor
