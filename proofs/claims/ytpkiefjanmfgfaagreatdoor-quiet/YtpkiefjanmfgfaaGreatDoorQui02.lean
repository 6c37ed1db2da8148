import Derived.Lib.LazyBuf
import Derived.Maps.AppendAt
import Derived.Laws.CopyOwn
import Derived.Laws.MakeOwn
import Derived.Test.YtpkiefjanmfgfaaGreatDoorQui01
namespace Go.Proofs.YtpkiefjanmfgfaaGreatDoor
open Go.RowKit

def cmpI (a b : Int) : Int := if a < b then -1 else if b < a then 1 else 0

set_option maxHeartbeats 400000 in
theorem isNaN166 (a : Int) (w : World) : Calls Tryz.prog 179 #[.int .i64 a] w fun e w' => e = .returned (.bool false) ∧ w = w' := by
  go_enter Tryz.func179, Tryz.ntmps179
  go_wp2
  go_ret
  exact ⟨by simp, rfl⟩

set_option maxHeartbeats 400000 in
theorem compare161 (a b : Int) (w : World) : Calls Tryz.prog 171 #[.int .i64 a, .int .i64 b] w fun e w' => e = .returned (.int .i64 (cmpI a b)) ∧ w = w' := by
  by_cases h1 : a < b
  · go_enter Tryz.func171, Tryz.ntmps171
    go_wp2_with (go_at_call 179; refine (isNaN166 _ _).mono ?_; rintro e w' ⟨rfl, rfl⟩)
    go_ret
    exact ⟨by simp [cmpI, h1], rfl⟩
  · by_cases h2 : b < a
    · go_enter Tryz.func171, Tryz.ntmps171
      go_wp2_with (go_at_call 179; refine (isNaN166 _ _).mono ?_; rintro e w' ⟨rfl, rfl⟩)
      go_ret
      exact ⟨by simp [cmpI, h1, h2], rfl⟩
    · go_enter Tryz.func171, Tryz.ntmps171
      go_wp2_with (go_at_call 179; refine (isNaN166 _ _).mono ?_; rintro e w' ⟨rfl, rfl⟩)
      go_ret
      exact ⟨by rw [cmpI, if_neg (by omega), if_neg (by omega)]; rfl, rfl⟩

def orI (a b : Int) : Int := if a = 0 then b else a

set_option maxHeartbeats 400000 in
theorem or160 (a b : Int) (g cap : Nat) (w : World) (h0 : w.cell? ⟨g, 0, none⟩ = some (.int .i64 a)) (h1 : w.cell? ⟨g, 1, none⟩ = some (.int .i64 b)) :
    Calls Tryz.prog 170 #[.slice (some ⟨g, 0, none⟩) 2 cap] w fun e w' => e = .returned (.int .i64 (orI a b)) ∧ w = w' := by
  by_cases ha : a = 0
  · subst ha
    by_cases hb : b = 0
    · subst hb
      go_enter Tryz.func170, Tryz.ntmps170
      go_wp2
      refine wp_loop_rounds 3 ?_
      iterate 3 (rw [rounds_succ]; go_wp2)
      go_ret
      exact ⟨by simp [orI], rfl⟩
    · go_enter Tryz.func170, Tryz.ntmps170
      go_wp2
      refine wp_loop_rounds 3 ?_
      iterate 2 (rw [rounds_succ]; go_wp2)
      go_ret
      exact ⟨by simp [orI], rfl⟩
  · go_enter Tryz.func170, Tryz.ntmps170
    go_wp2
    refine wp_loop_rounds 3 ?_
    rw [rounds_succ]; go_wp2
    go_ret
    exact ⟨by simp [orI, ha], rfl⟩

abbrev Hit := Int × Int
def hitV (h : Hit) : Value := .agg #[.int .i64 h.1, .int .i64 h.2]
def cmpH (a b : Hit) : Int := orI (cmpI a.2 b.2) (cmpI a.1 b.1)

theorem cell_drew (w : World) (p : Addr) : w.drew.cell? p = w.cell? p := rfl

theorem pair0 (w : World) (x y : Value) (t : TypeId) : (w.alloc (.cells #[x, y] t)).drew.cell? ⟨w.heap.size, 0, none⟩ = some x := by rw [cell_drew]; simp
theorem pair1 (w : World) (x y : Value) (t : TypeId) : (w.alloc (.cells #[x, y] t)).drew.cell? ⟨w.heap.size, 1, none⟩ = some y := by rw [cell_drew]; simp

def Box2 (w0 : World) (B : Nat) (i d j f : Int) (wx : World) : Prop :=
  (wx.cell? ⟨B, 0, none⟩ = some (.int .i64 i) ∧ wx.cell? ⟨B, 1, none⟩ = some (.int .i64 d) ∧ wx.cell? ⟨B + 1, 0, none⟩ = some (.int .i64 j) ∧ wx.cell? ⟨B + 1, 1, none⟩ = some (.int .i64 f)) ∧ Below w0.heap.size w0 wx
theorem Box2.cells {w0 : World} {B : Nat} {i d j f : Int} {wx : World} (h : Box2 w0 B i d j f wx) : wx.cell? ⟨B, 0, none⟩ = some (.int .i64 i) ∧ wx.cell? ⟨B, 1, none⟩ = some (.int .i64 d) ∧ wx.cell? ⟨B + 1, 0, none⟩ = some (.int .i64 j) ∧ wx.cell? ⟨B + 1, 1, none⟩ = some (.int .i64 f) := h.1
theorem Box2.bel {w0 : World} {B : Nat} {i d j f : Int} {wx : World} (h : Box2 w0 B i d j f wx) : Below w0.heap.size w0 wx := h.2
theorem Box2.below {w0 : World} {B : Nat} {i d j f : Int} {wx wy : World} (h : Box2 w0 B i d j f wx) (hb : Below wx.heap.size wx wy) : Box2 w0 B i d j f wy :=
  ⟨⟨Below.at hb h.1.1 (block_lt_of_cell (a := ⟨B, 0, none⟩) h.1.1), Below.at hb h.1.2.1 (block_lt_of_cell (a := ⟨B, 1, none⟩) h.1.2.1), Below.at hb h.1.2.2.1 (block_lt_of_cell (a := ⟨B + 1, 0, none⟩) h.1.2.2.1), Below.at hb h.1.2.2.2 (block_lt_of_cell (a := ⟨B + 1, 1, none⟩) h.1.2.2.2)⟩, h.2.trans (hb.mono h.2.size)⟩
theorem Box2.alloc {w0 : World} {B : Nat} {i d j f : Int} {wx : World} (h : Box2 w0 B i d j f wx) (o : Obj) : Box2 w0 B i d j f (wx.alloc o) := h.below ((Below.refl _ _).alloc (Nat.le_refl _) o)
theorem Box2.drew {w0 : World} {B : Nat} {i d j f : Int} {wx : World} (h : Box2 w0 B i d j f wx) : Box2 w0 B i d j f wx.drew := h.below (Below.refl _ _).drew
theorem Box2.mk {w : World} (i d j f : Int) (t : TypeId) : Box2 w w.heap.size i d j f ((w.alloc (.cells #[.int .i64 i, .int .i64 d] t)).alloc (.cells #[.int .i64 j, .int .i64 f] t)) :=
  ⟨⟨by simp, by simp, by simp, by simp⟩, ((Below.refl _ _).alloc (Nat.le_refl _) _).alloc (by simp) _⟩

set_option maxHeartbeats 1000000 in
theorem compare142 (a b : Hit) (w : World) : Calls Tryz.prog 149 #[.agg #[.int .i64 a.1, .int .i64 a.2], .agg #[.int .i64 b.1, .int .i64 b.2]] w fun e w' => e = .returned (.int .i64 (cmpH a b)) ∧ Below w.heap.size w w' := by
  obtain ⟨i, d⟩ := a
  obtain ⟨j, f⟩ := b
  simp only [cmpH]
  go_enter Tryz.func149, Tryz.ntmps149
  go_wp2
  have hS := Box2.mk (w := w) i d j f 63
  generalize (w.alloc (.cells #[.int .i64 i, .int .i64 d] 63)).alloc (.cells #[.int .i64 j, .int .i64 f] 63) = w1 at hS ⊢
  go_region_held3 (fun wx => (wx.cell? ⟨w.heap.size, 0, none⟩ = some (.int .i64 i) ∧ wx.cell? ⟨w.heap.size, 1, none⟩ = some (.int .i64 d) ∧ wx.cell? ⟨w.heap.size + 1, 0, none⟩ = some (.int .i64 j) ∧ wx.cell? ⟨w.heap.size + 1, 1, none⟩ = some (.int .i64 f))) ((refine Box2.cells (w0 := w) ?_; repeat (first | exact hS | refine Box2.drew ?_ | refine Box2.alloc ?_ _)))
    (first
      | (go_at_call 171; refine (compare161 _ _ _).mono ?_; rintro e w' ⟨rfl, rfl⟩)
      | (go_at_call 170; refine (or160 (cmpI d f) (cmpI i j) _ _ _ ?_ ?_).mono ?_; (exact pair0 _ _ _ _); (exact pair1 _ _ _ _); rintro e w' ⟨rfl, rfl⟩))
  go_wp2
  go_ret
  refine ⟨rfl, Box2.bel (B := w.heap.size) (i := i) (d := d) (j := j) (f := f) ?_⟩
  repeat (first | exact hS | refine Box2.drew ?_ | refine Box2.alloc ?_ _)

def nearB (a b : Hit) : Bool := decide (cmpH a b < 0)
def farB (a b : Hit) : Bool := decide (0 < cmpH a b)

set_option maxHeartbeats 1000000 in
theorem nearer100 (a b : Hit) (w : World) : Calls Tryz.prog 104 #[.agg #[.int .i64 a.1, .int .i64 a.2], .agg #[.int .i64 b.1, .int .i64 b.2]] w fun e w' => e = .returned (.bool (nearB a b)) ∧ Below w.heap.size w w' := by
  go_enter Tryz.func104, Tryz.ntmps104
  go_wp2_with (go_at_call 149; refine (compare142 a b _).mono ?_; rintro e w' ⟨rfl, hb⟩)
  go_ret
  exact ⟨rfl, (((Below.refl _ _).alloc (Nat.le_refl _) _).alloc (by simp) _).trans (hb.mono (by simp; omega))⟩

set_option maxHeartbeats 1000000 in
theorem farther143 (a b : Hit) (w : World) : Calls Tryz.prog 150 #[.agg #[.int .i64 a.1, .int .i64 a.2], .agg #[.int .i64 b.1, .int .i64 b.2]] w fun e w' => e = .returned (.bool (farB a b)) ∧ Below w.heap.size w w' := by
  go_enter Tryz.func150, Tryz.ntmps150
  go_wp2_with (go_at_call 149; refine (compare142 a b _).mono ?_; rintro e w' ⟨rfl, hb⟩)
  go_ret
  exact ⟨rfl, (((Below.refl _ _).alloc (Nat.le_refl _) _).alloc (by simp) _).trans (hb.mono (by simp; omega))⟩
end Go.Proofs.YtpkiefjanmfgfaaGreatDoor
namespace Go.Proofs.YtpkiefjanmfgfaaGreatDoor
open Go.RowKit

theorem info3 : (Tryz.prog.info? 3).map (fun i => (i.zero, i.size, i.bytes)) = some (some (.int .i64 0), 1, 8) := by kernel_rfl

def vals (xs : List Int) : List Value := xs.map (Value.int .i64)
theorem vals_length (xs : List Int) : (vals xs).length = xs.length := by simp [vals]
theorem vals_get {xs : List Int} {j : Nat} {u : Value} (h : (vals xs)[j]? = some u) : j < xs.length ∧ u = .int .i64 (xs.getD j 0) := by
  unfold vals at h
  rw [List.getElem?_map] at h
  obtain ⟨x, hx, rfl⟩ := Option.map_eq_some_iff.1 h
  obtain ⟨hlt, he⟩ := List.getElem?_eq_some_iff.1 hx
  exact ⟨hlt, by simp [List.getD_eq_getElem?_getD, hx]⟩
theorem vals_one (xs : List Int) : ∀ u ∈ vals xs, u.oneCell' = true := by
  intro u hu
  obtain ⟨x, _, rfl⟩ := List.mem_map.1 hu
  rfl
theorem addr_add (b off j : Nat) : (⟨b, off, none⟩ : Addr).add j = ⟨b, off + j, none⟩ := by
  unfold Addr.add
  split
  · subst_vars; rfl
  · rfl

theorem bcell {B : Nat} {W w1 : World} (hb : Below B W w1) : (∀ b o, b < B → w1.cell? ⟨b, o, none⟩ = W.cell? ⟨b, o, none⟩) ∧ (∀ b o, b < B → w1.frozen? ⟨b, o, none⟩ = W.frozen? ⟨b, o, none⟩) :=
  ⟨fun b o h => hb.cell (p := ⟨b, o, none⟩) h, fun b o h => hb.frozen (p := ⟨b, o, none⟩) h⟩

set_option maxHeartbeats 1000000 in
theorem clone_any (xs : List Int) (b off cap : Nat) (w : World) (h0 : 0 < xs.length) (hm : xs.length ≤ 17592186044416)
    (hc : ∀ i, i < xs.length → w.cell? ⟨b, off + i, none⟩ = some (.int .i64 (xs.getD i 0))) :
    Calls Tryz.prog 134 #[.slice (some ⟨b, off, none⟩) xs.length cap] w fun e w' => ∃ g cap', e = .returned (.slice (some ⟨g, 0, none⟩) xs.length cap') ∧ w.heap.size ≤ g ∧ Pts w' g cap' xs ∧ Below w.heap.size w w' := by
  obtain ⟨i0, hi, hz0, hz1, hz2⟩ := info_parts info3
  have hn := fun w => Go.run_eql_slice_nil (P := Tryz.prog) w 32 3 (some ⟨b, off, none⟩) xs.length cap Tryz.underlying32
  have hbl : b < w.heap.size := by
    have := hc 0 h0
    exact block_lt_of_cell this
  have hown := World.ownsRow_made (base := w.heap.size) (e := 3) (size := 1) w #[] 0 (Nat.le_refl _) (by simp [maxLen]) (by simp)
  have hnews : ∀ j u, (vals xs)[j]? = some u → (w.alloc (.cells #[] 3)).cell? ((⟨b, off, none⟩ : Addr).add j) = some u := by
    intro j u hj
    obtain ⟨hlt, rfl⟩ := vals_get hj
    rw [addr_add, World.cell?_alloc_lt _ _ _ (by exact hbl)]
    exact hc j hlt
  have HN : Hid (∀ j u, (vals xs)[j]? = some u → (w.alloc (.cells #[] 3)).cell? ((⟨b, off, none⟩ : Addr).add j) = some u) := hnews
  clear hnews hc
  go_enter Tryz.func134, Tryz.ntmps134
  go_wp2_with (at_builtin; refine wpList_append_lies _ rfl _ _ 32 rfl w.heap.size 3 i0 (.int .i64 0) 1 8 Tryz.underlying32 hi hz0 hz1 hz2 rfl (by decide) (.slice (some ⟨w.heap.size, 0, none⟩) 0 0) 0 [] rfl hown ⟨b, off, none⟩ xs.length cap (vals xs) rfl (by simp [vals]) HN.out (vals_one xs) h0 (by unfold maxLen; omega) (by omega) (by simp) (w.heap.size + 1) (by simp) ?_; intro g cap' w1 hown1 hgrow hat hlt)
  go_ret
  simp only [Nat.zero_add, List.nil_append] at hown1 ⊢
  refine ⟨g, cap', rfl, ?_, ownsRow_zero hown1, ?_⟩
  · rcases hat with h | h
    · have : w.heap.size = g := by simpa [Value.ownBlock] using h
      omega
    · omega
  · exact ((Below.refl w.heap.size w).alloc (Nat.le_refl _) _).grown hgrow (by simp) (fun k hk => Nat.le_of_eq (by simpa [Value.ownBlock] using hk))

set_option maxHeartbeats 1000000 in
theorem copied56_any (id t0 t1 : Int) (xs : List Int) (b off cap : Nat) (w : World) (h0 : 0 < xs.length) (hm : xs.length ≤ 17592186044416)
    (hc : ∀ i, i < xs.length → w.cell? ⟨b, off + i, none⟩ = some (.int .i64 (xs.getD i 0))) :
    Calls Tryz.prog 89 #[.agg #[.int .i64 id, .slice (some ⟨b, off, none⟩) xs.length cap, .int .i64 t0, .int .i64 t1]] w fun e w' => ∃ g cap', e = .returned (.agg #[.int .i64 id, .slice (some ⟨g, 0, none⟩) xs.length cap', .int .i64 t0, .int .i64 t1]) ∧ w.heap.size ≤ g ∧ Pts w' g cap' xs ∧ Below w.heap.size w w' := by
  have hbl : b < w.heap.size := by
    have := hc 0 h0
    exact block_lt_of_cell this
  have HC : Hid (∀ i, i < xs.length → w.cell? ⟨b, off + i, none⟩ = some (.int .i64 (xs.getD i 0))) := hc
  clear hc
  go_enter Tryz.func89, Tryz.ntmps89
  go_wp2_with fail
  refine (clone_any xs b off cap _ h0 hm ?c1).mono ?_
  case c1 =>
    intro i hi
    rw [World.cell?_alloc_lt _ _ _ (by simp; omega), World.cell?_alloc_lt _ _ _ (by exact hbl)]
    exact HC.out i hi
  rintro e w1 ⟨g, cap', rfl, hg, hown, hb⟩
  have hz : w.heap.size + 1 < w1.heap.size := by have := hb.size; simp at this; omega
  have k0 : w1.cell? ⟨w.heap.size, 0, none⟩ = some (.int .i64 id) := (hb.cell (p := ⟨_, 0, none⟩) (by simp <;> omega)).trans (by simp)
  have k1 : w1.cell? ⟨w.heap.size, 1, none⟩ = some (.slice (some ⟨b, off, none⟩) xs.length cap) := (hb.cell (p := ⟨_, 1, none⟩) (by simp <;> omega)).trans (by simp)
  have k2 : w1.cell? ⟨w.heap.size, 2, none⟩ = some (.int .i64 t0) := (hb.cell (p := ⟨_, 2, none⟩) (by simp <;> omega)).trans (by simp)
  have k3 : w1.cell? ⟨w.heap.size, 3, none⟩ = some (.int .i64 t1) := (hb.cell (p := ⟨_, 3, none⟩) (by simp <;> omega)).trans (by simp)
  have l0 : w1.cell? ⟨w.heap.size + 1, 0, none⟩ = some (.int .i64 0) := (hb.cell (p := ⟨_, 0, none⟩) (by simp <;> omega)).trans (by simp)
  have l1 : w1.cell? ⟨w.heap.size + 1, 1, none⟩ = some (.slice none 0 0) := (hb.cell (p := ⟨_, 1, none⟩) (by simp <;> omega)).trans (by simp)
  have l2 : w1.cell? ⟨w.heap.size + 1, 2, none⟩ = some (.int .i64 0) := (hb.cell (p := ⟨_, 2, none⟩) (by simp <;> omega)).trans (by simp)
  have l3 : w1.cell? ⟨w.heap.size + 1, 3, none⟩ = some (.int .i64 0) := (hb.cell (p := ⟨_, 3, none⟩) (by simp <;> omega)).trans (by simp)
  have fk : ∀ o, w1.frozen? ⟨w.heap.size, o, none⟩ = false := fun o => (hb.frozen (p := ⟨_, o, none⟩) (by simp <;> omega)).trans (by simp)
  have fl : ∀ o, w1.frozen? ⟨w.heap.size + 1, o, none⟩ = false := fun o => (hb.frozen (p := ⟨_, o, none⟩) (by simp <;> omega)).trans (by simp)
  have HO := hide hown
  have HG := hide hg
  have HB := hide hb
  clear hown hg hb
  go_wp2
  refine bodyPost_ret (v := .agg #[.int .i64 id, .slice (some ⟨g, 0, none⟩) xs.length cap', .int .i64 t0, .int .i64 t1]) (by simp [results, Tryz.results89, go_sem, l0, l1, l2, l3]) rfl ⟨g, cap', rfl, ?_, ?_, ?_⟩
  · have := HG.out; simp at this; omega
  · have hg := HG.out
    simp at hg
    refine ownsRow_of_block HO.out fun g' e' => ?_
    obtain rfl : g = g' := by simpa [Value.ownBlock] using e'
    repeat rw [Below.heap_setCell _ _ _ _ (by simp; omega)]
  · repeat refine Below.setCell ?_ (by simp) _
    exact (((Below.refl _ _).alloc (Nat.le_refl _) _).alloc (by simp) _).trans (HB.out.mono (by simp; omega))
end Go.Proofs.YtpkiefjanmfgfaaGreatDoor
namespace Go.Proofs.YtpkiefjanmfgfaaGreatDoor
open Go.RowKit

section
variable {w : World} {base e size g n cap : Nat} {xs : List Value}
theorem ownsRow_parts (h : w.ownsRow base e size (.slice (some ⟨g, 0, none⟩) n cap) n xs) :
    ∃ cur : Array Value, base ≤ g ∧ w.heap[g]? = some (.cells cur e (0, 0)) ∧ n ≤ cap ∧ cap ≤ maxLen ∧ cur.size = cap * size ∧ cur.toList.take (n * size) = xs := by
  rcases h.2 with ⟨h, _⟩ | ⟨g', cap', cur, hv, r⟩
  · cases h
  · simp only [Value.slice.injEq, Option.some.injEq, Addr.mk.injEq] at hv
    obtain ⟨⟨rfl, _⟩, _, rfl⟩ := hv
    exact ⟨cur, r⟩
theorem ownsRow_set (h : w.ownsRow base e size (.slice (some ⟨g, 0, none⟩) n cap) n xs) (j : Nat) (u : Value) : (w.setCell ⟨g, j, none⟩ u).ownsRow base e size (.slice (some ⟨g, 0, none⟩) n cap) n (xs.set j u) := by
  obtain ⟨cur, h1, h2, h3, h4, h5, h6⟩ := ownsRow_parts h
  refine ⟨by rw [List.length_set]; exact h.1, .inr ⟨g, cap, cur.setIfInBounds j u, rfl, h1, heap_setCell_same w g j cur e u h2, h3, h4, by simpa using h5, ?_⟩⟩
  rw [Array.toList_setIfInBounds, List.take_set, h6]
theorem ownsRow_frozen (h : w.ownsRow base e size (.slice (some ⟨g, 0, none⟩) n cap) n xs) (j : Nat) : w.frozen? ⟨g, j, none⟩ = false := by
  obtain ⟨cur, h1, h2, _⟩ := ownsRow_parts h
  simp [World.frozen?, h2]
theorem ownsRow_cell (h : w.ownsRow base e size (.slice (some ⟨g, 0, none⟩) n cap) n xs) {j : Nat} {u : Value} (hj : xs[j]? = some u) : w.cell? ⟨g, j, none⟩ = some u := by
  have := h.cells (g := g) rfl j u hj
  rw [addr_add] at this
  simpa using this
theorem ownsRow_len (h : w.ownsRow base e size (.slice (some ⟨g, 0, none⟩) n cap) n xs) : n ≤ cap := by
  obtain ⟨cur, _, _, h3, _⟩ := ownsRow_parts h; exact h3
end

theorem Pts.set {w : World} {g cap : Nat} {xs : List Int} (h : Pts w g cap xs) (j : Nat) (x : Int) : Pts (w.setCell ⟨g, j, none⟩ (.int .i64 x)) g cap (xs.set j x) := by
  have := ownsRow_set h j (.int .i64 x)
  unfold Pts
  rw [List.length_set, List.map_set]
  exact this
theorem Pts.at {w : World} {g cap : Nat} {xs : List Int} (h : Pts w g cap xs) {i : Nat} (hi : i < xs.length) : w.cell? ⟨g, i, none⟩ = some (.int .i64 (xs.getD i 0)) := by
  have := h.cell i hi
  simpa using this

section
variable {P : Program} (w : World)
theorem run_append_any (base : Nat) (t ty e : TypeId) (i : TypeInfo) (z : Value) (size bytes : Nat) (ht : P.underlying t = some (.slice e)) (hi : P.info? e = some i) (hz : i.zero = some z)
    (hsize : i.size = size) (hby : i.bytes = bytes) (hzs : z.cells.size = size) (hsz : 0 < size)
    (v : Value) (n : Nat) (xs : List Value) (hown : w.ownsRow base e size v n xs)
    (sa : Option Addr) (m c : Nat) (news : List Value) (hl : news.length = m * size) (hnews : 0 < m → ∃ a, sa = some a ∧ ∀ j u, news[j]? = some u → w.cell? (a.add j) = some u) (h1 : ∀ u ∈ news, u.oneCell' = true)
    (h63 : n + m ≤ maxLen) (hbytes : (n + m) * bytes ≤ 140737488355328) (hbase : base ≤ w.heap.size) :
    ∃ v' w', (Builtin.append_ #[t, t] ty #[v, .slice sa m c]).run P w = .ok v' w' ∧ w'.ownsRow base e size v' (n + m) (xs ++ news) ∧ w.grownBy w' v.ownBlock ∧
      (v'.ownBlock = v.ownBlock ∨ v'.ownBlock = some w.heap.size) := by
  by_cases hm : 0 < m
  · obtain ⟨a, rfl, hn⟩ := hnews hm
    obtain ⟨v', w', hr, h2, h3, _, h5⟩ := run_append_own_at (P := P) w base t ty e i z size bytes ht hi hz hsize hby hzs hsz v n xs hown a m c news hl hn h1 h63 hbytes hbase
    exact ⟨v', w', hr, h2, h3, h5⟩
  · obtain rfl : m = 0 := by omega
    obtain rfl : news = [] := List.eq_nil_of_length_eq_zero (by simpa using hl)
    refine ⟨v, w, ?_, by simpa using hown, ⟨rfl, rfl, rfl, Nat.le_refl _, fun _ _ _ => rfl⟩, .inl rfl⟩
    rcases hown.2 with ⟨rfl, rfl⟩ | ⟨g, cap, cur, rfl, _, hg, hnc, _⟩
    · cases sa <;> simp [Builtin.append_, run_underlying ht, sizeOf, typeInfo, hi, Builtin.lenOf, Builtin.firstCells, loadCells, loadCellsFrom]
    · cases sa <;> simp [Builtin.append_, run_underlying ht, sizeOf, typeInfo, hi, Builtin.lenOf, Builtin.firstCells, loadCells, loadCellsFrom, hnc, storeCells]

theorem wpList_append_any {ops : Array Oper} {rest : List Oper} {o : Oper} {a : Act} {Q : Exit → Act → World → Prop} (hgd : o.guard = none) (s x : Operand) (t : TypeId)
    (ho : o.op = .call { callee := .builtin .append, args := #[s, x], argTypes := #[t, t] })
    (base : Nat) (e : TypeId) (i : TypeInfo) (z : Value) (size bytes : Nat) (ht : P.underlying t = some (.slice e)) (hi : P.info? e = some i) (hz : i.zero = some z)
    (hsize : i.size = size) (hby : i.bytes = bytes) (hzs : z.cells.size = size) (hsz : 0 < size)
    (v : Value) (n : Nat) (xs : List Value) (hs : a.eval s = v) (hown : w.ownsRow base e size v n xs)
    (sa : Option Addr) (m c : Nat) (news : List Value) (hx : a.eval x = .slice sa m c) (hl : news.length = m * size) (hnews : 0 < m → ∃ a, sa = some a ∧ ∀ j u, news[j]? = some u → w.cell? (a.add j) = some u) (h1 : ∀ u ∈ news, u.oneCell' = true)
    (h63 : n + m ≤ maxLen) (hbytes : (n + m) * bytes ≤ 140737488355328) (hbase : base ≤ w.heap.size)
    (h : ∀ v' w', w'.ownsRow base e size v' (n + m) (xs ++ news) → w.grownBy w' v.ownBlock → (v'.ownBlock = v.ownBlock ∨ v'.ownBlock = some w.heap.size) → wpList P ops Q rest (a.put o.dst v') w') :
    wpList P ops Q (o :: rest) a w := by
  refine wpList_plain hgd fun K hK => ?_
  obtain ⟨v', w', hr, h2, h3, h5⟩ := run_append_any (P := P) w base t o.type e i z size bytes ht hi hz hsize hby hzs hsz v n xs hown sa m c news hl hnews h1 h63 hbytes hbase
  unfold Oper.wp execOp
  simp only [ho, resolve, invoke, builtin, Sem.run_bind, Sem.run_pure, Result.andThen_ok, List.map_toArray, List.map_cons, List.map_nil, hs, hx, hr]
  exact hK _ _ (h v' w' h2 h3 h5)
end
end Go.Proofs.YtpkiefjanmfgfaaGreatDoor
namespace Go.Proofs.YtpkiefjanmfgfaaGreatDoor
open Go.RowKit

def hcell (h : Hit) : List Value := [.int .i64 h.1, .int .i64 h.2]
def hcells (l : List Hit) : List Value := l.flatMap hcell
def nth (l : List Hit) (k : Nat) : Hit := l.getD k (0, 0)

theorem hcells_cons (h : Hit) (l : List Hit) : hcells (h :: l) = hcell h ++ hcells l := rfl
theorem hcells_append (l m : List Hit) : hcells (l ++ m) = hcells l ++ hcells m := by simp [hcells]
theorem hcells_length : ∀ l : List Hit, (hcells l).length = l.length * 2
  | [] => rfl
  | h :: l => by rw [hcells_cons, List.length_append, hcells_length l]; simp [hcell]; omega
theorem hcells_get : ∀ (l : List Hit) (k j : Nat) (_ : k < l.length), j < 2 → (hcells l)[k * 2 + j]? = (hcell (nth l k))[j]?
  | h :: l, 0, j, _, hj => by
    rw [hcells_cons, List.getElem?_append_left (by simp [hcell]; omega)]
    simp [nth]
  | h :: l, k + 1, j, hk, hj => by
    rw [hcells_cons, List.getElem?_append_right (by simp [hcell]; omega)]
    have e1 : (k + 1) * 2 + j - (hcell h).length = k * 2 + j := by simp [hcell]; omega
    rw [e1, hcells_get l k j (by simpa using hk) hj]
    simp [nth]
theorem hcells_one (l : List Hit) : ∀ u ∈ hcells l, u.oneCell' = true := by
  intro u hu
  obtain ⟨e, _, he⟩ := List.mem_flatMap.1 hu
  simp [hcell] at he
  rcases he with rfl | rfl <;> rfl
theorem hcells_set : ∀ (l : List Hit) (k : Nat) (h : Hit), ((hcells l).set (k * 2) (.int .i64 h.1)).set (k * 2 + 1) (.int .i64 h.2) = hcells (l.set k h)
  | [], k, h => by simp [hcells]
  | x :: l, 0, h => by simp [hcells_cons, hcell]
  | x :: l, k + 1, h => by
    have e1 : (k + 1) * 2 = k * 2 + 2 := by omega
    rw [hcells_cons, e1]
    simp only [hcell, List.cons_append, List.nil_append, List.set_cons_succ, show k * 2 + 2 + 1 = (k * 2 + 1) + 2 by omega]
    rw [hcells_set l k h]
    rfl
theorem nth_set (l : List Hit) (a b : Nat) (h : Hit) (ha : a < l.length) : nth (l.set a h) b = if b = a then h else nth l b := by
  unfold nth
  simp only [List.getD_eq_getElem?_getD]
  by_cases hb : b = a
  · subst hb; simp [ha]
  · rw [List.getElem?_set_ne (by omega), if_neg hb]

abbrev HRow (w : World) (v : Value) (l : List Hit) : Prop := w.ownsRow 0 63 2 v l.length (hcells l)

theorem HRow.at0 {w : World} {g n cap : Nat} {l : List Hit} (h : w.ownsRow 0 63 2 (.slice (some ⟨g, 0, none⟩) n cap) n (hcells l)) {k : Nat} (hk : k < l.length) : w.cell? ⟨g, k * 2, none⟩ = some (.int .i64 (nth l k).1) :=
  ownsRow_cell h (j := k * 2) (by have := hcells_get l k 0 hk (by omega); simpa [hcell] using this)
theorem HRow.at1 {w : World} {g n cap : Nat} {l : List Hit} (h : w.ownsRow 0 63 2 (.slice (some ⟨g, 0, none⟩) n cap) n (hcells l)) {k : Nat} (hk : k < l.length) : w.cell? ⟨g, k * 2 + 1, none⟩ = some (.int .i64 (nth l k).2) :=
  ownsRow_cell h (j := k * 2 + 1) (by have := hcells_get l k 1 hk (by omega); simpa [hcell] using this)
theorem HRow.set {w : World} {g n cap : Nat} {l : List Hit} (h : w.ownsRow 0 63 2 (.slice (some ⟨g, 0, none⟩) n cap) n (hcells l)) (k : Nat) (x : Hit) :
    ((w.setCell ⟨g, k * 2, none⟩ (.int .i64 x.1)).setCell ⟨g, k * 2 + 1, none⟩ (.int .i64 x.2)).ownsRow 0 63 2 (.slice (some ⟨g, 0, none⟩) n cap) n (hcells (l.set k x)) := by
  rw [← hcells_set]
  exact ownsRow_set (ownsRow_set h _ _) _ _

theorem Kept.setG {a w : World} {g : Nat} (h : Kept (fun k => k = g) a w) (o : Nat) (u : Value) : Kept (fun k => k = g) a (w.setCell ⟨g, o, none⟩ u) := h.setCell (fun _ => rfl) u

structure QAt (w : World) (bq fk : Nat) (v : Value) (l : List Hit) : Prop where
  blk : w.heap[bq]? = some (.cells #[.func (.func fk) #[] #[], v] 230 (0, 0))
  row : HRow w v l

theorem cells_at {w : World} {b : Nat} {xs : Array Value} {t : TypeId} {f : Nat × Nat} (h : w.heap[b]? = some (.cells xs t f)) (o : Nat) {u : Value} (hu : xs[o]? = some u) : w.cell? ⟨b, o, none⟩ = some u := by
  simp [World.cell?, h, hu]
theorem cells_frozen {w : World} {b : Nat} {xs : Array Value} {t : TypeId} (h : w.heap[b]? = some (.cells xs t (0, 0))) (o : Nat) : w.frozen? ⟨b, o, none⟩ = false := by
  simp [World.frozen?, h]
theorem heap_lt {w : World} {b : Nat} {o : Obj} (h : w.heap[b]? = some o) : b < w.heap.size := by
  rcases Nat.lt_or_ge b w.heap.size with h1 | h1
  · exact h1
  · rw [Array.getElem?_eq_none h1] at h; cases h

section
variable {w w' : World} {bq fk : Nat} {v : Value} {l : List Hit}
theorem QAt.c0 (h : QAt w bq fk v l) : w.cell? ⟨bq, 0, none⟩ = some (.func (.func fk) #[] #[]) := cells_at h.blk 0 rfl
theorem QAt.c1 (h : QAt w bq fk v l) : w.cell? ⟨bq, 1, none⟩ = some v := cells_at h.blk 1 rfl
theorem QAt.lt (h : QAt w bq fk v l) : bq < w.heap.size := heap_lt h.blk
theorem QAt.fz (h : QAt w bq fk v l) (o : Nat) : w.frozen? ⟨bq, o, none⟩ = false := cells_frozen h.blk o
theorem QAt.ne (h : QAt w bq fk v l) {g : Nat} (hg : v.ownBlock = some g) : g ≠ bq := by
  intro e
  subst e
  obtain ⟨cur, hc⟩ := ownsRow_obj h.row hg
  rw [h.blk] at hc
  simp at hc
theorem QAt.of_block (h : QAt w bq fk v l) (h1 : w'.heap[bq]? = w.heap[bq]?) (h2 : ∀ g, v.ownBlock = some g → w'.heap[g]? = w.heap[g]?) : QAt w' bq fk v l :=
  ⟨h1.trans h.blk, ownsRow_of_block h.row h2⟩
theorem QAt.kept {S : Nat → Prop} (h : QAt w bq fk v l) (hk : Kept S w w') (h1 : ¬ S bq) (h2 : ∀ g, v.ownBlock = some g → ¬ S g) : QAt w' bq fk v l :=
  h.of_block (hk.block _ h.lt h1) fun g hg => hk.block g (h.row.lt g hg).2 (h2 g hg)
theorem QAt.below (h : QAt w bq fk v l) (hk : Below w.heap.size w w') : QAt w' bq fk v l :=
  h.of_block (hk.block _ h.lt) fun g hg => hk.block g (h.row.lt g hg).2
theorem QAt.addr (h : QAt w bq fk v l) (h0 : 0 < l.length) : ∃ g cap, v = .slice (some ⟨g, 0, none⟩) l.length cap ∧ l.length ≤ cap := by
  rcases h.row.2 with ⟨_, hz⟩ | ⟨g, cap', cur, hv, _, _, hn, _⟩
  · omega
  · exact ⟨g, cap', hv, hn⟩
theorem QAt.slice (h : QAt w bq fk v l) : ∃ a cap, v = .slice a l.length cap := by
  rcases h.row.2 with ⟨rfl, hz⟩ | ⟨g, cap', cur, hv, _, _, hn, _⟩
  · exact ⟨none, 0, by rw [hz]⟩
  · exact ⟨_, cap', hv⟩
end

def swapL (l : List Hit) (a b : Nat) : List Hit := (l.set a (nth l b)).set b (nth l a)
theorem swapL_length (l : List Hit) (a b : Nat) : (swapL l a b).length = l.length := by simp [swapL]
end Go.Proofs.YtpkiefjanmfgfaaGreatDoor
namespace Go.Proofs.YtpkiefjanmfgfaaGreatDoor
open Go.RowKit

def idxI (xs : List Int) (x : Int) : Int := if x ∈ xs then ((xs.idxOf x : Nat) : Int) else -1

theorem idxI_at {xs : List Int} {x : Int} {k : Nat} (hk : k < xs.length) (h1 : ∀ j (_ : j < k) (hl : j < xs.length), xs[j] ≠ x) (h2 : xs[k] = x) : idxI xs x = k := by
  have hm : x ∈ xs := h2 ▸ List.getElem_mem hk
  unfold idxI
  rw [if_pos hm]
  have : xs.idxOf x = k := by
    have hlt : xs.idxOf x < xs.length := List.idxOf_lt_length_iff.2 hm
    have he : xs[xs.idxOf x] = x := List.getElem_idxOf hlt
    rcases Nat.lt_trichotomy (xs.idxOf x) k with h | h | h
    · exact absurd he (h1 _ h hlt)
    · exact h
    · exact absurd h2 (List.not_of_lt_findIdx (p := fun y => y == x) (by simpa [List.idxOf] using h) |> fun h3 => by simpa using h3)
  rw [this]
theorem idxI_none {xs : List Int} {x : Int} (h1 : ∀ j (hl : j < xs.length), xs[j] ≠ x) : idxI xs x = -1 := by
  unfold idxI
  rw [if_neg]
  intro h
  obtain ⟨j, hj, e⟩ := List.getElem_of_mem h
  exact h1 j hj e

theorem IRow_slice {w : World} {v : Value} {xs : List Int} (h : w.ownsRow 0 3 1 v xs.length (vals xs)) : ∃ a cap, v = .slice a xs.length cap ∧ (0 < xs.length → ∃ g, a = some ⟨g, 0, none⟩) := by
  rcases h.2 with ⟨rfl, hz⟩ | ⟨g, cap', cur, hv, _, _, hn, _⟩
  · exact ⟨none, 0, by rw [hz], fun h => by omega⟩
  · exact ⟨_, cap', hv, fun _ => ⟨g, rfl⟩⟩

set_option maxHeartbeats 1000000 in
theorem index154 (v : Value) (xs : List Int) (x : Int) (w : World) (hr : w.ownsRow 0 3 1 v xs.length (vals xs)) (hl : xs.length ≤ 1000) :
    Calls Tryz.prog 164 #[v, .int .i64 x] w fun ev w' => ev = .returned (.int .i64 (idxI xs x)) ∧ w = w' := by
  obtain ⟨a, cap, rfl, ha⟩ := IRow_slice hr
  have HR := hide hr
  have HA := hide ha
  clear hr ha
  go_enter Tryz.func164, Tryz.ntmps164
  go_wp2
  go_loop [5, 8] (fun _ i => ∃ k : Nat, i = .int .i64 k ∧ k ≤ xs.length ∧ Hid (∀ j (_ : j < k) (hl : j < xs.length), xs[j] ≠ x)) (fun _ i => xs.length - (intOf i).toNat)
  case atStart => exact ⟨0, rfl, Nat.zero_le _, fun j hj => absurd hj (Nat.not_lt_zero _)⟩
  case round =>
    obtain ⟨k, rfl, hk, hall⟩ := hrel
    by_cases hlt : k < xs.length
    · obtain ⟨g, rfl⟩ := HA.out (by omega)
      have hc : w.cell? ⟨g, k, none⟩ = some (.int .i64 xs[k]) := ownsRow_cell HR.out (by simp [vals, hlt])
      generalize hy : xs[k] = y at hc
      have HY := hide hy
      clear hy
      by_cases he : x = y
      · subst he
        go_wp2
        go_ret
        exact ⟨by rw [idxI_at hlt hall.out HY.out]; rfl, rfl⟩
      · have he2 : ¬ y = x := fun e => he e.symm
        go_wp2
        go_round
        case rel => exact ⟨k + 1, by go_num, by omega, fun j hj hl => by
          rcases Nat.lt_or_ge j k with h | h
          · exact hall.out j h hl
          · obtain rfl : j = k := by omega
            rw [HY.out]; exact he2⟩
        case measure => simp [intOf]; omega
    · go_wp2
      go_ret
      exact ⟨by rw [idxI_none (fun j hl => hall.out j (by omega) hl)]; rfl, rfl⟩

set_option maxHeartbeats 1000000 in
theorem contains132 (v : Value) (xs : List Int) (x : Int) (w : World) (hr : w.ownsRow 0 3 1 v xs.length (vals xs)) (hl : xs.length ≤ 1000) :
    Calls Tryz.prog 139 #[v, .int .i64 x] w fun ev w' => ev = .returned (.bool (decide (x ∈ xs))) ∧ w = w' := by
  obtain ⟨a, cap, rfl, ha⟩ := IRow_slice hr
  have hi := index154 _ xs x w hr hl
  clear hr ha
  by_cases hm : x ∈ xs
  · have e : idxI xs x = ((xs.idxOf x : Nat) : Int) := by rw [idxI, if_pos hm]
    rw [e] at hi
    have HI := hide hi
    clear hi e
    have HM := hide hm
    have h0 : (0 : Int) ≤ ((xs.idxOf x : Nat) : Int) := Int.natCast_nonneg _
    generalize ((xs.idxOf x : Nat) : Int) = q at HI h0
    clear hm
    go_enter Tryz.func139, Tryz.ntmps139
    go_wp2_with (go_at_call 164; refine HI.out.mono ?_; rintro e w' ⟨rfl, rfl⟩)
    go_ret
    exact ⟨by have := HM.out; simp [this], rfl⟩
  · have e : idxI xs x = -1 := by rw [idxI, if_neg hm]
    rw [e] at hi
    have HI := hide hi
    clear hi e
    have HM := hide hm
    clear hm
    go_enter Tryz.func139, Tryz.ntmps139
    go_wp2_with (go_at_call 164; refine HI.out.mono ?_; rintro e w' ⟨rfl, rfl⟩)
    go_ret
    exact ⟨by have := HM.out; simp [this], rfl⟩
end Go.Proofs.YtpkiefjanmfgfaaGreatDoor
namespace Go.Proofs.YtpkiefjanmfgfaaGreatDoor
open Go.RowKit

def partI (m a b : Int) : Int := if m = 0 then (a - b) * (a - b) else if m = 1 then max (a - b) (b - a) else -(a * b)
def Crd (a : Int) : Prop := -1048576 ≤ a ∧ a ≤ 1048576

theorem sq_le {x : Int} (h1 : -2097152 ≤ x) (h2 : x ≤ 2097152) : 0 ≤ x * x ∧ x * x ≤ 4398046511104 := by
  have ha : 0 ≤ (2097152 - x) * (2097152 + x) := Int.mul_nonneg (by omega) (by omega)
  have e : (2097152 - x) * (2097152 + x) = 4398046511104 - x * x := by
    rw [Int.sub_mul, Int.mul_add, Int.mul_add]
    have : x * 2097152 = 2097152 * x := Int.mul_comm _ _
    omega
  have hb : 0 ≤ x * x := by
    rcases Int.le_total 0 x with h | h
    · exact Int.mul_nonneg h h
    · have := Int.mul_nonneg (a := -x) (b := -x) (by omega) (by omega)
      rwa [Int.neg_mul_neg] at this
  omega
theorem prod_le {a b : Int} (ha : Crd a) (hb : Crd b) : -2199023255552 ≤ a * b ∧ a * b ≤ 2199023255552 := by
  unfold Crd at ha hb
  have h1 := sq_le (x := a + b) (by omega) (by omega)
  have h2 := sq_le (x := a - b) (by omega) (by omega)
  have e1 : (a + b) * (a + b) = a * a + 2 * (a * b) + b * b := by
    rw [Int.add_mul, Int.mul_add, Int.mul_add]
    have : b * a = a * b := Int.mul_comm _ _
    omega
  have e2 : (a - b) * (a - b) = a * a - 2 * (a * b) + b * b := by
    rw [Int.sub_mul, Int.mul_sub, Int.mul_sub]
    have : b * a = a * b := Int.mul_comm _ _
    omega
  have h3 := sq_le (x := a) (by omega) (by omega)
  have h4 := sq_le (x := b) (by omega) (by omega)
  omega
theorem partI_le {m a b : Int} (ha : Crd a) (hb : Crd b) : -4398046511104 ≤ partI m a b ∧ partI m a b ≤ 4398046511104 := by
  have h1 := prod_le ha hb
  unfold Crd at ha hb
  have h2 := sq_le (x := a - b) (by omega) (by omega)
  unfold partI
  split
  · omega
  · split
    · omega
    · omega

set_option maxHeartbeats 1000000 in
theorem part140 (m a b : Int) (w : World) (ha : Crd a) (hb : Crd b) : Calls Tryz.prog 147 #[.int .i64 m, .int .i64 a, .int .i64 b] w fun e w' => e = .returned (.int .i64 (partI m a b)) ∧ w = w' := by
  have h1 := prod_le ha hb
  have ha2 := ha
  have hb2 := hb
  unfold Crd at ha2 hb2
  have h2 := sq_le (x := a - b) (by omega) (by omega)
  have w1 : IntKind.i64.wrap (a - b) = a - b := by rw [IntKind.wrap_i64]; omega
  have w2 : IntKind.i64.wrap (b - a) = b - a := by rw [IntKind.wrap_i64]; omega
  have w3 : IntKind.i64.wrap ((a - b) * (a - b)) = (a - b) * (a - b) := by rw [IntKind.wrap_i64]; omega
  have w4 : IntKind.i64.wrap (-a) = -a := by rw [IntKind.wrap_i64]; omega
  have e5 : -a * b = -(a * b) := Int.neg_mul a b
  have w5 : IntKind.i64.wrap (-a * b) = -(a * b) := by rw [e5, IntKind.wrap_i64]; omega
  have w6 : IntKind.i64.wrap (-(a * b)) = -(a * b) := by rw [IntKind.wrap_i64]; omega
  clear ha hb ha2 hb2 h1 h2 e5
  by_cases hm : m = 0
  · subst hm
    go_enter Tryz.func147, Tryz.ntmps147
    go_wp2
    go_ret
    exact ⟨by simp [partI], rfl⟩
  · by_cases hm1 : m = 1
    · subst hm1
      go_enter Tryz.func147, Tryz.ntmps147
      go_wp2
      · go_ret
        refine ⟨?_, rfl⟩
        have e : partI 1 a b = b - a := by unfold partI; rw [if_neg (by omega), if_pos rfl]; omega
        rw [e]; rfl
      · go_ret
        refine ⟨?_, rfl⟩
        have e : partI 1 a b = a - b := by unfold partI; rw [if_neg (by omega), if_pos rfl]; omega
        rw [e]; rfl
    · go_enter Tryz.func147, Tryz.ntmps147
      go_wp2
      go_ret
      exact ⟨by simp [partI, hm, hm1], rfl⟩

def distL (m : Int) : List Int → List Int → Int
  | a :: p, b :: q => partI m a b + distL m p q
  | _, _ => 0
def sumTo (m : Int) (p q : List Int) : Nat → Int
  | 0 => 0
  | n + 1 => sumTo m p q n + partI m (p.getD n 0) (q.getD n 0)
theorem sumTo_cons (m a b : Int) (p q : List Int) : ∀ n, sumTo m (a :: p) (b :: q) (n + 1) = partI m a b + sumTo m p q n
  | 0 => by simp [sumTo]
  | n + 1 => by
    have := sumTo_cons m a b p q n
    rw [sumTo, this]
    simp [sumTo]
    omega
theorem sumTo_all (m : Int) : ∀ (p q : List Int), p.length = q.length → sumTo m p q p.length = distL m p q
  | [], [], _ => rfl
  | a :: p, b :: q, h => by
    rw [List.length_cons, sumTo_cons, distL, sumTo_all m p q (by simpa using h)]
theorem sumTo_le {m : Int} {p q : List Int} (hp : ∀ x ∈ p, Crd x) (hq : ∀ x ∈ q, Crd x) : ∀ n : Nat, -4398046511104 * (n : Int) ≤ sumTo m p q n ∧ sumTo m p q n ≤ 4398046511104 * (n : Int)
  | 0 => by simp [sumTo]
  | n + 1 => by
    have ih := sumTo_le (m := m) hp hq n
    have h1 : ∀ (l : List Int), (∀ x ∈ l, Crd x) → Crd (l.getD n 0) := fun l hl => by
      rw [List.getD_eq_getElem?_getD]
      rcases Nat.lt_or_ge n l.length with h | h
      · rw [List.getElem?_eq_getElem h]; exact hl _ (List.getElem_mem h)
      · rw [List.getElem?_eq_none h]; unfold Crd; simp
    have h2 := partI_le (m := m) (h1 p hp) (h1 q hq)
    unfold sumTo
    push_cast
    omega

set_option maxHeartbeats 2000000 in
set_option maxRecDepth 20000 in
theorem of97 (m : Int) (v1 v2 : Value) (p q : List Int) (w : World) (h1 : w.ownsRow 0 3 1 v1 p.length (vals p)) (h2 : w.ownsRow 0 3 1 v2 q.length (vals q)) (hl : p.length = q.length) (hp : ∀ x ∈ p, Crd x) (hq : ∀ x ∈ q, Crd x) (h8 : p.length ≤ 100) :
    Calls Tryz.prog 101 #[.int .i64 m, v1, v2] w fun e w' => e = .returned (.int .i64 (distL m p q)) ∧ ∃ n, w' = w.drewN n := by
  obtain ⟨a1, c1, rfl, ha1⟩ := IRow_slice h1
  obtain ⟨a2, c2, rfl, ha2⟩ := IRow_slice h2
  have H1 := hide h1
  have H2 := hide h2
  have HA1 := hide ha1
  have HA2 := hide ha2
  have HP := hide hp
  have HQ := hide hq
  have HL := hide hl
  clear h1 h2 ha1 ha2 hp hq hl
  go_enter Tryz.func101, Tryz.ntmps101
  go_wp2
  go_loopw [7, 8, 11] (fun sm _ i wr => ∃ k : Nat, sm = .int .i64 (sumTo m p q k) ∧ i = .int .i64 k ∧ k ≤ p.length ∧ Hid (∃ n, wr = w.drewN n)) (fun _ _ i _ => p.length - (intOf i).toNat)
  case atStart => exact ⟨0, rfl, rfl, Nat.zero_le _, 0, rfl⟩
  case round =>
    obtain ⟨k, rfl, rfl, hk, hw⟩ := hrel
    obtain ⟨n0, hw0⟩ := id hw.out
    by_cases hlt : k < p.length
    · have hlt2 : k < q.length := by rw [← HL.out]; exact hlt
      obtain ⟨g1, rfl⟩ := HA1.out (by omega)
      obtain ⟨g2, rfl⟩ := HA2.out (by omega)
      have x1 : wr.cell? ⟨g1, k, none⟩ = some (.int .i64 (p.getD k 0)) := by
        rw [hw0]
        exact ownsRow_cell (ownsRow_drewN H1.out n0) (by simp [vals, List.getD_eq_getElem?_getD, hlt])
      have x2 : wr.cell? ⟨g2, k, none⟩ = some (.int .i64 (q.getD k 0)) := by
        rw [hw0]
        exact ownsRow_cell (ownsRow_drewN H2.out n0) (by simp [vals, List.getD_eq_getElem?_getD, hlt2])
      have hc1 : Crd (p.getD k 0) := by rw [List.getD_eq_getElem?_getD, List.getElem?_eq_getElem hlt]; exact HP.out _ (List.getElem_mem hlt)
      have hc2 : Crd (q.getD k 0) := by rw [List.getD_eq_getElem?_getD, List.getElem?_eq_getElem hlt2]; exact HQ.out _ (List.getElem_mem hlt2)
      have hprt := fun W => part140 m (p.getD k 0) (q.getD k 0) W hc1 hc2
      have hs := sumTo_le (m := m) HP.out HQ.out k
      have hpl := partI_le (m := m) hc1 hc2
      have hnext : sumTo m p q (k + 1) = sumTo m p q k + partI m (p.getD k 0) (q.getD k 0) := rfl
      have hwr : IntKind.i64.wrap (sumTo m p q k + partI m (p.getD k 0) (q.getD k 0)) = sumTo m p q k + partI m (p.getD k 0) (q.getD k 0) := by
        rw [IntKind.wrap_i64]
        have : (k : Int) ≤ 100 := by omega
        omega
      generalize hy1 : p.getD k 0 = y1 at x1 hprt hnext hwr
      generalize hy2 : q.getD k 0 = y2 at x2 hprt hnext hwr
      generalize partI m y1 y2 = pv at hprt hnext hwr
      have HPRT := hide hprt
      have HNX := hide hnext
      have HW0 := hide hw0
      have hlq : q.length = p.length := HL.out.symm
      clear hprt hnext hs hpl hc1 hc2 hy1 hy2 hw0 hw hlq
      have hltq : k < q.length := hlt2
      go_wp2
      go_quiet ((go_at_call 147; exact Calls.quiet_of_same ((HPRT.out _).mono (fun _ _ h => ⟨h.1, h.2.symm⟩))))
      go_wp2
      refine ⟨⟨k + 1, by rw [HNX.out], by go_num, by omega, n0 + nq, ?_⟩, by simp [intOf]; omega⟩
      rw [HW0.out]
      exact World.drewN_drewN ..
    · go_wp2
      go_ret
      obtain rfl : k = p.length := by omega
      exact ⟨by rw [sumTo_all m p q HL.out]; rfl, n0, rfl⟩
end Go.Proofs.YtpkiefjanmfgfaaGreatDoor
namespace Go.Proofs.YtpkiefjanmfgfaaGreatDoor
open Go.RowKit Go.Maps

structure Cf where
  dim : Int
  cap : Int
  links : Int
  metric : Int
  beam : Int
  top : Int

structure Bks where
  hsv : Value
  hmv : Value
  gsv : Value
  gmv : Value
  lsv : Value
  lmv : Value
  nh : Nat
  ng : Nat
  nl : Nat
def Bks.nil : Bks := ⟨.slice none 0 0, .slice none 0 0, .slice none 0 0, .slice none 0 0, .slice none 0 0, .slice none 0 0, 0, 0, 0⟩
def Bks.own (x : Bks) (k : Nat) : Prop := x.hsv.ownBlock = some k ∨ x.hmv.ownBlock = some k ∨ x.gsv.ownBlock = some k ∨ x.gmv.ownBlock = some k ∨ x.lsv.ownBlock = some k ∨ x.lmv.ownBlock = some k
theorem Bks.own_nil (k : Nat) : ¬ Bks.nil.own k := by
  rintro (e | e | e | e | e | e) <;> cases e

structure Ent where
  id : Int
  pt : List Int
  t0 : Int
  t1 : Int
  draw : Int
  mb : Nat
  mc : Nat
  rb : Nat
  rc : Nat

def mval (e : Ent) : Value := .agg #[.int .i64 e.id, .slice (some ⟨e.mb, 0, none⟩) e.pt.length e.mc, .int .i64 e.t0, .int .i64 e.t1]
def mdata (L : List Ent) : List (Lit × DataW Value) := L.map fun e => (.int .i64 e.id, .held (mval e))

def asIs (v : Value) : Option (DataW Value × List MemPlace) := some (.held v, [])

def insE (x : Ent) : List Ent → List Ent
  | [] => [x]
  | y :: r => if x.id < y.id then x :: y :: r else if x.id = y.id then x :: r else y :: insE x r
def delE (id : Int) (L : List Ent) : List Ent := L.filter fun e => decide (e.id ≠ id)
def findE (id : Int) (L : List Ent) : Option Ent := L.find? fun e => decide (e.id = id)

def Rising (L : List Ent) : Prop := L.Pairwise fun a b => a.id < b.id

theorem sameKey_int (a b : Int) : Lit.sameKey (.int .i64 a) (.int .i64 b) = decide (a = b) := by simp [Lit.sameKey]

theorem mdata_length (L : List Ent) : (mdata L).length = L.length := by simp [mdata]

theorem find_mdata (L : List Ent) (id : Int) : (mdata L).find? (fun p => p.1.sameKey (.int .i64 id)) = (findE id L).map fun e => (.int .i64 e.id, .held (mval e)) := by
  induction L with
  | nil => rfl
  | cons y r ih =>
    simp only [mdata, List.map_cons, List.find?_cons, findE, sameKey_int] at ih ⊢
    by_cases h : y.id = id
    · simp [h]
    · simp only [h, decide_false]
      exact ih

theorem atKey_mdata (L : List Ent) (id : Int) (z : DataW Value) : (DataW.map (mdata L)).atKey (.int .i64 id) z = (match findE id L with | some e => .held (mval e) | none => z) := by
  simp only [DataW.atKey, find_mdata]
  cases findE id L <;> rfl

theorem has_mdata (L : List Ent) (id : Int) : Maps.has (.map (mdata L)) (.int .i64 id) = (findE id L).isSome := by
  rw [Maps.has_eq]
  induction L with
  | nil => rfl
  | cons y r ih =>
    simp only [mdata, List.map_cons, List.any_cons, findE, sameKey_int, List.find?_cons] at ih ⊢
    by_cases h : y.id = id
    · simp [h]
    · simp only [h, decide_false, Bool.false_or]
      exact ih

theorem del_mdata (L : List Ent) (id : Int) : (DataW.map (mdata L)).del (.int .i64 id) = .map (mdata (delE id L)) := by
  simp only [DataW.del, mdata, delE, List.filter_map]
  congr 2
  refine List.filter_congr fun e _ => ?_
  simp [sameKey_int]

theorem filter_above {id : Int} {L : List Ent} (h : ∀ e ∈ L, id < e.id) : (mdata L).filter (fun p => !p.1.sameKey (.int .i64 id)) = mdata L := by
  refine List.filter_eq_self.2 fun p hp => ?_
  obtain ⟨e, he, rfl⟩ := List.mem_map.1 hp
  have := h e he
  simp [sameKey_int]; omega

theorem insert_mdata (x : Ent) : ∀ L : List Ent, Rising L → DataW.insert (.int .i64 x.id, .held (mval x)) ((mdata L).filter fun p => !p.1.sameKey (.int .i64 x.id)) = mdata (insE x L)
  | [], _ => rfl
  | y :: r, h => by
    obtain ⟨h1, h2⟩ := List.pairwise_cons.1 h
    by_cases hlt : x.id < y.id
    · have hall : ∀ e ∈ y :: r, x.id < e.id := fun e he => by
        rcases List.mem_cons.1 he with rfl | he
        · exact hlt
        · have := h1 e he; omega
      rw [filter_above hall]
      simp [mdata, insE, hlt, DataW.insert, Lit.before]
    · by_cases he : x.id = y.id
      · have hall : ∀ e ∈ r, x.id < e.id := fun e hr => by have := h1 e hr; omega
        have e1 : (mdata (y :: r)).filter (fun p => !p.1.sameKey (.int .i64 x.id)) = mdata r := by
          rw [show mdata (y :: r) = (.int .i64 y.id, .held (mval y)) :: mdata r from rfl, List.filter_cons]
          simp only [sameKey_int, he, decide_true, Bool.not_true, Bool.false_eq_true, if_false]
          rw [← he]
          exact filter_above hall
        rw [e1]
        simp only [insE, he, if_false, if_true, Int.lt_irrefl]
        cases r with
        | nil => simp [mdata, DataW.insert, he]
        | cons z r =>
          have := hall z (by simp)
          simp [mdata, DataW.insert, Lit.before, ← he, this]
      · have e1 : (mdata (y :: r)).filter (fun p => !p.1.sameKey (.int .i64 x.id)) = (.int .i64 y.id, .held (mval y)) :: (mdata r).filter (fun p => !p.1.sameKey (.int .i64 x.id)) := by
          rw [show mdata (y :: r) = (.int .i64 y.id, .held (mval y)) :: mdata r from rfl, List.filter_cons]
          have : ¬ y.id = x.id := fun e => he e.symm
          simp [sameKey_int, this]
        rw [e1]
        simp only [DataW.insert, Lit.before, hlt, decide_false, Bool.false_eq_true, if_false]
        rw [insert_mdata x r h2]
        simp [insE, hlt, he, mdata]

theorem put_mdata (x : Ent) (L : List Ent) (h : Rising L) : (DataW.map (mdata L)).put (.int .i64 x.id) (.held (mval x)) = .map (mdata (insE x L)) := by
  rw [← insert_mdata x L h]
  rfl

theorem findE_mem {id : Int} {L : List Ent} {e : Ent} (h : findE id L = some e) : e ∈ L ∧ e.id = id := by
  unfold findE at h
  exact ⟨List.mem_of_find?_eq_some h, by simpa using List.find?_some h⟩
theorem findE_none {id : Int} {L : List Ent} (h : findE id L = none) : ∀ e ∈ L, e.id ≠ id := by
  intro e he
  have := List.find?_eq_none.1 h e he
  simpa using this
theorem mem_insE {x e : Ent} : ∀ {L : List Ent}, e ∈ insE x L → e = x ∨ e ∈ L
  | [], h => by simp [insE] at h; exact .inl h
  | y :: r, h => by
    unfold insE at h
    split at h
    · rcases List.mem_cons.1 h with h | h
      · exact .inl h
      · exact .inr h
    · split at h
      · rcases List.mem_cons.1 h with h | h
        · exact .inl h
        · exact .inr (List.mem_cons_of_mem _ h)
      · rcases List.mem_cons.1 h with h | h
        · exact .inr (by simp [h])
        · rcases mem_insE h with h | h
          · exact .inl h
          · exact .inr (List.mem_cons_of_mem _ h)
theorem rising_insE (x : Ent) : ∀ {L : List Ent}, Rising L → Rising (insE x L)
  | [], _ => by simp [insE, Rising]
  | y :: r, h => by
    obtain ⟨h1, h2⟩ := List.pairwise_cons.1 h
    unfold insE
    split
    · rename_i hlt
      refine List.pairwise_cons.2 ⟨fun e he => ?_, h⟩
      rcases List.mem_cons.1 he with rfl | he
      · exact hlt
      · have := h1 e he; omega
    · split
      · rename_i he
        exact List.pairwise_cons.2 ⟨fun e hr => by have := h1 e hr; omega, h2⟩
      · rename_i hlt hne
        refine List.pairwise_cons.2 ⟨fun e he => ?_, rising_insE x h2⟩
        rcases mem_insE he with rfl | he
        · omega
        · exact h1 e he
theorem rising_delE (id : Int) {L : List Ent} (h : Rising L) : Rising (delE id L) := h.filter _
theorem length_insE_none (x : Ent) : ∀ {L : List Ent}, findE x.id L = none → (insE x L).length = L.length + 1
  | [], _ => rfl
  | y :: r, h => by
    have hy := findE_none h y (by simp)
    have hr : findE x.id r = none := by
      unfold findE at h ⊢
      rw [List.find?_cons] at h
      simpa [hy] using h
    unfold insE
    split
    · rfl
    · split
      · omega
      · simp [length_insE_none x hr]
theorem length_insE_some (x : Ent) : ∀ {L : List Ent} {e : Ent}, Rising L → findE x.id L = some e → (insE x L).length = L.length
  | [], _, _, h => by cases h
  | y :: r, e, hs, h => by
    obtain ⟨h1, h2⟩ := List.pairwise_cons.1 hs
    by_cases hy : y.id = x.id
    · simp [insE, hy]
    · have hr : findE x.id r = some e := by
        unfold findE at h ⊢
        rw [List.find?_cons] at h
        simpa [hy] using h
      have := h1 e (findE_mem hr).1
      have := (findE_mem hr).2
      unfold insE
      rw [if_neg (by omega), if_neg (fun e => hy e.symm)]
      simp [length_insE_some x h2 hr]
theorem mem_delE {id : Int} {L : List Ent} {e : Ent} (h : e ∈ delE id L) : e ∈ L := (List.mem_filter.1 h).1
end Go.Proofs.YtpkiefjanmfgfaaGreatDoor
namespace Go.Proofs.YtpkiefjanmfgfaaGreatDoor
open Go.RowKit Go.Maps

theorem key3 : Keyed Tryz.prog 3 := int_keyed Tryz.underlying3
theorem zero56 (w : World) : (zeroValue 77).run Tryz.prog w = .ok (.agg #[.int .i64 0, .slice none 0 0, .int .i64 0, .int .i64 0]) w := by kernel_rfl

def I64 (n : Int) : Prop := (Lit.int .i64 n).wf = true

structure MapAt (w : World) (bm : Nat) (L : List Ent) : Prop where
  map : w.ownsMap Tryz.prog 3 asIs bm L.length (.map (mdata L))
  pts : ∀ e ∈ L, Pts w e.mb e.mc e.pt
  pos : ∀ e ∈ L, 0 < e.pt.length ∧ e.pt.length ≤ 8
  rising : Rising L

theorem MapAt.block {w w' : World} {bm : Nat} {L : List Ent} (h : MapAt w bm L) (hb : w'.heap[bm]? = w.heap[bm]?) (hp : ∀ e ∈ L, w'.heap[e.mb]? = w.heap[e.mb]?) : MapAt w' bm L := by
  obtain ⟨es, clock, h1, h2⟩ := h.map
  exact ⟨⟨es, clock, hb.trans h1, h2⟩, fun e he => ownsRow_of_block (h.pts e he) fun g hg => by
    obtain rfl : e.mb = g := by simpa [Value.ownBlock] using hg
    exact hp e he, h.pos, h.rising⟩
theorem MapAt.lt {w : World} {bm : Nat} {L : List Ent} (h : MapAt w bm L) : bm < w.heap.size := h.map.lt
theorem MapAt.plt {w : World} {bm : Nat} {L : List Ent} (h : MapAt w bm L) : ∀ e ∈ L, e.mb < w.heap.size := fun e he => ((h.pts e he).lt e.mb rfl).2
theorem MapAt.below {w w' : World} {bm : Nat} {L : List Ent} (h : MapAt w bm L) (hb : Below w.heap.size w w') : MapAt w' bm L :=
  h.block (hb.block _ h.lt) fun e he => hb.block _ (h.plt e he)
theorem MapAt.alloc {w : World} {bm : Nat} {L : List Ent} (h : MapAt w bm L) (o : Obj) : MapAt (w.alloc o) bm L :=
  h.below ((Below.refl _ _).alloc (Nat.le_refl _) o)

theorem MapAt.look {w : World} {bm : Nat} {L : List Ent} (h : MapAt w bm L) (id : Int) (hid : I64 id) :
    (Instr.lookup 153 (.map (some bm)) (.int .i64 id) true).run Tryz.prog w = .ok (.tuple #[(match findE id L with | some e => mval e | none => .agg #[.int .i64 0, .slice none 0 0, .int .i64 0, .int .i64 0]), .bool (findE id L).isSome]) w := by
  obtain ⟨v, ps, hrun, hv⟩ := h.map.look_ok key3 Tryz.underlying153 (zero56 w) (zd := .held (.agg #[.int .i64 0, .slice none 0 0, .int .i64 0, .int .i64 0])) (zp := []) rfl (keyOf_int_mk Tryz.underlying3 hid)
  rw [has_mdata] at hrun
  rw [atKey_mdata] at hv
  simp only [asIs, Option.some.injEq, Prod.mk.injEq] at hv
  have hv1 := hv.1
  revert hv1 hrun
  cases findE id L with
  | none => intro hrun h; rw [hrun, DataW.held.inj h]
  | some e => intro hrun h; rw [hrun, DataW.held.inj h]

theorem MapAt.look_yes {w : World} {bm : Nat} {L : List Ent} (h : MapAt w bm L) (id : Int) (hid : I64 id) {e : Ent} (he : findE id L = some e) :
    (Instr.lookup 153 (.map (some bm)) (.int .i64 id) true).run Tryz.prog w = .ok (.tuple #[.agg #[.int .i64 e.id, .slice (some ⟨e.mb, 0, none⟩) e.pt.length e.mc, .int .i64 e.t0, .int .i64 e.t1], .bool true]) w := by
  rw [h.look id hid, he]; rfl
theorem MapAt.look_no {w : World} {bm : Nat} {L : List Ent} (h : MapAt w bm L) (id : Int) (hid : I64 id) (he : findE id L = none) :
    (Instr.lookup 153 (.map (some bm)) (.int .i64 id) true).run Tryz.prog w = .ok (.tuple #[.agg #[.int .i64 0, .slice none 0 0, .int .i64 0, .int .i64 0], .bool false]) w := by
  rw [h.look id hid, he]; rfl
theorem MapAt.count {w : World} {bm : Nat} {L : List Ent} (h : MapAt w bm L) : (Builtin.len_ #[153] 3 #[.map (some bm)]).run Tryz.prog w = .ok (.int .i64 L.length) w := by
  rw [h.map.len Tryz.underlying153 3, Maps.size_eq, mdata_length]

set_option maxHeartbeats 1000000 in
theorem find57_yes (bs bm : Nat) (id : Int) (L : List Ent) (e : Ent) (w : World) (hid : I64 id) (c1 : w.cell? ⟨bs, 1, none⟩ = some (.map (some bm))) (hm : MapAt w bm L) (he : findE id L = some e) :
    Calls Tryz.prog 99 #[.pointer (some ⟨bs, 0, none⟩), .int .i64 id] w fun ev w' => ev = .returned (.tuple #[.agg #[.int .i64 e.id, .slice (some ⟨e.mb, 0, none⟩) e.pt.length e.mc, .int .i64 e.t0, .int .i64 e.t1], .nilIface]) ∧ Below w.heap.size w w' := by
  have hl := fun o => (hm.alloc o).look_yes id hid he
  have hbs := block_lt_of_cell c1
  clear he hm
  go_enter Tryz.func99, Tryz.ntmps99
  go_wp2
  refine bodyPost_ret (v := .tuple #[.agg #[.int .i64 e.id, .slice (some ⟨e.mb, 0, none⟩) e.pt.length e.mc, .int .i64 e.t0, .int .i64 e.t1], .nilIface]) (by simp [results, Tryz.results99, go_sem]) rfl ⟨rfl, ?_⟩
  repeat (first | exact Below.refl _ _ | refine Below.setCell ?_ (by simp) _ | refine Below.alloc ?_ (by simp) _)

set_option maxHeartbeats 1000000 in
theorem find57_no (bs bm : Nat) (id : Int) (L : List Ent) (w : World) (hid : I64 id) (c1 : w.cell? ⟨bs, 1, none⟩ = some (.map (some bm))) (hm : MapAt w bm L) (he : findE id L = none) :
    Calls Tryz.prog 99 #[.pointer (some ⟨bs, 0, none⟩), .int .i64 id] w fun ev w' => (∃ s, ev = .returned (.tuple #[.agg #[.int .i64 0, .slice none 0 0, .int .i64 0, .int .i64 0], .iface 158 (.agg #[.string s, .int .i64 id, .iface 156 (.int .i64 5)])])) ∧ Below w.heap.size w w' := by
  have hl := fun o => (hm.alloc o).look_no id hid he
  have hbs := block_lt_of_cell c1
  clear he hm
  go_enter Tryz.func99, Tryz.ntmps99
  go_wp2
  refine bodyPost_ret (v := .tuple #[.agg #[.int .i64 0, .slice none 0 0, .int .i64 0, .int .i64 0], .iface 158 (.agg #[.string _, .int .i64 id, .iface 156 (.int .i64 5)])]) (by simp [results, Tryz.results99, go_sem]; rfl) rfl ⟨⟨_, rfl⟩, ?_⟩
  repeat (first | exact Below.refl _ _ | refine Below.setCell ?_ (by simp) _ | refine Below.alloc ?_ (by simp) _)

set_option maxHeartbeats 1000000 in
theorem count30_any (bs bm : Nat) (L : List Ent) (w : World) (c1 : w.cell? ⟨bs, 1, none⟩ = some (.map (some bm))) (hm : MapAt w bm L) :
    Calls Tryz.prog 41 #[.pointer (some ⟨bs, 0, none⟩)] w fun ev w' => ev = .returned (.int .i64 L.length) ∧ w = w' := by
  have hl := hm.count
  clear hm
  go_enter Tryz.func41, Tryz.ntmps41
  go_wp2
  go_ret
  exact ⟨rfl, rfl⟩

def StS (w0 : World) (bs bm : Nat) (cap : Int) (L : List Ent) (wx : World) : Prop :=
  wx.cell? ⟨bs, 0, none⟩ = some (.int .i64 cap) ∧ wx.cell? ⟨bs, 1, none⟩ = some (.map (some bm)) ∧ MapAt wx bm L ∧ Below w0.heap.size w0 wx
theorem StS.both {w0 : World} {bs bm : Nat} {cap : Int} {L : List Ent} {wx : World} (h : StS w0 bs bm cap L wx) : StS w0 bs bm cap L wx ∧ wx.cell? ⟨bs, 0, none⟩ = some (.int .i64 cap) := ⟨h, h.1⟩
theorem StS.two {w0 : World} {bs bm : Nat} {cap : Int} {L : List Ent} {wx : World} (h : StS w0 bs bm cap L wx) : wx.cell? ⟨bs, 1, none⟩ = some (.map (some bm)) := h.2.1
theorem StS.three {w0 : World} {bs bm : Nat} {cap : Int} {L : List Ent} {wx : World} (h : StS w0 bs bm cap L wx) : MapAt wx bm L := h.2.2.1
theorem StS.four {w0 : World} {bs bm : Nat} {cap : Int} {L : List Ent} {wx : World} (h : StS w0 bs bm cap L wx) : Below w0.heap.size w0 wx := h.2.2.2
theorem StS.of_below {w0 : World} {bs bm : Nat} {cap : Int} {L : List Ent} {wx wy : World} (h : StS w0 bs bm cap L wx) (hb : Below wx.heap.size wx wy) : StS w0 bs bm cap L wy :=
  ⟨Below.at hb h.1 (block_lt_of_cell (a := ⟨bs, 0, none⟩) h.1), Below.at hb h.2.1 (block_lt_of_cell (a := ⟨bs, 1, none⟩) h.2.1), h.2.2.1.below hb, h.2.2.2.trans (hb.mono h.2.2.2.size)⟩
theorem StS.alloc {w0 : World} {bs bm : Nat} {cap : Int} {L : List Ent} {wx : World} (h : StS w0 bs bm cap L wx) (o : Obj) : StS w0 bs bm cap L (wx.alloc o) :=
  h.of_below ((Below.refl _ _).alloc (Nat.le_refl _) o)
theorem StS.drew {w0 : World} {bs bm : Nat} {cap : Int} {L : List Ent} {wx : World} (h : StS w0 bs bm cap L wx) : StS w0 bs bm cap L wx.drew :=
  h.of_below (Below.refl _ _).drew

set_option maxHeartbeats 1000000 in
theorem room55_yes (bs bm : Nat) (id : Int) (L : List Ent) (e : Ent) (w : World) (hid : I64 id) (c1 : w.cell? ⟨bs, 1, none⟩ = some (.map (some bm))) (hm : MapAt w bm L) (he : findE id L = some e) :
    Calls Tryz.prog 88 #[.pointer (some ⟨bs, 0, none⟩), .int .i64 id] w fun ev w' => ev = .returned .nilIface ∧ Below w.heap.size w w' := by
  go_enter Tryz.func88, Tryz.ntmps88
  go_wp2_with (go_at_call 99; refine (find57_yes bs bm id L e _ hid c1 hm he).mono ?_; rintro ev w' ⟨rfl, hb⟩)
  have hz : w.heap.size ≤ w'.heap.size := hb.size
  clear hm
  go_quiet ((go_at_call 133; exact Calls.quiet_of_same ((is_nil _).mono (fun _ _ h => ⟨h.1, h.2.symm⟩))))
  go_wp2
  go_ret
  refine ⟨rfl, ?_⟩
  refine below_drewN ?_ _
  repeat (first | exact hb | refine Below.setCell ?_ (by first | omega | (simp; done) | (simp; omega)) _ | refine Below.alloc ?_ (by first | omega | (simp; done) | (simp; omega)) _)

set_option maxHeartbeats 1000000 in
theorem room55_no (bs bm : Nat) (id : Int) (L : List Ent) (w : World) (hid : I64 id) (cap : Int) (c0 : w.cell? ⟨bs, 0, none⟩ = some (.int .i64 cap)) (c1 : w.cell? ⟨bs, 1, none⟩ = some (.map (some bm))) (hm : MapAt w bm L) (he : findE id L = none)
    (hfull : ¬ cap ≤ L.length) :
    Calls Tryz.prog 88 #[.pointer (some ⟨bs, 0, none⟩), .int .i64 id] w fun ev w' => ev = .returned .nilIface ∧ Below w.heap.size w w' := by
  have hd : decide (cap ≤ L.length) = false := by simpa using hfull
  go_enter Tryz.func88, Tryz.ntmps88
  go_wp2_with (go_at_call 99; refine (find57_no bs bm id L _ hid c1 hm he).mono ?_; rintro ev w' ⟨⟨s, rfl⟩, hb⟩)
  have hS : StS w bs bm cap L w' := ⟨Below.at hb c0 (block_lt_of_cell c0), Below.at hb c1 (block_lt_of_cell c1), hm.below hb, hb⟩
  clear hm hb c0 c1 he hfull
  go_region_held3 (fun wx => StS w bs bm cap L wx ∧ wx.cell? ⟨bs, 0, none⟩ = some (.int .i64 cap)) ((refine StS.both ?_; repeat (first | exact hS | refine StS.drew ?_ | refine StS.alloc ?_ _)))
    (first
      | (go_at_call 133; refine (is_none s id _).mono ?_; rintro ev2 w2 ⟨rfl, rfl⟩)
      | (go_at_call 41; refine (count30_any bs bm L _ ?_ ?_).mono ?_; (refine StS.two (w0 := w) (cap := cap) (L := L) ?_; repeat (first | exact hS | refine StS.drew ?_ | refine StS.alloc ?_ _)); (refine StS.three (w0 := w) (bs := bs) (cap := cap) ?_; repeat (first | exact hS | refine StS.drew ?_ | refine StS.alloc ?_ _)); rintro ev2 w2 ⟨rfl, rfl⟩))
  go_wp2
  go_ret
  refine ⟨rfl, StS.four (bs := bs) (bm := bm) (cap := cap) (L := L) ?_⟩
  repeat (first | exact hS | refine StS.drew ?_ | refine StS.alloc ?_ _)
set_option maxHeartbeats 1000000 in
theorem room55_full (bs bm : Nat) (id : Int) (L : List Ent) (w : World) (hid : I64 id) (cap : Int) (c0 : w.cell? ⟨bs, 0, none⟩ = some (.int .i64 cap)) (c1 : w.cell? ⟨bs, 1, none⟩ = some (.map (some bm))) (hm : MapAt w bm L) (he : findE id L = none)
    (hfull : cap ≤ L.length) :
    Calls Tryz.prog 88 #[.pointer (some ⟨bs, 0, none⟩), .int .i64 id] w fun ev w' => (∃ s, ev = .returned (.iface 158 (.agg #[.string s, .int .i64 id, .iface 156 (.int .i64 4)]))) ∧ Below w.heap.size w w' := by
  have hd : decide (cap ≤ L.length) = true := by simpa using hfull
  go_enter Tryz.func88, Tryz.ntmps88
  go_wp2_with (go_at_call 99; refine (find57_no bs bm id L _ hid c1 hm he).mono ?_; rintro ev w' ⟨⟨s, rfl⟩, hb⟩)
  have hS : StS w bs bm cap L w' := ⟨Below.at hb c0 (block_lt_of_cell c0), Below.at hb c1 (block_lt_of_cell c1), hm.below hb, hb⟩
  clear hm hb c0 c1 he hfull
  go_region_held3 (fun wx => StS w bs bm cap L wx ∧ wx.cell? ⟨bs, 0, none⟩ = some (.int .i64 cap)) ((refine StS.both ?_; repeat (first | exact hS | refine StS.drew ?_ | refine StS.alloc ?_ _)))
    (first
      | (go_at_call 133; refine (is_none s id _).mono ?_; rintro ev2 w2 ⟨rfl, rfl⟩)
      | (go_at_call 41; refine (count30_any bs bm L _ ?_ ?_).mono ?_; (refine StS.two (w0 := w) (cap := cap) (L := L) ?_; repeat (first | exact hS | refine StS.drew ?_ | refine StS.alloc ?_ _)); (refine StS.three (w0 := w) (bs := bs) (cap := cap) ?_; repeat (first | exact hS | refine StS.drew ?_ | refine StS.alloc ?_ _)); rintro ev2 w2 ⟨rfl, rfl⟩))
  go_wp2
  go_ret
  refine ⟨⟨_, rfl⟩, StS.four (bs := bs) (bm := bm) (cap := cap) (L := L) ?_⟩
  repeat (first | exact hS | refine StS.drew ?_ | refine StS.alloc ?_ _)
end Go.Proofs.YtpkiefjanmfgfaaGreatDoor
