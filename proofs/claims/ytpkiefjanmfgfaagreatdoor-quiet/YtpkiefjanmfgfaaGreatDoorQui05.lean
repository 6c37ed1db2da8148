import Derived.Deep.Cut
import Derived.Deep.DeepMust
import Derived.Maps.RangeWalk
import Derived.Lib.SliceRun
import Derived.Test.YtpkiefjanmfgfaaGreatDoorQui04
namespace Go.Proofs.YtpkiefjanmfgfaaGreatDoor
open Go.RowKit

def ahead (fk : Nat) (a b : Hit) : Bool := if fk = 104 then nearB a b else farB a b
def IsOrd (fk : Nat) : Prop := fk = 104 ∨ fk = 150

def upL (fk : Nat) : Nat → List Hit → Nat → List Hit
  | 0, l, _ => l
  | n + 1, l, at_ => if at_ = 0 then l else if ahead fk (nth l at_) (nth l ((at_ - 1) / 2)) = true then upL fk n (swapL l at_ ((at_ - 1) / 2)) ((at_ - 1) / 2) else l
theorem upL_length (fk : Nat) : ∀ n l a, (upL fk n l a).length = l.length
  | 0, _, _ => rfl
  | n + 1, l, a => by
    unfold upL
    split
    · rfl
    · split
      · rw [upL_length, swapL_length]
      · rfl


def CmpQ (w0 : World) (bq fk g n cap a b : Nat) (x y : Hit) (wx : World) : Prop :=
  (wx.cell? ⟨bq, 0, none⟩ = some (.func (.func fk) #[] #[]) ∧ wx.cell? ⟨bq, 1, none⟩ = some (.slice (some ⟨g, 0, none⟩) n cap) ∧
    wx.cell? ⟨g, a * 2, none⟩ = some (.int .i64 x.1) ∧ wx.cell? ⟨g, a * 2 + 1, none⟩ = some (.int .i64 x.2) ∧ wx.cell? ⟨g, b * 2, none⟩ = some (.int .i64 y.1) ∧ wx.cell? ⟨g, b * 2 + 1, none⟩ = some (.int .i64 y.2)) ∧ Below w0.heap.size w0 wx
section
variable {w0 wx wy : World} {bq fk g n cap a b : Nat} {x y : Hit}
theorem CmpQ.cells (h : CmpQ w0 bq fk g n cap a b x y wx) : wx.cell? ⟨bq, 0, none⟩ = some (.func (.func fk) #[] #[]) ∧ wx.cell? ⟨bq, 1, none⟩ = some (.slice (some ⟨g, 0, none⟩) n cap) ∧
    wx.cell? ⟨g, a * 2, none⟩ = some (.int .i64 x.1) ∧ wx.cell? ⟨g, a * 2 + 1, none⟩ = some (.int .i64 x.2) ∧ wx.cell? ⟨g, b * 2, none⟩ = some (.int .i64 y.1) ∧ wx.cell? ⟨g, b * 2 + 1, none⟩ = some (.int .i64 y.2) := h.1
theorem CmpQ.bel (h : CmpQ w0 bq fk g n cap a b x y wx) : Below w0.heap.size w0 wx := h.2
theorem cell_below {b o : Nat} {v : Value} (hc : wx.cell? ⟨b, o, none⟩ = some v) (hb : Below wx.heap.size wx wy) : wy.cell? ⟨b, o, none⟩ = some v := Below.at hb hc (block_lt_of_cell (a := ⟨b, o, none⟩) hc)
theorem CmpQ.below (h : CmpQ w0 bq fk g n cap a b x y wx) (hb : Below wx.heap.size wx wy) : CmpQ w0 bq fk g n cap a b x y wy :=
  ⟨⟨cell_below h.1.1 hb, cell_below h.1.2.1 hb, cell_below h.1.2.2.1 hb, cell_below h.1.2.2.2.1 hb, cell_below h.1.2.2.2.2.1 hb, cell_below h.1.2.2.2.2.2 hb⟩, h.2.trans (hb.mono h.2.size)⟩
theorem CmpQ.drew (h : CmpQ w0 bq fk g n cap a b x y wx) : CmpQ w0 bq fk g n cap a b x y wx.drew := h.below (Below.refl _ _).drew
theorem CmpQ.of {m : List Hit} (h : QAt wx bq fk (.slice (some ⟨g, 0, none⟩) m.length cap) m) (ha : a < m.length) (hb : b < m.length) : CmpQ wx bq fk g m.length cap a b (nth m a) (nth m b) wx :=
  ⟨⟨h.c0, h.c1, HRow.at0 h.row ha, HRow.at1 h.row ha, HRow.at0 h.row hb, HRow.at1 h.row hb⟩, Below.refl _ _⟩
end

theorem upL_fuel (fk : Nat) : ∀ (n m : Nat) (l : List Hit) (a : Nat), a < n → a < m → upL fk n l a = upL fk m l a
  | n + 1, m + 1, l, a, hn, hm => by
    unfold upL
    by_cases h0 : a = 0
    · simp [h0]
    · simp only [h0, if_false]
      split
      · exact upL_fuel fk n m _ _ (by omega) (by omega)
      · rfl

theorem half_lt {k : Nat} (h : ¬ k = 0) : (k - 1) / 2 < k := by omega

set_option maxHeartbeats 4000000 in
theorem up144_100 (bq g cap a : Nat) (l : List Hit) (w : World) (h : QAt w bq 104 (.slice (some ⟨g, 0, none⟩) l.length cap) l) (ha : a < l.length) (hl : l.length ≤ 1000) :
    Calls Tryz.prog 151 #[.pointer (some ⟨bq, 0, none⟩), .int .i64 a] w fun ev w' => ev = .returned (.tuple #[]) ∧ QAt w' bq 104 (.slice (some ⟨g, 0, none⟩) l.length cap) (upL 104 (a + 1) l a) ∧ Kept (fun k => k = g) w w' := by
  have hne := h.ne (g := g) rfl
  have hcap := ownsRow_len h.row
  have H := hide h
  clear h
  go_enter Tryz.func151, Tryz.ntmps151
  go_wp2
  go_loopw [1, 4] (fun at_ _ wr => ∃ (k : Nat) (m : List Hit), at_ = .int .i64 k ∧ k < l.length ∧ m.length = l.length ∧ QAt wr bq 104 (.slice (some ⟨g, 0, none⟩) m.length cap) m ∧ upL 104 (a + 1) l a = upL 104 (k + 1) m k ∧ Kept (fun k => k = g) w wr) (fun at_ _ _ => (intOf at_).toNat)
  case atStart => exact ⟨a, l, rfl, ha, rfl, H.out, rfl, Kept.refl _ _⟩
  case round =>
    obtain ⟨k, m, rfl, hkl, hml, hq, he, hkp⟩ := hrel
    by_cases h0 : k = 0
    · subst h0
      go_wp2
      go_end0
      refine ⟨rfl, ?_, hkp⟩
      rw [he, ← hml]
      simpa [upL] using hq
    · have ep : ((k : Int) - 1) / 2 = (((k - 1) / 2 : Nat) : Int) := by omega
      have hp := half_lt h0
      have hm1000 : m.length ≤ 1000 := by omega
      have hkm : k < m.length := by omega
      have HE := hide he
      have HK := hide hkp
      have HML := hide hml
      clear he hkp hml
      go_wp2
      rw [ep]
      generalize hpe : (k - 1) / 2 = p at hp
      have hpm : p < m.length := by omega
      have hS := CmpQ.of hq hkm hpm
      have HQ := hide hq
      have HP := hide hpe
      clear hq hpe ep
      generalize hx : nth m k = x at hS
      generalize hy : nth m p = y at hS
      have HX := hide hx
      have HY := hide hy
      clear hx hy
      go_region_held3 (fun wx => wx.cell? ⟨bq, 0, none⟩ = some (.func (.func 104) #[] #[]) ∧ wx.cell? ⟨bq, 1, none⟩ = some (.slice (some ⟨g, 0, none⟩) m.length cap) ∧
    wx.cell? ⟨g, k * 2, none⟩ = some (.int .i64 x.1) ∧ wx.cell? ⟨g, k * 2 + 1, none⟩ = some (.int .i64 x.2) ∧ wx.cell? ⟨g, p * 2, none⟩ = some (.int .i64 y.1) ∧ wx.cell? ⟨g, p * 2 + 1, none⟩ = some (.int .i64 y.2)) ((refine CmpQ.cells (w0 := wr) ?_; repeat (first | exact hS | refine CmpQ.drew ?_ | exact hS2)))
        (first
          | (go_at_call 104; refine (nearer100 x y _).mono ?_; rintro e w2 ⟨rfl, hb2⟩; have hS2 := CmpQ.below (CmpQ.drew hS) hb2))
      have HS2 := hide hS2
      clear hS hS2 hb2
      by_cases hah : ahead 104 x y = true
      · have hah1 : nearB x y = true := by simpa [ahead] using hah
        rw [hah1]
        have HA := hide hah
        clear hah hah1
        have hq2 := HQ.out.below HS2.out.bel
        go_wp2_with (go_at_call 172; refine (swap162 bq 104 g cap k p m _ hq2 hkm hpm (by omega) hm1000).mono ?_; rintro e3 w3 ⟨rfl, hq3, hk3⟩)
        refine ⟨⟨p, swapL m k p, rfl, by omega, by rw [swapL_length]; exact HML.out, by rw [swapL_length]; exact hq3, ?_, ?_⟩, by simp [intOf]; omega⟩
        · rw [HE.out, upL, if_neg h0, HP.out, HX.out, HY.out, if_pos HA.out]
          exact upL_fuel _ _ _ _ _ (by omega) (by omega)
        · exact (HK.out.below HS2.out.bel).trans hk3 (fun _ _ h => h)
      · have hah1 : nearB x y = false := by simpa [ahead] using hah
        rw [hah1]
        have HA := hide hah
        clear hah hah1
        go_wp2
        (try simp only [Exit.inBlock, Exit.then]); refine bodyPost_ret (results_none rfl _ _ _) rfl ?_
        refine ⟨rfl, ?_, ?_⟩
        · rw [HE.out, upL, if_neg h0, HP.out, HX.out, HY.out, if_neg HA.out, ← HML.out]
          exact HQ.out.below HS2.out.bel
        · exact HK.out.below HS2.out.bel

set_option maxHeartbeats 4000000 in
theorem up144_143 (bq g cap a : Nat) (l : List Hit) (w : World) (h : QAt w bq 150 (.slice (some ⟨g, 0, none⟩) l.length cap) l) (ha : a < l.length) (hl : l.length ≤ 1000) :
    Calls Tryz.prog 151 #[.pointer (some ⟨bq, 0, none⟩), .int .i64 a] w fun ev w' => ev = .returned (.tuple #[]) ∧ QAt w' bq 150 (.slice (some ⟨g, 0, none⟩) l.length cap) (upL 150 (a + 1) l a) ∧ Kept (fun k => k = g) w w' := by
  have hne := h.ne (g := g) rfl
  have hcap := ownsRow_len h.row
  have H := hide h
  clear h
  go_enter Tryz.func151, Tryz.ntmps151
  go_wp2
  go_loopw [1, 4] (fun at_ _ wr => ∃ (k : Nat) (m : List Hit), at_ = .int .i64 k ∧ k < l.length ∧ m.length = l.length ∧ QAt wr bq 150 (.slice (some ⟨g, 0, none⟩) m.length cap) m ∧ upL 150 (a + 1) l a = upL 150 (k + 1) m k ∧ Kept (fun k => k = g) w wr) (fun at_ _ _ => (intOf at_).toNat)
  case atStart => exact ⟨a, l, rfl, ha, rfl, H.out, rfl, Kept.refl _ _⟩
  case round =>
    obtain ⟨k, m, rfl, hkl, hml, hq, he, hkp⟩ := hrel
    by_cases h0 : k = 0
    · subst h0
      go_wp2
      go_end0
      refine ⟨rfl, ?_, hkp⟩
      rw [he, ← hml]
      simpa [upL] using hq
    · have ep : ((k : Int) - 1) / 2 = (((k - 1) / 2 : Nat) : Int) := by omega
      have hp := half_lt h0
      have hm1000 : m.length ≤ 1000 := by omega
      have hkm : k < m.length := by omega
      have HE := hide he
      have HK := hide hkp
      have HML := hide hml
      clear he hkp hml
      go_wp2
      rw [ep]
      generalize hpe : (k - 1) / 2 = p at hp
      have hpm : p < m.length := by omega
      have hS := CmpQ.of hq hkm hpm
      have HQ := hide hq
      have HP := hide hpe
      clear hq hpe ep
      generalize hx : nth m k = x at hS
      generalize hy : nth m p = y at hS
      have HX := hide hx
      have HY := hide hy
      clear hx hy
      go_region_held3 (fun wx => wx.cell? ⟨bq, 0, none⟩ = some (.func (.func 150) #[] #[]) ∧ wx.cell? ⟨bq, 1, none⟩ = some (.slice (some ⟨g, 0, none⟩) m.length cap) ∧
    wx.cell? ⟨g, k * 2, none⟩ = some (.int .i64 x.1) ∧ wx.cell? ⟨g, k * 2 + 1, none⟩ = some (.int .i64 x.2) ∧ wx.cell? ⟨g, p * 2, none⟩ = some (.int .i64 y.1) ∧ wx.cell? ⟨g, p * 2 + 1, none⟩ = some (.int .i64 y.2)) ((refine CmpQ.cells (w0 := wr) ?_; repeat (first | exact hS | refine CmpQ.drew ?_ | exact hS2)))
        (first
          | (go_at_call 150; refine (farther143 x y _).mono ?_; rintro e w2 ⟨rfl, hb2⟩; have hS2 := CmpQ.below (CmpQ.drew hS) hb2))
      have HS2 := hide hS2
      clear hS hS2 hb2
      by_cases hah : ahead 150 x y = true
      · have hah1 : farB x y = true := by simpa [ahead] using hah
        rw [hah1]
        have HA := hide hah
        clear hah hah1
        have hq2 := HQ.out.below HS2.out.bel
        go_wp2_with (go_at_call 172; refine (swap162 bq 150 g cap k p m _ hq2 hkm hpm (by omega) hm1000).mono ?_; rintro e3 w3 ⟨rfl, hq3, hk3⟩)
        refine ⟨⟨p, swapL m k p, rfl, by omega, by rw [swapL_length]; exact HML.out, by rw [swapL_length]; exact hq3, ?_, ?_⟩, by simp [intOf]; omega⟩
        · rw [HE.out, upL, if_neg h0, HP.out, HX.out, HY.out, if_pos HA.out]
          exact upL_fuel _ _ _ _ _ (by omega) (by omega)
        · exact (HK.out.below HS2.out.bel).trans hk3 (fun _ _ h => h)
      · have hah1 : farB x y = false := by simpa [ahead] using hah
        rw [hah1]
        have HA := hide hah
        clear hah hah1
        go_wp2
        (try simp only [Exit.inBlock, Exit.then]); refine bodyPost_ret (results_none rfl _ _ _) rfl ?_
        refine ⟨rfl, ?_, ?_⟩
        · rw [HE.out, upL, if_neg h0, HP.out, HX.out, HY.out, if_neg HA.out, ← HML.out]
          exact HQ.out.below HS2.out.bel
        · exact HK.out.below HS2.out.bel

theorem up144_any (bq fk g cap a : Nat) (hk : IsOrd fk) (l : List Hit) (w : World) (h : QAt w bq fk (.slice (some ⟨g, 0, none⟩) l.length cap) l) (ha : a < l.length) (hl : l.length ≤ 1000) :
    Calls Tryz.prog 151 #[.pointer (some ⟨bq, 0, none⟩), .int .i64 a] w fun ev w' => ev = .returned (.tuple #[]) ∧ QAt w' bq fk (.slice (some ⟨g, 0, none⟩) l.length cap) (upL fk (a + 1) l a) ∧ Kept (fun k => k = g) w w' := by
  rcases hk with rfl | rfl
  · exact up144_100 bq g cap a l w h ha hl
  · exact up144_143 bq g cap a l w h ha hl
end Go.Proofs.YtpkiefjanmfgfaaGreatDoor
namespace Go.Proofs.YtpkiefjanmfgfaaGreatDoor
open Go.RowKit Go.Maps

def ahead1 (ch : List Int) (k : Nat) : List Int := if 0 < k then [ch.getD (k - 1) 0] else []
def behind1 (ch : List Int) (k : Nat) : List Int := if k + 1 < ch.length then [ch.getD (k + 1) 0] else []
def besideL (ch : List Int) (id : Int) : List Int := if id ∈ ch then ahead1 ch (ch.idxOf id) ++ behind1 ch (ch.idxOf id) else []

theorem besideL_length (ch : List Int) (id : Int) : (besideL ch id).length ≤ 2 := by
  unfold besideL ahead1 behind1
  split
  · split <;> split <;> simp
  · simp

theorem nil_row (w : World) : w.ownsRow 0 3 1 (.slice none 0 0) 0 [] := ⟨rfl, .inl ⟨rfl, rfl⟩⟩
theorem bel_first {w w1 : World} {o : Obj} (hg : (w.alloc o).grownBy w1 (Value.slice none 0 0).ownBlock) : Below w.heap.size w w1 :=
  ((Below.refl _ _).alloc (Nat.le_refl _) _).grown hg (by simp) (fun k e => by simp [Value.ownBlock] at e)
theorem bel_second {w w1 w2 : World} {o : Obj} {g cap : Nat} (hb : Below w.heap.size w w1) (hle : w.heap.size ≤ g) (hg : (w1.alloc o).grownBy w2 (Value.slice (some ⟨g, 0, none⟩) 1 cap).ownBlock) : Below w.heap.size w w2 :=
  (hb.alloc hb.size _).grown hg (by have := hb.size; simp; omega) (fun k e => by obtain rfl : g = k := by { simpa [Value.ownBlock] using e }; exact hle)
theorem row_alloc {w : World} {v : Value} {n : Nat} {xs : List Value} (h : w.ownsRow 0 3 1 v n xs) (o : Obj) : (w.alloc o).ownsRow 0 3 1 v n xs := ownsRow_below h ((Below.refl _ _).alloc (Nat.le_refl _) o)

set_option maxHeartbeats 2000000 in
set_option maxRecDepth 20000 in
theorem beside145 (bg : Nat) (F : Nat → Prop) (lev : List (Int × Int)) (lk : Int × Int → List Int) (ch : List Int) (id : Int) (w : World) (h : GAt w bg F lev lk ch) (hc : ch.length ≤ 1000) :
    Calls Tryz.prog 152 #[.pointer (some ⟨bg, 0, none⟩), .int .i64 id] w fun ev w' => ∃ v', ev = .returned v' ∧ IRow w' v' (besideL ch id) ∧ (∀ g, v'.ownBlock = some g → w.heap.size ≤ g) ∧ Below w.heap.size w w' := by
  obtain ⟨bl, bk, cv, Ls, h1, h2, h3, h4⟩ := h
  obtain ⟨i0, hi, hz0, hz1, hz2⟩ := info_parts info3
  have c2 := h1.c2
  have hidx := index154 cv ch id w h1.chr hc
  obtain ⟨ca, ccap, rfl, hca⟩ := IRow_slice h1.chr
  have HCH := hide h1.chr
  have hbg := heap_lt h1.blk
  have HBLK := hide h1.blk
  clear h1 h2 h3 h4
  by_cases hm : id ∈ ch
  · have hk : ch.idxOf id < ch.length := List.idxOf_lt_length_iff.2 hm
    have e1 : idxI ch id = ((ch.idxOf id : Nat) : Int) := by rw [idxI, if_pos hm]
    have e2 : besideL ch id = ahead1 ch (ch.idxOf id) ++ behind1 ch (ch.idxOf id) := by rw [besideL, if_pos hm]
    rw [e1] at hidx
    rw [e2]
    obtain ⟨g0, rfl⟩ := hca (by omega)
    generalize ch.idxOf id = k at hk hidx
    have HIX := hide hidx
    have hcell : ∀ j, j < ch.length → w.cell? ⟨g0, j, none⟩ = some (.int .i64 (ch.getD j 0)) := fun j hj => ownsRow_cell HCH.out (by simp [vals, List.getD_eq_getElem?_getD, hj])
    have hg0 : g0 < w.heap.size := block_lt_of_cell (hcell k hk)
    clear hidx e1 e2 hm
    by_cases ha : 0 < k
    · have ca := hcell (k - 1) (by omega)
      have ea : ((k : Int) - 1) = ((k - 1 : Nat) : Int) := by omega
      have eA : ahead1 ch k = [ch.getD (k - 1) 0] := by rw [ahead1, if_pos ha]
      rw [eA]
      by_cases hb : k + 1 < ch.length
      · have eB : behind1 ch k = [ch.getD (k + 1) 0] := by rw [behind1, if_pos hb]
        have cb := hcell (k + 1) hb
        rw [eB]
        clear hcell
        generalize ch.getD (k - 1) 0 = x at ca
        generalize ch.getD (k + 1) 0 = y at cb
        go_enter Tryz.func152, Tryz.ntmps152
        go_upto_region 5 with (first | (go_at_call 164; refine HIX.out.mono ?_; rintro e2 w2 ⟨rfl, rfl⟩) | (at_builtin; go_must (refine wpList_append_lies _ rfl _ _ 32 rfl 0 3 i0 (.int .i64 0) 1 8 Tryz.underlying32 hi hz0 hz1 hz2 rfl (by decide) (.slice none 0 0) 0 [] rfl (nil_row _) ⟨w.heap.size, 0, none⟩ 1 1 [.int .i64 x] rfl rfl (World.news_of_block (cs := #[.int .i64 x]) (t := 3) (fr := (0, 0)) (heap_alloc_new _ _)) (by simp [Value.oneCell']) (by decide) (by decide) (by decide) (Nat.zero_le _) (w.heap.size + 1) (by simp) ?_); intro g1 cap1 w1 ho1 hg1 hat1 hlt1; have hB1 := bel_first hg1; have HG1 : Hid (w.heap.size ≤ g1) := by { show w.heap.size ≤ g1; rcases hat1 with e | e; (simp [Value.ownBlock] at e); omega }; have d2 := cell_below c2 hB1; have d3 := cell_below cb hB1; have HB1 := hide hB1; have HO1 := hide ho1; clear ho1 hg1 hat1 hB1))
        go_wp2_with (at_builtin; go_must (refine wpList_append_lies _ rfl _ _ 32 rfl 0 3 i0 (.int .i64 0) 1 8 Tryz.underlying32 hi hz0 hz1 hz2 rfl (by decide) (.slice (some ⟨g1, 0, none⟩) 1 cap1) 1 [.int .i64 x] rfl (row_alloc HO1.out _) ⟨w1.heap.size, 0, none⟩ 1 1 [.int .i64 y] rfl rfl (World.news_of_block (cs := #[.int .i64 y]) (t := 3) (fr := (0, 0)) (heap_alloc_new _ _)) (by simp [Value.oneCell']) (by decide) (by decide) (by decide) (Nat.zero_le _) (w1.heap.size + 1) (by simp) ?_); intro g2 cap2 w2 ho2 hg2 hat2 hlt2; have HB2 := hide (bel_second HB1.out HG1.out hg2); have HG2 : Hid (w.heap.size ≤ g2) := by { show w.heap.size ≤ g2; rcases hat2 with e | e; (have e3 : g1 = g2 := by { simpa [Value.ownBlock] using e }; exact e3 ▸ HG1.out); (have := HB1.out.size; omega) }; have HO2 := hide ho2; clear ho2 hg2 hat2)
        go_ret
        refine ⟨_, rfl, HO2.out, fun g e => ?_, HB2.out⟩
        obtain rfl : g2 = g := by simpa [Value.ownBlock] using e
        exact HG2.out
      · have eB : behind1 ch k = [] := by rw [behind1, if_neg hb]
        rw [eB]
        clear hcell
        generalize ch.getD (k - 1) 0 = x at ca
        have hb' : ¬ ((k : Int) + 1 < (ch.length : Int)) := by omega
        go_enter Tryz.func152, Tryz.ntmps152
        go_wp2_with (first | (go_at_call 164; refine HIX.out.mono ?_; rintro e2 w2 ⟨rfl, rfl⟩) | (at_builtin; go_must (refine wpList_append_lies _ rfl _ _ 32 rfl 0 3 i0 (.int .i64 0) 1 8 Tryz.underlying32 hi hz0 hz1 hz2 rfl (by decide) (.slice none 0 0) 0 [] rfl (nil_row _) ⟨w.heap.size, 0, none⟩ 1 1 [.int .i64 x] rfl rfl (World.news_of_block (cs := #[.int .i64 x]) (t := 3) (fr := (0, 0)) (heap_alloc_new _ _)) (by simp [Value.oneCell']) (by decide) (by decide) (by decide) (Nat.zero_le _) (w.heap.size + 1) (by simp) ?_); intro g1 cap1 w1 ho1 hg1 hat1 hlt1; have hB1 := bel_first hg1; have HG1 : Hid (w.heap.size ≤ g1) := by { show w.heap.size ≤ g1; rcases hat1 with e | e; (simp [Value.ownBlock] at e); omega }; have d2 := cell_below c2 hB1; have hq0 := 0; have HB1 := hide hB1; have HO1 := hide ho1; clear ho1 hg1 hat1 hB1))
        go_ret
        refine ⟨_, rfl, HO1.out, fun g e => ?_, HB1.out⟩
        obtain rfl : g1 = g := by simpa [Value.ownBlock] using e
        exact HG1.out
    · obtain rfl : k = 0 := by omega
      have eA : ahead1 ch 0 = [] := rfl
      rw [eA]
      by_cases hb : 0 + 1 < ch.length
      · have eB : behind1 ch 0 = [ch.getD 1 0] := by rw [behind1, if_pos hb]
        have cb := hcell 1 hb
        rw [eB]
        clear hcell
        generalize ch.getD 1 0 = y at cb
        have hb' : (1 : Int) < (ch.length : Int) := by omega
        go_enter Tryz.func152, Tryz.ntmps152
        go_wp2_with (first | (go_at_call 164; refine HIX.out.mono ?_; rintro e2 w2 ⟨rfl, rfl⟩) | (at_builtin; go_must (refine wpList_append_lies _ rfl _ _ 32 rfl 0 3 i0 (.int .i64 0) 1 8 Tryz.underlying32 hi hz0 hz1 hz2 rfl (by decide) (.slice none 0 0) 0 [] rfl (nil_row _) ⟨w.heap.size, 0, none⟩ 1 1 [.int .i64 y] rfl rfl (World.news_of_block (cs := #[.int .i64 y]) (t := 3) (fr := (0, 0)) (heap_alloc_new _ _)) (by simp [Value.oneCell']) (by decide) (by decide) (by decide) (Nat.zero_le _) (w.heap.size + 1) (by simp) ?_); intro g1 cap1 w1 ho1 hg1 hat1 hlt1; have hB1 := bel_first hg1; have HG1 : Hid (w.heap.size ≤ g1) := by { show w.heap.size ≤ g1; rcases hat1 with e | e; (simp [Value.ownBlock] at e); omega }; have d2 := cell_below c2 hB1; have hq0 := 0; have HB1 := hide hB1; have HO1 := hide ho1; clear ho1 hg1 hat1 hB1))
        go_ret
        refine ⟨_, rfl, HO1.out, fun g e => ?_, HB1.out⟩
        obtain rfl : g1 = g := by simpa [Value.ownBlock] using e
        exact HG1.out
      · have eB : behind1 ch 0 = [] := by rw [behind1, if_neg hb]
        rw [eB]
        clear hcell
        have hb' : ¬ ((1 : Int) < (ch.length : Int)) := by omega
        go_enter Tryz.func152, Tryz.ntmps152
        go_wp2_with (go_at_call 164; refine HIX.out.mono ?_; rintro e2 w2 ⟨rfl, rfl⟩)
        go_ret
        exact ⟨_, rfl, ⟨rfl, .inl ⟨rfl, rfl⟩⟩, fun g e => by simp [Value.ownBlock] at e, Below.refl _ _⟩
  · have e1 : idxI ch id = -1 := by rw [idxI, if_neg hm]
    have e2 : besideL ch id = [] := by rw [besideL, if_neg hm]
    rw [e1] at hidx
    rw [e2]
    have HIX := hide hidx
    clear hidx e1 e2 hm
    go_enter Tryz.func152, Tryz.ntmps152
    go_wp2_with (go_at_call 164; refine HIX.out.mono ?_; rintro e2 w2 ⟨rfl, rfl⟩)
    go_ret
    exact ⟨_, rfl, ⟨rfl, .inl ⟨rfl, rfl⟩⟩, fun g e => by simp [Value.ownBlock] at e, Below.refl _ _⟩
end Go.Proofs.YtpkiefjanmfgfaaGreatDoor
namespace Go.Proofs.YtpkiefjanmfgfaaGreatDoor
open Go.RowKit Go.Maps

def reachedL (lk : Int × Int → List Int) (ch : List Int) (id l : Int) : List Int := if l = 0 then lk (id, l) ++ besideL ch id else lk (id, l)

theorem IRow_src {w : World} {v : Value} {xs : List Int} (h : IRow w v xs) : ∃ sa cap, v = .slice sa xs.length cap ∧ (0 < xs.length → ∃ a, sa = some a ∧ ∀ j u, (vals xs)[j]? = some u → w.cell? (a.add j) = some u) := by
  rcases h.2 with ⟨rfl, hz⟩ | ⟨g, cap', cur, rfl, r⟩
  · exact ⟨none, 0, by rw [hz], fun h => by omega⟩
  · exact ⟨_, cap', rfl, fun _ => ⟨_, rfl, fun j u hu => by rw [addr_add, Nat.zero_add]; exact ownsRow_cell (n := xs.length) (cap := cap') h hu⟩⟩

set_option maxHeartbeats 2000000 in
set_option maxRecDepth 20000 in
theorem reached109 (bg : Nat) (F : Nat → Prop) (lev : List (Int × Int)) (lk : Int × Int → List Int) (ch : List Int) (id l : Int) (w : World) (h : GAt w bg F lev lk ch) (hid : I64 id) (hl : I64 l) (hs : (lk (id, l)).length ≤ 900) (hc : ch.length ≤ 1000) :
    Calls Tryz.prog 113 #[.pointer (some ⟨bg, 0, none⟩), .int .i64 id, .int .i64 l] w fun ev w' => ∃ v', ev = .returned v' ∧ IRow w' v' (reachedL lk ch id l) ∧ (∀ g, v'.ownBlock = some g → w.heap.size ≤ g) ∧ Below w.heap.size w w' := by
  obtain ⟨i0, hi, hz0, hz1, hz2⟩ := info_parts info3
  have hlk := linked88 bg F lev lk ch id l w h hid hl (by omega)
  have HLK := hide hlk
  have H := hide h
  clear hlk h
  have hb2 := besideL_length ch id
  by_cases h0 : l = 0
  · subst h0
    have e1 : reachedL lk ch id 0 = lk (id, 0) ++ besideL ch id := by rw [reachedL, if_pos rfl]
    rw [e1]
    clear e1
    go_enter Tryz.func113, Tryz.ntmps113
    go_wp2_with fail
    refine HLK.out.mono ?_
    rintro e1 w1 ⟨v1, rfl, r1, f1, b1, _⟩
    have hbs := beside145 bg F lev lk ch id w1 (H.out.below b1) hc
    have HBS := hide hbs
    have R1 := hide r1
    have F1 := hide f1
    have B1 := hide b1
    clear hbs r1 f1 b1
    go_wp2_with fail
    refine HBS.out.mono ?_
    rintro e2 w2 ⟨v2, rfl, r2, f2, b2⟩
    obtain ⟨sa, cap2, rfl, hsrc⟩ := IRow_src r2
    have hfit : (lk (id, 0)).length + (besideL ch id).length ≤ maxLen ∧ ((lk (id, 0)).length + (besideL ch id).length) * 8 ≤ 140737488355328 := by unfold maxLen; omega
    have hr12 : w2.ownsRow 0 3 1 v1 (lk (id, 0)).length (vals (lk (id, 0))) := ownsRow_below R1.out b2
    have R12 := hide hr12
    have HSRC := hide hsrc
    have B2 := hide b2
    clear hr12 hsrc r2 f2 b2
    go_wp2_with (at_builtin; go_must (refine wpList_append_any _ rfl _ _ 32 rfl 0 3 i0 (.int .i64 0) 1 8 Tryz.underlying32 hi hz0 hz1 hz2 rfl (by decide) v1 _ _ rfl R12.out sa _ cap2 (vals (besideL ch id)) rfl (by rw [vals_length, Nat.mul_one]) HSRC.out (vals_one _) hfit.1 hfit.2 (Nat.zero_le _) ?_); intro v3 w3 ho3 hg3 hat3)
    go_ret
    have hrow : IRow w3 v3 (lk (id, 0) ++ besideL ch id) := by
      unfold IRow
      rw [vals_append, List.length_append]
      exact ho3
    refine ⟨v3, rfl, hrow, fun g e => ?_, ?_⟩
    · rcases hat3 with e2 | e2
      · exact F1.out g (by rw [← e2]; exact e)
      · have := B1.out.size
        have := B2.out.size
        rw [e2] at e
        have e3 : w2.heap.size = g := Option.some.inj e
        omega
    · exact (B1.out.trans (B2.out.mono B1.out.size)).grown hg3 (Nat.le_trans B1.out.size B2.out.size) (fun k e => F1.out k e)
  · have e1 : reachedL lk ch id l = lk (id, l) := by rw [reachedL, if_neg h0]
    rw [e1]
    clear e1
    go_enter Tryz.func113, Tryz.ntmps113
    go_wp2_with fail
    refine HLK.out.mono ?_
    rintro e1 w1 ⟨v1, rfl, r1, f1, b1, _⟩
    have R1 := hide r1
    have F1 := hide f1
    have B1 := hide b1
    clear r1 f1 b1
    go_wp2
    go_ret
    exact ⟨v1, rfl, R1.out, F1.out, B1.out⟩
end Go.Proofs.YtpkiefjanmfgfaaGreatDoor
namespace Go.Proofs.YtpkiefjanmfgfaaGreatDoor
open Go.RowKit Go.Maps

def EntrOf (lev : List (Int × Int)) (gone : Int → Bool) (e t : Int) : Prop :=
  ((∀ p ∈ lev, gone p.1 = false) ∧ e = 0 ∧ t = -1) ∨ ((e, t) ∈ lev ∧ gone e = true ∧ ∀ p ∈ lev, gone p.1 = true → p.2 < t ∨ (p.2 = t ∧ e ≤ p.1))
def better (e t x l : Int) : Bool := decide (t < l) || (decide (l = t) && decide (x < e))

theorem EntrOf.step {lev : List (Int × Int)} {gone : Int → Bool} {e t x l : Int} (h : EntrOf lev gone e t) (hx : (x, l) ∈ lev) (hl : 0 ≤ l) (hn : (lev.map (·.1)).Nodup) {gone' : Int → Bool} (hg : ∀ i, gone' i = (gone i || decide (i = x))) :
    if better e t x l = true then EntrOf lev gone' x l else EntrOf lev gone' e t := by
  have huniq : ∀ p ∈ lev, p.1 = x → p.2 = l := fun p hp e1 => by
    have := nodup_map_inj hn hp hx e1
    rw [this]
  rcases h with ⟨h1, rfl, rfl⟩ | ⟨h1, h2, h3⟩
  · have hb : better 0 (-1) x l = true := by unfold better; simp; omega
    rw [if_pos hb]
    refine .inr ⟨hx, by rw [hg]; simp, fun p hp hgp => ?_⟩
    rw [hg, h1 p hp] at hgp
    have e1 : p.1 = x := by simpa using hgp
    exact .inr ⟨huniq p hp e1, by omega⟩
  · by_cases hb : better e t x l = true
    · rw [if_pos hb]
      unfold better at hb
      simp at hb
      refine .inr ⟨hx, by rw [hg]; simp, fun p hp hgp => ?_⟩
      rw [hg] at hgp
      by_cases e1 : p.1 = x
      · exact .inr ⟨huniq p hp e1, by omega⟩
      · have hgp' : gone p.1 = true := by simpa [e1] using hgp
        have := h3 p hp hgp'
        omega
    · rw [if_neg hb]
      unfold better at hb
      simp at hb
      refine .inr ⟨h1, by rw [hg, h2]; rfl, fun p hp hgp => ?_⟩
      rw [hg] at hgp
      by_cases e1 : p.1 = x
      · have := huniq p hp e1
        have h4 := hb.1
        have h5 := hb.2
        omega
      · have hgp' : gone p.1 = true := by simpa [e1] using hgp
        exact h3 p hp hgp'

noncomputable def entrL (lev : List (Int × Int)) : Int × Int := Classical.epsilon fun p => EntrOf lev (fun _ => true) p.1 p.2
theorem EntrOf.eq {lev : List (Int × Int)} {e t : Int} (h : EntrOf lev (fun _ => true) e t) : entrL lev = (e, t) := by
  have hs : EntrOf lev (fun _ => true) (entrL lev).1 (entrL lev).2 := Classical.epsilon_spec (p := fun p : Int × Int => EntrOf lev (fun _ => true) p.1 p.2) ⟨(e, t), h⟩
  generalize entrL lev = q at hs
  obtain ⟨a, b⟩ := q
  simp only at hs
  rcases h with ⟨h1, rfl, rfl⟩ | ⟨h1, _, h3⟩
  · rcases hs with ⟨_, rfl, rfl⟩ | ⟨g1, _, _⟩
    · rfl
    · have := h1 _ g1; simp at this
  · rcases hs with ⟨g1, _, _⟩ | ⟨g1, _, g3⟩
    · have := g1 _ h1; simp at this
    · have a1 := h3 _ g1 rfl
      have a2 := g3 _ h1 rfl
      simp at a1 a2
      have : a = e := by omega
      have : b = t := by omega
      simp_all

theorem asIs_inv (v : Value) (y : DataW Value × List MemPlace) (_h : asIs v = some y) : ∃ c, v = (fun c : Value => c) c := ⟨v, rfl⟩

theorem levOf_mem {lev : List (Int × Int)} {i l : Int} (h : levOf lev i = some l) : (i, l) ∈ lev := by
  unfold levOf at h
  obtain ⟨p, hp, rfl⟩ := Option.map_eq_some_iff.1 h
  have h1 := List.find?_some hp
  simp at h1
  rw [← h1]
  exact List.mem_of_find?_eq_some hp
theorem levOf_of_mem {lev : List (Int × Int)} (hn : (lev.map (·.1)).Nodup) {i l : Int} (h : (i, l) ∈ lev) : levOf lev i = some l := by
  cases hv : levOf lev i with
  | none =>
    unfold levOf at hv
    have := List.find?_eq_none.1 (Option.map_eq_none_iff.1 hv) _ h
    simp at this
  | some m =>
    have := nodup_map_inj hn (levOf_mem hv) h rfl
    simp at this
    rw [this]
theorem lev_came {lev : List (Int × Int)} {D : DataW Value} (hat : ∀ a, intKey.ok a → ∀ z, D.atKey (intKey.lit a) z = ((getA a (levV lev)).map DataW.held).getD z) {x : Int} {c : Value} {kl : Lit} {y : DataW Value × List MemPlace}
    (hkey : keyOf Tryz.prog 3 (.int .i64 x) = some kl) (hv : asIs c = some y) (h : ∀ zd, D.atKey kl zd = y.1) : ∃ l, c = .int .i64 l ∧ (x, l) ∈ lev ∧ kl = .int .i64 x := by
  obtain ⟨x', e1, rfl, hw⟩ := Maps.keyOf_int_inv Tryz.underlying3 hkey
  cases e1
  have hy : y.1 = .held c := by cases hv; rfl
  have h1 := hat x hw
  rw [getA_levV] at h1
  cases hl : levOf lev x with
  | none =>
    have h2 := (h1 .nil).symm.trans (h .nil)
    rw [hl, hy] at h2
    cases h2
  | some l =>
    have h2 := (h1 .nil).symm.trans (h .nil)
    rw [hl, hy] at h2
    exact ⟨l, (DataW.held.inj h2).symm, levOf_mem hl, rfl⟩
theorem intk_inv (key : Value) (kl : Lit) (h : keyOf Tryz.prog 3 key = some kl) : ∃ x : Int, key = Value.int .i64 x := by
  obtain ⟨x, e, _⟩ := Maps.keyOf_int_inv Tryz.underlying3 h
  exact ⟨x, e⟩

set_option maxHeartbeats 4000000 in
set_option maxRecDepth 20000 in
theorem entrance112 (bg : Nat) (F : Nat → Prop) (lev : List (Int × Int)) (lk : Int × Int → List Int) (ch : List Int) (w : World) (h : GAt w bg F lev lk ch) (hid : ∀ p ∈ lev, I64 p.1 ∧ 0 ≤ p.2) :
    Calls Tryz.prog 116 #[.pointer (some ⟨bg, 0, none⟩)] w fun ev w' => ev = .returned (.tuple #[.int .i64 (entrL lev).1, .bool (decide (0 ≤ (entrL lev).2))]) ∧ Below w.heap.size w w' := by
  obtain ⟨bl, bk, cv, Ls, h1, h2, h3, h4⟩ := h
  obtain ⟨D, hown, hsz, htidy, hat⟩ := h1.lev.own
  have hnod : (lev.map (·.1)).Nodup := by
    have := h1.lev.nodup
    unfold keysA levV at this
    rw [List.map_map] at this
    exact this
  have c0 := h1.c0
  have hhas : ∀ i, I64 i → Maps.has D (.int .i64 i) = (levOf lev i).isSome := fun i hi => by
    have h5 := has_of_at (hat i hi)
    rw [getA_levV] at h5
    have h6 : (Option.map (Value.int .i64) (levOf lev i)).isSome = (levOf lev i).isSome := by simp
    rw [h6] at h5
    exact h5
  have HOWN := hide hown
  have HAT := hide hat
  have HNOD := hide hnod
  have HID := hide hid
  have HHAS := hide hhas
  clear h1 h2 h3 h4 hown hat hnod hid hhas hsz htidy
  go_enter Tryz.func116, Tryz.ntmps116
  go_wp2_with (first | (at_range; refine wpList_range_own _ rfl _ 169 rfl 3 3 key3 Tryz.underlying169 _ bl _ D rfl HOWN.out ?_; intro w0 hrg0 hg0 hs0) | go_in)
  go_frame
  have HRG0 := hide hrg0
  have HB0 : Hid (Below w.heap.size w w0) := (Below.refl _ _).grown hg0 (Nat.le_refl _) (fun k e => by cases e)
  clear hrg0 hg0 hs0
  go_loopw [4, 5, 6, 7] (fun e t _ _ wr => ∃ (left : Lit → Bool) (cnt : Nat) (e' t' : Int), e = .int .i64 e' ∧ t = .int .i64 t' ∧ Hid (wr.ranges Tryz.prog 3 asIs bl w.heap.size (levV lev).length D left cnt) ∧ Hid (EntrOf lev (fun i => !left (.int .i64 i)) e' t') ∧ Hid (Below w.heap.size w wr)) (fun _ _ _ _ wr => wr.rangeLeft bl w.heap.size)
  case atStart =>
    refine ⟨Maps.has D, _, 0, -1, rfl, rfl, HRG0.out, .inl ⟨fun p hp => ?_, rfl, rfl⟩, HB0.out⟩
    show (!Maps.has D (.int .i64 p.1)) = false
    rw [HHAS.out p.1 (HID.out p hp).1, levOf_of_mem HNOD.out hp]
    rfl
  case round =>
    obtain ⟨left, cnt, e', t', rfl, rfl, hrg, hen, hbl⟩ := hrel
    go_wp2_with (first | (at_next; refine wpList_next_ranges _ rfl _ rfl 3 key3 asIs (fun x : Int => Value.int .i64 x) (fun c : Value => c) intk_inv asIs_inv bl w.heap.size _ D left cnt rfl hrg.out ?_ ?_) | go_in)
    · intro _ hl0
      have hfin : EntrOf lev (fun _ => true) e' t' := by
        have := hen.out
        simp only [hl0] at this
        exact this
      have HE := hide hfin.eq
      clear hfin
      go_wp2
      go_ret2
      refine ⟨?_, hbl.out⟩
      rw [HE.out]
      rfl
    · intro x c kl y1 y2 w1 cnt1 hkey hlx hv hat2 hrg1 hlt hg1 hs1 hent
      obtain ⟨l, rfl, hm, rfl⟩ := lev_came (y := (y1, y2)) HAT.out hkey hv hat2
      have hstep := EntrOf.step hen.out hm (HID.out _ hm).2 HNOD.out (gone' := fun i => !(left (.int .i64 i) && !(Lit.int .i64 i).sameKey (.int .i64 x))) (fun i => by
        rw [sameKey_int]
        cases left (.int .i64 i) <;> simp)
      have HB1 : Hid (Below w.heap.size w w1) := hbl.out.grown hg1 hbl.out.size (fun k e => Nat.le_of_eq (Option.some.inj e))
      have HRG1 := hide hrg1
      have HM : Hid (w1.rangeLeft bl w.heap.size < wr.rangeLeft bl w.heap.size) := by
        show _ < _
        rw [hrg1.left_eq, hrg.out.left_eq]; exact hlt
      have HST := hide hstep
      clear hkey hlx hv hat2 hrg1 hlt hg1 hs1 hstep hm
      by_cases hA : t' < l
      · have hb : better e' t' x l = true := by unfold better; simp [hA]
        rw [hb, if_pos rfl] at HST
        go_wp2
        exact ⟨⟨_, _, x, l, rfl, rfl, HRG1.out, HST.out, HB1.out⟩, HM.out⟩
      · have hA' : decide (t' < l) = false := by simpa using hA
        by_cases hB : l = t'
        · by_cases hC : x < e'
          · have hb : better e' t' x l = true := by unfold better; simp [hB, hC]
            rw [hb, if_pos rfl] at HST
            subst hB
            go_wp2
            exact ⟨⟨_, _, x, l, rfl, rfl, HRG1.out, HST.out, HB1.out⟩, HM.out⟩
          · have hb : better e' t' x l = false := by unfold better; simp [hB]; omega
            rw [hb] at HST
            simp only [Bool.false_eq_true, if_false] at HST
            subst hB
            go_wp2
            exact ⟨⟨_, _, e', l, rfl, rfl, HRG1.out, HST.out, HB1.out⟩, HM.out⟩
        · have hb : better e' t' x l = false := by unfold better; simp [hB]; omega
          rw [hb] at HST
          simp only [Bool.false_eq_true, if_false] at HST
          go_wp2
          exact ⟨⟨_, _, e', t', rfl, rfl, HRG1.out, HST.out, HB1.out⟩, HM.out⟩
end Go.Proofs.YtpkiefjanmfgfaaGreatDoor
namespace Go.Proofs.YtpkiefjanmfgfaaGreatDoor
open Go.RowKit Go.Maps

def idxP (p : Int → Bool) (xs : List Int) : Int := match xs.findIdx? p with | some k => (k : Int) | none => -1
theorem idxP_at {p : Int → Bool} {xs : List Int} {k : Nat} (hk : k < xs.length) (h1 : ∀ j (_ : j < k) (hl : j < xs.length), p xs[j] = false) (h2 : p xs[k] = true) : idxP p xs = k := by
  unfold idxP
  have : xs.findIdx? p = some k := by
    rw [List.findIdx?_eq_some_iff_getElem]
    exact ⟨hk, h2, fun j hj => by simpa using h1 j hj (by omega)⟩
  rw [this]
theorem idxP_none {p : Int → Bool} {xs : List Int} (h1 : ∀ j (hl : j < xs.length), p xs[j] = false) : idxP p xs = -1 := by
  unfold idxP
  have : xs.findIdx? p = none := by
    rw [List.findIdx?_eq_none_iff]
    intro x hx
    obtain ⟨j, hj, rfl⟩ := List.getElem_of_mem hx
    exact h1 j hj
  rw [this]

set_option maxHeartbeats 2000000 in
theorem indexFunc153_130 (c1 : Value) (p : Int → Bool) (v : Value) (xs : List Int) (w : World) (hr : IRow w v xs) (hl : xs.length ≤ 1000)
    (hp : ∀ W x, Below w.heap.size w W → Calls Tryz.prog 137 #[.int .i64 x, c1] W fun e W' => e = .returned (.bool (p x)) ∧ Below W.heap.size W W') :
    Calls Tryz.prog 163 #[v, .func (.func 137) #[] #[c1]] w fun ev w' => ev = .returned (.int .i64 (idxP p xs)) ∧ Below w.heap.size w w' := by
  obtain ⟨a, cap, rfl, ha⟩ := IRow_slice hr
  have HR := hide hr
  have HA := hide ha
  have HP := hide hp
  clear hr ha hp
  go_enter Tryz.func163, Tryz.ntmps163
  go_wp2
  go_loopw [5, 8] (fun _ i wr => ∃ k : Nat, i = .int .i64 k ∧ k ≤ xs.length ∧ Hid (∀ j (_ : j < k) (hl : j < xs.length), p xs[j] = false) ∧ Hid (Below w.heap.size w wr)) (fun _ i _ => xs.length - (intOf i).toNat)
  case atStart => exact ⟨0, rfl, Nat.zero_le _, fun j hj => absurd hj (Nat.not_lt_zero _), Below.refl _ _⟩
  case round =>
    obtain ⟨k, rfl, hk, hall, hb⟩ := hrel
    by_cases hlt : k < xs.length
    · obtain ⟨g, rfl⟩ := HA.out (by omega)
      have hc : wr.cell? ⟨g, k, none⟩ = some (.int .i64 xs[k]) := ownsRow_cell (ownsRow_of_block HR.out (fun g' e => hb.out.block _ (HR.out.lt g' e).2)) (by simp [vals, hlt])
      generalize hy : xs[k] = y at hc
      have HY := hide hy
      clear hy
      have hcall := HP.out wr y hb.out
      cases hpy : p y with
      | true =>
        rw [hpy] at hcall
        have HC := hide hcall
        clear hcall
        go_wp2_with (go_at_call 137; refine HC.out.mono ?_; rintro e2 w2 ⟨rfl, hb2⟩)
        go_ret
        exact ⟨by rw [idxP_at hlt hall.out (by rw [HY.out]; exact hpy)]; rfl, hb.out.trans (hb2.mono hb.out.size)⟩
      | false =>
        rw [hpy] at hcall
        have HC := hide hcall
        clear hcall
        go_wp2_with (go_at_call 137; refine HC.out.mono ?_; rintro e2 w2 ⟨rfl, hb2⟩)
        refine ⟨⟨k + 1, by go_num, by omega, fun j hj hl => ?_, hb.out.trans (hb2.mono hb.out.size)⟩, by simp [intOf]; omega⟩
        rcases Nat.lt_or_ge j k with h | h
        · exact hall.out j h hl
        · obtain rfl : j = k := by omega
          rw [HY.out]; exact hpy
    · go_wp2
      go_ret
      exact ⟨by rw [idxP_none (fun j hl => hall.out j (by omega) hl)]; rfl, hb.out⟩

set_option maxHeartbeats 2000000 in
theorem indexFunc153_131 (c1 c2 c3 c4 : Value) (p : Int → Bool) (v : Value) (xs : List Int) (w : World) (hr : IRow w v xs) (hl : xs.length ≤ 1000)
    (hp : ∀ W, ∀ x ∈ xs, Below w.heap.size w W → Calls Tryz.prog 138 #[.int .i64 x, c1, c2, c3, c4] W fun e W' => e = .returned (.bool (p x)) ∧ Below W.heap.size W W') :
    Calls Tryz.prog 163 #[v, .func (.func 138) #[] #[c1, c2, c3, c4]] w fun ev w' => ev = .returned (.int .i64 (idxP p xs)) ∧ Below w.heap.size w w' := by
  obtain ⟨a, cap, rfl, ha⟩ := IRow_slice hr
  have HR := hide hr
  have HA := hide ha
  have HP := hide hp
  clear hr ha hp
  go_enter Tryz.func163, Tryz.ntmps163
  go_wp2
  go_loopw [5, 8] (fun _ i wr => ∃ k : Nat, i = .int .i64 k ∧ k ≤ xs.length ∧ Hid (∀ j (_ : j < k) (hl : j < xs.length), p xs[j] = false) ∧ Hid (Below w.heap.size w wr)) (fun _ i _ => xs.length - (intOf i).toNat)
  case atStart => exact ⟨0, rfl, Nat.zero_le _, fun j hj => absurd hj (Nat.not_lt_zero _), Below.refl _ _⟩
  case round =>
    obtain ⟨k, rfl, hk, hall, hb⟩ := hrel
    by_cases hlt : k < xs.length
    · obtain ⟨g, rfl⟩ := HA.out (by omega)
      have hc : wr.cell? ⟨g, k, none⟩ = some (.int .i64 xs[k]) := ownsRow_cell (ownsRow_of_block HR.out (fun g' e => hb.out.block _ (HR.out.lt g' e).2)) (by simp [vals, hlt])
      have hymem : xs[k] ∈ xs := List.getElem_mem hlt
      generalize hy : xs[k] = y at hc hymem
      have HY := hide hy
      clear hy
      have hcall := HP.out wr y hymem hb.out
      clear hymem
      cases hpy : p y with
      | true =>
        rw [hpy] at hcall
        have HC := hide hcall
        clear hcall
        go_wp2_with (go_at_call 138; refine HC.out.mono ?_; rintro e2 w2 ⟨rfl, hb2⟩)
        go_ret
        exact ⟨by rw [idxP_at hlt hall.out (by rw [HY.out]; exact hpy)]; rfl, hb.out.trans (hb2.mono hb.out.size)⟩
      | false =>
        rw [hpy] at hcall
        have HC := hide hcall
        clear hcall
        go_wp2_with (go_at_call 138; refine HC.out.mono ?_; rintro e2 w2 ⟨rfl, hb2⟩)
        refine ⟨⟨k + 1, by go_num, by omega, fun j hj hl => ?_, hb.out.trans (hb2.mono hb.out.size)⟩, by simp [intOf]; omega⟩
        rcases Nat.lt_or_ge j k with h | h
        · exact hall.out j h hl
        · obtain rfl : j = k := by omega
          rw [HY.out]; exact hpy
    · go_wp2
      go_ret
      exact ⟨by rw [idxP_none (fun j hl => hall.out j (by omega) hl)]; rfl, hb.out⟩
end Go.Proofs.YtpkiefjanmfgfaaGreatDoor
namespace Go.Proofs.YtpkiefjanmfgfaaGreatDoor
open Go.RowKit Go.Maps

def keepP (p : Int → Bool) (xs : List Int) : List Int := xs.filter fun x => !p x

theorem keepP_snoc {p : Int → Bool} {xs : List Int} {j : Nat} (hj : j < xs.length) : keepP p (xs.take (j + 1)) = keepP p (xs.take j) ++ (if p xs[j] = true then [] else [xs[j]]) := by
  unfold keepP
  rw [List.take_succ_eq_append_getElem hj, List.filter_append]
  cases h : p xs[j] <;> simp [h]
theorem idxP_some {p : Int → Bool} {xs : List Int} (h : idxP p xs ≠ -1) : ∃ k, k < xs.length ∧ idxP p xs = (k : Int) ∧ keepP p (xs.take (k + 1)) = xs.take k ∧ ∃ x ∈ xs, p x = true := by
  unfold idxP at h ⊢
  cases hf : xs.findIdx? p with
  | none => rw [hf] at h; exact absurd rfl h
  | some k =>
    obtain ⟨hk, h2, h1⟩ := List.findIdx?_eq_some_iff_getElem.1 hf
    refine ⟨k, hk, rfl, ?_, xs[k], List.getElem_mem hk, h2⟩
    rw [keepP_snoc hk, if_pos h2, List.append_nil]
    unfold keepP
    rw [List.filter_eq_self]
    intro x hx
    obtain ⟨j, hj, rfl⟩ := List.getElem_of_mem hx
    have hj2 : j < k := by simp at hj; omega
    have := h1 j hj2
    simp at this
    simp [this]
theorem idxP_minus {p : Int → Bool} {xs : List Int} (h : idxP p xs = -1) : keepP p xs = xs := by
  unfold idxP at h
  cases hf : xs.findIdx? p with
  | none =>
    rw [List.findIdx?_eq_none_iff] at hf
    unfold keepP
    rw [List.filter_eq_self]
    intro x hx
    simp [hf x hx]
  | some k =>
    rw [hf] at h
    have h2 : (k : Int) = -1 := h
    omega

structure DelAt (p : Int → Bool) (xs R : List Int) (i j : Nat) : Prop where
  le : i < j
  len : R.length = xs.length
  bound : j ≤ xs.length
  kept : R.take i = keepP p (xs.take j)
  rest : R.drop j = xs.drop j
theorem DelAt.keep {p : Int → Bool} {xs R : List Int} {i j : Nat} (h : DelAt p xs R i j) (hj : j < xs.length) (hp : p xs[j] = false) : DelAt p xs (R.set i xs[j]) (i + 1) (j + 1) := by
  refine ⟨by have := h.le; omega, by rw [List.length_set]; exact h.len, hj, ?_, ?_⟩
  · rw [keepP_snoc hj, hp, if_neg (by simp), ← h.kept, List.take_set, List.take_succ_eq_append_getElem (by rw [h.len]; have := h.le; omega), List.set_append_right _ _ (by rw [List.length_take]; exact Nat.min_le_left _ _)]
    have : i - (R.take i).length = 0 := by
      rw [List.length_take, h.len]
      have := h.le
      omega
    rw [this]
    rfl
  · rw [List.drop_set_of_lt (by have := h.le; omega)]
    have e1 : R.drop (j + 1) = (R.drop j).drop 1 := by rw [List.drop_drop]
    have e2 : xs.drop (j + 1) = (xs.drop j).drop 1 := by rw [List.drop_drop]
    rw [e1, e2, h.rest]
theorem DelAt.skip {p : Int → Bool} {xs R : List Int} {i j : Nat} (h : DelAt p xs R i j) (hj : j < xs.length) (hp : p xs[j] = true) : DelAt p xs R i (j + 1) := by
  refine ⟨by have := h.le; omega, h.len, hj, ?_, ?_⟩
  · rw [keepP_snoc hj, if_pos hp, List.append_nil]; exact h.kept
  · have e1 : R.drop (j + 1) = (R.drop j).drop 1 := by rw [List.drop_drop]
    have e2 : xs.drop (j + 1) = (xs.drop j).drop 1 := by rw [List.drop_drop]
    rw [e1, e2, h.rest]
theorem DelAt.get {p : Int → Bool} {xs R : List Int} {i j : Nat} (h : DelAt p xs R i j) (hj : j < xs.length) : R.getD j 0 = xs[j] := by
  have h1 : (R.drop j)[0]? = (xs.drop j)[0]? := by rw [h.rest]
  rw [List.getElem?_drop, List.getElem?_drop] at h1
  simp only [Nat.add_zero] at h1
  rw [List.getD_eq_getElem?_getD, h1]
  simp [hj]
theorem DelAt.fin {p : Int → Bool} {xs R : List Int} {i : Nat} (h : DelAt p xs R i xs.length) : R.take i = keepP p xs ∧ (keepP p xs).length = i ∧ i < xs.length := by
  have h1 := h.kept
  rw [List.take_length] at h1
  have h2 := h.le
  refine ⟨h1, ?_, h2⟩
  rw [← h1, List.length_take, h.len]
  omega

theorem Pts.cut {w : World} {g cap : Nat} {R : List Int} (h : Pts w g cap R) {i : Nat} (hi : i < R.length) : Pts (w.setCells g i (List.replicate (R.length - i) (.int .i64 0))) g cap (R.take i) := by
  obtain ⟨cur, h1, h2, h3, h4, h5⟩ := h.parts
  refine IRow.of_cells (heap_setCells _ w g i cur 3 h1) (by simp; omega) h3 (by simp [setL_length]; exact h4) ?_
  simp only
  have hl : cur.toList.length = cap := by simpa using h4
  rw [setL_eq _ _ _ (by simp; omega)]
  have el : (R.take i).length = i := by simp; omega
  rw [el, List.append_assoc, List.take_append_of_le_length (by simp; omega), List.take_take, Nat.min_self, vals_take, ← h5, List.take_take, Nat.min_eq_left (by omega)]

set_option maxHeartbeats 4000000 in
set_option maxRecDepth 20000 in
theorem deleteFunc129_130 (c1 : Value) (p : Int → Bool) (v : Value) (xs : List Int) (w : World) (hr : IRow w v xs) (hl : xs.length ≤ 1000)
    (hp : ∀ W x, Kept (fun k => v.ownBlock = some k) w W → Calls Tryz.prog 137 #[.int .i64 x, c1] W fun e W' => e = .returned (.bool (p x)) ∧ Below W.heap.size W W') :
    Calls Tryz.prog 136 #[v, .func (.func 137) #[] #[c1]] w fun ev w' => ∃ v', ev = .returned v' ∧ IRow w' v' (keepP p xs) ∧ v'.ownBlock = v.ownBlock ∧ Kept (fun k => v.ownBlock = some k) w w' := by
  obtain ⟨a, cap, rfl, ha⟩ := IRow_slice hr
  have hix := indexFunc153_130 c1 p _ xs w hr hl (fun W x hb => hp W x (Kept.of_below _ hb))
  have HR := hide hr
  have HP := hide hp
  clear hr hp
  by_cases hm : idxP p xs = -1
  · rw [hm] at hix
    have HM := hide (idxP_minus hm)
    have HIX := hide hix
    clear hix hm ha
    go_enter Tryz.func136, Tryz.ntmps136
    go_wp2_with (go_at_call 163; refine HIX.out.mono ?_; rintro e2 w2 ⟨rfl, hb2⟩)
    go_ret
    refine ⟨_, rfl, ?_, rfl, Kept.of_below _ hb2⟩
    rw [HM.out]
    exact ownsRow_below HR.out hb2
  · obtain ⟨k, hk, ek, hkeep, _⟩ := idxP_some hm
    rw [ek] at hix
    obtain ⟨g, rfl⟩ := ha (by omega)
    have hneg : ¬ ((k : Int) = -1) := by omega
    have HIX := hide hix
    have HK := hide hkeep
    have hcap := ownsRow_len HR.out
    clear hix hm ha ek hkeep
    go_enter Tryz.func136, Tryz.ntmps136
    go_wp2_with (go_at_call 163; refine HIX.out.mono ?_; rintro e2 w2 ⟨rfl, hb2⟩; have HB2 := hide hb2; clear hb2)
    go_loopw [5, 6, 7] (fun i j _ wr => ∃ (i' j' : Nat) (R : List Int), i = .int .i64 i' ∧ j = .int .i64 j' ∧ Hid (DelAt p xs R i' j') ∧ Hid (Pts wr g cap R) ∧ Hid (Kept (fun k => k = g) w wr)) (fun _ j _ _ => xs.length - (intOf j).toNat)
    case atStart =>
      refine ⟨k, k + 1, xs, rfl, by go_num, ⟨by omega, rfl, hk, HK.out.symm, rfl⟩, ?_, Kept.of_below _ HB2.out⟩
      exact ownsRow_below HR.out HB2.out
    case round =>
      obtain ⟨i, j, R, rfl, rfl, HD, HPT, HKP⟩ := hrel
      have hRl : R.length = xs.length := HD.out.len
      have hij : i < j := HD.out.le
      have hjn : j ≤ xs.length := HD.out.bound
      have HRl := hide hRl
      by_cases hj : j < xs.length
      · have hc : wr.cell? ⟨g, j, none⟩ = some (.int .i64 xs[j]) := by
          have h1 := HPT.out.at (i := j) (by rw [HRl.out]; exact hj)
          rw [HD.out.get hj] at h1
          exact h1
        have hci : wr.cell? ⟨g, i, none⟩ = some (.int .i64 (R.getD i 0)) := HPT.out.at (i := i) (by rw [HRl.out]; omega)
        have hstep1 := fun h => HD.out.keep hj h
        have hstep2 := fun h => HD.out.skip hj h
        have hcall := HP.out wr xs[j] (HKP.out.mono (fun k _ e => by rw [e]; rfl))
        generalize xs[j] = y at hc hstep1 hstep2 hcall
        have HS1 := hide hstep1
        have HS2 := hide hstep2
        clear hstep1 hstep2 hRl
        cases hpy : p y with
        | true =>
          rw [hpy] at hcall
          have HC := hide hcall
          clear hcall
          go_wp2_with (go_at_call 137; refine HC.out.mono ?_; rintro e3 w3 ⟨rfl, hb3⟩)
          refine ⟨⟨_, _, _, _, _, _, _, _, _, _, _, _, _, _, _, _, _, _, _, _, _, _, _, ?_, rfl⟩, by simp [intOf]; omega⟩
          exact ⟨i, j + 1, R, rfl, by go_num, HS2.out hpy, ownsRow_below HPT.out hb3, HKP.out.below hb3⟩
        | false =>
          rw [hpy] at hcall
          have HC := hide hcall
          clear hcall
          go_wp2_with (go_at_call 137; refine HC.out.mono ?_; rintro e3 w3 ⟨rfl, hb3⟩; have hp3 := ownsRow_below HPT.out hb3; have hci3 := cell_below hci hb3; have hf3 := ownsRow_frozen hp3; have HP3 := hide hp3; have HB3 := hide hb3; clear hp3 hb3)
          refine ⟨⟨_, _, _, _, _, _, _, _, _, _, _, _, _, _, _, _, _, _, _, _, _, _, _, ?_, rfl⟩, by simp [intOf]; omega⟩
          exact ⟨i + 1, j + 1, R.set i y, by go_num, by go_num, HS1.out hpy, Pts.set HP3.out i y, (HKP.out.below HB3.out).setG i _⟩
      · obtain rfl : j = xs.length := by omega
        obtain ⟨f1, f2, f3⟩ := HD.out.fin
        have hiR : i < R.length := by rw [HRl.out]; exact f3
        have hcut := Pts.cut HPT.out hiR
        obtain ⟨cur, q1, q2, q3, q4, q5⟩ := HPT.out.parts
        have hclr := fun ty => Go.Lib.run_clear_slice (P := Tryz.prog) wr 32 3 ty (.int .i64 0) Tryz.underlying32 zero3 rfl rfl g i (R.length - i) (cap - i) (by omega) (fun j hj => by
          rw [cell_of_row wr _ _ _ _ _ q1, Array.getElem?_eq_getElem (by omega)]
          rfl) (fun j _ => cells_frozen q1 _)
        rw [HRl.out] at hclr hcut
        have HF1 := hide f1
        have HF2 := hide f2
        have HCUT := hide hcut
        have HKC : Hid (Kept (fun k => k = g) w (wr.setCells g i (List.replicate (xs.length - i) (.int .i64 0)))) := Kept.setCells _ _ _ HKP.out
        clear hRl f1 f2 hcut q1 q2 q3 q4 q5 hiR
        go_wp2
        go_ret
        refine ⟨_, rfl, (?_ : IRow _ (.slice (some ⟨g, 0, none⟩) i cap) _), rfl, HKC.out.mono (fun k _ e => by rw [e]; rfl)⟩
        have h9 := HCUT.out
        rw [HF1.out] at h9
        unfold Pts at h9
        rw [HF2.out] at h9
        unfold IRow
        rw [HF2.out]
        exact h9

set_option maxHeartbeats 4000000 in
set_option maxRecDepth 20000 in
theorem deleteFunc129_131 (c1 c2 c3 c4 : Value) (p : Int → Bool) (v : Value) (xs : List Int) (w : World) (hr : IRow w v xs) (hl : xs.length ≤ 1000)
    (hp : ∀ W, ∀ x ∈ xs, Kept (fun k => v.ownBlock = some k) w W → Calls Tryz.prog 138 #[.int .i64 x, c1, c2, c3, c4] W fun e W' => e = .returned (.bool (p x)) ∧ Below W.heap.size W W') :
    Calls Tryz.prog 136 #[v, .func (.func 138) #[] #[c1, c2, c3, c4]] w fun ev w' => ∃ v', ev = .returned v' ∧ IRow w' v' (keepP p xs) ∧ v'.ownBlock = v.ownBlock ∧ Kept (fun k => v.ownBlock = some k) w w' := by
  obtain ⟨a, cap, rfl, ha⟩ := IRow_slice hr
  have hix := indexFunc153_131 c1 c2 c3 c4 p _ xs w hr hl (fun W x hx hb => hp W x hx (Kept.of_below _ hb))
  have HR := hide hr
  have HP := hide hp
  clear hr hp
  by_cases hm : idxP p xs = -1
  · rw [hm] at hix
    have HM := hide (idxP_minus hm)
    have HIX := hide hix
    clear hix hm ha
    go_enter Tryz.func136, Tryz.ntmps136
    go_wp2_with (go_at_call 163; refine HIX.out.mono ?_; rintro e2 w2 ⟨rfl, hb2⟩)
    go_ret
    refine ⟨_, rfl, ?_, rfl, Kept.of_below _ hb2⟩
    rw [HM.out]
    exact ownsRow_below HR.out hb2
  · obtain ⟨k, hk, ek, hkeep, _⟩ := idxP_some hm
    rw [ek] at hix
    obtain ⟨g, rfl⟩ := ha (by omega)
    have hneg : ¬ ((k : Int) = -1) := by omega
    have HIX := hide hix
    have HK := hide hkeep
    have hcap := ownsRow_len HR.out
    clear hix hm ha ek hkeep
    go_enter Tryz.func136, Tryz.ntmps136
    go_wp2_with (go_at_call 163; refine HIX.out.mono ?_; rintro e2 w2 ⟨rfl, hb2⟩; have HB2 := hide hb2; clear hb2)
    go_loopw [5, 6, 7] (fun i j _ wr => ∃ (i' j' : Nat) (R : List Int), i = .int .i64 i' ∧ j = .int .i64 j' ∧ Hid (DelAt p xs R i' j') ∧ Hid (Pts wr g cap R) ∧ Hid (Kept (fun k => k = g) w wr)) (fun _ j _ _ => xs.length - (intOf j).toNat)
    case atStart =>
      refine ⟨k, k + 1, xs, rfl, by go_num, ⟨by omega, rfl, hk, HK.out.symm, rfl⟩, ?_, Kept.of_below _ HB2.out⟩
      exact ownsRow_below HR.out HB2.out
    case round =>
      obtain ⟨i, j, R, rfl, rfl, HD, HPT, HKP⟩ := hrel
      have hRl : R.length = xs.length := HD.out.len
      have hij : i < j := HD.out.le
      have hjn : j ≤ xs.length := HD.out.bound
      have HRl := hide hRl
      by_cases hj : j < xs.length
      · have hc : wr.cell? ⟨g, j, none⟩ = some (.int .i64 xs[j]) := by
          have h1 := HPT.out.at (i := j) (by rw [HRl.out]; exact hj)
          rw [HD.out.get hj] at h1
          exact h1
        have hci : wr.cell? ⟨g, i, none⟩ = some (.int .i64 (R.getD i 0)) := HPT.out.at (i := i) (by rw [HRl.out]; omega)
        have hstep1 := fun h => HD.out.keep hj h
        have hstep2 := fun h => HD.out.skip hj h
        have hcall := HP.out wr xs[j] (List.getElem_mem hj) (HKP.out.mono (fun k _ e => by rw [e]; rfl))
        generalize xs[j] = y at hc hstep1 hstep2 hcall
        have HS1 := hide hstep1
        have HS2 := hide hstep2
        clear hstep1 hstep2 hRl
        cases hpy : p y with
        | true =>
          rw [hpy] at hcall
          have HC := hide hcall
          clear hcall
          go_wp2_with (go_at_call 138; refine HC.out.mono ?_; rintro e3 w3 ⟨rfl, hb3⟩)
          refine ⟨⟨_, _, _, _, _, _, _, _, _, _, _, _, _, _, _, _, _, _, _, _, _, _, _, ?_, rfl⟩, by simp [intOf]; omega⟩
          exact ⟨i, j + 1, R, rfl, by go_num, HS2.out hpy, ownsRow_below HPT.out hb3, HKP.out.below hb3⟩
        | false =>
          rw [hpy] at hcall
          have HC := hide hcall
          clear hcall
          go_wp2_with (go_at_call 138; refine HC.out.mono ?_; rintro e3 w3 ⟨rfl, hb3⟩; have hp3 := ownsRow_below HPT.out hb3; have hci3 := cell_below hci hb3; have hf3 := ownsRow_frozen hp3; have HP3 := hide hp3; have HB3 := hide hb3; clear hp3 hb3)
          refine ⟨⟨_, _, _, _, _, _, _, _, _, _, _, _, _, _, _, _, _, _, _, _, _, _, _, ?_, rfl⟩, by simp [intOf]; omega⟩
          exact ⟨i + 1, j + 1, R.set i y, by go_num, by go_num, HS1.out hpy, Pts.set HP3.out i y, (HKP.out.below HB3.out).setG i _⟩
      · obtain rfl : j = xs.length := by omega
        obtain ⟨f1, f2, f3⟩ := HD.out.fin
        have hiR : i < R.length := by rw [HRl.out]; exact f3
        have hcut := Pts.cut HPT.out hiR
        obtain ⟨cur, q1, q2, q3, q4, q5⟩ := HPT.out.parts
        have hclr := fun ty => Go.Lib.run_clear_slice (P := Tryz.prog) wr 32 3 ty (.int .i64 0) Tryz.underlying32 zero3 rfl rfl g i (R.length - i) (cap - i) (by omega) (fun j hj => by
          rw [cell_of_row wr _ _ _ _ _ q1, Array.getElem?_eq_getElem (by omega)]
          rfl) (fun j _ => cells_frozen q1 _)
        rw [HRl.out] at hclr hcut
        have HF1 := hide f1
        have HF2 := hide f2
        have HCUT := hide hcut
        have HKC : Hid (Kept (fun k => k = g) w (wr.setCells g i (List.replicate (xs.length - i) (.int .i64 0)))) := Kept.setCells _ _ _ HKP.out
        clear hRl f1 f2 hcut q1 q2 q3 q4 q5 hiR
        go_wp2
        go_ret
        refine ⟨_, rfl, (?_ : IRow _ (.slice (some ⟨g, 0, none⟩) i cap) _), rfl, HKC.out.mono (fun k _ e => by rw [e]; rfl)⟩
        have h9 := HCUT.out
        rw [HF1.out] at h9
        unfold Pts at h9
        rw [HF2.out] at h9
        unfold IRow
        rw [HF2.out]
        exact h9
end Go.Proofs.YtpkiefjanmfgfaaGreatDoor
