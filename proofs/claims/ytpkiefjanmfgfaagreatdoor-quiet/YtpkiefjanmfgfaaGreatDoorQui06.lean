import Derived.Deep.RegionLaw
import Derived.Test.YtpkiefjanmfgfaaGreatDoorQui05
namespace Go.Proofs.YtpkiefjanmfgfaaGreatDoor
open Go.RowKit Go.Maps

theorem GAt.tight {w : World} {bg : Nat} {F : Nat → Prop} {lev : List (Int × Int)} {lk : Int × Int → List Int} {ch : List Int} (h : GAt w bg F lev lk ch) : GAt w bg (fun k => F k ∧ k < w.heap.size) lev lk ch := by
  obtain ⟨bl, bk, cv, Ls, h1, h2, h3, h4⟩ := h
  exact ⟨bl, bk, cv, Ls, h1, h2, fun k hk => ⟨h3 k hk, h1.flt hk⟩, h4⟩
theorem GAt.mono {w : World} {bg : Nat} {F F' : Nat → Prop} {lev : List (Int × Int)} {lk : Int × Int → List Int} {ch : List Int} (h : GAt w bg F lev lk ch) (hf : ∀ k, F k → F' k) : GAt w bg F' lev lk ch := by
  obtain ⟨bl, bk, cv, Ls, h1, h2, h3, h4⟩ := h
  exact ⟨bl, bk, cv, Ls, h1, h2, fun k hk => hf k (h3 k hk), h4⟩

structure LkOk (lk : Int × Int → List Int) (U : List (Int × Int)) (n : Nat) : Prop where
  ris : ∀ p, Ris (lk p)
  len : ∀ p, (lk p).length ≤ n
  places : ∀ p, lk p ≠ [] → p ∈ U
  ints : ∀ p, ∀ x ∈ lk p, I64 x

theorem cutL_sub {lk : Int × Int → List Int} (h : ∀ p, Ris (lk p)) (a b l : Int) (p : Int × Int) : (∀ x ∈ cutL lk a b l p, x ∈ lk p) ∧ Ris (cutL lk a b l p) ∧ (cutL lk a b l p).length ≤ (lk p).length := by
  have h1 : ∀ q, (∀ x ∈ upd lk (a, l) (delS (lk (a, l)) b) q, x ∈ lk q) ∧ Ris (upd lk (a, l) (delS (lk (a, l)) b) q) ∧ (upd lk (a, l) (delS (lk (a, l)) b) q).length ≤ (lk q).length := fun q => by
    unfold upd
    split
    · rename_i e
      rw [e]
      exact ⟨fun x hx => ((mem_delS (h _)).1 hx).1, ris_delS (h _), delS_length _ _⟩
    · exact ⟨fun x hx => hx, h q, Nat.le_refl _⟩
  unfold cutL
  generalize upd lk (a, l) (delS (lk (a, l)) b) = f at h1
  unfold upd
  split
  · rename_i e
    rw [e]
    obtain ⟨q1, q2, q3⟩ := h1 (b, l)
    exact ⟨fun x hx => q1 x ((mem_delS q2).1 hx).1, ris_delS q2, Nat.le_trans (delS_length _ _) q3⟩
  · exact h1 p
theorem LkOk.cut {lk : Int × Int → List Int} {U : List (Int × Int)} {n : Nat} (h : LkOk lk U n) (a b l : Int) : LkOk (cutL lk a b l) U n :=
  ⟨fun p => (cutL_sub h.ris a b l p).2.1, fun p => Nat.le_trans (cutL_sub h.ris a b l p).2.2 (h.len p),
    fun p hp => h.places p (fun e => hp (by
      have := (cutL_sub h.ris a b l p).2.2
      rw [e] at this
      exact List.eq_nil_of_length_eq_zero (by simpa using this))),
    fun p x hx => h.ints p x ((cutL_sub h.ris a b l p).1 x hx)⟩

def cutAll (lk : Int × Int → List Int) (id l : Int) (os : List Int) : Int × Int → List Int := os.foldl (fun f o => cutL f id o l) lk
theorem LkOk.cutAll {U : List (Int × Int)} {n : Nat} {id l : Int} : ∀ {os : List Int} {lk : Int × Int → List Int}, LkOk lk U n → LkOk (cutAll lk id l os) U n
  | [], _, h => h
  | o :: os, _, h => LkOk.cutAll (os := os) (h.cut id o l)
theorem cutAll_snoc (lk : Int × Int → List Int) (id l : Int) (os : List Int) (o : Int) : cutAll lk id l (os ++ [o]) = cutL (cutAll lk id l os) id o l := by simp [cutAll]
def leaveF (lk : Int × Int → List Int) (id : Int) : Nat → Int × Int → List Int
  | 0 => lk
  | n + 1 => cutAll (leaveF lk id n) id n (leaveF lk id n (id, n))
theorem LkOk.leave {U : List (Int × Int)} {m : Nat} {lk : Int × Int → List Int} {id : Int} (h : LkOk lk U m) : ∀ n, LkOk (leaveF lk id n) U m
  | 0 => h
  | n + 1 => (LkOk.leave h n).cutAll

theorem I64_small (n : Nat) (h : n ≤ 1000000) : I64 (n : Int) := by
  unfold I64
  have h1 : IntKind.i64.min = -9223372036854775808 := by decide
  have h2 : IntKind.i64.max = 9223372036854775807 := by decide
  simp [Lit.wf, h1, h2]
  omega

set_option maxHeartbeats 1000000 in
theorem leave1_130 (x id : Int) (B : Nat) (w : World) (hc : w.cell? ⟨B, 0, none⟩ = some (.int .i64 id)) :
    Calls Tryz.prog 137 #[.int .i64 x, .pointer (some ⟨B, 0, none⟩)] w fun e w' => e = .returned (.bool (decide (x = id))) ∧ Below w.heap.size w w' := by
  go_enter Tryz.func137, Tryz.ntmps137
  go_wp2
  go_ret
  exact ⟨by simp [BEq.beq], Below.refl _ _⟩

def levDel (id : Int) (lev : List (Int × Int)) : List (Int × Int) := lev.filter fun p => decide (p.1 ≠ id)
theorem delA_levV (id : Int) (lev : List (Int × Int)) : delA id (levV lev) = levV (levDel id lev) := by
  unfold delA levV levDel
  rw [List.filter_map]
  rfl

set_option maxHeartbeats 4000000 in
set_option maxRecDepth 20000 in
theorem leave89 (bg : Nat) (F : Nat → Prop) (lev : List (Int × Int)) (lk : Int × Int → List Int) (ch : List Int) (id : Int) (w : World) (h : GAt w bg F lev lk ch) (hid : I64 id) (hch : ch.length ≤ 1000) (U : List (Int × Int)) (hU : U.length ≤ 4000) (hok : LkOk lk U 500)
    (top : Nat) (htop : (levOf lev id).getD (-1) + 1 = (top : Int)) (h10 : top ≤ 10) :
    Calls Tryz.prog 93 #[.pointer (some ⟨bg, 0, none⟩), .int .i64 id] w fun ev w' => ev = .returned (.tuple #[]) ∧
      GAt w' bg F (levDel id lev) (leaveF lk id top) (keepP (fun x => decide (x = id)) ch) ∧ Kept F w w' := by
  have hA : ∀ o, GAt (w.alloc o) bg F lev lk ch := fun o => h.below ((Below.refl _ _).alloc (Nat.le_refl _) _)
  have hgA := (h.tight).below ((Below.refl _ _).alloc (Nat.le_refl _) (.cells #[.int .i64 id] 3))
  have hlv := level87 bg F lev lk ch id (w.alloc (.cells #[.int .i64 id] 3)) (hA _) hid
  have hmf : ∀ (fn : Fn) (first cap : Array Value) (w : World), (Instr.makeFunc fn first cap).run Tryz.prog w = .ok (.func fn first cap) w := fun _ _ _ _ => rfl
  have hbx : (w.alloc (.cells #[.int .i64 id] 3)).heap[w.heap.size]? = some (.cells #[.int .i64 id] 3 (0, 0)) := heap_alloc_new _ _
  have hlt : w.heap.size < (w.alloc (.cells #[.int .i64 id] 3)).heap.size := by simp
  have hbw : Below w.heap.size w (w.alloc (.cells #[.int .i64 id] 3)) := (Below.refl _ _).alloc (Nat.le_refl _) _
  have hI : ∀ n : Nat, n ≤ 10 → I64 (n : Int) := fun n hn => I64_small n (by omega)
  clear h hA
  have HLV := hide hlv
  have HGA := hide hgA
  have HOK := hide hok
  have HBX := hide hbx
  have HBW := hide hbw
  have HI := hide hI
  clear hlv hgA hok hbx hbw hI
  go_enter Tryz.func93, Tryz.ntmps93
  go_wp2_with fail
  generalize w.alloc (.cells #[.int .i64 id] 3) = w1 at HLV HGA HBX HBW hlt ⊢
  refine HLV.out.mono ?_
  rintro e1 w2 ⟨rfl, rfl⟩
  generalize (levOf lev id).getD (-1) = lv at htop
  have cB := cells_at HBX.out 0 rfl
  have hone : IntKind.i64.wrap (lv + 1) = (top : Int) := by rw [htop, IntKind.wrap_i64]; omega
  have hF0 : ∀ k, w.heap.size ≤ k → ¬ (F k ∧ k < w.heap.size) := fun k hk e => by omega
  have HF0 := hide hF0
  clear HLV hF0
  go_wp2
  go_loopw [4, 11] (fun _ i wr => ∃ n : Nat, i = .int .i64 n ∧ n ≤ top ∧ Hid (GAt wr bg (fun k => F k ∧ k < w.heap.size) lev (leaveF lk id n) ch) ∧ Hid (Kept (fun k => F k ∧ k < w.heap.size) w1 wr)) (fun _ i _ => top - (intOf i).toNat)
  case atStart => exact ⟨0, rfl, Nat.zero_le _, HGA.out, Kept.refl _ _⟩
  case round =>
    obtain ⟨n, rfl, hn, HG, HK⟩ := hrel
    have hBr : wr.heap[w.heap.size]? = some (.cells #[.int .i64 id] 3 (0, 0)) := (HK.out.block _ hlt (HF0.out _ (Nat.le_refl _))).trans HBX.out
    have cBr := cells_at hBr 0 rfl
    have HBR := hide hBr
    clear hBr cB
    by_cases hnt : n < top
    · have hok := (HOK.out.leave (id := id) n)
      have hlk := linked88 bg _ lev (leaveF lk id n) ch id n wr HG.out hid (HI.out n (by omega)) (by have := hok.len (id, (n : Int)); omega)
      have HOKN := hide hok
      have HLK := hide hlk
      clear hok hlk
      go_wp2_with fail
      refine HLK.out.mono ?_
      rintro e3 w3 ⟨v1, rfl, r1, f1, b1, _⟩
      obtain ⟨a1, cap1, rfl, ha1⟩ := IRow_slice r1
      generalize hxs : leaveF lk id n (id, (n : Int)) = xs at r1 ha1 f1 ⊢
      have HXS := hide hxs
      have hxl : xs.length ≤ 500 := by rw [← hxs]; exact HOKN.out.len _
      have R1 := hide r1
      have F1 : Hid (∀ g, (Value.slice a1 xs.length cap1).ownBlock = some g → w.heap.size ≤ g) := fun g e => Nat.le_trans (Nat.le_trans (Nat.le_of_lt hlt) HK.out.size) (f1 g e)
      have HA1 := hide ha1
      have HG3 := hide (HG.out.below b1)
      have HK3 := hide (HK.out.below b1)
      have c3 := cell_below cBr b1
      have HZ3 : Hid (w.heap.size < w3.heap.size) := Nat.lt_of_lt_of_le hlt HK3.out.size
      have HB3 : Hid (w3.heap[w.heap.size]? = some (.cells #[.int .i64 id] 3 (0, 0))) := (b1.block _ (heap_lt HBR.out)).trans HBR.out
      clear hxs r1 f1 ha1 b1 HLK cBr
      go_wp2
      go_loopw [6, 19] (fun _ j wr2 => ∃ m : Nat, j = .int .i64 m ∧ m ≤ xs.length ∧ Hid (GAt wr2 bg (fun k => F k ∧ k < w.heap.size) lev (cutAll (leaveF lk id n) id n (xs.take m)) ch) ∧ Hid (Kept (fun k => F k ∧ k < w.heap.size) w3 wr2)) (fun _ j _ => xs.length - (intOf j).toNat)
      case atStart => exact ⟨0, rfl, Nat.zero_le _, HG3.out, Kept.refl _ _⟩
      case round =>
        obtain ⟨m, rfl, hm, HGm, HKm⟩ := hrel
        have hBm : wr.heap[w.heap.size]? = some (.cells #[.int .i64 id] 3 (0, 0)) := (HKm.out.block _ HZ3.out (HF0.out _ (Nat.le_refl _))).trans HB3.out
        have cBm := cells_at hBm 0 rfl
        clear hBm c3
        by_cases hml : m < xs.length
        · obtain ⟨g, rfl⟩ := HA1.out (by omega)
          have hrm := ownsRow_kept R1.out HKm.out (fun g' e => HF0.out g' (F1.out g' e))
          have hc : wr.cell? ⟨g, m, none⟩ = some (.int .i64 xs[m]) := ownsRow_cell hrm (by simp [vals, hml])
          have hio : I64 xs[m] := HOKN.out.ints (id, (n : Int)) _ (by rw [HXS.out]; exact List.getElem_mem hml)
          have hokm : LkOk (cutAll (leaveF lk id n) id n (xs.take m)) U 500 := HOKN.out.cutAll
          have hcut := cut128 bg _ lev _ ch id xs[m] n wr HGm.out hid hio (HI.out n (by omega)) U (by omega) hokm.places (fun p => ⟨hokm.ris p, hokm.len p⟩)
          rw [← cutAll_snoc, ← List.take_succ_eq_append_getElem hml] at hcut
          generalize xs[m] = o at hc hcut
          have HCUT := hide hcut
          clear hrm hcut hokm hio
          go_wp2_with (go_at_call 135; refine HCUT.out.mono ?_; rintro e4 w4 ⟨rfl, hg4, hk4⟩)
          exact ⟨⟨m + 1, by go_num, by omega, hg4, HKm.out.trans hk4 (fun _ _ e => e)⟩, by simp [intOf]; omega⟩
        · go_wp2
          refine ⟨⟨n + 1, by go_num, by omega, ?_, HK3.out.trans HKm.out (fun _ _ e => e)⟩, by simp [intOf]; omega⟩
          have h9 := HGm.out
          rw [List.take_of_length_le (by omega), ← HXS.out] at h9
          exact h9
    · obtain rfl : n = top := by omega
      obtain ⟨bl, bk, cv, Ls, g1, g2, g3, g4⟩ := HG.out
      obtain ⟨w5, hrun, ham, hk5⟩ := (g1.below (Below.refl _ _).drew).lev.drop Tryz.underlying169 id hid
      rw [delA_levV] at ham
      have hrun' : (Builtin.delete_ #[169, 3] 0 #[.map (some bl), .int .i64 id]).run Tryz.prog wr.drew = .ok (.tuple #[]) w5 := hrun
      have g5 : GRaw w5 bg bl bk cv (levDel id lev) Ls ch := (g1.below (Below.refl _ _).drew).setLev hk5 ham
      have hb5 : w5.heap[w.heap.size]? = some (.cells #[.int .i64 id] 3 (0, 0)) := (hk5.block _ (heap_lt HBR.out) (g1.lev.not_cells HBR.out)).trans HBR.out
      have HS1 : Hid (wr.drew.cell? ⟨bg, 0, none⟩ = some (.map (some bl)) ∧ wr.drew.cell? ⟨w.heap.size, 0, none⟩ = some (.int .i64 id)) := ⟨g1.c0, cBr⟩
      have HS2 : Hid (w5.cell? ⟨bg, 0, none⟩ = some (.map (some bl)) ∧ w5.cell? ⟨w.heap.size, 0, none⟩ = some (.int .i64 id)) := ⟨g5.c0, cells_at hb5 0 rfl⟩
      have HFB : Hid (∀ k, k = bl → F k ∧ k < w.heap.size) := fun k e => e ▸ g3 _ (.inr (.inl rfl))
      have HK5 : Hid (Kept (fun k => F k ∧ k < w.heap.size) w1 w5) := HK.out.drew.trans hk5 (fun k _ e => HFB.out k e)
      have G5 := hide g5
      have G2 := hide g2
      have G3 := hide g3
      have G4 := hide g4
      have HB5 := hide hb5
      clear g1 g2 g3 g4 g5 hb5 ham hrun hk5 cBr
      go_wp2_with fail
      go_region_held3 (fun wx => wx.cell? ⟨bg, 0, none⟩ = some (.map (some bl)) ∧ wx.cell? ⟨w.heap.size, 0, none⟩ = some (.int .i64 id)) ((first | with_reducible exact HS1.out | with_reducible exact HS2.out)) (fail)
      have c2 := G5.out.c2
      have hpr : ∀ W x, Kept (fun k => cv.ownBlock = some k) w5 W → Calls Tryz.prog 137 #[.int .i64 x, .pointer (some ⟨w.heap.size, 0, none⟩)] W fun e W' => e = .returned (.bool (decide (x = id))) ∧ Below W.heap.size W W' := fun W x hk =>
        leave1_130 x id w.heap.size W (cells_at ((hk.block _ (heap_lt HB5.out) (fun e => HF0.out _ (Nat.le_refl _) (G3.out _ (.inr (.inr (.inr (.inl e))))))).trans HB5.out) 0 rfl)
      have hdf := deleteFunc129_130 (.pointer (some ⟨w.heap.size, 0, none⟩)) (fun x => decide (x = id)) cv ch w5 G5.out.chr hch hpr
      have HDF := hide hdf
      clear hdf hpr
      go_wp2_with (go_at_call 136; refine HDF.out.mono ?_; rintro e6 w6 ⟨v6, rfl, r6, o6, k6⟩; obtain ⟨a6, cap6, hv6, _⟩ := IRow_slice r6; subst hv6; have hb6 : w6.heap[bg]? = some (.cells #[.map (some bl), .map (some bk), cv] 190 (0, 0)) := (k6.block _ (heap_lt G5.out.blk) (fun e => (G5.out.c_ne e).1 rfl)).trans G5.out.blk; have d2 := cells_at hb6 2 rfl; have d3 := cells_frozen hb6; have R6 := hide r6; have O6 := hide o6; have K6 := hide k6; have HB6 := hide hb6; clear r6 o6 k6 hb6)
      go_end0
      have hk7 : Kept (fun k => k = bg ∨ cv.ownBlock = some k) w5 (w6.setCell ⟨bg, 2, none⟩ (.slice a6 (keepP (fun x => decide (x = id)) ch).length cap6)) := (K6.out.mono (fun _ _ e => .inr e)).setCell (fun _ => .inl rfl) _
      have g7 : GRaw (w6.setCell ⟨bg, 2, none⟩ (.slice a6 (keepP (fun x => decide (x = id)) ch).length cap6)) bg bl bk (.slice a6 (keepP (fun x => decide (x = id)) ch).length cap6) (levDel id lev) Ls (keepP (fun x => decide (x = id)) ch) := by
        refine G5.out.setCh hk7 ?_ ?_ ?_
        · rw [heap_setCell_same _ _ _ _ _ _ HB6.out]; simp
        · refine ownsRow_of_block R6.out fun g' e => ?_
          exact Below.heap_setCell _ _ _ _ ((G5.out.c_ne (by rw [← O6.out]; exact e)).1)
        · intro e he e'
          exact G5.out.sepc e he (by rw [← O6.out]; exact e')
      refine ⟨rfl, ⟨bl, bk, _, Ls, g7, G2.out, fun k hk => ?_, G4.out⟩, ?_⟩
      · refine (G3.out k ?_).1
        rcases hk with h | h | h | h | h
        · exact .inl h
        · exact .inr (.inl h)
        · exact .inr (.inr (.inl h))
        · exact .inr (.inr (.inr (.inl (by rw [← O6.out]; exact h))))
        · exact .inr (.inr (.inr (.inr h)))
      · have hk8 : Kept (fun k => F k ∧ k < w.heap.size) w1 (w6.setCell ⟨bg, 2, none⟩ (.slice a6 (keepP (fun x => decide (x = id)) ch).length cap6)) := HK5.out.trans hk7 (fun k _ e => e.elim (fun e => e ▸ G3.out _ (.inl rfl)) (fun e => G3.out _ (.inr (.inr (.inr (.inl e))))))
        exact (Kept.of_below F HBW.out).trans hk8 (fun k _ e => e.1)
end Go.Proofs.YtpkiefjanmfgfaaGreatDoor
namespace Go.Proofs.YtpkiefjanmfgfaaGreatDoor
open Go.RowKit

def pickL (fk : Nat) (l : List Hit) (first below : Nat) : Nat := if below < l.length ∧ ahead fk (nth l below) (nth l first) = true then below else first
def downL (fk : Nat) : Nat → List Hit → Nat → List Hit
  | 0, l, _ => l
  | n + 1, l, at_ =>
    if pickL fk l (pickL fk l at_ (2 * at_ + 1)) (2 * at_ + 2) = at_ then l
    else downL fk n (swapL l at_ (pickL fk l (pickL fk l at_ (2 * at_ + 1)) (2 * at_ + 2))) (pickL fk l (pickL fk l at_ (2 * at_ + 1)) (2 * at_ + 2))
theorem downL_length (fk : Nat) : ∀ n l a, (downL fk n l a).length = l.length
  | 0, _, _ => rfl
  | n + 1, l, a => by
    unfold downL
    split
    · rfl
    · rw [downL_length, swapL_length]

theorem pickL_lt {fk : Nat} {l : List Hit} {a b : Nat} (ha : a < l.length) : pickL fk l a b < l.length := by
  unfold pickL
  split
  · rename_i h; exact h.1
  · exact ha
theorem pickL_or (fk : Nat) (l : List Hit) (a b : Nat) : pickL fk l a b = a ∨ pickL fk l a b = b := by
  unfold pickL
  split
  · exact .inr rfl
  · exact .inl rfl
theorem pick2_gt {fk : Nat} {l : List Hit} {a : Nat} (h : pickL fk l (pickL fk l a (2 * a + 1)) (2 * a + 2) ≠ a) : a < pickL fk l (pickL fk l a (2 * a + 1)) (2 * a + 2) := by
  rcases pickL_or fk l (pickL fk l a (2 * a + 1)) (2 * a + 2) with h1 | h1
  · rcases pickL_or fk l a (2 * a + 1) with h2 | h2
    · rw [h1, h2] at h; exact absurd rfl h
    · rw [h1, h2]; omega
  · rw [h1]; omega
theorem downL_fuel (fk : Nat) : ∀ (n m : Nat) (l : List Hit) (a : Nat), a < l.length → l.length ≤ a + n → l.length ≤ a + m → downL fk n l a = downL fk m l a
  | 0, _, l, a, ha, hn, _ => by omega
  | _ + 1, 0, l, a, ha, _, hm => by omega
  | n + 1, m + 1, l, a, ha, hn, hm => by
    unfold downL
    split
    · rfl
    · rename_i h
      have h1 := pick2_gt h
      exact downL_fuel fk n m _ _ (by rw [swapL_length]; exact pickL_lt (pickL_lt ha)) (by rw [swapL_length]; omega) (by rw [swapL_length]; omega)

theorem pick_step {fk : Nat} {m : List Hit} {k f b : Nat} (h1 : 2 * k + 1 ≤ b) (h2 : b ≤ 2 * k + 2) (h : (b = 2 * k + 1 → f = k) ∧ (b = 2 * k + 2 → f = pickL fk m k (2 * k + 1)) ∧ (b = 2 * k + 3 → f = pickL fk m (pickL fk m k (2 * k + 1)) (2 * k + 2))) :
    (b + 1 = 2 * k + 1 → pickL fk m f b = k) ∧ (b + 1 = 2 * k + 2 → pickL fk m f b = pickL fk m k (2 * k + 1)) ∧ (b + 1 = 2 * k + 3 → pickL fk m f b = pickL fk m (pickL fk m k (2 * k + 1)) (2 * k + 2)) := by
  refine ⟨fun e => by omega, fun e => ?_, fun e => ?_⟩
  · obtain rfl : b = 2 * k + 1 := by omega
    rw [h.1 rfl]
  · obtain rfl : b = 2 * k + 2 := by omega
    rw [h.2.1 rfl]

set_option maxHeartbeats 4000000 in
theorem down146_100 (bq g cap a : Nat) (l : List Hit) (w : World) (h : QAt w bq 104 (.slice (some ⟨g, 0, none⟩) l.length cap) l) (ha : a < l.length) (hl : l.length ≤ 1000) :
    Calls Tryz.prog 153 #[.pointer (some ⟨bq, 0, none⟩), .int .i64 a] w fun ev w' => ev = .returned (.tuple #[]) ∧ QAt w' bq 104 (.slice (some ⟨g, 0, none⟩) l.length cap) (downL 104 l.length l a) ∧ Kept (fun k => k = g) w w' := by
  have hne := h.ne (g := g) rfl
  have H := hide h
  clear h
  go_enter Tryz.func153, Tryz.ntmps153
  go_wp2
  go_loopw [1, 4, 5] (fun at_ _ _ wr => ∃ (k : Nat) (m : List Hit), at_ = .int .i64 k ∧ k < m.length ∧ Hid (m.length = l.length) ∧ QAt wr bq 104 (.slice (some ⟨g, 0, none⟩) m.length cap) m ∧ Hid (downL 104 l.length l a = downL 104 l.length m k) ∧ Hid (Kept (fun k => k = g) w wr)) (fun at_ _ _ _ => l.length - (intOf at_).toNat)
  case atStart => exact ⟨a, l, rfl, ha, rfl, H.out, rfl, Kept.refl _ _⟩
  case round =>
    obtain ⟨k, m, rfl, hkm, HML, hq, HE, HK⟩ := hrel
    have hm1000 : m.length ≤ 1000 := by rw [HML.out]; exact hl
    have HQ := hide hq
    clear hq
    go_wp2
    go_loopw [4, 5] (fun first below wr2 => ∃ (f b : Nat), first = .int .i64 f ∧ below = .int .i64 b ∧ f < m.length ∧ 2 * k + 1 ≤ b ∧ b ≤ 2 * k + 3 ∧ Hid (QAt wr2 bq 104 (.slice (some ⟨g, 0, none⟩) m.length cap) m) ∧ Hid (Below wr.heap.size wr wr2) ∧
        Hid ((b = 2 * k + 1 → f = k) ∧ (b = 2 * k + 2 → f = pickL 104 m k (2 * k + 1)) ∧ (b = 2 * k + 3 → f = pickL 104 m (pickL 104 m k (2 * k + 1)) (2 * k + 2)))) (fun _ below _ => 2 * k + 3 - (intOf below).toNat)
    case atStart => exact ⟨k, 2 * k + 1, rfl, by go_num, hkm, by omega, by omega, HQ.out, Below.refl _ _, fun _ => rfl, by omega, by omega⟩
    case round =>
      obtain ⟨f, b, rfl, rfl, hfm, hb1, hb2, HQ2, HB2, HF⟩ := hrel
      by_cases hb3 : b = 2 * k + 3
      · have hd : ¬ ((b : Int) ≤ 2 * (k : Int) + 2) := by omega
        have hf := HF.out.2.2 hb3
        have HFF := hide hf
        clear hf hb1 hb2 hb3 HF
        by_cases hfk : f = k
        · subst hfk
          go_wp2
          (try simp only [Exit.inBlock, Exit.then]); refine bodyPost_ret (results_none rfl _ _ _) rfl ?_
          refine ⟨rfl, ?_, ?_⟩
          · rw [HE.out, ← HML.out]
            have hc := HFF.out
            have hz : m.length ≠ 0 := by omega
            obtain ⟨z, hz⟩ : ∃ z, m.length = z + 1 := ⟨m.length - 1, by omega⟩
            rw [show downL 104 m.length m f = m by rw [hz, downL, if_pos hc.symm]]
            exact HQ2.out
          · exact HK.out.below HB2.out
        · have hfi : ¬ ((f : Int) = (k : Int)) := by omega
          have hq2 := HQ2.out
          go_wp2_with (go_at_call 172; refine (swap162 bq 104 g cap k f m _ hq2 hkm hfm (by omega) hm1000).mono ?_; rintro e3 w3 ⟨rfl, hq3, hk3⟩)
          refine ⟨⟨f, swapL m k f, rfl, by rw [swapL_length]; exact hfm, by rw [swapL_length]; exact HML.out, by rw [swapL_length]; exact hq3, ?_, ?_⟩, ?_⟩
          · have hc := HFF.out
            have hgt : k < f := by
              have := pick2_gt (fk := 104) (l := m) (a := k) (by rw [← hc]; exact hfk)
              omega
            show downL 104 l.length l a = _
            rw [HE.out, ← HML.out]
            obtain ⟨z, hz⟩ : ∃ z, m.length = z + 1 := ⟨m.length - 1, by omega⟩
            rw [hz, downL, if_neg (by rw [← hc]; exact hfk), ← hc]
            exact downL_fuel 104 _ _ _ _ (by rw [swapL_length]; exact hfm) (by rw [swapL_length]; omega) (by rw [swapL_length]; omega)
          · exact (HK.out.below HB2.out).trans hk3 (fun _ _ h => h)
          · have hc := HFF.out
            have hgt : k < f := by
              have := pick2_gt (fk := 104) (l := m) (a := k) (by rw [← hc]; exact hfk)
              omega
            have := HML.out
            simp [intOf]; omega
      · have hb4 : (b : Int) ≤ 2 * (k : Int) + 2 := by omega
        have hS := CmpQ.of HQ2.out hfm hfm
        by_cases hbm : b < m.length
        · have hS := CmpQ.of HQ2.out hbm hfm
          generalize hx : nth m b = x at hS
          generalize hy : nth m f = y at hS
          have HX := hide hx
          have HY := hide hy
          clear hx hy
          have hd : decide (b < m.length) = true := by simpa using hbm
          go_wp2
          go_region_held3 (fun wx => wx.cell? ⟨bq, 0, none⟩ = some (.func (.func 104) #[] #[]) ∧ wx.cell? ⟨bq, 1, none⟩ = some (.slice (some ⟨g, 0, none⟩) m.length cap) ∧
    wx.cell? ⟨g, b * 2, none⟩ = some (.int .i64 x.1) ∧ wx.cell? ⟨g, b * 2 + 1, none⟩ = some (.int .i64 x.2) ∧ wx.cell? ⟨g, f * 2, none⟩ = some (.int .i64 y.1) ∧ wx.cell? ⟨g, f * 2 + 1, none⟩ = some (.int .i64 y.2)) ((refine CmpQ.cells (w0 := wr) ?_; repeat (first | exact hS | refine CmpQ.drew ?_ | exact hS2)))
            (first
              | (go_at_call 104; refine (nearer100 x y _).mono ?_; rintro e w2 ⟨rfl, hb2'⟩; have hS2 := CmpQ.below (CmpQ.drew hS) hb2'))
          have HS2 := hide hS2
          have hxm : nth m b = x := HX.out
          have hym : nth m f = y := HY.out
          clear hS hS2 hb2'
          by_cases hah : ahead 104 x y = true
          · have hah1 : nearB x y = true := by simpa [ahead] using hah
            rw [hah1]
            have HA := hide hah
            clear hah hah1
            go_wp2
            refine ⟨⟨b, b + 1, rfl, by go_num, hbm, by omega, by omega, HQ2.out.below HS2.out.bel, HB2.out.trans (HS2.out.bel.mono HB2.out.size), ?_⟩, by simp [intOf]; omega⟩
            have hp := pick_step hb1 (by omega) HF.out
            rwa [show pickL 104 m f b = b by rw [pickL, HX.out, HY.out, if_pos ⟨hbm, HA.out⟩]] at hp
          · have hah1 : nearB x y = false := by simpa [ahead] using hah
            rw [hah1]
            have HA := hide hah
            clear hah hah1
            go_wp2
            refine ⟨⟨f, b + 1, rfl, by go_num, hfm, by omega, by omega, HQ2.out.below HS2.out.bel, HB2.out.trans (HS2.out.bel.mono HB2.out.size), ?_⟩, by simp [intOf]; omega⟩
            have hp := pick_step hb1 (by omega) HF.out
            rwa [show pickL 104 m f b = f by rw [pickL, HX.out, HY.out, if_neg (fun h => HA.out h.2)]] at hp
        · have c1 := HQ2.out.c1
          have hd : decide (b < m.length) = false := by simpa using hbm
          have hd2 : decide ((b : Int) < (m.length : Int)) = false := by simp; omega
          go_wp2
          go_quiet (fail)
          go_wp2
          refine ⟨⟨f, b + 1, rfl, by go_num, hfm, by omega, by omega, HQ2.out.of_block (by rw [heap_drewN]) (fun _ _ => by rw [heap_drewN]), below_drewN HB2.out _, ?_⟩, by simp [intOf]; omega⟩
          have hp := pick_step hb1 (by omega) HF.out
          rwa [show pickL 104 m f b = f by rw [pickL, if_neg (fun h => hbm h.1)]] at hp

set_option maxHeartbeats 4000000 in
theorem down146_143 (bq g cap a : Nat) (l : List Hit) (w : World) (h : QAt w bq 150 (.slice (some ⟨g, 0, none⟩) l.length cap) l) (ha : a < l.length) (hl : l.length ≤ 1000) :
    Calls Tryz.prog 153 #[.pointer (some ⟨bq, 0, none⟩), .int .i64 a] w fun ev w' => ev = .returned (.tuple #[]) ∧ QAt w' bq 150 (.slice (some ⟨g, 0, none⟩) l.length cap) (downL 150 l.length l a) ∧ Kept (fun k => k = g) w w' := by
  have hne := h.ne (g := g) rfl
  have H := hide h
  clear h
  go_enter Tryz.func153, Tryz.ntmps153
  go_wp2
  go_loopw [1, 4, 5] (fun at_ _ _ wr => ∃ (k : Nat) (m : List Hit), at_ = .int .i64 k ∧ k < m.length ∧ Hid (m.length = l.length) ∧ QAt wr bq 150 (.slice (some ⟨g, 0, none⟩) m.length cap) m ∧ Hid (downL 150 l.length l a = downL 150 l.length m k) ∧ Hid (Kept (fun k => k = g) w wr)) (fun at_ _ _ _ => l.length - (intOf at_).toNat)
  case atStart => exact ⟨a, l, rfl, ha, rfl, H.out, rfl, Kept.refl _ _⟩
  case round =>
    obtain ⟨k, m, rfl, hkm, HML, hq, HE, HK⟩ := hrel
    have hm1000 : m.length ≤ 1000 := by rw [HML.out]; exact hl
    have HQ := hide hq
    clear hq
    go_wp2
    go_loopw [4, 5] (fun first below wr2 => ∃ (f b : Nat), first = .int .i64 f ∧ below = .int .i64 b ∧ f < m.length ∧ 2 * k + 1 ≤ b ∧ b ≤ 2 * k + 3 ∧ Hid (QAt wr2 bq 150 (.slice (some ⟨g, 0, none⟩) m.length cap) m) ∧ Hid (Below wr.heap.size wr wr2) ∧
        Hid ((b = 2 * k + 1 → f = k) ∧ (b = 2 * k + 2 → f = pickL 150 m k (2 * k + 1)) ∧ (b = 2 * k + 3 → f = pickL 150 m (pickL 150 m k (2 * k + 1)) (2 * k + 2)))) (fun _ below _ => 2 * k + 3 - (intOf below).toNat)
    case atStart => exact ⟨k, 2 * k + 1, rfl, by go_num, hkm, by omega, by omega, HQ.out, Below.refl _ _, fun _ => rfl, by omega, by omega⟩
    case round =>
      obtain ⟨f, b, rfl, rfl, hfm, hb1, hb2, HQ2, HB2, HF⟩ := hrel
      by_cases hb3 : b = 2 * k + 3
      · have hd : ¬ ((b : Int) ≤ 2 * (k : Int) + 2) := by omega
        have hf := HF.out.2.2 hb3
        have HFF := hide hf
        clear hf hb1 hb2 hb3 HF
        by_cases hfk : f = k
        · subst hfk
          go_wp2
          (try simp only [Exit.inBlock, Exit.then]); refine bodyPost_ret (results_none rfl _ _ _) rfl ?_
          refine ⟨rfl, ?_, ?_⟩
          · rw [HE.out, ← HML.out]
            have hc := HFF.out
            have hz : m.length ≠ 0 := by omega
            obtain ⟨z, hz⟩ : ∃ z, m.length = z + 1 := ⟨m.length - 1, by omega⟩
            rw [show downL 150 m.length m f = m by rw [hz, downL, if_pos hc.symm]]
            exact HQ2.out
          · exact HK.out.below HB2.out
        · have hfi : ¬ ((f : Int) = (k : Int)) := by omega
          have hq2 := HQ2.out
          go_wp2_with (go_at_call 172; refine (swap162 bq 150 g cap k f m _ hq2 hkm hfm (by omega) hm1000).mono ?_; rintro e3 w3 ⟨rfl, hq3, hk3⟩)
          refine ⟨⟨f, swapL m k f, rfl, by rw [swapL_length]; exact hfm, by rw [swapL_length]; exact HML.out, by rw [swapL_length]; exact hq3, ?_, ?_⟩, ?_⟩
          · have hc := HFF.out
            have hgt : k < f := by
              have := pick2_gt (fk := 150) (l := m) (a := k) (by rw [← hc]; exact hfk)
              omega
            show downL 150 l.length l a = _
            rw [HE.out, ← HML.out]
            obtain ⟨z, hz⟩ : ∃ z, m.length = z + 1 := ⟨m.length - 1, by omega⟩
            rw [hz, downL, if_neg (by rw [← hc]; exact hfk), ← hc]
            exact downL_fuel 150 _ _ _ _ (by rw [swapL_length]; exact hfm) (by rw [swapL_length]; omega) (by rw [swapL_length]; omega)
          · exact (HK.out.below HB2.out).trans hk3 (fun _ _ h => h)
          · have hc := HFF.out
            have hgt : k < f := by
              have := pick2_gt (fk := 150) (l := m) (a := k) (by rw [← hc]; exact hfk)
              omega
            have := HML.out
            simp [intOf]; omega
      · have hb4 : (b : Int) ≤ 2 * (k : Int) + 2 := by omega
        have hS := CmpQ.of HQ2.out hfm hfm
        by_cases hbm : b < m.length
        · have hS := CmpQ.of HQ2.out hbm hfm
          generalize hx : nth m b = x at hS
          generalize hy : nth m f = y at hS
          have HX := hide hx
          have HY := hide hy
          clear hx hy
          have hd : decide (b < m.length) = true := by simpa using hbm
          go_wp2
          go_region_held3 (fun wx => wx.cell? ⟨bq, 0, none⟩ = some (.func (.func 150) #[] #[]) ∧ wx.cell? ⟨bq, 1, none⟩ = some (.slice (some ⟨g, 0, none⟩) m.length cap) ∧
    wx.cell? ⟨g, b * 2, none⟩ = some (.int .i64 x.1) ∧ wx.cell? ⟨g, b * 2 + 1, none⟩ = some (.int .i64 x.2) ∧ wx.cell? ⟨g, f * 2, none⟩ = some (.int .i64 y.1) ∧ wx.cell? ⟨g, f * 2 + 1, none⟩ = some (.int .i64 y.2)) ((refine CmpQ.cells (w0 := wr) ?_; repeat (first | exact hS | refine CmpQ.drew ?_ | exact hS2)))
            (first
              | (go_at_call 150; refine (farther143 x y _).mono ?_; rintro e w2 ⟨rfl, hb2'⟩; have hS2 := CmpQ.below (CmpQ.drew hS) hb2'))
          have HS2 := hide hS2
          have hxm : nth m b = x := HX.out
          have hym : nth m f = y := HY.out
          clear hS hS2 hb2'
          by_cases hah : ahead 150 x y = true
          · have hah1 : farB x y = true := by simpa [ahead] using hah
            rw [hah1]
            have HA := hide hah
            clear hah hah1
            go_wp2
            refine ⟨⟨b, b + 1, rfl, by go_num, hbm, by omega, by omega, HQ2.out.below HS2.out.bel, HB2.out.trans (HS2.out.bel.mono HB2.out.size), ?_⟩, by simp [intOf]; omega⟩
            have hp := pick_step hb1 (by omega) HF.out
            rwa [show pickL 150 m f b = b by rw [pickL, HX.out, HY.out, if_pos ⟨hbm, HA.out⟩]] at hp
          · have hah1 : farB x y = false := by simpa [ahead] using hah
            rw [hah1]
            have HA := hide hah
            clear hah hah1
            go_wp2
            refine ⟨⟨f, b + 1, rfl, by go_num, hfm, by omega, by omega, HQ2.out.below HS2.out.bel, HB2.out.trans (HS2.out.bel.mono HB2.out.size), ?_⟩, by simp [intOf]; omega⟩
            have hp := pick_step hb1 (by omega) HF.out
            rwa [show pickL 150 m f b = f by rw [pickL, HX.out, HY.out, if_neg (fun h => HA.out h.2)]] at hp
        · have c1 := HQ2.out.c1
          have hd : decide (b < m.length) = false := by simpa using hbm
          have hd2 : decide ((b : Int) < (m.length : Int)) = false := by simp; omega
          go_wp2
          go_quiet (fail)
          go_wp2
          refine ⟨⟨f, b + 1, rfl, by go_num, hfm, by omega, by omega, HQ2.out.of_block (by rw [heap_drewN]) (fun _ _ => by rw [heap_drewN]), below_drewN HB2.out _, ?_⟩, by simp [intOf]; omega⟩
          have hp := pick_step hb1 (by omega) HF.out
          rwa [show pickL 150 m f b = f by rw [pickL, if_neg (fun h => hbm h.1)]] at hp

theorem down146_any (bq fk g cap a : Nat) (hk : IsOrd fk) (l : List Hit) (w : World) (h : QAt w bq fk (.slice (some ⟨g, 0, none⟩) l.length cap) l) (ha : a < l.length) (hl : l.length ≤ 1000) :
    Calls Tryz.prog 153 #[.pointer (some ⟨bq, 0, none⟩), .int .i64 a] w fun ev w' => ev = .returned (.tuple #[]) ∧ QAt w' bq fk (.slice (some ⟨g, 0, none⟩) l.length cap) (downL fk l.length l a) ∧ Kept (fun k => k = g) w w' := by
  rcases hk with rfl | rfl
  · exact down146_100 bq g cap a l w h ha hl
  · exact down146_143 bq g cap a l w h ha hl

end Go.Proofs.YtpkiefjanmfgfaaGreatDoor
namespace Go.Proofs.YtpkiefjanmfgfaaGreatDoor
open Go.RowKit

set_option maxHeartbeats 1000000 in
theorem down146_none (bq fk g _n cap : Nat) (w : World) (h : QAt w bq fk (.slice (some ⟨g, 0, none⟩) 0 cap) []) :
    Calls Tryz.prog 153 #[.pointer (some ⟨bq, 0, none⟩), .int .i64 0] w fun ev w' => ev = .returned (.tuple #[]) ∧ QAt w' bq fk (.slice (some ⟨g, 0, none⟩) 0 cap) [] ∧ Kept (fun k => k = g) w w' := by
  have c1 := h.c1
  have H := hide h
  clear h
  go_enter Tryz.func153, Tryz.ntmps153
  go_wp2
  refine wp_loop_rounds 1 ?_
  rw [rounds_succ]
  go_wp2
  refine wp_loop_rounds 3 ?_
  rw [rounds_succ]
  go_wp2
  go_quiet (fail)
  go_wp2
  rw [rounds_succ]
  go_wp2
  go_quiet (fail)
  go_wp2
  rw [rounds_succ]
  go_wp2
  (try simp only [Exit.inBlock, Exit.then]); refine bodyPost_ret (results_none rfl _ _ _) rfl ?_
  exact ⟨rfl, H.out.of_block (by simp) (fun _ _ => by simp), (Kept.refl _ _).drewN _⟩

def pushL (fk : Nat) (l : List Hit) (h : Hit) : List Hit := upL fk (l.length + 1) (l ++ [h]) l.length
theorem pushL_length (fk : Nat) (l : List Hit) (h : Hit) : (pushL fk l h).length = l.length + 1 := by simp [pushL, upL_length]
def popL (fk : Nat) (l : List Hit) : List Hit := downL fk (l.length - 1) ((l.set 0 (nth l (l.length - 1))).take (l.length - 1)) 0
theorem popL_length (fk : Nat) (l : List Hit) : (popL fk l).length = l.length - 1 := by simp [popL, downL_length]

set_option maxHeartbeats 1000000 in
theorem len106 (bq fk : Nat) (v : Value) (l : List Hit) (w : World) (h : QAt w bq fk v l) :
    Calls Tryz.prog 110 #[.pointer (some ⟨bq, 0, none⟩)] w fun ev w' => ev = .returned (.int .i64 l.length) ∧ w = w' := by
  have c1 := h.c1
  obtain ⟨a, cap, rfl⟩ := h.slice
  clear h
  go_enter Tryz.func110, Tryz.ntmps110
  go_wp2
  go_ret
  exact ⟨rfl, rfl⟩

set_option maxHeartbeats 1000000 in
theorem top108 (bq fk : Nat) (v : Value) (l : List Hit) (w : World) (h : QAt w bq fk v l) (h0 : 0 < l.length) :
    Calls Tryz.prog 112 #[.pointer (some ⟨bq, 0, none⟩)] w fun ev w' => ev = .returned (.agg #[.int .i64 (nth l 0).1, .int .i64 (nth l 0).2]) ∧ Below w.heap.size w w' := by
  obtain ⟨g, cap, rfl, hcap⟩ := h.addr h0
  have c1 := h.c1
  have x0 := HRow.at0 h.row h0
  have x1 := HRow.at1 h.row h0
  simp only [Nat.zero_mul, Nat.zero_add] at x0 x1
  have b1 := block_lt_of_cell c1
  have b2 := block_lt_of_cell x0
  clear h
  go_enter Tryz.func112, Tryz.ntmps112
  go_wp2
  refine bodyPost_ret (v := .agg #[.int .i64 (nth l 0).1, .int .i64 (nth l 0).2]) (by simp [results, Tryz.results112, go_sem]) rfl ⟨rfl, ?_⟩
  repeat (first | exact Below.refl _ _ | refine Below.setCell ?_ (by simp) _ | refine Below.alloc ?_ (by simp) _)

set_option maxHeartbeats 1000000 in
theorem new99 (fk : Nat) (w : World) :
    Calls Tryz.prog 103 #[.func (.func fk) #[] #[]] w fun ev w' => ev = .returned (.pointer (some ⟨w.heap.size, 0, none⟩)) ∧ QAt w' w.heap.size fk (.slice none 0 0) [] ∧ Below w.heap.size w w' := by
  go_enter Tryz.func103, Tryz.ntmps103
  go_wp2
  go_ret
  exact ⟨rfl, ⟨heap_alloc_new _ _, rfl, .inl ⟨rfl, rfl⟩⟩, (Below.refl _ _).alloc (Nat.le_refl _) _⟩
end Go.Proofs.YtpkiefjanmfgfaaGreatDoor
namespace Go.Proofs.YtpkiefjanmfgfaaGreatDoor
open Go.RowKit

theorem info63 : (Tryz.prog.info? 63).map (fun i => (i.zero, i.size, i.bytes)) = some (some (.agg #[.int .i64 0, .int .i64 0]), 2, 16) := by kernel_rfl

theorem row_fit (n : Nat) (h : n ≤ 1000) : n + 1 ≤ maxLen ∧ (n + 1) * 16 ≤ 140737488355328 := by
  unfold maxLen
  omega

def PushS (w0 : World) (bq fk B : Nat) (v : Value) (l : List Hit) (h : Hit) (wx : World) : Prop :=
  QAt wx bq fk v l ∧ wx.heap[B]? = some (.cells #[.int .i64 h.1, .int .i64 h.2] 63 (0, 0)) ∧ Below w0.heap.size w0 wx
section
variable {w0 wx wy : World} {bq fk B : Nat} {v : Value} {l : List Hit} {h : Hit}
theorem PushS.below (hp : PushS w0 bq fk B v l h wx) (hb : Below wx.heap.size wx wy) : PushS w0 bq fk B v l h wy :=
  ⟨hp.1.below hb, (hb.block _ (heap_lt hp.2.1)).trans hp.2.1, hp.2.2.trans (hb.mono hp.2.2.size)⟩
theorem PushS.drew (hp : PushS w0 bq fk B v l h wx) : PushS w0 bq fk B v l h wx.drew := hp.below (Below.refl _ _).drew
theorem PushS.alloc (hp : PushS w0 bq fk B v l h wx) (o : Obj) : PushS w0 bq fk B v l h (wx.alloc o) := hp.below ((Below.refl _ _).alloc (Nat.le_refl _) o)
theorem PushS.cells (hp : PushS w0 bq fk B v l h wx) : wx.cell? ⟨bq, 1, none⟩ = some v ∧ wx.frozen? ⟨bq, 1, none⟩ = false ∧ wx.cell? ⟨B, 0, none⟩ = some (.int .i64 h.1) ∧ wx.cell? ⟨B, 1, none⟩ = some (.int .i64 h.2) :=
  ⟨hp.1.c1, hp.1.fz 1, cells_at hp.2.1 0 rfl, cells_at hp.2.1 1 rfl⟩
theorem PushS.grown (hp : PushS w0 bq fk B v l h wx) (hg : wx.grownBy wy v.ownBlock) (h1 : v.ownBlock ≠ some bq) (h2 : v.ownBlock ≠ some B) : wy.cell? ⟨bq, 1, none⟩ = some v ∧ wy.frozen? ⟨bq, 1, none⟩ = false ∧ wy.cell? ⟨B, 0, none⟩ = some (.int .i64 h.1) ∧ wy.cell? ⟨B, 1, none⟩ = some (.int .i64 h.2) :=
  ⟨(hg.cell_far ⟨bq, 1, none⟩ hp.1.lt (Ne.symm h1)).trans hp.cells.1, (World.frozen?_of_block (w := wx) (a := ⟨bq, 1, none⟩) (hg.block bq hp.1.lt (Ne.symm h1))).trans (hp.1.fz 1), (hg.cell_far ⟨B, 0, none⟩ (heap_lt hp.2.1) (Ne.symm h2)).trans hp.cells.2.2.1, (hg.cell_far ⟨B, 1, none⟩ (heap_lt hp.2.1) (Ne.symm h2)).trans hp.cells.2.2.2⟩
theorem PushS.stored (hp : PushS w0 bq fk B v l h wx) (hg : wx.grownBy wy v.ownBlock) (h1 : v.ownBlock ≠ some bq) {g cap : Nat} (ho : wy.ownsRow 0 63 2 (.slice (some ⟨g, 0, none⟩) (l.length + 1) cap) (l.length + 1) (hcells l ++ [.int .i64 h.1, .int .i64 h.2])) (hgb : g ≠ bq) :
    QAt (wy.setCell ⟨bq, 1, none⟩ (.slice (some ⟨g, 0, none⟩) (l.length + 1) cap)) bq fk (.slice (some ⟨g, 0, none⟩) (l ++ [h]).length cap) (l ++ [h]) := by
  have hb : wy.heap[bq]? = some (.cells #[.func (.func fk) #[] #[], v] 230 (0, 0)) := (hg.block bq hp.1.lt (Ne.symm h1)).trans hp.1.blk
  refine ⟨?_, ?_⟩
  · rw [heap_setCell_same _ _ _ _ _ _ hb]
    simp
  · unfold HRow
    rw [hcells_append, List.length_append]
    refine ownsRow_of_block (w := wy) ho fun g' e => ?_
    obtain rfl : g = g' := by simpa [Value.ownBlock] using e
    exact Below.heap_setCell _ _ _ _ hgb
end

set_option maxHeartbeats 4000000 in
set_option maxRecDepth 20000 in
theorem push104 (bq fk : Nat) (hk : IsOrd fk) (v : Value) (l : List Hit) (h : Hit) (w : World) (hq : QAt w bq fk v l) (hl : l.length < 1000) :
    Calls Tryz.prog 108 #[.pointer (some ⟨bq, 0, none⟩), .agg #[.int .i64 h.1, .int .i64 h.2]] w fun ev w' => ev = .returned (.tuple #[]) ∧
      ∃ v', QAt w' bq fk v' (pushL fk l h) ∧ Kept (fun k => k = bq ∨ v.ownBlock = some k) w w' ∧ (v'.ownBlock = v.ownBlock ∨ ∀ g, v'.ownBlock = some g → w.heap.size ≤ g) := by
  obtain ⟨i0, hi, hz0, hz1, hz2⟩ := info_parts info63
  have hfit := row_fit l.length (by omega)
  obtain ⟨i, d⟩ := h
  have hS : PushS w bq fk w.heap.size v l (i, d) (w.alloc (.cells #[.int .i64 i, .int .i64 d] 63)) :=
    ⟨hq.below ((Below.refl _ _).alloc (Nat.le_refl _) _), heap_alloc_new _ _, (Below.refl _ _).alloc (Nat.le_refl _) _⟩
  have hsz : (w.alloc (.cells #[.int .i64 i, .int .i64 d] 63)).heap.size = w.heap.size + 1 := by simp
  have hvn : v.ownBlock ≠ some bq := fun e => hq.ne e rfl
  have hvlt : ∀ g, v.ownBlock = some g → g < w.heap.size := fun g hg => (hq.row.lt g hg).2
  have hvB : v.ownBlock ≠ some w.heap.size := fun e => by have := hvlt _ e; omega
  have hbq := hq.lt
  have HL := hide hl
  clear hq hl
  go_enter Tryz.func108, Tryz.ntmps108
  go_wp2_with fail
  generalize w.alloc (.cells #[.int .i64 i, .int .i64 d] 63) = w1 at hS hsz ⊢
  have HSZ := hide hsz
  clear hsz
  obtain ⟨c1, f1, b0, b1⟩ := hS.cells
  simp only at b0 b1
  have l1 := block_lt_of_cell c1
  have l2 := block_lt_of_cell b0
  go_region_law
    ((refine step_append_lies _ (by rfl) _ _ _ (by rfl) 0 63 i0 _ 2 16 Tryz.underlying58 hi hz0 hz1 hz2 rfl (by omega) v l.length (hcells l) (by rfl) ((hS.alloc _).drew.1.row)
        ⟨w1.heap.size, 0, none⟩ 1 1 [.int .i64 i, .int .i64 d] (by rfl) (by rfl) (World.news_of_block (cs := #[.int .i64 i, .int .i64 d]) (t := 63) (fr := (0, 0)) (heap_alloc_new _ _)) (by simp [Value.oneCell'])
        (by omega) hfit.1 hfit.2 (Nat.zero_le _) (w1.heap.size + 1) (by simp) ?_; intro gg cap w2 hown1 hgrow hat hlt; have hk1 := (PushS.grown (hS.alloc _).drew hgrow hvn hvB).1; have hkf := (PushS.grown (hS.alloc _).drew hgrow hvn hvB).2.1; have HG1 := hide hgrow; have HO1 := hide hown1; have HAT := hide hat; clear hown1 hgrow hat))
  all_goals (
    have hgb : gg ≠ bq := by
      have hz := HSZ.out
      rcases HAT.out with e | e
      · exact fun e2 => hvn (e2 ▸ e)
      · omega
    have hq3 := PushS.stored (hS.alloc _).drew HG1.out hvn HO1.out hgb
    simp only [List.length_append, List.length_cons, List.length_nil, Nat.zero_add] at hq3
    have hlast : ((l.length + 1 : Nat) : Int) - 1 = (l.length : Int) := by omega
    have hw2 : Kept (fun k => k = bq ∨ v.ownBlock = some k) w w2 := by
      refine Kept.grown (Kept.of_below _ ((hS.alloc _).drew.2.2)) HG1.out (fun k e _ => .inr e)
    have hw3 := hw2.setCell (p := ⟨bq, 1, none⟩) (fun _ => .inl rfl) (.slice (some ⟨gg, 0, none⟩) (l.length + 1) cap)
    have hge : v.ownBlock = some gg ∨ w.heap.size ≤ gg := by
      have hz := HSZ.out
      exact HAT.out.imp id (fun e => by omega)
    generalize w2.setCell ⟨bq, 1, none⟩ (.slice (some ⟨gg, 0, none⟩) (l.length + 1) cap) = w3 at hq3 hw3 ⊢
    have c3 := hq3.c1
    have HGE := hide hge
    have HW3 := hide hw3
    have hup := up144_any bq fk gg cap l.length hk (l ++ [(i, d)]) w3 (by simpa using hq3) (by simp) (by have := HL.out; simp; omega)
    have HUP := hide hup
    clear hS c1 f1 b0 b1 l1 l2 hq3 hw2 hw3 hup hgb hk1 hkf HSZ hlt HAT HO1 HG1 hge
    go_wp2_with (go_at_call 151; refine HUP.out.mono ?_; rintro e3 w4 ⟨rfl, hq4, hk4⟩)
    go_end0
    refine ⟨rfl, _, hq4, HW3.out.trans hk4 (fun j hj e => ?_), ?_⟩
    · rw [e]
      exact HGE.out.elim .inr (fun h => by omega)
    · rcases HGE.out with e | e
      · exact .inl e.symm
      · exact .inr fun g' e' => by
          obtain rfl : gg = g' := by simpa [Value.ownBlock] using e'
          exact e)
end Go.Proofs.YtpkiefjanmfgfaaGreatDoor
namespace Go.Proofs.YtpkiefjanmfgfaaGreatDoor
open Go.RowKit

theorem hcells_take : ∀ (l : List Hit) (k : Nat), (hcells l).take (k * 2) = hcells (l.take k)
  | [], k => by simp [hcells]
  | x :: l, 0 => by simp [hcells]
  | x :: l, k + 1 => by
    have e1 : (k + 1) * 2 = k * 2 + 2 := by omega
    rw [hcells_cons, e1, List.take_succ_cons, hcells_cons]
    simp only [hcell, List.cons_append, List.nil_append, List.take_succ_cons]
    rw [hcells_take l k]

theorem HRow.cut {w : World} {g n cap : Nat} {l : List Hit} (h : w.ownsRow 0 63 2 (.slice (some ⟨g, 0, none⟩) n cap) n (hcells l)) {k : Nat} (hk : k ≤ n) :
    w.ownsRow 0 63 2 (.slice (some ⟨g, 0, none⟩) k cap) k (hcells (l.take k)) := by
  obtain ⟨cur, h1, h2, h3, h4, h5, h6⟩ := ownsRow_parts h
  have hl := h.1
  rw [hcells_length] at hl
  refine ⟨by rw [hcells_length, List.length_take]; omega, .inr ⟨g, cap, cur, rfl, h1, h2, by omega, h4, h5, ?_⟩⟩
  rw [← hcells_take, ← h6, List.take_take, Nat.min_eq_left (by omega)]

theorem QAt.popped {w : World} {bq fk g cap : Nat} {l : List Hit} (h : QAt w bq fk (.slice (some ⟨g, 0, none⟩) l.length cap) l) (x : Hit) :
    QAt (((w.setCell ⟨g, 0, none⟩ (.int .i64 x.1)).setCell ⟨g, 1, none⟩ (.int .i64 x.2)).setCell ⟨bq, 1, none⟩ (.slice (some ⟨g, 0, none⟩) (l.length - 1) cap)) bq fk (.slice (some ⟨g, 0, none⟩) ((l.set 0 x).take (l.length - 1)).length cap) ((l.set 0 x).take (l.length - 1)) := by
  have hne := h.ne (g := g) rfl
  have h1 := HRow.set h.row 0 x
  simp only [Nat.zero_mul, Nat.zero_add] at h1
  have h2 := HRow.cut h1 (k := l.length - 1) (by omega)
  have e : ((l.set 0 x).take (l.length - 1)).length = l.length - 1 := by simp
  have hb : ((w.setCell ⟨g, 0, none⟩ (.int .i64 x.1)).setCell ⟨g, 1, none⟩ (.int .i64 x.2)).heap[bq]? = some (.cells #[.func (.func fk) #[] #[], (.slice (some ⟨g, 0, none⟩) l.length cap)] 230 (0, 0)) := by
    rw [Below.heap_setCell _ _ _ _ (fun e => hne e.symm), Below.heap_setCell _ _ _ _ (fun e => hne e.symm)]
    exact h.blk
  refine ⟨?_, ?_⟩
  · rw [heap_setCell_same _ _ _ _ _ _ hb, e]
    simp
  · unfold HRow
    rw [e]
    refine ownsRow_of_block h2 fun g' e' => ?_
    obtain rfl : g = g' := by simpa [Value.ownBlock] using e'
    exact Below.heap_setCell _ _ _ _ hne

theorem down146_top (bq fk g cap : Nat) (hk : IsOrd fk) (m : List Hit) (w : World) (h : QAt w bq fk (.slice (some ⟨g, 0, none⟩) m.length cap) m) (hl : m.length ≤ 1000) :
    Calls Tryz.prog 153 #[.pointer (some ⟨bq, 0, none⟩), .int .i64 0] w fun ev w' => ev = .returned (.tuple #[]) ∧ QAt w' bq fk (.slice (some ⟨g, 0, none⟩) m.length cap) (downL fk m.length m 0) ∧ Kept (fun k => k = g) w w' := by
  rcases Nat.eq_zero_or_pos m.length with h0 | h0
  · obtain rfl := List.eq_nil_of_length_eq_zero h0
    exact down146_none bq fk g 0 cap w h
  · exact down146_any bq fk g cap 0 hk m w h h0 hl

set_option maxHeartbeats 4000000 in
set_option maxRecDepth 20000 in
theorem pop110 (bq fk : Nat) (hk : IsOrd fk) (v : Value) (l : List Hit) (w : World) (hq : QAt w bq fk v l) (h0 : 0 < l.length) (hl : l.length ≤ 1000) :
    Calls Tryz.prog 114 #[.pointer (some ⟨bq, 0, none⟩)] w fun ev w' => ev = .returned (.agg #[.int .i64 (nth l 0).1, .int .i64 (nth l 0).2]) ∧
      ∃ v', QAt w' bq fk v' (popL fk l) ∧ v'.ownBlock = v.ownBlock ∧ Kept (fun k => k = bq ∨ v.ownBlock = some k) w w' := by
  obtain ⟨g, cap, rfl, hcap⟩ := hq.addr h0
  have hlast : l.length - 1 < l.length := by omega
  have hq1 := hq.below ((Below.refl _ _).alloc (Nat.le_refl _) (.cells #[.int .i64 0, .int .i64 0] 63))
  have hw1 : Below w.heap.size w (w.alloc (.cells #[.int .i64 0, .int .i64 0] 63)) := (Below.refl _ _).alloc (Nat.le_refl _) _
  have hz1 : (w.alloc (.cells #[.int .i64 0, .int .i64 0] 63)).heap[w.heap.size]? = some (.cells #[.int .i64 0, .int .i64 0] 63 (0, 0)) := heap_alloc_new _ _
  have hne := hq.ne (g := g) rfl
  have hbq := hq.lt
  have hg := (hq.row.lt g rfl).2
  clear hq
  go_enter Tryz.func114, Tryz.ntmps114
  go_wp2_with fail
  generalize w.alloc (.cells #[.int .i64 0, .int .i64 0] 63) = w1 at hq1 hw1 hz1 ⊢
  have c1 := hq1.c1
  have x0 := HRow.at0 hq1.row h0
  have x1 := HRow.at1 hq1.row h0
  simp only [Nat.zero_mul, Nat.zero_add] at x0 x1
  obtain ⟨p, hp⟩ : ∃ p, l.length - 1 = p := ⟨_, rfl⟩
  have hn1 : ((l.length : Nat) : Int) - 1 = (p : Int) := by omega
  have hpl : p < l.length := by omega
  have hpw : IntKind.i64.wrap (p : Int) = (p : Int) := by simp [IntKind.wrap, IntKind.bits]; omega
  have HP := hide hp
  clear hp hlast
  have HQ1 := hide hq1
  have HW1 := hide hw1
  have HZ1 := hide hz1
  clear hq1 hw1 hz1
  have n1 := World.new_ne w1 _ c1
  have n2 := World.new_ne w1 _ x0
  have n3 := World.new_ne w1 _ x1
  go_region_held3 (fun wx => wx.cell? ⟨bq, 1, none⟩ = some (.slice (some ⟨g, 0, none⟩) l.length cap) ∧ wx.cell? ⟨g, 0, none⟩ = some (.int .i64 (nth l 0).1) ∧ wx.cell? ⟨g, 1, none⟩ = some (.int .i64 (nth l 0).2)) (go_keep) (fail)
  have hq2 : QAt (w1.alloc (.cells #[.int .i64 (nth l 0).1, .int .i64 (nth l 0).2] 63)).drew bq fk (.slice (some ⟨g, 0, none⟩) l.length cap) l := HQ1.out.below ((Below.refl _ _).alloc (Nat.le_refl _) _).drew
  have hb2 : (w1.alloc (.cells #[.int .i64 (nth l 0).1, .int .i64 (nth l 0).2] 63)).drew.heap[w1.heap.size]? = some (.cells #[.int .i64 (nth l 0).1, .int .i64 (nth l 0).2] 63 (0, 0)) := heap_alloc_new _ _
  have hz2 : (w1.alloc (.cells #[.int .i64 (nth l 0).1, .int .i64 (nth l 0).2] 63)).drew.heap[w.heap.size]? = some (.cells #[.int .i64 0, .int .i64 0] 63 (0, 0)) :=
    (Below.heap_alloc _ _ _ (heap_lt HZ1.out)).trans HZ1.out
  have hw2 : Below w.heap.size w (w1.alloc (.cells #[.int .i64 (nth l 0).1, .int .i64 (nth l 0).2] 63)).drew := (HW1.out.alloc HW1.out.size _).drew
  have hgt : w.heap.size < w1.heap.size := heap_lt HZ1.out
  generalize (w1.alloc (.cells #[.int .i64 (nth l 0).1, .int .i64 (nth l 0).2] 63)).drew = w2 at hq2 hb2 hz2 hw2 ⊢
  clear c1 x0 x1 n1 n2 n3 HQ1 HW1 HZ1
  have c1 := hq2.c1
  have fr := hq2.fz 1
  have y0 := HRow.at0 hq2.row hpl
  have y1 := HRow.at1 hq2.row hpl
  have x0 := HRow.at0 hq2.row h0
  have x1 := HRow.at1 hq2.row h0
  simp only [Nat.zero_mul, Nat.zero_add] at x0 x1
  have hfz := ownsRow_frozen hq2.row
  have hq5 := hq2.popped (nth l p)
  generalize hyy : nth l p = y at y0 y1 hq5
  generalize hxx : nth l 0 = x at x0 x1 hb2
  have HQ2 := hide hq2
  have HY := hide hyy
  have HQ5 := hide hq5
  have HB2 := hide hb2
  have HZ2 := hide hz2
  have HW2 := hide hw2
  clear hq2 hyy hq5 hb2 hz2 hw2
  go_wp2
  go_region
  have d1 : ((w2.setCell ⟨g, 0, none⟩ (.int .i64 y.1)).setCell ⟨g, 1, none⟩ (.int .i64 y.2)).drew.cell? ⟨bq, 1, none⟩ = some (.slice (some ⟨g, 0, none⟩) l.length cap) :=
    (World.cell?_of_block (w := w2) (a := ⟨bq, 1, none⟩) ((Below.heap_setCell _ _ _ _ (fun e => hne e.symm)).trans (Below.heap_setCell _ _ _ _ (fun e => hne e.symm)))).trans c1
  have df : ((w2.setCell ⟨g, 0, none⟩ (.int .i64 y.1)).setCell ⟨g, 1, none⟩ (.int .i64 y.2)).drew.frozen? ⟨bq, 1, none⟩ = false :=
    (World.frozen?_of_block (w := w2) (a := ⟨bq, 1, none⟩) ((Below.heap_setCell _ _ _ _ (fun e => hne e.symm)).trans (Below.heap_setCell _ _ _ _ (fun e => hne e.symm)))).trans fr
  have hq6 : QAt (((w2.setCell ⟨g, 0, none⟩ (.int .i64 y.1)).setCell ⟨g, 1, none⟩ (.int .i64 y.2)).drew.setCell ⟨bq, 1, none⟩ (.slice (some ⟨g, 0, none⟩) (l.length - 1) cap)) bq fk (.slice (some ⟨g, 0, none⟩) ((l.set 0 y).take (l.length - 1)).length cap) ((l.set 0 y).take (l.length - 1)) :=
    HQ5.out.of_block rfl (fun _ _ => rfl)
  have hkw : Kept (fun k => k = bq ∨ k = g) w (((w2.setCell ⟨g, 0, none⟩ (.int .i64 y.1)).setCell ⟨g, 1, none⟩ (.int .i64 y.2)).drew.setCell ⟨bq, 1, none⟩ (.slice (some ⟨g, 0, none⟩) (l.length - 1) cap)) :=
    ((((Kept.of_below _ HW2.out).setCell (fun _ => .inr rfl) _).setCell (fun _ => .inr rfl) _).drew).setCell (fun _ => .inl rfl) _
  have hkx : Kept (fun k => k = bq ∨ k = g) w2 (((w2.setCell ⟨g, 0, none⟩ (.int .i64 y.1)).setCell ⟨g, 1, none⟩ (.int .i64 y.2)).drew.setCell ⟨bq, 1, none⟩ (.slice (some ⟨g, 0, none⟩) (l.length - 1) cap)) :=
    ((((Kept.refl _ w2).setCell (fun _ => .inr rfl) _).setCell (fun _ => .inr rfl) _).drew).setCell (fun _ => .inl rfl) _
  rw [HP.out] at hq6 hkw hkx
  generalize ((w2.setCell ⟨g, 0, none⟩ (.int .i64 y.1)).setCell ⟨g, 1, none⟩ (.int .i64 y.2)).drew = w3 at d1 df hq6 hkw hkx ⊢
  have e6 : ((l.set 0 y).take p).length = p := by simp; omega
  have HQ6 := hide hq6
  have HKW := hide hkw
  have HKX := hide hkx
  have HE6 := hide e6
  clear hq6 hkw hkx HQ5 HQ2 c1 fr y0 y1 x0 x1 hfz e6
  go_wp2_with fail
  refine (down146_top bq fk g cap hk ((l.set 0 y).take p) _ HQ6.out (by rw [HE6.out]; omega)).mono ?_
  rintro e5 w5 ⟨rfl, hq7, hk7⟩
  have hk8 : Kept (fun k => k = bq ∨ k = g) w2 w5 := HKX.out.trans hk7 (fun _ _ e => .inr e)
  have hb5 : w5.heap[w1.heap.size]? = some (.cells #[.int .i64 x.1, .int .i64 x.2] 63 (0, 0)) := (hk8.block _ (heap_lt HB2.out) (by omega)).trans HB2.out
  have hz5 : w5.heap[w.heap.size]? = some (.cells #[.int .i64 0, .int .i64 0] 63 (0, 0)) := (hk8.block _ (heap_lt HZ2.out) (by omega)).trans HZ2.out
  have m0 := cells_at hb5 0 rfl
  have m1 := cells_at hb5 1 rfl
  have m2 := cells_at hz5 0 rfl
  have m3 := cells_at hz5 1 rfl
  have m4 := cells_frozen hz5
  have HQ7 := hide hq7
  have HK7 := hide hk7
  have HBQ := hide hbq
  have HG := hide hg
  clear hk8 hb5 hz5 hq7 hk7 HKX HB2 HZ2 hgt hne hbq hg d1 df
  go_wp2
  refine bodyPost_ret (v := .agg #[.int .i64 x.1, .int .i64 x.2]) (by simp [results, Tryz.results114, go_sem, m2, m3]) rfl ⟨by rw [hxx], _, (?_ : QAt _ bq fk (.slice (some ⟨g, 0, none⟩) ((l.set 0 y).take p).length cap) _), rfl, ?_⟩
  · have e : popL fk l = downL fk ((l.set 0 y).take p).length ((l.set 0 y).take p) 0 := by
      unfold popL
      rw [HP.out, HY.out, HE6.out]
    rw [e]
    have h1 := HBQ.out
    have h2 := HG.out
    refine HQ7.out.of_block ?_ (fun g' e' => ?_)
    · rw [Below.heap_setCell _ _ _ _ (by simp; omega), Below.heap_setCell _ _ _ _ (by simp; omega)]
    · obtain rfl : g = g' := by simpa [Value.ownBlock] using e'
      rw [Below.heap_setCell _ _ _ _ (by simp; omega), Below.heap_setCell _ _ _ _ (by simp; omega)]
  · refine Kept.setCell (Kept.setCell ((HKW.out.trans HK7.out (fun _ _ e => .inr e)).mono (fun k _ e => e.imp id (fun e => by rw [e]; rfl))) (fun e => ?_) _) (fun e => ?_) _
    · exact absurd e (Nat.lt_irrefl _)
    · exact absurd e (Nat.lt_irrefl _)
end Go.Proofs.YtpkiefjanmfgfaaGreatDoor
