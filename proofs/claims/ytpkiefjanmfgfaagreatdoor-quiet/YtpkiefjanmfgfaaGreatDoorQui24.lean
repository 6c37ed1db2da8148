import Derived.Test.YtpkiefjanmfgfaaGreatDoorQui13
import Derived.Test.YtpkiefjanmfgfaaGreatDoorQui21
import Derived.Test.YtpkiefjanmfgfaaGreatDoorQui23
namespace Go.Proofs.YtpkiefjanmfgfaaGreatDoor
open Go.RowKit Go.Maps

theorem irow_of_pts {w : World} {A c : Nat} {xs ys : List Int} (h : Pts w A c (xs ++ ys)) : IRow w (.slice (some ⟨A, 0, none⟩) xs.length c) xs := by
  rcases h.2 with ⟨e, _⟩ | ⟨g, cap, cur, hv, h0, h1, h2, h3, h4, h5⟩
  · cases e
  · simp only [Value.slice.injEq, Option.some.injEq, Addr.mk.injEq] at hv
    obtain ⟨⟨rfl, _⟩, _, rfl⟩ := hv
    refine ⟨by simp [vals], .inr ⟨A, c, cur, rfl, h0, h1, by simp at h2; omega, h3, h4, ?_⟩⟩
    have := congrArg (List.take (xs.length * 1)) h5
    simpa [vals, List.take_take] using this

theorem opT {w : World} {X bp o : Nat} {q pv fv : Value} {kd id kk be t0 t1 draw : Int} (hX : w.heap[X]? = some (.cells #[.int .i64 kd, .int .i64 id, .int .i64 kk, .int .i64 be, pv, .int .i64 t0, .int .i64 t1, .int .u64 draw, fv] 49 (0, 0))) (p0 : w.cell? ⟨bp, o, none⟩ = some q) :
    w.cell? ⟨bp, o, none⟩ = some q ∧ w.cell? ⟨X, 4, none⟩ = some pv ∧ w.cell? ⟨X, 2, none⟩ = some (.int .i64 kk) ∧ w.cell? ⟨X, 3, none⟩ = some (.int .i64 be) ∧ w.cell? ⟨X, 8, none⟩ = some fv :=
  ⟨p0, by simp [World.cell?, hX], by simp [World.cell?, hX], by simp [World.cell?, hX], by simp [World.cell?, hX]⟩

structure Bes (w1 w : World) (X A1 T A Z n : Nat) (op : Array Value) (allv mv : Value) (F : List (List Cnd)) (ks : List Nat) (ys : List Int) : Prop where
  x : w.heap[X]? = some (.cells op 49 (0, 0))
  t : w.heap[T]? = some (.cells #[allv, mv] 141 (0, 0))
  p : Pts w A1 n ys
  l : LentAt w1 w A mv Z F ks
theorem Bes.keptS {S : Nat → Prop} {w1 w w' : World} {X A1 T A Z n : Nat} {op : Array Value} {allv mv : Value} {F : List (List Cnd)} {ks : List Nat} {ys : List Int} (h : Bes w1 w X A1 T A Z n op allv mv F ks ys) (hk : Kept S w w') (hX : ¬ S X) (hT : ¬ S T) (hA : ¬ S A1) (hS : ∀ k, S k → k < w1.heap.size ∨ (k ≠ A ∧ k ≠ Z ∧ k ∉ ks ∧ mv.ownBlock ≠ some k)) : Bes w1 w' X A1 T A Z n op allv mv F ks ys :=
  ⟨(hk.block _ (heap_lt h.x) hX).trans h.x, (hk.block _ (heap_lt h.t) hT).trans h.t, ownsRow_kept h.p hk (fun g hg e => hA ((show A1 = g by simpa [Value.ownBlock] using hg) ▸ e)), h.l.keptS hk hS⟩
theorem Bes.below {w1 w w' : World} {X A1 T A Z n : Nat} {op : Array Value} {allv mv : Value} {F : List (List Cnd)} {ks : List Nat} {ys : List Int} (h : Bes w1 w X A1 T A Z n op allv mv F ks ys) (hb : Below w.heap.size w w') : Bes w1 w' X A1 T A Z n op allv mv F ks ys :=
  h.keptS (Kept.of_below (fun _ => False) hb) id id id (fun _ e => e.elim)

section
variable {W0 w w' : World} {bp bb bs bm br k : Nat} {gn : Net} {la : Option Addr} {lc : Nat} {nsv nmv : Value} {L M : List Ent}
theorem Apart.look (h : Apart W0 k bp bb bs bm br gn la lc nsv nmv L M) (n : Int) : Apart W0 k bp bb bs bm br { gn with looks := n } la lc nsv nmv L M :=
  ⟨⟨h.old, h.p, h.b, h.s, h.m, h.r, h.ns, h.nm, h.l, h.mb, h.rb, h.f⟩, h.x⟩
theorem Apart.low (h : Apart W0 k bp bb bs bm br gn la lc nsv nmv L M) (n : Int) : Apart W0 k bp bb bs bm br { gn with lows := n } la lc nsv nmv L M :=
  ⟨⟨h.old, h.p, h.b, h.s, h.m, h.r, h.ns, h.nm, h.l, h.mb, h.rb, h.f⟩, h.x⟩
theorem Apart.later {lv0 lv nsv' nmv' : Value} {n a b : Nat} (h : Apart W0 k bp bb bs bm br gn la lc nsv nmv L M) (hs : InS w bp lv0 nsv nmv w' lv n nsv' a nmv' b) (hk : k < w.heap.size) : Apart W0 k bp bb bs bm br gn la lc nsv' nmv' L M :=
  ⟨⟨h.old, h.p, h.b, h.s, h.m, h.r, fun e => (hs.ls k e).elim h.ns (fun e => by omega), fun e => (hs.lm k e).elim h.nm (fun e => by omega), h.l, h.mb, h.rb, h.f⟩, h.x⟩
end
theorem LentAt.weaken {w0 w1 w : World} {A : Nat} {mv : Value} {Z : Nat} {F : List (List Cnd)} {ks : List Nat} (h : LentAt w1 w A mv Z F ks) (hz : w0.heap.size ≤ w1.heap.size) : LentAt w0 w A mv Z F ks :=
  ⟨h.all, h.mine, h.len, h.cls, h.nod, h.z, h.zk, fun k hk => Nat.le_trans hz (h.new k hk), Nat.le_trans hz h.znew, Nat.le_trans hz h.anew, fun g e => Nat.le_trans hz (h.mnew g e)⟩

set_option maxHeartbeats 4000000 in
set_option maxRecDepth 20000 in
theorem searches38 (W0 w : World) (bp bb bs bm br : Nat) (cf : Cf) (gn : Net) (la : Option Addr) (lc : Nat) (nsv nmv : Value) (nn : Nat) (L : List Ent) (kd id kk be t0 t1 draw : Int) (xs : List Int) (pa : Option Addr) (pc : Nat) (fv : Value) (F : List (List Cnd))
    (h : PairAt W0 w bp bb bs bm br cf gn la lc nsv nmv nn L L) (hlk : Lk gn nn) (hv : IntsAt W0 (.slice pa xs.length pc) xs) (hf : FiltAt W0 fv F) (hn : (xs.length + 6) * 8 ≤ 140737488355328) (hnn : (nn + 4) * 24 ≤ 140737488355328) (hfn : (F.length + 1) * 24 ≤ 140737488355328) (hfm : ∀ c ∈ F, (c.length + 1) * 24 ≤ 140737488355328) :
    Calls Tryz.prog 38 #[.pointer (some ⟨bp, 0, none⟩), .agg #[.int .i64 kd, .int .i64 id, .int .i64 kk, .int .i64 be, .slice pa xs.length pc, .int .i64 t0, .int .i64 t1, .int .u64 draw, fv]] w fun ev w' => ev = .returned (.bool true) ∧ StepOk W0 bp bb bs bm br cf nn w' := by
  have hf0 := hf
  obtain ⟨fa, fcap, rfl, _⟩ := hf0
  have hxl : xs.length ≤ 17592186044416 := by omega
  have hfl : F.length ≤ 17592186044416 := by omega
  have hva := (hv.below h.old).below ((Below.refl _ _).alloc (Nat.le_refl _) (.cells #[.int .i64 kd, .int .i64 id, .int .i64 kk, .int .i64 be, .slice pa xs.length pc, .int .i64 t0, .int .i64 t1, .int .u64 draw, .slice fa F.length fcap] 49))
  have hn2 : (xs.length + 2) * 8 ≤ 140737488355328 := Nat.le_trans (Nat.mul_le_mul_right 8 (by omega)) hn
  have hpl := h.book.lt
  have H := hide h
  have HV := hide hv
  have HF := hide hf
  have HVA := hide hva
  have HN := hide hn
  have HN2 := hide hn2
  have HNN := hide hnn
  have HFN := hide hfn
  have HFM := hide hfm
  clear hva hn hn2 hnn hv h hf hfn hfm
  go_enter Tryz.func38, Tryz.ntmps38
  go_wp2_with fail
  refine (copied33_any xs (.slice pa xs.length pc) _ HVA.out HN2.out).mono ?_
  rintro ev w1 ⟨rfl, hp, hb⟩
  have hp1 : Pts w1 (w.heap.size + 1) (xs.length + 2) (xs ++ [77, 78]) := by simpa using hp
  have hX1 : w1.heap[w.heap.size]? = some (.cells #[.int .i64 kd, .int .i64 id, .int .i64 kk, .int .i64 be, .slice pa xs.length pc, .int .i64 t0, .int .i64 t1, .int .u64 draw, .slice fa F.length fcap] 49 (0, 0)) := (hb.block _ (by simp)).trans (heap_alloc_new w _)
  have hbw : Below w.heap.size w w1 := ((Below.refl _ _).alloc (Nat.le_refl _) _).trans (hb.mono (by simp))
  have h1 := H.out.below hbw
  have H1 := hide h1
  have HP1 := hide hp1
  have HX1 := hide hX1
  have HBW := hide hbw
  have hzw : w.heap.size + 1 < w1.heap.size := (hp1.lt (w.heap.size + 1) rfl).2
  obtain ⟨q0, q1, q2, q3, q8⟩ := opT hX1 h1.p0
  clear hp hb hp1 hX1 hbw h1 q0 q2 q3
  go_wp2_with fail
  refine (lend74 (.slice fa F.length fcap) F w1 (HF.out.below H1.out.old) HFN.out HFM.out).mono ?_
  rintro ev w2 ⟨A, mv, Z, ks, rfl, hL2, hb2⟩
  have H2 := hide (H1.out.below hb2)
  have HP2 := hide (ownsRow_below HP1.out hb2)
  have HX2 := hide ((hb2.block _ (heap_lt HX1.out)).trans HX1.out)
  have HL2 := hide hL2
  have HB2 := hide hb2
  obtain ⟨ma, mn, mc, hmv⟩ : ∃ ma mn mc, mv = .slice ma mn mc := by
    rcases hL2.mine.2 with ⟨e, _⟩ | ⟨_, _, _, e, _⟩
    · exact ⟨_, _, _, e⟩
    · exact ⟨_, _, _, e⟩
  subst hmv
  have hz2 := hb2.size
  clear hL2 hb2 q1 q8
  have c80 := H2.out.base.b8
  have p00 := H2.out.p0
  have hbl2 := H2.out.book.lt
  go_wp2_with (go_at_call 31; refine (looks31 bb gn.looks _ (by exact (H2.out.alloc _).base.b8)).mono ?_; rintro ev3 w3 ⟨rfl, rfl⟩)
  have hBes : Bes w1 (w2.alloc (.cells #[.slice (some ⟨A, 0, none⟩) (F.length + 1) (F.length + 1), .slice ma mn mc] 141)) w.heap.size (w.heap.size + 1) w2.heap.size A Z (xs.length + 2) #[.int .i64 kd, .int .i64 id, .int .i64 kk, .int .i64 be, .slice pa xs.length pc, .int .i64 t0, .int .i64 t1, .int .u64 draw, .slice fa F.length fcap] (.slice (some ⟨A, 0, none⟩) (F.length + 1) (F.length + 1)) (.slice ma mn mc) F ks (xs ++ [77, 78]) := by
    have hal : Below w2.heap.size w2 (w2.alloc (.cells #[.slice (some ⟨A, 0, none⟩) (F.length + 1) (F.length + 1), .slice ma mn mc] 141)) := (Below.refl _ _).alloc (Nat.le_refl _) _
    exact ⟨(hal.block _ (heap_lt HX2.out)).trans HX2.out, heap_alloc_new _ _, ownsRow_below HP2.out hal, HL2.out.keptS (Kept.of_below (fun _ => False) hal) (fun _ e => e.elim)⟩
  have H3 := hide (H2.out.alloc (.cells #[.slice (some ⟨A, 0, none⟩) (F.length + 1) (F.length + 1), .slice ma mn mc] 141))
  have hT3 : w.heap.size + 1 < w2.heap.size := by omega
  have BES3 := hide hBes
  clear hBes HX2 HP2 HL2 c80 p00 hbl2
  generalize hwe : w2.alloc (.cells #[.slice (some ⟨A, 0, none⟩) (F.length + 1) (F.length + 1), .slice ma mn mc] 141) = w3 at H3 BES3 ⊢
  have hw3 : w3.heap.size = w2.heap.size + 1 := by rw [← hwe]; simp
  generalize hTT : w2.heap.size = T at BES3 hT3 hw3 ⊢
  have HW3 := hide hw3
  have HTT := hide hTT
  clear hwe hTT
  obtain ⟨s0, s4, s2, s3, s8⟩ := opT BES3.out.x H3.out.p0
  have st0 := cells_at BES3.out.t 0 rfl
  have bz1 : (0 : Int) ≤ (xs.length : Int) := by omega
  have bz2 : (xs.length : Int) ≤ (xs.length : Int) + 2 := by omega
  have bz3 : (0 : Int) ≤ (F.length : Int) := by omega
  have bz4 : (F.length : Int) ≤ (F.length : Int) + 1 := by omega
  have HSE : Hid (Calls Tryz.prog 26 #[.pointer (some ⟨bb, 0, none⟩), .slice (some ⟨w.heap.size + 1, 0, none⟩) xs.length (xs.length + 2), .int .i64 kk, .int .i64 be, .agg #[.slice (some ⟨A, 0, none⟩) F.length (F.length + 1)]] w3.drew fun ev w' => ∃ v l n, ev = .returned (.tuple #[v, .int .i64 (schCode cf.dim xs kk be F)]) ∧ HRow w' v l ∧ (∀ g, v.ownBlock = some g → w3.drew.heap.size ≤ g) ∧
      BaseAt w' bb bs bm cf { gn with looks := gn.looks + n } L ∧ Kept (fun k => k = bb) w3.drew w' ∧ (∃ cs, w'.heap[bb]? = some (.cells cs 102 (0, 0))) ∧ SeOk cf gn L xs F kk be l n) := by
    have hdb : Below w3.heap.size w3 w3.drew := (Below.refl _ _).drew
    refine searchU bb bs bm cf gn L _ xs kk be _ F w3.drew (H3.out.base.below hdb) H3.out.tb H3.out.ts (irow_of_pts (ownsRow_below BES3.out.p hdb)) (ints_of_pts (ownsRow_below BES3.out.p hdb) hxl _ (by omega)) ((BES3.out.l.filt (fun c hc => by have := HFM.out c hc; omega) hfl).below hdb) ⟨hlk.2.1, ?_⟩
    have h1 := hlk.2.2.1
    have h2 := HNN.out
    omega
  have hcpX : ∃ cp, w3.heap[bp]? = some (.cells cp 41 (0, 0)) := H3.out.book.typ
  have HKEEP : Hid (∀ W, Kept (fun k => k = bb) w3.drew W → (W.cell? ⟨bp, 0, none⟩ = some (.pointer (some ⟨bb, 0, none⟩)) ∧ W.cell? ⟨w.heap.size, 4, none⟩ = some (.slice pa xs.length pc) ∧ W.cell? ⟨w.heap.size, 2, none⟩ = some (.int .i64 kk) ∧ W.cell? ⟨w.heap.size, 3, none⟩ = some (.int .i64 be) ∧ W.cell? ⟨w.heap.size, 8, none⟩ = some (.slice fa F.length fcap)) ∧ W.cell? ⟨T, 0, none⟩ = some (.slice (some ⟨A, 0, none⟩) (F.length + 1) (F.length + 1))) := fun W hW => by
    obtain ⟨cb, hcb⟩ := H3.out.tb
    obtain ⟨cp, hcp⟩ := hcpX
    have n1 : bp ≠ bb := ne_of_elem hcp hcb (by decide)
    have n2 : w.heap.size ≠ bb := ne_of_elem BES3.out.x hcb (by decide)
    have n3 : T ≠ bb := ne_of_elem BES3.out.t hcb (by decide)
    exact ⟨⟨hW.cell s0 n1, hW.cell s4 n2, hW.cell s2 n2, hW.cell s3 n2, hW.cell s8 n2⟩, hW.cell st0 n3⟩
  clear hcpX
  go_region_held3 (fun wx => (wx.cell? ⟨bp, 0, none⟩ = some (.pointer (some ⟨bb, 0, none⟩)) ∧ wx.cell? ⟨w.heap.size, 4, none⟩ = some (.slice pa xs.length pc) ∧ wx.cell? ⟨w.heap.size, 2, none⟩ = some (.int .i64 kk) ∧ wx.cell? ⟨w.heap.size, 3, none⟩ = some (.int .i64 be) ∧ wx.cell? ⟨w.heap.size, 8, none⟩ = some (.slice fa F.length fcap)) ∧ wx.cell? ⟨T, 0, none⟩ = some (.slice (some ⟨A, 0, none⟩) (F.length + 1) (F.length + 1)))
    (first | (exact HKEEP.out _ (Kept.refl _ _)) | (with_reducible exact HKEEP.out _ k4d) | (refine HKEEP.out _ ?_; refine Kept.drew ?_; with_reducible exact k4d))
    (first | (go_at_call 26; refine HSE.out.mono ?_; rintro ev4 w4 ⟨v, l, n, rfl, r4, f4, b4, k4d, t4, se⟩))
  have K4 : Hid (Kept (fun k => k = bb) w3 w4) := (Kept.refl _ w3).drew.trans k4d (fun _ _ h => h)
  have H4 := hide (H3.out.looked K4.out b4 t4)
  have hbbl : bb < w1.heap.size := by
    obtain ⟨cb, hcb⟩ := H1.out.tb
    exact heap_lt hcb
  have BES4 : Hid (Bes w1 w4 w.heap.size (w.heap.size + 1) T A Z (xs.length + 2) #[.int .i64 kd, .int .i64 id, .int .i64 kk, .int .i64 be, .slice pa xs.length pc, .int .i64 t0, .int .i64 t1, .int .u64 draw, .slice fa F.length fcap] (.slice (some ⟨A, 0, none⟩) (F.length + 1) (F.length + 1)) (.slice ma mn mc) F ks (xs ++ [77, 78])) := by
    obtain ⟨cb, hcb⟩ := H3.out.tb
    refine BES3.out.keptS K4.out (ne_of_elem BES3.out.x hcb (by decide)) (ne_of_elem BES3.out.t hcb (by decide)) (fun e => ?_) (fun k e => .inl (by rw [e]; exact hbbl))
    obtain ⟨c2, hc2⟩ := BES3.out.p.obj
    exact ne_of_elem hc2 hcb (by decide) e
  have R4 := hide r4
  have F4 : Hid (∀ g, v.ownBlock = some g → w3.heap.size ≤ g) := f4
  have SE := hide se
  have c8 := H4.out.base.b8
  have p0 := H4.out.p0
  clear r4 f4 b4 k4d t4 se hbbl HKEEP HSE s0 s4 s2 s3 s8 st0 bz1 bz2 bz3 bz4
  have hsub : IntKind.i64.wrap (gn.looks + n - gn.looks) = IntKind.i64.wrap n := by congr 1; omega
  go_wp2_with (go_at_call 31; refine (looks31 bb (gn.looks + n) _ c8).mono ?_; rintro ev5 w5 ⟨rfl, rfl⟩)
  clear c8 p0 hsub
  refine (whole34_any xs (.slice pa xs.length pc) (w.heap.size + 1) (xs.length + 2) w4 BES4.out.p ?c1 ?c2).mono ?_
  case c1 => exact HV.out.below H4.out.old
  case c2 => exact fun b off n c e hx => by have := HV.out.lt b off n c e hx; have := H.out.old.size; omega
  rintro ev w5 ⟨rfl, ⟨ys, hyl, hpy⟩, hk5⟩
  have hA1 := (H.out.apart (A := w.heap.size + 1) (by omega)).look (gn.looks + n)
  have hXT : w.heap.size ≠ w.heap.size + 1 ∧ T ≠ w.heap.size + 1 := ⟨by omega, by omega⟩
  have BES5 : Hid (Bes w1 w5 w.heap.size (w.heap.size + 1) T A Z (xs.length + 2) #[.int .i64 kd, .int .i64 id, .int .i64 kk, .int .i64 be, .slice pa xs.length pc, .int .i64 t0, .int .i64 t1, .int .u64 draw, .slice fa F.length fcap] (.slice (some ⟨A, 0, none⟩) (F.length + 1) (F.length + 1)) (.slice ma mn mc) F ks ys) :=
    ⟨(hk5.block _ (heap_lt BES4.out.x) hXT.1).trans BES4.out.x, (hk5.block _ (heap_lt BES4.out.t) hXT.2).trans BES4.out.t, hpy, BES4.out.l.keptS hk5 (fun k e => .inl (by rw [e]; exact hzw))⟩
  have H5 := hide (H4.out.one hA1 hk5)
  have hp5 : w5.ownsRow 0 3 1 (.slice (some ⟨w.heap.size + 1, 0, none⟩) (xs.length + 2) (xs.length + 2)) (xs.length + 2) (ys.map (Value.int .i64)) := hyl ▸ hpy
  have HI := hide (H5.out.book.ins hp5 fun g' hg' e => hA1.nm (by rw [e, ← hg']; rfl))
  have HA1 := hide hA1
  have R5 := hide (ownsRow_kept R4.out hk5 fun g hg e => by have h1 := F4.out g hg; have := HW3.out; omega)
  have hbp6 : (⟨bp, 6, none⟩ : Addr) = ⟨bp, 6, none⟩ := rfl
  have hz5 := hk5.size
  clear hyl hpy hk5 hA1 hXT hp5
  go_wp2_with fail
  refine (ints35_any bp (some ⟨w.heap.size + 1, 0, none⟩) (xs.length + 2) (xs.length + 2) nsv nmv nn w5 HI.out HN.out HNN.out).mono ?_
  rintro ev w6 ⟨rfl, lv', nsv', nmv', hs6⟩
  have H6 := hide (H5.out.ints' HA1.out hs6)
  have aX := H.out.apart (A := w.heap.size) (Nat.le_refl _)
  have aT := H.out.apart (A := T) (by omega)
  have hS6 : ∀ k, (k = bp ∨ (Value.slice (some ⟨w.heap.size + 1, 0, none⟩) (xs.length + 2) (xs.length + 2)).ownBlock = some k ∨ nsv.ownBlock = some k ∨ nmv.ownBlock = some k) → k < w1.heap.size := fun k hk => by
    rcases hk with e | e | e | e
    · rw [e]; exact H1.out.book.lt
    · obtain rfl : w.heap.size + 1 = k := by simpa [Value.ownBlock] using e
      exact hzw
    · obtain ⟨_, hh⟩ := H1.out.book.hs
      exact (hh.lt k e).2
    · obtain ⟨_, hh⟩ := H1.out.book.hm
      exact (hh.lt k e).2
  have nX : ¬ (w.heap.size = bp ∨ (Value.slice (some ⟨w.heap.size + 1, 0, none⟩) (xs.length + 2) (xs.length + 2)).ownBlock = some w.heap.size ∨ nsv.ownBlock = some w.heap.size ∨ nmv.ownBlock = some w.heap.size) := fun hx => by
    rcases hx with e | e | e | e
    · exact aX.p e
    · simp [Value.ownBlock] at e
    · exact aX.ns e
    · exact aX.nm e
  have nT : ¬ (T = bp ∨ (Value.slice (some ⟨w.heap.size + 1, 0, none⟩) (xs.length + 2) (xs.length + 2)).ownBlock = some T ∨ nsv.ownBlock = some T ∨ nmv.ownBlock = some T) := fun hx => by
    have := hS6 T hx
    have := HTT.out
    omega
  have X6 := hide ((hs6.kept.block _ (heap_lt BES5.out.x) nX).trans BES5.out.x)
  have T6 := hide ((hs6.kept.block _ (heap_lt BES5.out.t) nT).trans BES5.out.t)
  have L6 := hide (BES5.out.l.keptS hs6.kept (fun k e => .inl (hS6 k e)))
  have hz13 : w1.heap.size ≤ w3.heap.size := by have := HW3.out; have := HTT.out; omega
  have R6 := hide (ownsRow_kept R5.out hs6.kept fun g hg e => by have h1 := F4.out g hg; have h2 := hS6 g e; omega)
  have HKS : Hid (∀ k ∈ ks, w1.heap.size ≤ k ∧ k < w3.heap.size) := fun k hk => by
    refine ⟨BES3.out.l.new k hk, ?_⟩
    obtain ⟨i, hi, e⟩ := List.mem_iff_getElem.1 hk
    have h2 := heap_lt (BES3.out.l.cls i (by rw [← BES3.out.l.len]; exact hi))
    rw [List.getD_eq_getElem?_getD, List.getElem?_eq_getElem hi] at h2
    simpa [e] using h2
  have hz35 : w3.heap.size ≤ w5.heap.size := by have := K4.out.size; omega
  have HAK : Hid (∀ k, w1.heap.size ≤ k → k < w5.heap.size → Apart W0 k bp bb bs bm br { gn with looks := gn.looks + n } la lc nsv' nmv' L L) := fun k h1 h2 => ((H1.out.apart h1).look _).later hs6 h2
  have HR5 : Hid (∀ g, v.ownBlock = some g → w3.heap.size ≤ g ∧ g < w5.heap.size) := fun g e => ⟨F4.out g e, (R5.out.lt g e).2⟩
  have HZ := hide hz13
  have HZ35 := hide hz35
  have hz6 := hs6.kept.size
  clear hs6 nX nT aX aT hS6 hz13 hz35
  obtain ⟨t60, t61⟩ := And.intro (cells_at T6.out 0 rfl) (cells_at T6.out 1 rfl)
  obtain ⟨q0, q4, q2, q3, q8⟩ := opT X6.out H6.out.p1
  clear q0 q4 q2 q3
  have hzW : W0.heap.size ≤ w1.heap.size := H1.out.old.size
  go_wp2_with fail
  refine (kept75 W0 w6 A (.slice ma mn mc) Z F ks (.slice fa F.length fcap) (L6.out.weaken hzW) H6.out.old HF.out HFM.out HFN.out).mono ?_
  rintro ev w7 ⟨rfl, k7⟩
  have H7 := hide (H6.out.away (fun k hk => HAK.out k (HKS.out k hk).1 (by have h1 := (HKS.out k hk).2; have h2 := HZ35.out; omega)) k7)
  have X7 := hide ((k7.block _ (heap_lt X6.out) (fun hk => by have h1 := (HKS.out _ hk).1; omega)).trans X6.out)
  have R7 := hide (ownsRow_kept R6.out k7 fun g hg hk => by have h1 := (HKS.out _ hk).2; have h2 := (HR5.out g hg).1; omega)
  have hz7 := k7.size
  clear k7 t60 t61 q8 H6 X6 T6 L6 R6 R5 R4 H5 BES5 BES4 BES3 H3 H4 HI HKS
  have hS7 := opT X7.out H7.out.p1
  have HRF : Hid (Calls Tryz.prog 76 #[.pointer (some ⟨br, 0, none⟩), .slice pa xs.length pc, .int .i64 kk, .int .i64 be, .agg #[.slice fa F.length fcap]] w7.drew fun e w' => e = .returned (.int .i64 (schCode cf.dim xs kk be F)) ∧ Below w7.drew.heap.size w7.drew w') := refusedR br cf la lc L _ xs kk be _ F w7.drew (H7.out.ref.below (Below.refl _ _).drew) ((HV.out.below H7.out.old).below (Below.refl _ _).drew) ((HF.out.below H7.out.old).below (Below.refl _ _).drew)
  have HK7 : Hid (∀ W, Below w7.heap.size w7 W → W.cell? ⟨bp, 1, none⟩ = some (.pointer (some ⟨br, 0, none⟩)) ∧ W.cell? ⟨w.heap.size, 4, none⟩ = some (.slice pa xs.length pc) ∧ W.cell? ⟨w.heap.size, 2, none⟩ = some (.int .i64 kk) ∧ W.cell? ⟨w.heap.size, 3, none⟩ = some (.int .i64 be) ∧ W.cell? ⟨w.heap.size, 8, none⟩ = some (.slice fa F.length fcap)) := fun W hW => ⟨cell_below hS7.1 hW, cell_below hS7.2.1 hW, cell_below hS7.2.2.1 hW, cell_below hS7.2.2.2.1 hW, cell_below hS7.2.2.2.2 hW⟩
  clear hS7
  go_wp2
  go_region_held3 (fun wx => wx.cell? ⟨bp, 1, none⟩ = some (.pointer (some ⟨br, 0, none⟩)) ∧ wx.cell? ⟨w.heap.size, 4, none⟩ = some (.slice pa xs.length pc) ∧ wx.cell? ⟨w.heap.size, 2, none⟩ = some (.int .i64 kk) ∧ wx.cell? ⟨w.heap.size, 3, none⟩ = some (.int .i64 be) ∧ wx.cell? ⟨w.heap.size, 8, none⟩ = some (.slice fa F.length fcap))
    ((refine HK7.out _ ?_; repeat (first | with_reducible exact hb8 | exact Below.refl _ _ | refine Below.drew ?_)))
    (first | (go_at_call 76; refine HRF.out.mono ?_; rintro ev8 w8 ⟨rfl, b8d⟩; have hb8 : Below w7.heap.size w7 w8 := Below.undrew b8d))
  have H8 := hide (H7.out.below hb8)
  have X8 := hide ((hb8.block _ (heap_lt X7.out)).trans X7.out)
  have R8 := hide (ownsRow_below R7.out hb8)
  have hz8 := hb8.size
  clear b8d hb8 HK7 HRF H7 X7 R7
  obtain ⟨va, vc, hvv, _⟩ := HRow.slice R8.out
  subst hvv
  obtain ⟨se1, se2⟩ := SE.out
  clear SE
  have HC0 : Hid (schCode cf.dim xs kk be F = schCode cf.dim xs kk be F) := rfl
  generalize hrr : schCode cf.dim xs kk be F = r at se1 se2 ⊢
  have HRR := hide hrr
  clear hrr HC0
  by_cases hr : r = 0
  · subst hr
    obtain ⟨hl, hnl⟩ := se2 rfl
    clear se1 se2
    obtain ⟨hpc, hk1, hk2, hb1, hb2, hfb⟩ := schCode_ok HRR.out
    obtain ⟨hxd, hxc⟩ := ptCode_crd hpc
    have hok : F.all clauseB = true := by
      unfold filtB at hfb
      simp at hfb
      simpa using hfb.2
    have hm3 : cf.metric = 0 ∨ cf.metric = 1 ∨ cf.metric = 2 := by have h1 := H.out.base.cfok.m0; have h2 := H.out.base.cfok.m2; omega
    have hx100 : xs.length ≤ 100 := by have h1 := H.out.base.cfok.d8; omega
    have HNR : Hid (Calls Tryz.prog 78 #[.pointer (some ⟨br, 0, none⟩), .slice pa xs.length pc, .agg #[.slice fa F.length fcap]] w8.drew fun ev w' => ∃ v l, ev = .returned v ∧ NrS w8.drew w' (.slice fa F.length fcap) v l ∧ l.Pairwise hle ∧ l.Perm (hitsL cf.metric xs F L)) := nearestR br cf la lc L _ xs _ F w8.drew (H8.out.ref.below (Below.refl _ _).drew) ((HV.out.below H8.out.old).below (Below.refl _ _).drew) ((HF.out.below H8.out.old).below (Below.refl _ _).drew) hok hm3 hxc (fun e he => by have := H.out.base.len e he; omega) H.out.base.crd hx100
    have HRO : Hid (∀ all : List Hit, all.Pairwise hle → all.Perm (hitsL cf.metric xs F L) → RightL l all kk be) := fun all h1 h2 => by rw [hl]; exact (right_of H.out.base xs F kk be hk1 all h1 h2).1
    have hnb : (l.length : Int) ≤ n ∧ n ≤ (L.length : Int) := by
      obtain ⟨_, _, _, _, _, s6, s7⟩ := srR_spec H.out.base xs F (max kk be) (by omega)
      have h3 := List.length_take_le (min kk ((srR cf gn L xs F (max kk be)).2.length : Int)).toNat (srR cf gn L xs F (max kk be)).2
      have h4 := List.length_take_le' (min kk ((srR cf gn L xs F (max kk be)).2.length : Int)).toNat (srR cf gn L xs F (max kk be)).2
      rw [← hl] at h3 h4
      rw [hnl]
      omega
    have hL60 := H.out.base.few
    have hpg := placesL_ge cf L
    have hkb : (1 ≤ kk ∧ kk ≤ 1000) ∧ (1 ≤ be ∧ be ≤ 1000) := by omega
    have HKB := hide hkb
    have hS8 := opT X8.out H8.out.p1
    have HK8 : Hid (∀ W, Below w8.heap.size w8 W → W.cell? ⟨bp, 1, none⟩ = some (.pointer (some ⟨br, 0, none⟩)) ∧ W.cell? ⟨w.heap.size, 4, none⟩ = some (.slice pa xs.length pc) ∧ W.cell? ⟨w.heap.size, 2, none⟩ = some (.int .i64 kk) ∧ W.cell? ⟨w.heap.size, 3, none⟩ = some (.int .i64 be) ∧ W.cell? ⟨w.heap.size, 8, none⟩ = some (.slice fa F.length fcap)) := fun W hW => ⟨cell_below hS8.1 hW, cell_below hS8.2.1 hW, cell_below hS8.2.2.1 hW, cell_below hS8.2.2.2.1 hW, cell_below hS8.2.2.2.2 hW⟩
    have hwn : wrap64 n = n := by unfold wrap64; omega
    rw [hwn]
    have HWN := hide hwn
    have HNB := hide hnb
    have HPG := hide hpg
    clear hS8 hl hnl hpc hk1 hk2 hb1 hb2 hfb hxd hxc hok hm3 hx100 hnb hpg hkb hwn
    go_wp2
    go_region_held3 (fun wx => wx.cell? ⟨bp, 1, none⟩ = some (.pointer (some ⟨br, 0, none⟩)) ∧ wx.cell? ⟨w.heap.size, 4, none⟩ = some (.slice pa xs.length pc) ∧ wx.cell? ⟨w.heap.size, 2, none⟩ = some (.int .i64 kk) ∧ wx.cell? ⟨w.heap.size, 3, none⟩ = some (.int .i64 be) ∧ wx.cell? ⟨w.heap.size, 8, none⟩ = some (.slice fa F.length fcap))
      ((refine HK8.out _ ?_; repeat (first | with_reducible exact hb9 | exact Below.refl _ _ | refine Below.drew ?_)))
      (first | (go_at_call 78; refine HNR.out.mono ?_; rintro ev9 w9 ⟨v9, l9, rfl, n9, pw9, pm9⟩; have hb9 : Below w8.heap.size w8 w9 := Below.undrew n9.below))
    have H9 := hide (H8.out.below hb9)
    have X9 := hide ((hb9.block _ (heap_lt X8.out)).trans X8.out)
    have R9 := hide (ownsRow_below R8.out hb9)
    have hall : l9.length ≤ 1000 := by
      have h1 := pm9.length_eq
      have h2 := hitsL_len cf.metric xs F L
      omega
    have HRG : Hid (Calls Tryz.prog 79 #[.slice va l.length vc, v9, .int .i64 kk, .int .i64 be] w9 fun ev w' => ev = .returned (.bool true) ∧ Below w9.heap.size w9 w') := rightR _ _ l l9 kk be w9 R9.out n9.row (HRO.out l9 pw9 pm9) HKB.out.1 HKB.out.2 hall
    have z2 := cells_at X9.out 2 rfl
    have z3 := cells_at X9.out 3 rfl
    clear n9 pw9 pm9 hb9 hall HRO HNR HK8 H8 X8 R8
    go_wp2_with fail
    refine HRG.out.mono ?_
    rintro ev10 w10 ⟨rfl, hb10⟩
    have H10 := hide (H9.out.below hb10)
    have R10 := hide (ownsRow_below R9.out hb10)
    clear hb10 z2 z3 H9 X9 R9 HRG
    go_wp2_with fail
    refine (placesR bp br cf la lc L w10 H10.out.p1 H10.out.ref H.out.base.cfok H.out.base.drw).mono ?_
    rintro ev11 w11 ⟨rfl, hb11⟩
    have H11 := hide (H10.out.below hb11)
    have R11 := hide (ownsRow_below R10.out hb11)
    clear hb11 H10 R10
    have p2 := H11.out.p2
    have p3 := H11.out.p3
    have pf := H11.out.book.frozen
    have d1 : decide ((l.length : Int) ≤ n) = true := decide_eq_true HNB.out.1
    have d2 : decide (n ≤ placesL cf L) = true := decide_eq_true (by have h1 := HNB.out.2; have h2 := HPG.out; omega)
    have hwl : IntKind.i64.wrap (gn.lows + n) = gn.lows + n := by
      rw [IntKind.wrap_i64]
      have h1 := hlk.1
      have h2 := And.intro hlk.2.1 hlk.2.2.1
      have h3 := HNB.out
      have h4 := HNN.out
      omega
    have hbp := H11.out.book.lt
    generalize placesL cf L = pl at d2
    go_wp2_with fail
    have H12 := hide (H11.out.low (gn.lows + n))
    have R12 : Hid (HRow ((w11.setCell ⟨bp, 2, none⟩ (.int .i64 (gn.lows + n))).setCell ⟨bp, 3, none⟩ (.int .i64 (gn.lows + n))) (.slice va l.length vc) l) := by
      refine ownsRow_of_block R11.out fun g hg => ?_
      obtain ⟨c1, hc1⟩ := ownsRow_obj R11.out hg
      obtain ⟨cp, hcp⟩ := H11.out.book.typ
      have hne : g ≠ bp := ne_of_elem hc1 hcp (by decide)
      exact (Below.heap_setCell _ _ _ _ hne).trans (Below.heap_setCell _ _ _ _ hne)
    have hl60 : l.length ≤ 1000 := by have h1 := HNB.out; omega
    clear p2 p3 pf d1 d2 hwl hbp H11 R11
    generalize (w11.setCell ⟨bp, 2, none⟩ (.int .i64 (gn.lows + n))).setCell ⟨bp, 3, none⟩ (.int .i64 (gn.lows + n)) = w12 at H12 R12 ⊢
    refine (hits77 bp va l.length vc gn.ex.hsv gn.ex.hmv gn.ex.nh w12 H12.out.book.typ H12.out.book.c6 H12.out.book.c7 H12.out.x.c10 H12.out.x.c11 ⟨_, R12.out⟩ H12.out.x.hs H12.out.x.hm hl60 ?c2).mono ?_
    case c2 =>
      have h1 := H.out.xn.1
      have h2 := HNN.out
      exact Nat.le_trans (Nat.mul_le_mul_right 24 (by omega)) h2
    rintro ev w13 ⟨rfl, X', m, m', lv9, hsv', hmv', hs9⟩
    have h13 := H12.out.hits (fun g hg => (HAK.out g (by have h1 := (HR5.out g hg).1; have h2 := HZ.out; omega) (HR5.out g hg).2).low _) (by have h1 := H.out.xn.1; show gn.ex.nh + 4 ≤ nn + 4; omega) hs9
    have H13 := hide h13
    clear h13 hs9
    go_wp2
    go_ret
    refine ⟨rfl, _, _, _, _, _, _, _, Nat.le_refl _, H13.out, ?_, ?_, ?_, hlk.2.2.2⟩
    · show gn.lows + n = gn.looks + n
      rw [hlk.1]
    · show 0 ≤ gn.looks + n
      have h1 := hlk.2.1
      have h2 := HNB.out.1
      omega
    · show gn.looks + n ≤ 400 * ((nn + 4 : Nat) : Int)
      have h1 := hlk.2.2.1
      have h2 := HNB.out.2
      push_cast
      omega
  · have hr0 : (r == 0) = false := by simpa using hr
    obtain ⟨rfl, rfl⟩ := se1 hr
    clear se1 se2
    have hbp := H8.out.book.lt
    have hw0 : wrap64 0 = 0 := by first | rfl | (simp [wrap64]; done) | (unfold wrap64; omega) | (have := IntKind.wrap_i64 0; simp at this; exact this)
    rw [hw0]
    go_wp2_with fail
    refine (hits77 bp va 0 vc gn.ex.hsv gn.ex.hmv gn.ex.nh w8 H8.out.book.typ H8.out.book.c6 H8.out.book.c7 H8.out.x.c10 H8.out.x.c11 ⟨_, R8.out⟩ H8.out.x.hs H8.out.x.hm (by omega) ?c1).mono ?_
    case c1 =>
      have h1 := H.out.xn.1
      have h2 := HNN.out
      exact Nat.le_trans (Nat.mul_le_mul_right 24 (by omega)) h2
    rintro ev w9 ⟨rfl, X', m, m', lv9, hsv', hmv', hs9⟩
    have h9 := H8.out.hits (fun g hg => HAK.out g (by have h1 := (HR5.out g hg).1; have h2 := HZ.out; omega) (HR5.out g hg).2) (by have h1 := H.out.xn.1; show gn.ex.nh + 4 ≤ nn + 4; omega) hs9
    have H9 := hide h9
    clear h9 hs9
    go_wp2
    go_ret
    exact ⟨rfl, _, _, _, _, _, _, _, Nat.le_refl _, H9.out, hlk.1.trans (Int.add_zero _).symm, by show 0 ≤ gn.looks + 0; have := hlk.2.1; omega, by show gn.looks + 0 ≤ _; have := hlk.2.2.1; push_cast; omega, hlk.2.2.2⟩
end Go.Proofs.YtpkiefjanmfgfaaGreatDoor
namespace Go.Proofs.YtpkiefjanmfgfaaGreatDoor
open Go.RowKit

def pickI (c n : Int) : Int := (if c < 0 then -(c + 1) else c) % n
theorem pickI_in {c n : Int} (hn : 0 < n) : 0 ≤ pickI c n ∧ pickI c n < n := ⟨Int.emod_nonneg _ (by omega), Int.emod_lt_of_pos _ hn⟩
def coordI (c : Int) : Int := pickI c 41 - 20
theorem coordI_crd (c : Int) : Crd (coordI c) := by
  have := pickI_in (c := c) (n := 41) (by omega)
  unfold Crd coordI
  omega
theorem i64_bounds {n : Int} (h : I64 n) : -9223372036854775808 ≤ n ∧ n ≤ 9223372036854775807 := by
  have h1 : IntKind.i64.min = -9223372036854775808 := by decide
  have h2 : IntKind.i64.max = 9223372036854775807 := by decide
  unfold I64 at h
  simp [Lit.wf, h1, h2] at h
  omega

set_option maxHeartbeats 400000 in
theorem pick17 (c n : Int) (hc : I64 c) (hn : 0 < n) (w : World) : Calls Tryz.prog 17 #[.int .i64 c, .int .i64 n] w fun ev w' => ev = .returned (.int .i64 (pickI c n)) ∧ w = w' := by
  have hb := i64_bounds hc
  have hn0 : ¬ n = 0 := by omega
  by_cases h0 : c < 0
  · have hd : decide (c < 0) = true := decide_eq_true h0
    have w1 : IntKind.i64.wrap (c + 1) = c + 1 := by rw [IntKind.wrap_i64]; omega
    have w2 : IntKind.i64.wrap (-(c + 1)) = -(c + 1) := by rw [IntKind.wrap_i64]; omega
    have t1 : (-(c + 1)).tmod n = -(c + 1) % n := Int.tmod_eq_emod_of_nonneg (by omega)
    have HP : Hid (pickI c n = -(c + 1) % n) := by unfold pickI; rw [if_pos h0]; exact rfl
    go_enter Tryz.func17, Tryz.ntmps17
    go_wp2
    go_ret
    exact ⟨by rw [HP.out]; rfl, rfl⟩
  · have hd : decide (c < 0) = false := decide_eq_false h0
    have t1 : c.tmod n = c % n := Int.tmod_eq_emod_of_nonneg (by omega)
    have HP : Hid (pickI c n = c % n) := by unfold pickI; rw [if_neg h0]; exact rfl
    go_enter Tryz.func17, Tryz.ntmps17
    go_wp2
    go_ret
    exact ⟨by rw [HP.out]; rfl, rfl⟩

set_option maxHeartbeats 400000 in
theorem coord20 (c : Int) (hc : I64 c) (w : World) : Calls Tryz.prog 20 #[.int .i64 c] w fun ev w' => ev = .returned (.int .i64 (coordI c)) ∧ w = w' := by
  have hp := pick17 c 41 hc (by omega) w
  have hr := pickI_in (c := c) (n := 41) (by omega)
  have HE : Hid (coordI c = pickI c 41 - 20) := rfl
  generalize pickI c 41 = p at hp hr HE
  have w1 : IntKind.i64.wrap (p - 20) = p - 20 := by rw [IntKind.wrap_i64]; omega
  go_enter Tryz.func20, Tryz.ntmps20
  go_wp2_with (go_at_call 17; refine hp.mono ?_; rintro e2 w2 ⟨rfl, rfl⟩)
  go_ret
  exact ⟨by rw [HE.out]; rfl, rfl⟩

set_option maxHeartbeats 1000000 in
set_option maxRecDepth 20000 in
theorem has27 (v : Value) (l : List Hit) (id : Int) (w : World) (h : HRow w v l) (hl : l.length ≤ 1000) : Calls Tryz.prog 27 #[v, .int .i64 id] w fun ev w' => ev = .returned (.bool (l.any fun x => x.1 == id)) ∧ w = w' := by
  obtain ⟨a, c, rfl, ha⟩ := HRow.slice h
  have H := hide h
  have HA := hide ha
  obtain ⟨r, hr⟩ : ∃ r, r = l.any fun x => x.1 == id := ⟨_, rfl⟩
  have HR := hide hr
  rw [← hr]
  clear h ha hr
  go_enter Tryz.func27, Tryz.ntmps27
  go_wp2
  go_loop [5] (fun i => ∃ k : Nat, i = .int .i64 k ∧ k ≤ l.length ∧ Hid (r = (l.drop k).any fun x => x.1 == id)) (fun i => l.length - (intOf i).toNat)
  case atStart => exact ⟨0, rfl, Nat.zero_le _, HR⟩
  case round =>
    obtain ⟨k, rfl, hk, HK⟩ := hrel
    by_cases hlt : k < l.length
    · obtain ⟨g, rfl⟩ := HA.out (by omega)
      have x0 := HRow.at0 H.out hlt
      have HS : Hid ((l.drop k).any (fun x => x.1 == id) = ((nth l k).1 == id || (l.drop (k + 1)).any fun x => x.1 == id)) := by
        show _ = _
        rw [nth_drop_cons hlt, List.any_cons]
      generalize nth l k = y at x0 HS
      obtain ⟨yi, yd⟩ := y
      simp only at x0
      by_cases e : yi = id
      · subst e
        go_wp2
        go_ret
        exact ⟨by rw [HK.out, HS.out]; simp, rfl⟩
      · have he : (yi == id) = false := by simpa using e
        go_wp2
        refine ⟨⟨k + 1, by go_num, by omega, ?_⟩, by simp [intOf]; omega⟩
        show _ = _
        rw [HK.out, HS.out, he]; rfl
    · obtain rfl : k = l.length := by omega
      go_wp2
      go_ret
      exact ⟨by rw [HK.out]; simp, rfl⟩
end Go.Proofs.YtpkiefjanmfgfaaGreatDoor
namespace Go.Proofs.YtpkiefjanmfgfaaGreatDoor
open Go.RowKit

set_option maxHeartbeats 1000000 in
set_option maxRecDepth 20000 in
theorem same25 (v1 v2 : Value) (l : List Hit) (w : World) (h1 : HRow w v1 l) (h2 : HRow w v2 l) (hl : l.length ≤ 1000) : Calls Tryz.prog 25 #[v1, v2] w fun ev w' => ev = .returned (.bool true) ∧ Below w.heap.size w w' := by
  obtain ⟨a1, c1, rfl, ha1⟩ := HRow.slice h1
  obtain ⟨a2, c2, rfl, ha2⟩ := HRow.slice h2
  have H1 := hide h1
  have H2 := hide h2
  have HA1 := hide ha1
  have HA2 := hide ha2
  clear h1 h2 ha1 ha2
  go_enter Tryz.func25, Tryz.ntmps25
  go_wp2
  go_loopw [5] (fun i wr => ∃ k : Nat, i = .int .i64 k ∧ k ≤ l.length ∧ Hid (∃ n, wr = w.drewN n)) (fun i _ => l.length - (intOf i).toNat)
  case atStart => exact ⟨0, rfl, Nat.zero_le _, 0, rfl⟩
  case round =>
    obtain ⟨k, rfl, hk, hw⟩ := hrel
    obtain ⟨n0, hw0⟩ := id hw.out
    by_cases hlt : k < l.length
    · obtain ⟨g1, rfl⟩ := HA1.out (by omega)
      obtain ⟨g2, rfl⟩ := HA2.out (by omega)
      have x0 : wr.cell? ⟨g1, k * 2, none⟩ = some (.int .i64 (nth l k).1) := by rw [hw0]; exact HRow.at0 (ownsRow_drewN H1.out n0) hlt
      have x1 : wr.cell? ⟨g1, k * 2 + 1, none⟩ = some (.int .i64 (nth l k).2) := by rw [hw0]; exact HRow.at1 (ownsRow_drewN H1.out n0) hlt
      have y0 : wr.cell? ⟨g2, k * 2, none⟩ = some (.int .i64 (nth l k).1) := by rw [hw0]; exact HRow.at0 (ownsRow_drewN H2.out n0) hlt
      have y1 : wr.cell? ⟨g2, k * 2 + 1, none⟩ = some (.int .i64 (nth l k).2) := by rw [hw0]; exact HRow.at1 (ownsRow_drewN H2.out n0) hlt
      have hW : Hid (∀ j, ∃ n, wr.drewN j = w.drewN n) := fun j => ⟨n0 + j, by rw [hw0]; simp⟩
      generalize nth l k = y at x0 x1 y0 y1
      obtain ⟨yi, yd⟩ := y
      simp only at x0 x1 y0 y1
      clear hw0 hw
      go_wp2
      go_quiet (fail)
      go_wp2
      exact ⟨⟨k + 1, by go_num, by omega, hW.out _⟩, by simp [intOf]; omega⟩
    · have HB : Hid (Below w.heap.size w wr) := by rw [hw0]; exact below_drewN (Below.refl _ _) _
      clear hw0
      go_wp2
      go_ret
      exact ⟨rfl, HB.out⟩

def Ordd (l : List Hit) : Prop := ∀ i, 0 < i → i < l.length → hle (nth l (i - 1)) (nth l i) ∧ (nth l (i - 1)).1 ≠ (nth l i).1
theorem ordd_of {l : List Hit} (h1 : l.Pairwise hle) (h2 : (l.map (·.1)).Nodup) : Ordd l := fun i h0 hi => by
  have e1 : nth l (i - 1) = l[i - 1] := by simp [nth, List.getD_eq_getElem?_getD, show i - 1 < l.length by omega]
  have e2 : nth l i = l[i] := by simp [nth, List.getD_eq_getElem?_getD, hi]
  rw [e1, e2]
  refine ⟨(List.pairwise_iff_getElem.1 h1) (i - 1) i (by omega) hi (by omega), ?_⟩
  have := (List.pairwise_iff_getElem.1 h2) (i - 1) i (by simp; omega) (by simpa using hi) (by omega)
  simpa using this

set_option maxHeartbeats 2000000 in
set_option maxRecDepth 20000 in
theorem ordered23 (v : Value) (l : List Hit) (w : World) (h : HRow w v l) (ho : Ordd l) (hl : l.length ≤ 1000) : Calls Tryz.prog 23 #[v] w fun ev w' => ev = .returned (.bool true) ∧ Below w.heap.size w w' := by
  obtain ⟨a, c, rfl, ha⟩ := HRow.slice h
  have H := hide h
  have HA := hide ha
  have HO := hide ho
  clear h ha ho
  go_enter Tryz.func23, Tryz.ntmps23
  go_wp2
  go_loopw [3, 4, 5] (fun i _ _ wr => ∃ k : Nat, i = .int .i64 k ∧ 0 < k ∧ k ≤ max 1 l.length ∧ Hid (Below w.heap.size w wr)) (fun i _ _ _ => l.length - (intOf i).toNat)
  case atStart => exact ⟨1, rfl, by omega, by omega, Below.refl _ _⟩
  case round =>
    obtain ⟨k, rfl, hk0, hk, HB⟩ := hrel
    by_cases hlt : k < l.length
    · obtain ⟨g, rfl⟩ := HA.out (by omega)
      obtain ⟨j, rfl⟩ : ∃ j, k = j + 1 := ⟨k - 1, by omega⟩
      have hR := ownsRow_below H.out HB.out
      have y0 := HRow.at0 hR hlt
      have y1 := HRow.at1 hR hlt
      have x0 := HRow.at0 hR (k := j) (by omega)
      have x1 := HRow.at1 hR (k := j) (by omega)
      have hoj := HO.out (j + 1) (by omega) hlt
      rw [Nat.add_sub_cancel] at hoj
      have hgl := (hR.lt g rfl).2
      clear hR
      generalize nth l j = x at x0 x1 hoj
      generalize nth l (j + 1) = y at y0 y1 hoj
      obtain ⟨xi, xd⟩ := x
      obtain ⟨yi, yd⟩ := y
      unfold hle at hoj
      simp only at x0 x1 y0 y1 hoj
      have HB2 : Hid (∀ o1 o2, Below w.heap.size w ((wr.alloc o1).alloc o2)) := fun o1 o2 => (HB.out.alloc HB.out.size o1).alloc (by have := HB.out.size; simp; omega) o2
      have d1 : decide (yd < xd) = false := decide_eq_false (by omega)
      by_cases e : xd = yd
      · subst e
        have d2 : decide (yi ≤ xi) = false := decide_eq_false (by omega)
        go_wp2
        exact ⟨⟨j + 2, by go_num, by omega, by omega, HB2.out _ _⟩, by simp [intOf]; omega⟩
      · have d2 : (xd == yd) = false := by simpa using e
        go_wp2
        exact ⟨⟨j + 2, by go_num, by omega, by omega, HB2.out _ _⟩, by simp [intOf]; omega⟩
    · go_wp2
      go_ret
      exact ⟨rfl, HB.out⟩
end Go.Proofs.YtpkiefjanmfgfaaGreatDoor
namespace Go.Proofs.YtpkiefjanmfgfaaGreatDoor
open Go.RowKit Go.Maps

structure KB (W0 w : World) (bb bs bm : Nat) (cf : Cf) (gn : Net) (L : List Ent) : Prop where
  base : BaseAt w bb bs bm cf gn L
  tb : ∃ cs, w.heap[bb]? = some (.cells cs 102 (0, 0))
  ts : ∃ cs, w.heap[bs]? = some (.cells cs 155 (0, 0))
  old : Below W0.heap.size W0 w
  lbb : W0.heap.size ≤ bb
  lbm : W0.heap.size ≤ bm
  pf : ∀ k, gn.F k → W0.heap.size ≤ k

section
variable {W0 w w' : World} {bb bs bm : Nat} {cf : Cf} {gn gn' : Net} {L L' : List Ent}
theorem KB.below (h : KB W0 w bb bs bm cf gn L) (hb : Below w.heap.size w w') : KB W0 w' bb bs bm cf gn L := by
  obtain ⟨cb, hcb⟩ := h.tb
  obtain ⟨cs, hcs⟩ := h.ts
  exact ⟨h.base.below hb, ⟨cb, (hb.block _ (heap_lt hcb)).trans hcb⟩, ⟨cs, (hb.block _ (heap_lt hcs)).trans hcs⟩, h.old.trans (hb.mono h.old.size), h.lbb, h.lbm, h.pf⟩
theorem KB.alloc (h : KB W0 w bb bs bm cf gn L) (o : Obj) : KB W0 (w.alloc o) bb bs bm cf gn L := h.below ((Below.refl _ _).alloc (Nat.le_refl _) o)
theorem KB.turned (h : KB W0 w bb bs bm cf gn L) (hk : Kept (fun k => k = bm ∨ gn.F k) w w') (hB : BaseAt w' bb bs bm cf gn' L') (hf : ∀ k, gn'.F k → gn.F k ∨ w.heap.size ≤ k) : KB W0 w' bb bs bm cf gn' L' := by
  obtain ⟨cb, hcb⟩ := h.tb
  obtain ⟨cs, hcs⟩ := h.ts
  have n1 : ¬ (bb = bm ∨ gn.F bb) := fun e => e.elim (h.base.map.mb_ne hcb) (fun e => (h.base.foot _ e).2.2.1 rfl)
  have n2 : ¬ (bs = bm ∨ gn.F bs) := fun e => e.elim (h.base.map.mb_ne hcs) (fun e => (h.base.foot _ e).2.2.2.1 rfl)
  exact ⟨hB, ⟨cb, (hk.block _ (heap_lt hcb) n1).trans hcb⟩, ⟨cs, (hk.block _ (heap_lt hcs) n2).trans hcs⟩, h.old.trans (hk.toBelow h.old.size (fun k e => e.elim (fun e => by rw [e]; exact h.lbm) (h.pf k))), h.lbb, h.lbm, fun k e => (hf k e).elim (h.pf k) (fun e => Nat.le_trans h.old.size e)⟩
theorem KB.looked {n : Int} (h : KB W0 w bb bs bm cf gn L) (hk : Kept (fun k => k = bb) w w') (hB : BaseAt w' bb bs bm cf { gn with looks := n } L) (ht : ∃ cs, w'.heap[bb]? = some (.cells cs 102 (0, 0))) : KB W0 w' bb bs bm cf { gn with looks := n } L := by
  obtain ⟨cb, hcb⟩ := h.tb
  obtain ⟨cs, hcs⟩ := h.ts
  exact ⟨hB, ht, ⟨cs, (hk.block _ (heap_lt hcs) (ne_of_elem hcs hcb (by decide))).trans hcs⟩, h.old.trans (hk.toBelow h.old.size (fun k e => by rw [e]; exact h.lbb)), h.lbb, h.lbm, h.pf⟩
end
end Go.Proofs.YtpkiefjanmfgfaaGreatDoor
namespace Go.Proofs.YtpkiefjanmfgfaaGreatDoor
open Go.RowKit Go.Maps

def tellL (m : Int) (xs : List Int) (F : List (List Cnd)) (L : List Ent) : List Hit := (hitsL m xs F L).mergeSort fun a b => !farB a b
theorem tellL_perm (m : Int) (xs : List Int) (F : List (List Cnd)) (L : List Ent) : (tellL m xs F L).Perm (hitsL m xs F L) := List.mergeSort_perm _ _
theorem nfar_iff (a b : Hit) : (!farB a b) = true ↔ hle a b := by
  rw [Bool.not_eq_true', ← Bool.not_eq_true, farB_iff]
  exact Classical.not_not
theorem tellL_sorted (m : Int) (xs : List Int) (F : List (List Cnd)) (L : List Ent) : (tellL m xs F L).Pairwise hle := by
  have := List.pairwise_mergeSort (le := fun a b : Hit => !farB a b) (fun a b c h1 h2 => (nfar_iff a c).2 (hle_trans ((nfar_iff a b).1 h1) ((nfar_iff b c).1 h2))) (fun a b => by
    rcases hle_total a b with h | h
    · rw [(nfar_iff a b).2 h]; rfl
    · rw [(nfar_iff b a).2 h]; simp) (hitsL m xs F L)
  exact this.imp fun h => (nfar_iff _ _).1 h
theorem hitsL_nodup {m : Int} {xs : List Int} {F : List (List Cnd)} {L : List Ent} (h : Rising L) : ((hitsL m xs F L).map (·.1)).Nodup := by
  unfold hitsL
  rw [List.map_map]
  have h1 : (L.filter fun e => passB F e.t0 e.t1).Pairwise fun a b => a.id < b.id := List.Pairwise.filter _ h
  refine List.pairwise_map.2 (h1.imp fun {a b} hab => ?_)
  show a.id ≠ b.id
  omega
theorem tellL_nodup {m : Int} {xs : List Int} {F : List (List Cnd)} {L : List Ent} (h : Rising L) : ((tellL m xs F L).map (·.1)).Nodup := ((tellL_perm m xs F L).map (·.1)).nodup_iff.2 (hitsL_nodup h)
theorem tellL_len (m : Int) (xs : List Int) (F : List (List Cnd)) (L : List Ent) : (tellL m xs F L).length = (passL F L).length := by
  rw [(tellL_perm m xs F L).length_eq]
  simp [hitsL, passL]
theorem tellL_mem {m : Int} {xs : List Int} {F : List (List Cnd)} {L : List Ent} {x : Hit} : x ∈ tellL m xs F L ↔ ∃ e ∈ L, passB F e.t0 e.t1 = true ∧ x = (e.id, distL m xs e.pt) := by
  rw [(tellL_perm m xs F L).mem_iff]
  unfold hitsL
  constructor
  · intro h
    obtain ⟨e, he, rfl⟩ := List.mem_map.1 h
    exact ⟨e, (List.mem_filter.1 he).1, (List.mem_filter.1 he).2, rfl⟩
  · rintro ⟨e, h1, h2, rfl⟩
    exact List.mem_map.2 ⟨e, List.mem_filter.2 ⟨h1, h2⟩, rfl⟩
theorem sorted_uniq {a b : List Hit} (h1 : a.Pairwise hle) (h2 : b.Pairwise hle) (n1 : a.Nodup) (n2 : b.Nodup) (h : ∀ x, x ∈ a ↔ x ∈ b) : a = b := by
  have s1 := sub_sorted h2 h1 n1 fun x hx => (h x).1 hx
  have s2 := sub_sorted h1 h2 n2 fun x hx => (h x).2 hx
  exact s1.eq_of_length (Nat.le_antisymm s1.length_le s2.length_le)
theorem nodup_of_ids {l : List Hit} (h : (l.map (·.1)).Nodup) : l.Nodup := List.Pairwise.of_map (fun x : Hit => x.1) (fun a b (h : a.1 ≠ b.1) e => h (congrArg _ e)) h
theorem RightL.ordd {l all : List Hit} {k beam : Int} (h : RightL l all k beam) (h1 : all.Pairwise hle) (h2 : (all.map (·.1)).Nodup) : Ordd l :=
  ordd_of (h1.sublist h.sub) (h2.sublist (h.sub.map _))
theorem RightL.all {l all : List Hit} {k beam : Int} (h : RightL l all k beam) (hk : (all.length : Int) ≤ k) : l = all := by
  have h1 := h.len
  have h2 := h.exact (.inl hk)
  rw [h2, List.take_of_length_le (by omega)]

theorem schCode_k {dim : Int} {xs : List Int} {k beam : Int} {F : List (List Cnd)} (h : schCode dim xs k beam F = 0) : 1 ≤ k ∧ k ≤ 60 := by
  unfold schCode at h
  split at h
  · omega
  · split at h
    · rename_i h2
      have := h2.1
      simp only [inB, Bool.and_eq_true, decide_eq_true_eq] at this
      omega
    · omega

theorem two_row {w : World} {A : Nat} {x y : Int} (h : w.heap[A]? = some (.cells #[.int .i64 x, .int .i64 y] 3 (0, 0))) : Pts w A 2 [x, y] := IRow.of_cells h (by simp) (by decide) rfl rfl
theorem two_ints {w : World} {A : Nat} {x y : Int} (h : Pts w A 2 [x, y]) : IntsAt w (.slice (some ⟨A, 0, none⟩) 2 2) [x, y] := ints_of_pts (xs := [x, y]) (ys := []) h (by simp) 2 (by simp)
theorem two_code {x y : Int} (hx : Crd x) (hy : Crd y) : ptCode 2 [x, y] = 0 := by
  unfold Crd at hx hy
  have h1 : coordB x = true := by unfold coordB inB; simp; omega
  have h2 : coordB y = true := by unfold coordB inB; simp; omega
  unfold ptCode
  simp [h1, h2]
theorem filt_none (w : World) : FiltAt w (.slice none 0 0) [] := ⟨none, 0, rfl, Nat.le_refl _, by simp, .inl rfl⟩

section
variable {W0 : World} {bb bs bm : Nat} {cf : Cf} {gn : Net} {L : List Ent}
theorem searchK (pv : Value) (xs : List Int) (k beam : Int) (fv : Value) (F : List (List Cnd)) (w : World) (h : KB W0 w bb bs bm cf gn L) (hr : IRow w pv xs) (hp : IntsAt w pv xs) (hf : FiltAt w fv F) (hlo : 0 ≤ gn.looks ∧ gn.looks ≤ 4000000000000000000) (hc : schCode cf.dim xs k beam F = 0) :
    Calls Tryz.prog 26 #[.pointer (some ⟨bb, 0, none⟩), pv, .int .i64 k, .int .i64 beam, .agg #[fv]] w fun ev w' => ∃ v l n, ev = .returned (.tuple #[v, .int .i64 0]) ∧ HRow w' v l ∧ (∀ g, v.ownBlock = some g → w.heap.size ≤ g) ∧
      KB W0 w' bb bs bm cf { gn with looks := n } L ∧ Kept (fun k => k = bb) w w' ∧ (gn.looks + l.length ≤ n ∧ n ≤ gn.looks + 60) ∧ RightL l (tellL cf.metric xs F L) k beam := by
  refine (searchU bb bs bm cf gn L pv xs k beam fv F w h.base h.tb h.ts hr hp hf hlo).mono ?_
  rintro ev w' ⟨v, l, n, rfl, h1, h2, h3, h4, h5, h6⟩
  obtain ⟨rfl, rfl⟩ := h6.2 hc
  have hk := schCode_k hc
  have hR := right_of h.base xs F k beam hk.1 (tellL cf.metric xs F L) (tellL_sorted _ _ _ _) (tellL_perm _ _ _ _)
  have hf60 := h.base.few
  refine ⟨v, _, _, by rw [hc], h1, h2, h.looked h4 h3 h5, h4, ⟨?_, ?_⟩, hR.1⟩
  · have := hR.2.1
    omega
  · have := hR.2.2
    omega
end
end Go.Proofs.YtpkiefjanmfgfaaGreatDoor
namespace Go.Proofs.YtpkiefjanmfgfaaGreatDoor
open Go.RowKit Go.Maps

section
variable {W0 w w' : World} {bb bs bm : Nat} {cf : Cf} {gn : Net} {L : List Ent}
theorem KB.rowTurned (h : KB W0 w bb bs bm cf gn L) {v : Value} {l : List Hit} (hr : HRow w v l) (ha : ∀ g, v.ownBlock = some g → ¬ gn.F g) (hk : Kept (fun k => k = bm ∨ gn.F k) w w') : HRow w' v l :=
  ownsRow_kept hr hk fun g hg => by
    obtain ⟨c, hc⟩ := ownsRow_obj hr hg
    exact fun e => e.elim (h.base.map.mb_ne hc) (ha g hg)
theorem KB.rowLooked (h : KB W0 w bb bs bm cf gn L) {v : Value} {l : List Hit} (hr : HRow w v l) (hk : Kept (fun k => k = bb) w w') : HRow w' v l :=
  ownsRow_kept hr hk fun g hg => by
    obtain ⟨c, hc⟩ := ownsRow_obj hr hg
    obtain ⟨cb, hcb⟩ := h.tb
    exact ne_of_elem hc hcb (by decide)
theorem KB.fresh (h : KB W0 w bb bs bm cf gn L) {g : Nat} (hg : w.heap.size ≤ g) : ¬ gn.F g := fun e => by
  have := (h.base.foot _ e).1
  omega
theorem putX (id t0 t1 : Int) (draw : Nat) (xs : List Int) (A pc : Nat) (hid : I64 id) (hdr : draw < 18446744073709551616) (h : KB W0 w bb bs bm cf gn L) (hx : ptCode cf.dim xs = 0) (h0 : 0 < xs.length) (h8 : xs.length ≤ 8) (hroom : Room cf.cap id L) (hA : Pts w A pc xs) :
    Calls Tryz.prog 21 #[.pointer (some ⟨bb, 0, none⟩), .int .i64 id, .slice (some ⟨A, 0, none⟩) xs.length pc, .agg #[.int .i64 t0, .int .i64 t1], .int .u64 draw] w fun ev w' => ev = .returned (.int .i64 0) ∧
      ∃ g gc gn', KB W0 w' bb bs bm cf gn' (insE ⟨id, xs, t0, t1, draw, g, gc, 0, 0⟩ L) ∧ Kept (fun k => k = bm ∨ gn.F k) w w' ∧ (∀ k, gn'.F k → gn.F k ∨ w.heap.size ≤ k) ∧ gn'.looks = gn.looks := by
  refine (put13_ok bb bs bm cf gn id t0 t1 draw xs A 0 pc L w hid hdr h.base hx (fun o => ints_of_pts (xs := xs) (ys := []) (by rw [List.append_nil]; exact ownsRow_below hA ((Below.refl _ _).alloc (Nat.le_refl _) o)) (by omega) pc (ownsRow_len hA)) hroom h0 h8 ?_).mono ?_
  · intro i hi
    rw [Nat.zero_add]
    exact Pts.at hA hi
  · rintro ev w' ⟨rfl, g, gc, gn', _, h1, h2, h3, h4⟩
    exact ⟨rfl, g, gc, gn', h.turned h2 (h1 0 0) h3, h2, h3, h4.1.1⟩
theorem putK (id t0 t1 : Int) (draw : Nat) (x y : Int) (A : Nat) (hid : I64 id) (hdr : draw < 18446744073709551616) (h : KB W0 w bb bs bm cf gn L) (hd : cf.dim = 2) (hx : Crd x) (hy : Crd y) (hroom : Room cf.cap id L) (hA : Pts w A 2 [x, y]) :
    Calls Tryz.prog 21 #[.pointer (some ⟨bb, 0, none⟩), .int .i64 id, .slice (some ⟨A, 0, none⟩) 2 2, .agg #[.int .i64 t0, .int .i64 t1], .int .u64 draw] w fun ev w' => ev = .returned (.int .i64 0) ∧
      ∃ g gc gn', KB W0 w' bb bs bm cf gn' (insE ⟨id, [x, y], t0, t1, draw, g, gc, 0, 0⟩ L) ∧ Kept (fun k => k = bm ∨ gn.F k) w w' ∧ (∀ k, gn'.F k → gn.F k ∨ w.heap.size ≤ k) ∧ gn'.looks = gn.looks :=
  putX id t0 t1 draw [x, y] A 2 hid hdr h (by rw [hd]; exact two_code hx hy) (by simp) (by simp) hroom hA
theorem delK (id : Int) (e : Ent) (hid : I64 id) (h : KB W0 w bb bs bm cf gn L) (he : findE id L = some e) :
    Calls Tryz.prog 24 #[.pointer (some ⟨bb, 0, none⟩), .int .i64 id] w fun ev w' => ev = .returned (.int .i64 0) ∧
      ∃ gn', KB W0 w' bb bs bm cf gn' (delE id L) ∧ Kept (fun k => k = bm ∨ gn.F k) w w' ∧ (∀ k, gn'.F k → gn.F k ∨ w.heap.size ≤ k) ∧ gn'.looks = gn.looks := by
  refine (delete16_yes bb bs bm cf gn id L e w hid h.base he).mono ?_
  rintro ev w' ⟨rfl, gn', h1, h2, h3, h4⟩
  exact ⟨rfl, gn', h.turned h2 h1 h3, h2, h3, h4.1⟩
end

def keepCf (links metric beam : Int) : Cf := ⟨2, 60, 2 + pickI links 7, pickI metric 3, 1 + pickI beam 100, 5⟩
theorem cfgB_keep (links metric beam : Int) : cfgB 2 60 (2 + pickI links 7) (pickI metric 3) (1 + pickI beam 100) 5 = true := by
  have h1 := pickI_in (c := links) (n := 7) (by omega)
  have h2 := pickI_in (c := metric) (n := 3) (by omega)
  have h3 := pickI_in (c := beam) (n := 100) (by omega)
  simp only [cfgB, inB, Bool.and_eq_true, decide_eq_true_eq]
  omega
theorem i64_m1 : I64 (-1) := by unfold I64; decide
theorem find_m1 (g gc : Nat) : findE (-1) (insE ⟨-1, [1, 2], 0, 0, ((0 : Nat) : Int), g, gc, 0, 0⟩ []) = some ⟨-1, [1, 2], 0, 0, ((0 : Nat) : Int), g, gc, 0, 0⟩ := by simp [insE, findE]
theorem del_m1 (g gc : Nat) : delE (-1) (insE ⟨-1, [1, 2], 0, 0, ((0 : Nat) : Int), g, gc, 0, 0⟩ []) = [] := by simp [insE, delE]
theorem tell_m1 (m : Int) (g gc : Nat) : ∃ d, tellL m [1, 2] [] (insE ⟨-1, [1, 2], 0, 0, ((0 : Nat) : Int), g, gc, 0, 0⟩ []) = [(-1, d)] := by
  have h := tellL_perm m [1, 2] [] (insE ⟨-1, [1, 2], 0, 0, ((0 : Nat) : Int), g, gc, 0, 0⟩ [])
  refine ⟨distL m [1, 2] [1, 2], List.perm_singleton.1 (h.trans ?_)⟩
  simp [hitsL, insE, passB]

set_option maxHeartbeats 2000000 in
set_option maxRecDepth 20000 in
theorem base28 (links metric beam : Int) (h1 : I64 links) (h2 : I64 metric) (h3 : I64 beam) (w : World) (hg : Handle w) :
    Calls Tryz.prog 28 #[.int .i64 links, .int .i64 metric, .int .i64 beam] w fun ev w' => ∃ bb bs bm gn, ev = .returned (.pointer (some ⟨bb, 0, none⟩)) ∧ KB w w' bb bs bm (keepCf links metric beam) gn [] ∧ 0 ≤ gn.looks ∧ gn.looks ≤ 60 := by
  have p1 := pick17 links 7 h1 (by omega) w
  have p2 := pick17 metric 3 h2 (by omega) w
  have p3 := pick17 beam 100 h3 (by omega) w
  have hcf := cfgB_keep links metric beam
  have i1 := pickI_in (c := links) (n := 7) (by omega)
  have i3 := pickI_in (c := beam) (n := 100) (by omega)
  unfold keepCf
  generalize pickI links 7 = a at *
  generalize pickI metric 3 = m at *
  generalize pickI beam 100 = c at *
  obtain ⟨a2, ha2⟩ : ∃ a2, a2 = 2 + a := ⟨_, rfl⟩
  obtain ⟨c2, hc2⟩ : ∃ c2, c2 = 1 + c := ⟨_, rfl⟩
  have e1 : IntKind.i64.wrap (2 + a) = a2 := by rw [IntKind.wrap_i64]; omega
  have e3 : IntKind.i64.wrap (1 + c) = c2 := by rw [IntKind.wrap_i64]; omega
  rw [← ha2, ← hc2] at hcf
  rw [← ha2, ← hc2]
  clear i1 i3 ha2 hc2
  have hg1 : Hid (∀ o, Handle (w.alloc o)) := fun o => hg.below ((Below.refl _ _).alloc (Nat.le_refl _) o)
  have HP1 := hide p1
  have HP2 := hide p2
  have HP3 := hide p3
  clear p1 p2 p3
  go_enter Tryz.func28, Tryz.ntmps28
  go_wp2_with fail
  refine HP1.out.mono ?_
  rintro ev' w' ⟨rfl, rfl⟩
  go_wp2_with fail
  refine HP2.out.mono ?_
  rintro ev' w' ⟨rfl, rfl⟩
  go_wp2_with fail
  refine HP3.out.mono ?_
  rintro ev' w' ⟨rfl, rfl⟩
  go_wp2_with fail
  refine (new12_ok 2 60 a2 m c2 5 _ (hg1.out _) hcf).mono ?_
  rintro ev w2 ⟨bb, bs, bm, gn, cs, ct, rfl, hB, hts, htb, hb2, hzb, _, hzm, hgF, hlk, _⟩
  have hwb : Below w.heap.size w w2 := ((Below.refl _ _).alloc (Nat.le_refl _) _).trans (hb2.mono (by simp))
  have hK2 : KB w w2 bb bs bm ⟨2, 60, a2, m, c2, 5⟩ gn [] := ⟨hB, ⟨_, htb⟩, ⟨_, hts⟩, hwb, by simp at hzb; omega, by simp at hzm; omega, fun k hk => by have := hgF k hk; simp at this; omega⟩
  have HK2 := hide hK2
  have hz2 := hwb.size
  clear hB hts htb hb2 hzb hzm hgF hwb hK2
  go_wp2_with fail
  obtain ⟨w3, hw3⟩ : ∃ w3, w3 = w2.alloc (.cells #[.int .i64 1, .int .i64 2] 3) := ⟨_, rfl⟩
  have hA : Pts w3 w2.heap.size 2 [1, 2] := two_row (by rw [hw3]; exact heap_alloc_new _ _)
  have hK3 : KB w w3 bb bs bm ⟨2, 60, a2, m, c2, 5⟩ gn [] := hw3 ▸ HK2.out.alloc _
  rw [← hw3]
  clear hw3
  refine (putK (-1) 0 0 0 1 2 w2.heap.size i64_m1 (by decide) hK3 rfl (by unfold Crd; omega) (by unfold Crd; omega) (.inr (by show ¬ (60 : Int) ≤ 0; omega)) hA).mono ?_
  rintro ev w4 ⟨rfl, g, gc, gn4, hK4, _, _, hl4⟩
  have HK4 := hide hK4
  clear hK4 hK3 hA
  go_wp2_with fail
  obtain ⟨w5, hw5⟩ : ∃ w5, w5 = w4.alloc (.cells #[.int .i64 1, .int .i64 2] 3) := ⟨_, rfl⟩
  have hA5 : Pts w5 w4.heap.size 2 [1, 2] := two_row (by rw [hw5]; exact heap_alloc_new _ _)
  have hK5 := HK4.out.alloc (.cells #[.int .i64 1, .int .i64 2] 3)
  rw [← hw5] at hK5 ⊢
  clear hw5
  refine (searchK (.slice (some ⟨w4.heap.size, 0, none⟩) 2 2) [1, 2] 1 1 (.slice none 0 0) [] w5 hK5 hA5 (two_ints hA5) (filt_none _) (by omega) (show schCode 2 [1, 2] 1 1 [] = 0 by decide)).mono ?_
  rintro ev w6 ⟨v, l, n, rfl, hr6, hv6, hK6, _, hn6, hR⟩
  obtain ⟨d, hd⟩ := tell_m1 m g gc
  have hl : l = [(-1, d)] := by
    have hR2 : RightL l [(-1, d)] 1 1 := hd ▸ hR
    exact hR2.all (by simp)
  subst hl
  have haw : Hid (∀ g, v.ownBlock = some g → ¬ gn4.F g) := fun g' hg' => hK5.fresh (hv6 g' hg')
  have HR6 := hide hr6
  have HK6 := hide hK6
  have hn1 := hn6.1
  have hn2 := hn6.2
  simp only [List.length_singleton] at hn1
  clear hr6 hK6 hR hK5 hA5 hv6 hn6
  go_wp2_with fail
  refine (delK (-1) _ i64_m1 HK6.out (find_m1 g gc)).mono ?_
  rintro ev w7 ⟨rfl, gn7, hK7, hk7, _, hl7⟩
  rw [del_m1] at hK7
  have hr7 := HK6.out.rowTurned HR6.out haw.out hk7
  obtain ⟨va, vc, rfl, hva⟩ := HRow.slice hr7
  obtain ⟨vg, rfl⟩ := hva (by simp)
  have x0 : w7.cell? ⟨vg, 0, none⟩ = some (.int .i64 (-1)) := HRow.at0 hr7 (k := 0) (by simp)
  have HK7 := hide hK7
  clear hK7 hr7 hk7 hva
  go_wp2
  go_ret
  refine ⟨bb, bs, bm, gn7, rfl, HK7.out, ?_⟩
  rw [hl7]
  show 0 ≤ n ∧ n ≤ 60
  omega
end Go.Proofs.YtpkiefjanmfgfaaGreatDoor
