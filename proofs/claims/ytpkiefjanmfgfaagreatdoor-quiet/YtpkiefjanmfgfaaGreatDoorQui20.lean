import Derived.Deep.RegionWith
import Derived.Test.YtpkiefjanmfgfaaGreatDoorQui12
import Derived.Test.YtpkiefjanmfgfaaGreatDoorQui13
import Derived.Test.YtpkiefjanmfgfaaGreatDoorQui15
import Derived.Test.YtpkiefjanmfgfaaGreatDoorQui16
import Derived.Test.YtpkiefjanmfgfaaGreatDoorQui17
import Derived.Test.YtpkiefjanmfgfaaGreatDoorQui18
import Derived.Test.YtpkiefjanmfgfaaGreatDoorQui19
namespace Go.Proofs.YtpkiefjanmfgfaaGreatDoor
open Go.RowKit Go.Maps

theorem ints_of_irow {w : World} {v : Value} {xs : List Int} (h : IRow w v xs) (hl : xs.length ≤ 1000) : IntsAt w v xs := by
  rcases h.2 with ⟨rfl, hz⟩ | ⟨g, cap, cur, rfl, _, hg, hn, hcm, hcs, htk⟩
  · obtain rfl := List.eq_nil_of_length_eq_zero hz
    exact ⟨none, 0, rfl, Nat.le_refl _, by simp, .inl rfl⟩
  · refine ⟨_, cap, rfl, hn, by omega, .inr ⟨g, 0, rfl, fun i hi => ?_⟩⟩
    rw [Nat.zero_add]
    exact ownsRow_cell (n := xs.length) (cap := cap) h (by simp [vals, List.getD_eq_getElem?_getD, hi])
theorem schCode_ok {dim : Int} {xs : List Int} {k beam : Int} {F : List (List Cnd)} (h : schCode dim xs k beam F = 0) : ptCode dim xs = 0 ∧ 1 ≤ k ∧ k ≤ 60 ∧ 1 ≤ beam ∧ beam ≤ 100 ∧ filtB F = true := by
  unfold schCode at h
  split at h
  · exact absurd h (by assumption)
  · rename_i h1
    split at h
    · rename_i h2
      have hf : filtB F = true := by
        cases hb : filtB F with
        | true => rfl
        | false => rw [hb] at h; cases h
      unfold inB at h2
      simp at h2 h1
      exact ⟨h1, h2.1.1, h2.1.2, h2.2.1, h2.2.2, hf⟩
    · cases h

theorem BaseAt.look {w : World} {bb bs bm : Nat} {cf : Cf} {gn : Net} {L : List Ent} {cb cs : Array Value} (h : BaseAt w bb bs bm cf gn L) (hcb : w.heap[bb]? = some (.cells cb 102 (0, 0))) (hcs : w.heap[bs]? = some (.cells cs 155 (0, 0))) (n : Int) : BaseAt (w.setCell ⟨bb, 8, none⟩ (.int .i64 n)) bb bs bm cf { gn with looks := n } L := by
  have hk : Kept (fun k => k = bb) w (w.setCell ⟨bb, 8, none⟩ (.int .i64 n)) := (Kept.refl (fun k => k = bb) w).setCell (p := ⟨bb, 8, none⟩) (fun _ => rfl) _
  have far : ∀ {o : Nat} {v : Value}, o ≠ 8 → w.cell? ⟨bb, o, none⟩ = some v → (w.setCell ⟨bb, 8, none⟩ (.int .i64 n)).cell? ⟨bb, o, none⟩ = some v := fun {o v} ho hc => (World.cell?_setCell_other _ _ _ _ (by simp <;> omega)).trans hc
  have nbs : bs ≠ bb := ne_of_elem hcs hcb (by decide)
  have nbm : bm ≠ bb := fun e => h.map.mb_ne hcb e.symm
  have n0 : 0 ≠ bb := fun e => by
    have h1 : w.cell? ⟨0, 0, none⟩ = _ := h.hdl
    have h2 := h.b0
    rw [← e, h1] at h2
    cases h2
  have npt : ∀ e ∈ L, e.mb ≠ bb := fun e he => by
    obtain ⟨cu, hcu⟩ := (h.map.pts e he).obj
    exact ne_of_elem hcu hcb (by decide)
  exact ⟨far (by omega) h.b0, far (by omega) h.b2, far (by omega) h.b3, far (by omega) h.b4, far (by omega) h.b5, far (by omega) h.b6, far (by omega) h.b7, World.cell?_setCell_same _ _ _ h.b8, hk.cell h.s0 nbs, hk.cell h.s1 nbs, h.map.keptS hk nbm npt, h.hdl.kept hk n0, h.g.kept hk (fun k hf => (h.foot k hf).2.2.1), h.ok, h.lv, h.few, h.ints, h.len, h.crd, h.drw, fun k hf => ⟨Nat.lt_of_lt_of_le (h.foot k hf).1 hk.size, (h.foot k hf).2⟩, h.cfok⟩

set_option maxHeartbeats 4000000 in
set_option maxRecDepth 20000 in
theorem search25_ok (bb bs bm : Nat) (cf : Cf) (gn : Net) (L : List Ent) (pv : Value) (xs : List Int) (k beam : Int) (fv : Value) (F : List (List Cnd)) (w : World) (h : BaseAt w bb bs bm cf gn L) (htb : ∃ cs, w.heap[bb]? = some (.cells cs 102 (0, 0))) (hts : ∃ cs, w.heap[bs]? = some (.cells cs 155 (0, 0))) (hr : IRow w pv xs) (hf : FiltAt w fv F) (hc : schCode cf.dim xs k beam F = 0) (hlo : 0 ≤ gn.looks ∧ gn.looks ≤ 4000000000000000000) :
    Calls Tryz.prog 26 #[.pointer (some ⟨bb, 0, none⟩), pv, .int .i64 k, .int .i64 beam, .agg #[fv]] w fun ev w' => ∃ v', ev = .returned (.tuple #[v', .int .i64 0]) ∧ HRow w' v' ((srR cf gn L xs F (max k beam)).2.take (min k ((srR cf gn L xs F (max k beam)).2.length : Int)).toNat) ∧ (∀ g, v'.ownBlock = some g → w.heap.size ≤ g) ∧
      BaseAt w' bb bs bm cf { gn with looks := gn.looks + (srR cf gn L xs F (max k beam)).1.length } L ∧ Kept (fun k => k = bb) w w' ∧ (∃ cs, w'.heap[bb]? = some (.cells cs 102 (0, 0))) ∧ KnOk (gn.lev.map (·.1)) (qd cf.metric xs L) (srR cf gn L xs F (max k beam)).1 ∧ (∀ x ∈ (srR cf gn L xs F (max k beam)).2, x.1 ∈ gn.lev.map (·.1) ∧ x.2 = qd cf.metric xs L x.1) := by
  obtain ⟨hpc, hk1, hk2, hb1, hb2, hfb⟩ := schCode_ok hc
  obtain ⟨hxl, hxc⟩ := ptCode_crd hpc
  have hd8 := h.cfok.d8
  have hok : F.all clauseB = true := by
    unfold filtB at hfb
    simp at hfb
    simpa using hfb.2
  have hsc := fun W (hW : Below w.heap.size w W) => search47 cf.dim pv xs k beam fv F W ((ints_of_irow hr (by omega)).belowI hW) (hf.below hW)
  rw [hc] at hsc
  obtain ⟨pa, pc, rfl, _⟩ := IRow_slice hr
  have hf2 := hf
  obtain ⟨fa, fc, rfl, _⟩ := hf2
  obtain ⟨x0, x1, x2, xz, hB⟩ := srch_boxes w (.pointer (some ⟨bb, 0, none⟩)) (.slice pa xs.length pc) (.slice fa F.length fc)
  have HB := hide hB
  have HX0 := hide x0
  have HX1 := hide x1
  have HX2 := hide x2
  have H := hide h
  have HR := hide hr
  have HF := hide hf
  have HOK := hide hok
  have HXC := hide hxc
  have HXL := hide hxl
  have HLO := hide hlo
  have HTB := hide htb
  have HTS := hide hts
  have HSC := hide hsc
  clear hsc hB h x0 x1 x2 xz hr hf hok hxc hxl hpc hfb hlo hc htb hts
  go_enter Tryz.func26, Tryz.ntmps26
  go_wp2
  generalize hwe : ((w.alloc (.cells #[.pointer (some ⟨bb, 0, none⟩)] 38)).alloc (.cells #[.slice pa xs.length pc] 32)).alloc (.cells #[.slice fa F.length fc] 47) = w1 at HB HX0 HX1 HX2 ⊢
  clear hwe
  have q0 := cells_at HX0.out 0 rfl
  have q1 := cells_at HX1.out 0 rfl
  have q2 := cells_at HX2.out 0 rfl
  have q3 := cell_below H.out.b0 HB.out
  have HSB : Hid (∀ W, Below w1.heap.size w1 W → W.cell? ⟨w.heap.size, 0, none⟩ = some (.pointer (some ⟨bb, 0, none⟩)) ∧ W.cell? ⟨w.heap.size + 1, 0, none⟩ = some (.slice pa xs.length pc) ∧ W.cell? ⟨w.heap.size + 1 + 1, 0, none⟩ = some (.slice fa F.length fc) ∧ W.cell? ⟨bb, 0, none⟩ = some (.int .i64 cf.dim)) := fun W hW => ⟨cell_below q0 hW, cell_below q1 hW, cell_below q2 hW, cell_below q3 hW⟩
  clear q0 q1 q2 q3
  go_region_held3 (fun wx => wx.cell? ⟨w.heap.size, 0, none⟩ = some (.pointer (some ⟨bb, 0, none⟩)) ∧ wx.cell? ⟨w.heap.size + 1, 0, none⟩ = some (.slice pa xs.length pc) ∧ wx.cell? ⟨w.heap.size + 1 + 1, 0, none⟩ = some (.slice fa F.length fc) ∧ wx.cell? ⟨bb, 0, none⟩ = some (.int .i64 cf.dim))
    ((refine HSB.out _ ?_; repeat (first | with_reducible exact hb2 | exact Below.refl _ _ | refine Below.drew ?_)))
    (first | (go_at_call 50; refine (HSC.out w1.drew HB.out.drew).mono ?_; rintro e2 w2 ⟨⟨u, rfl, hu⟩, b2⟩; have hb2 : Below w1.heap.size w1 w2 := Below.undrew b2; have hun : u = .nilIface := (by rcases hu with ⟨_, h⟩ | ⟨h, _⟩; (exact h); (exact absurd rfl h)); subst hun))
  have hB2 := HB.out.trans (hb2.mono HB.out.size)
  have hx0 := (hb2.block _ (heap_lt HX0.out)).trans HX0.out
  have hx1 := (hb2.block _ (heap_lt HX1.out)).trans HX1.out
  have hx2 := (hb2.block _ (heap_lt HX2.out)).trans HX2.out
  have hz2 : w.heap.size + 1 + 1 < w2.heap.size := heap_lt hx2
  have hnew := new48 gn.bg 52 #[.pointer (some ⟨w.heap.size, 0, none⟩), .pointer (some ⟨w.heap.size + 1, 0, none⟩)] w2
  have d0 := cells_at hx0 0 rfl
  have d7 := cell_below H.out.b7 hB2
  have HNEW := hide hnew
  have HB2 := hide hB2
  have HX0 := hide hx0
  have HX1 := hide hx1
  have HX2 := hide hx2
  clear hnew hB2 hx0 hx1 hx2 hb2 b2 hu HSB HSC
  go_wp2_with fail
  refine HNEW.out.mono ?_
  rintro e3 w3 ⟨rfl, hw3, hb3⟩
  have hB3 := HB2.out.trans (hb3.mono HB2.out.size)
  have hx0 := (hb3.block _ (heap_lt HX0.out)).trans HX0.out
  have hx1 := (hb3.block _ (heap_lt HX1.out)).trans HX1.out
  have hx2 := (hb3.block _ (heap_lt HX2.out)).trans HX2.out
  have hs3 := hb3.size
  have hlt3 := heap_lt hw3.blk
  have hI : ∀ x ∈ gn.lev.map (·.1), I64 x := fun x hx => by
    obtain ⟨e, he⟩ := Option.isSome_iff_exists.1 (H.out.ids.1 hx)
    rw [← (findE_mem he).2]
    exact H.out.ints e (findE_mem he).1
  have hinn := H.out.ok.ok.lg.inn H.out.ok.ok.lev5
  have hidl := H.out.idsLen
  have hchl := H.out.chLen
  have hBW : ∀ W, Kept (fun k => k = w2.heap.size ∨ w3.heap.size ≤ k) w3 W → Below w.heap.size w W := fun W hW => hB3.trans (hW.toBelow hB3.size (fun k e => by have := hB3.size; omega))
  have hE3 : WayEnv w3 gn.bg 52 #[.pointer (some ⟨w.heap.size, 0, none⟩), .pointer (some ⟨w.heap.size + 1, 0, none⟩)] w2.heap.size (gn.lev.map (·.1)) (qd cf.metric xs L) gn.F gn.lev gn.lk gn.ch := by
    refine ⟨(H.out.below hB3).g, fun q hq => ⟨by have := (H.out.foot q hq).1; omega, by have := (H.out.foot q hq).1; omega⟩, hI, by simp; omega, H.out.ok.ok.nb, fun p => Nat.le_trans (hinn.len p) (by simp; omega), by omega, enter52, fun o ho W hW => ?_⟩
    have hW' := hBW W hW
    exact search49 w.heap.size (w.heap.size + 1) bb bs bm cf.metric cf.dim.toNat _ xs o L W (H.out.below hW').pts (hW.cell (cells_at hx0 0 rfl) (by omega)) (hW.cell (cells_at hx1 0 rfl) (by omega)) (ownsRow_below HR.out hW') (by have := HXL.out; omega) HXC.out (by omega) (hI o ho) (H.out.ids.1 ho)
  have hwant : ∀ o ∈ gn.lev.map (·.1), ∀ W, Kept (fun k => k = w2.heap.size ∨ w3.heap.size ≤ k) w3 W → Calls Tryz.prog 54 (#[.int .i64 o] ++ #[.pointer (some ⟨w.heap.size + 1 + 1, 0, none⟩), .pointer (some ⟨w.heap.size, 0, none⟩)]) W fun e W' => e = .returned (.bool (qw F L o)) ∧ Below W.heap.size W W' := fun o ho W hW => by
    have hW' := hBW W hW
    exact search51 w.heap.size (w.heap.size + 1 + 1) bb bs bm _ F o L W (H.out.below hW').b6 (H.out.below hW').s1 (H.out.below hW').map (hW.cell (cells_at hx0 0 rfl) (by omega)) (hW.cell (cells_at hx2 0 rfl) (by omega)) (HF.out.below hW') HOK.out (hI o ho) (H.out.ids.1 ho)
  have hlev : ∀ p ∈ gn.lev, 0 ≤ p.2 ∧ p.2 ≤ 10 ∧ p.1 ∈ gn.lev.map (·.1) := fun p hp => ⟨(H.out.ok.ok.lev5 p hp).1, by have := (H.out.ok.ok.lev5 p hp).2; omega, List.mem_map.2 ⟨p, hp, rfl⟩⟩
  have hdn := down55 (w2.heap.size + 1) gn.bg 52 #[.pointer (some ⟨w.heap.size, 0, none⟩), .pointer (some ⟨w.heap.size + 1, 0, none⟩)] w2.heap.size [] 0 (gn.lev.map (·.1)) (qd cf.metric xs L) gn.F gn.lev gn.lk gn.ch w3 hw3 hE3 ⟨by omega, by omega⟩ ⟨List.nodup_nil, fun _ hp => absurd hp List.not_mem_nil, fun _ hp => absurd hp List.not_mem_nil⟩ hlev
  have HSR : Hid (srR cf gn L xs F (max k beam) = alongR (qd cf.metric xs L) (qw F L) (max k beam) (fun i => reachedL gn.lk gn.ch i 0) (gn.lev.map (·.1)).length (downR (qd cf.metric xs L) gn.lev gn.lk gn.ch (gn.lev.map (·.1)).length [] 0).1 (downR (qd cf.metric xs L) gn.lev gn.lk gn.ch (gn.lev.map (·.1)).length [] 0).2) := rfl
  generalize downR (qd cf.metric xs L) gn.lev gn.lk gn.ch (gn.lev.map (·.1)).length [] 0 = p0 at hdn HSR
  generalize hsr : srR cf gn L xs F (max k beam) = sr at HSR
  have HSRE := hide hsr
  have HDN := hide hdn
  have HE3 := hide hE3
  have HWT := hide hwant
  have HBWW := hide hBW
  have HX0 := hide hx0
  have HX1 := hide hx1
  have HX2 := hide hx2
  have HB3 := hide hB3
  clear hdn hE3 hwant hBW hx0 hx1 hx2 hB3 hb3 hw3 hsr hI hinn hidl hchl hlev d0 d7 HNEW
  go_wp2_with fail
  refine HDN.out.mono ?_
  rintro e4 w4 ⟨v4, rfl, r4, f4, a4, k4, x4, l4, kk4⟩
  have hk34 : Kept (fun k => k = w2.heap.size ∨ w3.heap.size ≤ k) w3 w4 := kk4.mono (fun q _ e => .inl e)
  have hal := along54' (w2.heap.size + 1) gn.bg 52 _ w2.heap.size p0.1 0 v4 p0.2 (max k beam) 54 #[.pointer (some ⟨w.heap.size + 1 + 1, 0, none⟩), .pointer (some ⟨w.heap.size, 0, none⟩)] (gn.lev.map (·.1)) (qd cf.metric xs L) (qw F L) gn.F gn.lev gn.lk gn.ch w4 a4 (HE3.out.later2 hk34) r4 l4 (fun x hx => (x4 x hx).1) (I64_of 0 (by omega) (by omega)) k4 (by omega) enter54
    (fun o ho W hW => HWT.out o ho W (hk34.trans hW (fun q hq e => e.imp (fun e => e) (fun e => by have := hk34.size; omega))))
  rw [← HSR.out] at hal
  have hz4 := kk4.size
  obtain ⟨va4, vc4, rfl, _⟩ := HRow_slice r4
  have HAL := hide hal
  have HK34 := hide hk34
  clear hal hk34 r4 f4 a4 k4 x4 l4 kk4 HDN
  go_wp2_with fail
  refine HAL.out.mono ?_
  rintro e5 w5 ⟨v5, rfl, r5, f5, a5, k5, x5, l5, kk5⟩
  have hk35 : Kept (fun k => k = w2.heap.size ∨ w3.heap.size ≤ k) w3 w5 := HK34.out.trans kk5 (fun q _ e => .inl e)
  have hB5 := HBWW.out w5 hk35
  have hz5 := hk35.size
  have hlk := looks56 (w2.heap.size + 1) gn.bg 52 #[.pointer (some ⟨w.heap.size, 0, none⟩), .pointer (some ⟨w.heap.size + 1, 0, none⟩)] w2.heap.size sr.1
  have a5d : WalkAt w5.drew (w2.heap.size + 1) gn.bg 52 #[.pointer (some ⟨w.heap.size, 0, none⟩), .pointer (some ⟨w.heap.size + 1, 0, none⟩)] w2.heap.size sr.1 := a5.below (Below.refl _ _).drew
  have s0 := hk35.cell (cells_at HX0.out 0 rfl) (by omega)
  have s8 := cell_below H.out.b8 hB5
  obtain ⟨cb, hcb⟩ := HTB.out
  have hcb5 := (hB5.block _ (heap_lt hcb)).trans hcb
  have fz := cells_frozen hcb5
  have hknl := k5.len
  have HLK := hide (hlk w5.drew a5d)
  have HR5 := hide r5
  have HF5 := hide f5
  have HK5 := hide k5
  have HX5 := hide x5
  have HL5 := hide l5
  have HB5 := hide hB5
  have HKNL := hide hknl
  have hcase := HRow_cases r5
  have hfew : (gn.lev.map (·.1)).length ≤ 60 := by have := H.out.idsLen; simpa using this
  have hwrp : IntKind.i64.wrap (gn.looks + (sr.1.length : Int)) = gn.looks + (sr.1.length : Int) := by rw [IntKind.wrap_i64]; have := HLO.out; omega
  have HCB5 := hide hcb5
  have hcv : cellV w5.drew bb 8 = .int .i64 gn.looks := cellV_eq s8
  have HSA : Hid (w5.drew.cell? ⟨w.heap.size, 0, none⟩ = some (.pointer (some ⟨bb, 0, none⟩)) ∧ w5.drew.cell? ⟨bb, 8, none⟩ = some (cellV w5.drew bb 8)) := ⟨s0, cellV_some s8⟩
  have hneb : w.heap.size ≠ bb := by have := block_lt_of_cell H.out.b0; simp only at this; omega
  have HSC2 : Hid (∀ u, (w5.drew.setCell ⟨bb, 8, none⟩ u).cell? ⟨w.heap.size, 0, none⟩ = some (.pointer (some ⟨bb, 0, none⟩)) ∧ (w5.drew.setCell ⟨bb, 8, none⟩ u).cell? ⟨bb, 8, none⟩ = some (cellV (w5.drew.setCell ⟨bb, 8, none⟩ u) bb 8)) := fun u => ⟨(World.cell?_setCell_far _ _ _ _ (fun e => hneb e.symm)).trans s0, cellV_some (World.cell?_setCell_same _ _ _ s8)⟩
  clear hlk a5 a5d r5 f5 k5 x5 l5 kk5 hk35 hB5 hknl hcb hcb5 HAL
  generalize hln : sr.2.length = ln at hcase
  have HLN := hide hln
  clear hln
  have HEND : Hid (∀ w6 v6, Below w5.heap.size (w5.setCell ⟨bb, 8, none⟩ (.int .i64 (gn.looks + (sr.1.length : Int)))) w6 → HRow w6 v6 (sr.2.take (min k (sr.2.length : Int)).toNat) → (∀ g, v6.ownBlock = some g → w.heap.size ≤ g) → ∃ v', Ending.returned (.tuple #[v6, .int .i64 0]) = Ending.returned (.tuple #[v', .int .i64 0]) ∧ HRow w6 v' ((srR cf gn L xs F (max k beam)).2.take (min k ((srR cf gn L xs F (max k beam)).2.length : Int)).toNat) ∧ (∀ g, v'.ownBlock = some g → w.heap.size ≤ g) ∧
      BaseAt w6 bb bs bm cf { gn with looks := gn.looks + (srR cf gn L xs F (max k beam)).1.length } L ∧ Kept (fun k => k = bb) w w6 ∧ (∃ cs, w6.heap[bb]? = some (.cells cs 102 (0, 0))) ∧ KnOk (gn.lev.map (·.1)) (qd cf.metric xs L) (srR cf gn L xs F (max k beam)).1 ∧ (∀ x ∈ (srR cf gn L xs F (max k beam)).2, x.1 ∈ gn.lev.map (·.1) ∧ x.2 = qd cf.metric xs L x.1)) := fun w6 v6 hb6 hr6 hf6 => by
    rw [HSRE.out]
    obtain ⟨csb, hcsb⟩ := HTS.out
    have hbl := ((H.out.below HB5.out).look HCB5.out ((HB5.out.block _ (heap_lt hcsb)).trans hcsb) (gn.looks + (sr.1.length : Int)))
    have hsz : (w5.setCell ⟨bb, 8, none⟩ (.int .i64 (gn.looks + (sr.1.length : Int)))).heap.size = w5.heap.size := by simp [World.setCell]
    have hb6' : Below (w5.setCell ⟨bb, 8, none⟩ (.int .i64 (gn.looks + (sr.1.length : Int)))).heap.size (w5.setCell ⟨bb, 8, none⟩ (.int .i64 (gn.looks + (sr.1.length : Int)))) w6 := by rw [hsz]; exact hb6
    have hk5 : Kept (fun k => k = bb) w (w5.setCell ⟨bb, 8, none⟩ (.int .i64 (gn.looks + (sr.1.length : Int)))) := (Kept.of_below (fun k => k = bb) HB5.out).setCell (p := ⟨bb, 8, none⟩) (fun _ => rfl) _
    exact ⟨v6, rfl, hr6, hf6, hbl.below hb6', hk5.below hb6', ⟨_, (hb6'.block _ (by rw [hsz]; exact heap_lt HCB5.out)).trans (heap_setCell_same _ _ _ _ _ _ HCB5.out)⟩, HK5.out, HX5.out⟩
  rcases hcase with ⟨hnil, rfl⟩ | ⟨g5, c5, rfl, hgc⟩
  · have hmk : (min k 0).toNat = 0 := by omega
    have hcl := fun W => cloneH_nil W
    have HCL := hide hcl
    have HNIL := hide hnil
    clear hcl hnil
    go_wp2
    go_region_with (first | (go_at_call 59; refine HLK.out.mono ?_; rintro e6 w6 ⟨rfl, rfl⟩))
    all_goals go_wp2_with fail
    all_goals refine (HCL.out _).mono ?_
    all_goals (rintro e7 w7 ⟨rfl, rfl⟩)
    all_goals go_wp2
    all_goals go_ret2
    all_goals (refine HEND.out _ _ ((Below.refl _ _).drew) ?_ (fun g e => by simp [Value.ownBlock] at e))
    all_goals (rw [HNIL.out, List.take_nil]; exact ⟨rfl, .inl ⟨rfl, rfl⟩⟩)
  · have hml : ((sr.2.take (min k (sr.2.length : Int)).toNat)).length = (min k (ln : Int)).toNat := by
      rw [List.length_take, HLN.out]
      omega
    have hcl := fun W (hr : HRow W (.slice (some ⟨g5, 0, none⟩) sr.2.length c5) sr.2) => cloneH (some ⟨g5, 0, none⟩) (sr.2.take (min k (sr.2.length : Int)).toNat) c5 W (by rw [hml]; omega) ⟨g5, rfl, hcells_take_src hr⟩
    rw [hml] at hcl
    have hr6 : HRow (w5.setCell ⟨bb, 8, none⟩ (.int .i64 (gn.looks + (sr.1.length : Int)))).drew (.slice (some ⟨g5, 0, none⟩) sr.2.length c5) sr.2 := by
      have h5 : HRow w5 (.slice (some ⟨g5, 0, none⟩) sr.2.length c5) sr.2 := by
        rw [HLN.out]; exact HR5.out
      refine ownsRow_of_block h5 fun g e => ?_
      show (w5.setCell ⟨bb, 8, none⟩ _).heap[g]? = _
      exact Below.heap_setCell _ _ _ _ (fun e2 => row_ne h5 HCB5.out (by decide) (by rw [e, e2]))
    have HCL := hide (hcl _ hr6)
    have HSZ : Hid ((w5.setCell ⟨bb, 8, none⟩ (.int .i64 (gn.looks + (sr.1.length : Int)))).drew.heap.size = w5.heap.size) := by
      show _ = _
      simp [World.setCell]
    clear hcl hr6 hml
    go_wp2
    go_region_with (first | (go_at_call 59; refine HLK.out.mono ?_; rintro e6 w6 ⟨rfl, rfl⟩))
    all_goals go_wp2_with fail
    all_goals refine HCL.out.mono ?_
    all_goals (rintro e7 w7 ⟨v7, rfl, r7, f7, b7⟩)
    all_goals (have hb7 : Below w5.heap.size (w5.setCell ⟨bb, 8, none⟩ (.int .i64 (gn.looks + (sr.1.length : Int)))) w7 := by { rw [HSZ.out] at b7; exact ((Below.refl _ _).drew).trans b7 })
    all_goals (have HE7 := hide (HEND.out w7 v7 hb7 r7 (fun g e => by have h1 := f7 g e; rw [HSZ.out] at h1; have := HB5.out.size; omega)))
    all_goals (clear r7 f7 b7 hb7)
    all_goals go_wp2
    all_goals go_ret2
    all_goals exact HE7.out
end Go.Proofs.YtpkiefjanmfgfaaGreatDoor
namespace Go.Proofs.YtpkiefjanmfgfaaGreatDoor
open Go.RowKit Go.Maps

theorem alongR_known {ids : List Int} {dd : Int → Int} {want : Int → Bool} {width : Int} {nb : Int → List Int} {kn : List (Int × Int)} {st : List Hit} (hnb : ∀ i ∈ ids, ∀ x ∈ nb i, x ∈ ids) (hkn : KnOk ids dd kn) (hst : ∀ x ∈ st, x.1 ∈ ids) : KnOk ids dd (alongR dd want width nb ids.length kn st).1 := by
  have hsl : ∀ x ∈ st.map (·.1), x ∈ ids := fun x hx => by
    obtain ⟨y, hy, rfl⟩ := List.mem_map.1 hx
    exact hst y hy
  obtain ⟨ha, _⟩ := ASOk.meetAll want width (l := st.map (·.1)) hkn.beg hsl
  exact (run_end want width hnb _ ha (Nat.le_refl _) (Cl.meetAll (nb := nb) (ex := fun _ => False) dd want width (fun x hx => absurd hx List.not_mem_nil))).2.2.2.know
theorem along_one {ids : List Int} {dd : Int → Int} {nb : Int → List Int} {kn : List (Int × Int)} {st : List Hit} (hnb : ∀ i ∈ ids, ∀ x ∈ nb i, x ∈ ids) (hkn : KnOk ids dd kn) (hst : ∀ x ∈ st, x.1 ∈ ids) (h0 : st ≠ []) : (alongR dd (fun _ => true) 1 nb ids.length kn st).2 ≠ [] := by
  obtain ⟨_, _, _, _, h⟩ := alongR_spec (dd := dd) (want := fun _ => true) (width := 1) (by omega) hnb hkn hst
  intro e
  rw [e] at h
  rcases h with h | ⟨M, h1, _, h3⟩
  · simp at h
  · obtain ⟨x, hx⟩ := List.exists_mem_of_ne_nil _ h0
    have hm := h1 x hx
    have : 0 < (M.filter fun _ => true).length := List.length_pos_of_mem (List.mem_filter.2 ⟨hm, rfl⟩)
    simp only [List.length_nil] at h3
    omega
theorem dnR_one {ids : List Int} {dd : Int → Int} {lk : Int × Int → List Int} {ch : List Int} (hnb : ∀ l : Int, ∀ i ∈ ids, ∀ x ∈ reachedL lk ch i l, x ∈ ids) : ∀ (n : Nat) (l : Int) (p : List (Int × Int) × List Hit), KnOk ids dd p.1 → (∀ x ∈ p.2, x.1 ∈ ids) → p.2 ≠ [] → (dnR dd lk ch ids.length n l p).2 ≠ [] ∧ KnOk ids dd (dnR dd lk ch ids.length n l p).1 ∧ ∀ x ∈ (dnR dd lk ch ids.length n l p).2, x.1 ∈ ids
  | 0, _, p, h1, h2, h3 => ⟨h3, h1, h2⟩
  | n + 1, l, p, h1, h2, h3 => by
    unfold dnR
    have hs := alongR_spec (dd := dd) (want := fun _ => true) (width := 1) (by omega) (hnb l) h1 h2
    exact dnR_one hnb n (l - 1) _ (alongR_known (hnb l) h1 h2) (fun x hx => (hs.2.2.1 x hx).1) (along_one (hnb l) h1 h2 h3)

def passL (F : List (List Cnd)) (L : List Ent) : List Ent := L.filter fun e => passB F e.t0 e.t1
theorem findE_of_mem {L : List Ent} (hr : Rising L) {e : Ent} (he : e ∈ L) : findE e.id L = some e := by
  induction L with
  | nil => cases he
  | cons y r ih =>
    obtain ⟨h1, h2⟩ := List.pairwise_cons.1 hr
    unfold findE
    rw [List.find?_cons]
    rcases List.mem_cons.1 he with rfl | he
    · simp
    · have := h1 e he
      have hne : ¬ y.id = e.id := by omega
      simp only [hne, decide_false]
      exact ih h2 he
theorem rising_nodup {L : List Ent} (h : Rising L) : (L.map (·.id)).Nodup := by
  unfold Rising at h
  rw [List.Nodup, List.pairwise_map]
  exact h.imp (fun h => by omega)

def MK (s : AS) : Prop := ∀ x ∈ s.met, x ∈ s.kn.map (·.1)
theorem MK.meet {s : AS} (h : MK s) (dd : Int → Int) (want : Int → Bool) (width : Int) (id : Int) : MK (meetL dd want width s id) := by
  unfold meetL
  split
  · exact h
  · intro x hx
    show x ∈ (knowL dd s.kn id).map (·.1)
    have hsub : ∀ y ∈ s.kn.map (·.1), y ∈ (knowL dd s.kn id).map (·.1) := fun y hy => by
      unfold knowL
      split
      · rw [List.map_cons]; exact List.mem_cons_of_mem _ hy
      · exact hy
    rcases List.mem_cons.1 hx with rfl | hx
    · unfold knowL
      split
      · rw [List.map_cons]; exact List.mem_cons_self
      · rename_i hl
        obtain ⟨t, ht⟩ := Option.ne_none_iff_exists'.1 hl
        exact List.mem_map.2 ⟨_, levOf_mem ht, rfl⟩
    · exact hsub x (h x hx)
theorem MK.meetAll (dd : Int → Int) (want : Int → Bool) (width : Int) : ∀ {l : List Int} {s : AS}, MK s → MK (meetAll dd want width s l)
  | [], _, h => h
  | x :: l, _, h => MK.meetAll (l := l) dd want width (h.meet dd want width x)
theorem MK.run (dd : Int → Int) (want : Int → Bool) (width : Int) {nb : Int → List Int} : ∀ (n : Nat) {s : AS}, MK s → MK (runS dd want width nb n s)
  | 0, _, h => h
  | n + 1, s, h => by
    unfold runS
    split
    · have hp : MK (popS s) := h
      exact MK.run dd want width n (hp.meetAll dd want width)
    · exact h
theorem along_knows {ids : List Int} {dd : Int → Int} {want : Int → Bool} {width : Int} {nb : Int → List Int} {kn : List (Int × Int)} {st : List Hit} (hw : 0 < width) (hnb : ∀ i ∈ ids, ∀ x ∈ nb i, x ∈ ids) (hkn : KnOk ids dd kn) (hst : ∀ x ∈ st, x.1 ∈ ids) : (alongR dd want width nb ids.length kn st).2.length ≤ (alongR dd want width nb ids.length kn st).1.length := by
  have hs := alongR_spec (dd := dd) (want := want) hw hnb hkn hst
  have h0 : MK (begS kn) := fun x hx => absurd hx List.not_mem_nil
  have h1 := (h0.meetAll dd want width (l := st.map (·.1))).run dd want width (nb := nb) ((meetAll dd want width (begS kn) (st.map (·.1))).mu ids.length)
  have f0 : FInv want width (begS kn) := ⟨fun i _ hl => absurd hl (Nat.not_lt_zero _), List.nodup_nil, fun _ hx => absurd hx List.not_mem_nil, by show (0 : Int) = min width 0; omega⟩
  have f1 := (f0.meetAll hw dd (l := st.map (·.1))).run hw dd (nb := nb) ((meetAll dd want width (begS kn) (st.map (·.1))).mu ids.length)
  have hn := hs.2.1
  unfold alongR at hn ⊢
  simp only at hn ⊢
  generalize runS dd want width nb ((meetAll dd want width (begS kn) (st.map (·.1))).mu ids.length) (meetAll dd want width (begS kn) (st.map (·.1))) = sF at h1 f1 hn ⊢
  have := List.Nodup.length_le_of_subset (l₂ := sF.kn.map (·.1)) hn (fun x hx => by
    obtain ⟨y, hy, rfl⟩ := List.mem_map.1 hx
    exact h1 _ (f1.sub y ((drainL_perm sF.Fd.length sF.Fd rfl).mem_iff.1 hy)).1)
  simpa using this

theorem srR_spec {w : World} {bb bs bm : Nat} {cf : Cf} {gn : Net} {L : List Ent} (h : BaseAt w bb bs bm cf gn L) (xs : List Int) (F : List (List Cnd)) (width : Int) (hw : 0 < width) :
    (srR cf gn L xs F width).2.Pairwise hle ∧ ((srR cf gn L xs F width).2.map (·.1)).Nodup ∧ (∀ x ∈ (srR cf gn L xs F width).2, ∃ e ∈ passL F L, x = (e.id, distL cf.metric xs e.pt)) ∧ ((srR cf gn L xs F width).2.length : Int) ≤ width ∧ min width ((passL F L).length : Int) ≤ ((srR cf gn L xs F width).2.length : Int) ∧ (srR cf gn L xs F width).2.length ≤ (srR cf gn L xs F width).1.length ∧ (srR cf gn L xs F width).1.length ≤ L.length := by
  have hnb := h.ok.ok.nb
  have hd : KnOk (gn.lev.map (·.1)) (qd cf.metric xs L) (downR (qd cf.metric xs L) gn.lev gn.lk gn.ch (gn.lev.map (·.1)).length [] 0).1 ∧ (∀ x ∈ (downR (qd cf.metric xs L) gn.lev gn.lk gn.ch (gn.lev.map (·.1)).length [] 0).2, x.1 ∈ gn.lev.map (·.1)) ∧ (gn.lev ≠ [] → (downR (qd cf.metric xs L) gn.lev gn.lk gn.ch (gn.lev.map (·.1)).length [] 0).2 ≠ []) := by
    have hk0 : KnOk (gn.lev.map (·.1)) (qd cf.metric xs L) [] := ⟨List.nodup_nil, fun _ hp => absurd hp List.not_mem_nil, fun _ hp => absurd hp List.not_mem_nil⟩
    unfold downR
    split
    · rename_i e
      exact ⟨hk0, fun x hx => absurd hx List.not_mem_nil, fun hne => absurd e hne⟩
    · rename_i hne
      have hm := entrL_mem (fun p hp => (h.ok.ok.lev5 p hp).1) hne
      have hin : (entrL gn.lev).1 ∈ gn.lev.map (·.1) := List.mem_map.2 ⟨_, hm, rfl⟩
      obtain ⟨a, b, c⟩ := dnR_one (ids := gn.lev.map (·.1)) (dd := qd cf.metric xs L) hnb ((entrL gn.lev).2 - 0).toNat (entrL gn.lev).2 (knowL (qd cf.metric xs L) [] (entrL gn.lev).1, [((entrL gn.lev).1, qd cf.metric xs L (entrL gn.lev).1)]) (hk0.hit hin) (fun x hx => by rw [List.mem_singleton.1 hx]; exact hin) (by simp)
      exact ⟨b, c, fun _ => a⟩
  obtain ⟨hd1, hd2, hd3⟩ := hd
  have hs := alongR_spec (dd := qd cf.metric xs L) (want := qw F L) hw (hnb 0) hd1 hd2
  have hk := along_knows (dd := qd cf.metric xs L) (want := qw F L) hw (hnb 0) hd1 hd2
  have hkl := (alongR_known (want := qw F L) (width := width) (hnb 0) hd1 hd2).len
  have hids : (gn.lev.map (·.1)).length ≤ L.length := by
    have h1 : gn.lev.map (·.1) ⊆ L.map (·.id) := fun x hx => by
      obtain ⟨e, he⟩ := Option.isSome_iff_exists.1 (h.ids.1 hx)
      exact List.mem_map.2 ⟨e, (findE_mem he).1, (findE_mem he).2⟩
    have h2 := List.Nodup.length_le_of_subset h.ok.ok.nod h1
    simpa using h2
  unfold srR
  simp only
  generalize downR (qd cf.metric xs L) gn.lev gn.lk gn.ch (gn.lev.map (·.1)).length [] 0 = d at hd1 hd2 hd3 hs hk hkl
  obtain ⟨s1, s2, s3, s4, s5⟩ := hs
  refine ⟨s1, s2, fun x hx => ?_, s4, ?_, hk, Nat.le_trans hkl hids⟩
  · obtain ⟨q1, q2, q3⟩ := s3 x hx
    obtain ⟨e, he⟩ := Option.isSome_iff_exists.1 (h.ids.1 q1)
    have hq : passB F e.t0 e.t1 = true := by
      unfold qw at q3
      rw [he] at q3; exact q3
    refine ⟨e, List.mem_filter.2 ⟨(findE_mem he).1, hq⟩, ?_⟩
    have q4 : x.2 = distL cf.metric xs e.pt := by
      rw [q2]
      unfold qd ptOf
      rw [he]
    exact Prod.ext (findE_mem he).2.symm q4
  · rcases s5 with s5 | ⟨M, m1, m2, m3⟩
    · omega
    · have hle : (passL F L).length ≤ (M.filter (qw F L)).length := by
        by_cases hne : gn.lev = []
        · have hL : passL F L = [] := by
            rw [List.eq_nil_iff_forall_not_mem]
            intro e he
            have he' := (List.mem_filter.1 he).1
            have := h.ids.2 (by rw [findE_of_mem h.map.rising he']; rfl)
            rw [hne] at this
            cases this
          rw [hL]; exact Nat.zero_le _
        · obtain ⟨x0, hx0⟩ := List.exists_mem_of_ne_nil _ (hd3 hne)
          have hall := chain_all h.ok.ok.chn m2 ((h.ok.ok.chm _).2 (hd2 x0 hx0)) (m1 x0 hx0)
          have hnd : ((passL F L).map (·.id)).Nodup := List.Nodup.sublist (List.Sublist.map _ List.filter_sublist) (rising_nodup h.map.rising)
          have := List.Nodup.length_le_of_subset (l₂ := M.filter (qw F L)) hnd (fun i hi => by
            obtain ⟨e, he, rfl⟩ := List.mem_map.1 hi
            obtain ⟨he1, he2⟩ := List.mem_filter.1 he
            have hf := findE_of_mem h.map.rising he1
            refine List.mem_filter.2 ⟨hall _ ((h.ok.ok.chm _).2 (h.ids.2 (by rw [hf]; rfl))), ?_⟩
            unfold qw
            rw [hf]; exact he2)
          simpa using this
      omega
end Go.Proofs.YtpkiefjanmfgfaaGreatDoor
namespace Go.Proofs.YtpkiefjanmfgfaaGreatDoor
open Go.RowKit Go.Maps

theorem right_of {w : World} {bb bs bm : Nat} {cf : Cf} {gn : Net} {L : List Ent} (h : BaseAt w bb bs bm cf gn L) (xs : List Int) (F : List (List Cnd)) (k beam : Int) (hk : 1 ≤ k) (all : List Hit) (hs : all.Pairwise hle) (hp : all.Perm (hitsL cf.metric xs F L)) :
    RightL ((srR cf gn L xs F (max k beam)).2.take (min k ((srR cf gn L xs F (max k beam)).2.length : Int)).toNat) all k beam ∧
      ((srR cf gn L xs F (max k beam)).2.take (min k ((srR cf gn L xs F (max k beam)).2.length : Int)).toNat).length ≤ (srR cf gn L xs F (max k beam)).1.length ∧ (srR cf gn L xs F (max k beam)).1.length ≤ L.length := by
  obtain ⟨s1, s2, s3, s4, s5, s6, s7⟩ := srR_spec h xs F (max k beam) (by omega)
  generalize (srR cf gn L xs F (max k beam)).2 = S at *
  generalize (srR cf gn L xs F (max k beam)).1 = K at *
  have hal : all.length = (passL F L).length := by rw [hp.length_eq]; simp [hitsL, passL]
  have hsub : S.Sublist all := sub_sorted hs s1 (List.Pairwise.of_map (fun x : Hit => x.1) (fun a b (h : a.1 ≠ b.1) e => h (congrArg _ e)) s2) fun x hx => by
    obtain ⟨e, he, rfl⟩ := s3 x hx
    exact hp.mem_iff.2 (List.mem_map.2 ⟨e, he, rfl⟩)
  have hsl := hsub.length_le
  have hn : ((min k (S.length : Int)).toNat : Int) = min k (all.length : Int) := by omega
  have hle : (min k (S.length : Int)).toNat ≤ S.length := by omega
  have hlen : (S.take (min k (S.length : Int)).toNat).length = (min k (S.length : Int)).toNat := by rw [List.length_take]; omega
  refine ⟨⟨by rw [hlen]; exact hn, (List.take_sublist _ _).trans hsub, fun hx => ?_⟩, by rw [hlen]; omega, s7⟩
  have : S = all := hsub.eq_of_length (by omega)
  subst this
  rw [hlen]
end Go.Proofs.YtpkiefjanmfgfaaGreatDoor
namespace Go.Proofs.YtpkiefjanmfgfaaGreatDoor
open Go.RowKit

theorem lvl_cond (x links : Nat) (h : 2 ≤ links) : x ≤ 18446744073709551615 / links ↔ ¬ 0 < x * links / 18446744073709551616 := by
  rw [Nat.le_div_iff_mul_le (by omega)]
  have := Nat.div_pos_iff (a := x * links) (b := 18446744073709551616)
  omega

set_option maxHeartbeats 2000000 in
set_option maxRecDepth 20000 in
theorem levelR (br d links top : Nat) (w : World) (r2 : w.cell? ⟨br, 2, none⟩ = some (.int .i64 (links : Int))) (r5 : w.cell? ⟨br, 5, none⟩ = some (.int .i64 (top : Int))) (hd : d < 18446744073709551616) (hl2 : 2 ≤ links) (hl : links ≤ 1000) (ht : top ≤ 100) :
    Calls Tryz.prog 81 #[.pointer (some ⟨br, 0, none⟩), .int .u64 d] w fun e w' => e = .returned (.int .i64 (lvlR links top d)) ∧ w = w' := by
  have hcv : IntKind.u64.wrap (links : Int) = (links : Int) := by rw [IntKind.wrap_u64]; omega
  go_enter Tryz.func81, Tryz.ntmps81
  go_wp2
  go_loop [5, 6] (fun i dv => ∃ (k e : Nat), dv = .int .u64 e ∧ i = .int .i64 k ∧ k ≤ top ∧ e < 18446744073709551616 ∧ Hid (lvlR links top d = lvlR links (top - k) e + k)) (fun i _ => top - (intOf i).toNat)
  case atStart => exact ⟨0, d, rfl, rfl, Nat.zero_le _, hd, rfl⟩
  case round =>
    obtain ⟨k, e, rfl, rfl, hk, he, HE⟩ := hrel
    by_cases hlt : k < top
    · have hltd : decide ((k : Int) < (top : Int)) = true := decide_eq_true (by omega)
      have hstep : lvlR links (top - k) e = if 0 < e * links / 18446744073709551616 then 0 else lvlR links (top - (k + 1)) (e * links % 18446744073709551616) + 1 := by
        have e1 : top - k = (top - (k + 1)) + 1 := by omega
        rw [e1]; rfl
      have HST := hide hstep
      have hcd := lvl_cond e links hl2
      have hz : (links : Int) ≠ 0 := by omega
      clear hstep
      by_cases h0 : 0 < e * links / 18446744073709551616
      · have h1 : ¬ e ≤ 18446744073709551615 / links := fun h => hcd.1 h h0
        have h1d : decide ((e : Int) ≤ 18446744073709551615 / (links : Int)) = false := decide_eq_false (by
          rw [show (18446744073709551615 : Int) / (links : Int) = ((18446744073709551615 / links : Nat) : Int) from (by simp)]
          omega)
        have HH := hide h0
        clear h0 h1 hcd
        go_wp2
        go_ret
        exact ⟨by rw [HE.out, HST.out, if_pos HH.out]; simp, rfl⟩
      · have h1 : e ≤ 18446744073709551615 / links := hcd.2 h0
        have h2 : e * links < 18446744073709551616 := by
          have := Nat.div_pos_iff (a := e * links) (b := 18446744073709551616)
          omega
        have h1d : decide ((e : Int) ≤ 18446744073709551615 / (links : Int)) = true := decide_eq_true (by
          rw [show (18446744073709551615 : Int) / (links : Int) = ((18446744073709551615 / links : Nat) : Int) from (by simp)]
          omega)
        have h3 : IntKind.u64.wrap ((e : Int) * (links : Int)) = ((e * links : Nat) : Int) := by rw [IntKind.wrap_u64]; push_cast; omega
        have HH := hide h0
        have H2 := hide h2
        clear h0 h1 hcd h2
        go_wp2
        refine ⟨⟨k + 1, e * links, rfl, by go_num, by omega, H2.out, ?_⟩, by simp [intOf]; omega⟩
        show _ = _
        rw [HE.out, HST.out, if_neg HH.out, Nat.mod_eq_of_lt H2.out]; omega
    · have hltd : decide ((k : Int) < (top : Int)) = false := decide_eq_false (by omega)
      go_wp2
      go_ret
      obtain rfl : k = top := by omega
      exact ⟨by rw [HE.out, Nat.sub_self]; simp [lvlR], rfl⟩
end Go.Proofs.YtpkiefjanmfgfaaGreatDoor
namespace Go.Proofs.YtpkiefjanmfgfaaGreatDoor
open Go.RowKit Go.Maps

def placesL (cf : Cf) : List Ent → Int
  | [] => 0
  | e :: L => lvlOf cf e.draw + 1 + placesL cf L
theorem placesL_append (cf : Cf) : ∀ (L M : List Ent), placesL cf (L ++ M) = placesL cf L + placesL cf M
  | [], M => by simp [placesL]
  | e :: L, M => by rw [List.cons_append, placesL, placesL_append cf L M, placesL]; omega
theorem placesL_ge (cf : Cf) : ∀ (L : List Ent), (L.length : Int) ≤ placesL cf L
  | [] => by simp [placesL]
  | e :: L => by
    have := placesL_ge cf L
    have h : 0 ≤ lvlOf cf e.draw := by unfold lvlOf; omega
    simp only [placesL, List.length_cons]
    omega
theorem placesL_le {cf : Cf} (h : CfOk cf) : ∀ (L : List Ent), placesL cf L ≤ 6 * (L.length : Int)
  | [] => by simp [placesL]
  | e :: L => by
    have := placesL_le h L
    have := lvlOf_le h e.draw
    simp only [placesL, List.length_cons]
    omega

theorem levelR' (br : Nat) (cf : Cf) (d : Int) (w : World) (r2 : w.cell? ⟨br, 2, none⟩ = some (.int .i64 cf.links)) (r5 : w.cell? ⟨br, 5, none⟩ = some (.int .i64 cf.top)) (hd : 0 ≤ d ∧ d < 18446744073709551616) (hc : CfOk cf) :
    Calls Tryz.prog 81 #[.pointer (some ⟨br, 0, none⟩), .int .u64 d] w fun e w' => e = .returned (.int .i64 (lvlOf cf d)) ∧ w = w' := by
  have h1 := hc.l2
  have h2 := hc.l8
  have h3 := hc.t0
  have h4 := hc.t5
  have e1 : ((cf.links.toNat : Nat) : Int) = cf.links := by omega
  have e2 : ((cf.top.toNat : Nat) : Int) = cf.top := by omega
  have e3 : ((d.toNat : Nat) : Int) = d := by omega
  have := levelR br d.toNat cf.links.toNat cf.top.toNat w (by rw [e1]; exact r2) (by rw [e2]; exact r5) (by omega) (by omega) (by omega) (by omega)
  rw [e3] at this
  exact this

set_option maxHeartbeats 2000000 in
set_option maxRecDepth 20000 in
theorem placesR (bp br : Nat) (cf : Cf) (la : Option Addr) (lc : Nat) (L : List Ent) (w : World) (p1 : w.cell? ⟨bp, 1, none⟩ = some (.pointer (some ⟨br, 0, none⟩))) (h : RefAt w br cf la lc L) (hc : CfOk cf) (hd : ∀ e ∈ L, 0 ≤ e.draw ∧ e.draw < 18446744073709551616) :
    Calls Tryz.prog 80 #[.pointer (some ⟨bp, 0, none⟩)] w fun ev w' => ev = .returned (.int .i64 (placesL cf L)) ∧ Below w.heap.size w w' := by
  have r6 := h.r6
  have hsm := h.small
  have H := hide h
  have HC := hide hc
  have HD := hide hd
  clear h hc hd
  go_enter Tryz.func80, Tryz.ntmps80
  go_wp2
  go_loopw [3, 4, 5] (fun n i _ wr => ∃ k : Nat, i = .int .i64 k ∧ n = .int .i64 (placesL cf (L.take k)) ∧ k ≤ L.length ∧ Hid (∃ n, wr = w.drewN n)) (fun _ i _ _ => L.length - (intOf i).toNat)
  case atStart => exact ⟨0, rfl, rfl, Nat.zero_le _, 0, rfl⟩
  case round =>
    obtain ⟨k, rfl, rfl, hk, hw⟩ := hrel
    obtain ⟨n0, hw0⟩ := id hw.out
    have q1 : wr.cell? ⟨bp, 1, none⟩ = some (.pointer (some ⟨br, 0, none⟩)) := by rw [hw0]; exact p1
    have q6 : wr.cell? ⟨br, 6, none⟩ = some (.slice la L.length lc) := by rw [hw0]; exact r6
    by_cases hlt : k < L.length
    · obtain ⟨g, rfl⟩ := H.out.addr (by omega)
      have e4 := ref_cell H.out.row hlt (j := 4) (by omega) rfl
      have q4 : wr.cell? ⟨g, k * 5 + 4, none⟩ = some (.int .u64 L[k].draw) := by rw [hw0]; exact e4
      have hlv := levelR' br cf L[k].draw wr.drew (by rw [hw0]; exact H.out.r2) (by rw [hw0]; exact H.out.r5) (HD.out _ (List.getElem_mem hlt)) HC.out
      have hst : placesL cf (L.take (k + 1)) = placesL cf (L.take k) + (lvlOf cf L[k].draw + 1) := by
        rw [List.take_succ_eq_append_getElem hlt, placesL_append]; simp [placesL]
      have hl := lvlOf_le HC.out L[k].draw
      have h1 := placesL_le HC.out (L.take k)
      have h2 := placesL_ge cf (L.take k)
      have h3 : (L.take k).length = k := by simp; omega
      rw [h3] at h1 h2
      generalize lvlOf cf L[k].draw = lv at hlv hst hl
      generalize L[k].draw = dr at q4 hlv
      generalize placesL cf (L.take k) = s at h1 h2 hst ⊢
      have HLV := hide hlv
      have HST := hide hst
      have w1 : IntKind.i64.wrap (s + lv) = s + lv := by rw [IntKind.wrap_i64]; omega
      have w2 : IntKind.i64.wrap (s + lv + 1) = s + lv + 1 := by rw [IntKind.wrap_i64]; omega
      have hW : Hid (∀ j, ∃ n, wr.drewN j = w.drewN n) := fun j => ⟨n0 + j, by rw [hw0]; simp⟩
      clear hlv hst hl h1 h2 h3 hw0 hw e4
      go_wp2
      go_region_held3 (fun wx => wx.cell? ⟨bp, 1, none⟩ = some (.pointer (some ⟨br, 0, none⟩)) ∧ wx.cell? ⟨br, 6, none⟩ = some (.slice (some ⟨g, 0, none⟩) L.length lc) ∧ wx.cell? ⟨g, k * 5 + 4, none⟩ = some (.int .u64 dr))
        (exact ⟨q1, q6, q4⟩)
        (first | (go_at_call 81; refine HLV.out.mono ?_; rintro e3 w3 ⟨rfl, rfl⟩))
      go_wp2
      refine ⟨⟨k + 1, by go_num, by rw [HST.out]; simp; omega, by omega, hW.out 1⟩, by simp [intOf]; omega⟩
    · obtain rfl : k = L.length := by omega
      have HW : Hid (Below w.heap.size w wr) := by rw [hw0]; exact below_drewN (Below.refl _ _) _
      have ht : L.take L.length = L := List.take_length
      rw [ht]
      clear hw0 ht
      go_wp2
      go_ret
      exact ⟨rfl, HW.out⟩
end Go.Proofs.YtpkiefjanmfgfaaGreatDoor
namespace Go.Proofs.YtpkiefjanmfgfaaGreatDoor
open Go.RowKit Go.Maps

theorem opS {w : World} {X bp o : Nat} {q pv fv : Value} {kd id kk be t0 t1 draw : Int} (hX : w.heap[X]? = some (.cells #[.int .i64 kd, .int .i64 id, .int .i64 kk, .int .i64 be, pv, .int .i64 t0, .int .i64 t1, .int .u64 draw, fv] 49 (0, 0))) (p0 : w.cell? ⟨bp, o, none⟩ = some q) :
    w.cell? ⟨bp, o, none⟩ = some q ∧ w.cell? ⟨X, 1, none⟩ = some (.int .i64 id) ∧ w.cell? ⟨X, 4, none⟩ = some pv ∧ w.cell? ⟨X, 5, none⟩ = some (.int .i64 t0) ∧ w.cell? ⟨X, 6, none⟩ = some (.int .i64 t1) ∧ w.cell? ⟨X, 7, none⟩ = some (.int .u64 draw) :=
  ⟨p0, by simp [World.cell?, hX], by simp [World.cell?, hX], by simp [World.cell?, hX], by simp [World.cell?, hX], by simp [World.cell?, hX]⟩

theorem pts_prefix {w : World} {A c : Nat} {xs ys : List Int} (h : Pts w A c (xs ++ ys)) {i : Nat} (hi : i < xs.length) : w.cell? ⟨A, 0 + i, none⟩ = some (.int .i64 (xs.getD i 0)) := by
  have := h.cell i (by simp; omega)
  simpa [List.getD_eq_getElem?_getD, List.getElem?_append_left hi] using this

theorem puts_two {W0 w w' : World} {bp bb bs bm br X A c : Nat} {cf : Cf} {gn : Net} {la : Option Addr} {lc : Nat} {nsv nmv : Value} {nn : Nat} {L M : List Ent} {cs : Array Value} {ys : List Int} (h : PairAt W0 w bp bb bs bm br cf gn la lc nsv nmv nn L M) (hX : w.heap[X]? = some (.cells cs 49 (0, 0))) (hp : Pts w A c ys) (hkd : Kept (fun k => k = bm ∨ gn.F k) w.drew w') (hXF : ¬ gn.F X) (hAF : ¬ gn.F A) :
    Kept (fun k => k = bm ∨ gn.F k) w w' ∧ w'.heap[X]? = some (.cells cs 49 (0, 0)) ∧ Pts w' A c ys := by
  have hk : Kept (fun k => k = bm ∨ gn.F k) w w' := (Kept.refl _ w).drew.trans hkd (fun _ _ h => h)
  refine ⟨hk, (hk.block X (Array.getElem?_eq_some_iff.1 hX).1 (fun e => e.elim (h.base.map.mb_ne hX) hXF)).trans hX, ownsRow_kept hp hk fun g hg => ?_⟩
  obtain ⟨cu, hcu⟩ := ownsRow_obj hp hg
  obtain rfl : A = g := by simpa [Value.ownBlock] using hg
  exact fun e => e.elim (h.base.map.mb_ne hcu) hAF

theorem nm_lt {W0 w : World} {bp bb bs bm br : Nat} {cf : Cf} {gn : Net} {la : Option Addr} {lc : Nat} {nsv nmv : Value} {nn : Nat} {L M : List Ent} (h : PairAt W0 w bp bb bs bm br cf gn la lc nsv nmv nn L M) {b : Nat} (e : nmv.ownBlock = some b) : b < w.heap.size := by
  obtain ⟨xs, hx⟩ := h.book.hm
  exact (hx.lt b e).2
theorem PairAt.pfNew {W0 w : World} {bp bb bs bm br : Nat} {cf : Cf} {gn gn' : Net} {la : Option Addr} {lc : Nat} {nsv nmv : Value} {nn : Nat} {L M : List Ent} (h : PairAt W0 w bp bb bs bm br cf gn la lc nsv nmv nn L M) (hf : ∀ k, gn'.F k → gn.F k ∨ w.heap.size ≤ k) :
    ∀ k, gn'.F k → W0.heap.size ≤ k ∧ k ≠ bp ∧ k ≠ br ∧ nsv.ownBlock ≠ some k ∧ nmv.ownBlock ≠ some k ∧ (Value.slice la M.length lc).ownBlock ≠ some k ∧ ∀ e ∈ M, k ≠ e.rb := by
  intro k hk
  rcases hf k hk with e | e
  · exact h.pf k e
  · have hA := h.apart (A := k) e
    exact ⟨hA.old, hA.p, hA.r, hA.ns, hA.nm, hA.l, hA.rb⟩
theorem puts_base {W0 w w' : World} {bp bb bs bm br g gc : Nat} {cf : Cf} {gn gn' : Net} {id t0 t1 draw : Int} {la : Option Addr} {lc : Nat} {nsv nmv : Value} {nn : Nat} {L M : List Ent} {xs : List Int} (h : PairAt W0 w bp bb bs bm br cf gn la lc nsv nmv nn L M) (hk : Kept (fun k => k = bm ∨ gn.F k) w w') (hB : ∀ rb rc, BaseAt w' bb bs bm cf gn' (insE ⟨id, xs, t0, t1, draw, g, gc, rb, rc⟩ L)) (hg : ∀ b, nmv.ownBlock = some b → b ≠ g) (hf : ∀ k, gn'.F k → gn.F k ∨ w.heap.size ≤ k) (hlk : gn.like gn') (hg2 : w.heap.size ≤ g) :
    ∀ rb rc, PairAt W0 w' bp bb bs bm br cf gn' la lc nsv nmv nn (insE ⟨id, xs, t0, t1, draw, g, gc, rb, rc⟩ L) M := by
  intro rb rc
  obtain ⟨p0, p1, p2, p3, p4, p5, bk, rf, tb, ts, old, hx⟩ := h.turned hk
  obtain ⟨l1, l2, l3, l4, l5⟩ := hlk
  refine ⟨p0, p1, l3 ▸ p2, l3 ▸ p3, (by rw [l4]; exact p4), (by rw [l5]; exact p5), bk, hB rb rc, rf, tb, ts, ⟨fun e he e1 => ?_, h.am.2⟩, old, h.pos, h.lbp, h.lbb, h.lbm, h.lbr, h.lla, h.lns, h.lnm, h.pfNew hf, l2 ▸ hx, fun k hk => ?_, ?_⟩
  · rcases mem_insE he with rfl | he
    · exact hg _ e1 rfl
    · exact h.am.1 e he e1
  · rw [l2] at hk
    have q := h.xa k hk
    have hlt := h.x.lt hk
    exact ⟨q.old, q.p, q.b, q.s, q.m, q.r, q.ns, q.nm, q.l, fun e he => (by
      rcases mem_insE he with rfl | he
      · show k ≠ g
        omega
      · exact q.mb e he), q.rb, fun e => (hf k e).elim q.f (fun e => by omega)⟩
  · rw [l2]; exact h.xn

def StepOk (W0 : World) (bp bb bs bm br : Nat) (cf : Cf) (nn : Nat) (w' : World) : Prop :=
  ∃ la lc nsv nmv nn' L gn, nn' ≤ nn + 4 ∧ PairAt W0 w' bp bb bs bm br cf gn la lc nsv nmv nn' L L ∧ Lk gn nn'

theorem Apart.net {W0 : World} {A bp bb bs bm br : Nat} {gn gn' : Net} {la : Option Addr} {lc : Nat} {nsv nmv : Value} {L M : List Ent} (h : Apart W0 A bp bb bs bm br gn la lc nsv nmv L M) (hf : ¬ gn'.F A) (hlk : gn.like gn') : Apart W0 A bp bb bs bm br gn' la lc nsv nmv L M :=
  ⟨⟨h.old, h.p, h.b, h.s, h.m, h.r, h.ns, h.nm, h.l, h.mb, h.rb, hf⟩, fun e => h.x (hlk.2.1 ▸ e)⟩
section
variable {W0 w w1 w2 w3 w4 w5 : World} {bp bb bs bm br g gc n : Nat} {cf : Cf} {gn gn' : Net} {id t0 t1 draw : Int} {la : Option Addr} {lc : Nat} {nsv nmv nsv' nmv' lv' : Value} {nn n' : Nat} {L : List Ent} {cs : Array Value} {xs ys : List Int}
theorem puts_three (h : PairAt W0 w bp bb bs bm br cf gn la lc nsv nmv nn L L) (h2 : ∀ rb rc, PairAt W0 w2 bp bb bs bm br cf gn' la lc nsv nmv nn (insE ⟨id, xs, t0, t1, draw, g, gc, rb, rc⟩ L) L) (hX : w2.heap[w.heap.size]? = some (.cells cs 49 (0, 0))) (hk : Kept (fun k => k = w.heap.size + 1) w2 w3) (hf : ¬ gn'.F (w.heap.size + 1)) (hlk : gn.like gn') (hg : w.heap.size + 1 ≠ g) (hyl : ys.length = n + 2) (hpy : Pts w3 (w.heap.size + 1) (n + 2) ys) :
    w3.heap[w.heap.size]? = some (.cells cs 49 (0, 0)) ∧ (∀ rb rc, PairAt W0 w3 bp bb bs bm br cf gn' la lc nsv nmv nn (insE ⟨id, xs, t0, t1, draw, g, gc, rb, rc⟩ L) L) ∧ InS w3 bp (.slice (some ⟨w.heap.size + 1, 0, none⟩) (n + 2) (n + 2)) nsv nmv w3 (.slice (some ⟨w.heap.size + 1, 0, none⟩) (n + 2) (n + 2)) (n + 2) nsv nn nmv nn := by
  have hA := (h.apart (A := w.heap.size + 1) (by omega)).net hf hlk
  have h3 : ∀ rb rc, PairAt W0 w3 bp bb bs bm br cf gn' la lc nsv nmv nn (insE ⟨id, xs, t0, t1, draw, g, gc, rb, rc⟩ L) L := fun rb rc => (h2 rb rc).one (hA.ins _ hg) hk
  refine ⟨(hk.block _ (Array.getElem?_eq_some_iff.1 hX).1 (by omega)).trans hX, h3, ?_⟩
  have hp : w3.ownsRow 0 3 1 (.slice (some ⟨w.heap.size + 1, 0, none⟩) (n + 2) (n + 2)) (n + 2) (ys.map (Value.int .i64)) := hyl ▸ hpy
  exact (h3 0 0).book.ins hp fun g' hg' e => hA.nm (by rw [e, ← hg']; rfl)
theorem puts_four (h : PairAt W0 w bp bb bs bm br cf gn la lc nsv nmv nn L L) (h3 : ∀ rb rc, PairAt W0 w3 bp bb bs bm br cf gn' la lc nsv nmv nn (insE ⟨id, xs, t0, t1, draw, g, gc, rb, rc⟩ L) L) (hX : w3.heap[w.heap.size]? = some (.cells cs 49 (0, 0))) (hg : w.heap.size + 1 ≠ g) (hf : ¬ gn'.F (w.heap.size + 1)) (hlk : gn.like gn') (hs : InS w3 bp (.slice (some ⟨w.heap.size + 1, 0, none⟩) (n + 2) (n + 2)) nsv nmv w4 lv' n' nsv' (nn + 4) nmv' (nn + 4)) :
    w4.heap[w.heap.size]? = some (.cells cs 49 (0, 0)) ∧ ∀ rb rc, PairAt W0 w4 bp bb bs bm br cf gn' la lc nsv' nmv' (nn + 4) (insE ⟨id, xs, t0, t1, draw, g, gc, rb, rc⟩ L) L := by
  have hA := (h.apart (A := w.heap.size + 1) (by omega)).net hf hlk
  have hB := h.apart (A := w.heap.size) (Nat.le_refl _)
  refine ⟨(hs.kept.block _ (Array.getElem?_eq_some_iff.1 hX).1 (fun hx => ?_)).trans hX, fun rb rc => (h3 rb rc).ints' (hA.ins _ hg) hs⟩
  rcases hx with e | e | e | e
  · exact hB.p e
  · simp [Value.ownBlock] at e
  · exact hB.ns e
  · exact hB.nm e
theorem puts_five (h : PairAt W0 w bp bb bs bm br cf gn la lc nsv nmv nn L L) (h4 : ∀ rb rc, PairAt W0 w4 bp bb bs bm br cf gn' la lc nsv' nmv' (nn + 4) (insE ⟨id, xs, t0, t1, draw, g, gc, rb, rc⟩ L) L) (hX : w4.heap[w.heap.size]? = some (.cells cs 49 (0, 0))) (hp : RefPut w4.drew br cf la lc L id t0 t1 draw xs w5) :
    w5.heap[w.heap.size]? = some (.cells cs 49 (0, 0)) ∧ ∃ la' lc' x, PairAt W0 w5 bp bb bs bm br cf gn' la' lc' nsv' nmv' (nn + 4) (insE x L) (insE x L) := by
  obtain ⟨rg, rgc, la', lc', hrg, hR, hkd, hl⟩ := hp
  have hk : Kept (fun k => k = br ∨ (Value.slice la L.length lc).ownBlock = some k) w4 w5 := (Kept.refl _ w4).drew.trans hkd (fun _ _ h => h)
  have hB := h.apart (A := w.heap.size) (Nat.le_refl _)
  refine ⟨(hk.block _ (Array.getElem?_eq_some_iff.1 hX).1 (fun hx => ?_)).trans hX, la', lc', ⟨id, xs, t0, t1, draw, g, gc, rg, rgc⟩, (h4 rg rgc).refTurned hk (hR g gc) (fun b hb => ?_) (fun e he e1 => ?_) (fun k hk => ⟨fun e => ?_, fun e he e1 => ?_⟩) (fun k hlt hk => ⟨fun e => ?_, fun e he e1 => ?_⟩)⟩
  · rcases hx with e | e
    · exact hB.r e
    · exact hB.l e
  · rcases hl _ b hb with e | e
    · exact h.lla b e
    · exact Nat.le_trans (h4 0 0).old.size e
  · rcases mem_insE he with rfl | he
    · have h1 := nm_lt (h4 0 0) e1
      have h2 : w4.heap.size ≤ rg := hrg
      simp at h1
      omega
    · exact (h4 0 0).am.2 e he e1
  · rcases hl _ k e with e | e
    · exact ((h4 0 0).pf k hk).2.2.2.2.2.1 e
    · have := ((h4 0 0).base.foot k hk).1
      have : w4.heap.size ≤ k := e
      omega
  · rcases mem_insE he with rfl | he
    · have := ((h4 0 0).base.foot k hk).1
      have : w4.heap.size ≤ rg := hrg
      simp only at e1
      omega
    · exact ((h4 0 0).pf k hk).2.2.2.2.2.2 e he e1
  · rcases hl _ k e with e | e
    · exact ((h4 0 0).xa k hk).l e
    · have : w4.heap.size ≤ k := e
      omega
  · rcases mem_insE he with rfl | he
    · have : w4.heap.size ≤ rg := hrg
      simp only at e1
      omega
    · exact ((h4 0 0).xa k hk).rb e he e1
end

set_option maxHeartbeats 2000000 in
set_option maxRecDepth 20000 in
theorem puts18_ok (W0 w : World) (bp bb bs bm br : Nat) (cf : Cf) (gn : Net) (la : Option Addr) (lc : Nat) (nsv nmv : Value) (nn : Nat) (L : List Ent) (kd id kk be t0 t1 draw : Int) (xs : List Int) (pa : Option Addr) (pc : Nat) (fv : Value) (hfv : ∃ a n c, fv = .slice a n c)
    (h : PairAt W0 w bp bb bs bm br cf gn la lc nsv nmv nn L L) (hlk : Lk gn nn) (hv : IntsAt W0 (.slice pa xs.length pc) xs) (hid : I64 id) (hn : (xs.length + 6) * 8 ≤ 140737488355328) (hnn : (nn + 4) * 24 ≤ 140737488355328)
    (hdr : 0 ≤ draw ∧ draw < 18446744073709551616) (hcode : ptCode cf.dim xs = 0) (hroom : Room cf.cap id L) :
    Calls Tryz.prog 35 #[.pointer (some ⟨bp, 0, none⟩), .agg #[.int .i64 kd, .int .i64 id, .int .i64 kk, .int .i64 be, .slice pa xs.length pc, .int .i64 t0, .int .i64 t1, .int .u64 draw, fv]] w fun ev w' => ev = .returned (.bool true) ∧ StepOk W0 bp bb bs bm br cf nn w' := by
  obtain ⟨fa, fl, fc, rfl⟩ := hfv
  obtain ⟨dn, rfl⟩ : ∃ dn : Nat, draw = (dn : Int) := ⟨draw.toNat, by omega⟩
  have hdn : dn < 18446744073709551616 := by omega
  clear hdr
  have hlen : (xs.length : Int) = cf.dim := by
    unfold ptCode at hcode
    split at hcode
    · assumption
    · cases hcode
  have h0 : 0 < xs.length := by have := h.base.cfok.d1; omega
  have h8 : xs.length ≤ 8 := by have := h.base.cfok.d8; omega
  have hL : L.length ≤ 60 := h.ref.small
  obtain ⟨b, off, rfl, hcb⟩ : ∃ b off, pa = some ⟨b, off, none⟩ ∧ ∀ i, i < xs.length → W0.cell? ⟨b, off + i, none⟩ = some (.int .i64 (xs.getD i 0)) := by
    obtain ⟨a', c', e', _, _, hx⟩ := hv
    simp only [Value.slice.injEq] at e'
    obtain ⟨rfl, _, rfl⟩ := e'
    rcases hx with rfl | ⟨b, off, rfl, hc⟩
    · simp at h0
    · exact ⟨b, off, rfl, hc⟩
  have HCB := hide hcb
  have hb0 := block_lt_of_cell (hcb 0 h0)
  clear hcb
  have hvw := hv.below h.old
  have hva := hvw.below ((Below.refl _ _).alloc (Nat.le_refl _) (.cells #[.int .i64 kd, .int .i64 id, .int .i64 kk, .int .i64 be, .slice (some ⟨b, off, none⟩) xs.length pc, .int .i64 t0, .int .i64 t1, .int .u64 (dn : Int), .slice fa fl fc] 49))
  have hn2 : (xs.length + 2) * 8 ≤ 140737488355328 := Nat.le_trans (Nat.mul_le_mul_right 8 (by omega)) hn
  have hpl := h.book.lt
  have HXF : Hid (¬ gn.F w.heap.size) := (h.apart (Nat.le_refl _)).f
  have HAF : Hid (¬ gn.F (w.heap.size + 1)) := (h.apart (A := w.heap.size + 1) (by omega)).f
  have H := hide h
  have HV := hide hv
  have HVA := hide hva
  have HC := hide hcode
  have HN := hide hn
  have HN2 := hide hn2
  have HNN := hide hnn
  have HLEN := hide hlen
  clear hvw hva hcode hn hn2 hnn hv h hlen
  go_enter Tryz.func35, Tryz.ntmps35
  go_wp2_with fail
  refine (copied33_any xs (.slice (some ⟨b, off, none⟩) xs.length pc) _ HVA.out HN2.out).mono ?_
  rintro ev w1 ⟨rfl, hp, hb⟩
  have hp1 : Pts w1 (w.heap.size + 1) (xs.length + 2) (xs ++ [77, 78]) := by simpa using hp
  have hX1 : w1.heap[w.heap.size]? = some (.cells #[.int .i64 kd, .int .i64 id, .int .i64 kk, .int .i64 be, .slice (some ⟨b, off, none⟩) xs.length pc, .int .i64 t0, .int .i64 t1, .int .u64 (dn : Int), .slice fa fl fc] 49 (0, 0)) := (hb.block _ (by simp)).trans (heap_alloc_new w _)
  have hbw : Below w.heap.size w w1 := ((Below.refl _ _).alloc (Nat.le_refl _) _).trans (hb.mono (by simp))
  have h1 := H.out.below hbw
  have H1 := hide h1
  have HP1 := hide hp1
  have HX1 := hide hX1
  have HBW := hide hbw
  have hzw : w.heap.size + 1 < w1.heap.size := (hp1.lt (w.heap.size + 1) rfl).2
  have hp0 := h1.p0
  clear hp hb hp1 hX1 hbw h1
  have hS1 := opS HX1.out hp0
  have bz1 : (0 : Int) ≤ (xs.length : Int) := by omega
  have bz2 : (xs.length : Int) ≤ (xs.length : Int) + 2 := by omega
  have HVL : Hid (∀ o, IntsAt (w1.drew.alloc o) (.slice (some ⟨w.heap.size + 1, 0, none⟩) xs.length (xs.length + 2)) xs) := fun o => (ints_of_pts HP1.out (by omega) _ (by omega)).below (((Below.refl _ _).drew).alloc (Nat.le_refl _) o)
  have HCC : Hid (∀ i, i < xs.length → w1.drew.cell? ⟨w.heap.size + 1, 0 + i, none⟩ = some (.int .i64 (xs.getD i 0))) := fun i hi => pts_prefix HP1.out hi
  go_wp2
  go_region_held3 (fun wx => wx.cell? ⟨bp, 0, none⟩ = some (.pointer (some ⟨bb, 0, none⟩)) ∧ wx.cell? ⟨w.heap.size, 1, none⟩ = some (.int .i64 id) ∧ wx.cell? ⟨w.heap.size, 4, none⟩ = some (.slice (some ⟨b, off, none⟩) xs.length pc) ∧ wx.cell? ⟨w.heap.size, 5, none⟩ = some (.int .i64 t0) ∧ wx.cell? ⟨w.heap.size, 6, none⟩ = some (.int .i64 t1) ∧ wx.cell? ⟨w.heap.size, 7, none⟩ = some (.int .u64 (dn : Int)))
    (first | (exact hS1) | (exact hS2))
    (first
      | (go_at_call 21; refine (put13_ok bb bs bm cf gn id t0 t1 dn xs (w.heap.size + 1) 0 (xs.length + 2) L _ hid hdn ?_ HC.out ?_ hroom h0 h8 ?_).mono ?_; (exact H1.out.base.below (Below.refl _ _).drew); (exact HVL.out); (exact HCC.out); rintro ev2 w2 ⟨rfl, g, gc, gn', hg, hB2, hk2d, hf2, hlk2, hlnk⟩; obtain ⟨hk2, hX2, hp2⟩ := puts_two H1.out HX1.out HP1.out hk2d HXF.out HAF.out; have hS2 := opS hX2 (H1.out.turned hk2).1))
  have h2 := puts_base H1.out hk2 hB2 (fun b e => by have h3 := nm_lt H1.out e; have h4 : w1.heap.size ≤ g := hg; omega) (fun k hk => hf2 k hk) hlk2 hg
  have HLK : Hid (gn.like gn') := hlk2
  have HLN : Hid ((∃ t, levOf gn'.lev id = some t) ∧ (1 < gn'.lev.length → gn'.lk (id, 0) ≠ [])) := ⟨⟨_, ((hB2 0 0).lv id).trans (by rw [show id = (⟨id, xs, t0, t1, dn, g, gc, 0, 0⟩ : Ent).id from rfl, findE_ins_self]; rfl)⟩, hlnk⟩
  have HF2 : Hid (¬ gn'.F (w.heap.size + 1)) := fun e => (hf2 _ e).elim HAF.out (fun e => by have : w1.heap.size ≤ w.heap.size + 1 := e; omega)
  clear hf2 hlk2 hlnk
  have HP2 := hide hp2
  have HX2 := hide hX2
  have H2 := hide h2
  have HG := hide hg
  have HB2 := hide hB2
  clear hp2 hX2 h2 hg hB2 hS1 hS2 hk2 hk2d HVL HCC
  go_wp2_with fail
  refine (whole34_any xs (.slice (some ⟨b, off, none⟩) xs.length pc) (w.heap.size + 1) (xs.length + 2) w2 HP2.out ?c1 ?c2).mono ?_
  case c1 => exact HV.out.below (H2.out 0 0).old
  case c2 => exact fun b off n c e hx => by have := HV.out.lt b off n c e hx; have := H.out.old.size; omega
  rintro ev w3 ⟨rfl, ⟨ys, hyl, hpy⟩, hk3⟩
  obtain ⟨hX3, h3, hins⟩ := puts_three (id := id) (t0 := t0) (t1 := t1) (xs := xs) (g := g) (gc := gc) H.out H2.out HX2.out hk3 HF2.out HLK.out (by have : w1.heap.size ≤ g := HG.out; omega) hyl hpy
  have HX3 := hide hX3
  have H3 := hide h3
  have HI := hide hins
  have hbp6 : (⟨bp, 6, none⟩ : Addr) = ⟨bp, 6, none⟩ := rfl
  clear hX3 h3 hins hyl hpy hk3
  go_wp2_with fail
  refine (ints35_any bp (some ⟨w.heap.size + 1, 0, none⟩) (xs.length + 2) (xs.length + 2) nsv nmv nn w3 HI.out HN.out HNN.out).mono ?_
  rintro ev w4 ⟨rfl, lv', nsv', nmv', hs4⟩
  obtain ⟨hX4, h4⟩ := puts_four (id := id) (t0 := t0) (t1 := t1) (xs := xs) (g := g) (gc := gc) H.out H3.out HX3.out (by have : w1.heap.size ≤ g := HG.out; omega) HF2.out HLK.out hs4
  have HX4 := hide hX4
  have H4 := hide h4
  have hp1 := (h4 0 0).p1
  have hS3 := opS hX4 hp1
  have HVL4 : Hid (∀ o, IntsAt (w4.drew.alloc o) (.slice (some ⟨b, off, none⟩) xs.length pc) xs) := fun o => (HV.out.below (h4 0 0).old).below (((Below.refl _ _).drew).alloc (Nat.le_refl _) o)
  have HCC4 : Hid (∀ i, i < xs.length → w4.drew.cell? ⟨b, off + i, none⟩ = some (.int .i64 (xs.getD i 0))) := fun i hi => Below.at (h4 0 0).old (HCB.out i hi) hb0
  clear hX4 h4 hs4 hp0
  go_wp2
  go_region_held3 (fun wx => wx.cell? ⟨bp, 1, none⟩ = some (.pointer (some ⟨br, 0, none⟩)) ∧ wx.cell? ⟨w.heap.size, 1, none⟩ = some (.int .i64 id) ∧ wx.cell? ⟨w.heap.size, 4, none⟩ = some (.slice (some ⟨b, off, none⟩) xs.length pc) ∧ wx.cell? ⟨w.heap.size, 5, none⟩ = some (.int .i64 t0) ∧ wx.cell? ⟨w.heap.size, 6, none⟩ = some (.int .i64 t1) ∧ wx.cell? ⟨w.heap.size, 7, none⟩ = some (.int .u64 (dn : Int)))
    (first | (exact hS3) | (exact hS5))
    (first
      | (go_at_call 71; refine (put36_ok br cf la lc L id t0 t1 dn xs b off pc _ ?_ HC.out ?_ hroom (H.out.base.cfok.c60) h0 h8 ?_).mono ?_; (exact (H4.out 0 0).ref.below (Below.refl _ _).drew); (exact HVL4.out); (exact HCC4.out); rintro ev5 w5 ⟨rfl, hput⟩; obtain ⟨hX5, la5, lc5, x5, h5⟩ := puts_five H.out H4.out HX4.out hput; have hS5 := opS hX5 h5.p1; obtain ⟨y4, hy4⟩ := h5.p4; obtain ⟨y5, hy5⟩ := h5.p5; have hfz := h5.book.frozen; have hb5 := h5.book.lt))
  have H5 := hide h5
  clear h5
  go_wp2
  go_ret
  exact ⟨rfl, _, _, _, _, _, _, _, Nat.le_refl _, (H5.out.field4 id).field5 true, (hlk.put HLK.out HLN.out.1 HLN.out.2).mono (Nat.le_add_right _ _)⟩
end Go.Proofs.YtpkiefjanmfgfaaGreatDoor
