import Derived.Deep.RegionWith
import Derived.Test.YtpkiefjanmfgfaaGreatDoorGra07
import Derived.Test.YtpkiefjanmfgfaaGreatDoorGra11
import Derived.Test.YtpkiefjanmfgfaaGreatDoorGra13
import Derived.Test.YtpkiefjanmfgfaaGreatDoorGra18
namespace Go.Proofs.YtpkiefjanmfgfaaGreatDoor
open Go.RowKit Go.Maps

theorem ints_of_irow {w : World} {v : Value} {xs : List Int} (h : IRow w v xs) (hl : xs.length ≤ 1000) : IntsAt w v xs := by
  rcases h.2 with ⟨rfl, hz⟩ | ⟨g, cap, cur, rfl, _, hg, hn, hcm, hcs, htk⟩
  · obtain rfl := List.eq_nil_of_length_eq_zero hz
    exact ⟨none, 0, rfl, Nat.le_refl _, by simp, .inl rfl⟩
  · refine ⟨_, cap, rfl, hn, by omega, .inr ⟨g, 0, rfl, fun i hi => ?_⟩⟩
    rw [Nat.zero_add]
    exact ownsRow_cell (n := xs.length) (cap := cap) h (by simp [vals, List.getD_eq_getElem?_getD, hi])
theorem schCode_ok {dim : Int} {xs : List Int} {k beam : Int} {F : List (List Cnd)} (h : schCode dim xs k beam F = 0) : ptCode dim xs = 0 ∧ 1 ≤ k ∧ k ≤ 60 ∧ 1 ≤ beam ∧ beam ≤ 100 ∧ filtB F = true := by
  unfold schCode at h
  split at h
  · exact absurd h (by assumption)
  · rename_i h1
    split at h
    · rename_i h2
      have hf : filtB F = true := by
        cases hb : filtB F with
        | true => rfl
        | false => rw [hb] at h; cases h
      unfold inB at h2
      simp at h2 h1
      exact ⟨h1, h2.1.1, h2.1.2, h2.2.1, h2.2.2, hf⟩
    · cases h

theorem BaseAt.look {w : World} {bb bs bm : Nat} {cf : Cf} {gn : Net} {L : List Ent} {cb cs : Array Value} (h : BaseAt w bb bs bm cf gn L) (hcb : w.heap[bb]? = some (.cells cb 102 (0, 0))) (hcs : w.heap[bs]? = some (.cells cs 155 (0, 0))) (n : Int) : BaseAt (w.setCell ⟨bb, 8, none⟩ (.int .i64 n)) bb bs bm cf { gn with looks := n } L := by
  have hk : Kept (fun k => k = bb) w (w.setCell ⟨bb, 8, none⟩ (.int .i64 n)) := (Kept.refl (fun k => k = bb) w).setCell (p := ⟨bb, 8, none⟩) (fun _ => rfl) _
  have far : ∀ {o : Nat} {v : Value}, o ≠ 8 → w.cell? ⟨bb, o, none⟩ = some v → (w.setCell ⟨bb, 8, none⟩ (.int .i64 n)).cell? ⟨bb, o, none⟩ = some v := fun {o v} ho hc => (World.cell?_setCell_other _ _ _ _ (by simp <;> omega)).trans hc
  have nbs : bs ≠ bb := ne_of_elem hcs hcb (by decide)
  have nbm : bm ≠ bb := fun e => h.map.mb_ne hcb e.symm
  have n0 : 0 ≠ bb := fun e => by
    have h1 : w.cell? ⟨0, 0, none⟩ = _ := h.hdl
    have h2 := h.b0
    rw [← e, h1] at h2
    cases h2
  have npt : ∀ e ∈ L, e.mb ≠ bb := fun e he => by
    obtain ⟨cu, hcu⟩ := (h.map.pts e he).obj
    exact ne_of_elem hcu hcb (by decide)
  exact ⟨far (by omega) h.b0, far (by omega) h.b2, far (by omega) h.b3, far (by omega) h.b4, far (by omega) h.b5, far (by omega) h.b6, far (by omega) h.b7, World.cell?_setCell_same _ _ _ h.b8, hk.cell h.s0 nbs, hk.cell h.s1 nbs, h.map.keptS hk nbm npt, h.hdl.kept hk n0, h.g.kept hk (fun k hf => (h.foot k hf).2.2.1), h.ok, h.lv, h.few, h.ints, h.len, h.crd, h.drw, fun k hf => ⟨Nat.lt_of_lt_of_le (h.foot k hf).1 hk.size, (h.foot k hf).2⟩, h.cfok⟩

set_option maxHeartbeats 4000000 in
set_option maxRecDepth 20000 in
theorem search25_ok (bb bs bm : Nat) (cf : Cf) (gn : Net) (L : List Ent) (pv : Value) (xs : List Int) (k beam : Int) (fv : Value) (F : List (List Cnd)) (w : World) (h : BaseAt w bb bs bm cf gn L) (htb : ∃ cs, w.heap[bb]? = some (.cells cs 102 (0, 0))) (hts : ∃ cs, w.heap[bs]? = some (.cells cs 155 (0, 0))) (hr : IRow w pv xs) (hf : FiltAt w fv F) (hc : schCode cf.dim xs k beam F = 0) (hlo : 0 ≤ gn.looks ∧ gn.looks ≤ 4000000000000000000) :
    Calls Tryz.prog 26 #[.pointer (some ⟨bb, 0, none⟩), pv, .int .i64 k, .int .i64 beam, .agg #[fv]] w fun ev w' => ∃ v', ev = .returned (.tuple #[v', .int .i64 0]) ∧ HRow w' v' ((srR cf gn L xs F (max k beam)).2.take (min k ((srR cf gn L xs F (max k beam)).2.length : Int)).toNat) ∧ (∀ g, v'.ownBlock = some g → w.heap.size ≤ g) ∧
      BaseAt w' bb bs bm cf { gn with looks := gn.looks + (srR cf gn L xs F (max k beam)).1.length } L ∧ Kept (fun k => k = bb) w w' ∧ (∃ cs, w'.heap[bb]? = some (.cells cs 102 (0, 0))) ∧ KnOk (gn.lev.map (·.1)) (qd cf.metric xs L) (srR cf gn L xs F (max k beam)).1 ∧ (∀ x ∈ (srR cf gn L xs F (max k beam)).2, x.1 ∈ gn.lev.map (·.1) ∧ x.2 = qd cf.metric xs L x.1) := by
  obtain ⟨hpc, hk1, hk2, hb1, hb2, hfb⟩ := schCode_ok hc
  obtain ⟨hxl, hxc⟩ := ptCode_crd hpc
  have hd8 := h.cfok.d8
  have hok : F.all clauseB = true := by
    unfold filtB at hfb
    simp at hfb
    simpa using hfb.2
  have hsc := fun W (hW : Below w.heap.size w W) => search47 cf.dim pv xs k beam fv F W ((ints_of_irow hr (by omega)).belowI hW) (hf.below hW)
  rw [hc] at hsc
  obtain ⟨pa, pc, rfl, _⟩ := IRow_slice hr
  have hf2 := hf
  obtain ⟨fa, fc, rfl, _⟩ := hf2
  obtain ⟨x0, x1, x2, xz, hB⟩ := srch_boxes w (.pointer (some ⟨bb, 0, none⟩)) (.slice pa xs.length pc) (.slice fa F.length fc)
  have HB := hide hB
  have HX0 := hide x0
  have HX1 := hide x1
  have HX2 := hide x2
  have H := hide h
  have HR := hide hr
  have HF := hide hf
  have HOK := hide hok
  have HXC := hide hxc
  have HXL := hide hxl
  have HLO := hide hlo
  have HTB := hide htb
  have HTS := hide hts
  have HSC := hide hsc
  clear hsc hB h x0 x1 x2 xz hr hf hok hxc hxl hpc hfb hlo hc htb hts
  go_enter Tryz.func26, Tryz.ntmps26
  go_wp2
  generalize hwe : ((w.alloc (.cells #[.pointer (some ⟨bb, 0, none⟩)] 38)).alloc (.cells #[.slice pa xs.length pc] 32)).alloc (.cells #[.slice fa F.length fc] 47) = w1 at HB HX0 HX1 HX2 ⊢
  clear hwe
  have q0 := cells_at HX0.out 0 rfl
  have q1 := cells_at HX1.out 0 rfl
  have q2 := cells_at HX2.out 0 rfl
  have q3 := cell_below H.out.b0 HB.out
  have HSB : Hid (∀ W, Below w1.heap.size w1 W → W.cell? ⟨w.heap.size, 0, none⟩ = some (.pointer (some ⟨bb, 0, none⟩)) ∧ W.cell? ⟨w.heap.size + 1, 0, none⟩ = some (.slice pa xs.length pc) ∧ W.cell? ⟨w.heap.size + 1 + 1, 0, none⟩ = some (.slice fa F.length fc) ∧ W.cell? ⟨bb, 0, none⟩ = some (.int .i64 cf.dim)) := fun W hW => ⟨cell_below q0 hW, cell_below q1 hW, cell_below q2 hW, cell_below q3 hW⟩
  clear q0 q1 q2 q3
  go_region_held3 (fun wx => wx.cell? ⟨w.heap.size, 0, none⟩ = some (.pointer (some ⟨bb, 0, none⟩)) ∧ wx.cell? ⟨w.heap.size + 1, 0, none⟩ = some (.slice pa xs.length pc) ∧ wx.cell? ⟨w.heap.size + 1 + 1, 0, none⟩ = some (.slice fa F.length fc) ∧ wx.cell? ⟨bb, 0, none⟩ = some (.int .i64 cf.dim))
    ((refine HSB.out _ ?_; repeat (first | with_reducible exact hb2 | exact Below.refl _ _ | refine Below.drew ?_)))
    (first | (go_at_call 50; refine (HSC.out w1.drew HB.out.drew).mono ?_; rintro e2 w2 ⟨⟨u, rfl, hu⟩, b2⟩; have hb2 : Below w1.heap.size w1 w2 := Below.undrew b2; have hun : u = .nilIface := (by rcases hu with ⟨_, h⟩ | ⟨h, _⟩; (exact h); (exact absurd rfl h)); subst hun))
  have hB2 := HB.out.trans (hb2.mono HB.out.size)
  have hx0 := (hb2.block _ (heap_lt HX0.out)).trans HX0.out
  have hx1 := (hb2.block _ (heap_lt HX1.out)).trans HX1.out
  have hx2 := (hb2.block _ (heap_lt HX2.out)).trans HX2.out
  have hz2 : w.heap.size + 1 + 1 < w2.heap.size := heap_lt hx2
  have hnew := new48 gn.bg 52 #[.pointer (some ⟨w.heap.size, 0, none⟩), .pointer (some ⟨w.heap.size + 1, 0, none⟩)] w2
  have d0 := cells_at hx0 0 rfl
  have d7 := cell_below H.out.b7 hB2
  have HNEW := hide hnew
  have HB2 := hide hB2
  have HX0 := hide hx0
  have HX1 := hide hx1
  have HX2 := hide hx2
  clear hnew hB2 hx0 hx1 hx2 hb2 b2 hu HSB HSC
  go_wp2_with fail
  refine HNEW.out.mono ?_
  rintro e3 w3 ⟨rfl, hw3, hb3⟩
  have hB3 := HB2.out.trans (hb3.mono HB2.out.size)
  have hx0 := (hb3.block _ (heap_lt HX0.out)).trans HX0.out
  have hx1 := (hb3.block _ (heap_lt HX1.out)).trans HX1.out
  have hx2 := (hb3.block _ (heap_lt HX2.out)).trans HX2.out
  have hs3 := hb3.size
  have hlt3 := heap_lt hw3.blk
  have hI : ∀ x ∈ gn.lev.map (·.1), I64 x := fun x hx => by
    obtain ⟨e, he⟩ := Option.isSome_iff_exists.1 (H.out.ids.1 hx)
    rw [← (findE_mem he).2]
    exact H.out.ints e (findE_mem he).1
  have hinn := H.out.ok.ok.lg.inn H.out.ok.ok.lev5
  have hidl := H.out.idsLen
  have hchl := H.out.chLen
  have hBW : ∀ W, Kept (fun k => k = w2.heap.size ∨ w3.heap.size ≤ k) w3 W → Below w.heap.size w W := fun W hW => hB3.trans (hW.toBelow hB3.size (fun k e => by have := hB3.size; omega))
  have hE3 : WayEnv w3 gn.bg 52 #[.pointer (some ⟨w.heap.size, 0, none⟩), .pointer (some ⟨w.heap.size + 1, 0, none⟩)] w2.heap.size (gn.lev.map (·.1)) (qd cf.metric xs L) gn.F gn.lev gn.lk gn.ch := by
    refine ⟨(H.out.below hB3).g, fun q hq => ⟨by have := (H.out.foot q hq).1; omega, by have := (H.out.foot q hq).1; omega⟩, hI, by simp; omega, H.out.ok.ok.nb, fun p => Nat.le_trans (hinn.len p) (by simp; omega), by omega, enter52, fun o ho W hW => ?_⟩
    have hW' := hBW W hW
    exact search49 w.heap.size (w.heap.size + 1) bb bs bm cf.metric cf.dim.toNat _ xs o L W (H.out.below hW').pts (hW.cell (cells_at hx0 0 rfl) (by omega)) (hW.cell (cells_at hx1 0 rfl) (by omega)) (ownsRow_below HR.out hW') (by have := HXL.out; omega) HXC.out (by omega) (hI o ho) (H.out.ids.1 ho)
  have hwant : ∀ o ∈ gn.lev.map (·.1), ∀ W, Kept (fun k => k = w2.heap.size ∨ w3.heap.size ≤ k) w3 W → Calls Tryz.prog 54 (#[.int .i64 o] ++ #[.pointer (some ⟨w.heap.size + 1 + 1, 0, none⟩), .pointer (some ⟨w.heap.size, 0, none⟩)]) W fun e W' => e = .returned (.bool (qw F L o)) ∧ Below W.heap.size W W' := fun o ho W hW => by
    have hW' := hBW W hW
    exact search51 w.heap.size (w.heap.size + 1 + 1) bb bs bm _ F o L W (H.out.below hW').b6 (H.out.below hW').s1 (H.out.below hW').map (hW.cell (cells_at hx0 0 rfl) (by omega)) (hW.cell (cells_at hx2 0 rfl) (by omega)) (HF.out.below hW') HOK.out (hI o ho) (H.out.ids.1 ho)
  have hlev : ∀ p ∈ gn.lev, 0 ≤ p.2 ∧ p.2 ≤ 10 ∧ p.1 ∈ gn.lev.map (·.1) := fun p hp => ⟨(H.out.ok.ok.lev5 p hp).1, by have := (H.out.ok.ok.lev5 p hp).2; omega, List.mem_map.2 ⟨p, hp, rfl⟩⟩
  have hdn := down55 (w2.heap.size + 1) gn.bg 52 #[.pointer (some ⟨w.heap.size, 0, none⟩), .pointer (some ⟨w.heap.size + 1, 0, none⟩)] w2.heap.size [] 0 (gn.lev.map (·.1)) (qd cf.metric xs L) gn.F gn.lev gn.lk gn.ch w3 hw3 hE3 ⟨by omega, by omega⟩ ⟨List.nodup_nil, fun _ hp => absurd hp List.not_mem_nil, fun _ hp => absurd hp List.not_mem_nil⟩ hlev
  have HSR : Hid (srR cf gn L xs F (max k beam) = alongR (qd cf.metric xs L) (qw F L) (max k beam) (fun i => reachedL gn.lk gn.ch i 0) (gn.lev.map (·.1)).length (downR (qd cf.metric xs L) gn.lev gn.lk gn.ch (gn.lev.map (·.1)).length [] 0).1 (downR (qd cf.metric xs L) gn.lev gn.lk gn.ch (gn.lev.map (·.1)).length [] 0).2) := rfl
  generalize downR (qd cf.metric xs L) gn.lev gn.lk gn.ch (gn.lev.map (·.1)).length [] 0 = p0 at hdn HSR
  generalize hsr : srR cf gn L xs F (max k beam) = sr at HSR
  have HSRE := hide hsr
  have HDN := hide hdn
  have HE3 := hide hE3
  have HWT := hide hwant
  have HBWW := hide hBW
  have HX0 := hide hx0
  have HX1 := hide hx1
  have HX2 := hide hx2
  have HB3 := hide hB3
  clear hdn hE3 hwant hBW hx0 hx1 hx2 hB3 hb3 hw3 hsr hI hinn hidl hchl hlev d0 d7 HNEW
  go_wp2_with fail
  refine HDN.out.mono ?_
  rintro e4 w4 ⟨v4, rfl, r4, f4, a4, k4, x4, l4, kk4⟩
  have hk34 : Kept (fun k => k = w2.heap.size ∨ w3.heap.size ≤ k) w3 w4 := kk4.mono (fun q _ e => .inl e)
  have hal := along54' (w2.heap.size + 1) gn.bg 52 _ w2.heap.size p0.1 0 v4 p0.2 (max k beam) 54 #[.pointer (some ⟨w.heap.size + 1 + 1, 0, none⟩), .pointer (some ⟨w.heap.size, 0, none⟩)] (gn.lev.map (·.1)) (qd cf.metric xs L) (qw F L) gn.F gn.lev gn.lk gn.ch w4 a4 (HE3.out.later2 hk34) r4 l4 (fun x hx => (x4 x hx).1) (I64_of 0 (by omega) (by omega)) k4 (by omega) enter54
    (fun o ho W hW => HWT.out o ho W (hk34.trans hW (fun q hq e => e.imp (fun e => e) (fun e => by have := hk34.size; omega))))
  rw [← HSR.out] at hal
  have hz4 := kk4.size
  obtain ⟨va4, vc4, rfl, _⟩ := HRow_slice r4
  have HAL := hide hal
  have HK34 := hide hk34
  clear hal hk34 r4 f4 a4 k4 x4 l4 kk4 HDN
  go_wp2_with fail
  refine HAL.out.mono ?_
  rintro e5 w5 ⟨v5, rfl, r5, f5, a5, k5, x5, l5, kk5⟩
  have hk35 : Kept (fun k => k = w2.heap.size ∨ w3.heap.size ≤ k) w3 w5 := HK34.out.trans kk5 (fun q _ e => .inl e)
  have hB5 := HBWW.out w5 hk35
  have hz5 := hk35.size
  have hlk := looks56 (w2.heap.size + 1) gn.bg 52 #[.pointer (some ⟨w.heap.size, 0, none⟩), .pointer (some ⟨w.heap.size + 1, 0, none⟩)] w2.heap.size sr.1
  have a5d : WalkAt w5.drew (w2.heap.size + 1) gn.bg 52 #[.pointer (some ⟨w.heap.size, 0, none⟩), .pointer (some ⟨w.heap.size + 1, 0, none⟩)] w2.heap.size sr.1 := a5.below (Below.refl _ _).drew
  have s0 := hk35.cell (cells_at HX0.out 0 rfl) (by omega)
  have s8 := cell_below H.out.b8 hB5
  obtain ⟨cb, hcb⟩ := HTB.out
  have hcb5 := (hB5.block _ (heap_lt hcb)).trans hcb
  have fz := cells_frozen hcb5
  have hknl := k5.len
  have HLK := hide (hlk w5.drew a5d)
  have HR5 := hide r5
  have HF5 := hide f5
  have HK5 := hide k5
  have HX5 := hide x5
  have HL5 := hide l5
  have HB5 := hide hB5
  have HKNL := hide hknl
  have hcase := HRow_cases r5
  have hfew : (gn.lev.map (·.1)).length ≤ 60 := by have := H.out.idsLen; simpa using this
  have hwrp : IntKind.i64.wrap (gn.looks + (sr.1.length : Int)) = gn.looks + (sr.1.length : Int) := by rw [IntKind.wrap_i64]; have := HLO.out; omega
  have HCB5 := hide hcb5
  have hcv : cellV w5.drew bb 8 = .int .i64 gn.looks := cellV_eq s8
  have HSA : Hid (w5.drew.cell? ⟨w.heap.size, 0, none⟩ = some (.pointer (some ⟨bb, 0, none⟩)) ∧ w5.drew.cell? ⟨bb, 8, none⟩ = some (cellV w5.drew bb 8)) := ⟨s0, cellV_some s8⟩
  have hneb : w.heap.size ≠ bb := by have := block_lt_of_cell H.out.b0; simp only at this; omega
  have HSC2 : Hid (∀ u, (w5.drew.setCell ⟨bb, 8, none⟩ u).cell? ⟨w.heap.size, 0, none⟩ = some (.pointer (some ⟨bb, 0, none⟩)) ∧ (w5.drew.setCell ⟨bb, 8, none⟩ u).cell? ⟨bb, 8, none⟩ = some (cellV (w5.drew.setCell ⟨bb, 8, none⟩ u) bb 8)) := fun u => ⟨(World.cell?_setCell_far _ _ _ _ (fun e => hneb e.symm)).trans s0, cellV_some (World.cell?_setCell_same _ _ _ s8)⟩
  clear hlk a5 a5d r5 f5 k5 x5 l5 kk5 hk35 hB5 hknl hcb hcb5 HAL
  generalize hln : sr.2.length = ln at hcase
  have HLN := hide hln
  clear hln
  have HEND : Hid (∀ w6 v6, Below w5.heap.size (w5.setCell ⟨bb, 8, none⟩ (.int .i64 (gn.looks + (sr.1.length : Int)))) w6 → HRow w6 v6 (sr.2.take (min k (sr.2.length : Int)).toNat) → (∀ g, v6.ownBlock = some g → w.heap.size ≤ g) → ∃ v', Ending.returned (.tuple #[v6, .int .i64 0]) = Ending.returned (.tuple #[v', .int .i64 0]) ∧ HRow w6 v' ((srR cf gn L xs F (max k beam)).2.take (min k ((srR cf gn L xs F (max k beam)).2.length : Int)).toNat) ∧ (∀ g, v'.ownBlock = some g → w.heap.size ≤ g) ∧
      BaseAt w6 bb bs bm cf { gn with looks := gn.looks + (srR cf gn L xs F (max k beam)).1.length } L ∧ Kept (fun k => k = bb) w w6 ∧ (∃ cs, w6.heap[bb]? = some (.cells cs 102 (0, 0))) ∧ KnOk (gn.lev.map (·.1)) (qd cf.metric xs L) (srR cf gn L xs F (max k beam)).1 ∧ (∀ x ∈ (srR cf gn L xs F (max k beam)).2, x.1 ∈ gn.lev.map (·.1) ∧ x.2 = qd cf.metric xs L x.1)) := fun w6 v6 hb6 hr6 hf6 => by
    rw [HSRE.out]
    obtain ⟨csb, hcsb⟩ := HTS.out
    have hbl := ((H.out.below HB5.out).look HCB5.out ((HB5.out.block _ (heap_lt hcsb)).trans hcsb) (gn.looks + (sr.1.length : Int)))
    have hsz : (w5.setCell ⟨bb, 8, none⟩ (.int .i64 (gn.looks + (sr.1.length : Int)))).heap.size = w5.heap.size := by simp [World.setCell]
    have hb6' : Below (w5.setCell ⟨bb, 8, none⟩ (.int .i64 (gn.looks + (sr.1.length : Int)))).heap.size (w5.setCell ⟨bb, 8, none⟩ (.int .i64 (gn.looks + (sr.1.length : Int)))) w6 := by rw [hsz]; exact hb6
    have hk5 : Kept (fun k => k = bb) w (w5.setCell ⟨bb, 8, none⟩ (.int .i64 (gn.looks + (sr.1.length : Int)))) := (Kept.of_below (fun k => k = bb) HB5.out).setCell (p := ⟨bb, 8, none⟩) (fun _ => rfl) _
    exact ⟨v6, rfl, hr6, hf6, hbl.below hb6', hk5.below hb6', ⟨_, (hb6'.block _ (by rw [hsz]; exact heap_lt HCB5.out)).trans (heap_setCell_same _ _ _ _ _ _ HCB5.out)⟩, HK5.out, HX5.out⟩
  rcases hcase with ⟨hnil, rfl⟩ | ⟨g5, c5, rfl, hgc⟩
  · have hmk : (min k 0).toNat = 0 := by omega
    have hcl := fun W => cloneH_nil W
    have HCL := hide hcl
    have HNIL := hide hnil
    clear hcl hnil
    go_wp2
    go_region_with (first | (go_at_call 59; refine HLK.out.mono ?_; rintro e6 w6 ⟨rfl, rfl⟩))
    all_goals go_wp2_with fail
    all_goals refine (HCL.out _).mono ?_
    all_goals (rintro e7 w7 ⟨rfl, rfl⟩)
    all_goals go_wp2
    all_goals go_ret2
    all_goals (refine HEND.out _ _ ((Below.refl _ _).drew) ?_ (fun g e => by simp [Value.ownBlock] at e))
    all_goals (rw [HNIL.out, List.take_nil]; exact ⟨rfl, .inl ⟨rfl, rfl⟩⟩)
  · have hml : ((sr.2.take (min k (sr.2.length : Int)).toNat)).length = (min k (ln : Int)).toNat := by
      rw [List.length_take, HLN.out]
      omega
    have hcl := fun W (hr : HRow W (.slice (some ⟨g5, 0, none⟩) sr.2.length c5) sr.2) => cloneH (some ⟨g5, 0, none⟩) (sr.2.take (min k (sr.2.length : Int)).toNat) c5 W (by rw [hml]; omega) ⟨g5, rfl, hcells_take_src hr⟩
    rw [hml] at hcl
    have hr6 : HRow (w5.setCell ⟨bb, 8, none⟩ (.int .i64 (gn.looks + (sr.1.length : Int)))).drew (.slice (some ⟨g5, 0, none⟩) sr.2.length c5) sr.2 := by
      have h5 : HRow w5 (.slice (some ⟨g5, 0, none⟩) sr.2.length c5) sr.2 := by
        rw [HLN.out]; exact HR5.out
      refine ownsRow_of_block h5 fun g e => ?_
      show (w5.setCell ⟨bb, 8, none⟩ _).heap[g]? = _
      exact Below.heap_setCell _ _ _ _ (fun e2 => row_ne h5 HCB5.out (by decide) (by rw [e, e2]))
    have HCL := hide (hcl _ hr6)
    have HSZ : Hid ((w5.setCell ⟨bb, 8, none⟩ (.int .i64 (gn.looks + (sr.1.length : Int)))).drew.heap.size = w5.heap.size) := by
      show _ = _
      simp [World.setCell]
    clear hcl hr6 hml
    go_wp2
    go_region_with (first | (go_at_call 59; refine HLK.out.mono ?_; rintro e6 w6 ⟨rfl, rfl⟩))
    all_goals go_wp2_with fail
    all_goals refine HCL.out.mono ?_
    all_goals (rintro e7 w7 ⟨v7, rfl, r7, f7, b7⟩)
    all_goals (have hb7 : Below w5.heap.size (w5.setCell ⟨bb, 8, none⟩ (.int .i64 (gn.looks + (sr.1.length : Int)))) w7 := by { rw [HSZ.out] at b7; exact ((Below.refl _ _).drew).trans b7 })
    all_goals (have HE7 := hide (HEND.out w7 v7 hb7 r7 (fun g e => by have h1 := f7 g e; rw [HSZ.out] at h1; have := HB5.out.size; omega)))
    all_goals (clear r7 f7 b7 hb7)
    all_goals go_wp2
    all_goals go_ret2
    all_goals exact HE7.out
end Go.Proofs.YtpkiefjanmfgfaaGreatDoor
namespace Go.Proofs.YtpkiefjanmfgfaaGreatDoor

def hle (a b : Hit) : Prop := a.2 < b.2 ∨ (a.2 = b.2 ∧ a.1 ≤ b.1)
theorem hle_refl (a : Hit) : hle a a := .inr ⟨rfl, Int.le_refl _⟩
theorem hle_trans {a b c : Hit} (h1 : hle a b) (h2 : hle b c) : hle a c := by unfold hle at *; omega
theorem hle_total (a b : Hit) : hle a b ∨ hle b a := by unfold hle; omega
theorem farB_iff (a b : Hit) : farB a b = true ↔ ¬ hle a b := by
  unfold farB cmpH orI cmpI hle
  rw [decide_eq_true_iff]
  by_cases h1 : a.2 < b.2
  · simp [h1]
  · by_cases h2 : b.2 < a.2
    · simp [h1, h2]; omega
    · by_cases h3 : a.1 < b.1
      · simp [h1, h2, h3]; omega
      · by_cases h4 : b.1 < a.1
        · simp [h1, h2, h3, h4] <;> omega
        · simp [h1, h2, h3, h4] <;> omega
theorem far_false {a b : Hit} (h : ¬ farB a b = true) : hle a b := by
  rw [farB_iff] at h
  exact Classical.not_not.1 h
theorem far_true {a b : Hit} (h : farB a b = true) : hle b a := (hle_total b a).resolve_right ((farB_iff a b).1 h)

theorem nth_setAt {l : List Hit} {a k : Nat} {x : Hit} (ha : a < l.length) : nth (l.set a x) k = if k = a then x else nth l k := by
  unfold nth
  rw [List.getD_eq_getElem?_getD, List.getD_eq_getElem?_getD]
  by_cases h : k = a
  · subst h
    rw [if_pos rfl, List.getElem?_set_self ha]; rfl
  · rw [if_neg h, List.getElem?_set_ne (fun e => h e.symm)]
theorem nth_swap {l : List Hit} {a b k : Nat} (ha : a < l.length) (hb : b < l.length) : nth (swapL l a b) k = if k = b then nth l a else if k = a then nth l b else nth l k := by
  unfold swapL
  rw [nth_setAt (by rw [List.length_set]; exact hb), nth_setAt ha]

def Hp (l : List Hit) : Prop := ∀ i, 0 < i → i < l.length → hle (nth l i) (nth l ((i - 1) / 2))
theorem Hp.top {l : List Hit} (h : Hp l) : ∀ i, i < l.length → hle (nth l i) (nth l 0) := by
  intro i
  induction i using Nat.strongRecOn with
  | ind i ih =>
    intro hi
    rcases Nat.eq_zero_or_pos i with h0 | h0
    · subst h0; exact hle_refl _
    · exact hle_trans (h i h0 hi) (ih ((i - 1) / 2) (by omega) (by omega))
theorem upL_heap : ∀ (n a : Nat) (l : List Hit), a < l.length → a < n → (∀ i, 0 < i → i < l.length → i ≠ a → hle (nth l i) (nth l ((i - 1) / 2))) → (∀ i, 0 < i → i < l.length → (i - 1) / 2 = a → 0 < a → hle (nth l i) (nth l ((a - 1) / 2))) → Hp (upL 150 n l a)
  | 0, _, _, _, hn, _, _ => absurd hn (Nat.not_lt_zero _)
  | n + 1, a, l, ha, hn, h1, h2 => by
    unfold upL
    split
    · rename_i h0
      intro i hi hl
      exact h1 i hi hl (by omega)
    · rename_i h0
      have hp : (a - 1) / 2 < a := by omega
      split
      · rename_i hf
        have hf' : hle (nth l ((a - 1) / 2)) (nth l a) := far_true hf
        refine upL_heap n ((a - 1) / 2) _ (by rw [swapL_length]; omega) (by omega) (fun i hi hl hne => ?_) (fun i hi hl hpi hp0 => ?_)
        · rw [swapL_length] at hl
          rw [nth_swap ha (by omega), nth_swap ha (by omega), if_neg hne]
          by_cases hia : i = a
          · subst hia
            rw [if_pos rfl, if_pos rfl]; exact hf'
          · rw [if_neg hia]
            by_cases hpp : (i - 1) / 2 = (a - 1) / 2
            · rw [if_pos hpp]
              have := h1 i hi hl hia
              rw [hpp] at this
              exact hle_trans this hf'
            · rw [if_neg hpp]
              by_cases hpa : (i - 1) / 2 = a
              · rw [if_pos hpa]
                exact h2 i hi hl hpa (by omega)
              · rw [if_neg hpa]
                exact h1 i hi hl hia
        · rw [swapL_length] at hl
          have hpp := h1 ((a - 1) / 2) hp0 (by omega) (by omega)
          rw [nth_swap ha (by omega), nth_swap ha (by omega), if_neg (show ¬ i = (a - 1) / 2 by omega), if_neg (show ¬ ((a - 1) / 2 - 1) / 2 = (a - 1) / 2 by omega), if_neg (show ¬ ((a - 1) / 2 - 1) / 2 = a by omega)]
          by_cases hia : i = a
          · rw [if_pos hia]; exact hpp
          · rw [if_neg hia]
            have := h1 i hi hl hia
            rw [hpi] at this
            exact hle_trans this hpp
      · rename_i hf
        intro i hi hl
        by_cases hia : i = a
        · subst hia; exact far_false hf
        · exact h1 i hi hl hia
theorem nth_append_left {l m : List Hit} {k : Nat} (h : k < l.length) : nth (l ++ m) k = nth l k := by
  unfold nth
  rw [List.getD_eq_getElem?_getD, List.getD_eq_getElem?_getD, List.getElem?_append_left h]
theorem pushL_heap {l : List Hit} (h : Hp l) (x : Hit) : Hp (pushL 150 l x) := by
  unfold pushL
  refine upL_heap _ _ _ (by simp) (by omega) (fun i hi hl hne => ?_) (fun i hi hl hp h0 => ?_)
  · simp at hl
    rw [nth_append_left (by omega), nth_append_left (by omega)]
    exact h i hi (by omega)
  · simp at hl
    omega
theorem pick_le {l : List Hit} {a b : Nat} : hle (nth l a) (nth l (pickL 150 l a b)) ∧ (b < l.length → hle (nth l b) (nth l (pickL 150 l a b))) := by
  unfold pickL
  split
  · rename_i h
    exact ⟨far_true h.2, fun _ => hle_refl _⟩
  · rename_i h
    refine ⟨hle_refl _, fun hb => far_false (fun hf => h ⟨hb, hf⟩)⟩
theorem downL_heap : ∀ (n a : Nat) (l : List Hit), a < l.length → l.length ≤ a + n → (∀ i, 0 < i → i < l.length → (i - 1) / 2 ≠ a → hle (nth l i) (nth l ((i - 1) / 2))) → (∀ i, 0 < i → i < l.length → (i - 1) / 2 = a → 0 < a → hle (nth l i) (nth l ((a - 1) / 2))) → Hp (downL 150 n l a)
  | 0, a, l, ha, hn, _, _ => absurd hn (by omega)
  | n + 1, a, l, ha, hn, h1, h2 => by
    have p1 := pick_le (l := l) (a := a) (b := 2 * a + 1)
    have p2 := pick_le (l := l) (a := pickL 150 l a (2 * a + 1)) (b := 2 * a + 2)
    have ha2 : hle (nth l a) (nth l (pickL 150 l (pickL 150 l a (2 * a + 1)) (2 * a + 2))) := hle_trans p1.1 p2.1
    have hch : ∀ i, 0 < i → i < l.length → (i - 1) / 2 = a → hle (nth l i) (nth l (pickL 150 l (pickL 150 l a (2 * a + 1)) (2 * a + 2))) := fun i hi hl hp => by
      have : i = 2 * a + 1 ∨ i = 2 * a + 2 := by omega
      rcases this with rfl | rfl
      · exact hle_trans (p1.2 hl) p2.1
      · exact p2.2 hl
    have hfl : pickL 150 l (pickL 150 l a (2 * a + 1)) (2 * a + 2) < l.length := pickL_lt (pickL_lt ha)
    have hfc : pickL 150 l (pickL 150 l a (2 * a + 1)) (2 * a + 2) = a ∨ pickL 150 l (pickL 150 l a (2 * a + 1)) (2 * a + 2) = 2 * a + 1 ∨ pickL 150 l (pickL 150 l a (2 * a + 1)) (2 * a + 2) = 2 * a + 2 := by
      rcases pickL_or 150 l (pickL 150 l a (2 * a + 1)) (2 * a + 2) with h | h
      · rcases pickL_or 150 l a (2 * a + 1) with h' | h'
        · rw [h, h']; exact .inl rfl
        · rw [h, h']; exact .inr (.inl rfl)
      · rw [h]; exact .inr (.inr rfl)
    unfold downL
    generalize pickL 150 l (pickL 150 l a (2 * a + 1)) (2 * a + 2) = f at ha2 hch hfl hfc
    split
    · rename_i hfa
      subst hfa
      intro i hi hl
      by_cases hp : (i - 1) / 2 = f
      · rw [hp]; exact hch i hi hl hp
      · exact h1 i hi hl hp
    · rename_i hfa
      have hfp : (f - 1) / 2 = a ∧ a < f := by omega
      refine downL_heap n f _ (by rw [swapL_length]; exact hfl) (by rw [swapL_length]; omega) (fun i hi hl hne => ?_) (fun i hi hl hpi h0 => ?_)
      · rw [swapL_length] at hl
        rw [nth_swap ha hfl, nth_swap ha hfl, if_neg hne]
        by_cases hif : i = f
        · subst hif
          rw [if_pos rfl, if_pos hfp.1]; exact ha2
        · rw [if_neg hif]
          by_cases hia : i = a
          · subst hia
            rw [if_pos rfl, if_neg (show ¬ (i - 1) / 2 = i by omega)]
            exact h2 f (by omega) hfl hfp.1 hi
          · rw [if_neg hia]
            by_cases hpa : (i - 1) / 2 = a
            · rw [if_pos hpa]; exact hch i hi hl hpa
            · rw [if_neg hpa]; exact h1 i hi hl hpa
      · rw [swapL_length] at hl
        rw [nth_swap ha hfl, nth_swap ha hfl, if_neg (show ¬ i = f by omega), if_neg (show ¬ i = a by omega), if_neg (show ¬ (f - 1) / 2 = f by omega), if_pos hfp.1]
        have := h1 i hi hl (by omega)
        rw [hpi] at this
        exact this
theorem nth_take {l : List Hit} {n k : Nat} (h : k < n) : nth (l.take n) k = nth l k := by
  unfold nth
  rw [List.getD_eq_getElem?_getD, List.getD_eq_getElem?_getD, List.getElem?_take_of_lt h]
theorem popL_heap {l : List Hit} (h : Hp l) : Hp (popL 150 l) := by
  unfold popL
  rcases Nat.lt_or_ge 1 l.length with hl | hl
  · refine downL_heap _ 0 _ (by simp; omega) (by simp) (fun i hi hil hne => ?_) (fun i hi hil hp h0 => absurd h0 (Nat.lt_irrefl _))
    simp at hil
    rw [nth_take (by omega), nth_take (by omega), nth_setAt (by omega), nth_setAt (by omega), if_neg (by omega), if_neg hne]
    exact h i hi (by omega)
  · intro i hi hil
    rw [downL_length] at hil
    simp at hil
    omega
theorem set_set_permL {l : List Hit} {a b : Nat} (ha : a < l.length) (hb : b < l.length) : (swapL l a b).Perm l := by
  unfold swapL nth
  rw [List.getD_eq_getElem?_getD, List.getD_eq_getElem?_getD, List.getElem?_eq_getElem ha, List.getElem?_eq_getElem hb]
  exact List.set_set_perm ha hb
theorem upL_perm {fk : Nat} : ∀ (n a : Nat) (l : List Hit), a < l.length → (upL fk n l a).Perm l
  | 0, _, _, _ => List.Perm.refl _
  | n + 1, a, l, ha => by
    unfold upL
    split
    · exact List.Perm.refl _
    · split
      · exact (upL_perm n _ _ (by rw [swapL_length]; omega)).trans (set_set_permL ha (by omega))
      · exact List.Perm.refl _
theorem downL_perm {fk : Nat} : ∀ (n a : Nat) (l : List Hit), a < l.length → (downL fk n l a).Perm l
  | 0, _, _, _ => List.Perm.refl _
  | n + 1, a, l, ha => by
    unfold downL
    split
    · exact List.Perm.refl _
    · exact (downL_perm n _ _ (by rw [swapL_length]; exact pickL_lt (pickL_lt ha))).trans (set_set_permL ha (pickL_lt (pickL_lt ha)))
theorem pushL_perm {fk : Nat} (l : List Hit) (x : Hit) : (pushL fk l x).Perm (x :: l) := by
  unfold pushL
  exact (upL_perm _ _ _ (by simp)).trans (List.perm_append_singleton x l)
theorem popL_perm {fk : Nat} {x : Hit} {l : List Hit} : (popL fk (x :: l)).Perm l := by
  unfold popL
  rcases List.eq_nil_or_concat l with rfl | ⟨m, y, rfl⟩
  · simp [downL]
  · have e1 : nth (x :: (m ++ [y])) ((x :: (m ++ [y])).length - 1) = y := by
      unfold nth
      simp [List.getD_eq_getElem?_getD]
    have e2 : ((x :: (m ++ [y])).set 0 y).take ((x :: (m ++ [y])).length - 1) = y :: m := by
      simp
    rw [List.concat_eq_append] at *
    rw [e1, e2]
    exact (downL_perm _ _ _ (by simp)).trans (List.perm_append_singleton y m).symm
theorem drainL_perm : ∀ (n : Nat) (l : List Hit), n = l.length → (drainL n l).Perm l
  | 0, l, h => by
    rw [List.eq_nil_of_length_eq_zero h.symm]; exact List.Perm.refl _
  | n + 1, [], h => by cases h
  | n + 1, x :: l, h => by
    unfold drainL
    have hp := popL_perm (fk := 150) (x := x) (l := l)
    have := drainL_perm n (popL 150 (x :: l)) (by rw [hp.length_eq]; simpa using h)
    have e : nth (x :: l) 0 = x := rfl
    rw [e]
    exact (List.perm_append_singleton x _).trans ((this.trans hp).cons x)
theorem drainL_sorted : ∀ (n : Nat) (l : List Hit), n = l.length → Hp l → (drainL n l).Pairwise hle
  | 0, _, _, _ => List.Pairwise.nil
  | n + 1, l, h, hh => by
    unfold drainL
    rw [List.pairwise_append]
    refine ⟨drainL_sorted n _ (by rw [popL_length]; omega) (popL_heap hh), List.pairwise_singleton _ _, fun a ha b hb => ?_⟩
    rw [List.mem_singleton.1 hb]
    have hm := mem_popL (mem_drainL (by rw [popL_length]; omega) ha)
    obtain ⟨i, hi, rfl⟩ := List.getElem_of_mem hm
    have := hh.top i hi
    unfold nth at this
    rw [List.getD_eq_getElem?_getD, List.getElem?_eq_getElem hi] at this
    exact this
end Go.Proofs.YtpkiefjanmfgfaaGreatDoor
namespace Go.Proofs.YtpkiefjanmfgfaaGreatDoor

structure FInv (want : Int → Bool) (width : Int) (s : AS) : Prop where
  hp : Hp s.Fd
  nod : (s.Fd.map (·.1)).Nodup
  sub : ∀ h ∈ s.Fd, h.1 ∈ s.met ∧ want h.1 = true
  cnt : (s.Fd.length : Int) = min width ((s.met.filter want).length : Int)
theorem popL_nodup {l : List Hit} (h : (l.map (·.1)).Nodup) : ((popL 150 l).map (·.1)).Nodup := by
  cases l with
  | nil => simp [popL, downL]
  | cons x l =>
    have hp := (popL_perm (fk := 150) (x := x) (l := l)).map (·.1)
    rw [hp.nodup_iff]
    rw [List.map_cons, List.nodup_cons] at h
    exact h.2
theorem FInv.meet {want : Int → Bool} {width : Int} {s : AS} (h : FInv want width s) (_hw : 0 < width) (dd : Int → Int) (id : Int) : FInv want width (meetL dd want width s id) := by
  unfold meetL
  split
  · exact h
  · rename_i hm
    by_cases hwt : want id = true
    · have e : (List.filter want (id :: s.met)).length = (s.met.filter want).length + 1 := by rw [List.filter_cons_of_pos hwt]; rfl
      have hpn : ((pushL 150 s.Fd (id, dd id)).map (·.1)).Nodup := by
        rw [((pushL_perm s.Fd (id, dd id)).map (·.1)).nodup_iff, List.map_cons, List.nodup_cons]
        refine ⟨fun hx => ?_, h.nod⟩
        obtain ⟨y, hy, e⟩ := List.mem_map.1 hx
        have e' : y.1 = id := e
        exact hm (e' ▸ (h.sub y hy).1)
      have hps : ∀ y ∈ pushL 150 s.Fd (id, dd id), y.1 ∈ id :: s.met ∧ want y.1 = true := fun y hy => by
        rcases mem_pushL hy with rfl | hy
        · exact ⟨List.mem_cons_self, hwt⟩
        · exact ⟨List.mem_cons_of_mem _ (h.sub y hy).1, (h.sub y hy).2⟩
      have hc := h.cnt
      refine ⟨?_, ?_, fun y hy => ?_, ?_⟩
      · simp only [hwt, if_true]
        unfold addL
        split
        · exact popL_heap (pushL_heap h.hp _)
        · exact pushL_heap h.hp _
      · simp only [hwt, if_true]
        unfold addL
        split
        · exact popL_nodup hpn
        · exact hpn
      · simp only [hwt, if_true] at hy
        unfold addL at hy
        split at hy
        · exact hps y (mem_popL hy)
        · exact hps y hy
      · simp only [hwt, if_true]
        show ((addL width s.Fd (id, dd id)).length : Int) = min width ((List.filter want (id :: s.met)).length : Int)
        rw [e]
        unfold addL
        split
        · rename_i h1
          rw [pushL_length] at h1
          rw [popL_length, pushL_length]
          omega
        · rename_i h1
          rw [pushL_length] at h1
          rw [pushL_length]
          omega
    · have hwf : want id = false := by simpa using hwt
      refine ⟨?_, ?_, fun y hy => ?_, ?_⟩
      · simp only [hwf]; exact h.hp
      · simp only [hwf]; exact h.nod
      · simp only [hwf] at hy
        exact ⟨List.mem_cons_of_mem _ (h.sub y hy).1, (h.sub y hy).2⟩
      · simp only [hwf]
        show ((if false = true then _ else s.Fd).length : Int) = min width ((List.filter want (id :: s.met)).length : Int)
        rw [List.filter_cons_of_neg (by rw [hwf]; decide)]
        exact h.cnt
theorem FInv.meetAll {want : Int → Bool} {width : Int} (hw : 0 < width) (dd : Int → Int) : ∀ {l : List Int} {s : AS}, FInv want width s → FInv want width (meetAll dd want width s l)
  | [], _, h => h
  | x :: l, _, h => FInv.meetAll (l := l) hw dd (h.meet hw dd x)
theorem FInv.run {want : Int → Bool} {width : Int} (hw : 0 < width) (dd : Int → Int) {nb : Int → List Int} : ∀ (n : Nat) {s : AS}, FInv want width s → FInv want width (runS dd want width nb n s)
  | 0, _, h => h
  | n + 1, s, h => by
    unfold runS
    split
    · have hp : FInv want width (popS s) := ⟨h.hp, h.nod, h.sub, h.cnt⟩
      exact FInv.run hw dd n (hp.meetAll hw dd)
    · exact h

def Cl (nb : Int → List Int) (ex : Int → Prop) (s : AS) : Prop := ∀ x ∈ s.met, ex x ∨ (∃ h ∈ s.C, h.1 = x) ∨ ∀ y ∈ nb x, y ∈ s.met
theorem meetL_met {dd : Int → Int} {want : Int → Bool} {width : Int} {s : AS} {id : Int} : (∀ x ∈ s.met, x ∈ (meetL dd want width s id).met) ∧ id ∈ (meetL dd want width s id).met := by
  unfold meetL
  split
  · rename_i h; exact ⟨fun x hx => hx, h⟩
  · exact ⟨fun x hx => List.mem_cons_of_mem _ hx, List.mem_cons_self⟩
theorem Cl.meet {nb : Int → List Int} {ex : Int → Prop} {s : AS} (h : Cl nb ex s) (dd : Int → Int) (want : Int → Bool) (width : Int) (id : Int) : Cl nb ex (meetL dd want width s id) := by
  have hmono := (meetL_met (dd := dd) (want := want) (width := width) (s := s) (id := id)).1
  intro x hx
  by_cases hin : x ∈ s.met
  · rcases h x hin with h1 | ⟨y, hy, e⟩ | h1
    · exact .inl h1
    · refine .inr (.inl ⟨y, ?_, e⟩)
      unfold meetL
      split
      · exact hy
      · exact ((pushL_perm s.C (id, dd id)).mem_iff).2 (List.mem_cons_of_mem _ hy)
    · exact .inr (.inr fun y hy => hmono y (h1 y hy))
  · unfold meetL at hx ⊢
    split at hx
    · exact absurd hx hin
    · rename_i hm
      rcases List.mem_cons.1 hx with rfl | hx
      · rw [if_neg hm]
        exact .inr (.inl ⟨(x, dd x), ((pushL_perm s.C (x, dd x)).mem_iff).2 List.mem_cons_self, rfl⟩)
      · exact absurd hx hin
theorem Cl.meetAll {nb : Int → List Int} {ex : Int → Prop} (dd : Int → Int) (want : Int → Bool) (width : Int) : ∀ {l : List Int} {s : AS}, Cl nb ex s → Cl nb ex (meetAll dd want width s l)
  | [], _, h => h
  | x :: l, _, h => Cl.meetAll (l := l) dd want width (h.meet dd want width x)
theorem meetAll_met (dd : Int → Int) (want : Int → Bool) (width : Int) : ∀ {l : List Int} {s : AS}, (∀ x ∈ s.met, x ∈ (meetAll dd want width s l).met) ∧ ∀ x ∈ l, x ∈ (meetAll dd want width s l).met
  | [], _ => ⟨fun x hx => hx, fun x hx => absurd hx List.not_mem_nil⟩
  | y :: l, s => by
    have h1 := meetL_met (dd := dd) (want := want) (width := width) (s := s) (id := y)
    have h2 := meetAll_met dd want width (l := l) (s := meetL dd want width s y)
    refine ⟨fun x hx => h2.1 x (h1.1 x hx), fun x hx => ?_⟩
    rcases List.mem_cons.1 hx with rfl | hx
    · exact h2.1 x h1.2
    · exact h2.2 x hx
theorem Cl.step {nb : Int → List Int} {s : AS} (h : Cl nb (fun _ => False) s) (dd : Int → Int) (want : Int → Bool) (width : Int) (hC : 0 < s.C.length) : Cl nb (fun _ => False) (stepS dd want width nb s) := by
  obtain ⟨t, C', hCe⟩ : ∃ t C', s.C = t :: C' := by
    cases hc : s.C with
    | nil => rw [hc] at hC; exact absurd hC (Nat.lt_irrefl _)
    | cons t C' => exact ⟨t, C', rfl⟩
  have hp : Cl nb (fun x => x = t.1) (popS s) := fun x hx => by
    rcases h x hx with h1 | ⟨y, hy, e⟩ | h1
    · exact h1.elim
    · rw [hCe] at hy
      rcases List.mem_cons.1 hy with rfl | hy
      · exact .inl e.symm
      · refine .inr (.inl ⟨y, ?_, e⟩)
        show y ∈ popL 104 s.C
        rw [hCe]
        exact ((popL_perm (fk := 104) (x := t) (l := C')).mem_iff).2 hy
    · exact .inr (.inr h1)
  have ht : nth s.C 0 = t := by rw [hCe]; rfl
  intro x hx
  unfold stepS at hx ⊢
  rw [ht] at hx ⊢
  rcases hp.meetAll dd want width x hx with h1 | h1 | h1
  · subst h1
    exact .inr (.inr fun y hy => (meetAll_met dd want width (l := nb t.1) (s := popS s)).2 y hy)
  · exact .inr (.inl h1)
  · exact .inr (.inr h1)
theorem run_end {ids : List Int} {dd : Int → Int} (want : Int → Bool) (width : Int) {nb : Int → List Int} (hnb : ∀ i ∈ ids, ∀ x ∈ nb i, x ∈ ids) : ∀ (n : Nat) {s : AS}, ASOk ids dd s → s.mu ids.length ≤ n → Cl nb (fun _ => False) s → onward width (runS dd want width nb n s) = false ∧ Cl nb (fun _ => False) (runS dd want width nb n s) ∧ (∀ x ∈ s.met, x ∈ (runS dd want width nb n s).met) ∧ ASOk ids dd (runS dd want width nb n s)
  | 0, s, h, hm, hc => by
    have : s.C.length = 0 := by unfold AS.mu at hm; omega
    refine ⟨?_, hc, fun x hx => hx, h⟩
    show onward width s = false
    unfold onward
    rw [this]; rfl
  | n + 1, s, h, hm, hc => by
    unfold runS
    split
    · rename_i ho
      obtain ⟨h1, h2⟩ := h.step want width hnb ho
      have hC : 0 < s.C.length := by
        unfold onward at ho
        simp at ho
        exact ho.1
      obtain ⟨a, b, c, d⟩ := run_end want width hnb n h1 (by omega) (hc.step dd want width hC)
      refine ⟨a, b, fun x hx => c x ?_, d⟩
      unfold stepS
      exact (meetAll_met dd want width (s := popS s)).1 x hx
    · rename_i ho
      exact ⟨by simpa using ho, hc, fun x hx => hx, h⟩

theorem alongR_spec {ids : List Int} {dd : Int → Int} {want : Int → Bool} {width : Int} {nb : Int → List Int} {kn : List (Int × Int)} {st : List Hit} (hw : 0 < width) (hnb : ∀ i ∈ ids, ∀ x ∈ nb i, x ∈ ids) (hkn : KnOk ids dd kn) (hst : ∀ x ∈ st, x.1 ∈ ids) :
    (alongR dd want width nb ids.length kn st).2.Pairwise hle ∧ ((alongR dd want width nb ids.length kn st).2.map (·.1)).Nodup ∧ (∀ h ∈ (alongR dd want width nb ids.length kn st).2, h.1 ∈ ids ∧ h.2 = dd h.1 ∧ want h.1 = true) ∧
      ((alongR dd want width nb ids.length kn st).2.length : Int) ≤ width ∧ (width ≤ ((alongR dd want width nb ids.length kn st).2.length : Int) ∨ ∃ M : List Int, (∀ x ∈ st, x.1 ∈ M) ∧ (∀ x ∈ M, ∀ y ∈ nb x, y ∈ M) ∧ ((alongR dd want width nb ids.length kn st).2.length : Int) = min width ((M.filter want).length : Int)) := by
  have hsl : ∀ x ∈ st.map (·.1), x ∈ ids := fun x hx => by
    obtain ⟨y, hy, rfl⟩ := List.mem_map.1 hx
    exact hst y hy
  have h0 : FInv want width (begS kn) := ⟨fun i _ hl => absurd hl (Nat.not_lt_zero _), List.nodup_nil, fun _ hx => absurd hx List.not_mem_nil, by show (0 : Int) = min width 0; omega⟩
  have hc0 : Cl nb (fun _ => False) (begS kn) := fun x hx => absurd hx List.not_mem_nil
  have h1 := h0.meetAll hw dd (l := st.map (·.1))
  have hc1 := hc0.meetAll dd want width (l := st.map (·.1))
  obtain ⟨ha, _⟩ := ASOk.meetAll want width (l := st.map (·.1)) hkn.beg hsl
  have hm1 := (meetAll_met dd want width (l := st.map (·.1)) (s := begS kn)).2
  obtain ⟨e1, e2, e3, e4⟩ := run_end want width hnb ((meetAll dd want width (begS kn) (st.map (·.1))).mu ids.length) ha (Nat.le_refl _) hc1
  have hf := h1.run hw dd (nb := nb) ((meetAll dd want width (begS kn) (st.map (·.1))).mu ids.length)
  unfold alongR
  simp only
  generalize runS dd want width nb ((meetAll dd want width (begS kn) (st.map (·.1))).mu ids.length) (meetAll dd want width (begS kn) (st.map (·.1))) = sF at e1 e2 e3 e4 hf
  have hperm := drainL_perm sF.Fd.length sF.Fd rfl
  refine ⟨drainL_sorted _ _ rfl hf.hp, ?_, fun h hh => ?_, ?_, ?_⟩
  · rw [(hperm.map (·.1)).nodup_iff]; exact hf.nod
  · have hm := hperm.mem_iff.1 hh
    exact ⟨e4.sub _ (e4.fm h hm).1, (e4.fm h hm).2, (hf.sub h hm).2⟩
  · rw [drainL_length]
    have := hf.cnt
    omega
  · rw [drainL_length]
    unfold onward at e1
    rcases Nat.eq_zero_or_pos sF.C.length with hz | hz
    · right
      have hCn : sF.C = [] := List.eq_nil_of_length_eq_zero hz
      refine ⟨sF.met, fun x hx => e3 _ (hm1 _ (List.mem_map.2 ⟨x, hx, rfl⟩)), fun x hx y hy => ?_, hf.cnt⟩
      rcases e2 x hx with h | ⟨z, hz', _⟩ | h
      · exact h.elim
      · rw [hCn] at hz'; cases hz'
      · exact h y hy
    · left
      have : leadsL width sF.Fd (nth sF.C 0) = false := by
        simpa [hz] using e1
      unfold leadsL at this
      split at this
      · cases this
      · omega

theorem chain_all {lk : Int × Int → List Int} {ch : List Int} (hn : ch.Nodup) {M : List Int} (hM : ∀ x ∈ M, ∀ y ∈ reachedL lk ch x 0, y ∈ M) {x : Int} (hx : x ∈ ch) (hxM : x ∈ M) : ∀ y ∈ ch, y ∈ M := by
  have hb : ∀ x ∈ M, ∀ y ∈ besideL ch x, y ∈ M := fun x hx y hy => hM x hx y (by unfold reachedL; rw [if_pos rfl]; exact List.mem_append.2 (.inr hy))
  have hidx : ∀ k (hk : k < ch.length), ch.idxOf ch[k] = k := fun k hk => hn.idxOf_getElem k hk
  have hgd : ∀ k (hk : k < ch.length), ch.getD k 0 = ch[k] := fun k hk => by rw [List.getD_eq_getElem?_getD, List.getElem?_eq_getElem hk]; rfl
  have hup : ∀ k (hk : k + 1 < ch.length), ch[k] ∈ M → ch[k + 1] ∈ M := fun k hk h => hb _ h _ (by
    unfold besideL
    rw [if_pos (List.getElem_mem _), hidx k (by omega)]
    refine List.mem_append.2 (.inr ?_)
    unfold behind1
    rw [if_pos hk, hgd (k + 1) hk]
    exact List.mem_singleton.2 rfl)
  have hdn : ∀ k (hk : k + 1 < ch.length), ch[k + 1] ∈ M → ch[k] ∈ M := fun k hk h => hb _ h _ (by
    unfold besideL
    rw [if_pos (List.getElem_mem _), hidx (k + 1) hk]
    refine List.mem_append.2 (.inl ?_)
    unfold ahead1
    rw [if_pos (by omega), Nat.add_sub_cancel, hgd k (by omega)]
    exact List.mem_singleton.2 rfl)
  obtain ⟨k0, hk0, rfl⟩ := List.getElem_of_mem hx
  have up : ∀ d (hd : k0 + d < ch.length), ch[k0 + d] ∈ M := by
    intro d
    induction d with
    | zero => intro _; exact hxM
    | succ d ih => intro hd; exact hup (k0 + d) hd (ih (by omega))
  have dn : ∀ d, d ≤ k0 → ∀ hd : k0 - d < ch.length, ch[k0 - d] ∈ M := by
    intro d
    induction d with
    | zero => intro _ _; exact hxM
    | succ d ih =>
      intro hle hd
      have h1 := ih (by omega) (by omega)
      have e : k0 - d = k0 - (d + 1) + 1 := by omega
      have h2 : ch[k0 - (d + 1) + 1]'(by omega) ∈ M := by
        have : ch[k0 - (d + 1) + 1]'(by omega) = ch[k0 - d]'(by omega) := by congr 1; omega
        rw [this]; exact h1
      exact hdn (k0 - (d + 1)) (by omega) h2
  intro y hy
  obtain ⟨j, hj, rfl⟩ := List.getElem_of_mem hy
  rcases Nat.le_total k0 j with h | h
  · have := up (j - k0) (by omega)
    have e : ch[k0 + (j - k0)]'(by omega) = ch[j] := by congr 1; omega
    rw [← e]; exact this
  · have := dn (k0 - j) (by omega) (by omega)
    have e : ch[k0 - (k0 - j)]'(by omega) = ch[j] := by congr 1; omega
    rw [← e]; exact this
end Go.Proofs.YtpkiefjanmfgfaaGreatDoor
namespace Go.Proofs.YtpkiefjanmfgfaaGreatDoor
open Go.RowKit Go.Maps

theorem alongR_known {ids : List Int} {dd : Int → Int} {want : Int → Bool} {width : Int} {nb : Int → List Int} {kn : List (Int × Int)} {st : List Hit} (hnb : ∀ i ∈ ids, ∀ x ∈ nb i, x ∈ ids) (hkn : KnOk ids dd kn) (hst : ∀ x ∈ st, x.1 ∈ ids) : KnOk ids dd (alongR dd want width nb ids.length kn st).1 := by
  have hsl : ∀ x ∈ st.map (·.1), x ∈ ids := fun x hx => by
    obtain ⟨y, hy, rfl⟩ := List.mem_map.1 hx
    exact hst y hy
  obtain ⟨ha, _⟩ := ASOk.meetAll want width (l := st.map (·.1)) hkn.beg hsl
  exact (run_end want width hnb _ ha (Nat.le_refl _) (Cl.meetAll (nb := nb) (ex := fun _ => False) dd want width (fun x hx => absurd hx List.not_mem_nil))).2.2.2.know
theorem along_one {ids : List Int} {dd : Int → Int} {nb : Int → List Int} {kn : List (Int × Int)} {st : List Hit} (hnb : ∀ i ∈ ids, ∀ x ∈ nb i, x ∈ ids) (hkn : KnOk ids dd kn) (hst : ∀ x ∈ st, x.1 ∈ ids) (h0 : st ≠ []) : (alongR dd (fun _ => true) 1 nb ids.length kn st).2 ≠ [] := by
  obtain ⟨_, _, _, _, h⟩ := alongR_spec (dd := dd) (want := fun _ => true) (width := 1) (by omega) hnb hkn hst
  intro e
  rw [e] at h
  rcases h with h | ⟨M, h1, _, h3⟩
  · simp at h
  · obtain ⟨x, hx⟩ := List.exists_mem_of_ne_nil _ h0
    have hm := h1 x hx
    have : 0 < (M.filter fun _ => true).length := List.length_pos_of_mem (List.mem_filter.2 ⟨hm, rfl⟩)
    simp only [List.length_nil] at h3
    omega
theorem dnR_one {ids : List Int} {dd : Int → Int} {lk : Int × Int → List Int} {ch : List Int} (hnb : ∀ l : Int, ∀ i ∈ ids, ∀ x ∈ reachedL lk ch i l, x ∈ ids) : ∀ (n : Nat) (l : Int) (p : List (Int × Int) × List Hit), KnOk ids dd p.1 → (∀ x ∈ p.2, x.1 ∈ ids) → p.2 ≠ [] → (dnR dd lk ch ids.length n l p).2 ≠ [] ∧ KnOk ids dd (dnR dd lk ch ids.length n l p).1 ∧ ∀ x ∈ (dnR dd lk ch ids.length n l p).2, x.1 ∈ ids
  | 0, _, p, h1, h2, h3 => ⟨h3, h1, h2⟩
  | n + 1, l, p, h1, h2, h3 => by
    unfold dnR
    have hs := alongR_spec (dd := dd) (want := fun _ => true) (width := 1) (by omega) (hnb l) h1 h2
    exact dnR_one hnb n (l - 1) _ (alongR_known (hnb l) h1 h2) (fun x hx => (hs.2.2.1 x hx).1) (along_one (hnb l) h1 h2 h3)

def passL (F : List (List Cnd)) (L : List Ent) : List Ent := L.filter fun e => passB F e.t0 e.t1
theorem findE_of_mem {L : List Ent} (hr : Rising L) {e : Ent} (he : e ∈ L) : findE e.id L = some e := by
  induction L with
  | nil => cases he
  | cons y r ih =>
    obtain ⟨h1, h2⟩ := List.pairwise_cons.1 hr
    unfold findE
    rw [List.find?_cons]
    rcases List.mem_cons.1 he with rfl | he
    · simp
    · have := h1 e he
      have hne : ¬ y.id = e.id := by omega
      simp only [hne, decide_false]
      exact ih h2 he
theorem rising_nodup {L : List Ent} (h : Rising L) : (L.map (·.id)).Nodup := by
  unfold Rising at h
  rw [List.Nodup, List.pairwise_map]
  exact h.imp (fun h => by omega)

def MK (s : AS) : Prop := ∀ x ∈ s.met, x ∈ s.kn.map (·.1)
theorem MK.meet {s : AS} (h : MK s) (dd : Int → Int) (want : Int → Bool) (width : Int) (id : Int) : MK (meetL dd want width s id) := by
  unfold meetL
  split
  · exact h
  · intro x hx
    show x ∈ (knowL dd s.kn id).map (·.1)
    have hsub : ∀ y ∈ s.kn.map (·.1), y ∈ (knowL dd s.kn id).map (·.1) := fun y hy => by
      unfold knowL
      split
      · rw [List.map_cons]; exact List.mem_cons_of_mem _ hy
      · exact hy
    rcases List.mem_cons.1 hx with rfl | hx
    · unfold knowL
      split
      · rw [List.map_cons]; exact List.mem_cons_self
      · rename_i hl
        obtain ⟨t, ht⟩ := Option.ne_none_iff_exists'.1 hl
        exact List.mem_map.2 ⟨_, levOf_mem ht, rfl⟩
    · exact hsub x (h x hx)
theorem MK.meetAll (dd : Int → Int) (want : Int → Bool) (width : Int) : ∀ {l : List Int} {s : AS}, MK s → MK (meetAll dd want width s l)
  | [], _, h => h
  | x :: l, _, h => MK.meetAll (l := l) dd want width (h.meet dd want width x)
theorem MK.run (dd : Int → Int) (want : Int → Bool) (width : Int) {nb : Int → List Int} : ∀ (n : Nat) {s : AS}, MK s → MK (runS dd want width nb n s)
  | 0, _, h => h
  | n + 1, s, h => by
    unfold runS
    split
    · have hp : MK (popS s) := h
      exact MK.run dd want width n (hp.meetAll dd want width)
    · exact h
theorem along_knows {ids : List Int} {dd : Int → Int} {want : Int → Bool} {width : Int} {nb : Int → List Int} {kn : List (Int × Int)} {st : List Hit} (hw : 0 < width) (hnb : ∀ i ∈ ids, ∀ x ∈ nb i, x ∈ ids) (hkn : KnOk ids dd kn) (hst : ∀ x ∈ st, x.1 ∈ ids) : (alongR dd want width nb ids.length kn st).2.length ≤ (alongR dd want width nb ids.length kn st).1.length := by
  have hs := alongR_spec (dd := dd) (want := want) hw hnb hkn hst
  have h0 : MK (begS kn) := fun x hx => absurd hx List.not_mem_nil
  have h1 := (h0.meetAll dd want width (l := st.map (·.1))).run dd want width (nb := nb) ((meetAll dd want width (begS kn) (st.map (·.1))).mu ids.length)
  have f0 : FInv want width (begS kn) := ⟨fun i _ hl => absurd hl (Nat.not_lt_zero _), List.nodup_nil, fun _ hx => absurd hx List.not_mem_nil, by show (0 : Int) = min width 0; omega⟩
  have f1 := (f0.meetAll hw dd (l := st.map (·.1))).run hw dd (nb := nb) ((meetAll dd want width (begS kn) (st.map (·.1))).mu ids.length)
  have hn := hs.2.1
  unfold alongR at hn ⊢
  simp only at hn ⊢
  generalize runS dd want width nb ((meetAll dd want width (begS kn) (st.map (·.1))).mu ids.length) (meetAll dd want width (begS kn) (st.map (·.1))) = sF at h1 f1 hn ⊢
  have := List.Nodup.length_le_of_subset (l₂ := sF.kn.map (·.1)) hn (fun x hx => by
    obtain ⟨y, hy, rfl⟩ := List.mem_map.1 hx
    exact h1 _ (f1.sub y ((drainL_perm sF.Fd.length sF.Fd rfl).mem_iff.1 hy)).1)
  simpa using this

theorem srR_spec {w : World} {bb bs bm : Nat} {cf : Cf} {gn : Net} {L : List Ent} (h : BaseAt w bb bs bm cf gn L) (xs : List Int) (F : List (List Cnd)) (width : Int) (hw : 0 < width) :
    (srR cf gn L xs F width).2.Pairwise hle ∧ ((srR cf gn L xs F width).2.map (·.1)).Nodup ∧ (∀ x ∈ (srR cf gn L xs F width).2, ∃ e ∈ passL F L, x = (e.id, distL cf.metric xs e.pt)) ∧ ((srR cf gn L xs F width).2.length : Int) ≤ width ∧ min width ((passL F L).length : Int) ≤ ((srR cf gn L xs F width).2.length : Int) ∧ (srR cf gn L xs F width).2.length ≤ (srR cf gn L xs F width).1.length ∧ (srR cf gn L xs F width).1.length ≤ L.length := by
  have hnb := h.ok.ok.nb
  have hd : KnOk (gn.lev.map (·.1)) (qd cf.metric xs L) (downR (qd cf.metric xs L) gn.lev gn.lk gn.ch (gn.lev.map (·.1)).length [] 0).1 ∧ (∀ x ∈ (downR (qd cf.metric xs L) gn.lev gn.lk gn.ch (gn.lev.map (·.1)).length [] 0).2, x.1 ∈ gn.lev.map (·.1)) ∧ (gn.lev ≠ [] → (downR (qd cf.metric xs L) gn.lev gn.lk gn.ch (gn.lev.map (·.1)).length [] 0).2 ≠ []) := by
    have hk0 : KnOk (gn.lev.map (·.1)) (qd cf.metric xs L) [] := ⟨List.nodup_nil, fun _ hp => absurd hp List.not_mem_nil, fun _ hp => absurd hp List.not_mem_nil⟩
    unfold downR
    split
    · rename_i e
      exact ⟨hk0, fun x hx => absurd hx List.not_mem_nil, fun hne => absurd e hne⟩
    · rename_i hne
      have hm := entrL_mem (fun p hp => (h.ok.ok.lev5 p hp).1) hne
      have hin : (entrL gn.lev).1 ∈ gn.lev.map (·.1) := List.mem_map.2 ⟨_, hm, rfl⟩
      obtain ⟨a, b, c⟩ := dnR_one (ids := gn.lev.map (·.1)) (dd := qd cf.metric xs L) hnb ((entrL gn.lev).2 - 0).toNat (entrL gn.lev).2 (knowL (qd cf.metric xs L) [] (entrL gn.lev).1, [((entrL gn.lev).1, qd cf.metric xs L (entrL gn.lev).1)]) (hk0.hit hin) (fun x hx => by rw [List.mem_singleton.1 hx]; exact hin) (by simp)
      exact ⟨b, c, fun _ => a⟩
  obtain ⟨hd1, hd2, hd3⟩ := hd
  have hs := alongR_spec (dd := qd cf.metric xs L) (want := qw F L) hw (hnb 0) hd1 hd2
  have hk := along_knows (dd := qd cf.metric xs L) (want := qw F L) hw (hnb 0) hd1 hd2
  have hkl := (alongR_known (want := qw F L) (width := width) (hnb 0) hd1 hd2).len
  have hids : (gn.lev.map (·.1)).length ≤ L.length := by
    have h1 : gn.lev.map (·.1) ⊆ L.map (·.id) := fun x hx => by
      obtain ⟨e, he⟩ := Option.isSome_iff_exists.1 (h.ids.1 hx)
      exact List.mem_map.2 ⟨e, (findE_mem he).1, (findE_mem he).2⟩
    have h2 := List.Nodup.length_le_of_subset h.ok.ok.nod h1
    simpa using h2
  unfold srR
  simp only
  generalize downR (qd cf.metric xs L) gn.lev gn.lk gn.ch (gn.lev.map (·.1)).length [] 0 = d at hd1 hd2 hd3 hs hk hkl
  obtain ⟨s1, s2, s3, s4, s5⟩ := hs
  refine ⟨s1, s2, fun x hx => ?_, s4, ?_, hk, Nat.le_trans hkl hids⟩
  · obtain ⟨q1, q2, q3⟩ := s3 x hx
    obtain ⟨e, he⟩ := Option.isSome_iff_exists.1 (h.ids.1 q1)
    have hq : passB F e.t0 e.t1 = true := by
      unfold qw at q3
      rw [he] at q3; exact q3
    refine ⟨e, List.mem_filter.2 ⟨(findE_mem he).1, hq⟩, ?_⟩
    have q4 : x.2 = distL cf.metric xs e.pt := by
      rw [q2]
      unfold qd ptOf
      rw [he]
    exact Prod.ext (findE_mem he).2.symm q4
  · rcases s5 with s5 | ⟨M, m1, m2, m3⟩
    · omega
    · have hle : (passL F L).length ≤ (M.filter (qw F L)).length := by
        by_cases hne : gn.lev = []
        · have hL : passL F L = [] := by
            rw [List.eq_nil_iff_forall_not_mem]
            intro e he
            have he' := (List.mem_filter.1 he).1
            have := h.ids.2 (by rw [findE_of_mem h.map.rising he']; rfl)
            rw [hne] at this
            cases this
          rw [hL]; exact Nat.zero_le _
        · obtain ⟨x0, hx0⟩ := List.exists_mem_of_ne_nil _ (hd3 hne)
          have hall := chain_all h.ok.ok.chn m2 ((h.ok.ok.chm _).2 (hd2 x0 hx0)) (m1 x0 hx0)
          have hnd : ((passL F L).map (·.id)).Nodup := List.Nodup.sublist (List.Sublist.map _ List.filter_sublist) (rising_nodup h.map.rising)
          have := List.Nodup.length_le_of_subset (l₂ := M.filter (qw F L)) hnd (fun i hi => by
            obtain ⟨e, he, rfl⟩ := List.mem_map.1 hi
            obtain ⟨he1, he2⟩ := List.mem_filter.1 he
            have hf := findE_of_mem h.map.rising he1
            refine List.mem_filter.2 ⟨hall _ ((h.ok.ok.chm _).2 (h.ids.2 (by rw [hf]; rfl))), ?_⟩
            unfold qw
            rw [hf]; exact he2)
          simpa using this
      omega
end Go.Proofs.YtpkiefjanmfgfaaGreatDoor
