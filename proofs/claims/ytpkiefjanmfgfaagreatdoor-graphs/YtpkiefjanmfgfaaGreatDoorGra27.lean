import Derived.Test.YtpkiefjanmfgfaaGreatDoorGra18
import Derived.Test.YtpkiefjanmfgfaaGreatDoorGra23
import Derived.Test.YtpkiefjanmfgfaaGreatDoorGra25
import Derived.Test.YtpkiefjanmfgfaaGreatDoorGra26
namespace Go.Proofs.YtpkiefjanmfgfaaGreatDoor
open Go.RowKit Go.Maps

def StepG (W0 : World) (bp bb bs bm br : Nat) (cf : Cf) (nn : Nat) (w' : World) : Prop :=
  ∃ la lc nsv nmv nn' L gn, nn' ≤ nn + 3000 ∧ PairAt W0 w' bp bb bs bm br cf gn la lc nsv nmv nn' L L ∧ Lk gn nn'
theorem told_last {gn : Net} {ns : List TNode} (h1 : ns.map (·.id) = idsL gn.lev ∧ ∀ n ∈ ns, levOf gn.lev n.id = some (n.t : Int)) {id : Int} (h : ∃ t, levOf gn.lev id = some t) : ∃ o, ∃ ho : o < ns.length, ns[o].id = id := by
  obtain ⟨t, ht⟩ := h
  have hm : id ∈ ns.map (·.id) := by rw [h1.1, (idsL_perm gn.lev).mem_iff]; exact levOf_map ht
  obtain ⟨y, hy, rfl⟩ := List.mem_map.1 hm
  obtain ⟨o, ho, rfl⟩ := List.mem_iff_getElem.1 hy
  exact ⟨o, ho, rfl⟩

set_option maxHeartbeats 8000000 in
set_option maxRecDepth 20000 in
theorem graphs39 (W0 w : World) (bp bb bs bm br : Nat) (cf : Cf) (gn : Net) (la : Option Addr) (lc : Nat) (nsv nmv : Value) (nn : Nat) (L : List Ent) (h : PairAt W0 w bp bb bs bm br cf gn la lc nsv nmv nn L L) (hlk : Lk gn nn) (hnn : (nn + 4000) * 24 ≤ 140737488355328) :
    Calls Tryz.prog 39 #[.pointer (some ⟨bp, 0, none⟩)] w fun ev w' => ev = .returned (.bool true) ∧ StepG W0 bp bb bs bm br cf nn w' := by
  have hb := h.base
  have HGR := hide (graph30 bb bs bm cf gn L w hb hb.short)
  have HHE := hide hb.hasE
  have HLL := hide (And.intro hb.levLen hb.chainLen)
  have HTA := hide (fun ns hx => told_at (ns := ns) hb hx)
  have HTO := hide (fun ns hx => told_ok (ns := ns) hb hx)
  have HTL := hide (fun ns => told_lev (ns := ns) hb)
  have HBE := hide (fun ns hx hne => best_at (ns := ns) hb hx hne)
  have HCM := hide hb.ok.ok.chm
  have HSH := hide hb.short
  have hn60 := hb.few
  have hcfk := hb.cfok
  have HDW := hide hb.drw
  have p0 := h.p0
  have hbp := h.book.lt
  have HLK := hide hlk
  have HNN := hide hnn
  have H := hide h
  clear h hb hlk hnn
  go_enter Tryz.func39, Tryz.ntmps39
  go_wp2_with fail
  go_fit HGR.out
  rintro ev w2 ⟨chv, nv, ns, rfl, hc2, hn2, hx2, hf1, hf2, hb2⟩
  have hnl : ns.length = L.length := (told_len hx2.1).trans HLL.out.1
  obtain ⟨_, hta⟩ := HTA.out ns hx2
  have hto := HTO.out ns hx2
  have htl := HTL.out ns hx2.2
  have hbe := HBE.out ns hx2
  have hcl := HLL.out.2
  obtain ⟨a1, c1, rfl, ha1⟩ := IRow_slice hc2
  obtain ⟨b1, d1, rfl, hb1⟩ := hn2.slice
  rw [HHE.out]
  rw [hcl] at hc2 hf1 hf2 ⊢
  rw [hnl] at hn2 hf2 ⊢
  obtain ⟨w3, hw3⟩ : ∃ w3, w3 = w2.alloc (.cells #[.bool (decide (0 < L.length)), .int .i64 (entrL gn.lev).1, .slice a1 L.length c1, .slice b1 L.length d1] 83) := ⟨_, rfl⟩
  have hb3 : Below w2.heap.size w2 w3 := hw3 ▸ (Below.refl _ _).alloc (Nat.le_refl _) _
  have hx3 : w3.heap[w2.heap.size]? = some (.cells #[.bool (decide (0 < L.length)), .int .i64 (entrL gn.lev).1, .slice a1 L.length c1, .slice b1 L.length d1] 83 (0, 0)) := by rw [hw3]; exact heap_alloc_new _ _
  have hQ3 : QS w3 w2.heap.size (decide (0 < L.length)) (entrL gn.lev).1 (.slice a1 L.length c1) (.slice b1 L.length d1) gn.ch gn.lk ns := ⟨hx3, ownsRow_below hc2 hb3, hn2.below hb3⟩
  have h3 := (H.out.below hb2).below hb3
  have HQ := hide (fun W (hW : Below w3.heap.size w3 W) => hQ3.below hW)
  have HP := hide (fun W (hW : Below w3.heap.size w3 W) => h3.below hW)
  have HAP : Hid (∀ g, w.heap.size ≤ g → Apart W0 g bp bb bs bm br gn la lc nsv nmv L L) := fun g hg => H.out.apart hg
  have HNL := hide hnl
  have HCL := hide hcl
  have HTN := hide hta
  have HTK := hide hto
  have HTT := hide htl
  have HBS := hide hbe
  have HX2 := hide hx2
  have HF1 := hide hf1
  have HF2 := hide hf2
  have HA1 := hide ha1
  have HB1 := hide hb1
  generalize hhd : decide (0 < L.length) = has at *
  have HDD := hide hhd
  generalize hent : (entrL gn.lev).1 = ent at *
  clear hhd hent hnl hcl hta hto htl hbe hx2 hf1 hf2 ha1 hb1 hb2 hb3 hx3 hQ3 h3 hc2 hn2 HGR HHE HLL HTA HTO HTL HBE p0 hbp H
  go_upto_region 2 with fail
  rw [← hw3]
  clear hw3
  generalize w2.heap.size = bG at *
  go_cut [4] (fun c wx => c = .bool true ∧ Below w3.heap.size w3 wx)
  case first =>
    as_aux_lemma =>
    have hP := HP.out w3 (Below.refl _ _)
    have hQ := HQ.out w3 (Below.refl _ _)
    have p1 := hP.p1
    have r6 := hP.ref.r6
    have x0 := cells_at hQ.blk 0 rfl
    have x2 := cells_at hQ.blk 2 rfl
    have x3 := cells_at hQ.blk 3 rfl
    simp only [List.getElem_toArray, List.getElem_cons_zero, List.getElem_cons_succ] at x0 x2 x3
    have HB0 : Hid (∀ n, Below w3.heap.size w3 (w3.drewN n)) := fun n => below_drewN (Below.refl _ _) _
    clear hP hQ
    cases has
    · have hd0 : decide ((0 : Int) < (L.length : Int)) = false := decide_eq_false (by have := of_decide_eq_false HDD.out; omega)
      go_quiet (fail)
      go_wp2_with fail
      go_meet
      exact ⟨by rw [HDD.out]; rfl, HB0.out _⟩
    · have hd0 : decide ((0 : Int) < (L.length : Int)) = true := decide_eq_true (by have := of_decide_eq_true HDD.out; omega)
      go_quiet (fail)
      go_wp2_with fail
      go_meet
      exact ⟨by rw [HDD.out], HB0.out _⟩
  case rest =>
  rename World => w4
  obtain ⟨rfl, hb4⟩ := hcut
  have HB4 := hide hb4
  clear hb4
  go_wp2
  go_loopw [4, 5, 6, 7] (fun ok bv iv _ wr => ∃ i : Nat, ok = .bool true ∧ bv = .int .i64 (bestTo ns i) ∧ iv = .int .i64 i ∧ i ≤ L.length ∧ Hid (Below w3.heap.size w3 wr)) (fun _ _ iv _ _ => L.length - (intOf iv).toNat)
  case atStart => exact ⟨0, rfl, rfl, rfl, Nat.zero_le _, HB4.out⟩
  case round =>
    obtain ⟨i, rfl, rfl, rfl, hi, HB⟩ := hrel
    have hP := HP.out wr HB.out
    have hQ := HQ.out wr HB.out
    have x3 : wr.cell? ⟨bG, 3, none⟩ = some (.slice b1 L.length d1) := cells_at hQ.blk 3 rfl
    by_cases hlt : i < L.length
    · as_aux_lemma =>
      obtain ⟨gR, rfl⟩ := hP.ref.addr (by omega)
      have hln : i < ns.length := by rw [HNL.out]; exact hlt
      obtain ⟨gN, rfl⟩ := HB1.out (by omega)
      have hN : NodesAt wr gn.lk (.slice (some ⟨gN, 0, none⟩) ns.length d1) ns := by rw [HNL.out]; exact hQ.nds
      obtain ⟨q0, q1, q2⟩ := hN.at hln
      obtain ⟨t1, t2⟩ := HTN.out i hln hlt
      have p1 := hP.p1
      have r6 := hP.ref.r6
      have e0 := ref_cell hP.ref.row hlt (j := 0) (by omega) rfl
      have e4 := ref_cell hP.ref.row hlt (j := 4) (by omega) rfl
      have hlv := fun W (hW : Below wr.heap.size wr W) => levelR' br cf L[i].draw W ((HP.out W (HB.out.trans (hW.mono HB.out.size))).ref.r2) ((HP.out W (HB.out.trans (hW.mono HB.out.size))).ref.r5) (HDW.out _ (List.getElem_mem hlt)) hcfk
      rw [← t2] at hlv
      rw [t1] at q0
      have ht10 := HTT.out _ (List.getElem_mem hln)
      have hbs := bestTo_succ ns hln
      have hbb := bestTo_bounds ns i HTT.out
      generalize bestTo ns i = bs0 at *
      generalize ns[i].t = t at *
      generalize ns[i].A = A at *
      generalize L[i].draw = dr at *
      simp only [Nat.add_zero] at e0
      generalize L[i].id = id at *
      have HLV := hide hlv
      have HZ := hide (fun W (hW : Below wr.heap.size wr W) => And.intro (cell_below p1 hW) (And.intro (cell_below r6 hW) (cell_below e4 hW)))
      have HZ2 := hide (fun W (hW : Below wr.heap.size wr W) => And.intro (cell_below x3 hW) (And.intro (cell_below q0 hW) (And.intro (cell_below q1 hW) (And.intro (cell_below q2 hW) (And.intro (cell_below p1 hW) (And.intro (cell_below r6 hW) (cell_below e0 hW)))))))
      have HBS1 := hide hbs
      clear hlv hP hQ hN t1 t2 hbs q0 q1 q2 e0
      go_upto_region 7 with fail
      go_region_held3 (fun wx => wx.cell? ⟨bp, 1, none⟩ = some (.pointer (some ⟨br, 0, none⟩)) ∧ wx.cell? ⟨br, 6, none⟩ = some (.slice (some ⟨gR, 0, none⟩) L.length lc) ∧ wx.cell? ⟨gR, i * 5 + 4, none⟩ = some (.int .u64 dr))
        ((refine HZ.out _ ?_; repeat (first | exact Below.refl _ _ | refine Below.drew ?_)))
        (first | (go_at_call 81; refine (HLV.out _ ?_).mono ?_; (repeat (first | exact Below.refl _ _ | refine Below.drew ?_)); rintro e5 w5 ⟨rfl, rfl⟩))
      obtain ⟨w5, hw5⟩ : ∃ w5, w5 = wr.drew := ⟨_, rfl⟩
      have hb5 : Below wr.heap.size wr w5 := hw5 ▸ (Below.refl _ _).drew
      rw [← hw5]
      clear hw5 x3 p1 r6 e4
      obtain ⟨x3, q0, q1, q2, p1, r6, e0⟩ := HZ2.out w5 hb5
      have HB5 := hide hb5
      have ew : IntKind.i64.wrap ((t : Int) + 1) = (t : Int) + 1 := by rw [IntKind.wrap_i64]; omega
      clear hb5
      go_upto_region 8 with fail
      go_cut [4] (fun c wx => c = .bool true ∧ Below wr.heap.size wr wx)
      case first =>
        go_quiet (fail)
        go_wp2_with fail
        go_meet
        exact ⟨rfl, below_drewN HB5.out _⟩
      case rest =>
        rename World => w6
        obtain ⟨rfl, hb6⟩ := hcut
        have HB6 : Hid (Below w3.heap.size w3 w6) := HB.out.trans (hb6.mono HB.out.size)
        clear hb6 x3 q0 q1 q2 p1 r6 e0
        by_cases hbt : bs0 < (t : Int)
        · have hd : decide (bs0 < (t : Int)) = true := decide_eq_true hbt
          go_wp2
          exact ⟨⟨i + 1, rfl, by rw [HBS1.out, Int.max_eq_right (by omega)], by go_num, by omega, HB6.out⟩, by simp [intOf]; omega⟩
        · have hd : decide (bs0 < (t : Int)) = false := decide_eq_false hbt
          go_wp2
          exact ⟨⟨i + 1, rfl, by rw [HBS1.out, Int.max_eq_left (by omega)], by go_num, by omega, HB6.out⟩, by simp [intOf]; omega⟩
    · obtain rfl : i = L.length := by omega
      clear hlt hi hP hQ
      have x0 : wr.cell? ⟨bG, 0, none⟩ = some (.bool has) := cells_at (HQ.out wr HB.out).blk 0 rfl
      go_upto_if 129 with fail
      go_cut [4] (fun c wx => c = .bool true ∧ Below w3.heap.size w3 wx)
      case first =>
        as_aux_lemma =>
        cases has
        · go_wp2_with fail
          go_meet
          exact ⟨rfl, HB.out⟩
        · have h0 : 0 < L.length := of_decide_eq_true HDD.out
          obtain ⟨j, hj, hjb, hje, hjn⟩ := HBS.out (by rw [HNL.out]; exact h0)
          rw [HNL.out] at hjb
          obtain ⟨gN, rfl⟩ := HB1.out (by omega)
          have hN : ∀ W, Below w3.heap.size w3 W → NodesAt W gn.lk (.slice (some ⟨gN, 0, none⟩) ns.length d1) ns := fun W hW => by rw [HNL.out]; exact (HQ.out W hW).nds
          have HN := hide hN
          have x1 : wr.cell? ⟨bG, 1, none⟩ = some (.int .i64 ent) := cells_at (HQ.out wr HB.out).blk 1 rfl
          have HJN : Hid (∀ k (hk : k < ns.length), k < j → (ns[k].t : Int) ≠ bestTo ns L.length) := fun k hk hkj => by
            have := hjn k hk hkj
            rw [HNL.out] at this
            exact this
          generalize bestTo ns L.length = best at *
          have hj60 : j < L.length := by rw [← HNL.out]; exact hj
          have HJE := hide hje
          have HJB := hide hjb
          have HJ := hide hj
          clear hN hjn hje hjb
          go_wp2
          go_loop [8] (fun iv => ∃ k : Nat, iv = .int .i64 k ∧ k ≤ j) (fun iv => j - (intOf iv).toNat)
          case atStart => exact ⟨0, rfl, Nat.zero_le _⟩
          case round =>
            obtain ⟨k, rfl, hk⟩ := hrel
            have hkn : k < ns.length := Nat.lt_of_le_of_lt hk HJ.out
            obtain ⟨y0, y1, _⟩ := (HN.out wr HB.out).at hkn
            by_cases hkj : k < j
            · have hne := HJN.out k hkn hkj
              have hkL : k < L.length := by omega
              generalize (ns[k].t : Int) = tk at y1 hne
              have hd : (tk != best) = true := by simpa using hne
              have hd2 : (tk == best) = false := by simpa using hne
              clear y0
              go_wp2
              exact ⟨⟨k + 1, by go_num, by omega⟩, by simp [intOf]; omega⟩
            · obtain rfl : k = j := by omega
              rw [HJE.out] at y0
              rw [HJB.out] at y1
              go_upto_region 15 with fail
              go_quiet (fail)
              go_wp2_with fail
              go_meet
              exact ⟨rfl, below_drewN HB.out _⟩
      case rest =>
        rename World => w7
        obtain ⟨rfl, hb7⟩ := hcut
        have HB7 := hide hb7
        clear hb7 x0 x3 HB HBS HTN HB4
        have hP := HP.out w7 HB7.out
        have hQ := HQ.out w7 HB7.out
        have p1 := hP.p1
        have r2 := hP.ref.r2
        have x0 : w7.cell? ⟨bG, 0, none⟩ = some (.bool has) := cells_at hQ.blk 0 rfl
        have x1 : w7.cell? ⟨bG, 1, none⟩ = some (.int .i64 ent) := cells_at hQ.blk 1 rfl
        have x2 : w7.cell? ⟨bG, 2, none⟩ = some (.slice a1 L.length c1) := cells_at hQ.blk 2 rfl
        have x3 : w7.cell? ⟨bG, 3, none⟩ = some (.slice b1 L.length d1) := cells_at hQ.blk 3 rfl
        have HNW : Hid (∀ W, Below w3.heap.size w3 W → NodesAt W gn.lk (.slice b1 ns.length d1) ns) := fun W hW => by rw [HNL.out]; exact (HQ.out W hW).nds
        have hl82 := fun W (hW : Below w3.heap.size w3 W) => linked82 has ent a1 L.length c1 b1 d1 cf.links gn.lk ns W (HNW.out W hW) HTK.out (by rw [HNL.out]; exact hn60) HTT.out ⟨by have := hcfk.l2; omega, by have := hcfk.l8; omega⟩
        have hc83 := fun W (hW : Below w3.heap.size w3 W) => chained83 has ent a1 c1 b1 d1 gn.ch gn.lk ns W (by rw [HNL.out]; exact (HQ.out W hW).chr) (HNW.out W hW) (fun n hn => (HCM.out n.id).2 (levOf_map (HX2.out.2 n hn))) (by rw [HNL.out]; exact HCL.out) (by rw [HNL.out]; exact hn60)
        rw [HNL.out] at hl82 hc83
        have HL82 := hide hl82
        have HC83 := hide hc83
        have HZ := hide (fun W (hW : Below w7.heap.size w7 W) => And.intro (cell_below x0 hW) (And.intro (cell_below x1 hW) (And.intro (cell_below x2 hW) (And.intro (cell_below x3 hW) (And.intro (cell_below p1 hW) (cell_below r2 hW))))))
        have HBW := hide (fun W (hW : Below w7.heap.size w7 W) => HB7.out.trans (hW.mono HB7.out.size))
        clear hl82 hc83 hP hQ
        go_upto_region 17 with fail
        go_cut [4] (fun c wx => c = .bool true ∧ Below w3.heap.size w3 wx)
        case first =>
          as_aux_lemma =>
          go_region_held3 (fun wx => wx.cell? ⟨bG, 0, none⟩ = some (.bool has) ∧ wx.cell? ⟨bG, 1, none⟩ = some (.int .i64 ent) ∧ wx.cell? ⟨bG, 2, none⟩ = some (.slice a1 L.length c1) ∧ wx.cell? ⟨bG, 3, none⟩ = some (.slice b1 L.length d1) ∧ wx.cell? ⟨bp, 1, none⟩ = some (.pointer (some ⟨br, 0, none⟩)) ∧ wx.cell? ⟨br, 2, none⟩ = some (.int .i64 cf.links))
            ((refine HZ.out _ ?_; repeat (first | with_reducible exact hb9 | with_reducible exact hb8 | exact Below.refl _ _ | refine Below.drew ?_)))
            (first
              | (go_at_call 82; refine (HL82.out _ (HBW.out _ ?_)).mono ?_; (repeat (first | exact Below.refl _ _ | refine Below.drew ?_)); rintro e8 w8 ⟨rfl, hb8d⟩; have hb8 : Below w7.heap.size w7 w8 := (by first | exact hb8d | exact Below.undrew hb8d))
              | (go_at_call 83; refine (HC83.out _ (HBW.out _ ?_)).mono ?_; (repeat (first | with_reducible exact hb8 | refine Below.drew ?_)); rintro e9 w9 ⟨rfl, hb9d⟩; have hb9 : Below w7.heap.size w7 w9 := hb8.trans ((by first | exact hb9d | exact Below.undrew hb9d : Below w8.heap.size w8 w9).mono hb8.size)))
          all_goals
            go_wp2_with fail
            go_meet
            exact ⟨rfl, HBW.out _ hb9⟩
        case rest =>
          rename World => w10
          obtain ⟨rfl, hb10⟩ := hcut
          have HB10 := hide hb10
          clear hb10 x0 x1 x2 x3 p1 r2 HZ HBW HB7 HL82 HC83
          have hP := HP.out w10 HB10.out
          have hQ := HQ.out w10 HB10.out
          obtain ⟨⟨pt, hpt⟩, h5⟩ := hP.p5
          obtain ⟨⟨lst, hls⟩, h4⟩ := hP.p4
          simp only at h5 h4
          have HPO : Hid (pt = true → (∃ t, levOf gn.lev lst = some t) ∧ (1 < L.length → gn.lk (lst, 0) ≠ [])) := fun e => by
            have h1 := HLK.out.2.2.2 (hpt ▸ e)
            rw [← hls] at h1
            rw [← HNL.out, told_len HX2.out.1]
            exact h1
          have x0 : w10.cell? ⟨bG, 0, none⟩ = some (.bool has) := cells_at hQ.blk 0 rfl
          have x1 : w10.cell? ⟨bG, 1, none⟩ = some (.int .i64 ent) := cells_at hQ.blk 1 rfl
          have x2 : w10.cell? ⟨bG, 2, none⟩ = some (.slice a1 L.length c1) := cells_at hQ.blk 2 rfl
          have x3 : w10.cell? ⟨bG, 3, none⟩ = some (.slice b1 L.length d1) := cells_at hQ.blk 3 rfl
          clear hP hQ hpt hls
          obtain ⟨cb, hcb⟩ : ∃ cb, cb = (pt && decide (1 < L.length)) := ⟨_, rfl⟩
          have HCB := hide hcb
          clear hcb
          go_upto_region 18 with fail
          go_cut [176] (fun c wx => c = .bool cb ∧ w10 = wx)
          case first =>
            as_aux_lemma =>
            cases pt
            · go_wp2_with fail
              go_meet
              exact ⟨by rw [HCB.out]; rfl, rfl⟩
            · by_cases hone : 1 < L.length
              · have hd1 : decide ((1 : Int) < (L.length : Int)) = true := decide_eq_true (by omega)
                go_wp2_with fail
                go_meet
                exact ⟨by rw [HCB.out, decide_eq_true hone]; rfl, rfl⟩
              · have hd1 : decide ((1 : Int) < (L.length : Int)) = false := decide_eq_false (by omega)
                go_wp2_with fail
                go_meet
                exact ⟨by rw [HCB.out, decide_eq_false hone]; rfl, rfl⟩
          case rest =>
          obtain ⟨rfl, rfl⟩ := hcut
          have HC2 : Hid (cb = true → pt = true ∧ 1 < L.length) := fun e => by
            have := HCB.out
            rw [e] at this
            have h2 := this.symm
            rw [Bool.and_eq_true, decide_eq_true_eq] at h2
            exact h2
          clear HCB
          go_upto_if 176 with fail
          go_cut [4] (fun c wx => c = .bool true ∧ Below w3.heap.size w3 wx)
          case first =>
            as_aux_lemma =>
            cases cb
            · go_wp2_with fail
              go_meet
              exact ⟨rfl, HB10.out⟩
            · obtain ⟨hpt1, hone⟩ := HC2.out rfl
              obtain ⟨hex, hne⟩ := HPO.out hpt1
              obtain ⟨o, ho, hoid⟩ := told_last HX2.out hex
              have hpl := fun W (hW : Below w3.heap.size w3 W) => place84 has ent a1 L.length c1 b1 d1 gn.lk ns o ho W (HNW.out W hW) HTK.out.nod (by rw [HNL.out]; exact hn60)
              rw [HNL.out, hoid] at hpl
              obtain ⟨gN, rfl⟩ := HB1.out (by omega)
              obtain ⟨_, _, n2⟩ := (HNW.out w10 HB10.out).at ho
              have hlo := (HNW.out w10 HB10.out).lks _ (List.getElem_mem ho)
              have jl2 : 0 < (nodeL gn.lk ns[o].id (ns[o].t + 1)).length := by rw [nodeL_len]; omega
              have l1 := hlo.at jl2
              have l2 := hlo.row 0 jl2
              rw [nodeL_at gn.lk _ (show 0 < ns[o].t + 1 by omega), hoid] at l2
              have hpos : 0 < (gn.lk (lst, ((0 : Nat) : Int))).length := List.length_pos_iff.2 (hne hone)
              have hoL : o < L.length := by rw [← HNL.out]; exact ho
              generalize gn.lk (lst, ((0 : Nat) : Int)) = ll at l2 hpos
              generalize ns[o].t = ot at *
              generalize ns[o].A = oA at *
              generalize ns[o].us.getD 0 (.slice none 0 0) = ov at l1 l2
              obtain ⟨ob, oc, rfl, _⟩ := IRow_slice l2
              have HPL := hide hpl
              have HZ := hide (fun W (hW : Below w10.heap.size w10 W) => And.intro (cell_below x0 hW) (And.intro (cell_below x1 hW) (And.intro (cell_below x2 hW) (And.intro (cell_below x3 hW) (cell_below h4 hW)))))
              have HZ2 := hide (fun W (hW : Below w10.heap.size w10 W) => And.intro (cell_below x3 hW) (And.intro (cell_below n2 hW) (cell_below l1 hW)))
              have HBW := hide (fun W (hW : Below w10.heap.size w10 W) => HB10.out.trans (hW.mono HB10.out.size))
              have hd1 : decide ((1 : Int) < (L.length : Int)) = true := decide_eq_true (by omega)
              have hd2 : decide ((0 : Int) < (ll.length : Int)) = true := decide_eq_true (by omega)
              have hd3 : decide ((0 : Int) ≤ (o : Int)) = true := decide_eq_true (by omega)
              clear hpl hlo jl2 l2 hex hne hoid
              go_upto_region 19 with fail
              go_region_held3 (fun wx => wx.cell? ⟨bG, 0, none⟩ = some (.bool has) ∧ wx.cell? ⟨bG, 1, none⟩ = some (.int .i64 ent) ∧ wx.cell? ⟨bG, 2, none⟩ = some (.slice a1 L.length c1) ∧ wx.cell? ⟨bG, 3, none⟩ = some (.slice (some ⟨gN, 0, none⟩) L.length d1) ∧ wx.cell? ⟨bp, 4, none⟩ = some (.int .i64 lst))
                ((refine HZ.out _ ?_; repeat (first | with_reducible exact hb11 | exact Below.refl _ _ | refine Below.drew ?_)))
                (first | (go_at_call 84; refine (HPL.out _ (HBW.out _ ?_)).mono ?_; (repeat (first | exact Below.refl _ _ | refine Below.drew ?_)); rintro e11 w11 ⟨rfl, hb11d⟩; have hb11 : Below w10.heap.size w10 w11 := (by first | exact hb11d | exact Below.undrew hb11d)))
              obtain ⟨z3, z2, z1⟩ := HZ2.out w11 hb11
              have HB11 := hide hb11
              clear hb11 hb11d x0 x1 x2 x3 h4 n2 l1
              go_wp2_with fail
              go_meet
              exact ⟨rfl, HBW.out _ HB11.out⟩
          case rest =>
            rename World => w12
            obtain ⟨rfl, hb12⟩ := hcut
            as_aux_lemma =>
            have hQ := HQ.out w12 hb12
            have y0 : w12.cell? ⟨bG, 0, none⟩ = some (.bool has) := cells_at hQ.blk 0 rfl
            have y1 : w12.cell? ⟨bG, 1, none⟩ = some (.int .i64 ent) := cells_at hQ.blk 1 rfl
            have y2 : w12.cell? ⟨bG, 2, none⟩ = some (.slice a1 L.length c1) := cells_at hQ.blk 2 rfl
            have y3 : w12.cell? ⟨bG, 3, none⟩ = some (.slice b1 L.length d1) := cells_at hQ.blk 3 rfl
            have HBW := hide (fun W (hW : Below w12.heap.size w12 W) => hb12.trans (hW.mono hb12.size))
            have HGB := hide (fun W (hW : Below w3.heap.size w3 W) => graph85 W0 W bp bb bs bm br cf gn la lc nsv nmv nn L L has ent (.slice a1 L.length c1) (.slice b1 L.length d1) gn.ch gn.lk ns (HP.out W hW) (HQ.out W hW).chr (HQ.out W hW).nds (fun g hg => HAP.out g (HF1.out g hg)) (fun k hk => HAP.out k (by
              rcases hk with e | ⟨n, hn, e | ⟨u, hu, e⟩⟩
              · exact HF2.out.1 k e
              · rw [← e]; exact HF2.out.2.A n hn
              · exact (HF2.out.2.us n hn u hu k e).1)) (fun n hn u hu g hg => (HF2.out.2.us n hn u hu g hg).2) HF2.out.2.Adj HF2.out.2.dj (by rw [HCL.out]; exact hn60) (by rw [HNL.out]; exact hn60) HTT.out HSH.out HNN.out)
            have hbpl := (HP.out w12 hb12).book.lt
            clear hQ hb12 x0 x1 x2 x3 h4 h5 HPO
            go_upto_region 21 with fail
            go_region_law (first | (go_simp; go_at_call 85; refine (HGB.out _ (HBW.out _ ?_)).mono ?_; (repeat (first | exact Below.refl _ _ | refine Below.drew ?_)); rintro e13 w13 ⟨rfl, ex', nsv', nmv', nn', hn1, hn2, hp13⟩))
            all_goals
              have HP13 := hide hp13
              clear hp13 y0 y1 y2 y3
              go_wp2
              go_ret
              exact ⟨rfl, la, lc, nsv', nmv', nn', L, _, hn2, HP13.out, HLK.out.mono hn1⟩
end Go.Proofs.YtpkiefjanmfgfaaGreatDoor
namespace Go.Proofs.YtpkiefjanmfgfaaGreatDoor
open Go.RowKit Go.Maps

theorem StepOk.toG {W0 w' : World} {bp bb bs bm br : Nat} {cf : Cf} {nn : Nat} (h : StepOk W0 bp bb bs bm br cf nn w') : StepG W0 bp bb bs bm br cf nn w' := by
  obtain ⟨la, lc, nsv, nmv, nn', L, gn, h1, h2, h3⟩ := h
  exact ⟨la, lc, nsv, nmv, nn', L, gn, by omega, h2, h3⟩

set_option maxHeartbeats 2000000 in
set_option maxRecDepth 20000 in
theorem step10_graph (W0 w : World) (bp bb bs bm br : Nat) (cf : Cf) (gn : Net) (la : Option Addr) (lc : Nat) (nsv nmv : Value) (nn : Nat) (L : List Ent) (id kk be t0 t1 draw : Int) (pn : Nat) (pa : Option Addr) (pc : Nat) (fa : Option Addr) (fn fc : Nat)
    (h : PairAt W0 w bp bb bs bm br cf gn la lc nsv nmv nn L L) (hlk : Lk gn nn) (hnn : (nn + 4000) * 24 ≤ 140737488355328) :
    Calls Tryz.prog 15 #[.pointer (some ⟨bp, 0, none⟩), .agg #[.int .i64 6, .int .i64 id, .int .i64 kk, .int .i64 be, .slice pa pn pc, .int .i64 t0, .int .i64 t1, .int .u64 draw, .slice fa fn fc]] w fun ev w' => ev = .returned (.bool true) ∧ StepG W0 bp bb bs bm br cf nn w' := by
  have H := hide h
  have HNN := hide hnn
  clear h hnn
  go_enter Tryz.func15, Tryz.ntmps15
  go_wp2_with fail
  refine (graphs39 W0 _ bp bb bs bm br cf gn la lc nsv nmv nn L (H.out.alloc _) hlk HNN.out).mono ?_
  rintro ev w1 ⟨rfl, hs⟩
  go_wp2
  go_ret
  exact ⟨rfl, hs⟩

set_option maxHeartbeats 2000000 in
set_option maxRecDepth 20000 in
theorem step10_looks (W0 w : World) (bp bb bs bm br : Nat) (cf : Cf) (gn : Net) (la : Option Addr) (lc : Nat) (nsv nmv : Value) (nn : Nat) (L : List Ent) (id kk be t0 t1 draw : Int) (pn : Nat) (pa : Option Addr) (pc : Nat) (fa : Option Addr) (fn fc : Nat)
    (h : PairAt W0 w bp bb bs bm br cf gn la lc nsv nmv nn L L) (hlk : Lk gn nn) :
    Calls Tryz.prog 15 #[.pointer (some ⟨bp, 0, none⟩), .agg #[.int .i64 7, .int .i64 id, .int .i64 kk, .int .i64 be, .slice pa pn pc, .int .i64 t0, .int .i64 t1, .int .u64 draw, .slice fa fn fc]] w fun ev w' => ev = .returned (.bool true) ∧ StepG W0 bp bb bs bm br cf nn w' := by
  obtain ⟨w1, hw1⟩ : ∃ w1, w1 = w.alloc (.cells #[.int .i64 7, .int .i64 id, .int .i64 kk, .int .i64 be, .slice pa pn pc, .int .i64 t0, .int .i64 t1, .int .u64 draw, .slice fa fn fc] 49) := ⟨_, rfl⟩
  have h1 : PairAt W0 w1 bp bb bs bm br cf gn la lc nsv nmv nn L L := hw1 ▸ h.alloc _
  have p0 := h.p0
  have q2 := h1.p2
  have q3 := h1.p3
  have q0 := h1.p0
  have hbp := h.book.lt
  have hbp1 := h1.book.lt
  have b8 := h1.base.b8
  rw [← hlk.1] at b8
  have HLO := hide (looks31 bb gn.lows w1 b8)
  have H1 := hide h1
  clear h h1
  go_enter Tryz.func15, Tryz.ntmps15
  go_wp2_with fail
  rw [← hw1]
  clear hw1
  go_fit HLO.out
  rintro ev' w' ⟨rfl, rfl⟩
  have hd : decide (gn.lows ≤ gn.lows) = true := decide_eq_true (Int.le_refl _)
  generalize gn.lows = lo at *
  go_wp2
  go_ret
  exact ⟨rfl, _, _, _, _, _, _, _, Nat.le_add_right _ _, H1.out, hlk⟩

theorem step10_all (W0 w : World) (bp bb bs bm br : Nat) (cf : Cf) (gn : Net) (la : Option Addr) (lc : Nat) (nsv nmv : Value) (nn : Nat) (L : List Ent) (kd id kk be t0 t1 draw : Int) (xs : List Int) (pa : Option Addr) (pc : Nat) (fa : Option Addr) (fn fc : Nat) (F : List (List Cnd))
    (h : PairAt W0 w bp bb bs bm br cf gn la lc nsv nmv nn L L) (hlk : Lk gn nn) (hv : IntsAt W0 (.slice pa xs.length pc) xs) (hid : I64 id) (hn : (xs.length + 6) * 8 ≤ 140737488355328) (hnn : (nn + 4000) * 24 ≤ 140737488355328) (hdr : 0 ≤ draw ∧ draw < 18446744073709551616) (hf : FiltAt W0 (.slice fa fn fc) F) (hfn : (F.length + 1) * 24 ≤ 140737488355328) (hfm : ∀ c ∈ F, (c.length + 1) * 24 ≤ 140737488355328) :
    Calls Tryz.prog 15 #[.pointer (some ⟨bp, 0, none⟩), .agg #[.int .i64 kd, .int .i64 id, .int .i64 kk, .int .i64 be, .slice pa xs.length pc, .int .i64 t0, .int .i64 t1, .int .u64 draw, .slice fa fn fc]] w fun ev w' => ev = .returned (.bool true) ∧ StepG W0 bp bb bs bm br cf nn w' := by
  have hnn4 : (nn + 4) * 24 ≤ 140737488355328 := Nat.le_trans (Nat.mul_le_mul_right 24 (by omega)) hnn
  by_cases h6 : kd = 6
  · subst h6; exact step10_graph W0 w bp bb bs bm br cf gn la lc nsv nmv nn L id kk be t0 t1 draw xs.length pa pc fa fn fc h hlk hnn
  by_cases h7 : kd = 7
  · subst h7; exact step10_looks W0 w bp bb bs bm br cf gn la lc nsv nmv nn L id kk be t0 t1 draw xs.length pa pc fa fn fc h hlk
  by_cases h5 : kd ≤ 5
  · exact (step10_five W0 w bp bb bs bm br cf gn la lc nsv nmv nn L kd id kk be t0 t1 draw xs pa pc fa fn fc F h hlk hv hid hn hnn4 hdr hf hfn hfm h5).mono fun ev w' ⟨e, hs⟩ => ⟨e, hs.toG⟩
  · exact (step10_else W0 w bp bb bs bm br cf gn la lc nsv nmv nn L kd id kk be t0 t1 draw xs.length pa pc fa fn fc h hlk (by simp; omega) (by simp; omega) (by simp; omega) (by simp; omega) (by simp; omega) (by simp; omega) (by simp; omega)).mono fun ev w' ⟨e, hs⟩ => ⟨e, hs.toG⟩
end Go.Proofs.YtpkiefjanmfgfaaGreatDoor
namespace Go.Proofs.YtpkiefjanmfgfaaGreatDoor
open Go.RowKit Go.Maps

set_option maxHeartbeats 2000000 in
set_option maxRecDepth 20000 in
theorem playedG_no (d c l m b t : Int) (sa : Option Addr) (len cap : Nat) (w : World) (hg : Handle w) (hc : cfgB d c l m b t = false) :
    Calls Tryz.prog 12 #[.agg #[.int .i64 d, .int .i64 c, .int .i64 l, .int .i64 m, .int .i64 b, .int .i64 t], .slice sa len cap, .int .i64 7] w fun ev w' => ev = .returned (.bool true) ∧ Below w.heap.size w w' := by
  have HC := hide hc
  clear hc
  go_enter Tryz.func12, Tryz.ntmps12
  go_wp2_with fail
  refine (awake8_any _ (hg.alloc _)).mono ?_
  rintro ev w1 ⟨rfl, hb1⟩
  have k0 : w1.cell? ⟨w.heap.size, 0, none⟩ = some (.int .i64 d) := Below.at hb1 (by simp) (by simp)
  have k1 : w1.cell? ⟨w.heap.size, 1, none⟩ = some (.int .i64 c) := Below.at hb1 (by simp) (by simp)
  have k2 : w1.cell? ⟨w.heap.size, 2, none⟩ = some (.int .i64 l) := Below.at hb1 (by simp) (by simp)
  have k3 : w1.cell? ⟨w.heap.size, 3, none⟩ = some (.int .i64 m) := Below.at hb1 (by simp) (by simp)
  have k4 : w1.cell? ⟨w.heap.size, 4, none⟩ = some (.int .i64 b) := Below.at hb1 (by simp) (by simp)
  have k5 : w1.cell? ⟨w.heap.size, 5, none⟩ = some (.int .i64 t) := Below.at hb1 (by simp) (by simp)
  have hbw : Below w.heap.size w w1 := ((Below.refl _ _).alloc (Nat.le_refl _) _).trans (hb1.mono (by simp))
  have HBW := hide hbw
  clear hb1 hbw
  go_wp2_with fail
  refine (begun9_no d c l m b t w1 (hg.below HBW.out) HC.out).mono ?_
  rintro ev w2 ⟨rfl, hb2⟩
  have HB2 := hide hb2
  clear hb2
  go_wp2
  refine wp_loop_rounds 1 ?_
  rw [rounds_succ]
  go_wp2
  go_ret
  exact ⟨rfl, HBW.out.trans (HB2.out.mono HBW.out.size)⟩

set_option maxHeartbeats 2000000 in
set_option maxRecDepth 20000 in
theorem playedG_yes (d c l m b t : Int) (sa : Option Addr) (len cap : Nat) (w : World) (hg : Handle w) (hc : cfgB d c l m b t = true) (hs : ScriptF w sa len) (hlc : len ≤ cap) (hsm : len ≤ 1048576) :
    Calls Tryz.prog 12 #[.agg #[.int .i64 d, .int .i64 c, .int .i64 l, .int .i64 m, .int .i64 b, .int .i64 t], .slice sa len cap, .int .i64 7] w fun ev w' => ev = .returned (.bool true) ∧ Below w.heap.size w w' := by
  have HC := hide hc
  have HS := hide hs
  clear hc hs
  go_enter Tryz.func12, Tryz.ntmps12
  go_wp2_with fail
  refine (awake8_any _ (hg.alloc _)).mono ?_
  rintro ev w1 ⟨rfl, hb1⟩
  have k0 : w1.cell? ⟨w.heap.size, 0, none⟩ = some (.int .i64 d) := Below.at hb1 (by simp) (by simp)
  have k1 : w1.cell? ⟨w.heap.size, 1, none⟩ = some (.int .i64 c) := Below.at hb1 (by simp) (by simp)
  have k2 : w1.cell? ⟨w.heap.size, 2, none⟩ = some (.int .i64 l) := Below.at hb1 (by simp) (by simp)
  have k3 : w1.cell? ⟨w.heap.size, 3, none⟩ = some (.int .i64 m) := Below.at hb1 (by simp) (by simp)
  have k4 : w1.cell? ⟨w.heap.size, 4, none⟩ = some (.int .i64 b) := Below.at hb1 (by simp) (by simp)
  have k5 : w1.cell? ⟨w.heap.size, 5, none⟩ = some (.int .i64 t) := Below.at hb1 (by simp) (by simp)
  have hbw : Below w.heap.size w w1 := ((Below.refl _ _).alloc (Nat.le_refl _) _).trans (hb1.mono (by simp))
  have HBW := hide hbw
  clear hb1 hbw
  go_wp2_with fail
  refine (begun9_yes w d c l m b t w1 (hg.below HBW.out) HBW.out hg.lt HC.out).mono ?_
  rintro ev w2 ⟨bp, bb, bs, bm, br, gn0, rfl, hp2, hlk2⟩
  have HP2 := hide hp2
  have HLK2 := hide hlk2
  clear hp2 hlk2 k0 k1 k2 k3 k4 k5
  go_wp2
  go_loopw [9, 10] (fun ok iv wr => ∃ (k : Nat) (la : Option Addr) (lc : Nat) (nsv nmv : Value) (nn : Nat) (L : List Ent) (gn : Net), k ≤ len ∧ iv = .int .i64 k ∧ ok = .bool true ∧ nn ≤ 3000 * k ∧ Hid (PairAt w wr bp bb bs bm br ⟨d, c, l, m, b, t⟩ gn la lc nsv nmv nn L L) ∧ Hid (Lk gn nn)) (fun _ iv _ => len - (intOf iv).toNat)
  case atStart => exact ⟨0, _, _, _, _, 0, [], gn0, Nat.zero_le _, rfl, rfl, Nat.le_refl _, HP2.out, HLK2.out⟩
  case round =>
    obtain ⟨k, la, lc, nsv, nmv, nn, L, gn, hk, rfl, rfl, hnn, HP, HLK⟩ := hrel
    by_cases hlt : k < len
    · obtain ⟨b', off, rfl, kd, id, kk, be, t0, t1, draw, xs, pa, pc, fa, fn, fc, F, ho, hff, hfn, hfm⟩ := HS.out.op k hlt
      have HFF := hide hff
      have HFN := hide hfn
      have HFM := hide hfm
      clear hff hfn hfm
      have hor := ho.below HP.out.old
      have HO := hide ho
      have c0 := hor.c0
      have c1 := hor.c1
      have c2 := hor.c2
      have c3 := hor.c3
      have c4 := hor.c4
      have c5 := hor.c5
      have c6 := hor.c6
      have c7 := hor.c7
      have c8 := hor.c8
      have HNN : Hid ((nn + 4000) * 24 ≤ 140737488355328) := by
        have h1 : (nn + 4000) * 24 ≤ (3000 * 1048576 + 4000) * 24 := Nat.mul_le_mul_right 24 (by omega)
        exact Nat.le_trans h1 (Nat.le_of_ble_eq_true rfl)
      clear ho hor
      by_cases hkd : kd ≤ 7
      · have hd4 : decide (kd ≤ 7) = true := by simpa using hkd
        go_wp2_with fail
        refine (step10_all w wr bp bb bs bm br _ gn la lc nsv nmv nn L kd id kk be t0 t1 draw xs pa pc fa fn fc F HP.out HLK.out HO.out.pt HO.out.wf HO.out.sz HNN.out HO.out.dr HFF.out HFN.out HFM.out).mono ?_
        rintro ev w5 ⟨rfl, la5, lc5, nsv5, nmv5, nn5, L5, gn5, hn5, hp5, hlk5⟩
        have HP5 := hide hp5
        have HLK5 := hide hlk5
        clear hp5 hlk5 c0 c1 c2 c3 c4 c5 c6 c7 c8
        go_wp2
        exact ⟨⟨k + 1, la5, lc5, nsv5, nmv5, nn5, L5, gn5, by omega, by go_num, rfl, by omega, HP5.out, HLK5.out⟩, by simp [intOf]; omega⟩
      · have hd4 : decide (kd ≤ 7) = false := by simpa using hkd
        go_wp2
        exact ⟨⟨k + 1, la, lc, nsv, nmv, nn, L, gn, by omega, by go_num, rfl, by omega, HP, HLK⟩, by simp [intOf]; omega⟩
    · obtain rfl : k = len := by omega
      go_wp2
      go_ret
      exact ⟨rfl, HP.out.old⟩

set_option maxHeartbeats 2000000 in
set_option maxRecDepth 20000 in
theorem graphs5_any (d c l m b t : Int) (sa : Option Addr) (len cap : Nat) (w : World) (hg : Handle w) (hs : ScriptF w sa len) (hlc : len ≤ cap) (hsm : len ≤ 1048576) :
    Calls Tryz.prog 5 #[.agg #[.int .i64 d, .int .i64 c, .int .i64 l, .int .i64 m, .int .i64 b, .int .i64 t], .slice sa len cap] w fun ev w' => ev = .returned (.bool true) ∧ Below w.heap.size w w' := by
  have HS := hide hs
  clear hs
  go_enter Tryz.func5, Tryz.ntmps5
  go_wp2_with fail
  have key : ∀ o, Calls Tryz.prog 12 #[.agg #[.int .i64 d, .int .i64 c, .int .i64 l, .int .i64 m, .int .i64 b, .int .i64 t], .slice sa len cap, .int .i64 7] (w.alloc o) fun ev w' => ev = .returned (.bool true) ∧ Below (w.alloc o).heap.size (w.alloc o) w' := fun o => by
    cases hc : cfgB d c l m b t
    · exact playedG_no d c l m b t sa len cap _ (hg.alloc o) hc
    · exact playedG_yes d c l m b t sa len cap _ (hg.alloc o) hc (HS.out.below ((Below.refl _ _).alloc (Nat.le_refl _) o)) hlc hsm
  refine (key _).mono ?_
  rintro ev w1 ⟨rfl, hb1⟩
  have hb : Below w.heap.size w w1 := ((Below.refl _ _).alloc (Nat.le_refl _) _).trans (hb1.mono (by simp))
  have HB := hide hb
  clear hb hb1 key
  go_wp2
  go_ret
  exact ⟨rfl, HB.out⟩
end Go.Proofs.YtpkiefjanmfgfaaGreatDoor
namespace Go.Proofs.YtpkiefjanmfgfaaGreatDoor
open Go.ChangeShapes Go.WideShapes Go.RowKit

theorem bulk_pos {H : Type} (d : DataW H) : 1 ≤ Rows.uptoBulk d := by
  cases d with
  | lit l => cases l <;> simp [Rows.uptoBulk]
  | _ => simp [Rows.uptoBulk]
theorem bulk_all {H : Type} : ∀ l : List (DataW H), l.length ≤ Rows.uptoBulkAll l
  | [] => Nat.zero_le _
  | d :: r => by
    have := bulk_all r
    have := bulk_pos d
    simp only [Rows.uptoBulkAll, List.length_cons]
    omega
theorem bulk_mem {H : Type} {d : DataW H} : ∀ {l : List (DataW H)}, d ∈ l → Rows.uptoBulk d ≤ Rows.uptoBulkAll l
  | x :: r, h => by
    simp only [Rows.uptoBulkAll]
    rcases List.mem_cons.1 h with rfl | h
    · omega
    · have := bulk_mem h
      omega
theorem script_bulk {H : Type} {enc : TypeId × Value → H} {W : World} {hd : Bool} {sa : Option Addr} {len cap : Nat} {d : DataW H} {p : List MemPlace} (h : DataW.Trod enc Tryz.prog W 0 (fun _ => true) hd 24 (.slice sa len cap) d p) : len ≤ Rows.uptoBulk d := by
  obtain ⟨fuel, hf⟩ := h
  have hf' : DataW.trod enc Tryz.prog W 0 (fun _ => true) hd fuel 24 [.slice sa len cap] = some (d, p) := hf
  rcases Deep.open_slice Tryz.underlying24 hf' with ⟨e, _⟩ | ⟨a, len', cap', m, n, D, Pl, e, _, hl, _, hm, hx, hi⟩
  · simp at e
    omega
  · simp at e hm
    obtain ⟨rfl, rfl, rfl⟩ := e
    have hm' := hm.symm
    subst hm'
    simp only [Prod.mk.injEq] at hx
    obtain ⟨rfl, _⟩ := hx
    have := bulk_all ((List.range len).map D)
    simp only [List.length_map, List.length_range] at this
    simp only [Rows.uptoBulk]
    omega
end Go.Proofs.YtpkiefjanmfgfaaGreatDoor
namespace Go.Proofs.YtpkiefjanmfgfaaGreatDoor
open Go.ChangeShapes Go.WideShapes Go.ChangeAt Go.RowKit

theorem handle_laid5 {W : World} (h : laidMetH Tryz.prog Rows.graphsUptoRow.laid W) : Handle W := by
  have h' : laidMet Tryz.prog [] W ∧ handlesMet Tryz.prog Rows.graphsUptoRow.laid W := h
  obtain ⟨name, u, ty, e1, e2, e3, e4, e5⟩ := h'.2 _ (List.mem_singleton.2 rfl)
  have en : name = [101, 114, 114, 111, 114] := (Option.some.inj e1).symm
  subst en
  obtain rfl := Option.some.inj (rtypeRow.symm.trans e2)
  have hm : ty ∈ (List.range 313).filter fun t => Tryz.prog.rowNamed t [101, 114, 114, 111, 114] := List.mem_filter.2 ⟨List.mem_range.2 (by rw [← typesSize]; exact e3), e4⟩
  rw [errRow] at hm
  obtain rfl := List.mem_singleton.1 hm
  have hh : typeHandle Tryz.prog 104 = .pointer (some ⟨1, 104, none⟩) := by kernel_rfl
  rw [hh] at e5
  unfold Handle
  simpa using World.var?_cell errVar e5 0

set_option maxRecDepth 100000 in
theorem graphs_contract (H : Type) (enc : TypeId × Value → H) (W : World) (base : Nat) (args : Array Value) (ds gs : List (DataW H)) (before : List MemPlace)
    (hval : ∀ (j : Nat) t v, Tryz.f5.params[j]? = some t → args[j]? = some v → Value.okWide Tryz.prog W .any base t v)
    (hW : DataW.Whole enc Tryz.prog Tryz.f5.params.toList Rows.graphsSpec.vars false W args.toList ds gs before)
    (hz : (DataW.weightsEach Tryz.prog (Tryz.f5.params.toList ++ Rows.graphsSpec.plain.varTypes Tryz.prog) (ds ++ gs)).all (· ≤ reachBytes) = true) (hL : laidMetH Tryz.prog Rows.graphsUptoRow.laid W) (hcd : Rows.uptoSmall H (ds ++ gs) = true) :
    Calls Tryz.prog 5 args W fun e W' => ∃ v, e = .returned v ∧ Rows.graphsSpec.post enc Tryz.prog Tryz.f5 false true false false W args v W' := by
  have hW' := hW
  obtain ⟨p, q, hA0, hV, rfl, hfz, hnd⟩ := hW
  have hA : DataW.TrodAll enc Tryz.prog W 0 (fun _ => true) true Tryz.f5.params.toList args.toList ds p := hA0
  rw [Tryz.params5] at hA hval hz
  obtain ⟨v0, vs0, d0, ds0, p0, q0, hargs, rfl, rfl, h0, r0⟩ := trodAll_cons hA
  obtain ⟨v1, vs1, d1, ds1, p1, q1, rfl, rfl, rfl, h1, r1⟩ := trodAll_cons r0
  obtain ⟨rfl, rfl, rfl⟩ := trodAll_nil r1
  obtain rfl : args = #[v0, v1] := by cases args; simp_all
  obtain ⟨rfl, rfl⟩ := trodVars_none hV
  have hlt := hW'.lt
  obtain ⟨a0, a1, a2, a3, a4, a5, rfl⟩ := cfg_open (hval 0 23 v0 rfl rfl) h0
  obtain ⟨sa, len, cap, rfl, hlc, hs⟩ := scriptF_open (hval 1 24 v1 rfl rfl) h1 (fun k hk => by
    have := List.all_eq_true.1 hz k (DataW.weights_mem_each (j := 1) rfl rfl k hk)
    simpa using this)
  have hsm : len ≤ 1048576 := by
    have hq := of_decide_eq_true (show decide (Rows.uptoBulkAll _ ≤ 1048576) = true from hcd)
    have h2 := script_bulk h1
    have h3 : Rows.uptoBulk d1 ≤ _ := bulk_mem (l := [d0, d1] ++ []) (by simp)
    omega
  refine (graphs5_any a0 a1 a2 a3 a4 a5 sa len cap W (handle_laid5 hL) hs hlc hsm).mono fun e W' ⟨he, hb⟩ => ?_
  subst he
  refine ⟨_, rfl, _, _, _, [], p0 ++ (p1 ++ []), [], hW', ?_, ?_, ?_, hb.frame _, fun h => by cases h⟩
  · exact trodAll_cons_mk (shut_bool Tryz.underlying4 _) trodAll_mk0
  · exact trodAll_cons_mk (Below.trod laidOut read23 (by rw [typesSize]; decide) h0 hb (fun x hx => hlt x (by simp [hx]))) (trodAll_cons_mk (Below.trod laidOut read24 (by rw [typesSize]; decide) h1 hb (fun x hx => hlt x (by simp [hx]))) trodAll_mk0)
  · rfl

theorem laid_met5 (os : Os) : laidMetH Tryz.prog Rows.graphsUptoRow.laid ((laidWorld os).forCall (fun _ _ => 0) ⟨#[], noArgs, []⟩).memory :=
  laidMetH_of_parts (laidMet_nil _ _) (by kernel_rfl)
theorem reads_none5 (os : Os) {H : Type} (enc : TypeId × Value → H) : ∃ places, DataW.whole enc Tryz.prog ((laidWorld os).forCall (fun _ _ => 0) ⟨#[], noArgs, []⟩).memory Tryz.f5.params.toList Rows.graphsSpec.vars false noArgs.toList 8 = some ([.agg [.lit (.int .i64 0), .lit (.int .i64 0), .lit (.int .i64 0), .lit (.int .i64 0), .lit (.int .i64 0), .lit (.int .i64 0)], .nil], [], places) :=
  ⟨[], by kernel_rfl⟩

set_option maxRecDepth 100000 in
theorem graphs_lifted (os : Os) (started : os.Started) (H : Type) (enc : TypeId × Value → H) (F : Stop.Interp) :
    ReturnsInHanded {} Tryz.checked os 5 .any ((Rows.OpenSpec.upto Rows.graphsSpec).preRow enc Tryz.prog Tryz.f5 Rows.graphsUptoRow.domain false Rows.graphsUptoRow.laid) (((Rows.OpenSpec.upto Rows.graphsSpec).at F).post enc Tryz.prog Tryz.f5 false true false false) := by
  obtain ⟨places, hx⟩ := reads_none5 os enc
  refine returnsInHanded_of_row (C := Tryz.checked) (s := Rows.OpenSpec.upto Rows.graphsSpec) knob started (by kernel_rfl) Tryz.func5
    (witness_row_at (enc := enc) (C := Tryz.checked) false (laidWorld os) noArgs rfl (by kernel_rfl) (by kernel_rfl) (by kernel_rfl)
      (OpenSpec.preRow_of_cond 8 hx (by kernel_rfl) (fun k hk => by cases hk; exact (show decide (Rows.uptoBulkAll _ ≤ 1048576) = true from decide_eq_true (by simp [Rows.uptoBulkAll, Rows.uptoBulk]))) (by kernel_rfl) (laid_met5 os))) ?_
  intro W base args ds gs before hval hW _ hcd hz hL _ _
  exact graphs_contract H enc W base args ds gs before hval hW hz hL (hcd _ rfl)

set_option maxRecDepth 100000 in
theorem graphs_said : Rows.GraphsUptoSaid :=
  OpenClaim.holds_of_cond 5 Tryz.f5 rfl rfl rfl rfl rfl rfl rfl ⟨rfl, rfl, rfl, rfl, rfl⟩ rfl rfl rfl rfl rfl (by kernel_rfl) Tryz.func5 (by kernel_rfl)
    (of_decide_eq_true (by kernel_rfl)) (by unfold Func.isWrapper; first | (rw [if_pos (by decide +kernel)]; kernel_rfl) | (rw [if_neg (by decide +kernel)]; exact ⟨rfl, rfl⟩))
    (fun os started H enc _ F => by rw [OpenClaim.pre_eq_preRow]; exact graphs_lifted os started H enc F)

theorem graphs_plain (f : FuncId) (fn : Func) (hf : Tryz.pinned.checked.prog.funcNamed "nearby/nearbylaw.Graphs" = some f) (hfn : Tryz.pinned.checked.prog.funcs[f]? = some fn) :
    true = Tryz.pinned.checked.prog.looks [] ∧ ∀ (j : Nat) t, fn.params[j]? = some t → Tryz.pinned.checked.prog.wantsStandIn t = false := by
  obtain rfl : f = 5 := Option.some.inj ((show Tryz.prog.funcNamed "nearby/nearbylaw.Graphs" = some 5 by kernel_rfl).symm.trans hf) |>.symm
  obtain rfl : fn = Tryz.f5 := (Option.some.inj (Tryz.func5.symm.trans hfn)).symm
  refine ⟨by kernel_rfl, fun j t ht => ?_⟩
  rw [Tryz.params5] at ht
  have hm := Array.mem_of_getElem? ht
  simp at hm
  rcases hm with rfl | rfl
  · exact (show Tryz.prog.wantsStandIn 23 = false by kernel_rfl)
  · exact (show Tryz.prog.wantsStandIn 24 = false by kernel_rfl)

theorem graphs_card : Rows.GraphsUptoCardSaid :=
  Claim7.holds_tied_plain_at .later [] _ _ _ _ graphs_said (fun _ h => by cases h) (by kernel_rfl) (fun _ h => by cases h) graphsUpto_row_tie rfl ⟨rfl, rfl⟩ (by kernel_rfl) rfl graphs_plain (by kernel_rfl)
#print axioms graphs_card
end Go.Proofs.YtpkiefjanmfgfaaGreatDoor
