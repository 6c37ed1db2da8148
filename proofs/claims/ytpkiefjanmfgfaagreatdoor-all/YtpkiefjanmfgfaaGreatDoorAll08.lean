import Derived.Test.YtpkiefjanmfgfaaGreatDoorAll02
import Derived.Test.YtpkiefjanmfgfaaGreatDoorAll04
import Derived.Test.YtpkiefjanmfgfaaGreatDoorAll07
namespace Go.Proofs.YtpkiefjanmfgfaaGreatDoor
section
open Go.RowKit Go.Maps

theorem field63 (i d:Int) (w:World):(Instr.field 63 (.agg #[.int .i64 i,.int .i64 d]) 0).run Tryz.prog w = .ok (.int .i64 i) w:=by kernel_rfl

theorem MeetAt.not3 {L:Lay} {w:World} {v1 v2:Value} {width:Int} {s:AS} (h:MeetAt L w v1 v2 width s) {g:Nat} {cs:Array Value} (hg:w.heap[g]? = some (.cells cs 3 (0,0))):¬ MeetAt.own L v1 v2 g:=by
  rintro (e | e | e | e | e | e)
  · exact h.met.not_cells hg e
  · exact h.walk.map.not_cells hg e
  · subst e; have:=hg.symm.trans h.cand.blk; simp at this
  · subst e; have:=hg.symm.trans h.fnd.q.blk; simp at this
  · exact row_ne h.cand.row hg (by decide) e
  · exact row_ne h.fnd.q.row hg (by decide) e

def begS (kn:List (Int × Int)):AS:=⟨[],kn,[],[]⟩

theorem meet102 (L:Lay) (v1 v2:Value) (width:Int) (s:AS) (dd:Int→Int) (want:Int→Bool) (ids:List Int) (id:Int) (w:World) (h:MeetAt L w v1 v2 width s) (hok:ASOk ids dd s) (_hid:id ∈ ids) (hI:I64 id) (hids:ids.length≤300)
    (eg:∀ args w,(callFunc L.ms args).run Tryz.prog w = .ok (.enter L.ms args) w) (ew:∀ args w,(callFunc L.wk args).run Tryz.prog w = .ok (.enter L.wk args) w)
    (hms:∀ W,Kept (fun k=>k = L.bn ∨ L.N0≤k) w W→Calls Tryz.prog L.ms (#[.int .i64 id] ++ L.caps) W fun e W'=>e = .returned (.int .i64 (dd id))∧Below W.heap.size W W')
    (hwk:∀ W,Kept (fun k=>k = L.bn ∨ L.N0≤k) w W→Calls Tryz.prog L.wk (#[.int .i64 id] ++ L.wcaps) W fun e W'=>e = .returned (.bool (want id))∧Below W.heap.size W W') :
    Calls Tryz.prog 106 #[.int .i64 id,.pointer (some ⟨L.b1,0,none⟩),.pointer (some ⟨L.b2,0,none⟩),.pointer (some ⟨L.b3,0,none⟩),.pointer (some ⟨L.b4,0,none⟩),.pointer (some ⟨L.b5,0,none⟩)] w fun ev w'=>ev = .returned (.tuple #[]) ∧
      ∃ v1' v2',MeetAt L w' v1' v2' width (meetL dd want width s id)∧Kept (fun k=>k = L.bn ∨ L.N0≤k) w w'∧Kept (MeetAt.own L v1 v2) w w':=by
  by_cases hm:id ∈ s.met
  · refine (meet102_again L v1 v2 width s id w h hI hm).mono ?_
    rintro e w' ⟨rfl,hb⟩
    refine ⟨rfl,v1,v2,?_,Kept.of_below _ hb,Kept.of_below _ hb⟩
    rw [meetL,if_pos hm]
    exact h.below hb
  · have hl:=hok.lens
    have h1:=hok.cl
    have h2:=hok.fl
    exact meet102_new L v1 v2 width s dd want id w h hI hm (by omega) (by omega) hok.knd (by omega) (by omega) eg ew hms hwk

set_option maxHeartbeats 8000000 in
set_option maxRecDepth 20000 in
theorem along54 (bw bg ms:Nat) (caps:Array Value) (bn:Nat) (kn:List (Int × Int)) (layer:Int) (v0:Value) (st:List Hit) (width:Int) (wk:Nat) (wcaps:Array Value) (ids:List Int) (dd:Int→Int) (want:Int→Bool) (F:Nat→Prop) (lev:List (Int × Int)) (lk:Int × Int→List Int) (ch:List Int) (w:World)
    (h:WalkAt w bw bg ms caps bn kn) (hg:GAt w bg F lev lk ch) (hF:∀ k,F k→k < w.heap.size∧k ≠ bn) (hst:HRow w v0 st) (hsl:st.length≤300) (hsi:∀ x ∈ st,x.1 ∈ ids) (hI:∀ x ∈ ids,I64 x) (hids:ids.length≤300) (hlay:I64 layer)
    (hnb:∀ i ∈ ids,∀ x ∈ reachedL lk ch i layer,x ∈ ids) (hlen:∀ p,(lk p).length≤500) (hch:ch.length≤1000) (hok:ASOk ids dd (begS kn)) (hw0:0 < width)
    (eg:∀ args w,(callFunc ms args).run Tryz.prog w = .ok (.enter ms args) w) (ew:∀ args w,(callFunc wk args).run Tryz.prog w = .ok (.enter wk args) w)
    (hms:∀ id ∈ ids,∀ W,Kept (fun k=>k = bn ∨ w.heap.size≤k) w W→Calls Tryz.prog ms (#[.int .i64 id] ++ caps) W fun e W'=>e = .returned (.int .i64 (dd id))∧Below W.heap.size W W')
    (hwk:∀ id ∈ ids,∀ W,Kept (fun k=>k = bn ∨ w.heap.size≤k) w W→Calls Tryz.prog wk (#[.int .i64 id] ++ wcaps) W fun e W'=>e = .returned (.bool (want id))∧Below W.heap.size W W') :
    Calls Tryz.prog 57 #[.pointer (some ⟨bw,0,none⟩),.int .i64 layer,v0,.int .i64 width,.func (.func wk) #[] wcaps] w fun ev w' =>
      ∃ v' sF,sF = runS dd want width (fun i=>reachedL lk ch i layer) ((meetAll dd want width (begS kn) (st.map (·.1))).mu ids.length) (meetAll dd want width (begS kn) (st.map (·.1)))∧ev = .returned v'∧HRow w' v' (drainL sF.Fd.length sF.Fd)∧(∀ g,v'.ownBlock = some g→w.heap.size≤g) ∧
        WalkAt w' bw bg ms caps bn sF.kn∧ASOk ids dd sF∧onward width sF = false∧Kept (fun k=>k = bn) w w':=by
  have hmf:∀ (fn:Fn) (first cap:Array Value) (w:World),(Instr.makeFunc fn first cap).run Tryz.prog w = .ok (.func fn first cap) w:=fun _ _ _ _=>rfl
  have hmm:=@run_makeMap Tryz.prog
  have hs0:∃ a cap,v0 = .slice a st.length cap∧(0 < st.length→∃ g,a = some ⟨g,0,none⟩):=by
    rcases hst.2 with ⟨rfl,hz⟩ | ⟨g,cap',cur,hv,_⟩
    · exact ⟨none,0,by rw [hz],fun h=>by omega⟩
    · exact ⟨_,cap',hv,fun _=>⟨g,rfl⟩⟩
  obtain ⟨a0,cap0,rfl,ha0⟩:=hs0
  have HW:=hide h
  have HG:=hide hg
  have HF:=hide hF
  have HST:=hide hst
  have HSI:=hide hsi
  have HI:=hide hI
  have HNB:=hide hnb
  have HLEN:=hide hlen
  have HOK:=hide hok
  have HMS:=hide hms
  have HWK:=hide hwk
  have HA0:=hide ha0
  have HLAY:=hide hlay
  clear h hg hF hst hsi hI hnb hlen hok hms hwk ha0 hlay
  go_enter Tryz.func57,Tryz.ntmps57
  go_wp2_with fail
  generalize hw1:(w.alloc (.cells #[.pointer (some ⟨bw,0,none⟩)] 116)).alloc (.cells #[.func (.func wk) #[] wcaps] 121) = w1
  refine (new99 104 w1).mono ?_
  rintro e2 w2 ⟨rfl,hq2,hb2⟩
  go_wp2_with fail
  refine (newBeam101 width w2).mono ?_
  rintro e3 w3 ⟨rfl,hf3,hb3⟩
  obtain ⟨hM,hB⟩:=MeetAt.begin HW.out hw1.symm hq2 hb2 hf3 hb3
  have HM:=hide hM
  have HB:=hide hB
  clear hM hB hq2 hb2 hf3 hb3 hw1
  go_wp2
  generalize ((((w3.alloc (.cells #[.pointer (some ⟨w1.heap.size,0,none⟩)] 174)).alloc (.cells #[.pointer (some ⟨w2.heap.size + 1,0,none⟩)] 177)).alloc (.map #[] 0)).alloc (.cells #[.map (some (w3.heap.size + 1 + 1))] 179)) = w4 at HM HB ⊢
  generalize w3.heap.size + 1 + 1 + 1 = b1 at HM ⊢
  generalize w3.heap.size + 1 + 1 = bm at HM ⊢
  generalize w3.heap.size + 1 = b5 at HM ⊢
  generalize w3.heap.size = b3 at HM ⊢
  generalize w2.heap.size + 1 = bf at HM ⊢
  generalize w2.heap.size = bq2 at HM ⊢
  generalize w1.heap.size = bq at HM ⊢
  obtain ⟨Ly,hLy⟩:∃ Ly:Lay,Ly = ⟨b1,w.heap.size,b3,w.heap.size + 1,b5,bm,bw,bg,ms,caps,bn,bq,bf,bq2,wk,wcaps,w.heap.size⟩:=⟨_,rfl⟩
  rw [← hLy] at HM
  have HLY:=hide hLy
  clear hLy w1 w2 w3
  have hmeet:∀ (s:AS) (v1 v2:Value) (id:Int) (W:World),id ∈ ids→MeetAt Ly W v1 v2 width s→ASOk ids dd s→Kept (fun k=>k = bn ∨ w.heap.size≤k) w W→Calls Tryz.prog 106 #[.int .i64 id,.pointer (some ⟨b1,0,none⟩),.pointer (some ⟨w.heap.size,0,none⟩),.pointer (some ⟨b3,0,none⟩),.pointer (some ⟨w.heap.size + 1,0,none⟩),.pointer (some ⟨b5,0,none⟩)] W fun ev w'=>ev = .returned (.tuple #[]) ∧
      ∃ v1' v2',MeetAt Ly w' v1' v2' width (meetL dd want width s id)∧Kept (fun k=>k = bn ∨ w.heap.size≤k) w w'∧Kept (MeetAt.own Ly v1 v2) W w':=by
    intro s v1 v2 id W hid hm hok hk
    have e:=HLY.out
    subst e
    refine (meet102 _ v1 v2 width s dd want ids id W hm hok hid (HI.out id hid) hids eg ew (fun W' hk'=>HMS.out id hid W' (hk.trans hk' (fun _ _ e=>e))) (fun W' hk'=>HWK.out id hid W' (hk.trans hk' (fun _ _ e=>e)))).mono ?_
    rintro ev w' ⟨rfl,v1',v2',hm',hk',ho'⟩
    exact ⟨rfl,v1',v2',hm',hk.trans hk' (fun _ _ e=>e),ho'⟩
  have HMEET:=hide hmeet
  have HROW:Hid (∀ W,Kept (fun k=>k = bn ∨ w.heap.size≤k) w W→HRow W (.slice a0 st.length cap0) st):=fun W hk=>ownsRow_kept HST.out hk (fun g e e'=>e'.elim (fun e'=>by
    obtain ⟨cur,hc⟩:=ownsRow_obj HST.out e
    exact HW.out.map.not_cells hc e') (fun e'=>by have:=(HST.out.lt g e).2; omega))
  have HGW:Hid (∀ W,Kept (fun k=>k = bn ∨ w.heap.size≤k) w W→GAt W bg F lev lk ch):=fun W hk=>HG.out.kept hk (fun k hf e=>e.elim (HF.out k hf).2 (fun e=>by have:=(HF.out k hf).1; omega))
  clear hmeet
  go_loopw [16,26] (fun _ i wr=>∃ (k:Nat) (v1 v2:Value),i = .int .i64 k∧k≤st.length∧Hid (MeetAt Ly wr v1 v2 width (meetAll dd want width (begS kn) ((st.map (·.1)).take k)))∧Hid (Kept (fun k=>k = bn ∨ w.heap.size≤k) w wr)) (fun _ i _=>st.length - (intOf i).toNat)
  case atStart=>exact ⟨0,_,_,rfl,Nat.zero_le _,HM.out,Kept.of_below _ HB.out⟩
  case round =>
    obtain ⟨k,v1,v2,rfl,hk,HMk,HKk⟩:=hrel
    by_cases hlt:k < st.length
    · obtain ⟨g0,rfl⟩:=HA0.out (by omega)
      have hrow:=HROW.out wr HKk.out
      have x0:=HRow.at0 hrow hlt
      have x1:=HRow.at1 hrow hlt
      have hin:(nth st k).1 ∈ ids:=HSI.out _ (nth_mem hlt)
      have hsub:∀ x ∈ (st.map (·.1)).take k,x ∈ ids:=fun x hx=>by
        obtain ⟨y,hy,rfl⟩:=List.mem_map.1 (List.mem_of_mem_take hx)
        exact HSI.out y hy
      have hokk:=(ASOk.meetAll want width HOK.out hsub).1
      have hbal:Below wr.heap.size wr (wr.alloc (.cells #[.int .i64 (nth st k).1,.int .i64 (nth st k).2] 63)):=(Below.refl _ _).alloc (Nat.le_refl _) _
      have hme:=HMEET.out _ v1 v2 (nth st k).1 (wr.alloc (.cells #[.int .i64 (nth st k).1,.int .i64 (nth st k).2] 63)) hin (HMk.out.below hbal) hokk (HKk.out.below hbal)
      have hsn:(st.map (·.1)).take (k + 1) = (st.map (·.1)).take k ++ [(nth st k).1]:=by
        rw [List.take_succ_eq_append_getElem (by simpa using hlt)]
        simp [nth,List.getD_eq_getElem?_getD,hlt]
      rw [← meetAll_snoc,← hsn] at hme
      have HME:=hide hme
      clear hme hokk hsub hin hrow hsn hbal
      generalize nth st k = y at x0 x1 HME
      go_wp2_with (go_at_call 106; refine HME.out.mono ?_; rintro e5 w5 ⟨rfl,v1',v2',hm5,hk5,_⟩)
      exact ⟨⟨k + 1,v1',v2',by go_num,by omega,hm5,hk5⟩,by simp [intOf]; omega⟩
    · obtain rfl:k = st.length:=by omega
      have hMs:=HMk.out
      rw [List.take_of_length_le (by simp)] at hMs
      have hsub:∀ x ∈ st.map (·.1),x ∈ ids:=fun x hx=>by
        obtain ⟨y,hy,rfl⟩:=List.mem_map.1 hx
        exact HSI.out y hy
      have hok1:=(ASOk.meetAll want width HOK.out hsub).1
      generalize hs1:meetAll dd want width (begS kn) (st.map (·.1)) = s1 at hMs hok1
      have HS1:=hide hs1
      clear hs1
      have HMS1:=hide hMs
      have HOK1:=hide hok1
      clear hMs hok1 hsub
      have HP0:=hide HKk.out
      have HV:Hid (∃ (v1 v2:Value),MeetAt Ly wr v1 v2 width s1):=⟨v1,v2,HMS1.out⟩
      clear HMk HKk HMS1
      generalize wr = w5 at HP0 HV ⊢
      go_wp2
      go_loopw [18] (fun _ wr=>∃ (v1 v2:Value) (s:AS) (f:Nat),Hid (MeetAt Ly wr v1 v2 width s)∧Hid (ASOk ids dd s)∧Hid (runS dd want width (fun i=>reachedL lk ch i layer) (s1.mu ids.length) s1 = runS dd want width (fun i=>reachedL lk ch i layer) f s)∧Hid (s.mu ids.length≤f)∧Hid (Kept (fun k=>k = bn ∨ w.heap.size≤k) w wr)) (fun _ wr=>2 * (ids.length - mapSize wr bm) + qLen wr bq)
      case atStart =>
        obtain ⟨v1,v2,hm⟩:=HV.out
        exact ⟨v1,v2,s1,s1.mu ids.length,hm,HOK1.out,rfl,Nat.le_refl _,HP0.out⟩
      case round =>
        obtain ⟨v1,v2,s,f,HMr,HOr,HRr,Hmu,HKr⟩:=hrel
        have hL3:wr.cell? ⟨b3,0,none⟩ = some (.pointer (some ⟨bq,0,none⟩)):=by
          have e:=HLY.out; have h9:=cells_at HMr.out.h3 0 rfl; rw [e] at h9; exact h9
        have hL5:wr.cell? ⟨b5,0,none⟩ = some (.pointer (some ⟨bf,0,none⟩)):=by
          have e:=HLY.out; have h9:=cells_at HMr.out.h5 0 rfl; rw [e] at h9; exact h9
        have hQ:QAt wr bq 104 v1 s.C:=by have e:=HLY.out; have h9:=HMr.out.cand; rw [e] at h9; exact h9
        have hBm:BeamAt wr bf bq2 v2 width s.Fd:=by have e:=HLY.out; have h9:=HMr.out.fnd; rw [e] at h9; exact h9
        have HQ:=hide hQ
        have HBM:=hide hBm
        clear hQ hBm
        by_cases hc:s.C.length = 0
        · as_aux_lemma =>
            have honw:onward width s = false:=by unfold onward; simp [hc]
            have hlen:=fun n=>len106 bq 104 v1 s.C (wr.drewN n) (HQ.out.below (below_drewN (Below.refl _ _) n))
            rw [hc] at hlen
            have HLEN2:=hide hlen
            clear hlen
            go_wp2
            go_quiet ((go_at_call 110; exact Calls.quiet_of_same ((HLEN2.out _).mono (fun _ _ h=>⟨h.1,h.2.symm⟩))))
            have hBD:=HBM.out.below (below_drewN (Below.refl _ _) nq)
            have hMD:=HMr.out.below (below_drewN (Below.refl _ _) nq)
            have hKD:=HKr.out.drewN nq
            have hL5D:=cell_below hL5 (below_drewN (Below.refl _ wr) nq)
            generalize wr.drewN nq = wd at hBD hMD hKD hL5D ⊢
            have HBD:=hide hBD
            have HMD:=hide hMD
            have HKD:=hide hKD
            clear hBD hMD hKD hL5 hL3
            have HONW:=hide honw
            have hfl:s.Fd.length≤1000:=by have h8:=HOr.out.fl; have h9:=HOr.out.lens.1; omega
            have hin:=inOrder111 bf bq2 v2 width s.Fd wd HBD.out hfl
            have HIN:=hide hin
            have HMX:Hid (MeetAt Ly wd v1 v2 width s):=HMD.out
            have HKX:Hid (Kept (fun k=>k = bn ∨ w.heap.size≤k) w wd):=HKD.out
            clear hin honw hfl
            go_wp2_with (go_at_call 115; refine HIN.out.mono ?_; rintro e9 w9 ⟨rfl,hr9,hk9⟩)
            go_ret
            have hn4:w.heap.size≤bq2:=by have e:=HLY.out; have h9:=HMX.out.n4; rw [e] at h9; exact h9
            have hn6:∀ g,v2.ownBlock = some g→w.heap.size≤g:=by have e:=HLY.out; have h9:=HMX.out.n6; rw [e] at h9; exact h9
            refine ⟨_,s,?_,rfl,hr9,?_,?_,HOr.out,HONW.out,?_⟩
            · rw [HS1.out,HRr.out,runS_stop HONW.out]
            · intro g e
              have e9:wd.heap.size = g:=by simpa [Value.ownBlock] using e
              have:=HKX.out.size
              omega
            · have hwk:WalkAt wd bw bg ms caps bn s.kn:=by have e:=HLY.out; have h9:=HMX.out.walk; rw [e] at h9; exact h9
              have hbm:BeamAt wd bf bq2 v2 width s.Fd:=HBD.out
              refine hwk.kept hk9 (fun e=>e.elim (fun e=>?_) (row_ne hbm.q.row hwk.blk (by decide))) (fun e=>e.elim (fun e=>hwk.map.not_cells hbm.q.blk e.symm) (fun e=>by
                obtain ⟨cur,hc⟩:=ownsRow_obj hbm.q.row e
                exact hwk.map.not_cells hc rfl))
              subst e
              have h9:=hwk.blk.symm.trans hbm.q.blk
              simp at h9
            · refine (HKX.out.trans hk9 (fun k hk e=>e.elim (fun e=>by subst e; exact .inr hn4) (fun e=>.inr (hn6 k e)))).mono (fun k hk e=>e.elim id (fun e=>by omega))
        · have hc0:0 < s.C.length:=by omega
          have hl1:=len106 bq 104 v1 s.C wr.drew (HQ.out.below (Below.refl _ _).drew)
          have ht1:=top108 bq 104 v1 s.C wr.drew (HQ.out.below (Below.refl _ _).drew) hc0
          have hon:=fun (W:World) (hb:Below wr.heap.size wr W)=>leadsOn107 bf bq2 v2 width s.Fd (nth s.C 0) W (HBM.out.below hb) hw0
          have HL1:=hide hl1
          have HT1:=hide ht1
          have HON:=hide hon
          have hcD:decide (0 < s.C.length) = true:=by simpa using hc0
          have hcI:decide ((0:Int) < (s.C.length:Int)) = true:=by simp; omega
          have HSA:Hid (wr.drew.cell? ⟨b3,0,none⟩ = some (.pointer (some ⟨bq,0,none⟩))∧wr.drew.cell? ⟨b5,0,none⟩ = some (.pointer (some ⟨bf,0,none⟩))):=⟨hL3,hL5⟩
          clear hl1 ht1 hon hL3 hL5
          generalize hx:nth s.C 0 = x at HT1 HON
          have HX:=hide hx
          clear hx
          go_wp2
          go_region_held3 (fun wx=>wx.cell? ⟨b3,0,none⟩ = some (.pointer (some ⟨bq,0,none⟩))∧wx.cell? ⟨b5,0,none⟩ = some (.pointer (some ⟨bf,0,none⟩)))
            ((first | with_reducible exact HSA.out | with_reducible exact HSB.out | with_reducible exact HSC.out))
            (first
              | (go_at_call 110; refine HL1.out.mono ?_; rintro e2 w2 ⟨rfl,rfl⟩)
              | (go_at_call 112; refine HT1.out.mono ?_; rintro e3 w3 ⟨rfl,hb3⟩; have HSB:=hide (And.intro (cell_below HSA.out.1 hb3) (cell_below HSA.out.2 hb3)); have hBel3:=Below.undrew hb3; have hon3:=HON.out w3 hBel3)
              | (go_at_call 111; refine hon3.mono ?_; rintro e4 w4 ⟨rfl,hb4⟩; have HSC:=hide (And.intro (cell_below HSB.out.1 hb4) (cell_below HSB.out.2 hb4))))
          have hbw4:Below wr.heap.size wr w4:=hBel3.trans (hb4.mono hBel3.size)
          have hM4':=HMr.out.below hbw4
          have hB4':=HBM.out.below hbw4
          have hK4':=HKr.out.below hbw4
          have hQ4':=HQ.out.below hbw4
          have HM4:=hide hM4'
          have HB4:=hide hB4'
          have HK4:=hide hK4'
          have HQ4:=hide hQ4'
          have hL3:=HSC.out.1
          have hL5:=HSC.out.2
          have HWL:Hid (mapSize w4 bm = mapSize wr bm∧qLen w4 bq = qLen wr bq):=by
            have hmm1:AMap intKey wr bm (metV s.met):=by have e:=HLY.out; have h9:=HMr.out.met; rw [e] at h9; exact h9
            exact ⟨(hmm1.below hbw4).mapSize.trans hmm1.mapSize.symm,hQ4'.qLen.trans HQ.out.qLen.symm⟩
          clear hbw4 hM4' hB4' hK4' hQ4' hb3 hb4 hBel3 hon3 HSA HSB HSC HL1 HT1 HON hcD hcI
          cases hld:leadsL width s.Fd x with
          | false =>
            as_aux_lemma =>
              have honw:onward width s = false:=by unfold onward; rw [HX.out,hld]; simp
              have HONW:=hide honw
              have hfl:s.Fd.length≤1000:=by have h8:=HOr.out.fl; have h9:=HOr.out.lens.1; omega
              have hin:=inOrder111 bf bq2 v2 width s.Fd w4 HB4.out hfl
              have HIN:=hide hin
              have HMX:Hid (MeetAt Ly w4 v1 v2 width s):=HM4.out
              have HKX:Hid (Kept (fun k=>k = bn ∨ w.heap.size≤k) w w4):=HK4.out
              clear hin honw hfl
              go_wp2_with (go_at_call 115; refine HIN.out.mono ?_; rintro e9 w9 ⟨rfl,hr9,hk9⟩)
              go_ret
              have hn4:w.heap.size≤bq2:=by have e:=HLY.out; have h9:=HMX.out.n4; rw [e] at h9; exact h9
              have hn6:∀ g,v2.ownBlock = some g→w.heap.size≤g:=by have e:=HLY.out; have h9:=HMX.out.n6; rw [e] at h9; exact h9
              refine ⟨_,s,?_,rfl,hr9,?_,?_,HOr.out,HONW.out,?_⟩
              · rw [HS1.out,HRr.out,runS_stop HONW.out]
              · intro g e
                have e9:w4.heap.size = g:=by simpa [Value.ownBlock] using e
                have:=HKX.out.size
                omega
              · have hwk:WalkAt w4 bw bg ms caps bn s.kn:=by have e:=HLY.out; have h9:=HMX.out.walk; rw [e] at h9; exact h9
                have hbm:BeamAt w4 bf bq2 v2 width s.Fd:=HB4.out
                refine hwk.kept hk9 (fun e=>e.elim (fun e=>?_) (row_ne hbm.q.row hwk.blk (by decide))) (fun e=>e.elim (fun e=>hwk.map.not_cells hbm.q.blk e.symm) (fun e=>by
                  obtain ⟨cur,hc⟩:=ownsRow_obj hbm.q.row e
                  exact hwk.map.not_cells hc rfl))
                subst e
                have h9:=hwk.blk.symm.trans hbm.q.blk
                simp at h9
              · refine (HKX.out.trans hk9 (fun k hk e=>e.elim (fun e=>by subst e; exact .inr hn4) (fun e=>.inr (hn6 k e)))).mono (fun k hk e=>e.elim id (fun e=>by omega))
          | true =>
            as_aux_lemma =>
              have honw:onward width s = true:=by unfold onward; rw [HX.out,hld]; simp; omega
              have hstep:=ASOk.step HOr.out want width HNB.out honw
              have hxin:x.1 ∈ ids:=by rw [← HX.out]; exact HOr.out.sub _ (HOr.out.cm _ (nth_mem hc0)).1
              have hfuel:runS dd want width (fun i=>reachedL lk ch i layer) (s1.mu ids.length) s1 = runS dd want width (fun i=>reachedL lk ch i layer) (f - 1) (stepS dd want width (fun i=>reachedL lk ch i layer) s)∧(stepS dd want width (fun i=>reachedL lk ch i layer) s).mu ids.length≤f - 1:=by
                have h9:=Hmu.out
                have h8:=hstep.2
                obtain ⟨f',rfl⟩:∃ f',f = f' + 1:=⟨f - 1,by omega⟩
                refine ⟨?_,by omega⟩
                rw [HRr.out,runS,if_pos honw]
                rfl
              have hcl:s.C.length≤1000:=by have h8:=HOr.out.cl; have h9:=HOr.out.lens.1; omega
              have hpop:=pop110 bq 104 (.inl rfl) v1 s.C w4.drew (HQ4.out.below (Below.refl _ _).drew) hc0 hcl
              rw [HX.out] at hpop
              have hL2:w4.cell? ⟨w.heap.size,0,none⟩ = some (.pointer (some ⟨bw,0,none⟩)):=by
                have e:=HLY.out; have h9:=cells_at HM4.out.h2 0 rfl; rw [e] at h9; exact h9
              have hLw:w4.cell? ⟨bw,0,none⟩ = some (.pointer (some ⟨bg,0,none⟩)):=by
                have e:=HLY.out; have h9:=cells_at HM4.out.walk.blk 0 rfl; rw [e] at h9; exact h9
              have HPOP:=hide hpop
              have HSTEP:=hide hstep
              have HFUEL:=hide hfuel
              have HXIN:=hide hxin
              have HONW:=hide honw
              have HSA:Hid (w4.drew.cell? ⟨w.heap.size,0,none⟩ = some (.pointer (some ⟨bw,0,none⟩))∧w4.drew.cell? ⟨bw,0,none⟩ = some (.pointer (some ⟨bg,0,none⟩))∧w4.drew.cell? ⟨b3,0,none⟩ = some (.pointer (some ⟨bq,0,none⟩))):=⟨hL2,hLw,hL3⟩
              have HPM:Hid (∀ (w6:World) (v6:Value),QAt w6 bq 104 v6 (popL 104 s.C)→v6.ownBlock = v1.ownBlock→Kept (fun k=>k = bq ∨ v1.ownBlock = some k) w4.drew w6→MeetAt Ly w6 v6 v2 width (popS s)∧Kept (fun k=>k = bn ∨ w.heap.size≤k) w w6 ∧
                  (w6.cell? ⟨w.heap.size,0,none⟩ = some (.pointer (some ⟨bw,0,none⟩))∧w6.cell? ⟨bw,0,none⟩ = some (.pointer (some ⟨bg,0,none⟩))∧w6.cell? ⟨b3,0,none⟩ = some (.pointer (some ⟨bq,0,none⟩)))):=fun w6 v6 hq6 ho6 hk6=>by
                have e:=HLY.out
                have hMd:=HM4.out.below (Below.refl _ _).drew
                have hKd:=HK4.out.drew
                have hN:Ly.N0≤w4.drew.heap.size:=by rw [e]; exact hKd.size
                have hq6':QAt w6 Ly.bq 104 v6 (popL 104 s.C):=by rw [e]; exact hq6
                have hk6':Kept (fun k=>k = Ly.bq ∨ v1.ownBlock = some k) w4.drew w6:=by rw [e]; exact hk6
                have hM6:=hMd.setCand hq6' hk6' (.inl ho6) hN
                have hn3:w.heap.size≤bq:=by have h9:=HM4.out.n3; rw [e] at h9; exact h9
                have hn5:∀ g,v1.ownBlock = some g→w.heap.size≤g:=by have h9:=HM4.out.n5; rw [e] at h9; exact h9
                refine ⟨hM6,hKd.trans hk6 (fun k _ e=>e.elim (fun e=>by subst e; exact .inr hn3) (fun e=>.inr (hn5 k e))),?_,?_,?_⟩
                · have h9:=cells_at hM6.h2 0 rfl; rw [e] at h9; exact h9
                · have h9:=cells_at hM6.walk.blk 0 rfl; rw [e] at h9; exact h9
                · have h9:=cells_at hM6.h3 0 rfl; rw [e] at h9; exact h9
              clear hpop hstep hfuel hxin honw hL2 hLw hL3 hL5 hcl
              have hfd:=field63 x.1 x.2
              go_wp2
              go_region_held3 (fun wx=>wx.cell? ⟨w.heap.size,0,none⟩ = some (.pointer (some ⟨bw,0,none⟩))∧wx.cell? ⟨bw,0,none⟩ = some (.pointer (some ⟨bg,0,none⟩))∧wx.cell? ⟨b3,0,none⟩ = some (.pointer (some ⟨bq,0,none⟩)))
                ((first | with_reducible exact HSA.out | with_reducible exact HSB.out | with_reducible exact HSC.out))
                (first
                  | (go_at_call 114; refine HPOP.out.mono ?_; rintro e6 w6 ⟨rfl,v6,hq6,ho6,hk6⟩; have h66:=HPM.out w6 v6 hq6 ho6 hk6; have HM6:=hide h66.1; have HK6:=hide h66.2.1; have HSB:=hide h66.2.2; have hrch:=reached109 bg F lev lk ch x.1 layer w6 (HGW.out w6 h66.2.1) (HI.out _ HXIN.out) HLAY.out (Nat.le_trans (HLEN.out _) (by decide)) hch; have HRCH:=hide hrch; clear h66 hrch hq6 ho6 hk6)
                  | (go_at_call 113; refine HRCH.out.mono ?_; rintro e7 w7 ⟨v7,rfl,r7,f7,b7⟩; obtain ⟨a7,cap7,hv7,ha7⟩:=IRow_slice r7; subst hv7; have HSC:=hide (And.intro (cell_below HSB.out.1 b7) (And.intro (cell_below HSB.out.2.1 b7) (cell_below HSB.out.2.2 b7)))))
              generalize hxs:reachedL lk ch x.1 layer = xs at r7 ha7 f7
              have hxsub:∀ y ∈ xs,y ∈ ids:=by rw [← hxs]; exact HNB.out _ HXIN.out
              have hxl:xs.length≤600:=by
                rw [← hxs]
                unfold reachedL
                have h8:=HLEN.out (x.1,layer)
                have h9:=besideL_length ch x.1
                split
                · rw [List.length_append]; omega
                · omega
              have hst9:stepS dd want width (fun i=>reachedL lk ch i layer) s = meetAll dd want width (popS s) xs:=by
                unfold stepS
                rw [HX.out]
                show meetAll dd want width (popS s) (reachedL lk ch x.1 layer) = _
                rw [hxs]
              have HMUW:Hid (2 * (ids.length - mapSize wr bm) + qLen wr bq = s.mu ids.length):=by
                have e:=HLY.out; have h9:=HMr.out.mu ids.length; rw [e] at h9; exact h9
              have HXSUB:=hide hxsub
              have HST9:=hide hst9
              have R7:=hide r7
              have HA7:=hide ha7
              have HM7:=hide (HM6.out.below b7)
              have HK7:=hide (HK6.out.below b7)
              clear hxs hxsub hst9 r7 ha7 f7 b7 HRCH HPOP HPM HSA HSB HSC hfd
              go_wp2
              go_loopw [18,54] (fun _ j wr2=>∃ (m:Nat) (u1 u2:Value),j = .int .i64 m∧m≤xs.length∧Hid (MeetAt Ly wr2 u1 u2 width (meetAll dd want width (popS s) (xs.take m)))∧Hid (Kept (fun k=>k = bn ∨ w.heap.size≤k) w wr2)∧Hid (IRow wr2 (.slice a7 xs.length cap7) xs)) (fun _ j _=>xs.length - (intOf j).toNat)
              case atStart=>exact ⟨0,v6,v2,rfl,Nat.zero_le _,HM7.out,HK7.out,R7.out⟩
              case round =>
                obtain ⟨m,u1,u2,rfl,hm,HMm,HKm,HRm⟩:=hrel
                by_cases hml:m < xs.length
                · obtain ⟨g7,rfl⟩:=HA7.out (by omega)
                  have hcx:wr.cell? ⟨g7,m,none⟩ = some (.int .i64 xs[m]):=ownsRow_cell HRm.out (by simp [vals,hml])
                  have hxi:xs[m] ∈ ids:=HXSUB.out _ (List.getElem_mem hml)
                  have hokm:=(ASOk.meetAll want width HOr.out.pop (l:=xs.take m) (fun y hy=>HXSUB.out y (List.mem_of_mem_take hy))).1
                  have hme:=HMEET.out _ u1 u2 xs[m] wr hxi HMm.out hokm HKm.out
                  rw [← meetAll_snoc,← List.take_succ_eq_append_getElem hml] at hme
                  generalize xs[m] = y at hcx hme
                  have HME:=hide hme
                  clear hme hokm hxi
                  go_wp2_with (go_at_call 106; refine HME.out.mono ?_; rintro e8 w8 ⟨rfl,u1',u2',hm8,hk8,ho8⟩)
                  refine ⟨⟨m + 1,u1',u2',by go_num,by omega,hm8,hk8,?_⟩,by simp [intOf]; omega⟩
                  refine ownsRow_kept HRm.out ho8 (fun g e=>?_)
                  obtain ⟨cur,hcur⟩:=ownsRow_obj HRm.out e
                  exact HMm.out.not3 hcur
                · have hMf:=HMm.out
                  rw [List.take_of_length_le (by omega),← HST9.out] at hMf
                  have HMF:=hide hMf
                  clear hMf
                  go_wp2
                  refine ⟨⟨u1,u2,_,f - 1,HMF.out,HSTEP.out.1,HFUEL.out.1,HFUEL.out.2,HKm.out⟩,?_⟩
                  have hmu9:2 * (ids.length - mapSize wr bm) + qLen wr bq = (stepS dd want width (fun i=>reachedL lk ch i layer) s).mu ids.length:=by
                    have e:=HLY.out; have h9:=HMF.out.mu ids.length; rw [e] at h9; exact h9
                  rw [HMUW.out,hmu9]
                  exact HSTEP.out.2
end
section
open Go.RowKit Go.Maps

set_option maxHeartbeats 400000 in
theorem anyone113 (id:Int) (w:World):Calls Tryz.prog 117 #[.int .i64 id] w fun e w'=>e = .returned (.bool true)∧Below w.heap.size w w':=by
  go_enter Tryz.func117,Tryz.ntmps117
  go_wp2
  go_ret
  exact ⟨rfl,Below.refl _ _⟩

set_option maxHeartbeats 1000000 in
theorem new48 (bg ms:Nat) (caps:Array Value) (w:World):Calls Tryz.prog 51 #[.pointer (some ⟨bg,0,none⟩),.func (.func ms) #[] caps] w fun ev w'=>ev = .returned (.pointer (some ⟨w.heap.size + 1,0,none⟩))∧WalkAt w' (w.heap.size + 1) bg ms caps w.heap.size []∧Below w.heap.size w w':=by
  have hmm:=@run_makeMap Tryz.prog
  go_enter Tryz.func51,Tryz.ntmps51
  go_wp2
  go_ret
  refine ⟨by simp,⟨?_,(AMap.made (E:=intKey) w).below ((Below.refl _ _).alloc (Nat.le_refl _) _)⟩,((Below.refl _ _).alloc (Nat.le_refl _) _).alloc (by simp) _⟩
  have:=heap_alloc_new (w.alloc (.map #[] 0)) (.cells #[.pointer (some ⟨bg,0,none⟩),.func (.func ms) #[] caps,.map (some w.heap.size)] 171)
  simpa using this

set_option maxHeartbeats 1000000 in
theorem looks56 (bw bg ms:Nat) (caps:Array Value) (bn:Nat) (kn:List (Int × Int)) (w:World) (h:WalkAt w bw bg ms caps bn kn):Calls Tryz.prog 59 #[.pointer (some ⟨bw,0,none⟩)] w fun ev w'=>ev = .returned (.int .i64 kn.length)∧w = w':=by
  have c2:=cells_at h.blk 2 rfl
  have hl:=h.map.len Tryz.underlying169
  have e:(levV kn).length = kn.length:=by simp [levV]
  rw [e] at hl
  clear h e
  go_enter Tryz.func59,Tryz.ntmps59
  go_wp2
  go_ret
  exact ⟨rfl,rfl⟩

def alongR (dd:Int→Int) (want:Int→Bool) (width:Int) (nb:Int→List Int) (N:Nat) (kn:List (Int × Int)) (st:List Hit):List (Int × Int) × List Hit :=
  let sF:=runS dd want width nb ((meetAll dd want width (begS kn) (st.map (·.1))).mu N) (meetAll dd want width (begS kn) (st.map (·.1)))
  (sF.kn,drainL sF.Fd.length sF.Fd)
def dnR (dd:Int→Int) (lk:Int × Int→List Int) (ch:List Int) (N:Nat):Nat→Int→List (Int × Int) × List Hit→List (Int × Int) × List Hit
  | 0,_,p=>p
  | n + 1,l,p=>dnR dd lk ch N n (l - 1) (alongR dd (fun _=>true) 1 (fun i=>reachedL lk ch i l) N p.1 p.2)

structure KnOk (ids:List Int) (dd:Int→Int) (kn:List (Int × Int)):Prop where
  nod:(kn.map (·.1)).Nodup
  sub:∀ p ∈ kn,p.1 ∈ ids
  val:∀ p ∈ kn,p.2 = dd p.1
theorem KnOk.beg {ids:List Int} {dd:Int→Int} {kn:List (Int × Int)} (h:KnOk ids dd kn):ASOk ids dd (begS kn) :=
  ⟨List.nodup_nil,fun _ hx=>absurd hx List.not_mem_nil,h.nod,h.sub,h.val,fun _ hx=>absurd hx List.not_mem_nil,fun _ hx=>absurd hx List.not_mem_nil,Nat.le_refl _,Nat.le_refl _⟩
theorem ASOk.know {ids:List Int} {dd:Int→Int} {s:AS} (h:ASOk ids dd s):KnOk ids dd s.kn:=⟨h.knn,h.kns,h.knd⟩
theorem KnOk.hit {ids:List Int} {dd:Int→Int} {kn:List (Int × Int)} (h:KnOk ids dd kn) {id:Int} (hid:id ∈ ids):KnOk ids dd (knowL dd kn id):=by
  unfold knowL
  split
  · rename_i hl
    refine ⟨?_,fun p hp=>?_,fun p hp=>?_⟩
    · rw [List.map_cons,List.nodup_cons]
      refine ⟨fun hx=>?_,h.nod⟩
      obtain ⟨p,hp,e⟩:=List.mem_map.1 hx
      exact levOf_none hl p hp e
    · rcases List.mem_cons.1 hp with rfl | hp
      · exact hid
      · exact h.sub p hp
    · rcases List.mem_cons.1 hp with rfl | hp
      · rfl
      · exact h.val p hp
  · exact h
theorem KnOk.len {ids:List Int} {dd:Int→Int} {kn:List (Int × Int)} (h:KnOk ids dd kn):kn.length≤ids.length:=h.beg.lens.2
theorem drain_ok {ids:List Int} {dd:Int→Int} {s:AS} (h:ASOk ids dd s):∀ x ∈ drainL s.Fd.length s.Fd,x.1 ∈ ids∧x.2 = dd x.1:=fun x hx=>by
  have:=mem_drainL (Nat.le_refl _) hx
  exact ⟨h.sub _ (h.fm x this).1,(h.fm x this).2⟩

structure WayEnv (w:World) (bg ms:Nat) (caps:Array Value) (bn:Nat) (ids:List Int) (dd:Int→Int) (F:Nat→Prop) (lev:List (Int × Int)) (lk:Int × Int→List Int) (ch:List Int):Prop where
  graph:GAt w bg F lev lk ch
  foot:∀ k,F k→k < w.heap.size∧k ≠ bn
  ints:∀ x ∈ ids,I64 x
  few:ids.length≤300
  nb:∀ l:Int,∀ i ∈ ids,∀ x ∈ reachedL lk ch i l,x ∈ ids
  len:∀ p,(lk p).length≤500
  chl:ch.length≤1000
  eg:∀ args w,(callFunc ms args).run Tryz.prog w = .ok (.enter ms args) w
  ms:∀ id ∈ ids,∀ W,Kept (fun k=>k = bn ∨ w.heap.size≤k) w W→Calls Tryz.prog ms (#[.int .i64 id] ++ caps) W fun e W'=>e = .returned (.int .i64 (dd id))∧Below W.heap.size W W'
theorem WayEnv.later {w w':World} {bg ms:Nat} {caps:Array Value} {bn:Nat} {ids:List Int} {dd:Int→Int} {F:Nat→Prop} {lev:List (Int × Int)} {lk:Int × Int→List Int} {ch:List Int} (h:WayEnv w bg ms caps bn ids dd F lev lk ch) (hk:Kept (fun k=>k = bn) w w'):WayEnv w' bg ms caps bn ids dd F lev lk ch :=
  ⟨h.graph.kept hk (fun k hf e=>(h.foot k hf).2 e),fun k hf=>⟨Nat.lt_of_lt_of_le (h.foot k hf).1 hk.size,(h.foot k hf).2⟩,h.ints,h.few,h.nb,h.len,h.chl,h.eg,
    fun id hid W hW=>h.ms id hid W ((hk.mono (fun _k _ e=>.inl e)).trans hW (fun _k _hlt e=>e.imp (fun e=>e) (fun e=>Nat.le_trans hk.size e)))⟩

theorem along54' (bw bg ms:Nat) (caps:Array Value) (bn:Nat) (kn:List (Int × Int)) (layer:Int) (v0:Value) (st:List Hit) (width:Int) (wk:Nat) (wcaps:Array Value) (ids:List Int) (dd:Int→Int) (want:Int→Bool) (F:Nat→Prop) (lev:List (Int × Int)) (lk:Int × Int→List Int) (ch:List Int) (w:World)
    (h:WalkAt w bw bg ms caps bn kn) (env:WayEnv w bg ms caps bn ids dd F lev lk ch) (hst:HRow w v0 st) (hsl:st.length≤300) (hsi:∀ x ∈ st,x.1 ∈ ids) (hlay:I64 layer) (hkn:KnOk ids dd kn) (hw0:0 < width)
    (ew:∀ args w,(callFunc wk args).run Tryz.prog w = .ok (.enter wk args) w)
    (hwk:∀ id ∈ ids,∀ W,Kept (fun k=>k = bn ∨ w.heap.size≤k) w W→Calls Tryz.prog wk (#[.int .i64 id] ++ wcaps) W fun e W'=>e = .returned (.bool (want id))∧Below W.heap.size W W') :
    Calls Tryz.prog 57 #[.pointer (some ⟨bw,0,none⟩),.int .i64 layer,v0,.int .i64 width,.func (.func wk) #[] wcaps] w fun ev w' =>
      ∃ v',ev = .returned v'∧HRow w' v' (alongR dd want width (fun i=>reachedL lk ch i layer) ids.length kn st).2∧(∀ g,v'.ownBlock = some g→w.heap.size≤g)∧WalkAt w' bw bg ms caps bn (alongR dd want width (fun i=>reachedL lk ch i layer) ids.length kn st).1 ∧
        KnOk ids dd (alongR dd want width (fun i=>reachedL lk ch i layer) ids.length kn st).1∧(∀ x ∈ (alongR dd want width (fun i=>reachedL lk ch i layer) ids.length kn st).2,x.1 ∈ ids∧x.2 = dd x.1)∧(alongR dd want width (fun i=>reachedL lk ch i layer) ids.length kn st).2.length≤300∧Kept (fun k=>k = bn) w w':=by
  refine (along54 bw bg ms caps bn kn layer v0 st width wk wcaps ids dd want F lev lk ch w h env.graph env.foot hst hsl hsi env.ints env.few hlay (env.nb layer) env.len env.chl hkn.beg hw0 env.eg ew env.ms hwk).mono ?_
  rintro ev w' ⟨v',sF,hsF,rfl,h1,h2,h3,h4,_,h5⟩
  have e:alongR dd want width (fun i=>reachedL lk ch i layer) ids.length kn st = (sF.kn,drainL sF.Fd.length sF.Fd):=by unfold alongR; rw [hsF]
  rw [e]
  refine ⟨v',rfl,h1,h2,h3,h4.know,drain_ok h4,?_,h5⟩
  show (drainL _ _).length≤300
  rw [drainL_length]
  have:=h4.fl
  have:=h4.lens.1
  have:=env.few
  omega
end
section
open Go.RowKit Go.Maps

theorem field77 (i:Int) (s:Value) (a b:Int) (w:World):(Instr.field 77 (.agg #[.int .i64 i,s,.int .i64 a,.int .i64 b]) 1).run Tryz.prog w = .ok s w:=by kernel_rfl

theorem MapAt.look1 {w:World} {bm:Nat} {L:List Ent} (h:MapAt w bm L) (id:Int) (hid:I64 id) {e:Ent} (he:findE id L = some e) :
    (Instr.lookup 153 (.map (some bm)) (.int .i64 id) false).run Tryz.prog w = .ok (.agg #[.int .i64 e.id,.slice (some ⟨e.mb,0,none⟩) e.pt.length e.mc,.int .i64 e.t0,.int .i64 e.t1]) w:=by
  obtain ⟨v,ps,hrun,hv⟩:=h.map.lookup key3 Tryz.underlying153 (zero56 w) (zd:=.held (.agg #[.int .i64 0,.slice none 0 0,.int .i64 0,.int .i64 0])) (zp:=[]) rfl (keyOf_int_mk Tryz.underlying3 hid)
  rw [atKey_mdata,he] at hv
  simp only [asIs,Option.some.injEq,Prod.mk.injEq] at hv
  rw [hrun,DataW.held.inj hv.1]; rfl

set_option maxHeartbeats 1000000 in
theorem peek53 (bs bm:Nat) (id:Int) (L:List Ent) (e:Ent) (w:World) (hid:I64 id) (c1:w.cell? ⟨bs,1,none⟩ = some (.map (some bm))) (hm:MapAt w bm L) (he:findE id L = some e) :
    Calls Tryz.prog 56 #[.pointer (some ⟨bs,0,none⟩),.int .i64 id] w fun ev w'=>ev = .returned (.agg #[.int .i64 e.id,.slice (some ⟨e.mb,0,none⟩) e.pt.length e.mc,.int .i64 e.t0,.int .i64 e.t1])∧Below w.heap.size w w':=by
  have hb:=block_lt_of_cell c1
  have hlk:=fun o=>(hm.alloc o).look1 id hid he
  clear hm he
  go_enter Tryz.func56,Tryz.ntmps56
  go_wp2
  refine bodyPost_ret (v:=.agg #[.int .i64 e.id,.slice (some ⟨e.mb,0,none⟩) e.pt.length e.mc,.int .i64 e.t0,.int .i64 e.t1]) (by simp [results,Tryz.results56,go_sem]) rfl ⟨rfl,?_⟩
  repeat (first | exact Below.refl _ _ | refine Below.setCell ?_ (by first | omega | (simp; done) | (simp; omega)) _ | refine Below.alloc ?_ (by first | omega | (simp; done) | (simp; omega)) _)

structure PtsAt (w:World) (bb bs bm:Nat) (m:Int) (dim:Nat) (L:List Ent):Prop where
  b3:w.cell? ⟨bb,3,none⟩ = some (.int .i64 m)
  b6:w.cell? ⟨bb,6,none⟩ = some (.pointer (some ⟨bs,0,none⟩))
  s1:w.cell? ⟨bs,1,none⟩ = some (.map (some bm))
  map:MapAt w bm L
  len:∀ e ∈ L,e.pt.length = dim
  crd:∀ e ∈ L,∀ x ∈ e.pt,Crd x
theorem PtsAt.below {w w':World} {bb bs bm:Nat} {m:Int} {dim:Nat} {L:List Ent} (h:PtsAt w bb bs bm m dim L) (hb:Below w.heap.size w w'):PtsAt w' bb bs bm m dim L :=
  ⟨cell_below h.b3 hb,cell_below h.b6 hb,cell_below h.s1 hb,h.map.below hb,h.len,h.crd⟩
theorem PtsAt.drew {w:World} {bb bs bm:Nat} {m:Int} {dim:Nat} {L:List Ent} (h:PtsAt w bb bs bm m dim L):PtsAt w.drew bb bs bm m dim L:=h.below (Below.refl _ _).drew
set_option maxHeartbeats 1000000 in
set_option maxRecDepth 20000 in
theorem distance50 (bb bs bm:Nat) (m:Int) (dim:Nat) (v1:Value) (p:List Int) (id:Int) (L:List Ent) (e:Ent) (w:World) (h:PtsAt w bb bs bm m dim L) (hid:I64 id) (he:findE id L = some e) (h1:w.ownsRow 0 3 1 v1 p.length (vals p)) (hl:p.length = dim) (hp:∀ x ∈ p,Crd x) (h8:dim≤100) :
    Calls Tryz.prog 53 #[.pointer (some ⟨bb,0,none⟩),v1,.int .i64 id] w fun ev w'=>ev = .returned (.int .i64 (distL m p e.pt))∧Below w.heap.size w w':=by
  have hmem:=(findE_mem he).1
  have b3:=h.b3
  have b6:=h.b6
  have hpk:=fun W (hW:Below w.heap.size w W)=>peek53 bs bm id L e W hid (h.below hW).s1 (h.below hW).map he
  have hof:=fun W (hW:Below w.heap.size w W)=>of97 m v1 (.slice (some ⟨e.mb,0,none⟩) e.pt.length e.mc) p e.pt W (ownsRow_below h1 hW) ((h.below hW).map.pts e hmem) (by rw [hl,h.len e hmem]) hp (h.crd e hmem) (by omega) |>.mono (R':=fun e' w'=>e' = Ending.returned (.int .i64 (distL m p e.pt))∧Below W.heap.size W w') (fun e' w' hh=>⟨hh.1,by obtain ⟨n,rfl⟩:=hh.2; exact below_drewN (Below.refl _ _) n⟩)
  obtain ⟨a1,c1,hv1,ha1⟩:=IRow_slice h1
  subst hv1
  have hfd:=field77 e.id (.slice (some ⟨e.mb,0,none⟩) e.pt.length e.mc) e.t0 e.t1
  have HPK:=hide hpk
  have HOF:=hide hof
  have HB0:Hid (Below w.heap.size w w):=Below.refl _ _
  have hpd:=HPK.out w.drew (Below.refl _ _).drew
  have HPD:=hide hpd
  have HSA:Hid (w.drew.cell? ⟨bb,3,none⟩ = some (.int .i64 m)∧w.drew.cell? ⟨bb,6,none⟩ = some (.pointer (some ⟨bs,0,none⟩))):=⟨b3,b6⟩
  clear h h1 hl hp hpk hof ha1 hmem he hpd
  go_enter Tryz.func53,Tryz.ntmps53
  go_wp2
  go_region_held3 (fun wx=>wx.cell? ⟨bb,3,none⟩ = some (.int .i64 m)∧wx.cell? ⟨bb,6,none⟩ = some (.pointer (some ⟨bs,0,none⟩)))
    ((first | with_reducible exact HSA.out | with_reducible exact HSB.out | with_reducible exact HSC.out))
    (first
      | (go_at_call 56; refine HPD.out.mono ?_; rintro e2 w2 ⟨rfl,hb2⟩; have HSB:=hide (And.intro (cell_below HSA.out.1 hb2) (cell_below HSA.out.2 hb2)); have hb3:=Below.undrew hb2; have hof2:=HOF.out w2 hb3)
      | (go_at_call 101; refine hof2.mono ?_; rintro e3 w3 ⟨rfl,hb4⟩; have HSC:=hide (And.intro (cell_below HSB.out.1 hb4) (cell_below HSB.out.2 hb4))))
  go_wp2
  go_ret
  exact ⟨rfl,hb3.trans (hb4.mono hb3.size)⟩

def ptOf (L:List Ent) (id:Int):List Int:=match findE id L with | some e=>e.pt | none=>[]
def ddE (m:Int) (L:List Ent) (a b:Int):Int:=distL m (ptOf L a) (ptOf L b)

set_option maxHeartbeats 1000000 in
set_option maxRecDepth 20000 in
theorem weave86 (bc bb bs bm:Nat) (m:Int) (dim:Nat) (a b:Int) (L:List Ent) (w:World) (h:PtsAt w bb bs bm m dim L) (hc:w.cell? ⟨bc,0,none⟩ = some (.pointer (some ⟨bb,0,none⟩))) (ha:I64 a) (hb:I64 b) (hea:(findE a L).isSome = true) (heb:(findE b L).isSome = true) (h8:dim≤100) :
    Calls Tryz.prog 90 #[.int .i64 a,.int .i64 b,.pointer (some ⟨bc,0,none⟩)] w fun ev w'=>ev = .returned (.int .i64 (ddE m L a b))∧Below w.heap.size w w':=by
  obtain ⟨ea,hea⟩:=Option.isSome_iff_exists.1 hea
  obtain ⟨eb,heb⟩:=Option.isSome_iff_exists.1 heb
  have hmem:=(findE_mem hea).1
  have hdd:ddE m L a b = distL m ea.pt eb.pt:=by unfold ddE ptOf; rw [hea,heb]
  rw [hdd]
  have b6:=h.b6
  have hpk:=peek53 bs bm a L ea w.drew ha h.drew.s1 h.drew.map hea
  have hds:=fun W (hW:Below w.heap.size w W)=>distance50 bb bs bm m dim (.slice (some ⟨ea.mb,0,none⟩) ea.pt.length ea.mc) ea.pt b L eb W (h.below hW) hb heb ((h.below hW).map.pts ea hmem) (h.len ea hmem) (h.crd ea hmem) h8
  have hfd:=field77 ea.id (.slice (some ⟨ea.mb,0,none⟩) ea.pt.length ea.mc) ea.t0 ea.t1
  have HPK:=hide hpk
  have HDS:=hide hds
  have HSA:Hid (w.drew.cell? ⟨bc,0,none⟩ = some (.pointer (some ⟨bb,0,none⟩))∧w.drew.cell? ⟨bb,6,none⟩ = some (.pointer (some ⟨bs,0,none⟩))):=⟨hc,b6⟩
  clear h hpk hds hmem hea heb hdd
  go_enter Tryz.func90,Tryz.ntmps90
  go_wp2
  go_region_held3 (fun wx=>wx.cell? ⟨bc,0,none⟩ = some (.pointer (some ⟨bb,0,none⟩))∧wx.cell? ⟨bb,6,none⟩ = some (.pointer (some ⟨bs,0,none⟩)))
    ((first | with_reducible exact HSA.out | with_reducible exact HSB.out | with_reducible exact HSC.out))
    (first
      | (go_at_call 56; refine HPK.out.mono ?_; rintro e2 w2 ⟨rfl,hb2⟩; have HSB:=hide (And.intro (cell_below HSA.out.1 hb2) (cell_below HSA.out.2 hb2)); have hb3:=Below.undrew hb2; have hof2:=HDS.out w2 hb3)
      | (go_at_call 53; refine hof2.mono ?_; rintro e3 w3 ⟨rfl,hb4⟩; have HSC:=hide (And.intro (cell_below HSB.out.1 hb4) (cell_below HSB.out.2 hb4))))
  go_wp2
  go_ret
  exact ⟨rfl,hb3.trans (hb4.mono hb3.size)⟩

theorem enter86 (args:Array Value) (w:World):(callFunc 90 args).run Tryz.prog w = .ok (.enter 90 args) w:=by kernel_rfl
theorem enter136 (args:Array Value) (w:World):(callFunc 143 args).run Tryz.prog w = .ok (.enter 143 args) w:=by kernel_rfl

set_option maxHeartbeats 1000000 in
set_option maxRecDepth 20000 in
theorem near136 (bv bi:Nat) (mk:Nat) (caps:Array Value) (dd:Int→Int→Int) (id o:Int) (w:World) (hv:w.cell? ⟨bv,3,none⟩ = some (.func (.func mk) #[] caps)) (hi:w.cell? ⟨bi,0,none⟩ = some (.int .i64 id))
    (eg:∀ args w,(callFunc mk args).run Tryz.prog w = .ok (.enter mk args) w)
    (hm:Calls Tryz.prog mk (#[.int .i64 id,.int .i64 o] ++ caps) w fun e W'=>e = .returned (.int .i64 (dd id o))∧Below w.heap.size w W') :
    Calls Tryz.prog 143 #[.int .i64 o,.pointer (some ⟨bv,0,none⟩),.pointer (some ⟨bi,0,none⟩)] w fun ev w'=>ev = .returned (.int .i64 (dd id o))∧Below w.heap.size w w':=by
  have HM:=hide hm
  clear hm
  go_enter Tryz.func143,Tryz.ntmps143
  go_wp2_with fail
  refine HM.out.mono ?_
  rintro e2 w2 ⟨rfl,hb2⟩
  go_wp2
  go_ret
  exact ⟨rfl,hb2⟩
end
section
open Go.RowKit Go.Maps

def mostL (links l:Int):Int:=if l = 0 then 2 * links else links
def roomL (links:Int) (lk:Int × Int→List Int) (id l:Int):Bool:=decide (((lk (id,l)).length:Int) < mostL links l)

set_option maxHeartbeats 1000000 in
set_option maxRecDepth 20000 in
theorem room133 (bg:Nat) (links beam:Int) (fv:Value) (F:Nat→Prop) (lev:List (Int × Int)) (lk:Int × Int→List Int) (ch:List Int) (id l:Int) (w:World) (h:GAt w bg F lev lk ch) (hid:I64 id) (hl:I64 l) (hs:(lk (id,l)).length≤1000) (hk:0≤links∧links≤1000) :
    Calls Tryz.prog 140 #[.agg #[.pointer (some ⟨bg,0,none⟩),.int .i64 links,.int .i64 beam,fv],.int .i64 id,.int .i64 l] w fun ev w'=>ev = .returned (.bool (roomL links lk id l))∧Below w.heap.size w w':=by
  have h1:=fun W (hW:Below w.heap.size w W)=>linked88 bg F lev lk ch id l W (h.below hW) hid hl hs
  have H1:=hide h1
  have w2:IntKind.i64.wrap (2 * links) = 2 * links:=by rw [IntKind.wrap_i64]; omega
  have HRM:Hid (roomL links lk id l = decide (((lk (id,l)).length:Int) < mostL links l)):=rfl
  have HML:Hid (mostL links l = if l = 0 then 2 * links else links):=rfl
  generalize roomL links lk id l = rv at HRM
  generalize mostL links l = mv at HRM HML
  generalize lk (id,l) = xs at H1 HRM hs
  clear h h1
  have ha:=(Below.refl w.heap.size w).alloc (Nat.le_refl _) (.cells #[.pointer (some ⟨bg,0,none⟩),.int .i64 links,.int .i64 beam,fv] 109)
  by_cases h0:l = 0
  · subst h0
    go_enter Tryz.func140,Tryz.ntmps140
    go_wp2_with fail
    refine (H1.out _ ha).mono ?_
    rintro e1 w1 ⟨v',rfl,r1,_,hb1,_⟩
    obtain ⟨a1,c1,hv1,_⟩:=IRow_slice r1
    subst hv1
    have hB:=hide hb1
    clear r1 hb1
    go_wp2
    go_ret
    refine ⟨?_,?_⟩
    · rw [HRM.out,HML.out]; simp
    · exact ha.trans (hB.out.mono (by simp))
  · go_enter Tryz.func140,Tryz.ntmps140
    go_wp2_with fail
    refine (H1.out _ ha).mono ?_
    rintro e1 w1 ⟨v',rfl,r1,_,hb1,_⟩
    obtain ⟨a1,c1,hv1,_⟩:=IRow_slice r1
    subst hv1
    have hB:=hide hb1
    clear r1 hb1
    go_wp2
    go_ret
    refine ⟨?_,?_⟩
    · rw [HRM.out,HML.out,if_neg h0]; simp
    · exact ha.trans (hB.out.mono (by simp))

set_option maxHeartbeats 1000000 in
set_option maxRecDepth 20000 in
theorem hit138 (gv:Value) (links beam:Int) (mk:Nat) (caps:Array Value) (dd:Int→Int→Int) (id o:Int) (w:World)
    (eg:∀ args w,(callFunc mk args).run Tryz.prog w = .ok (.enter mk args) w)
    (hm:∀ W,Below w.heap.size w W→Calls Tryz.prog mk (#[.int .i64 id,.int .i64 o] ++ caps) W fun e W'=>e = .returned (.int .i64 (dd id o))∧Below W.heap.size W W') :
    Calls Tryz.prog 145 #[.agg #[gv,.int .i64 links,.int .i64 beam,.func (.func mk) #[] caps],.int .i64 id,.int .i64 o] w fun ev w'=>ev = .returned (.agg #[.int .i64 o,.int .i64 (dd id o)])∧Below w.heap.size w w':=by
  have HM:=hide hm
  clear hm
  have ha:=((Below.refl w.heap.size w).alloc (Nat.le_refl _) (.cells #[gv,.int .i64 links,.int .i64 beam,.func (.func mk) #[] caps] 109)).alloc (by simp) (.cells #[.int .i64 0,.int .i64 0] 63)
  go_enter Tryz.func145,Tryz.ntmps145
  go_wp2_with fail
  refine (HM.out _ ha).mono ?_
  rintro e1 w1 ⟨rfl,hb1⟩
  have l0:w1.cell? ⟨w.heap.size + 1,0,none⟩ = some (.int .i64 0):=Below.at hb1 (by simp) (by simp)
  have l1:w1.cell? ⟨w.heap.size + 1,1,none⟩ = some (.int .i64 0):=Below.at hb1 (by simp) (by simp)
  have fl:∀ o,w1.frozen? ⟨w.heap.size + 1,o,none⟩ = false:=fun o=>(hb1.frozen (p:=⟨_,o,none⟩) (by simp)).trans (by simp)
  have hz:w.heap.size + 1 < w1.heap.size:=by have:=hb1.size; simp at this; omega
  have HB:=hide (ha.trans (hb1.mono (by simp; omega)))
  clear hb1
  go_wp2
  refine bodyPost_ret (v:=.agg #[.int .i64 o,.int .i64 (dd id o)]) (by simp [results,Tryz.results145,go_sem,l0,l1]) rfl ⟨rfl,?_⟩
  repeat (first | exact HB.out | refine Below.setCell ?_ (by first | omega | (simp; done) | (simp; omega)) _)
end
end Go.Proofs.YtpkiefjanmfgfaaGreatDoor
