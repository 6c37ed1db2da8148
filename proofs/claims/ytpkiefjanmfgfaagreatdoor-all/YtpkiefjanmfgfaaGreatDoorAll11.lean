import Derived.Test.YtpkiefjanmfgfaaGreatDoorAll10
namespace Go.Proofs.YtpkiefjanmfgfaaGreatDoor
section
open Go.RowKit Go.Maps

theorem info58:(Tryz.prog.info? 58).map (fun i=>(i.zero,i.size,i.bytes)) = some (some (.slice none 0 0),1,24):=by kernel_rfl

theorem madeNils (n:Nat):madeCells (Value.cells (.slice none 0 0)) n = (List.replicate n (.slice none 0 0)).toArray:=by
  rw [← toList_madeCells_one]
  rfl

theorem WayEnv.later2 {w w':World} {bg ms:Nat} {caps:Array Value} {bn:Nat} {ids:List Int} {dd:Int→Int} {F:Nat→Prop} {lev:List (Int × Int)} {lk:Int × Int→List Int} {ch:List Int} (h:WayEnv w bg ms caps bn ids dd F lev lk ch) (hk:Kept (fun k=>k = bn ∨ w.heap.size≤k) w w'):WayEnv w' bg ms caps bn ids dd F lev lk ch :=
  ⟨h.graph.kept hk (fun k hf e=>by have:=h.foot k hf; omega),fun k hf=>⟨Nat.lt_of_lt_of_le (h.foot k hf).1 hk.size,(h.foot k hf).2⟩,h.ints,h.few,h.nb,h.len,h.chl,h.eg,
    fun id hid W hW=>h.ms id hid W (hk.trans hW (fun k hlt e=>e.imp (fun e=>e) (fun e=>Nat.le_trans hk.size e)))⟩

set_option maxHeartbeats 4000000 in
set_option maxRecDepth 20000 in
theorem near91 (bg:Nat) (links beam:Int) (mk:Nat) (caps:Array Value) (dd:Int→Int→Int) (F:Nat→Prop) (lev:List (Int × Int)) (lk:Int × Int→List Int) (ch:List Int) (ids:List Int) (id level:Int) (w:World)
    (h:GAt w bg F lev lk ch) (hF:∀ k,F k→k < w.heap.size) (hlk:LkIn ids lk) (hids:ids.length≤300) (hI:∀ x ∈ ids,I64 x) (hnb:∀ l:Int,∀ i ∈ ids,∀ x ∈ reachedL lk ch i l,x ∈ ids) (hch:ch.length≤1000) (hlev:∀ p ∈ lev,0≤p.2∧p.2≤10∧p.1 ∈ ids) (hl:0≤level∧level≤10) (hb0:0 < beam)
    (eg:∀ args w,(callFunc mk args).run Tryz.prog w = .ok (.enter mk args) w)
    (hm:∀ b ∈ ids,∀ W,Kept F w W→Calls Tryz.prog mk (#[.int .i64 id,.int .i64 b] ++ caps) W fun e W'=>e = .returned (.int .i64 (dd id b))∧Below W.heap.size W W') :
    Calls Tryz.prog 95 #[.agg #[.pointer (some ⟨bg,0,none⟩),.int .i64 links,.int .i64 beam,.func (.func mk) #[] caps],.int .i64 id,.int .i64 level] w fun ev w' =>
      ∃ v' vs,ev = .returned v'∧FoundAt w' w.heap.size v' (nearF (dd id) beam lev lk ch ids.length level) vs∧(∀ f ∈ nearF (dd id) beam lev lk ch ids.length level,f.length≤300∧∀ x ∈ f,x.1 ∈ ids)∧Below w.heap.size w w':=by
  have hw1:Below w.heap.size w ((w.alloc (.cells #[.pointer (some ⟨bg,0,none⟩),.int .i64 links,.int .i64 beam,.func (.func mk) #[] caps] 109)).alloc (.cells #[.int .i64 id] 3)):=((Below.refl _ _).alloc (Nat.le_refl _) _).alloc (by simp) _
  have hc3:((w.alloc (.cells #[.pointer (some ⟨bg,0,none⟩),.int .i64 links,.int .i64 beam,.func (.func mk) #[] caps] 109)).alloc (.cells #[.int .i64 id] 3)).heap[w.heap.size]? = some (.cells #[.pointer (some ⟨bg,0,none⟩),.int .i64 links,.int .i64 beam,.func (.func mk) #[] caps] 109 (0,0)):=(Below.heap_alloc _ _ _ (by simp)).trans (heap_alloc_new _ _)
  have hc4:((w.alloc (.cells #[.pointer (some ⟨bg,0,none⟩),.int .i64 links,.int .i64 beam,.func (.func mk) #[] caps] 109)).alloc (.cells #[.int .i64 id] 3)).heap[w.heap.size + 1]? = some (.cells #[.int .i64 id] 3 (0,0)):=heap_alloc2_new _ _ _
  have hen:=entrance112 bg F lev lk ch _ (h.below hw1) (fun p hp=>⟨hI _ (hlev p hp).2.2,(hlev p hp).1⟩)
  have HEN:=hide hen
  have HG:=hide h
  have HW1:=hide hw1
  have HC3:=hide hc3
  have HC4:=hide hc4
  have HFW:=hide hF
  have HLK:=hide hlk
  have HI:=hide hI
  have HNB:=hide hnb
  have HLEV:=hide hlev
  have HM:=hide hm
  clear h hF hlk hI hnb hlev hm hw1 hc3 hc4 hen
  by_cases hnil:lev = []
  · subst hnil
    rw [entrL_nil] at HEN
    have hfalse:decide ((0:Int)≤(-1:Int)) = false:=by decide
    simp only [hfalse] at HEN
    go_enter Tryz.func95,Tryz.ntmps95
    go_wp2_with fail
    refine HEN.out.mono ?_
    rintro e2 w2 ⟨rfl,hb2⟩
    have HB2:=hide (HW1.out.trans (hb2.mono HW1.out.size))
    clear hb2
    go_wp2
    go_ret
    have e:nearF (dd id) beam [] lk ch ids.length level = []:=by rw [nearF,if_pos rfl]
    rw [e]
    exact ⟨_,[],rfl,⟨⟨none,rfl,fun h=>absurd h (Nat.lt_irrefl _)⟩,rfl,fun k hk=>absurd hk (Nat.not_lt_zero _)⟩,fun f hf=>absurd hf List.not_mem_nil,HB2.out⟩
  · have hmem:=entrL_mem (fun p hp=>(HLEV.out p hp).1) hnil
    have e:nearF (dd id) beam lev lk ch ids.length level = nrR (dd id) beam lk ch ids.length (min level (entrL lev).2 + 1).toNat (downR (dd id) lev lk ch ids.length [] level):=by rw [nearF,if_neg hnil]
    rw [e]
    have hlv:levOf lev (entrL lev).1 = some (entrL lev).2:=levOf_of_mem HG.out.levNodup hmem
    have hfa:=HLEV.out _ hmem
    generalize (entrL lev) = et at HEN hmem hlv hfa
    obtain ⟨en,T⟩:=et
    simp only at HEN hlv hfa ⊢
    have htrue:decide ((0:Int)≤T) = true:=by simpa using hfa.1
    rw [htrue] at HEN
    have HLV:=hide hlv
    have HT:=hide hfa
    clear e hmem hlv hfa htrue hnil
    go_enter Tryz.func95,Tryz.ntmps95
    go_wp2_with fail
    refine HEN.out.mono ?_
    rintro e2 w2 ⟨rfl,hb2⟩
    have hW2:=HW1.out.trans (hb2.mono HW1.out.size)
    have hx3:=(hb2.block _ (heap_lt HC3.out)).trans HC3.out
    have hx4:=(hb2.block _ (heap_lt HC4.out)).trans HC4.out
    have hs2:w.heap.size + 1 < w2.heap.size:=heap_lt hx4
    have hnew:=new48 bg 143 #[.pointer (some ⟨w.heap.size,0,none⟩),.pointer (some ⟨w.heap.size + 1,0,none⟩)] w2
    have d0:=cells_at hx3 0 rfl
    have HNEW:=hide hnew
    have HW2:=hide hW2
    have HX3:=hide hx3
    have HX4:=hide hx4
    clear hnew hW2 hx3 hx4 hb2
    go_wp2_with fail
    refine HNEW.out.mono ?_
    rintro e3 w3 ⟨rfl,hw3,hb3⟩
    have hx3:=(hb3.block _ (heap_lt HX3.out)).trans HX3.out
    have hx4:=(hb3.block _ (heap_lt HX4.out)).trans HX4.out
    have hW3:=HW2.out.trans (hb3.mono HW2.out.size)
    have hs3:=hb3.size
    have hlt3:=heap_lt hw3.blk
    have hE3:WayEnv w3 bg 143 #[.pointer (some ⟨w.heap.size,0,none⟩),.pointer (some ⟨w.heap.size + 1,0,none⟩)] w2.heap.size ids (dd id) F lev lk ch:=by
      refine ⟨HG.out.below hW3,fun k hk=>⟨by have:=HFW.out k hk; omega,by have:=HFW.out k hk; omega⟩,HI.out,hids,HNB.out,fun p=>Nat.le_trans (HLK.out.len p) (by omega),hch,enter136,fun o ho W hW=>?_⟩
      exact near136 w.heap.size (w.heap.size + 1) mk caps dd id o W (hW.cell (cells_at hx3 3 rfl) (by omega)) (hW.cell (cells_at hx4 0 rfl) (by omega)) eg
        (HM.out o ho W ((Kept.of_below F hW3).trans hW (fun j hj e=>by omega)))
    have hdn:=down55 (w2.heap.size + 1) bg 143 #[.pointer (some ⟨w.heap.size,0,none⟩),.pointer (some ⟨w.heap.size + 1,0,none⟩)] w2.heap.size [] level ids (dd id) F lev lk ch w3 hw3 hE3 hl ⟨List.nodup_nil,fun _ hp=>absurd hp List.not_mem_nil,fun _ hp=>absurd hp List.not_mem_nil⟩ HLEV.out
    have HDN:=hide hdn
    have HE3:=hide hE3
    have HW3:=hide hW3
    have HX3':=hide hx3
    have HX4':=hide hx4
    clear hdn hE3 hW3 hx3 hx4 hb3 hw3 d0 HNEW
    go_wp2_with fail
    refine HDN.out.mono ?_
    rintro e4 w4 ⟨v4,rfl,r4,f4,a4,k4,x4,l4,kk4⟩
    have hE4:=HE3.out.later kk4
    have hx3:=(kk4.block _ (heap_lt HX3'.out) (by omega)).trans HX3'.out
    have hx4:=(kk4.block _ (heap_lt HX4'.out) (by omega)).trans HX4'.out
    have hlv4:=level87 bg F lev lk ch en w4 hE4.graph (HI.out _ HT.out.2.2)
    rw [HLV.out] at hlv4
    simp only [Option.getD_some] at hlv4
    have hW4:Below w.heap.size w w4:=HW3.out.trans (kk4.toBelow HW3.out.size (fun k e=>by omega))
    have hs4:=kk4.size
    have d0:=cells_at hx3 0 rfl
    generalize hp0:downR (dd id) lev lk ch ids.length [] level = p0 at r4 a4 k4 x4 l4
    have HP0:=hide hp0
    clear hp0
    have HLV4:=hide hlv4
    have HE4:=hide hE4
    have HW4:=hide hW4
    have HX3:=hide hx3
    have R4:=hide r4
    have F4:=hide f4
    have A4:=hide a4
    have K4:=hide k4
    have X4:=hide x4
    have L4:=hide l4
    have HK34:Hid (Kept (fun k=>k = w2.heap.size ∨ w3.heap.size≤k) w3 w4):=kk4.mono (fun k _ e=>.inl e)
    clear hlv4 hE4 hW4 hx3 hx4 r4 f4 a4 k4 x4 l4 kk4 HDN HX4' HX4 HE4 HW4 HX3
    have hn1:((min level T + 1).toNat:Int) = min level T + 1:=by have:=HT.out.1; omega
    have hn2:(min level T + 1).toNat≤11:=by omega
    have hn3:0 < (min level T + 1).toNat:=by have:=HT.out.1; omega
    obtain ⟨i0,hi,hz0,hz1,hz2⟩:=info_parts info58
    have hmk:=run_make (P:=Tryz.prog) w4 33 58 i0 (.slice none 0 0) Tryz.underlying33 hi hz0 .i64 .i64 (min level T + 1) (min level T + 1) (by have:=HT.out.1; omega) (Int.le_refl _) (by rw [hz2]; omega) (by omega)
    simp only [hz1] at hmk
    rw [Nat.mul_one] at hmk
    generalize hnn:(min level T + 1).toNat = n at hn1 hn2 hn3 hmk
    have HNN:=hide hnn
    clear hnn
    have hwr:IntKind.i64.wrap (min level T + 1) = min level T + 1:=by rw [IntKind.wrap_i64]; have:=HT.out.1; omega
    go_wp2_with (go_at_call 91; refine HLV4.out.mono ?_; rintro e5 w5 ⟨rfl,rfl⟩)
    have HA4:=hide (A4.out.below ((Below.refl _ _).alloc (Nat.le_refl _) (.cells (madeCells #[.slice none 0 0] n) 58)))
    have HR4:=hide (ownsRow_below R4.out ((Below.refl _ _).alloc (Nat.le_refl _) (.cells (madeCells #[.slice none 0 0] n) 58)))
    have HKK:=hide (HK34.out.alloc (.cells (madeCells #[.slice none 0 0] n) 58))
    have HBK:Hid ((w4.alloc (.cells (madeCells #[.slice none 0 0] n) 58)).heap[w4.heap.size]? = some (.cells (List.replicate n (.slice none 0 0)).toArray 58 (0,0))):=by
      have e:madeCells #[.slice none 0 0] n = (List.replicate n (.slice none 0 0)).toArray:=madeNils n
      rw [← e]
      exact heap_alloc_new _ _
    clear A4 R4 HK34 d0 hmk hwr
    generalize w4.alloc (.cells (madeCells #[.slice none 0 0] n) 58) = w5 at HA4 HR4 HKK HBK ⊢
    go_loopw [10,12] (fun sv lv wr=>∃ (j:Nat) (l:Int) (p:List (Int × Int) × List Hit) (vs:List Value) (done:List (List Hit)),lv = .int .i64 l∧l = (j:Int) - 1∧j≤n∧Hid (nrR (dd id) beam lk ch ids.length n p0 = nrR (dd id) beam lk ch ids.length j p ++ done)∧Hid (vs.length = n)∧Hid (done.length = n - j)∧Hid (wr.heap[w4.heap.size]? = some (.cells vs.toArray 58 (0,0))) ∧
      Hid (∀ k,j≤k→k < n→HRow wr (vs.getD k (.slice none 0 0)) (done.getD (k - j) [])∧∀ g,(vs.getD k (.slice none 0 0)).ownBlock = some g→w.heap.size≤g)∧Hid (∀ f ∈ done,f.length≤300∧∀ x ∈ f,x.1 ∈ ids)∧Hid (HRow wr sv p.2)∧Hid (∀ g,sv.ownBlock = some g→w.heap.size≤g) ∧
      Hid (WalkAt wr (w2.heap.size + 1) bg 143 #[.pointer (some ⟨w.heap.size,0,none⟩),.pointer (some ⟨w.heap.size + 1,0,none⟩)] w2.heap.size p.1)∧Hid (KnOk ids (dd id) p.1)∧Hid (∀ x ∈ p.2,x.1 ∈ ids∧x.2 = dd id x.1)∧Hid (p.2.length≤300)∧Hid (Kept (fun k=>k = w2.heap.size ∨ w3.heap.size≤k) w3 wr)) (fun _ lv _=>(intOf lv + 1).toNat)
    case atStart =>
      refine ⟨n,(n:Int) - 1,p0,List.replicate n (.slice none 0 0),[],?_,rfl,Nat.le_refl _,(List.append_nil _).symm,List.length_replicate,(Nat.sub_self _).symm,HBK.out,fun k h1 h2=>absurd h2 (by omega),fun f hf=>absurd hf List.not_mem_nil,HR4.out,fun g e=>Nat.le_trans (Nat.le_trans (by omega) hs3) (F4.out g e),HA4.out,K4.out,X4.out,L4.out,HKK.out⟩
      first | rfl | (congr 1; omega)
    case round =>
      obtain ⟨j,l,p,vs,done,rfl,hlj,hjn,HD,HVL,HDL,HBR,HRW,HDN2,HR,HFr,HWr,HKr,HXr,HLr,HKp⟩:=hrel
      by_cases hj:0 < j
      · obtain ⟨j',rfl⟩:∃ j',j = j' + 1:=⟨j - 1,by omega⟩
        obtain rfl:l = (j':Int):=by omega
        have hEr:=HE3.out.later2 HKp.out
        have hal:=along54' (w2.heap.size + 1) bg 143 _ w2.heap.size p.1 j' u10 p.2 beam 117 #[] ids (dd id) (fun _=>true) F lev lk ch wr HWr.out hEr HR.out HLr.out (fun x hx=>(HXr.out x hx).1) (I64_of j' (by omega) (by omega)) HKr.out hb0 (enters_of Tryz.func117 (by kernel_rfl) rfl) (fun id _ W _=>by
          have:=anyone113 id W
          simpa using this)
        generalize hpp:alongR (dd id) (fun _=>true) beam (fun i=>reachedL lk ch i j') ids.length p.1 p.2 = pp at hal
        have HPP:=hide hpp
        have HAL:=hide hal
        have hx3:=(HKp.out.block _ (heap_lt HX3'.out) (by omega)).trans HX3'.out
        have d2:=cells_at hx3 2 rfl
        have HLJ:=hide hlj
        clear hal hpp hEr hx3 hlj
        go_wp2_with fail
        refine HAL.out.mono ?_
        rintro e6 w6 ⟨v6,rfl,q1,q2,q3,q4,q5,q6,q7⟩
        obtain ⟨a6,c6,hv6,_⟩:=HRow_slice q1
        subst hv6
        have hbk6:=(q7.block _ (heap_lt HBR.out) (by omega)).trans HBR.out
        have hjv:j' < vs.length:=by rw [HVL.out]; omega
        have y0:w6.cell? ⟨w4.heap.size,j',none⟩ = some (vs.getD j' (.slice none 0 0)):=cells_at hbk6 j' (by simp [List.getD_eq_getElem?_getD,hjv])
        have yf:=cells_frozen hbk6
        have HBK6:=hide hbk6
        have Q1:=hide q1
        have Q2:=hide q2
        have Q3:=hide q3
        have Q4:=hide q4
        have Q5:=hide q5
        have Q6:=hide q6
        have Q7:=hide q7
        clear hbk6 q1 q2 q3 q4 q5 q6 q7
        have HJV:=hide hjv
        clear hjv
        go_wp2
        have hk6:Kept (fun k=>k = w4.heap.size) w6 (w6.setCell ⟨w4.heap.size,j',none⟩ (.slice a6 pp.2.length c6)):=(Kept.refl (fun k=>k = w4.heap.size) w6).setCell (p:=⟨w4.heap.size,j',none⟩) (fun _=>rfl) _
        have hrw:∀ {v:Value} {fl:List Hit},HRow w6 v fl→HRow (w6.setCell ⟨w4.heap.size,j',none⟩ (.slice a6 pp.2.length c6)) v fl:=fun {v fl} hr=>ownsRow_kept hr hk6 (fun g e e2=>row_ne hr HBK6.out (by decide) (by rw [e,e2]))
        refine ⟨⟨j',(j':Int) - 1,pp,vs.set j' (.slice a6 pp.2.length c6),pp.2 :: done,rfl,rfl,by omega,?_,?_,?_,?_,fun k h1 h2=>?_,fun f hf=>?_,hrw Q1.out,fun g e=>?_,?_,Q4.out,fun x hx=>Q5.out x hx,Q6.out,?_⟩,by simp [intOf]⟩
        · show nrR _ _ _ _ _ n p0 = _
          rw [HD.out,nrR,HPP.out,List.append_assoc]; rfl
        · show (vs.set _ _).length = n
          rw [List.length_set]; exact HVL.out
        · show (_ :: done).length = _
          rw [List.length_cons,HDL.out]; omega
        · show _ = _
          rw [heap_setCell_same _ _ _ _ _ _ HBK6.out]; simp
        · by_cases hkj:k = j'
          · subst hkj
            have e1:(vs.set k (.slice a6 pp.2.length c6)).getD k (.slice none 0 0) = .slice a6 pp.2.length c6:=by
              rw [List.getD_eq_getElem?_getD,List.getElem?_set_self HJV.out]; rfl
            rw [e1,Nat.sub_self]
            exact ⟨hrw Q1.out,fun g e=>Nat.le_trans (Nat.le_trans (by omega) HKp.out.size) (Q2.out g e)⟩
          · have e1:(vs.set j' (.slice a6 pp.2.length c6)).getD k (.slice none 0 0) = vs.getD k (.slice none 0 0):=by
              rw [List.getD_eq_getElem?_getD,List.getElem?_set_ne (fun e=>hkj e.symm),← List.getD_eq_getElem?_getD]
            have e2:(pp.2 :: done).getD (k - j') [] = done.getD (k - (j' + 1)) []:=by
              obtain ⟨q,hq⟩:∃ q,k - j' = q + 1:=⟨k - j' - 1,by omega⟩
              rw [hq,List.getD_cons_succ]
              congr 1; omega
            rw [e1,e2]
            have hR:=HRW.out k (by omega) h2
            exact ⟨hrw (ownsRow_kept hR.1 Q7.out (fun g e e2=>by
              obtain ⟨cur,hc⟩:=ownsRow_obj hR.1 e
              exact HWr.out.map.not_cells hc e2)),hR.2⟩
        · rcases List.mem_cons.1 hf with rfl | hf
          · exact ⟨Q6.out,fun x hx=>(Q5.out x hx).1⟩
          · exact HDN2.out f hf
        · exact Nat.le_trans (Nat.le_trans (by omega) HKp.out.size) (Q2.out g e)
        · exact Q3.out.kept hk6 (by omega) (by omega)
        · exact (HKp.out.trans Q7.out (fun k _ e=>.inl e)).trans hk6 (fun k _ e=>.inr (by omega))
      · obtain rfl:j = 0:=by omega
        go_wp2
        go_ret
        have hD:=HD.out
        have e0:nrR (dd id) beam lk ch ids.length 0 p = []:=rfl
        rw [e0,List.nil_append] at hD
        rw [HNN.out,HP0.out,hD]
        have hdl:done.length = n:=HDL.out
        have hW3:=HW3.out
        refine ⟨_,vs,rfl,⟨⟨some ⟨w4.heap.size,0,none⟩,by rw [hdl]; rfl,fun _=>⟨w4.heap.size,rfl,by omega,HBR.out⟩⟩,by rw [hdl]; exact HVL.out,fun k hk=>?_⟩,HDN2.out,hW3.trans (HKp.out.toBelow hW3.size (fun k e=>by omega))⟩
        have:=HRW.out k (Nat.zero_le _) (by omega)
        rw [Nat.sub_zero] at this
        exact this
end
section

theorem mem_upd {lk:Int × Int→List Int} {p q:Int × Int} {xs:List Int} {x:Int}:x ∈ upd lk p xs q ↔ (q = p∧x ∈ xs) ∨ (q ≠ p∧x ∈ lk q):=by
  unfold upd
  split
  · rename_i e; simp [e]
  · rename_i e; simp [e]
theorem mem_tieL {lk:Int × Int→List Int} {a b l:Int} {p:Int × Int} {x:Int}:x ∈ tieL lk a b l p ↔ x ∈ lk p ∨ (p = (a,l)∧x = b) ∨ (p = (b,l)∧x = a):=by
  unfold tieL
  rw [mem_upd,mem_insS,mem_upd,mem_insS,mem_upd,mem_insS]
  by_cases h1:p = (b,l)
  · subst h1
    by_cases h2:(b,l) = (a,l)
    · simp [h2]
      have:b = a:=(Prod.mk.inj h2).1
      subst this
      grind
    · simp [h2]
      grind
  · by_cases h2:p = (a,l)
    · subst h2
      simp [h1]
      grind
    · simp [h1,h2]
theorem mem_cutL {lk:Int × Int→List Int} (h:∀ p,Ris (lk p)) {a b l:Int} {p:Int × Int} {x:Int}:x ∈ cutL lk a b l p ↔ x ∈ lk p∧¬ (p = (a,l)∧x = b)∧¬ (p = (b,l)∧x = a):=by
  unfold cutL
  have h2:Ris (upd lk (a,l) (delS (lk (a,l)) b) (b,l)):=by
    unfold upd
    split
    · exact ris_delS (h _)
    · exact h _
  rw [mem_upd,mem_delS h2,mem_upd,mem_delS (h _),mem_upd,mem_delS (h _)]
  by_cases h1:p = (b,l)
  · subst h1
    by_cases h2:(b,l) = (a,l)
    · have:b = a:=(Prod.mk.inj h2).1
      subst this
      simp
    · simp [h2]
  · by_cases h2:p = (a,l)
    · subst h2
      simp [h1]
    · simp [h1,h2]

structure LG (lev:List (Int × Int)) (lk:Int × Int→List Int):Prop where
  ris:∀ p,Ris (lk p)
  sym:∀ a b l,b ∈ lk (a,l)→a ∈ lk (b,l)
  irr:∀ a l,a ∉ lk (a,l)
  lvl:∀ a b l,b ∈ lk (a,l)→0≤l∧∃ t,levOf lev a = some t∧l≤t
def On (lev:List (Int × Int)) (l a:Int):Prop:=0≤l∧∃ t,levOf lev a = some t∧l≤t
theorem cutL_ris {lk:Int × Int→List Int} (h:∀ p,Ris (lk p)) (a b l:Int) (p:Int × Int):Ris (cutL lk a b l p):=(cutL_sub h a b l p).2.1
theorem tieL_ris {lk:Int × Int→List Int} (h:∀ p,Ris (lk p)) (a b l:Int) (p:Int × Int):Ris (tieL lk a b l p):=by
  have h1:∀ q,Ris (upd lk (a,l) (insS (lk (a,l)) b) q):=fun q=>by
    unfold upd
    split
    · exact ris_insS (h _)
    · exact h q
  unfold tieL
  generalize upd lk (a,l) (insS (lk (a,l)) b) = f at h1
  unfold upd
  split
  · exact ris_insS (h1 _)
  · exact h1 p
section
variable {lev:List (Int × Int)} {lk:Int × Int→List Int}
theorem LG.tie (h:LG lev lk) {a b l:Int} (hab:a ≠ b) (ha:On lev l a) (hb:On lev l b):LG lev (tieL lk a b l):=by
  refine ⟨tieL_ris h.ris a b l,fun c d m hm=>?_,fun c m hm=>?_,fun c d m hm=>?_⟩
  · rw [mem_tieL] at hm ⊢
    rcases hm with hm | ⟨e,rfl⟩ | ⟨e,rfl⟩
    · exact .inl (h.sym c d m hm)
    · obtain ⟨rfl,rfl⟩:=Prod.mk.inj e
      exact .inr (.inr ⟨rfl,rfl⟩)
    · obtain ⟨rfl,rfl⟩:=Prod.mk.inj e
      exact .inr (.inl ⟨rfl,rfl⟩)
  · rw [mem_tieL] at hm
    rcases hm with hm | ⟨e,rfl⟩ | ⟨e,rfl⟩
    · exact h.irr c m hm
    · exact hab (Prod.mk.inj e).1.symm
    · exact hab (Prod.mk.inj e).1
  · rw [mem_tieL] at hm
    rcases hm with hm | ⟨e,rfl⟩ | ⟨e,rfl⟩
    · exact h.lvl c d m hm
    · obtain ⟨rfl,rfl⟩:=Prod.mk.inj e
      exact ha
    · obtain ⟨rfl,rfl⟩:=Prod.mk.inj e
      exact hb
theorem LG.cut (h:LG lev lk) (a b l:Int):LG lev (cutL lk a b l):=by
  refine ⟨cutL_ris h.ris a b l,fun c d m hm=>?_,fun c m hm=>?_,fun c d m hm=>?_⟩
  · rw [mem_cutL h.ris] at hm ⊢
    refine ⟨h.sym c d m hm.1,fun e=>hm.2.2 ?_,fun e=>hm.2.1 ?_⟩
    · obtain ⟨e1,e2⟩:=e
      obtain ⟨e3,e4⟩:=Prod.mk.inj e1
      exact ⟨by rw [e2,e4],e3⟩
    · obtain ⟨e1,e2⟩:=e
      obtain ⟨e3,e4⟩:=Prod.mk.inj e1
      exact ⟨by rw [e2,e4],e3⟩
  · exact h.irr c m ((mem_cutL h.ris).1 hm).1
  · exact h.lvl c d m ((mem_cutL h.ris).1 hm).1
theorem LG.on (h:LG lev lk) {a b l:Int} (hm:b ∈ lk (a,l)):On lev l a∧On lev l b:=⟨h.lvl a b l hm,h.lvl b a l (h.sym a b l hm)⟩
theorem levOf_map {i t:Int} (h:levOf lev i = some t):i ∈ lev.map (·.1):=List.mem_map.2 ⟨_,levOf_mem h,rfl⟩
theorem LG.inn (h:LG lev lk) (h5:∀ p ∈ lev,0≤p.2∧p.2≤5):LkIn (lev.map (·.1)) lk:=by
  refine ⟨h.ris,fun p x hx=>?_,fun p hp=>?_⟩
  · obtain ⟨_,t,ht,_⟩:=(h.on (a:=p.1) (l:=p.2) hx).2
    exact levOf_map ht
  · obtain ⟨x,hx⟩:=List.exists_mem_of_ne_nil _ hp
    obtain ⟨h0,t,ht,hl⟩:=(h.on (a:=p.1) (l:=p.2) hx).1
    have:=(h5 _ (levOf_mem ht)).2
    exact ⟨levOf_map ht,h0,by simp only at this; omega⟩
theorem LG.cutAll (id l:Int):∀ (os:List Int) {lk:Int × Int→List Int},LG lev lk→LG lev (cutAll lk id l os)
  | [],_,h=>h
  | o :: os,_,h=>LG.cutAll id l os (h.cut id o l)
theorem mem_cutAll {id l:Int}:∀ {os:List Int} {lk:Int × Int→List Int},LG lev lk→∀ {p:Int × Int} {x:Int},x ∈ cutAll lk id l os p ↔ x ∈ lk p∧∀ o ∈ os,¬ (p = (id,l)∧x = o)∧¬ (p = (o,l)∧x = id)
  | [],_,_,_,_=>by simp [cutAll]
  | o :: os,lk,h,p,x=>by
    have:=mem_cutAll (id:=id) (l:=l) (os:=os) (h.cut id o l) (p:=p) (x:=x)
    have e:Proofs.YtpkiefjanmfgfaaGreatDoor.cutAll lk id l (o :: os) = Proofs.YtpkiefjanmfgfaaGreatDoor.cutAll (cutL lk id o l) id l os:=rfl
    rw [e,this,mem_cutL h.ris]
    simp only [List.mem_cons,forall_eq_or_imp]
    constructor
    · rintro ⟨⟨a,b⟩,c⟩; exact ⟨a,b,c⟩
    · rintro ⟨a,b,c⟩; exact ⟨⟨a,b⟩,c⟩
theorem LG.leaveF (h:LG lev lk) (id:Int):∀ n,LG lev (leaveF lk id n)
  | 0=>h
  | n + 1=>LG.cutAll id n _ (LG.leaveF h id n)
theorem mem_leaveF (h:LG lev lk) (id:Int):∀ (n:Nat) {p:Int × Int} {x:Int},x ∈ leaveF lk id n p ↔ x ∈ lk p∧¬ (0≤p.2∧p.2 < n∧(p.1 = id ∨ x = id))
  | 0,p,x=>by
    show x ∈ lk p ↔ _
    constructor
    · exact fun h=>⟨h,fun e=>by omega⟩
    · exact fun h=>h.1
  | n + 1,p,x=>by
    have hn:=h.leaveF id n
    have ih:=@mem_leaveF h id n
    show x ∈ cutAll (Proofs.YtpkiefjanmfgfaaGreatDoor.leaveF lk id n) id n _ p ↔ _
    rw [mem_cutAll hn]
    constructor
    · rintro ⟨h1,h2⟩
      refine ⟨(ih.1 h1).1,?_⟩
      rintro ⟨e1,e2,e3⟩
      by_cases hlt:p.2 < n
      · exact (ih.1 h1).2 ⟨e1,hlt,e3⟩
      · have hpn:p.2 = n:=by omega
        obtain ⟨pa,pl⟩:=p
        simp only at hpn e3
        subst hpn
        rcases e3 with rfl | rfl
        · exact (h2 x h1).1 ⟨rfl,rfl⟩
        · exact (h2 pa (hn.sym _ _ _ h1)).2 ⟨rfl,rfl⟩
    · rintro ⟨h1,h2⟩
      refine ⟨ih.2 ⟨h1,fun e=>h2 ⟨e.1,by omega,e.2.2⟩⟩,fun o ho=>⟨?_,?_⟩⟩
      · rintro ⟨rfl,rfl⟩
        exact h2 ⟨by simp,by simp; omega,.inl rfl⟩
      · rintro ⟨rfl,rfl⟩
        exact h2 ⟨by simp,by simp; omega,.inr rfl⟩
theorem levOf_levDel_ne {id a:Int} (h:a ≠ id):levOf (levDel id lev) a = levOf lev a:=by
  unfold levOf levDel
  rw [List.find?_filter]
  congr 2
  funext p
  by_cases e:p.1 = a
  · simp [e,h]
  · simp [e]
theorem levOf_levDel_self {id:Int}:levOf (levDel id lev) id = none:=by
  unfold levOf levDel
  rw [List.find?_filter]
  simp
theorem LG.leave (h:LG lev lk) {id:Int} {top:Nat} (ht:(levOf lev id).getD (-1) + 1 = (top:Int)):LG (levDel id lev) (Proofs.YtpkiefjanmfgfaaGreatDoor.leaveF lk id top):=by
  have hl:=h.leaveF id top
  refine ⟨hl.ris,hl.sym,hl.irr,fun a b l hm=>?_⟩
  obtain ⟨h0,t,hta,hlt⟩:=hl.lvl a b l hm
  have hne:a ≠ id:=by
    rintro rfl
    rw [hta] at ht
    simp only [Option.getD_some] at ht
    exact ((mem_leaveF h a top).1 hm).2 ⟨h0,by simp only; omega,.inl rfl⟩
  exact ⟨h0,t,by rw [levOf_levDel_ne hne]; exact hta,hlt⟩
theorem LG.mendOne (h:LG lev lk) (links:Int) (dd:Int→Int→Int) {l id:Int} {left:List Int} (hid:On lev l id) (hs:∀ x ∈ left,On lev l x):LG lev (mendOne links dd l left lk id):=by
  unfold Proofs.YtpkiefjanmfgfaaGreatDoor.mendOne
  split
  · rename_i h1
    have hm:=nearL_mem (dd:=dd) (id:=id) h1.1
    refine h.tie (fun e=>?_) hid (hs _ (mem_keepP hm))
    rw [← e] at hm
    unfold keepP outB at hm
    simp at hm
  · exact h
theorem LG.mendAll (links:Int) (dd:Int→Int→Int) {l:Int} {left:List Int} (hs:∀ x ∈ left,On lev l x):∀ {xs:List Int} {lk:Int × Int→List Int},LG lev lk→(∀ x ∈ xs,On lev l x)→LG lev (mendAll links dd l left lk xs)
  | [],_,h,_=>h
  | x :: xs,_,h,hx=>LG.mendAll (xs:=xs) links dd hs (h.mendOne links dd (hx x List.mem_cons_self) hs) (fun y hy=>hx y (List.mem_cons_of_mem _ hy))
theorem LG.linkOne (h:LG lev lk) (links:Int) (dd:Int→Int→Int) {l id x:Int} (k:Nat) (hid:On lev l id) (hx:On lev l x) (hne:x ≠ id):LG lev (linkOne links dd l id lk k x):=by
  unfold Proofs.YtpkiefjanmfgfaaGreatDoor.linkOne
  split
  · exact h.tie hne hx hid
  · split
    · exact h
    · exact (h.cut _ _ _).tie hne hx hid
theorem LG.linkAll (links:Int) (dd:Int→Int→Int) {l id:Int} (hid:On lev l id):∀ {xs:List Int} {k:Nat} {lk:Int × Int→List Int},LG lev lk→(∀ x ∈ xs,On lev l x∧x ≠ id)→LG lev (linkAll links dd l id k xs lk)
  | [],_,_,h,_=>h
  | x :: xs,k,_,h,hx=>LG.linkAll (xs:=xs) links dd hid (h.linkOne links dd k hid (hx x List.mem_cons_self).1 (hx x List.mem_cons_self).2) (fun y hy=>hx y (List.mem_cons_of_mem _ hy))
end

def PS (P:Int→Prop) (s:AS):Prop:=(∀ h ∈ s.C,P h.1)∧∀ h ∈ s.Fd,P h.1
theorem PS.meet {P:Int→Prop} {s:AS} (h:PS P s) (dd:Int→Int) (want:Int→Bool) (width:Int) {id:Int} (hid:P id):PS P (meetL dd want width s id):=by
  unfold meetL
  split
  · exact h
  · refine ⟨fun x hx=>?_,fun x hx=>?_⟩
    · rcases mem_pushL hx with rfl | hx
      · exact hid
      · exact h.1 x hx
    · simp only at hx
      split at hx
      · rcases mem_addL hx with rfl | hx
        · exact hid
        · exact h.2 x hx
      · exact h.2 x hx
theorem PS.meetAll {P:Int→Prop} (dd:Int→Int) (want:Int→Bool) (width:Int):∀ {l:List Int} {s:AS},PS P s→(∀ x ∈ l,P x)→PS P (meetAll dd want width s l)
  | [],_,h,_=>h
  | x :: l,_,h,hl=>PS.meetAll (l:=l) dd want width (h.meet dd want width (hl x List.mem_cons_self)) (fun y hy=>hl y (List.mem_cons_of_mem _ hy))
theorem PS.run {P:Int→Prop} (dd:Int→Int) (want:Int→Bool) (width:Int) {nb:Int→List Int} (hnb:∀ i,P i→∀ x ∈ nb i,P x):∀ (n:Nat) {s:AS},PS P s→PS P (runS dd want width nb n s)
  | 0,_,h=>h
  | n + 1,s,h=>by
    unfold runS
    split
    · rename_i ho
      unfold onward at ho
      simp at ho
      have hp:PS P (popS s):=⟨fun x hx=>h.1 x (mem_popL hx),h.2⟩
      exact PS.run dd want width hnb n (hp.meetAll dd want width (hnb _ (h.1 _ (nth_mem ho.1))))
    · exact h
theorem alongR_mem {P:Int→Prop} {dd:Int→Int} {want:Int→Bool} {width:Int} {nb:Int→List Int} {N:Nat} {kn:List (Int × Int)} {st:List Hit} (hnb:∀ i,P i→∀ x ∈ nb i,P x) (hst:∀ x ∈ st,P x.1):∀ x ∈ (alongR dd want width nb N kn st).2,P x.1:=by
  intro x hx
  have h0:PS P (begS kn):=⟨fun _ hx=>absurd hx List.not_mem_nil,fun _ hx=>absurd hx List.not_mem_nil⟩
  have h1:=h0.meetAll dd want width (l:=st.map (·.1)) (fun y hy=>by
    obtain ⟨z,hz,rfl⟩:=List.mem_map.1 hy
    exact hst z hz)
  exact (h1.run dd want width hnb _).2 x (mem_drainL (Nat.le_refl _) hx)

section
variable {lev:List (Int × Int)} {lk:Int × Int→List Int} {ch:List Int}
theorem On.mono {l m a:Int} (h:On lev l a) (h0:0≤m) (hm:m≤l):On lev m a:=by
  obtain ⟨_,t,ht,hl⟩:=h
  exact ⟨h0,t,ht,by omega⟩
theorem besideL_sub {id x:Int} (h:x ∈ besideL ch id):x ∈ ch:=by
  have hg:∀ k,k < ch.length→ch.getD k 0 ∈ ch:=fun k hk=>by
    rw [List.getD_eq_getElem?_getD,List.getElem?_eq_getElem hk]
    exact List.getElem_mem hk
  unfold besideL at h
  split at h
  · rename_i hm
    have hlt:=List.idxOf_lt_length_iff.2 hm
    rcases List.mem_append.1 h with h | h
    · unfold ahead1 at h
      split at h
      · rw [List.mem_singleton.1 h]; exact hg _ (by omega)
      · cases h
    · unfold behind1 at h
      split at h
      · rw [List.mem_singleton.1 h]; exact hg _ (by omega)
      · cases h
  · cases h
structure GOk (lev:List (Int × Int)) (lk:Int × Int→List Int) (ch:List Int):Prop where
  lg:LG lev lk
  lev5:∀ p ∈ lev,0≤p.2∧p.2≤5
  nod:(lev.map (·.1)).Nodup
  chn:ch.Nodup
  chm:∀ x,x ∈ ch ↔ x ∈ lev.map (·.1)
theorem GOk.has (h:GOk lev lk ch) {x:Int} (hx:x ∈ lev.map (·.1)):∃ t,levOf lev x = some t∧0≤t∧t≤5:=by
  obtain ⟨p,hp,rfl⟩:=List.mem_map.1 hx
  exact ⟨p.2,levOf_of_mem h.nod hp,h.lev5 p hp⟩
theorem GOk.reach (h:GOk lev lk ch) {l i:Int} (hi:On lev l i):∀ x ∈ reachedL lk ch i l,On lev l x:=by
  intro x hx
  unfold reachedL at hx
  split at hx
  · rename_i e
    subst e
    rcases List.mem_append.1 hx with hx | hx
    · exact (h.lg.on hx).2
    · obtain ⟨t,ht,h0,_⟩:=h.has ((h.chm x).1 (besideL_sub hx))
      exact ⟨Int.le_refl _,t,ht,h0⟩
  · exact (h.lg.on hx).2
theorem GOk.nb (h:GOk lev lk ch):∀ l:Int,∀ i ∈ lev.map (·.1),∀ x ∈ reachedL lk ch i l,x ∈ lev.map (·.1):=by
  intro l i _ x hx
  unfold reachedL at hx
  have h1:x ∈ lk (i,l)→x ∈ lev.map (·.1):=fun hx=>by
    obtain ⟨_,t,ht,_⟩:=(h.lg.on hx).2
    exact levOf_map ht
  split at hx
  · rcases List.mem_append.1 hx with hx | hx
    · exact h1 hx
    · exact (h.chm x).1 (besideL_sub hx)
  · exact h1 hx
theorem dnR_on (h:GOk lev lk ch) {dd:Int→Int} {N:Nat}:∀ (n:Nat) (l m:Int) (p:List (Int × Int) × List Hit),0≤m→m≤l - n→(∀ x ∈ p.2,On lev l x.1)→∀ x ∈ (dnR dd lk ch N n l p).2,On lev m x.1
  | 0,l,m,p,h0,hm,hp=>fun x hx=>(hp x hx).mono h0 (by omega)
  | n + 1,l,m,p,h0,hm,hp=>by
    unfold dnR
    refine dnR_on h n (l - 1) m _ h0 (by omega) (fun x hx=>?_)
    exact (alongR_mem (P:=On lev l) (fun i hi=>h.reach hi) hp x hx).mono (by omega) (by omega)
theorem nrR_on (h:GOk lev lk ch) {dd:Int→Int} {beam:Int} {N:Nat}:∀ (n:Nat) (p:List (Int × Int) × List Hit),(∀ x ∈ p.2,On lev ((n:Int) - 1) x.1)→∀ k (hk:k < (nrR dd beam lk ch N n p).length),∀ x ∈ (nrR dd beam lk ch N n p)[k],On lev k x.1
  | 0,p,_=>fun k hk=>absurd hk (Nat.not_lt_zero _)
  | n + 1,p,hp=>by
    intro k hk x hx
    have ha:∀ x ∈ (alongR dd (fun _=>true) beam (fun i=>reachedL lk ch i n) N p.1 p.2).2,On lev n x.1:=alongR_mem (P:=On lev n) (fun i hi=>h.reach hi) (fun x hx=>by
      have:=hp x hx
      have e:((n + 1:Nat):Int) - 1 = n:=by omega
      rw [e] at this; exact this)
    have hl:=nrR_length dd beam lk ch N n (alongR dd (fun _=>true) beam (fun i=>reachedL lk ch i n) N p.1 p.2)
    have hl2:=nrR_length dd beam lk ch N (n + 1) p
    simp only [nrR] at hx
    by_cases hkn:k < n
    · rw [List.getElem_append_left (by omega)] at hx
      refine nrR_on h n _ (fun x hx=>?_) k (by omega) x hx
      rcases Nat.eq_zero_or_pos n with h0 | h0
      · omega
      · exact (ha x hx).mono (by omega) (by omega)
    · obtain rfl:k = n:=by omega
      rw [List.getElem_append_right (by omega)] at hx
      simp at hx
      exact ha x hx
theorem nearF_on (h:GOk lev lk ch) {dd:Int→Int} {beam:Int} {N:Nat} {level:Int} (hl:0≤level):(nearF dd beam lev lk ch N level).length≤(level + 1).toNat∧∀ k (hk:k < (nearF dd beam lev lk ch N level).length),∀ x ∈ (nearF dd beam lev lk ch N level)[k],On lev k x.1:=by
  unfold nearF
  split
  · exact ⟨Nat.zero_le _,fun k hk=>absurd hk (Nat.not_lt_zero _)⟩
  · rename_i hne
    have hm:=entrL_mem (fun p hp=>(h.lev5 p hp).1) hne
    have h5:=h.lev5 _ hm
    have hon:On lev (entrL lev).2 (entrL lev).1:=⟨h5.1,(entrL lev).2,levOf_of_mem h.nod hm,Int.le_refl _⟩
    refine ⟨by rw [nrR_length]; omega,nrR_on h _ _ (fun x hx=>?_)⟩
    unfold downR at hx
    rw [if_neg hne] at hx
    refine dnR_on h _ (entrL lev).2 _ _ (by omega) (by omega) (fun x hx=>?_) x hx
    rw [List.mem_singleton.1 hx]
    exact hon
end
end
section
open Go.RowKit Go.Maps

set_option maxHeartbeats 1000000 in
theorem link93_nil (gv:Value) (links beam:Int) (fv:Value) (id l:Int) (w:World) (hk:0≤links) :
    Calls Tryz.prog 97 #[.agg #[gv,.int .i64 links,.int .i64 beam,fv],.int .i64 id,.int .i64 l,.slice none 0 0] w fun ev w'=>ev = .returned (.tuple #[])∧Below w.heap.size w w':=by
  have hm:min (0:Int) links = 0:=by omega
  go_enter Tryz.func97,Tryz.ntmps97
  go_wp2
  generalize hwe:w.alloc (.cells #[gv,.int .i64 links,.int .i64 beam,fv] 109) = w1
  have hb:Below w.heap.size w w1:=hwe ▸ (Below.refl _ _).alloc (Nat.le_refl _) _
  clear hwe
  go_loopw [8,9,10,19] (fun _ _ _ i wr=>i = .int .i64 0∧wr = w1) (fun _ _ _ _ _=>0)
  case atStart=>exact ⟨rfl,rfl⟩
  case round =>
    obtain ⟨rfl,rfl⟩:=hrel
    go_wp2
    go_end0
    exact ⟨rfl,hb⟩

def putM (links:Int) (dd:Int→Int→Int) (id:Int) (fs:List (List Hit)) (lk:Int × Int→List Int):Nat→Int × Int→List Int
  | 0=>lk
  | n + 1=>linkAll links dd n id 0 (((fs.getD n []).map (·.1)).take (min ((fs.getD n []).length:Int) links).toNat) (putM links dd id fs lk n)
theorem LkIn.putM {ids:List Int} {lk:Int × Int→List Int} (h:LkIn ids lk) (links:Int) (dd:Int→Int→Int) {id:Int} (hid:id ∈ ids) {fs:List (List Hit)} (hf:∀ f ∈ fs,∀ x ∈ f,x.1 ∈ ids):∀ n,n≤11→LkIn ids (putM links dd id fs lk n)
  | 0,_=>h
  | n + 1,hn=>by
    refine LkIn.linkAll links dd ⟨by omega,by omega⟩ hid (LkIn.putM h links dd hid hf n (by omega)) (fun x hx=>?_)
    obtain ⟨y,hy,rfl⟩:=List.mem_map.1 (List.mem_of_mem_take hx)
    rw [List.getD_eq_getElem?_getD] at hy
    rcases Nat.lt_or_ge n fs.length with h1 | h1
    · rw [List.getElem?_eq_getElem h1] at hy
      exact hf _ (List.getElem_mem h1) y hy
    · rw [List.getElem?_eq_none h1] at hy
      cases hy

theorem LkIn.mono {ids ids':List Int} {lk:Int × Int→List Int} (h:LkIn ids lk) (hs:∀ x ∈ ids,x ∈ ids'):LkIn ids' lk :=
  ⟨h.ris,fun p x hx=>hs x (h.sub p x hx),fun p hp=>⟨hs _ (h.key p hp).1,(h.key p hp).2⟩⟩

set_option maxHeartbeats 4000000 in
set_option maxRecDepth 20000 in
theorem put44 (bg:Nat) (links beam:Int) (mk:Nat) (caps:Array Value) (dd:Int→Int→Int) (F:Nat→Prop) (lev:List (Int × Int)) (lk:Int × Int→List Int) (ch:List Int) (ids:List Int) (id level:Int) (w:World)
    (h:GAt w bg F lev lk ch) (hF:∀ k,F k→k < w.heap.size) (hlk:LkIn ids lk) (hids:ids.length≤299) (hI:∀ x ∈ ids,I64 x) (hidI:I64 id) (hno:levOf lev id = none) (hnb:∀ l:Int,∀ i ∈ ids,∀ x ∈ reachedL lk ch i l,x ∈ ids) (hch:ch.length≤1000) (hlev:∀ p ∈ lev,0≤p.2∧p.2≤10∧p.1 ∈ ids) (hll:lev.length≤1000) (hl:0≤level∧level≤10) (hb0:0 < beam) (hk:1≤links∧links≤1000)
    (eg:∀ args w,(callFunc mk args).run Tryz.prog w = .ok (.enter mk args) w)
    (hm:∀ a ∈ id :: ids,∀ b ∈ id :: ids,∀ W,Kept F w W→Calls Tryz.prog mk (#[.int .i64 a,.int .i64 b] ++ caps) W fun e W'=>e = .returned (.int .i64 (dd a b))∧Below W.heap.size W W') :
    Calls Tryz.prog 47 #[.agg #[.pointer (some ⟨bg,0,none⟩),.int .i64 links,.int .i64 beam,.func (.func mk) #[] caps],.int .i64 id,.int .i64 level] w fun ev w'=>ev = .returned (.tuple #[]) ∧
      ∃ F',GAt w' bg F' ((id,level) :: lev) (putM links dd id (nearF (dd id) beam lev lk ch ids.length level) lk (nearF (dd id) beam lev lk ch ids.length level).length) (ch ++ [id])∧Kept F w w'∧∀ k,F' k→F k ∨ w.heap.size≤k:=by
  have hw1:Below w.heap.size w (w.alloc (.cells #[.pointer (some ⟨bg,0,none⟩),.int .i64 links,.int .i64 beam,.func (.func mk) #[] caps] 109)):=(Below.refl _ _).alloc (Nat.le_refl _) _
  have hc3:(w.alloc (.cells #[.pointer (some ⟨bg,0,none⟩),.int .i64 links,.int .i64 beam,.func (.func mk) #[] caps] 109)).heap[w.heap.size]? = some (.cells #[.pointer (some ⟨bg,0,none⟩),.int .i64 links,.int .i64 beam,.func (.func mk) #[] caps] 109 (0,0)):=heap_alloc_new _ _
  have hnr:=near91 bg links beam mk caps dd F lev lk ch ids id level _ (h.below hw1) (fun k hk=>Nat.lt_of_lt_of_le (hF k hk) hw1.size) hlk (by omega) hI hnb hch hlev hl hb0 eg (fun b hb W hW=>hm id List.mem_cons_self b (List.mem_cons_of_mem _ hb) W ((Kept.of_below F hw1).trans hW (fun _ _ e=>e)))
  have HNR:=hide hnr
  have HG:=hide h
  have HW1:=hide hw1
  have HC3:=hide hc3
  have HFW:=hide hF
  have HLK:=hide hlk
  have HI:=hide hI
  have HM:=hide hm
  have HNO:=hide hno
  have HLEV:=hide hlev
  clear h hF hlk hI hm hw1 hc3 hnr hnb hno hlev
  go_enter Tryz.func47,Tryz.ntmps47
  go_wp2_with fail
  refine HNR.out.mono ?_
  rintro e2 w2 ⟨v2,vs,rfl,hfa,hfl,hb2⟩
  have hW2:=HW1.out.trans (hb2.mono HW1.out.size)
  have hx2:=(hb2.block _ (heap_lt HC3.out)).trans HC3.out
  have hs2:w.heap.size < w2.heap.size:=heap_lt hx2
  have hent:=enter92 bg F lev lk ch id level w2 (HG.out.below hW2) hidI HNO.out hll hch
  have hfsl:(nearF (dd id) beam lev lk ch ids.length level).length≤11:=by
    unfold nearF
    split
    · exact Nat.zero_le _
    · rw [nrR_length]; omega
  have d0:=cells_at hx2 0 rfl
  obtain ⟨a2,rfl,hav⟩:=hfa.val
  generalize hfs:nearF (dd id) beam lev lk ch ids.length level = fs at *
  have HFS:=hide hfs
  have HENT:=hide hent
  have HFA:=hide hfa
  have HFL:=hide hfl
  have HW2:=hide hW2
  have HX2:=hide hx2
  have HAV:=hide hav
  clear hfs hent hfa hfl hW2 hx2 hav hb2 HNR
  go_wp2_with fail
  refine HENT.out.mono ?_
  rintro e3 w3 ⟨rfl,F3,hg3,hk3,hf3⟩
  have hnF:∀ k,w.heap.size≤k→k < w2.heap.size→¬ F3 k:=fun k h1 h2 e=>by
    rcases hf3 k e with e | e
    · have:=HFW.out k e; omega
    · omega
  have hF0:∀ k,w.heap.size≤k→¬ F k:=fun k h1 e=>by have:=HFW.out k e; omega
  have hKS:Kept (fun k=>F k ∨ w2.heap.size≤k) w2 w3:=hk3.mono (fun _ _ e=>.inl e)
  have hx3:=(hk3.block _ (heap_lt HX2.out) (hF0 _ (Nat.le_refl _))).trans HX2.out
  have hN:(w.alloc (.cells #[.pointer (some ⟨bg,0,none⟩),.int .i64 links,.int .i64 beam,.func (.func mk) #[] caps] 109)).heap.size = w.heap.size + 1:=by simp
  rw [hN] at HFA HAV
  have HG3:=hide hg3
  have HKS:=hide hKS
  have HF3:=hide hf3
  have HF0:=hide hF0
  clear hg3 hk3 hf3 hKS hx3 d0 HENT hnF hN hF0
  go_wp2
  go_loopw [7,8,20] (fun _ _ i wr=>∃ (n:Nat) (F2:Nat→Prop),i = .int .i64 n∧n≤fs.length∧Hid (GAt wr bg F2 ((id,level) :: lev) (putM links dd id fs lk n) (ch ++ [id]))∧Hid (∀ k,F2 k→F k ∨ w2.heap.size≤k)∧Hid (Kept (fun k=>F k ∨ w2.heap.size≤k) w2 wr)) (fun _ _ i _=>fs.length - (intOf i).toNat)
  case atStart=>exact ⟨0,F3,rfl,Nat.zero_le _,HG3.out,HF3.out,HKS.out⟩
  case round =>
    obtain ⟨n,F2,rfl,hn,HGr,HF2,HKr⟩:=hrel
    by_cases hlt:n < fs.length
    · obtain ⟨g,rfl,hgN,hgb⟩:=HAV.out (by omega)
      have hg2:=heap_lt hgb
      have hbk:=(HKr.out.block g hg2 (fun e=>e.elim (HF0.out g (by omega)) (fun e=>by omega))).trans hgb
      have hrow2:=HFA.out.row n hlt
      have hrow:HRow wr (vs.getD n (.slice none 0 0)) (fs.getD n []):=ownsRow_kept hrow2.1 HKr.out (fun g' e e2=>by
        have h1:=hrow2.2 g' e
        have h2:=(hrow2.1.lt g' e).2
        exact e2.elim (HF0.out g' (by omega)) (fun e=>by omega))
      have hnF:∀ g',(vs.getD n (.slice none 0 0)).ownBlock = some g'→¬ F2 g':=fun g' e e2=>by
        have h1:=hrow2.2 g' e
        have h2:=(hrow2.1.lt g' e).2
        exact (HF2.out g' e2).elim (HF0.out g' (by omega)) (fun e=>by omega)
      have hxr:=(HKr.out.block _ (heap_lt HX2.out) (fun e=>e.elim (HF0.out _ (Nat.le_refl _)) (fun e=>by omega))).trans HX2.out
      have y0:wr.cell? ⟨g,n,none⟩ = some (vs.getD n (.slice none 0 0)):=cells_at hbk n (by
        have:n < vs.length:=by rw [HFA.out.len]; exact hlt
        simp [List.getD_eq_getElem?_getD,this])
      have hfin:fs.getD n [] ∈ fs:=by
        rw [List.getD_eq_getElem?_getD,List.getElem?_eq_getElem hlt]
        exact List.getElem_mem hlt
      have hff:=HFL.out _ hfin
      have hnext:putM links dd id fs lk (n + 1) = linkAll links dd n id 0 (((fs.getD n []).map (·.1)).take (min ((fs.getD n []).length:Int) links).toNat) (putM links dd id fs lk n):=rfl
      have hlkn:LkIn (id :: ids) (putM links dd id fs lk n):=(HLK.out.mono (fun x hx=>List.mem_cons_of_mem _ hx)).putM links dd List.mem_cons_self (fun f hf x hx=>List.mem_cons_of_mem _ ((HFL.out f hf).2 x hx)) n (by omega)
      have hKw:Kept F w wr:=(Kept.of_below F HW2.out).trans HKr.out (fun j hj e=>e.elim (fun e=>e) (fun e=>by have:=HW2.out.size; omega))
      have hzr:w2.heap.size≤wr.heap.size:=HKr.out.size
      generalize vs.getD n (.slice none 0 0) = vn at y0 hrow hnF
      generalize fs.getD n [] = fn at hrow hff hnext
      generalize putM links dd id fs lk n = lkn at HGr hnext hlkn
      have d0:=cells_at hxr 0 rfl
      have d1:=cells_at hxr 1 rfl
      have d2:=cells_at hxr 2 rfl
      have d3:=cells_at hxr 3 rfl
      have HNX:=hide hnext
      rcases HRow_cases hrow with ⟨hfn,rfl⟩ | ⟨g',cap,rfl,hcap⟩
      · have hlnk:=link93_nil (.pointer (some ⟨bg,0,none⟩)) links beam (.func (.func mk) #[] caps) id n wr (by omega)
        have HL:=hide hlnk
        have hnx2:putM links dd id fs lk (n + 1) = lkn:=by rw [HNX.out,hfn,List.map_nil,List.take_nil]; rfl
        have HN2:=hide hnx2
        clear hlnk hxr hrow hrow2 hnF hbk hff hfin hnext hlkn hKw hnx2
        as_aux_lemma =>
        go_wp2_with fail
        refine HL.out.mono ?_
        rintro e5 w5 ⟨rfl,hb5⟩
        have HB5:=hide hb5
        clear hb5 d0 d1 d2 d3 y0
        go_wp2
        refine ⟨⟨n + 1,F2,by go_num,by omega,?_,HF2.out,HKr.out.below HB5.out⟩,by simp [intOf]; omega⟩
        show GAt _ _ _ _ _ _
        rw [HN2.out]
        exact HGr.out.below HB5.out
      · have hlnk:=link93 bg links beam mk caps dd (fun k=>F2 k∧k < wr.heap.size) ((id,level) :: lev) lkn (ch ++ [id]) (id :: ids) id n g' cap fn wr HGr.out.tight (fun k hk=>hk.2) hlkn (by simp; omega) (fun x hx=>(List.mem_cons.1 hx).elim (fun e=>e ▸ hidI) (HI.out x)) ⟨by omega,by omega⟩ List.mem_cons_self hrow (fun e=>hnF g' rfl e.1) hff.1 hcap (fun x hx=>List.mem_cons_of_mem _ (hff.2 x hx)) hk eg
          (fun a ha b hb W hW=>HM.out a ha b hb W (hKw.trans hW (fun j hj e=>(HF2.out j e.1).elim (fun e=>e) (fun e=>by have:=HW2.out.size; omega))))
        have HL:=hide hlnk
        clear hlnk hxr hrow hrow2 hnF hbk hff hfin hnext hlkn hKw
        as_aux_lemma =>
        go_wp2_with fail
        refine HL.out.mono ?_
        rintro e5 w5 ⟨rfl,F5,hg5,hk5,hf5⟩
        have HG5:=hide hg5
        have HK5:=hide hk5
        have HF5:=hide hf5
        clear hg5 hk5 hf5 d0 d1 d2 d3 y0
        go_wp2
        refine ⟨⟨n + 1,F5,by go_num,by omega,?_,fun k hk=>?_,HKr.out.trans HK5.out (fun j hj e=>HF2.out j e.1)⟩,by simp [intOf]; omega⟩
        · show GAt _ _ _ _ _ _
          rw [HNX.out]
          exact HG5.out
        · exact (HF5.out k hk).elim (fun e=>HF2.out k e.1) (fun e=>.inr (by omega))
    · go_wp2
      go_end0
      obtain rfl:n = fs.length:=by omega
      rw [HFS.out]
      refine ⟨rfl,F2,HGr.out,(Kept.of_below F HW2.out).trans HKr.out (fun j hj e=>e.elim (fun e=>e) (fun e=>by have:=HW2.out.size; omega)),fun k hk=>(HF2.out k hk).imp (fun e=>e) (fun e=>by omega)⟩
end
section
open Go.RowKit Go.Maps

theorem info3w:(Tryz.prog.info? 32).map (fun i=>(i.zero,i.size,i.bytes)) = some (some (.slice none 0 0),1,24):=by kernel_rfl

def delM (links:Int) (dd:Int→Int→Int) (lk:Int × Int→List Int) (id:Int) (base:Int × Int→List Int):Nat→Int × Int→List Int
  | 0=>base
  | n + 1=>mendAll links dd n (lk (id,n)) (delM links dd lk id base n) (lk (id,n))
theorem LkIn.delM {ids:List Int} {base:Int × Int→List Int} (h:LkIn ids base) (links:Int) (dd:Int→Int→Int) {lk:Int × Int→List Int} {id:Int} (hs:∀ n:Nat,∀ x ∈ lk (id,n),x ∈ ids):∀ n,n≤11→LkIn ids (delM links dd lk id base n)
  | 0,_=>h
  | n + 1,hn=>LkIn.mendAll links dd ⟨by omega,by omega⟩ (hs n) (LkIn.delM h links dd hs n (by omega)) (hs n)

theorem irow_ne {w:World} {v:Value} {l:List Int} (hr:IRow w v l) {b:Nat} {cs:Array Value} {t:TypeId} {f:Nat × Nat} (hb:w.heap[b]? = some (.cells cs t f)) (ht:t ≠ 3):¬ v.ownBlock = some b:=fun e=>by
  obtain ⟨cur,hc⟩:=ownsRow_obj hr e
  rw [hb] at hc
  simp at hc
  exact ht hc.2.1

set_option maxHeartbeats 4000000 in
set_option maxRecDepth 20000 in
theorem del43 (bg:Nat) (links beam:Int) (mk:Nat) (caps:Array Value) (dd:Int→Int→Int) (F:Nat→Prop) (lev:List (Int × Int)) (lk:Int × Int→List Int) (ch:List Int) (ids ids':List Int) (id:Int) (top:Nat) (w:World)
    (h:GAt w bg F lev lk ch) (hF:∀ k,F k→k < w.heap.size) (hlk:LkIn ids lk) (hids:ids.length≤300) (hI:∀ x ∈ ids,I64 x) (hidI:I64 id) (hch:ch.length≤1000) (htop:(levOf lev id).getD (-1) + 1 = (top:Int)) (h10:top≤10) (hk:0≤links∧links≤1000)
    (hlk':LkIn ids' (leaveF lk id top)) (hids':ids'.length≤300) (hI':∀ x ∈ ids',I64 x) (hleft:∀ n:Nat,∀ x ∈ lk (id,n),x ∈ ids')
    (eg:∀ args w,(callFunc mk args).run Tryz.prog w = .ok (.enter mk args) w)
    (hm:∀ a ∈ ids',∀ b ∈ ids',∀ W,Kept F w W→Calls Tryz.prog mk (#[.int .i64 a,.int .i64 b] ++ caps) W fun e W'=>e = .returned (.int .i64 (dd a b))∧Below W.heap.size W W') :
    Calls Tryz.prog 46 #[.agg #[.pointer (some ⟨bg,0,none⟩),.int .i64 links,.int .i64 beam,.func (.func mk) #[] caps],.int .i64 id] w fun ev w'=>ev = .returned (.tuple #[]) ∧
      ∃ F',GAt w' bg F' (levDel id lev) (delM links dd lk id (leaveF lk id top) top) (keepP (fun x=>decide (x = id)) ch)∧Kept F w w'∧∀ k,F' k→F k ∨ w.heap.size≤k:=by
  have hw1:Below w.heap.size w (w.alloc (.cells #[.pointer (some ⟨bg,0,none⟩),.int .i64 links,.int .i64 beam,.func (.func mk) #[] caps] 109)):=(Below.refl _ _).alloc (Nat.le_refl _) _
  have hc3:(w.alloc (.cells #[.pointer (some ⟨bg,0,none⟩),.int .i64 links,.int .i64 beam,.func (.func mk) #[] caps] 109)).heap[w.heap.size]? = some (.cells #[.pointer (some ⟨bg,0,none⟩),.int .i64 links,.int .i64 beam,.func (.func mk) #[] caps] 109 (0,0)):=heap_alloc_new _ _
  have hz1:(w.alloc (.cells #[.pointer (some ⟨bg,0,none⟩),.int .i64 links,.int .i64 beam,.func (.func mk) #[] caps] 109)).heap.size = w.heap.size + 1:=by simp
  have hlv:=level87 bg F lev lk ch id _ (h.below hw1) hidI
  have hlb:(levOf lev id).getD (-1) = (top:Int) - 1:=by omega
  rw [hlb] at hlv
  have hwr:IntKind.i64.wrap ((top:Int) - 1 + 1) = (top:Int):=by rw [IntKind.wrap_i64]; omega
  have hadd:(top:Int) - 1 + 1 = top:=by omega
  have HLV:=hide hlv
  have HG:=hide h
  have HW1:=hide hw1
  have HC3:=hide hc3
  have HZ1:=hide hz1
  have HFW:=hide hF
  have HLK:=hide hlk
  have HI:=hide hI
  have HLK':=hide hlk'
  have HI':=hide hI'
  have HLEFT:=hide hleft
  have HM:=hide hm
  have HTOP:=hide htop
  clear h hF hlk hI hm hw1 hc3 hlv hlk' hI' hleft htop hlb hz1
  obtain ⟨i0,hi,hz0,hz1,hz2⟩:=info_parts info3w
  go_enter Tryz.func46,Tryz.ntmps46
  go_wp2_with fail
  generalize hwe:w.alloc (.cells #[.pointer (some ⟨bg,0,none⟩),.int .i64 links,.int .i64 beam,.func (.func mk) #[] caps] 109) = w1 at HLV HW1 HC3 HZ1 ⊢
  clear hwe
  refine HLV.out.mono ?_
  rintro e2 w2 ⟨rfl,rfl⟩
  have hmk:=run_make (P:=Tryz.prog) w1 31 32 i0 (.slice none 0 0) Tryz.underlying31 hi hz0 .i64 .i64 (top:Int) (top:Int) (by omega) (Int.le_refl _) (by rw [hz2]; omega) (by omega)
  simp only [hz1,Nat.mul_one,Int.toNat_natCast] at hmk
  go_wp2
  have HB4:Hid (Below w1.heap.size w1 (w1.alloc (.cells (madeCells #[.slice none 0 0] top) 32))):=(Below.refl _ _).alloc (Nat.le_refl _) _
  have HBK:Hid ((w1.alloc (.cells (madeCells #[.slice none 0 0] top) 32)).heap[w1.heap.size]? = some (.cells (List.replicate top (.slice none 0 0)).toArray 32 (0,0))):=by
    have e:madeCells #[.slice none 0 0] top = (List.replicate top (.slice none 0 0)).toArray:=madeNils top
    rw [← e]
    exact heap_alloc_new _ _
  clear hmk
  generalize w1.alloc (.cells (madeCells #[.slice none 0 0] top) 32) = w4 at HB4 HBK ⊢
  go_loopw [5,16] (fun _ i wr=>∃ (n:Nat) (vs:List Value),i = .int .i64 n∧n≤top∧Hid (vs.length = top)∧Hid (wr.heap[w1.heap.size]? = some (.cells vs.toArray 32 (0,0)))∧Hid (∀ k,k < n→IRow wr (vs.getD k (.slice none 0 0)) (lk (id,(k:Int)))∧∀ g,(vs.getD k (.slice none 0 0)).ownBlock = some g→w1.heap.size≤g)∧Hid (Below w1.heap.size w1 wr)) (fun _ i _=>top - (intOf i).toNat)
  case atStart=>exact ⟨0,List.replicate top (.slice none 0 0),rfl,Nat.zero_le _,List.length_replicate,HBK.out,fun k hk=>absurd hk (Nat.not_lt_zero _),HB4.out⟩
  case round =>
    obtain ⟨n,vs,rfl,hn,HVL,HBR,HRW,HBW⟩:=hrel
    have hW:Below w.heap.size w wr:=HW1.out.trans (HBW.out.mono HW1.out.size)
    have hxr:=(HBW.out.block _ (heap_lt HC3.out)).trans HC3.out
    have d0:=cells_at hxr 0 rfl
    by_cases hlt:n < top
    · have h88:=linked88 bg F lev lk ch id n wr (HG.out.below hW) hidI (I64_of n (by omega) (by omega)) (Nat.le_trans (HLK.out.len _) (by omega))
      have HL:=hide h88
      clear h88 hW hxr
      as_aux_lemma =>
      go_wp2_with fail
      refine HL.out.mono ?_
      rintro e5 w5 ⟨v5,rfl,r5,f5,b5,_⟩
      have hbk5:=(b5.block _ (heap_lt HBR.out)).trans HBR.out
      obtain ⟨a5,c5,hv5,_⟩:=IRow_slice r5
      subst hv5
      have hnv:n < vs.length:=by rw [HVL.out]; exact hlt
      have y0:w5.cell? ⟨w1.heap.size,n,none⟩ = some (vs.getD n (.slice none 0 0)):=cells_at hbk5 n (by simp [List.getD_eq_getElem?_getD,hnv])
      have yf:=cells_frozen hbk5
      have HBK5:=hide hbk5
      have R5:=hide r5
      have F5:=hide f5
      have B5:=hide b5
      have HNV:=hide hnv
      clear hbk5 r5 f5 b5 hnv d0
      go_wp2
      have hk6:Kept (fun k=>k = w1.heap.size) w5 (w5.setCell ⟨w1.heap.size,n,none⟩ (.slice a5 (lk (id,(n:Int))).length c5)):=(Kept.refl (fun k=>k = w1.heap.size) w5).setCell (p:=⟨w1.heap.size,n,none⟩) (fun _=>rfl) _
      have hrw:∀ {v:Value} {fl:List Int},IRow w5 v fl→IRow (w5.setCell ⟨w1.heap.size,n,none⟩ (.slice a5 (lk (id,(n:Int))).length c5)) v fl:=fun {v fl} hr=>ownsRow_kept hr hk6 (fun g e e2=>irow_ne hr HBK5.out (by decide) (by rw [e,e2]))
      have hB5:=HBW.out.trans (B5.out.mono HBW.out.size)
      refine ⟨⟨n + 1,vs.set n (.slice a5 (lk (id,(n:Int))).length c5),by go_num,by omega,?_,?_,fun k hk=>?_,hB5.setCell (Nat.le_refl _) _⟩,by simp [intOf]; omega⟩
      · show (vs.set _ _).length = top
        rw [List.length_set]; exact HVL.out
      · show _ = _
        rw [heap_setCell_same _ _ _ _ _ _ HBK5.out]; simp
      · by_cases hkn:k = n
        · subst hkn
          have e1:(vs.set k (.slice a5 (lk (id,(k:Int))).length c5)).getD k (.slice none 0 0) = .slice a5 (lk (id,(k:Int))).length c5:=by
            rw [List.getD_eq_getElem?_getD,List.getElem?_set_self HNV.out]; rfl
          rw [e1]
          exact ⟨hrw R5.out,fun g e=>Nat.le_trans HBW.out.size (F5.out g e)⟩
        · have e1:(vs.set n (.slice a5 (lk (id,(n:Int))).length c5)).getD k (.slice none 0 0) = vs.getD k (.slice none 0 0):=by
            rw [List.getD_eq_getElem?_getD,List.getElem?_set_ne (fun e=>hkn e.symm),← List.getD_eq_getElem?_getD]
          rw [e1]
          have hR:=HRW.out k (by omega)
          exact ⟨hrw (ownsRow_below hR.1 B5.out),hR.2⟩
    · obtain rfl:n = top:=by omega
      have hlv:=leave89 bg F lev lk ch id wr (HG.out.below hW) hidI hch (allP ids) (by rw [allP_length]; omega) ⟨HLK.out.ris,fun p=>Nat.le_trans (HLK.out.len p) (by omega),HLK.out.inAll,fun p x hx=>HI.out x (HLK.out.sub p x hx)⟩ n HTOP.out h10
      have HL:=hide hlv
      have HXR:=hide hxr
      have HW:=hide hW
      clear hlv hxr hW
      go_wp2_with fail
      refine HL.out.mono ?_
      rintro e5 w5 ⟨rfl,hg5,hk5⟩
      have hF0:∀ k,w.heap.size≤k→¬ F k:=fun k h1 e=>by have:=HFW.out k e; omega
      have hKS:Kept (fun k=>F k ∨ wr.heap.size≤k) wr w5:=hk5.mono (fun _ _ e=>.inl e)
      have HG5:=hide hg5
      have HKS:=hide hKS
      have HF0:=hide hF0
      clear hg5 hk5 hKS hF0 d0 HL
      go_wp2
      go_loopw [6,7,34] (fun _ _ i wq=>∃ (m:Nat) (F2:Nat→Prop),i = .int .i64 m∧m≤n∧Hid (GAt wq bg F2 (levDel id lev) (delM links dd lk id (leaveF lk id n) m) (keepP (fun x=>decide (x = id)) ch))∧Hid (∀ k,F2 k→F k ∨ wr.heap.size≤k)∧Hid (Kept (fun k=>F k ∨ wr.heap.size≤k) wr wq)) (fun _ _ i _=>n - (intOf i).toNat)
      case atStart=>exact ⟨0,F,rfl,Nat.zero_le _,HG5.out,fun k e=>.inl e,HKS.out⟩
      case round =>
        rename World=>wq
        obtain ⟨m,F2,rfl,hm',HGq,HF2,HKq⟩:=hrel
        by_cases hlt2:m < n
        · have hz1:=HZ1.out
          have hzr:=HBW.out.size
          have hbk:=(HKq.out.block _ (heap_lt HBR.out) (fun e=>e.elim (HF0.out _ (by omega)) (fun e=>by have:=heap_lt HBR.out; omega))).trans HBR.out
          have hrow2:=HRW.out m hlt2
          have hrow:IRow wq (vs.getD m (.slice none 0 0)) (lk (id,(m:Int))):=ownsRow_kept hrow2.1 HKq.out (fun g' e e2=>by
            have h1:=hrow2.2 g' e
            have h2:=(hrow2.1.lt g' e).2
            exact e2.elim (HF0.out g' (by omega)) (fun e=>by omega))
          have hnF:∀ g',(vs.getD m (.slice none 0 0)).ownBlock = some g'→¬ F2 g':=fun g' e e2=>by
            have h1:=hrow2.2 g' e
            have h2:=(hrow2.1.lt g' e).2
            exact (HF2.out g' e2).elim (HF0.out g' (by omega)) (fun e=>by omega)
          have hxq:=(HKq.out.block _ (heap_lt HXR.out) (fun e=>e.elim (HF0.out _ (Nat.le_refl _)) (fun e=>by have:=heap_lt HXR.out; omega))).trans HXR.out
          have y0:wq.cell? ⟨w1.heap.size,m,none⟩ = some (vs.getD m (.slice none 0 0)):=cells_at hbk m (by
            have:m < vs.length:=by rw [HVL.out]; exact hlt2
            simp [List.getD_eq_getElem?_getD,this])
          have hnext:delM links dd lk id (leaveF lk id n) (m + 1) = mendAll links dd m (lk (id,(m:Int))) (delM links dd lk id (leaveF lk id n) m) (lk (id,(m:Int))):=rfl
          have hlkm:LkIn ids' (delM links dd lk id (leaveF lk id n) m):=HLK'.out.delM links dd HLEFT.out m (by omega)
          have hKw:Kept F w wq:=(Kept.of_below F HW.out).trans HKq.out (fun j hj e=>e.elim (fun e=>e) (fun e=>by have:=HW.out.size; omega))
          have hll:(lk (id,(m:Int))).length≤300:=Nat.le_trans (HLK.out.len _) hids
          have hsub:=HLEFT.out m
          have hzq:wr.heap.size≤wq.heap.size:=HKq.out.size
          generalize vs.getD m (.slice none 0 0) = vn at y0 hrow hnF
          generalize lk (id,(m:Int)) = left at hrow hnext hll hsub
          generalize delM links dd lk id (leaveF lk id n) m = lkm at HGq hnext hlkm
          have d0:=cells_at hxq 0 rfl
          have d1:=cells_at hxq 1 rfl
          have d2:=cells_at hxq 2 rfl
          have d3:=cells_at hxq 3 rfl
          have hmd:=mend90 bg links beam mk caps dd (fun k=>F2 k∧k < wq.heap.size) (levDel id lev) lkm (keepP (fun x=>decide (x = id)) ch) ids' m vn left wq HGq.out.tight (fun k hk=>hk.2) hlkm hids' HI'.out ⟨by omega,by omega⟩ hrow (fun g' e e2=>hnF g' e e2.1) hll hsub hk eg
            (fun a ha b hb W hW=>HM.out a ha b hb W (hKw.trans hW (fun j hj e=>(HF2.out j e.1).elim (fun e=>e) (fun e=>by have:=HW.out.size; omega))))
          obtain ⟨an,cn,hvn,_⟩:=IRow_slice hrow
          subst hvn
          have HNX:=hide hnext
          have HMD:=hide hmd
          clear hmd hrow hrow2 hnF hxq hbk hlkm hKw hsub hnext hz1
          as_aux_lemma =>
          go_wp2_with fail
          refine HMD.out.mono ?_
          rintro e6 w6 ⟨rfl,F6,hg6,hk6,hf6⟩
          have HG6:=hide hg6
          have HK6:=hide hk6
          have HF6:=hide hf6
          clear hg6 hk6 hf6 d0 d1 d2 d3 y0
          go_wp2
          refine ⟨⟨m + 1,F6,by go_num,by omega,?_,fun k hk=>?_,HKq.out.trans HK6.out (fun j hj e=>HF2.out j e.1)⟩,by simp [intOf]; omega⟩
          · show GAt _ _ _ _ _ _
            rw [HNX.out]
            exact HG6.out
          · exact (HF6.out k hk).elim (fun e=>HF2.out k e.1) (fun e=>.inr (by omega))
        · go_wp2
          go_end0
          obtain rfl:m = n:=by omega
          exact ⟨rfl,F2,HGq.out,(Kept.of_below F HW.out).trans HKq.out (fun j hj e=>e.elim (fun e=>e) (fun e=>by have:=HW.out.size; omega)),fun k hk=>(HF2.out k hk).imp (fun e=>e) (fun e=>by have:=HW.out.size; omega)⟩
end
end Go.Proofs.YtpkiefjanmfgfaaGreatDoor
