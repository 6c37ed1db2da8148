import Derived.Test.YtpkiefjanmfgfaaGreatDoorAll24
import Derived.Test.YtpkiefjanmfgfaaGreatDoorAll25
import Derived.Test.YtpkiefjanmfgfaaGreatDoorAll26
import Derived.Test.YtpkiefjanmfgfaaGreatDoorAll27
namespace Go.Proofs.YtpkiefjanmfgfaaGreatDoor
section
open Go.RowKit Go.Maps

theorem news_three (w:World) (x y z:Value) (t:TypeId) (H0:Nat) (h:H0 = w.heap.size):∀ j u,[x,y,z][j]? = some u→(w.alloc (.cells #[x,y,z] t)).cell? ((⟨H0,0,none⟩:Addr).add j) = some u:=by
  subst h
  exact World.news_of_block (cs:=#[x,y,z]) (t:=t) (fr:=(0,0)) (heap_alloc_new _ _)

def ptG (m m':Int) (j:Nat):Value:=if j % 3 = 0 then .int .i64 m else if j % 3 = 1 then .int .i64 m' else .slice none 0 0
theorem ptG0 (m m':Int) (k:Nat):ptG m m' (k * 3) = .int .i64 m:=by unfold ptG; rw [if_pos (by omega)]
theorem ptG1 (m m':Int) (k:Nat):ptG m m' (k * 3 + 1) = .int .i64 m':=by unfold ptG; rw [if_neg (by omega),if_pos (by omega)]
theorem ptG2 (m m':Int) (k:Nat):ptG m m' (k * 3 + 2) = .slice none 0 0:=by unfold ptG; rw [if_neg (by omega),if_neg (by omega)]
theorem ApC.recG {wr w:World} {bp:Nat} {lv nsv nmv:Value} {nl nn:Nat} {m m':Int} {A:Nat→Prop} {r0 rs:List Rc} (h:ApC 81 95 3 w bp lv nl (patL (ptG m m') (nl * 3)) nsv nmv nn (r0.map Rc.val) (r0.map Rc.mrk) m rs rs) (h4:rs.length = 4) (hnl:nl≤1000) (hm:m' = wrap64 (-m)) (hr:∀ r ∈ rs,∀ g,r.val.ownBlock = some g→A g ∨ wr.heap.size≤g) :
    RecX 81 QG wr bp A (fun k=>∃ r ∈ rs,r.val.ownBlock = some k) w nsv nmv (nn + 4) r0 rs:=by
  refine ⟨?_,?_,fun W hW r hr2=>?_,?_⟩
  · have:=h.ns
    rw [h4] at this
    simpa using this
  · have:=h.nm
    rw [h4] at this
    simpa using this
  · have q:=h.rd r hr2
    have hle:=q.le
    refine ⟨by omega,fun k hk=>?_⟩
    obtain ⟨g,e⟩:=q.addr (by omega)
    have hg:r.val.ownBlock = some g:=by unfold Rc.val; rw [e]; rfl
    have hb:=hW g ⟨r,hr2,hg⟩
    refine ⟨g,e,q.at hg hb (by omega) ?_,q.at hg hb (by omega) ?_,q.at hg hb (by omega) ?_⟩
    · rw [patL_at _ (by omega),ptG0,q.m]
    · rw [patL_at _ (by omega),ptG1,q.m,hm]
    · rw [patL_at _ (by omega),ptG2]
  · rintro k ⟨r,hr2,e⟩
    obtain ⟨q1,q2,q3,q4⟩:=(h.rd r hr2).lt k e
    exact ⟨q1,q3,q4,hr r hr2 k e⟩

set_option maxHeartbeats 4000000 in
set_option maxRecDepth 20000 in
theorem graph85 (W0 w:World) (bp bb bs bm br:Nat) (cf:Cf) (gn:Net) (la:Option Addr) (lc:Nat) (nsv:BV) (nmv:Value) (nn:Nat) (L M:List Ent) (has:Bool) (ent:Int) (chv nv:Value) (ch:List Int) (lk:Int × Int→List Int) (ns:List TNode) (h:PairAt W0 w bp bb bs bm br cf gn la lc nsv nmv nn L M) (hc:IRow w chv ch) (hn:NodesAt w lk nv ns)
    (hcA:∀ g,chv.ownBlock = some g→Apart W0 g bp bb bs bm br gn la lc nsv nmv L M) (hT:∀ k,TB nv ns k→Apart W0 k bp bb bs bm br gn la lc nsv nmv L M) (hcT:∀ n ∈ ns,∀ u ∈ n.us,∀ g,u.ownBlock = some g→chv.ownBlock ≠ some g) (hAd:(ns.map (·.A)).Nodup) (hdj:Djs (ns.flatMap (·.us)))
    (hcl:ch.length≤60) (hnl:ns.length≤60) (ht:∀ n ∈ ns,n.t≤10) (hss:∀ p,(lk p).length≤1000) (hnn:(nn + 4000) * 24≤140737488355328) :
    Calls Tryz.prog 85 #[.pointer (some ⟨bp,6,none⟩),.agg #[.bool has,.int .i64 ent,chv,nv]] w fun ev w'=>ev = .returned (.tuple #[])∧∃ ex' nsv' nmv' nn',nn≤nn'∧nn'≤nn + 3000∧PairAt W0 w' bp bb bs bm br cf { gn with ex:=ex' } la lc nsv' nmv' nn' L M∧SameZ gn.ex ex':=by
  obtain ⟨i3,hi3,hz30,hz31,hz32⟩:=info_parts info3
  obtain ⟨i81,hi81,hz810,hz811,hz812⟩:=info_parts info81
  obtain ⟨i95,hi95,hz950,hz951,hz952⟩:=info_parts info95
  obtain ⟨ca,cc,rfl,hca0⟩:=IRow_slice hc
  clear hca0
  obtain ⟨na,nc,rfl,hna⟩:=hn.slice
  have hng:=h.xn.2.1
  have hct:∀ k,TB (.slice na ns.length nc) ns k→¬ (Value.slice ca ch.length cc).ownBlock = some k:=fun k hk e=>by
    obtain ⟨c1,hc1⟩:=ownsRow_obj hc e
    rcases hk with e2 | ⟨n,hm,rfl | ⟨u,hu,hg⟩⟩
    · obtain ⟨c2,hc2⟩:=ownsRow_obj hn.row e2
      exact ne_of_elem hc1 hc2 (by decide) rfl
    · exact ne_of_elem hc1 (hn.lks n hm).blk (by decide) rfl
    · exact hcT n hm u hu k hg e
  obtain ⟨w1,hw1⟩:∃ w1,w1 = w.alloc (.cells #[.bool has,.int .i64 ent,.slice ca ch.length cc,.slice na ns.length nc] 83):=⟨_,rfl⟩
  have hb1:Below w.heap.size w w1:=hw1 ▸ (Below.refl _ _).alloc (Nat.le_refl _) _
  have hx1:w1.heap[w.heap.size]? = some (.cells #[.bool has,.int .i64 ent,.slice ca ch.length cc,.slice na ns.length nc] 83 (0,0)):=by rw [hw1]; exact heap_alloc_new _ _
  have h1:=h.below hb1
  have hbx:=h.apart (A:=w.heap.size) (Nat.le_refl _)
  have x2:w1.cell? ⟨w.heap.size,2,none⟩ = some (.slice ca ch.length cc):=cells_at hx1 2 rfl
  have hc1:=ownsRow_below hc hb1
  have HCX:Hid (∀ g,(Value.slice ca ch.length cc).ownBlock = some g→g < w.heap.size):=fun g hg=>(hc.lt g hg).2
  have HTX:Hid (∀ k,TB (.slice na ns.length nc) ns k→k < w.heap.size):=fun k hk=>hn.lt hk
  have HI:=hide (ints35_rec bp ca ch.length cc nsv nmv nn w1 (h1.book.ins hc1 (fun g hg=>(hcA g hg).nm)) h1.book (by omega) (Nat.le_trans (Nat.mul_le_mul_right 24 (by omega)) hnn))
  have HN1:=hide (hn.below hb1)
  have H1:=hide h1
  have HX1:=hide hx1
  have HBX:=hide hbx
  have HT:=hide hT
  have HCA:=hide hcA
  have HCT:=hide hct
  have HAD:=hide hAd
  have HDJ:=hide hdj
  have HTT:=hide ht
  have HSS:=hide hss
  have HNN:=hide hnn
  have HNA:=hide hna
  clear h hc hn hcA hT hcT hAd hdj ht hss hnn hna hct hx1 hb1 h1 hbx hc1
  go_enter Tryz.func85,Tryz.ntmps85
  go_wp2_with fail
  rw [← hw1]
  clear hw1
  go_fit HI.out
  rintro ev w2 ⟨rfl,lv2,nsv2,nmv2,hs2⟩
  have h2:=H1.out.intsA HCA.out hs2
  have st2:=Stays.ints (W0:=W0) (bb:=bb) (bs:=bs) (bm:=bm) (br:=br) (gn:=gn) (la:=la) (lc:=lc) (L:=L) (M:=M) hs2
  have hn2:=HN1.out.blocks (fun k hk=>(st2.2 k (HN1.out.lt hk) (HT.out k hk) (HCT.out k hk)).2 (HCT.out k hk))
  have hT2:∀ k,TB (.slice na ns.length nc) ns k→Apart W0 k bp bb bs bm br gn la lc nsv2 nmv2 L M:=fun k hk=>(st2.2 k (HN1.out.lt hk) (HT.out k hk) (HCT.out k hk)).1
  have hbx2:=st2.2 _ (heap_lt HX1.out) HBX.out (fun e=>by have:=HCX.out _ e; omega)
  have hx2:=(hbx2.2 (fun e=>by have:=HCX.out _ e; omega)).trans HX1.out
  obtain ⟨b6,h6⟩:=h2.book.c6
  obtain ⟨b7,h7⟩:=h2.book.c7
  have h7f:=h2.book.frozen 7
  have HM:Hid (∀ nx nq,PairAt W0 ((w2.setCell ⟨bp,7,none⟩ (.int .i64 nx)).drewN nq) bp bb bs bm br cf gn la lc nsv2 nmv2 (nn + 4) L M∧NodesAt ((w2.setCell ⟨bp,7,none⟩ (.int .i64 nx)).drewN nq) lk (.slice na ns.length nc) ns∧((w2.setCell ⟨bp,7,none⟩ (.int .i64 nx)).drewN nq).heap[w.heap.size]? = some (.cells #[.bool has,.int .i64 ent,.slice ca ch.length cc,.slice na ns.length nc] 83 (0,0))∧w2.heap.size≤((w2.setCell ⟨bp,7,none⟩ (.int .i64 nx)).drewN nq).heap.size):=fun nx nq=>by
    have st3:=Stays.mark (W0:=W0) (w:=w2) (bp:=bp) (bb:=bb) (bs:=bs) (bm:=bm) (br:=br) (gn:=gn) (la:=la) (lc:=lc) (nsv:=nsv2) (nmv:=nmv2) (L:=L) (M:=M) nx nq (P:=fun _=>False) (R:=fun _=>False)
    exact ⟨h2.mark nx nq,hn2.blocks (fun k hk=>(st3.2 k (hn2.lt hk) (hT2 k hk) (fun e=>e)).2 (fun e=>e)),((st3.2 _ (heap_lt hx2) hbx2.1 (fun e=>e)).2 (fun e=>e)).trans hx2,st3.1⟩
  have HT2:=hide hT2
  have hz2:w.heap.size < w2.heap.size:=heap_lt hx2
  have HZ2:=hide hz2
  clear h2 st2 hn2 hT2 hbx2 hx2 hs2 HI HT HCT HCA HBX x2 hz2
  go_wp2_with fail
  refine (mark58_any bp b6 b7 _ h6 h7 h7f).mono ?_
  rintro ev w3 ⟨m,nx,nq,rfl,rfl⟩
  obtain ⟨h3,hn3,hx3,hz3⟩:=HM.out nx nq
  generalize (w2.setCell ⟨bp,7,none⟩ (.int .i64 nx)).drewN nq = w3 at h3 hn3 hx3 hz3 ⊢
  clear HM h6 h7 h7f
  obtain ⟨w4,hw4⟩:∃ w4,w4 = w3.alloc (.cells #[.int .i64 m,.int .i64 (wrap64 (-m)),.slice none 0 0] 95):=⟨_,rfl⟩
  have hb4:Below w3.heap.size w3 w4:=hw4 ▸ (Below.refl _ _).alloc (Nat.le_refl _) _
  have hX4:w4.heap[w3.heap.size]? = some (.cells #[.int .i64 m,.int .i64 (wrap64 (-m)),.slice none 0 0] 95 (0,0)):=by rw [hw4]; exact heap_alloc_new _ _
  have hXA:=h3.apart (A:=w3.heap.size) (Nat.le_refl _)
  have h4:=h3.below hb4
  have hn4:=hn3.below hb4
  have x3:w4.cell? ⟨w.heap.size,3,none⟩ = some (.slice na ns.length nc):=cells_at ((hb4.block _ (heap_lt hx3)).trans hx3) 3 rfl
  have HG0:Hid (GrS W0 w4 w4 bp bb bs bm br cf gn gn la lc nsv2 nmv2 nsv2 nmv2 (nn + 4) (nn + 4) L M (.slice na ns.length nc) ns (ptG m (wrap64 (-m))) (ncells ns) 0):=⟨h4,⟨gn.ex,rfl,rfl,SameZ.refl _⟩,by omega,Stays.refl _ _ _ _ _ _ _ _ _ _ _ _ _ _ _ _,hn4.row,fun _ _=>rfl,fun k hk=>absurd hk (by omega)⟩
  have hXT:∀ k,TB (.slice na ns.length nc) ns k→k ≠ w3.heap.size:=fun k hk e=>by have h1:=HTX.out k hk; have h2:=HZ2.out; omega
  have HX4:=hide hX4
  have HXA:=hide hXA
  have HXT:=hide hXT
  have HN4:=hide hn4
  clear h3 hn3 hx3 hb4 hX4 hXA h4 hn4 hXT hz3 HN1 H1 HX1
  go_upto_region 4 with fail
  rw [← hw4]
  clear hw4
  generalize w3.heap.size = X at *
  generalize hmm:wrap64 (-m) = m' at *
  have HMM:=hide hmm
  clear hmm
  go_wp2
  clear x3
  go_loopw [7] (fun iv wr=>∃ (i:Nat) (gn':Net) (nsv':BV) (nmv':Value) (nn':Nat) (cs:List Value),iv = .int .i64 i∧i≤ns.length∧Hid (GrS W0 w4 wr bp bb bs bm br cf gn gn' la lc nsv2 nmv2 nsv' nmv' (nn + 4) nn' L M (.slice na ns.length nc) ns (ptG m m') cs i)) (fun iv _=>ns.length - (intOf iv).toNat)
  case atStart=>exact ⟨0,gn,nsv2,nmv2,nn + 4,ncells ns,rfl,Nat.zero_le _,HG0.out⟩
  case round =>
    clear HG0
    obtain ⟨i,gn',nsv',nmv',nn',cs,rfl,hi,HG⟩:=hrel
    have hXr:=HG.out.stay.2 X (heap_lt HX4.out) HXA.out (by
      rintro ⟨j,hj,_,e⟩
      exact HXT.out X (.inr ⟨_,List.getElem_mem hj,e⟩) rfl)
    have hXb:wr.heap[X]? = some (.cells #[.int .i64 m,.int .i64 m',.slice none 0 0] 95 (0,0)):=(hXr.2 (by
      rintro (e | ⟨j,hj,_,e⟩)
      · exact HXT.out X (.inl e) rfl
      · exact HXT.out X (.inr ⟨_,List.getElem_mem hj,e⟩) rfl)).trans HX4.out
    have HXB:=hide hXb
    have HXR:=hide hXr.1
    clear hXr hXb
    by_cases hlt:i < ns.length
    · obtain ⟨g,rfl⟩:=HNA.out (by omega)
      obtain ⟨r1,r2,r3⟩:=HG.out.node HN4.out HT2.out HAD.out HDJ.out hlt
      have hpl:=HG.out.place rfl hlt
      have htt:=HTT.out _ (List.getElem_mem hlt)
      have hul:ns[i].us.length = ns[i].t + 1:=by rw [r1.len,nodeL_len]
      have hle:=HG.out.le
      have HLI:=hide (lists128 W0 wr bp bb bs bm br cf gn' la lc nsv' nmv' nn' L M ns[i].A ns[i].us _ HG.out.pair r1 r2 r3 (djs_one HDJ.out (List.getElem_mem hlt)) (by omega) (by omega) (fun l hl=>by
        unfold nodeL at hl
        obtain ⟨k,_,rfl⟩:=List.mem_map.1 hl
        exact HSS.out _) (by have h1:=HNN.out; exact Nat.le_trans (Nat.mul_le_mul_right 24 (by omega)) h1))
      have HNX:=hide (fun w5 ex5 nsv5 nmv5 hp hng hz hs=>HG.out.next (w3:=w5) (ex3:=ex5) (nsv3:=nsv5) (nmv3:=nmv5) HN4.out HT2.out rfl hlt (by omega) hp hng hz hs)
      have HXN:Hid (¬ (X = ns[i].A ∨ ∃ u ∈ ns[i].us,u.ownBlock = some X)):=by
        rintro (e | ⟨u,hu,e⟩)
        · exact HXT.out X (.inr ⟨_,List.getElem_mem hlt,.inl e.symm⟩) rfl
        · exact HXT.out X (.inr ⟨_,List.getElem_mem hlt,.inr ⟨u,hu,e⟩⟩) rfl
      rw [hul] at HLI HNX
      clear r1 r2 r3 hul htt hle
      generalize ns[i].A = A at *
      generalize ns[i].t = t at *
      generalize ns[i].us = us at *
      have hgl:g < wr.heap.size:=(HG.out.row.lt g rfl).2
      go_wp2_with fail
      go_fit HLI.out
      rintro ev w5 ⟨rfl,ex5,nsv5,nmv5,hp5,hng5,hz5,hs5⟩
      obtain ⟨hr5,HN5⟩:=HNX.out w5 ex5 nsv5 nmv5 hp5 hng5 hz5 hs5
      have hX5:=((hs5.2 X (heap_lt HXB.out) HXR.out HXN.out).2 HXN.out).trans HXB.out
      have y0:=cells_at hX5 0 rfl
      have y1:=cells_at hX5 1 rfl
      have y2:=cells_at hX5 2 rfl
      simp only [List.getElem_toArray,List.getElem_cons_zero,List.getElem_cons_succ] at y0 y1 y2
      have hcl5:cs.length = ns.length * 3:=hr5.1
      have z0:w5.cell? ⟨g,i * 3,none⟩ = some cs[i * 3]:=ownsRow_cell hr5 (List.getElem?_eq_getElem (by omega))
      have z1:w5.cell? ⟨g,i * 3 + 1,none⟩ = some cs[i * 3 + 1]:=ownsRow_cell hr5 (List.getElem?_eq_getElem (by omega))
      have z2:w5.cell? ⟨g,i * 3 + 2,none⟩ = some cs[i * 3 + 2]:=ownsRow_cell hr5 (List.getElem?_eq_getElem (by omega))
      have hfz:=ownsRow_frozen hr5
      have hgX:g ≠ X:=HXT.out g (.inl rfl)
      generalize cs[i * 3] = q0 at z0
      generalize cs[i * 3 + 1] = q1 at z1
      generalize cs[i * 3 + 2] = q2 at z2
      have HN5':=hide HN5
      clear HN5 hr5 hX5 hp5 hng5 hz5 hs5 HLI HNX hcl5 hpl
      go_wp2
      exact ⟨⟨i + 1,_,nsv5,nmv5,_,_,by go_num,by omega,HN5'.out _ _ _ (ptG0 _ _ _) (ptG1 _ _ _) (ptG2 _ _ _)⟩,by simp [intOf]; omega⟩
    · obtain rfl:i = ns.length:=by omega
      clear hlt hi
      have hle:=HG.out.le
      obtain ⟨ex1,hg1,hng1,hz1⟩:=HG.out.net
      have hnge:gn'.ex.ng = gn.ex.ng:=by rw [hg1]; exact hng1
      have HA0:=hide (HG.out.pair.begin12 ⟨_,HG.out.row⟩)
      have hTn:∀ g,(Value.slice na ns.length nc).ownBlock = some g→Apart W0 g bp bb bs bm br gn' la lc nsv' nmv' L M:=fun g hg=>(HG.out.stay.2 g (HN4.out.lt (.inl hg)) (HT2.out g (.inl hg)) (HN4.out.notR hg _)).1
      have hXl:=heap_lt HXB.out
      have hXb:wr.heap[X]? = some (.cells #[.int .i64 m,.int .i64 m',.slice none 0 0] 95 (0,0)):=HXB.out
      have hXo:X ≠ bp:=HXR.out.p
      have hXw:∀ {o E e sz:Nat} {lv':Value} {w':World} {n':Nat} {v1 v2:Value} {a b:Nat},ApS o E e sz wr bp (.slice na ns.length nc) gn'.ex.gsv gn'.ex.gmv w' lv' n' v1 a v2 b→w'.heap[X]? = some (.cells #[.int .i64 m,.int .i64 m',.slice none 0 0] 95 (0,0)):=fun hs=>(hs.kept.block X hXl (by
        rintro (e | e | e | e)
        · exact hXo e
        · exact HXT.out X (.inl e) rfl
        · exact HXR.out.x (.inr (.inr (.inl e)))
        · exact HXR.out.x (.inr (.inr (.inr (.inl e)))))).trans hXb
      have HXW:Hid (∀ (lv':Value) (w':World) (n':Nat) (v1 v2:Value) (a b:Nat),ApS 12 81 95 3 wr bp (.slice na ns.length nc) gn'.ex.gsv gn'.ex.gmv w' lv' n' v1 a v2 b→w'.heap[X]? = some (.cells #[.int .i64 m,.int .i64 m',.slice none 0 0] 95 (0,0))):=fun _ _ _ _ _ _ _ hs=>hXw hs
      have hcs:cs = patL (ptG m m') (ns.length * 3):=all_pat HG.out.row.1 (fun k hk=>HG.out.done k (by omega))
      subst hcs
      obtain ⟨⟨_,rfl⟩,hrs⟩:=HG.out.pair.x.gs
      obtain ⟨⟨_,rfl⟩,hrm⟩:=HG.out.pair.x.gm
      have HC0:Hid (ApC 81 95 3 wr bp (.slice na ns.length nc) ns.length (patL (ptG m m') (ns.length * 3)) gn'.ex.gsv gn'.ex.gmv gn'.ex.ng (gn'.ex.rg.map Rc.val) (gn'.ex.rg.map Rc.mrk) m [] []):=⟨HG.out.row,by simpa using hrs,by simpa using hrm,by decide,fun r hr=>absurd hr List.not_mem_nil⟩
      have HFIN:Hid (∀ w' lv' v1 v2 rs,rs.length = 4→ApS 12 81 95 3 wr bp (.slice na ns.length nc) gn'.ex.gsv gn'.ex.gmv w' lv' (ns.length + 4) v1 (gn'.ex.ng + 4) v2 (gn'.ex.ng + 4)→ApC 81 95 3 w' bp lv' (ns.length + 4) (patL (ptG m m') ((ns.length + 4) * 3)) v1 v2 gn'.ex.ng (gn'.ex.rg.map Rc.val) (gn'.ex.rg.map Rc.mrk) m rs rs→(∀ r ∈ rs,∀ g,r.val.ownBlock = some g→(Value.slice na ns.length nc).ownBlock = some g ∨ wr.heap.size≤g)→∃ ex' nsv' nmv' nn',nn≤nn'∧nn'≤nn + 3000∧PairAt W0 w' bp bb bs bm br cf { gn with ex:=ex' } la lc nsv' nmv' nn' L M∧SameZ gn.ex ex'):=fun w' lv' v1 v2 rs h4 hs hc hrb=>by
        have hrec:=hc.recG h4 (by omega) HMM.out.symm hrb
        have p1:=(HG.out.pair.ap12 hTn hs (by omega) hrec hTn).1
        rw [hg1] at p1
        exact ⟨_,nsv',nmv',nn',by omega,by omega,p1,⟨hz1.z,hz1.zw,hz1.zn⟩⟩
      have hq:∀ q,q < 4→ns.length + q + 1≤maxLen∧(ns.length + q + 1) * 40≤140737488355328∧gn'.ex.ng + q + 1≤maxLen∧(gn'.ex.ng + q + 1) * 24≤140737488355328∧(gn'.ex.ng + q + 1) * 8≤140737488355328:=fun q hq=>by
        have h1:=HNN.out
        unfold maxLen
        omega
      have HQ:=hide hq
      clear hTn hXw hXo hXb hle hnge hq hg1 hng1 hz1 hXl hng hcl hnl hrs hrm
      go_wp2
      go_loopw [6,8] (fun lv iv wx=>∃ (rs:List Rc) (al:Option Addr) (cl:Nat) (v1 v2:Value),rs.length≤4∧iv = .int .i64 rs.length∧lv = .slice al (ns.length + rs.length) cl∧Hid (ApS 12 81 95 3 wr bp (.slice na ns.length nc) gn'.ex.gsv gn'.ex.gmv wx (.slice al (ns.length + rs.length) cl) (ns.length + rs.length) v1 (gn'.ex.ng + rs.length) v2 (gn'.ex.ng + rs.length))∧Hid (ApC 81 95 3 wx bp (.slice al (ns.length + rs.length) cl) (ns.length + rs.length) (patL (ptG m m') ((ns.length + rs.length) * 3)) v1 v2 gn'.ex.ng (gn'.ex.rg.map Rc.val) (gn'.ex.rg.map Rc.mrk) m rs rs)∧Hid (∀ r ∈ rs,∀ g,r.val.ownBlock = some g→(Value.slice na ns.length nc).ownBlock = some g ∨ wr.heap.size≤g)) (fun _ iv _=>4 - (intOf iv).toNat)
      case atStart=>exact ⟨[],na,nc,gn'.ex.gsv,gn'.ex.gmv,Nat.zero_le _,rfl,rfl,HA0.out,HC0.out,fun r hr=>absurd hr List.not_mem_nil⟩
      case round =>
        rename World=>wx
        clear HA0 HC0
        obtain ⟨rs,al,cl,v1,v2,hq4,rfl,rfl,hr,HC,HB⟩:=hrel
        by_cases hlt:rs.length < 4
        · have hd:decide ((rs.length:Int) < 4) = true:=decide_eq_true (by omega)
          have c8:=hr.out.c8
          have hbl:=hr.out.lt
          have HL1:=hide (one_of_row HC.out.row)
          have HRN:Hid (∀ r ∈ rs ++ [(⟨al,ns.length + rs.length,cl,m⟩:Rc)],∀ g,r.val.ownBlock = some g→(Value.slice na ns.length nc).ownBlock = some g ∨ wr.heap.size≤g):=fun r hr2 g hg=>by
            rcases List.mem_append.1 hr2 with h1 | h1
            · exact HB.out r h1 g hg
            · obtain rfl:=List.mem_singleton.1 h1
              exact hr.out.ll g hg
          have HPT:Hid (patL (ptG m m') ((ns.length + (rs ++ [(⟨al,ns.length + rs.length,cl,m⟩:Rc)]).length) * 3) = patL (ptG m m') ((ns.length + rs.length) * 3) ++ [.int .i64 m,.int .i64 m',.slice none 0 0]):=by
            have e1:(ns.length + (rs ++ [(⟨al,ns.length + rs.length,cl,m⟩:Rc)]).length) * 3 = (ns.length + rs.length) * 3 + 3:=by simp; omega
            show _ = _
            rw [e1,patL_three,ptG0,ptG1,ptG2]
          have HYS:=hide HC.out.ns
          go_upto_region 14 with (at_builtin; go_must (refine wpList_append_lies _ rfl _ _ 34 rfl 0 81 i81 (.slice none 0 0) 1 24 Tryz.underlying34 hi81 hz810 hz811 hz812 rfl (by decide) v1 (gn'.ex.ng + rs.length) (gn'.ex.rg.map Rc.val ++ rs.map Rc.val) rfl (HYS.out.alloc _) ⟨wx.heap.size,0,none⟩ 1 1 [.slice al (ns.length + rs.length) cl] rfl rfl (cell_one_new _ _ _) HL1.out (by decide) (HQ.out rs.length hlt).2.2.1 (HQ.out rs.length hlt).2.2.2.1 (Nat.zero_le _) (wx.heap.size + 1) (by simp) ?_); intro g1 cap1 w2 ho1 hg1 hl1 hlt1; obtain ⟨hS2,k8,k9,kf⟩:=(hr.out.below ((Below.refl _ _).alloc (Nat.le_refl _) _)).stepN ho1 hg1 (hl1.imp (fun e=>e.symm) (fun e=>(congrArg some e).trans (by simp))); have HC4:=hide (((HC.out.below ((Below.refl _ _).alloc (Nat.le_refl _) _)).stepN (typ_alloc hr.out.typ _) ho1 hg1 (hl1.imp (fun e=>e.symm) (fun e=>(congrArg some e).trans (by simp)))).field (typ_g (typ_alloc hr.out.typ _) hg1 hr.out.ns_ne) 12 (.slice (some ⟨g1,0,none⟩) (gn'.ex.ng + rs.length + 1) cap1)); have HS2:=hide hS2; have HZS:=hide HC4.out.nm; clear hS2 ho1 hg1 hl1)
          have k9':w2.cell? ⟨bp,13,none⟩ = some v2:=k9
          clear k9
          go_upto_region 15 with (at_builtin; go_must (refine wpList_append_lies _ rfl _ _ 32 rfl 0 3 i3 (.int .i64 0) 1 8 Tryz.underlying32 hi3 hz30 hz31 hz32 rfl (by decide) v2 (gn'.ex.ng + rs.length) (gn'.ex.rg.map Rc.mrk ++ rs.map Rc.mrk) rfl (HZS.out.alloc _) ⟨w2.heap.size,0,none⟩ 1 1 [.int .i64 m] rfl rfl (cell_one_new' _ _ _ _ (by simp)) (ints_oneCell .i64 [m]) (by decide) (HQ.out rs.length hlt).2.2.1 (HQ.out rs.length hlt).2.2.2.2 (Nat.zero_le _) (w2.heap.size + 1) (by simp) ?_); intro g2 cap2 w3 ho2 hg2 hl2 hlt2; obtain ⟨hS3,m9,mf⟩:=(HS2.out.below ((Below.refl _ _).alloc (Nat.le_refl _) _)).stepM ho2 hg2 (hl2.imp (fun e=>e.symm) (fun e=>(congrArg some e).trans (by simp))); have m9':w3.cell? ⟨bp,13,none⟩ = some v2:=m9; have mf':w3.frozen? ⟨bp,13,none⟩ = false:=mf; have HC5:=hide (((HC4.out.below ((Below.refl _ _).alloc (Nat.le_refl _) _)).stepM (r:=⟨al,ns.length + rs.length,cl,m⟩) ho2 hg2 (hl2.imp (fun e=>e.symm) (fun e=>(congrArg some e).trans (by simp)))).field (typ_g (typ_alloc HS2.out.typ _) hg2 HS2.out.nm_ne) 13 (.slice (some ⟨g2,0,none⟩) (gn'.ex.ng + rs.length + 1) cap2)); have HS3:=hide hS3; have HLS:=hide HC5.out.row; clear hS3 ho2 hg2 hl2 m9 mf)
          have hX3:=HXW.out _ _ _ _ _ _ _ HS3.out
          have bx0:=cells_at hX3 0 rfl
          have bx1:=cells_at hX3 1 rfl
          have bx2:=cells_at hX3 2 rfl
          simp only [List.getElem_toArray,List.getElem_cons_zero,List.getElem_cons_succ] at bx0 bx1 bx2
          clear hX3
          go_wp2_with (at_builtin; go_must (refine wpList_append_keeps rfl _ _ 81 rfl 0 95 i95 (.agg #[.int .i64 0,.int .i64 0,.slice none 0 0]) 3 40 Tryz.underlying81 hi95 hz950 hz951 hz952 rfl (by decide) (.slice al (ns.length + rs.length) cl) (ns.length + rs.length) (patL (ptG m m') ((ns.length + rs.length) * 3)) rfl (HLS.out.alloc _) ⟨w3.heap.size,0,none⟩ 1 1 [.int .i64 m,.int .i64 m',.slice none 0 0] rfl rfl (news_three _ _ _ _ _ _ (by simp)) (by simp [Value.oneCell']) (by decide) (HQ.out rs.length hlt).1 (HQ.out rs.length hlt).2.1 (Nat.zero_le _) (w3.heap.size + 1) (by simp) ?_); intro g3 cap3 w4 ho3 hg3 hl3 hlt3 hk3; have HS4:=hide ((HS3.out.below ((Below.refl _ _).alloc (Nat.le_refl _) _)).stepL ho3 hg3 (hl3.imp (fun e=>e.symm) (fun e=>(congrArg some e).trans (by simp)))); have HC6:=hide ((HC5.out.below ((Below.refl _ _).alloc (Nat.le_refl _) _)).stepL ho3 hg3 hk3))
          have hl1:(rs ++ [(⟨al,ns.length + rs.length,cl,m⟩:Rc)]).length = rs.length + 1:=by simp
          refine ⟨⟨rs ++ [(⟨al,ns.length + rs.length,cl,m⟩:Rc)],some ⟨g3,0,none⟩,cap3,_,_,by omega,by rw [hl1]; go_num,by rw [hl1]; rfl,by rw [hl1]; exact HS4.out,by rw [HPT.out,hl1]; exact HC6.out,HRN⟩,by simp [intOf]; omega⟩
        · obtain hq4:rs.length = 4:=by omega
          have hd:decide ((rs.length:Int) < 4) = false:=decide_eq_false (by omega)
          have q1:=hr.out
          have q2:=HC.out
          rw [hq4] at q1 q2
          have HF:=hide (HFIN.out _ _ _ _ rs hq4 q1 q2 HB.out)
          clear hq4 q1 q2
          go_wp2
          go_end0
          exact ⟨rfl,HF.out⟩
end
section
open Go.RowKit Go.Maps

def StepG (W0:World) (bp bb bs bm br:Nat) (cf:Cf) (x0:Bks) (nn:Nat) (w':World):Prop :=
  ∃ la lc nsv nmv nn' L gn,nn'≤nn + 3000∧PairAt W0 w' bp bb bs bm br cf gn la lc nsv nmv nn' L L∧Lk gn nn'∧SameZ x0 gn.ex
theorem told_last {gn:Net} {ns:List TNode} (h1:ns.map (·.id) = idsL gn.lev∧∀ n ∈ ns,levOf gn.lev n.id = some (n.t:Int)) {id:Int} (h:∃ t,levOf gn.lev id = some t):∃ o,∃ ho:o < ns.length,ns[o].id = id:=by
  obtain ⟨t,ht⟩:=h
  have hm:id ∈ ns.map (·.id):=by rw [h1.1,(idsL_perm gn.lev).mem_iff]; exact levOf_map ht
  obtain ⟨y,hy,rfl⟩:=List.mem_map.1 hm
  obtain ⟨o,ho,rfl⟩:=List.mem_iff_getElem.1 hy
  exact ⟨o,ho,rfl⟩

set_option maxHeartbeats 8000000 in
set_option maxRecDepth 20000 in
theorem graphs39 (W0 w:World) (bp bb bs bm br:Nat) (cf:Cf) (gn:Net) (la:Option Addr) (lc:Nat) (nsv:BV) (nmv:Value) (nn:Nat) (L:List Ent) (h:PairAt W0 w bp bb bs bm br cf gn la lc nsv nmv nn L L) (hlk:Lk gn nn) (hnn:(nn + 4000) * 24≤140737488355328) :
    Calls Tryz.prog 39 #[.pointer (some ⟨bp,0,none⟩)] w fun ev w'=>ev = .returned (.bool true)∧StepG W0 bp bb bs bm br cf gn.ex nn w':=by
  have hb:=h.base
  have HGR:=hide (graph30 bb bs bm cf gn L w hb hb.short)
  have HHE:=hide hb.hasE
  have HLL:=hide (And.intro hb.levLen hb.chainLen)
  have HTA:=hide (fun ns hx=>told_at (ns:=ns) hb hx)
  have HTO:=hide (fun ns hx=>told_ok (ns:=ns) hb hx)
  have HTL:=hide (fun ns=>told_lev (ns:=ns) hb)
  have HBE:=hide (fun ns hx hne=>best_at (ns:=ns) hb hx hne)
  have HCM:=hide hb.ok.ok.chm
  have HSH:=hide hb.short
  have hn60:=hb.few
  have hcfk:=hb.cfok
  have HDW:=hide hb.drw
  have p0:=h.p0
  have hbp:=h.book.lt
  have HLK:=hide hlk
  have HNN:=hide hnn
  have H:=hide h
  clear h hb hlk hnn
  go_enter Tryz.func39,Tryz.ntmps39
  go_wp2_with fail
  go_fit HGR.out
  rintro ev w2 ⟨chv,nv,ns,rfl,hc2,hn2,hx2,hf1,hf2,hb2⟩
  have hnl:ns.length = L.length:=(told_len hx2.1).trans HLL.out.1
  obtain ⟨_,hta⟩:=HTA.out ns hx2
  have hto:=HTO.out ns hx2
  have htl:=HTL.out ns hx2.2
  have hbe:=HBE.out ns hx2
  have hcl:=HLL.out.2
  obtain ⟨a1,c1,rfl,ha1⟩:=IRow_slice hc2
  obtain ⟨b1,d1,rfl,hb1⟩:=hn2.slice
  rw [HHE.out]
  rw [hcl] at hc2 hf1 hf2 ⊢
  rw [hnl] at hn2 hf2 ⊢
  obtain ⟨w3,hw3⟩:∃ w3,w3 = w2.alloc (.cells #[.bool (decide (0 < L.length)),.int .i64 (entrL gn.lev).1,.slice a1 L.length c1,.slice b1 L.length d1] 83):=⟨_,rfl⟩
  have hb3:Below w2.heap.size w2 w3:=hw3 ▸ (Below.refl _ _).alloc (Nat.le_refl _) _
  have hx3:w3.heap[w2.heap.size]? = some (.cells #[.bool (decide (0 < L.length)),.int .i64 (entrL gn.lev).1,.slice a1 L.length c1,.slice b1 L.length d1] 83 (0,0)):=by rw [hw3]; exact heap_alloc_new _ _
  have hQ3:QS w3 w2.heap.size (decide (0 < L.length)) (entrL gn.lev).1 (.slice a1 L.length c1) (.slice b1 L.length d1) gn.ch gn.lk ns:=⟨hx3,ownsRow_below hc2 hb3,hn2.below hb3⟩
  have h3:=(H.out.below hb2).below hb3
  have HQ:=hide (fun W (hW:Below w3.heap.size w3 W)=>hQ3.below hW)
  have HP:=hide (fun W (hW:Below w3.heap.size w3 W)=>h3.below hW)
  have HAP:Hid (∀ g,w.heap.size≤g→Apart W0 g bp bb bs bm br gn la lc nsv nmv L L):=fun g hg=>H.out.apart hg
  have HNL:=hide hnl
  have HCL:=hide hcl
  have HTN:=hide hta
  have HTK:=hide hto
  have HTT:=hide htl
  have HBS:=hide hbe
  have HX2:=hide hx2
  have HF1:=hide hf1
  have HF2:=hide hf2
  have HA1:=hide ha1
  have HB1:=hide hb1
  generalize hhd:decide (0 < L.length) = has at *
  have HDD:=hide hhd
  generalize hent:(entrL gn.lev).1 = ent at *
  clear hhd hent hnl hcl hta hto htl hbe hx2 hf1 hf2 ha1 hb1 hb2 hb3 hx3 hQ3 h3 hc2 hn2 HGR HHE HLL HTA HTO HTL HBE p0 hbp H
  go_upto_region 2 with fail
  rw [← hw3]
  clear hw3
  generalize w2.heap.size = bG at *
  go_cut [4] (fun c wx=>c = .bool true∧Below w3.heap.size w3 wx)
  case first =>
    as_aux_lemma =>
    have hP:=HP.out w3 (Below.refl _ _)
    have hQ:=HQ.out w3 (Below.refl _ _)
    have p1:=hP.p1
    have r6:=hP.ref.r6
    have x0:=cells_at hQ.blk 0 rfl
    have x2:=cells_at hQ.blk 2 rfl
    have x3:=cells_at hQ.blk 3 rfl
    simp only [List.getElem_toArray,List.getElem_cons_zero,List.getElem_cons_succ] at x0 x2 x3
    have HB0:Hid (∀ n,Below w3.heap.size w3 (w3.drewN n)):=fun n=>below_drewN (Below.refl _ _) _
    clear hP hQ
    cases has
    · have hd0:decide ((0:Int) < (L.length:Int)) = false:=decide_eq_false (by have:=of_decide_eq_false HDD.out; omega)
      go_quiet (fail)
      go_wp2_with fail
      go_meet
      exact ⟨by rw [HDD.out]; rfl,HB0.out _⟩
    · have hd0:decide ((0:Int) < (L.length:Int)) = true:=decide_eq_true (by have:=of_decide_eq_true HDD.out; omega)
      go_quiet (fail)
      go_wp2_with fail
      go_meet
      exact ⟨by rw [HDD.out],HB0.out _⟩
  case rest =>
  rename World=>w4
  obtain ⟨rfl,hb4⟩:=hcut
  have HB4:=hide hb4
  clear hb4
  go_wp2
  go_loopw [4,5,6,7] (fun ok bv iv _ wr=>∃ i:Nat,ok = .bool true∧bv = .int .i64 (bestTo ns i)∧iv = .int .i64 i∧i≤L.length∧Hid (Below w3.heap.size w3 wr)) (fun _ _ iv _ _=>L.length - (intOf iv).toNat)
  case atStart=>exact ⟨0,rfl,rfl,rfl,Nat.zero_le _,HB4.out⟩
  case round =>
    obtain ⟨i,rfl,rfl,rfl,hi,HB⟩:=hrel
    have hP:=HP.out wr HB.out
    have hQ:=HQ.out wr HB.out
    have x3:wr.cell? ⟨bG,3,none⟩ = some (.slice b1 L.length d1):=cells_at hQ.blk 3 rfl
    by_cases hlt:i < L.length
    · as_aux_lemma =>
      obtain ⟨gR,rfl⟩:=hP.ref.addr (by omega)
      have hln:i < ns.length:=by rw [HNL.out]; exact hlt
      obtain ⟨gN,rfl⟩:=HB1.out (by omega)
      have hN:NodesAt wr gn.lk (.slice (some ⟨gN,0,none⟩) ns.length d1) ns:=by rw [HNL.out]; exact hQ.nds
      obtain ⟨q0,q1,q2⟩:=hN.at hln
      obtain ⟨t1,t2⟩:=HTN.out i hln hlt
      have p1:=hP.p1
      have r6:=hP.ref.r6
      have e0:=ref_cell hP.ref.row hlt (j:=0) (by omega) rfl
      have e4:=ref_cell hP.ref.row hlt (j:=4) (by omega) rfl
      have hlv:=fun W (hW:Below wr.heap.size wr W)=>levelR' br cf L[i].draw W ((HP.out W (HB.out.trans (hW.mono HB.out.size))).ref.r2) ((HP.out W (HB.out.trans (hW.mono HB.out.size))).ref.r5) (HDW.out _ (List.getElem_mem hlt)) hcfk
      rw [← t2] at hlv
      rw [t1] at q0
      have ht10:=HTT.out _ (List.getElem_mem hln)
      have hbs:=bestTo_succ ns hln
      have hbb:=bestTo_bounds ns i HTT.out
      generalize bestTo ns i = bs0 at *
      generalize ns[i].t = t at *
      generalize ns[i].A = A at *
      generalize L[i].draw = dr at *
      simp only [Nat.add_zero] at e0
      generalize L[i].id = id at *
      have HLV:=hide hlv
      have HZ:=hide (fun W (hW:Below wr.heap.size wr W)=>And.intro (cell_below p1 hW) (And.intro (cell_below r6 hW) (cell_below e4 hW)))
      have HZ2:=hide (fun W (hW:Below wr.heap.size wr W)=>And.intro (cell_below x3 hW) (And.intro (cell_below q0 hW) (And.intro (cell_below q1 hW) (And.intro (cell_below q2 hW) (And.intro (cell_below p1 hW) (And.intro (cell_below r6 hW) (cell_below e0 hW)))))))
      have HBS1:=hide hbs
      clear hlv hP hQ hN t1 t2 hbs q0 q1 q2 e0
      go_upto_region 7 with fail
      go_region_held3 (fun wx=>wx.cell? ⟨bp,1,none⟩ = some (.pointer (some ⟨br,0,none⟩))∧wx.cell? ⟨br,6,none⟩ = some (.slice (some ⟨gR,0,none⟩) L.length lc)∧wx.cell? ⟨gR,i * 5 + 4,none⟩ = some (.int .u64 dr))
        ((refine HZ.out _ ?_; repeat (first | exact Below.refl _ _ | refine Below.drew ?_)))
        (first | (go_at_call 81; refine (HLV.out _ ?_).mono ?_; (repeat (first | exact Below.refl _ _ | refine Below.drew ?_)); rintro e5 w5 ⟨rfl,rfl⟩))
      obtain ⟨w5,hw5⟩:∃ w5,w5 = wr.drew:=⟨_,rfl⟩
      have hb5:Below wr.heap.size wr w5:=hw5 ▸ (Below.refl _ _).drew
      rw [← hw5]
      clear hw5 x3 p1 r6 e4
      obtain ⟨x3,q0,q1,q2,p1,r6,e0⟩:=HZ2.out w5 hb5
      have HB5:=hide hb5
      have ew:IntKind.i64.wrap ((t:Int) + 1) = (t:Int) + 1:=by rw [IntKind.wrap_i64]; omega
      clear hb5
      go_upto_region 8 with fail
      go_cut [4] (fun c wx=>c = .bool true∧Below wr.heap.size wr wx)
      case first =>
        go_quiet (fail)
        go_wp2_with fail
        go_meet
        exact ⟨rfl,below_drewN HB5.out _⟩
      case rest =>
        rename World=>w6
        obtain ⟨rfl,hb6⟩:=hcut
        have HB6:Hid (Below w3.heap.size w3 w6):=HB.out.trans (hb6.mono HB.out.size)
        clear hb6 x3 q0 q1 q2 p1 r6 e0
        by_cases hbt:bs0 < (t:Int)
        · have hd:decide (bs0 < (t:Int)) = true:=decide_eq_true hbt
          go_wp2
          exact ⟨⟨i + 1,rfl,by rw [HBS1.out,Int.max_eq_right (by omega)],by go_num,by omega,HB6.out⟩,by simp [intOf]; omega⟩
        · have hd:decide (bs0 < (t:Int)) = false:=decide_eq_false hbt
          go_wp2
          exact ⟨⟨i + 1,rfl,by rw [HBS1.out,Int.max_eq_left (by omega)],by go_num,by omega,HB6.out⟩,by simp [intOf]; omega⟩
    · obtain rfl:i = L.length:=by omega
      clear hlt hi hP hQ
      have x0:wr.cell? ⟨bG,0,none⟩ = some (.bool has):=cells_at (HQ.out wr HB.out).blk 0 rfl
      go_upto_if 129 with fail
      go_cut [4] (fun c wx=>c = .bool true∧Below w3.heap.size w3 wx)
      case first =>
        as_aux_lemma =>
        cases has
        · go_wp2_with fail
          go_meet
          exact ⟨rfl,HB.out⟩
        · have h0:0 < L.length:=of_decide_eq_true HDD.out
          obtain ⟨j,hj,hjb,hje,hjn⟩:=HBS.out (by rw [HNL.out]; exact h0)
          rw [HNL.out] at hjb
          obtain ⟨gN,rfl⟩:=HB1.out (by omega)
          have hN:∀ W,Below w3.heap.size w3 W→NodesAt W gn.lk (.slice (some ⟨gN,0,none⟩) ns.length d1) ns:=fun W hW=>by rw [HNL.out]; exact (HQ.out W hW).nds
          have HN:=hide hN
          have x1:wr.cell? ⟨bG,1,none⟩ = some (.int .i64 ent):=cells_at (HQ.out wr HB.out).blk 1 rfl
          have HJN:Hid (∀ k (hk:k < ns.length),k < j→(ns[k].t:Int) ≠ bestTo ns L.length):=fun k hk hkj=>by
            have:=hjn k hk hkj
            rw [HNL.out] at this
            exact this
          generalize bestTo ns L.length = best at *
          have hj60:j < L.length:=by rw [← HNL.out]; exact hj
          have HJE:=hide hje
          have HJB:=hide hjb
          have HJ:=hide hj
          clear hN hjn hje hjb
          go_wp2
          go_loop [8] (fun iv=>∃ k:Nat,iv = .int .i64 k∧k≤j) (fun iv=>j - (intOf iv).toNat)
          case atStart=>exact ⟨0,rfl,Nat.zero_le _⟩
          case round =>
            obtain ⟨k,rfl,hk⟩:=hrel
            have hkn:k < ns.length:=Nat.lt_of_le_of_lt hk HJ.out
            obtain ⟨y0,y1,_⟩:=(HN.out wr HB.out).at hkn
            by_cases hkj:k < j
            · have hne:=HJN.out k hkn hkj
              have hkL:k < L.length:=by omega
              generalize (ns[k].t:Int) = tk at y1 hne
              have hd:(tk != best) = true:=by simpa using hne
              have hd2:(tk == best) = false:=by simpa using hne
              clear y0
              go_wp2
              exact ⟨⟨k + 1,by go_num,by omega⟩,by simp [intOf]; omega⟩
            · obtain rfl:k = j:=by omega
              rw [HJE.out] at y0
              rw [HJB.out] at y1
              go_upto_region 15 with fail
              go_quiet (fail)
              go_wp2_with fail
              go_meet
              exact ⟨rfl,below_drewN HB.out _⟩
      case rest =>
        rename World=>w7
        obtain ⟨rfl,hb7⟩:=hcut
        have HB7:=hide hb7
        clear hb7 x0 x3 HB HBS HTN HB4
        have hP:=HP.out w7 HB7.out
        have hQ:=HQ.out w7 HB7.out
        have p1:=hP.p1
        have r2:=hP.ref.r2
        have x0:w7.cell? ⟨bG,0,none⟩ = some (.bool has):=cells_at hQ.blk 0 rfl
        have x1:w7.cell? ⟨bG,1,none⟩ = some (.int .i64 ent):=cells_at hQ.blk 1 rfl
        have x2:w7.cell? ⟨bG,2,none⟩ = some (.slice a1 L.length c1):=cells_at hQ.blk 2 rfl
        have x3:w7.cell? ⟨bG,3,none⟩ = some (.slice b1 L.length d1):=cells_at hQ.blk 3 rfl
        have HNW:Hid (∀ W,Below w3.heap.size w3 W→NodesAt W gn.lk (.slice b1 ns.length d1) ns):=fun W hW=>by rw [HNL.out]; exact (HQ.out W hW).nds
        have hl82:=fun W (hW:Below w3.heap.size w3 W)=>linked82 has ent a1 L.length c1 b1 d1 cf.links gn.lk ns W (HNW.out W hW) HTK.out (by rw [HNL.out]; exact hn60) HTT.out ⟨by have:=hcfk.l2; omega,by have:=hcfk.l8; omega⟩
        have hc83:=fun W (hW:Below w3.heap.size w3 W)=>chained83 has ent a1 c1 b1 d1 gn.ch gn.lk ns W (by rw [HNL.out]; exact (HQ.out W hW).chr) (HNW.out W hW) (fun n hn=>(HCM.out n.id).2 (levOf_map (HX2.out.2 n hn))) (by rw [HNL.out]; exact HCL.out) (by rw [HNL.out]; exact hn60)
        rw [HNL.out] at hl82 hc83
        have HL82:=hide hl82
        have HC83:=hide hc83
        have HZ:=hide (fun W (hW:Below w7.heap.size w7 W)=>And.intro (cell_below x0 hW) (And.intro (cell_below x1 hW) (And.intro (cell_below x2 hW) (And.intro (cell_below x3 hW) (And.intro (cell_below p1 hW) (cell_below r2 hW))))))
        have HBW:=hide (fun W (hW:Below w7.heap.size w7 W)=>HB7.out.trans (hW.mono HB7.out.size))
        clear hl82 hc83 hP hQ
        go_upto_region 17 with fail
        go_cut [4] (fun c wx=>c = .bool true∧Below w3.heap.size w3 wx)
        case first =>
          as_aux_lemma =>
          go_region_held3 (fun wx=>wx.cell? ⟨bG,0,none⟩ = some (.bool has)∧wx.cell? ⟨bG,1,none⟩ = some (.int .i64 ent)∧wx.cell? ⟨bG,2,none⟩ = some (.slice a1 L.length c1)∧wx.cell? ⟨bG,3,none⟩ = some (.slice b1 L.length d1)∧wx.cell? ⟨bp,1,none⟩ = some (.pointer (some ⟨br,0,none⟩))∧wx.cell? ⟨br,2,none⟩ = some (.int .i64 cf.links))
            ((refine HZ.out _ ?_; repeat (first | with_reducible exact hb9 | with_reducible exact hb8 | exact Below.refl _ _ | refine Below.drew ?_)))
            (first
              | (go_at_call 82; refine (HL82.out _ (HBW.out _ ?_)).mono ?_; (repeat (first | exact Below.refl _ _ | refine Below.drew ?_)); rintro e8 w8 ⟨rfl,hb8d⟩; have hb8:Below w7.heap.size w7 w8:=(by first | exact hb8d | exact Below.undrew hb8d))
              | (go_at_call 83; refine (HC83.out _ (HBW.out _ ?_)).mono ?_; (repeat (first | with_reducible exact hb8 | refine Below.drew ?_)); rintro e9 w9 ⟨rfl,hb9d⟩; have hb9:Below w7.heap.size w7 w9:=hb8.trans ((by first | exact hb9d | exact Below.undrew hb9d:Below w8.heap.size w8 w9).mono hb8.size)))
          all_goals
            go_wp2_with fail
            go_meet
            exact ⟨rfl,HBW.out _ hb9⟩
        case rest =>
          rename World=>w10
          obtain ⟨rfl,hb10⟩:=hcut
          have HB10:=hide hb10
          clear hb10 x0 x1 x2 x3 p1 r2 HZ HBW HB7 HL82 HC83
          have hP:=HP.out w10 HB10.out
          have hQ:=HQ.out w10 HB10.out
          obtain ⟨⟨pt,hpt⟩,h5⟩:=hP.p5
          obtain ⟨⟨lst,hls⟩,h4⟩:=hP.p4
          simp only at h5 h4
          have HPO:Hid (pt = true→(∃ t,levOf gn.lev lst = some t)∧(1 < L.length→gn.lk (lst,0) ≠ [])):=fun e=>by
            have h1:=HLK.out.2.2.2 (hpt ▸ e)
            rw [← hls] at h1
            rw [← HNL.out,told_len HX2.out.1]
            exact h1
          have x0:w10.cell? ⟨bG,0,none⟩ = some (.bool has):=cells_at hQ.blk 0 rfl
          have x1:w10.cell? ⟨bG,1,none⟩ = some (.int .i64 ent):=cells_at hQ.blk 1 rfl
          have x2:w10.cell? ⟨bG,2,none⟩ = some (.slice a1 L.length c1):=cells_at hQ.blk 2 rfl
          have x3:w10.cell? ⟨bG,3,none⟩ = some (.slice b1 L.length d1):=cells_at hQ.blk 3 rfl
          clear hP hQ hpt hls
          obtain ⟨cb,hcb⟩:∃ cb,cb = (pt && decide (1 < L.length)):=⟨_,rfl⟩
          have HCB:=hide hcb
          clear hcb
          go_upto_region 18 with fail
          go_cut [176] (fun c wx=>c = .bool cb∧w10 = wx)
          case first =>
            as_aux_lemma =>
            cases pt
            · go_wp2_with fail
              go_meet
              exact ⟨by rw [HCB.out]; rfl,rfl⟩
            · by_cases hone:1 < L.length
              · have hd1:decide ((1:Int) < (L.length:Int)) = true:=decide_eq_true (by omega)
                go_wp2_with fail
                go_meet
                exact ⟨by rw [HCB.out,decide_eq_true hone]; rfl,rfl⟩
              · have hd1:decide ((1:Int) < (L.length:Int)) = false:=decide_eq_false (by omega)
                go_wp2_with fail
                go_meet
                exact ⟨by rw [HCB.out,decide_eq_false hone]; rfl,rfl⟩
          case rest =>
          obtain ⟨rfl,rfl⟩:=hcut
          have HC2:Hid (cb = true→pt = true∧1 < L.length):=fun e=>by
            have:=HCB.out
            rw [e] at this
            have h2:=this.symm
            rw [Bool.and_eq_true,decide_eq_true_eq] at h2
            exact h2
          clear HCB
          go_upto_if 176 with fail
          go_cut [4] (fun c wx=>c = .bool true∧Below w3.heap.size w3 wx)
          case first =>
            as_aux_lemma =>
            cases cb
            · go_wp2_with fail
              go_meet
              exact ⟨rfl,HB10.out⟩
            · obtain ⟨hpt1,hone⟩:=HC2.out rfl
              obtain ⟨hex,hne⟩:=HPO.out hpt1
              obtain ⟨o,ho,hoid⟩:=told_last HX2.out hex
              have hpl:=fun W (hW:Below w3.heap.size w3 W)=>place84 has ent a1 L.length c1 b1 d1 gn.lk ns o ho W (HNW.out W hW) HTK.out.nod (by rw [HNL.out]; exact hn60)
              rw [HNL.out,hoid] at hpl
              obtain ⟨gN,rfl⟩:=HB1.out (by omega)
              obtain ⟨_,_,n2⟩:=(HNW.out w10 HB10.out).at ho
              have hlo:=(HNW.out w10 HB10.out).lks _ (List.getElem_mem ho)
              have jl2:0 < (nodeL gn.lk ns[o].id (ns[o].t + 1)).length:=by rw [nodeL_len]; omega
              have l1:=hlo.at jl2
              have l2:=hlo.row 0 jl2
              rw [nodeL_at gn.lk _ (show 0 < ns[o].t + 1 by omega),hoid] at l2
              have hpos:0 < (gn.lk (lst,((0:Nat):Int))).length:=List.length_pos_iff.2 (hne hone)
              have hoL:o < L.length:=by rw [← HNL.out]; exact ho
              generalize gn.lk (lst,((0:Nat):Int)) = ll at l2 hpos
              generalize ns[o].t = ot at *
              generalize ns[o].A = oA at *
              generalize ns[o].us.getD 0 (.slice none 0 0) = ov at l1 l2
              obtain ⟨ob,oc,rfl,_⟩:=IRow_slice l2
              have HPL:=hide hpl
              have HZ:=hide (fun W (hW:Below w10.heap.size w10 W)=>And.intro (cell_below x0 hW) (And.intro (cell_below x1 hW) (And.intro (cell_below x2 hW) (And.intro (cell_below x3 hW) (cell_below h4 hW)))))
              have HZ2:=hide (fun W (hW:Below w10.heap.size w10 W)=>And.intro (cell_below x3 hW) (And.intro (cell_below n2 hW) (cell_below l1 hW)))
              have HBW:=hide (fun W (hW:Below w10.heap.size w10 W)=>HB10.out.trans (hW.mono HB10.out.size))
              have hd1:decide ((1:Int) < (L.length:Int)) = true:=decide_eq_true (by omega)
              have hd2:decide ((0:Int) < (ll.length:Int)) = true:=decide_eq_true (by omega)
              have hd3:decide ((0:Int)≤(o:Int)) = true:=decide_eq_true (by omega)
              clear hpl hlo jl2 l2 hex hne hoid
              go_upto_region 19 with fail
              go_region_held3 (fun wx=>wx.cell? ⟨bG,0,none⟩ = some (.bool has)∧wx.cell? ⟨bG,1,none⟩ = some (.int .i64 ent)∧wx.cell? ⟨bG,2,none⟩ = some (.slice a1 L.length c1)∧wx.cell? ⟨bG,3,none⟩ = some (.slice (some ⟨gN,0,none⟩) L.length d1)∧wx.cell? ⟨bp,4,none⟩ = some (.int .i64 lst))
                ((refine HZ.out _ ?_; repeat (first | with_reducible exact hb11 | exact Below.refl _ _ | refine Below.drew ?_)))
                (first | (go_at_call 84; refine (HPL.out _ (HBW.out _ ?_)).mono ?_; (repeat (first | exact Below.refl _ _ | refine Below.drew ?_)); rintro e11 w11 ⟨rfl,hb11d⟩; have hb11:Below w10.heap.size w10 w11:=(by first | exact hb11d | exact Below.undrew hb11d)))
              obtain ⟨z3,z2,z1⟩:=HZ2.out w11 hb11
              have HB11:=hide hb11
              clear hb11 hb11d x0 x1 x2 x3 h4 n2 l1
              go_wp2_with fail
              go_meet
              exact ⟨rfl,HBW.out _ HB11.out⟩
          case rest =>
            rename World=>w12
            obtain ⟨rfl,hb12⟩:=hcut
            as_aux_lemma =>
            have hQ:=HQ.out w12 hb12
            have y0:w12.cell? ⟨bG,0,none⟩ = some (.bool has):=cells_at hQ.blk 0 rfl
            have y1:w12.cell? ⟨bG,1,none⟩ = some (.int .i64 ent):=cells_at hQ.blk 1 rfl
            have y2:w12.cell? ⟨bG,2,none⟩ = some (.slice a1 L.length c1):=cells_at hQ.blk 2 rfl
            have y3:w12.cell? ⟨bG,3,none⟩ = some (.slice b1 L.length d1):=cells_at hQ.blk 3 rfl
            have HBW:=hide (fun W (hW:Below w12.heap.size w12 W)=>hb12.trans (hW.mono hb12.size))
            have HGB:=hide (fun W (hW:Below w3.heap.size w3 W)=>graph85 W0 W bp bb bs bm br cf gn la lc nsv nmv nn L L has ent (.slice a1 L.length c1) (.slice b1 L.length d1) gn.ch gn.lk ns (HP.out W hW) (HQ.out W hW).chr (HQ.out W hW).nds (fun g hg=>HAP.out g (HF1.out g hg)) (fun k hk=>HAP.out k (by
              rcases hk with e | ⟨n,hn,e | ⟨u,hu,e⟩⟩
              · exact HF2.out.1 k e
              · rw [← e]; exact HF2.out.2.A n hn
              · exact (HF2.out.2.us n hn u hu k e).1)) (fun n hn u hu g hg=>(HF2.out.2.us n hn u hu g hg).2) HF2.out.2.Adj HF2.out.2.dj (by rw [HCL.out]; exact hn60) (by rw [HNL.out]; exact hn60) HTT.out HSH.out HNN.out)
            have hbpl:=(HP.out w12 hb12).book.lt
            clear hQ hb12 x0 x1 x2 x3 h4 h5 HPO
            go_upto_region 21 with fail
            go_region_law (first | (go_simp; go_at_call 85; refine (HGB.out _ (HBW.out _ ?_)).mono ?_; (repeat (first | exact Below.refl _ _ | refine Below.drew ?_)); rintro e13 w13 ⟨rfl,ex',nsv',nmv',nn',hn1,hn2,hp13,hz13⟩))
            all_goals
              have HP13:=hide hp13
              have HZ13:=hide hz13
              clear hp13 hz13 y0 y1 y2 y3
              go_wp2
              go_ret
              exact ⟨rfl,la,lc,nsv',nmv',nn',L,_,hn2,HP13.out,HLK.out.mono hn1,HZ13.out⟩
end
section
open Go.RowKit Go.Maps

theorem StepOk.toG {W0 w':World} {bp bb bs bm br:Nat} {cf:Cf} {x0:Bks} {nn:Nat} (h:StepOk W0 bp bb bs bm br cf x0 nn w'):StepG W0 bp bb bs bm br cf x0 nn w':=by
  obtain ⟨la,lc,nsv,nmv,nn',L,gn,h1,h2,h3,h4⟩:=h
  exact ⟨la,lc,nsv,nmv,nn',L,gn,by omega,h2,h3,h4⟩

set_option maxHeartbeats 2000000 in
set_option maxRecDepth 20000 in
theorem step10_graph (W0 w:World) (bp bb bs bm br:Nat) (cf:Cf) (gn:Net) (la:Option Addr) (lc:Nat) (nsv:BV) (nmv:Value) (nn:Nat) (L:List Ent) (id kk be t0 t1 draw:Int) (pn:Nat) (pa:Option Addr) (pc:Nat) (fa:Option Addr) (fn fc:Nat)
    (h:PairAt W0 w bp bb bs bm br cf gn la lc nsv nmv nn L L) (hlk:Lk gn nn) (hnn:(nn + 4000) * 24≤140737488355328) :
    Calls Tryz.prog 15 #[.pointer (some ⟨bp,0,none⟩),.agg #[.int .i64 6,.int .i64 id,.int .i64 kk,.int .i64 be,.slice pa pn pc,.int .i64 t0,.int .i64 t1,.int .u64 draw,.slice fa fn fc]] w fun ev w'=>ev = .returned (.bool true)∧StepG W0 bp bb bs bm br cf gn.ex nn w':=by
  have H:=hide h
  have HNN:=hide hnn
  clear h hnn
  go_enter Tryz.func15,Tryz.ntmps15
  go_wp2_with fail
  refine (graphs39 W0 _ bp bb bs bm br cf gn la lc nsv nmv nn L (H.out.alloc _) hlk HNN.out).mono ?_
  rintro ev w1 ⟨rfl,hs⟩
  go_wp2
  go_ret
  exact ⟨rfl,hs⟩

set_option maxHeartbeats 2000000 in
set_option maxRecDepth 20000 in
theorem step10_looks (W0 w:World) (bp bb bs bm br:Nat) (cf:Cf) (gn:Net) (la:Option Addr) (lc:Nat) (nsv:BV) (nmv:Value) (nn:Nat) (L:List Ent) (id kk be t0 t1 draw:Int) (pn:Nat) (pa:Option Addr) (pc:Nat) (fa:Option Addr) (fn fc:Nat)
    (h:PairAt W0 w bp bb bs bm br cf gn la lc nsv nmv nn L L) (hlk:Lk gn nn) :
    Calls Tryz.prog 15 #[.pointer (some ⟨bp,0,none⟩),.agg #[.int .i64 7,.int .i64 id,.int .i64 kk,.int .i64 be,.slice pa pn pc,.int .i64 t0,.int .i64 t1,.int .u64 draw,.slice fa fn fc]] w fun ev w'=>ev = .returned (.bool true)∧StepG W0 bp bb bs bm br cf gn.ex nn w':=by
  obtain ⟨w1,hw1⟩:∃ w1,w1 = w.alloc (.cells #[.int .i64 7,.int .i64 id,.int .i64 kk,.int .i64 be,.slice pa pn pc,.int .i64 t0,.int .i64 t1,.int .u64 draw,.slice fa fn fc] 49):=⟨_,rfl⟩
  have h1:PairAt W0 w1 bp bb bs bm br cf gn la lc nsv nmv nn L L:=hw1 ▸ h.alloc _
  have p0:=h.p0
  have q2:=h1.p2
  have q3:=h1.p3
  have q0:=h1.p0
  have hbp:=h.book.lt
  have hbp1:=h1.book.lt
  have b8:=h1.base.b8
  rw [← hlk.1] at b8
  have HLO:=hide (looks31 bb gn.lows w1 b8)
  have H1:=hide h1
  clear h h1
  go_enter Tryz.func15,Tryz.ntmps15
  go_wp2_with fail
  rw [← hw1]
  clear hw1
  go_fit HLO.out
  rintro ev' w' ⟨rfl,rfl⟩
  have hd:decide (gn.lows≤gn.lows) = true:=decide_eq_true (Int.le_refl _)
  generalize gn.lows = lo at *
  go_wp2
  go_ret
  exact ⟨rfl,_,_,_,_,_,_,_,Nat.le_add_right _ _,H1.out,hlk,SameZ.refl _⟩

theorem step10_all (W0 w:World) (bp bb bs bm br:Nat) (cf:Cf) (gn:Net) (la:Option Addr) (lc:Nat) (nsv:BV) (nmv:Value) (nn:Nat) (L:List Ent) (kd id kk be t0 t1 draw:Int) (xs:List Int) (pa:Option Addr) (pc:Nat) (fa:Option Addr) (fn fc:Nat) (F:List (List Cnd))
    (h:PairAt W0 w bp bb bs bm br cf gn la lc nsv nmv nn L L) (hlk:Lk gn nn) (hv:IntsAt W0 (.slice pa xs.length pc) xs) (hid:I64 id) (hn:(xs.length + 6) * 8≤140737488355328) (hnn:(nn + 4000) * 24≤140737488355328) (hdr:0≤draw∧draw < 18446744073709551616) (hf:FiltAt W0 (.slice fa fn fc) F) (hfn:(F.length + 1) * 24≤140737488355328) (hfm:∀ c ∈ F,(c.length + 1) * 24≤140737488355328) :
    Calls Tryz.prog 15 #[.pointer (some ⟨bp,0,none⟩),.agg #[.int .i64 kd,.int .i64 id,.int .i64 kk,.int .i64 be,.slice pa xs.length pc,.int .i64 t0,.int .i64 t1,.int .u64 draw,.slice fa fn fc]] w fun ev w'=>ev = .returned (.bool true)∧StepG W0 bp bb bs bm br cf gn.ex nn w':=by
  have hnn4:(nn + 4) * 24≤140737488355328:=Nat.le_trans (Nat.mul_le_mul_right 24 (by omega)) hnn
  by_cases h6:kd = 6
  · subst h6; exact step10_graph W0 w bp bb bs bm br cf gn la lc nsv nmv nn L id kk be t0 t1 draw xs.length pa pc fa fn fc h hlk hnn
  by_cases h7:kd = 7
  · subst h7; exact step10_looks W0 w bp bb bs bm br cf gn la lc nsv nmv nn L id kk be t0 t1 draw xs.length pa pc fa fn fc h hlk
  by_cases h5:kd≤5
  · exact (step10_five W0 w bp bb bs bm br cf gn la lc nsv nmv nn L kd id kk be t0 t1 draw xs pa pc fa fn fc F h hlk hv hid hn hnn4 hdr hf hfn hfm h5).mono fun ev w' ⟨e,hs⟩=>⟨e,hs.toG⟩
  · exact (step10_else W0 w bp bb bs bm br cf gn la lc nsv nmv nn L kd id kk be t0 t1 draw xs.length pa pc fa fn fc h hlk (by simp; omega) (by simp; omega) (by simp; omega) (by simp; omega) (by simp; omega) (by simp; omega) (by simp; omega)).mono fun ev w' ⟨e,hs⟩=>⟨e,hs.toG⟩
end
section
open Go.ChangeShapes Go.WideShapes Go.RowKit

theorem bulk_pos {H:Type} (d:DataW H):1≤Rows.uptoBulk d:=by
  cases d with
  | lit l=>cases l <;> simp [Rows.uptoBulk]
  | _=>simp [Rows.uptoBulk]
theorem bulk_all {H:Type}:∀ l:List (DataW H),l.length≤Rows.uptoBulkAll l
  | []=>Nat.zero_le _
  | d :: r=>by
    have:=bulk_all r
    have:=bulk_pos d
    simp only [Rows.uptoBulkAll,List.length_cons]
    omega
theorem bulk_mem {H:Type} {d:DataW H}:∀ {l:List (DataW H)},d ∈ l→Rows.uptoBulk d≤Rows.uptoBulkAll l
  | x :: r,h=>by
    simp only [Rows.uptoBulkAll]
    rcases List.mem_cons.1 h with rfl | h
    · omega
    · have:=bulk_mem h
      omega
theorem script_bulk {H:Type} {enc:TypeId × Value→H} {W:World} {hd:Bool} {sa:Option Addr} {len cap:Nat} {d:DataW H} {p:List MemPlace} (h:DataW.Trod enc Tryz.prog W 0 (fun _=>true) hd 24 (.slice sa len cap) d p):len≤Rows.uptoBulk d:=by
  obtain ⟨fuel,hf⟩:=h
  have hf':DataW.trod enc Tryz.prog W 0 (fun _=>true) hd fuel 24 [.slice sa len cap] = some (d,p):=hf
  rcases Deep.open_slice Tryz.underlying24 hf' with ⟨e,_⟩ | ⟨a,len',cap',m,n,D,Pl,e,_,hl,_,hm,hx,hi⟩
  · simp at e
    omega
  · simp at e hm
    obtain ⟨rfl,rfl,rfl⟩:=e
    have hm':=hm.symm
    subst hm'
    simp only [Prod.mk.injEq] at hx
    obtain ⟨rfl,_⟩:=hx
    have:=bulk_all ((List.range len).map D)
    simp only [List.length_map,List.length_range] at this
    simp only [Rows.uptoBulk]
    omega
end
end Go.Proofs.YtpkiefjanmfgfaaGreatDoor
