import Derived.Test.YtpkiefjanmfgfaaGreatDoorAll25
import Derived.Test.YtpkiefjanmfgfaaGreatDoorAll26
namespace Go.Proofs.YtpkiefjanmfgfaaGreatDoor
section
open Go.RowKit Go.Maps

section
variable {W0 w w':World} {bp bb bs bm br:Nat} {cf:Cf} {gn:Net} {la:Option Addr} {lc:Nat} {nsv:BV} {nmv:Value} {nn:Nat} {L M:List Ent} {lv lv' v1 v2:Value} {n':Nat}
theorem ap_row {o E e0 sz0:Nat} {S1 S2 S3 S4:Value} {a b:Nat} (h:PairAt W0 w bp bb bs bm br cf gn la lc nsv nmv nn L M) (hA:∀ g,lv.ownBlock = some g→Apart W0 g bp bb bs bm br gn la lc nsv nmv L M) (hs:ApS o E e0 sz0 w bp lv S1 S2 w' lv' n' S3 a S4 b)
    {e sz n:Nat} {v:Value} {xs:List Value} (hr:w.ownsRow 0 e sz v n xs) (h1:e ≠ 41) (h2:∀ k,v.ownBlock = some k→gn.ex.own k) (h3:∀ g,v.ownBlock = some g→S1.ownBlock ≠ some g) (h4:∀ g,v.ownBlock = some g→S2.ownBlock ≠ some g):w'.ownsRow 0 e sz v n xs:=by
  obtain ⟨cp,hcp⟩:=h.book.typ
  refine ownsRow_kept hr hs.kept fun g hg hx=>?_
  obtain ⟨c,hc⟩:=ownsRow_obj hr hg
  rcases hx with q | q | q | q
  · exact ne_of_elem hc hcp h1 q
  · exact (hA g q).x (h2 g hg)
  · exact h3 g hg q
  · exact h4 g hg q

theorem PairAt.ap14 {A B:Nat→Prop} {rs:List Rc} (h:PairAt W0 w bp bb bs bm br cf gn la lc nsv nmv nn L M) (hA:∀ g,lv.ownBlock = some g→Apart W0 g bp bb bs bm br gn la lc nsv nmv L M) (hs:ApS 14 31 32 1 w bp lv gn.ex.lsv gn.ex.lmv w' lv' n' v1 (gn.ex.nl + 4) v2 (gn.ex.nl + 4)) (hx:gn.ex.nl + 4≤nn) (hr:RecX 31 QL w bp A B w' v1 v2 (gn.ex.nl + 4) gn.ex.rl rs) (hA2:∀ k,A k→Apart W0 k bp bb bs bm br gn la lc nsv nmv L M) :
    PairAt W0 w' bp bb bs bm br cf { gn with ex:={ gn.ex with lsv:=v1,lmv:=v2,nl:=gn.ex.nl + 4,O:=fun k=>gn.ex.O k ∨ B k,OW:=fun k=>w'.heap[k]?,rl:=gn.ex.rl ++ rs } } la lc nsv nmv nn L M∧Stays W0 w w' bp bb bs bm br gn { gn with ex:={ gn.ex with lsv:=v1,lmv:=v2,nl:=gn.ex.nl + 4,O:=fun k=>gn.ex.O k ∨ B k,OW:=fun k=>w'.heap[k]?,rl:=gn.ex.rl ++ rs } } la lc nsv nmv nsv nmv L M (fun k=>lv.ownBlock = some k) A:=by
  obtain ⟨y1,q1⟩:=h.x.hs
  obtain ⟨y2,q2⟩:=h.x.hm
  obtain ⟨y3,q3⟩:=h.x.gs
  obtain ⟨y4,q4⟩:=h.x.gm
  obtain ⟨y5,q5⟩:=h.x.ls
  obtain ⟨y6,q6⟩:=h.x.lm
  have x1:∀ k,gn.ex.lsv.ownBlock = some k→gn.ex.own k:=fun k e=>.inr (.inr (.inr (.inr (.inl e))))
  have x2:∀ k,gn.ex.lmv.ownBlock = some k→gn.ex.own k:=fun k e=>.inr (.inr (.inr (.inr (.inr e))))
  have hxa:∀ k,({ gn.ex with lsv:=v1,lmv:=v2,nl:=gn.ex.nl + 4,O:=fun k=>gn.ex.O k ∨ B k,OW:=fun k=>w'.heap[k]?,rl:=gn.ex.rl ++ rs }:Bks).own k→gn.ex.own k ∨ w.heap.size≤k:=by
    rintro k (e | e | e | e | e | e)
    · exact .inl (.inl e)
    · exact .inl (.inr (.inl e))
    · exact .inl (.inr (.inr (.inl e)))
    · exact .inl (.inr (.inr (.inr (.inl e))))
    · exact (hs.ls k e).imp (x1 k) (fun e=>e)
    · exact (hs.lm k e).imp (x2 k) (fun e=>e)
  have row:∀ {e sz n:Nat} {v:Value} {xs:List Value},w.ownsRow 0 e sz v n xs→e ≠ 41→(∀ k,v.ownBlock = some k→gn.ex.own k)→(∀ g,v.ownBlock = some g→gn.ex.lsv.ownBlock ≠ some g)→(∀ g,v.ownBlock = some g→gn.ex.lmv.ownBlock ≠ some g)→w'.ownsRow 0 e sz v n xs:=fun hr h1 h2 h3 h4=>ap_row h hA hs hr h1 h2 h3 h4
  have mlt:∀ {g:Nat},gn.ex.own g→¬ w.heap.size≤g:=fun e=>by have:=h.x.lt e; omega
  have hX:XAt w' bp { gn.ex with lsv:=v1,lmv:=v2,nl:=gn.ex.nl + 4,O:=fun k=>gn.ex.O k ∨ B k,OW:=fun k=>w'.heap[k]?,rl:=gn.ex.rl ++ rs }:=by
    refine ⟨hs.low 10 _ (by omega) h.x.c10,hs.low 11 _ (by omega) h.x.c11,hs.low 12 _ (by omega) h.x.c12,hs.low 13 _ (by omega) h.x.c13,hs.c8,hs.c9,⟨y1,row q1 (by decide) (fun k e=>.inl e) (ty_ne q1 q5 (by decide)) (ty_ne q1 q6 (by decide))⟩,⟨y2,row q2 (by decide) (fun k e=>.inr (.inl e)) (ty_ne q2 q5 (by decide)) (fun g e=>(h.x.dj.1 g e).2)⟩,⟨y3,row q3 (by decide) (fun k e=>.inr (.inr (.inl e))) (ty_ne q3 q5 (by decide)) (ty_ne q3 q6 (by decide))⟩,⟨y4,row q4 (by decide) (fun k e=>.inr (.inr (.inr (.inl e)))) (ty_ne q4 q5 (by decide)) (fun g e=>h.x.dj.2 g e)⟩,⟨⟨_,rfl⟩,hr.bks⟩,⟨⟨_,rfl⟩,hr.bkm⟩,fun g e=>⟨(h.x.dj.1 g e).1,fun e2=>?_⟩,fun g e e2=>?_⟩
    · exact (hs.lm g e2).elim (h.x.dj.1 g e).2 (mlt (.inr (.inl e)))
    · exact (hs.lm g e2).elim (h.x.dj.2 g e) (mlt (.inr (.inr (.inr (.inl e)))))
  have hS:∀ k,(k = bp ∨ lv.ownBlock = some k ∨ gn.ex.lsv.ownBlock = some k ∨ gn.ex.lmv.ownBlock = some k)→k < w.heap.size→k = bp ∨ Apt W0 k bp bb bs bm br gn la lc nsv nmv L M:=by
    rintro k (e | e | e | e) _
    · exact .inl e
    · exact .inr (hA k e).toApt
    · exact .inr (h.xa k (x1 k e))
    · exact .inr (h.xa k (x2 k e))
  have h6:=h.book.c6
  have h7:=h.book.c7
  have hn:=h.xn
  have hB:∀ k,B k→k < w'.heap.size∧(Apt W0 k bp bb bs bm br gn la lc nsv nmv L M ∨ w.heap.size≤k)∧¬ ({ gn.ex with lsv:=v1,lmv:=v2,nl:=gn.ex.nl + 4,O:=fun k=>gn.ex.O k ∨ B k,OW:=fun k=>w'.heap[k]?,rl:=gn.ex.rl ++ rs }:Bks).own k:=fun k hb=>by
    obtain ⟨b1,b2,b3,b4⟩:=hr.lt k hb
    have no:gn.ex.own k→False:=fun e=>b4.elim (fun q=>(hA2 k q).x e) (mlt e)
    refine ⟨b1,b4.imp (fun e=>(hA2 k e).toApt) (fun e=>e),?_⟩
    rintro (e | e | e | e | e | e)
    · exact no (.inl e)
    · exact no (.inr (.inl e))
    · exact no (.inr (.inr (.inl e)))
    · exact no (.inr (.inr (.inr (.inl e))))
    · exact b2 e
    · exact b3 e
  refine ⟨h.exTurned (B:=B) hs.kept hS hs.typ (fun o v ho _ _ hv=>hs.low o v (by omega) hv) (h6.imp fun b hb=>hs.low 6 _ (by omega) hb) (h7.imp fun b hb=>hs.low 7 _ (by omega) hb) hX hxa ⟨hn.1,hn.2.1,hx⟩ ⟨rfl,rfl,rfl⟩ (fun _=>Iff.rfl) (fun _ _=>rfl) hB (fun hg=>⟨h.o.rh.grow hg,h.o.rg.grow hg,(h.o.rl.grow hg).app (fun W hW=>hr.rd W fun k hb=>hW k (.inr hb))⟩),Stays.kept (B:=B) hs.kept ?_ hxa ⟨rfl,rfl,rfl⟩ (fun _ e=>e) (fun k e=>(hr.lt k e).2.2.2)⟩
  rintro k (e | e | e | e) _
  · exact .inr (fun q=>q.p e)
  · exact .inl e
  · exact .inr (fun q=>q.x (x1 k e))
  · exact .inr (fun q=>q.x (x2 k e))

theorem PairAt.ap12 {A B:Nat→Prop} {rs:List Rc} (h:PairAt W0 w bp bb bs bm br cf gn la lc nsv nmv nn L M) (hA:∀ g,lv.ownBlock = some g→Apart W0 g bp bb bs bm br gn la lc nsv nmv L M) (hs:ApS 12 81 95 3 w bp lv gn.ex.gsv gn.ex.gmv w' lv' n' v1 (gn.ex.ng + 4) v2 (gn.ex.ng + 4)) (hx:gn.ex.ng + 4≤nn) (hr:RecX 81 QG w bp A B w' v1 v2 (gn.ex.ng + 4) gn.ex.rg rs) (hA2:∀ k,A k→Apart W0 k bp bb bs bm br gn la lc nsv nmv L M) :
    PairAt W0 w' bp bb bs bm br cf { gn with ex:={ gn.ex with gsv:=v1,gmv:=v2,ng:=gn.ex.ng + 4,O:=fun k=>gn.ex.O k ∨ B k,OW:=fun k=>w'.heap[k]?,rg:=gn.ex.rg ++ rs } } la lc nsv nmv nn L M∧Stays W0 w w' bp bb bs bm br gn { gn with ex:={ gn.ex with gsv:=v1,gmv:=v2,ng:=gn.ex.ng + 4,O:=fun k=>gn.ex.O k ∨ B k,OW:=fun k=>w'.heap[k]?,rg:=gn.ex.rg ++ rs } } la lc nsv nmv nsv nmv L M (fun k=>lv.ownBlock = some k) A:=by
  obtain ⟨y1,q1⟩:=h.x.hs
  obtain ⟨y2,q2⟩:=h.x.hm
  obtain ⟨y3,q3⟩:=h.x.gs
  obtain ⟨y4,q4⟩:=h.x.gm
  obtain ⟨y5,q5⟩:=h.x.ls
  obtain ⟨y6,q6⟩:=h.x.lm
  have x1:∀ k,gn.ex.gsv.ownBlock = some k→gn.ex.own k:=fun k e=>.inr (.inr (.inl e))
  have x2:∀ k,gn.ex.gmv.ownBlock = some k→gn.ex.own k:=fun k e=>.inr (.inr (.inr (.inl e)))
  have hxa:∀ k,({ gn.ex with gsv:=v1,gmv:=v2,ng:=gn.ex.ng + 4,O:=fun k=>gn.ex.O k ∨ B k,OW:=fun k=>w'.heap[k]?,rg:=gn.ex.rg ++ rs }:Bks).own k→gn.ex.own k ∨ w.heap.size≤k:=by
    rintro k (e | e | e | e | e | e)
    · exact .inl (.inl e)
    · exact .inl (.inr (.inl e))
    · exact (hs.ls k e).imp (x1 k) (fun e=>e)
    · exact (hs.lm k e).imp (x2 k) (fun e=>e)
    · exact .inl (.inr (.inr (.inr (.inr (.inl e)))))
    · exact .inl (.inr (.inr (.inr (.inr (.inr e)))))
  have row:∀ {e sz n:Nat} {v:Value} {xs:List Value},w.ownsRow 0 e sz v n xs→e ≠ 41→(∀ k,v.ownBlock = some k→gn.ex.own k)→(∀ g,v.ownBlock = some g→gn.ex.gsv.ownBlock ≠ some g)→(∀ g,v.ownBlock = some g→gn.ex.gmv.ownBlock ≠ some g)→w'.ownsRow 0 e sz v n xs:=fun hr h1 h2 h3 h4=>ap_row h hA hs hr h1 h2 h3 h4
  have mlt:∀ {g:Nat},gn.ex.own g→¬ w.heap.size≤g:=fun e=>by have:=h.x.lt e; omega
  have hX:XAt w' bp { gn.ex with gsv:=v1,gmv:=v2,ng:=gn.ex.ng + 4,O:=fun k=>gn.ex.O k ∨ B k,OW:=fun k=>w'.heap[k]?,rg:=gn.ex.rg ++ rs }:=by
    refine ⟨hs.low 10 _ (by omega) h.x.c10,hs.low 11 _ (by omega) h.x.c11,hs.c8,hs.c9,hs.low 14 _ (by omega) h.x.c14,hs.low 15 _ (by omega) h.x.c15,⟨y1,row q1 (by decide) (fun k e=>.inl e) (ty_ne q1 q3 (by decide)) (ty_ne q1 q4 (by decide))⟩,⟨y2,row q2 (by decide) (fun k e=>.inr (.inl e)) (ty_ne q2 q3 (by decide)) (fun g e=>(h.x.dj.1 g e).1)⟩,⟨⟨_,rfl⟩,hr.bks⟩,⟨⟨_,rfl⟩,hr.bkm⟩,⟨y5,row q5 (by decide) (fun k e=>.inr (.inr (.inr (.inr (.inl e))))) (ty_ne q5 q3 (by decide)) (ty_ne q5 q4 (by decide))⟩,⟨y6,row q6 (by decide) (fun k e=>.inr (.inr (.inr (.inr (.inr e))))) (ty_ne q6 q3 (by decide)) (fun g e e2=>h.x.dj.2 g e2 e)⟩,fun g e=>⟨fun e2=>?_,(h.x.dj.1 g e).2⟩,fun g e e2=>?_⟩
    · exact (hs.lm g e2).elim (h.x.dj.1 g e).1 (mlt (.inr (.inl e)))
    · exact (hs.lm g e).elim (fun e3=>h.x.dj.2 g e3 e2) (mlt (.inr (.inr (.inr (.inr (.inr e2))))))
  have hS:∀ k,(k = bp ∨ lv.ownBlock = some k ∨ gn.ex.gsv.ownBlock = some k ∨ gn.ex.gmv.ownBlock = some k)→k < w.heap.size→k = bp ∨ Apt W0 k bp bb bs bm br gn la lc nsv nmv L M:=by
    rintro k (e | e | e | e) _
    · exact .inl e
    · exact .inr (hA k e).toApt
    · exact .inr (h.xa k (x1 k e))
    · exact .inr (h.xa k (x2 k e))
  have h6:=h.book.c6
  have h7:=h.book.c7
  have hn:=h.xn
  have hB:∀ k,B k→k < w'.heap.size∧(Apt W0 k bp bb bs bm br gn la lc nsv nmv L M ∨ w.heap.size≤k)∧¬ ({ gn.ex with gsv:=v1,gmv:=v2,ng:=gn.ex.ng + 4,O:=fun k=>gn.ex.O k ∨ B k,OW:=fun k=>w'.heap[k]?,rg:=gn.ex.rg ++ rs }:Bks).own k:=fun k hb=>by
    obtain ⟨b1,b2,b3,b4⟩:=hr.lt k hb
    have no:gn.ex.own k→False:=fun e=>b4.elim (fun q=>(hA2 k q).x e) (mlt e)
    refine ⟨b1,b4.imp (fun e=>(hA2 k e).toApt) (fun e=>e),?_⟩
    rintro (e | e | e | e | e | e)
    · exact no (.inl e)
    · exact no (.inr (.inl e))
    · exact b2 e
    · exact b3 e
    · exact no (.inr (.inr (.inr (.inr (.inl e)))))
    · exact no (.inr (.inr (.inr (.inr (.inr e)))))
  refine ⟨h.exTurned (B:=B) hs.kept hS hs.typ (fun o v ho _ _ hv=>hs.low o v (by omega) hv) (h6.imp fun b hb=>hs.low 6 _ (by omega) hb) (h7.imp fun b hb=>hs.low 7 _ (by omega) hb) hX hxa ⟨hn.1,hx,hn.2.2⟩ ⟨rfl,rfl,rfl⟩ (fun _=>Iff.rfl) (fun _ _=>rfl) hB (fun hg=>⟨h.o.rh.grow hg,(h.o.rg.grow hg).app (fun W hW=>hr.rd W fun k hb=>hW k (.inr hb)),h.o.rl.grow hg⟩),Stays.kept (B:=B) hs.kept ?_ hxa ⟨rfl,rfl,rfl⟩ (fun _ e=>e) (fun k e=>(hr.lt k e).2.2.2)⟩
  rintro k (e | e | e | e) _
  · exact .inr (fun q=>q.p e)
  · exact .inl e
  · exact .inr (fun q=>q.x (x1 k e))
  · exact .inr (fun q=>q.x (x2 k e))
theorem PairAt.begin14 (h:PairAt W0 w bp bb bs bm br cf gn la lc nsv nmv nn L M) {n:Nat} (hl:∃ xs,w.ownsRow 0 32 1 lv n xs):ApS 14 31 32 1 w bp lv gn.ex.lsv gn.ex.lmv w lv n gn.ex.lsv gn.ex.nl gn.ex.lmv gn.ex.nl :=
  ⟨h.book.typ,fun _ _ _ hv=>hv,h.x.c14,h.x.c15,hl,h.x.ls.elim fun x hx=>⟨x.1,hx⟩,h.x.lm.elim fun x hx=>⟨x.1,hx⟩,by decide,fun _ e=>.inl e,fun _ e=>.inl e,fun _ e=>.inl e,Kept.refl _ _⟩
theorem PairAt.begin12 (h:PairAt W0 w bp bb bs bm br cf gn la lc nsv nmv nn L M) {n:Nat} (hl:∃ xs,w.ownsRow 0 95 3 lv n xs):ApS 12 81 95 3 w bp lv gn.ex.gsv gn.ex.gmv w lv n gn.ex.gsv gn.ex.ng gn.ex.gmv gn.ex.ng :=
  ⟨h.book.typ,fun _ _ _ hv=>hv,h.x.c12,h.x.c13,hl,h.x.gs.elim fun x hx=>⟨x.1,hx⟩,h.x.gm.elim fun x hx=>⟨x.1,hx⟩,by decide,fun _ e=>.inl e,fun _ e=>.inl e,fun _ e=>.inl e,Kept.refl _ _⟩
end
end
section
open Go.RowKit Go.Maps

theorem al_lt {w:World} {k:Nat} {o x:Obj} (h:w.heap[k]? = some o):(w.alloc x).heap[k]? = some o:=(Below.heap_alloc _ _ _ (heap_lt h)).trans h
theorem al_at (w:World) (o:Obj) (k:Nat) (h:k = w.heap.size):(w.alloc o).heap[k]? = some o:=by rw [h]; exact heap_alloc_new _ _
theorem info31:(Tryz.prog.info? 31).map (fun i=>(i.zero,i.size,i.bytes)) = some (some (.slice none 0 0),1,24):=by kernel_rfl
theorem row_of_block {w:World} {A e:Nat} {us:List Value} (h:w.heap[A]? = some (.cells us.toArray e (0,0))) (hl:us.length≤1000):w.ownsRow 0 e 1 (.slice (some ⟨A,0,none⟩) us.length us.length) us.length us :=
  ⟨by simp,.inr ⟨A,us.length,us.toArray,rfl,Nat.zero_le _,h,Nat.le_refl _,by unfold maxLen; omega,by simp,by simp⟩⟩
theorem djs_at {us:List Value} (h:Djs us) {i j:Nat} (hi:i < us.length) (hj:j < us.length) (hij:i < j) {g:Nat} (h1:us[i].ownBlock = some g):us[j].ownBlock ≠ some g:=(List.pairwise_iff_getElem.1 h) i j hi hj hij g h1
theorem getD_at {us:List Value} {i:Nat} (hi:i < us.length) (z:Value):us.getD i z = us[i]:=by rw [List.getD_eq_getElem?_getD,List.getElem?_eq_getElem hi]; rfl
theorem set_same {us:List Value} {k:Nat} {v:Value}:∀ i,k + 1≤i→(us.set k v)[i]? = us[i]?:=fun i hi=>by rw [List.getElem?_set_ne (by omega)]

structure LiS (W0 w w':World) (bp bb bs bm br:Nat) (cf:Cf) (gn:Net) (la:Option Addr) (lc:Nat) (nsv:BV) (nmv:Value) (nsv':BV) (nmv':Value) (nn:Nat) (L M:List Ent) (A:Nat) (m:Int) (us us':List Value) (k:Nat):Prop where
  pair:PairAt W0 w' bp bb bs bm br cf gn la lc nsv' nmv' (nn + 4 * k) L M
  stay:Stays W0 w w' bp bb bs bm br gn gn la lc nsv nmv nsv' nmv' L M (fun x=>x = A ∨ ∃ i,∃ hi:i < us.length,i < k∧us[i].ownBlock = some x) (fun x=>∃ i,∃ hi:i < us.length,i < k∧us[i].ownBlock = some x)
  blk:w'.heap[A]? = some (.cells us'.toArray 32 (0,0))
  len:us'.length = us.length
  rest:∀ i,k≤i→us'[i]? = us[i]?
  done:∀ i,i < k→∃ b,us'[i]? = some (.slice (some ⟨b,0,none⟩) 1 1)∧w.heap.size≤b∧w'.heap[b]? = some (.cells #[.int .i64 m] 3 (0,0))∧Apart W0 b bp bb bs bm br gn la lc nsv' nmv' L M
section
variable {W0 w w':World} {bp bb bs bm br:Nat} {cf:Cf} {gn:Net} {la:Option Addr} {lc:Nat} {nsv nsv':BV} {nmv nmv':Value} {nn:Nat} {L M:List Ent} {A:Nat} {m:Int} {us us':List Value} {ls:List (List Int)} {k:Nat}
theorem LiS.list (h:LiS W0 w w' bp bb bs bm br cf gn la lc nsv nmv nsv' nmv' nn L M A m us us' k) (hl:LksAt w A us ls) (hus:∀ u ∈ us,∀ g,u.ownBlock = some g→Apart W0 g bp bb bs bm br gn la lc nsv nmv L M) (hdj:Djs us) (hk:k < us.length) :
    IRow w' us[k] (ls.getD k [])∧(∀ g,us[k].ownBlock = some g→Apart W0 g bp bb bs bm br gn la lc nsv' nmv' L M)∧w'.cell? ⟨A,k,none⟩ = some us[k]:=by
  have hr:=hl.row k (by rw [← hl.len]; exact hk)
  rw [getD_at hk] at hr
  refine ⟨ownsRow_of_block hr fun g hg=>?_,fun g hg=>?_,?_⟩
  · have hlt:=(hr.lt g hg).2
    refine (h.stay.2 g hlt (hus _ (List.getElem_mem hk) g hg) ?_).2 ?_
    · rintro ⟨i,hi,hik,e⟩
      exact djs_at hdj hi hk hik e hg
    · rintro (e | ⟨i,hi,hik,e⟩)
      · obtain ⟨c,hc⟩:=ownsRow_obj hr hg
        exact ne_of_elem hc hl.blk (by decide) e
      · exact djs_at hdj hi hk hik e hg
  · refine (h.stay.2 g (hr.lt g hg).2 (hus _ (List.getElem_mem hk) g hg) ?_).1
    rintro ⟨i,hi,hik,e⟩
    exact djs_at hdj hi hk hik e hg
  · simp only [World.cell?,h.blk]
    have:=h.rest k (Nat.le_refl _)
    rw [List.getElem?_eq_getElem hk] at this
    simpa using this
theorem LksAt.notU {w:World} (hl:LksAt w A us ls) (k:Nat):¬ ∃ i,∃ hi:i < us.length,i < k∧us[i].ownBlock = some A:=by
  rintro ⟨i,hi,_,e⟩
  have hr:=hl.row i (by rw [← hl.len]; exact hi)
  rw [getD_at hi] at hr
  obtain ⟨c,hc⟩:=ownsRow_obj hr e
  exact ne_of_elem hc hl.blk (by decide) rfl
theorem LiS.next {w3:World} {nsv3:BV} {nmv3 lv':Value} {n':Nat} (h:LiS W0 w w' bp bb bs bm br cf gn la lc nsv nmv nsv' nmv' nn L M A m us us' k) (hl:LksAt w A us ls) (hA:Apart W0 A bp bb bs bm br gn la lc nsv nmv L M) (hus:∀ u ∈ us,∀ g,u.ownBlock = some g→Apart W0 g bp bb bs bm br gn la lc nsv nmv L M) (hdj:Djs us) (hk:k < us.length)
    (hs:InB w' bp us[k] nsv' nmv' w3 lv' n' nsv3 (nn + 4 * k + 4) nmv3 (nn + 4 * k + 4)) :
    w3.heap[A]? = some (.cells us'.toArray 32 (0,0))∧LiS W0 w ((w3.setCell ⟨A,k,none⟩ (.slice (some ⟨w3.heap.size,0,none⟩) 1 1)).alloc (.cells #[.int .i64 m] 3)) bp bb bs bm br cf gn la lc nsv nmv nsv3 nmv3 nn L M A m us (us'.set k (.slice (some ⟨w3.heap.size,0,none⟩) 1 1)) (k + 1):=by
  obtain ⟨h1,h2,_⟩:=h.list hl hus hdj hk
  have hAl:=heap_lt hl.blk
  have hA':=(h.stay.2 A hAl hA (hl.notU k)).1
  obtain ⟨v,hv⟩:∃ v:Value,v = .slice (some ⟨w3.heap.size,0,none⟩) 1 1:=⟨_,rfl⟩
  obtain ⟨o,ho⟩:∃ o:Obj,o = .cells #[.int .i64 m] 3:=⟨_,rfl⟩
  rw [← hv,← ho]
  have hAl':=heap_lt h.blk
  have hnA:¬ us[k].ownBlock = some A:=fun e=>by
    obtain ⟨c,hc⟩:=ownsRow_obj h1 e
    exact ne_of_elem hc h.blk (by decide) rfl
  have st3:=Stays.ints (W0:=W0) (bb:=bb) (bs:=bs) (bm:=bm) (br:=br) (gn:=gn) (la:=la) (lc:=lc) (L:=L) (M:=M) hs
  have hA3:=st3.2 A hAl' hA' hnA
  have hb3:=(hA3.2 hnA).trans h.blk
  have hP3:=h.pair.intsA h2 hs
  have hk5:Kept (fun x=>x = A) w3 (w3.setCell ⟨A,k,none⟩ v):=(Kept.refl (fun x=>x = A) _).setCell (p:=⟨A,k,none⟩) (fun _=>rfl) v
  have hb5:(w3.setCell ⟨A,k,none⟩ v).heap[A]? = some (.cells (us'.set k v).toArray 32 (0,0)):=by
    rw [heap_setCell_same _ _ _ _ _ _ hb3]
    simp
  refine ⟨hb3,⟨?_,?_,(Below.heap_alloc _ _ _ (heap_lt hb5)).trans hb5,by simp [h.len],fun i hi=>?_,fun i hi=>?_⟩⟩
  · have:=(hP3.one hA3.1 hk5).alloc o
    rw [show nn + 4 * (k + 1) = nn + 4 * k + 4 by omega]
    exact this
  · refine ((h.stay.trans st3 (T:=fun x=>x = A ∨ ∃ i,∃ hi:i < us.length,i < k + 1∧us[i].ownBlock = some x) (R:=fun x=>∃ i,∃ hi:i < us.length,i < k + 1∧us[i].ownBlock = some x) ?_ ?_ ?_ ?_).trans (Stays.one (P:=fun x=>x = A) (R:=fun _=>False) hk5 rfl) (fun _ _ e=>e) (fun _ _ e=>.inl e) (fun _ _ e=>e) (fun _ _ e=>e.elim)).trans (Stays.below (P:=fun _=>False) (R:=fun _=>False) ((Below.refl _ _).alloc (Nat.le_refl _) o)) (fun _ _ e=>e) (fun _ _ e=>e.elim) (fun _ _ e=>e) (fun _ _ e=>e.elim)
    · rintro x _ (e | ⟨i,hi,hik,e⟩)
      · exact .inl e
      · exact .inr ⟨i,hi,by omega,e⟩
    · intro x _ e
      exact .inr ⟨k,hk,by omega,e⟩
    · rintro x _ ⟨i,hi,hik,e⟩
      exact ⟨i,hi,by omega,e⟩
    · intro x _ e
      exact ⟨k,hk,by omega,e⟩
  · rw [set_same i hi,h.rest i (by omega)]
  · have hz:=h.stay.1
    have hz3:=st3.1
    by_cases hik:i = k
    · subst hik
      refine ⟨w3.heap.size,?_,by omega,?_,(hP3.apart (A:=w3.heap.size) (Nat.le_refl _))⟩
      · rw [List.getElem?_set_self (by rw [h.len]; exact hk),hv]
      · rw [ho]
        exact al_at _ _ _ (by simp)
    · obtain ⟨b,e1,e2,e3,e4⟩:=h.done i (by omega)
      have hnb:¬ us[k].ownBlock = some b:=fun e=>by
        have hr:=hl.row k (by rw [← hl.len]; exact hk)
        rw [getD_at hk] at hr
        have:=(hr.lt b e).2
        omega
      have q3:=st3.2 b (heap_lt e3) e4 hnb
      have hb4:=(q3.2 hnb).trans e3
      refine ⟨b,?_,e2,?_,q3.1⟩
      · rw [List.getElem?_set_ne (by omega)]; exact e1
      · exact al_lt ((Below.heap_setCell _ _ _ _ (by show b ≠ A; omega)).trans hb4)
end

structure LsC (S:Nat→Prop) (w:World) (bp:Nat) (lv:Value) (nl:Nat) (ys:List Value) (nsv nmv:Value) (nn:Nat) (x0 m0:List Value) (mm:Int) (rs rt:List Rc):Prop extends ApC 31 32 1 w bp lv nl ys nsv nmv nn x0 m0 mm rs rt where
  ones:∀ i,i < nl→∃ b,ys[i]? = some (.slice (some ⟨b,0,none⟩) 1 1)∧w.heap[b]? = some (.cells #[.int .i64 mm] 3 (0,0))∧nmv.ownBlock ≠ some b∧S b
section
variable {S:Nat→Prop} {w w1:World} {bp:Nat} {lv nsv nmv v2:Value} {nl nn:Nat} {ys x0 m0:List Value} {mm:Int} {rs rt:List Rc}
theorem LsC.below (h:LsC S w bp lv nl ys nsv nmv nn x0 m0 mm rs rt) (hb:Below w.heap.size w w1):LsC S w1 bp lv nl ys nsv nmv nn x0 m0 mm rs rt :=
  ⟨h.toApC.below hb,fun i hi=>by
    obtain ⟨b,q1,q2,q3⟩:=h.ones i hi
    exact ⟨b,q1,(hb.block b (heap_lt q2)).trans q2,q3⟩⟩
theorem LsC.field (h:LsC S w bp lv nl ys nsv nmv nn x0 m0 mm rs rt) (ht:∃ cs,w.heap[bp]? = some (.cells cs 41 (0,0))) (k:Nat) (u:Value):LsC S (w.setCell ⟨bp,k,none⟩ u) bp lv nl ys nsv nmv nn x0 m0 mm rs rt :=
  ⟨h.toApC.field ht k u,fun i hi=>by
    obtain ⟨cs,hc⟩:=ht
    obtain ⟨b,q1,q2,q3⟩:=h.ones i hi
    exact ⟨b,q1,(Below.heap_setCell _ _ _ _ (ne_of_elem q2 hc (by decide))).trans q2,q3⟩⟩
theorem LsC.stepN {a:Option Addr} {c:Nat} (h:LsC S w bp (.slice a nl c) nl ys nsv nmv nn x0 m0 mm rs rt) (ht:∃ cs,w.heap[bp]? = some (.cells cs 41 (0,0)))
    (ho:w1.ownsRow 0 31 1 v2 (nn + rs.length + 1) ((x0 ++ rs.map Rc.val) ++ [.slice a nl c])) (hg:w.grownBy w1 nsv.ownBlock) (hl:v2.ownBlock = nsv.ownBlock ∨ v2.ownBlock = some w.heap.size) :
    LsC S w1 bp (.slice a nl c) nl ys v2 nmv nn x0 m0 mm (rs ++ [⟨a,nl,c,mm⟩]) rt :=
  ⟨h.toApC.stepN ht ho hg hl,fun i hi=>by
    obtain ⟨b,q1,q2,q3⟩:=h.ones i hi
    refine ⟨b,q1,(hg.block b (heap_lt q2) (fun e=>?_)).trans q2,q3⟩
    obtain ⟨c2,hc2⟩:=ownsRow_obj h.ns e.symm
    exact ne_of_elem q2 hc2 (by decide) rfl⟩
theorem LsC.stepM {r:Rc} (h:LsC S w bp lv nl ys nsv nmv nn x0 m0 mm rs rt)
    (ho:w1.ownsRow 0 3 1 v2 (nn + rt.length + 1) ((m0 ++ rt.map Rc.mrk) ++ [r.mrk])) (hg:w.grownBy w1 nmv.ownBlock) (hl:v2.ownBlock = nmv.ownBlock ∨ v2.ownBlock = some w.heap.size) :
    LsC S w1 bp lv nl ys nsv v2 nn x0 m0 mm rs (rt ++ [r]) :=
  ⟨h.toApC.stepM ho hg hl,fun i hi=>by
    obtain ⟨b,q1,q2,q3,q4⟩:=h.ones i hi
    have hlt:=heap_lt q2
    refine ⟨b,q1,(hg.block b hlt (fun e=>q3 e.symm)).trans q2,fun e=>?_,q4⟩
    rcases hl with e2 | e2
    · exact q3 (e2 ▸ e)
    · rw [e] at e2
      have:=Option.some.inj e2
      omega⟩
theorem LsC.stepL {b:Nat} (h:LsC S w bp lv nl ys nsv nmv nn x0 m0 mm rs rt)
    (ho:w1.ownsRow 0 32 1 v2 (nl + 1) (ys ++ [.slice (some ⟨b,0,none⟩) 1 1])) (hg:w.grownBy w1 lv.ownBlock) (hk:∀ b,lv.ownBlock = some b→∀ j u,ys[j]? = some u→w1.cell? ⟨b,j,none⟩ = some u) (hb:w.heap[b]? = some (.cells #[.int .i64 mm] 3 (0,0))) (hn:nmv.ownBlock ≠ some b) (hS:S b) :
    LsC S w1 bp v2 (nl + 1) (ys ++ [.slice (some ⟨b,0,none⟩) 1 1]) nsv nmv nn x0 m0 mm rs rt :=
  ⟨h.toApC.stepL ho hg hk,fun i hi=>by
    have hyl:ys.length = nl:=by have:=h.row.1; omega
    have st:∀ {b:Nat},w.heap[b]? = some (.cells #[.int .i64 mm] 3 (0,0))→w1.heap[b]? = some (.cells #[.int .i64 mm] 3 (0,0)):=fun {b} q2=>(hg.block b (heap_lt q2) (fun e=>by
      obtain ⟨c2,hc2⟩:=ownsRow_obj h.row e.symm
      exact ne_of_elem q2 hc2 (by decide) rfl)).trans q2
    rcases Nat.lt_or_ge i nl with h1 | h1
    · obtain ⟨b,q1,q2,q3⟩:=h.ones i h1
      exact ⟨b,by rw [List.getElem?_append_left (by omega)]; exact q1,st q2,q3⟩
    · obtain rfl:i = nl:=by omega
      exact ⟨b,by rw [List.getElem?_append_right (by omega),hyl,Nat.sub_self]; rfl,st hb,hn,hS⟩⟩
theorem LsC.recs {wr:World} {A:Nat→Prop} {r0:List Rc} (h:LsC (fun b=>A b ∨ wr.heap.size≤b) w bp lv nl ys nsv nmv nn (r0.map Rc.val) (r0.map Rc.mrk) mm rs rs) (h4:rs.length = 4) (hnl:nl≤1000) (hr:∀ r ∈ rs,∀ g,r.val.ownBlock = some g→A g ∨ wr.heap.size≤g) :
    RecX 31 QL wr bp A (fun k=>(∃ r ∈ rs,r.val.ownBlock = some k) ∨ ∃ i,i < nl∧ys[i]? = some (.slice (some ⟨k,0,none⟩) 1 1)) w nsv nmv (nn + 4) r0 rs:=by
  refine ⟨?_,?_,fun W hW r hr2=>?_,?_⟩
  · have:=h.ns
    rw [h4] at this
    simpa using this
  · have:=h.nm
    rw [h4] at this
    simpa using this
  · have q:=h.rd r hr2
    have hle:=q.le
    refine ⟨by omega,fun k hk=>?_⟩
    obtain ⟨g,e⟩:=q.addr (by omega)
    have hg:r.val.ownBlock = some g:=by unfold Rc.val; rw [e]; rfl
    obtain ⟨b,q1,q2,q3⟩:=h.ones k (by omega)
    refine ⟨g,e,b,q.at hg (hW g (.inl ⟨r,hr2,hg⟩)) (by omega) q1,?_⟩
    rw [World.cell?_of_block (hW b (.inr ⟨k,by omega,q1⟩))]
    have:=cells_at q2 0 rfl
    rw [q.m]
    simpa using this
  · rintro k (⟨r,hr2,e⟩ | ⟨i,hi,e⟩)
    · obtain ⟨q1,q2,q3,q4⟩:=(h.rd r hr2).lt k e
      exact ⟨q1,q3,q4,hr r hr2 k e⟩
    · obtain ⟨b,q1,q2,q3,q4⟩:=h.ones i hi
      obtain rfl:b = k:=by
        rw [q1] at e
        simpa using e
      refine ⟨heap_lt q2,fun e2=>?_,q3,q4⟩
      obtain ⟨c2,hc2⟩:=ownsRow_obj h.ns e2
      exact ne_of_elem q2 hc2 (by decide) rfl
end

set_option maxHeartbeats 4000000 in
set_option maxRecDepth 20000 in
theorem lists128 (W0 w:World) (bp bb bs bm br:Nat) (cf:Cf) (gn:Net) (la:Option Addr) (lc:Nat) (nsv:BV) (nmv:Value) (nn:Nat) (L M:List Ent) (A:Nat) (us:List Value) (ls:List (List Int)) (h:PairAt W0 w bp bb bs bm br cf gn la lc nsv nmv nn L M) (hl:LksAt w A us ls) (hA:Apart W0 A bp bb bs bm br gn la lc nsv nmv L M) (hus:∀ u ∈ us,∀ g,u.ownBlock = some g→Apart W0 g bp bb bs bm br gn la lc nsv nmv L M) (hdj:Djs us) (hone:1≤us.length) (hle:us.length≤11) (hss:∀ l ∈ ls,l.length≤1000) (hnn:(nn + 100) * 24≤140737488355328) :
    Calls Tryz.prog 128 #[.pointer (some ⟨bp,6,none⟩),.slice (some ⟨A,0,none⟩) us.length us.length] w fun ev w'=>ev = .returned (.tuple #[])∧∃ ex' nsv' nmv',PairAt W0 w' bp bb bs bm br cf { gn with ex:=ex' } la lc nsv' nmv' (nn + 4 * us.length) L M∧ex'.ng = gn.ex.ng∧SameZ gn.ex ex' ∧
      Stays W0 w w' bp bb bs bm br gn { gn with ex:=ex' } la lc nsv nmv nsv' nmv' L M (fun x=>x = A ∨ ∃ u ∈ us,u.ownBlock = some x) (fun x=>x = A ∨ ∃ u ∈ us,u.ownBlock = some x):=by
  obtain ⟨i3,hi3,hz30,hz31,hz32⟩:=info_parts info3
  obtain ⟨i31,hi31,hz310,hz311,hz312⟩:=info_parts info31
  obtain ⟨i32,hi32,hz320,hz321,hz322⟩:=info_parts info32
  obtain ⟨b6,h6⟩:=h.book.c6
  obtain ⟨b7,h7⟩:=h.book.c7
  have h7f:=h.book.frozen 7
  have hnl:=h.xn.2.2
  have HS0:Hid (∀ m nx nq,LiS W0 w ((w.setCell ⟨bp,7,none⟩ (.int .i64 nx)).drewN nq) bp bb bs bm br cf gn la lc nsv nmv nsv nmv nn L M A m us us 0):=fun m nx nq=>⟨h.mark nx nq,Stays.mark nx nq,((Stays.mark (W0:=W0) (bb:=bb) (bs:=bs) (bm:=bm) (br:=br) (gn:=gn) (la:=la) (lc:=lc) (nsv:=nsv) (nmv:=nmv) (L:=L) (M:=M) nx nq (P:=fun _=>False) (R:=fun _=>False)).2 A (heap_lt hl.blk) hA (fun e=>e)).2 (fun e=>e) |>.trans hl.blk,rfl,fun _ _=>rfl,fun i hi=>absurd hi (Nat.not_lt_zero _)⟩
  have HL:=hide hl
  have HA:=hide hA
  have HUS:=hide hus
  have HDJ:=hide hdj
  have HSS:=hide hss
  have HNN:=hide hnn
  clear h hl hA hus hdj hss hnn
  go_enter Tryz.func128,Tryz.ntmps128
  go_wp2_with fail
  refine (mark58_any bp b6 b7 _ h6 h7 h7f).mono ?_
  rintro ev w1 ⟨m,nx,nq,rfl,rfl⟩
  have HS1:=hide (HS0.out m nx nq)
  generalize (w.setCell ⟨bp,7,none⟩ (.int .i64 nx)).drewN nq = w1 at HS1 ⊢
  clear HS0 h6 h7 h7f
  go_wp2
  go_loopw [5] (fun iv wr=>∃ (k:Nat) (us':List Value) (nsv':BV) (nmv':Value),iv = .int .i64 k∧k≤us.length∧Hid (LiS W0 w wr bp bb bs bm br cf gn la lc nsv nmv nsv' nmv' nn L M A m us us' k)) (fun iv _=>us.length - (intOf iv).toNat)
  case atStart=>exact ⟨0,us,nsv,nmv,rfl,Nat.zero_le _,HS1.out⟩
  case round =>
    clear HS1
    obtain ⟨k,us',nsv',nmv',rfl,hk,HS⟩:=hrel
    by_cases hlt:k < us.length
    · obtain ⟨r1,r2,r3⟩:=HS.out.list HL.out HUS.out HDJ.out hlt
      have hll:(ls.getD k []).length≤1000:=by
        have hk2:k < ls.length:=by rw [← HL.out.len]; exact hlt
        rw [List.getD_eq_getElem?_getD,List.getElem?_eq_getElem hk2]
        exact HSS.out _ (List.getElem_mem hk2)
      have hAl:=heap_lt HS.out.blk
      have HNX:=hide (fun w3 nsv3 nmv3 lv' n' hs=>HS.out.next (w3:=w3) (nsv3:=nsv3) (nmv3:=nmv3) (lv':=lv') (n':=n') HL.out HA.out HUS.out HDJ.out hlt hs)
      generalize us[k] = u at *
      obtain ⟨ua,uc,rfl,_⟩:=IRow_slice r1
      have hins:=HS.out.pair.book.ins r1 (fun g hg=>(r2 g hg).nm)
      generalize ls.getD k [] = l at *
      have HI:=hide (ints35_rec bp ua l.length uc nsv' nmv' (nn + 4 * k) wr hins HS.out.pair.book (by omega) (by have h1:=HNN.out; exact Nat.le_trans (Nat.mul_le_mul_right 24 (by omega)) h1))
      clear r1 r2 hins
      go_wp2_with fail
      go_fit HI.out
      rintro ev w3 ⟨rfl,lv',nsv3,nmv3,hs3⟩
      have HNX3:=hide (HNX.out w3 nsv3 nmv3 lv' _ hs3)
      have x0:w3.cell? ⟨A,k,none⟩ = some (us'.getD k (.slice none 0 0)):=by
        have hb:=HNX3.out.1
        rw [cell_of_row w3 _ _ _ _ _ hb]
        have:=HS.out.len
        simp [List.getD_eq_getElem?_getD,show k < us'.length by omega]
      have fz:w3.frozen? ⟨A,k,none⟩ = false:=cells_frozen HNX3.out.1 _
      have hAl3:A < w3.heap.size:=heap_lt HNX3.out.1
      generalize us'.getD k (.slice none 0 0) = ox at x0
      clear hs3 HI HNX r3
      go_wp2
      exact ⟨⟨k + 1,_,nsv3,nmv3,by go_num,by omega,HNX3.out.2⟩,by simp [intOf]; omega⟩
    · obtain rfl:k = us.length:=by omega
      have hlen:=HS.out.len
      have hrow:=row_of_block HS.out.blk (by omega)
      rw [hlen] at hrow
      have hA9:=(HS.out.stay.2 A (heap_lt HL.out.blk) HA.out (HL.out.notU _)).1
      have HA0:=hide (HS.out.pair.begin14 ⟨_,hrow⟩)
      obtain ⟨⟨_,rfl⟩,hrs⟩:=HS.out.pair.x.ls
      obtain ⟨⟨_,rfl⟩,hrm⟩:=HS.out.pair.x.lm
      have HC0:Hid (LsC (fun b=>(A = b ∨ (w.heap.size≤b∧Apart W0 b bp bb bs bm br gn la lc nsv' nmv' L M)) ∨ wr.heap.size≤b) wr bp (.slice (some ⟨A,0,none⟩) us.length us.length) us.length us' gn.ex.lsv gn.ex.lmv gn.ex.nl (gn.ex.rl.map Rc.val) (gn.ex.rl.map Rc.mrk) m [] []):=⟨⟨hrow,by simpa using hrs,by simpa using hrm,by decide,fun r hr=>absurd hr List.not_mem_nil⟩,fun i hi=>by
        obtain ⟨b,q1,q2,q3,q4⟩:=HS.out.done i hi
        exact ⟨b,q1,q3,fun e=>q4.x (.inr (.inr (.inr (.inr (.inr e))))),.inl (.inr ⟨q2,q4⟩)⟩⟩
      have HFIN:Hid (∀ w' lv' v1 v2 ys' rs,rs.length = 4→ApS 14 31 32 1 wr bp (.slice (some ⟨A,0,none⟩) us.length us.length) gn.ex.lsv gn.ex.lmv w' lv' (us.length + 4) v1 (gn.ex.nl + 4) v2 (gn.ex.nl + 4)→LsC (fun b=>(A = b ∨ (w.heap.size≤b∧Apart W0 b bp bb bs bm br gn la lc nsv' nmv' L M)) ∨ wr.heap.size≤b) w' bp lv' (us.length + 4) ys' v1 v2 gn.ex.nl (gn.ex.rl.map Rc.val) (gn.ex.rl.map Rc.mrk) m rs rs→(∀ r ∈ rs,∀ g,r.val.ownBlock = some g→A = g ∨ wr.heap.size≤g)→∃ ex' nsv' nmv',PairAt W0 w' bp bb bs bm br cf { gn with ex:=ex' } la lc nsv' nmv' (nn + 4 * us.length) L M∧ex'.ng = gn.ex.ng∧SameZ gn.ex ex' ∧
          Stays W0 w w' bp bb bs bm br gn { gn with ex:=ex' } la lc nsv nmv nsv' nmv' L M (fun x=>x = A ∨ ∃ u ∈ us,u.ownBlock = some x) (fun x=>x = A ∨ ∃ u ∈ us,u.ownBlock = some x)):=fun w' lv' v1 v2 ys' rs h4 hs hc hrb=>by
        have hrec:=hc.recs h4 (by omega) (fun r hr g hg=>(hrb r hr g hg).imp (fun e=>.inl e) (fun e=>e))
        have hzw:=HS.out.stay.1
        obtain ⟨p1,p2⟩:=HS.out.pair.ap14 (fun g hg=>by
          obtain rfl:A = g:=(by simpa [Value.ownBlock] using hg)
          exact hA9) hs (by omega) hrec (fun k q=>q.elim (fun e=>e ▸ hA9) (fun q=>q.2))
        refine ⟨_,nsv',nmv',p1,rfl,⟨rfl,rfl,rfl⟩,HS.out.stay.trans p2 ?_ ?_ ?_ ?_⟩
        · rintro x _ (e | ⟨i,hi,_,e⟩)
          · exact .inl e
          · exact .inr ⟨us[i],List.getElem_mem hi,e⟩
        · intro x _ e
          left
          simpa [Value.ownBlock] using e.symm
        · rintro x _ ⟨i,hi,_,e⟩
          exact .inr ⟨us[i],List.getElem_mem hi,e⟩
        · rintro x hx (e | ⟨e,_⟩)
          · exact .inl e.symm
          · omega
      have hq:∀ q,q < 4→us.length + q + 1≤maxLen∧(us.length + q + 1) * 24≤140737488355328∧gn.ex.nl + q + 1≤maxLen∧(gn.ex.nl + q + 1) * 24≤140737488355328∧(gn.ex.nl + q + 1) * 8≤140737488355328:=fun q hq=>by
        have h1:=HNN.out
        unfold maxLen
        omega
      have HQ:=hide hq
      clear hrow hA9 hlen hq hrs hrm
      go_wp2
      go_loopw [1,6] (fun lv iv wx=>∃ (rs:List Rc) (ys:List Value) (al:Option Addr) (cl:Nat) (v1 v2:Value),rs.length≤4∧iv = .int .i64 rs.length∧lv = .slice al (us.length + rs.length) cl∧Hid (ApS 14 31 32 1 wr bp (.slice (some ⟨A,0,none⟩) us.length us.length) gn.ex.lsv gn.ex.lmv wx (.slice al (us.length + rs.length) cl) (us.length + rs.length) v1 (gn.ex.nl + rs.length) v2 (gn.ex.nl + rs.length))∧Hid (LsC (fun b=>(A = b ∨ (w.heap.size≤b∧Apart W0 b bp bb bs bm br gn la lc nsv' nmv' L M)) ∨ wr.heap.size≤b) wx bp (.slice al (us.length + rs.length) cl) (us.length + rs.length) ys v1 v2 gn.ex.nl (gn.ex.rl.map Rc.val) (gn.ex.rl.map Rc.mrk) m rs rs)∧Hid (∀ r ∈ rs,∀ g,r.val.ownBlock = some g→A = g ∨ wr.heap.size≤g)) (fun _ iv _=>4 - (intOf iv).toNat)
      case atStart=>exact ⟨[],us',some ⟨A,0,none⟩,us.length,gn.ex.lsv,gn.ex.lmv,Nat.zero_le _,rfl,rfl,HA0.out,HC0.out,fun r hr=>absurd hr List.not_mem_nil⟩
      case round =>
        rename World=>wx
        clear HA0 HC0
        obtain ⟨rs,ys,al,cl,v1,v2,hq4,rfl,rfl,hr,HC,HB⟩:=hrel
        by_cases hlt:rs.length < 4
        · have hd:decide ((rs.length:Int) < 4) = true:=decide_eq_true (by omega)
          have c8:=hr.out.c8
          have hbl:=hr.out.lt
          have hzx:=hr.out.kept.size
          have HL1:=hide (one_of_row HC.out.row)
          have HRN:Hid (∀ r ∈ rs ++ [(⟨al,us.length + rs.length,cl,m⟩:Rc)],∀ g,r.val.ownBlock = some g→A = g ∨ wr.heap.size≤g):=fun r hr2 g hg=>by
            rcases List.mem_append.1 hr2 with h1 | h1
            · exact HB.out r h1 g hg
            · obtain rfl:=List.mem_singleton.1 h1
              exact (hr.out.ll g hg).imp (fun e=>by simpa [Value.ownBlock] using e) (fun e=>e)
          have HYS:=hide HC.out.ns
          go_upto_region 10 with (at_builtin; go_must (refine wpList_append_lies _ rfl _ _ 35 rfl 0 31 i31 (.slice none 0 0) 1 24 Tryz.underlying35 hi31 hz310 hz311 hz312 rfl (by decide) v1 (gn.ex.nl + rs.length) (gn.ex.rl.map Rc.val ++ rs.map Rc.val) rfl (HYS.out.alloc _) ⟨wx.heap.size,0,none⟩ 1 1 [.slice al (us.length + rs.length) cl] rfl rfl (cell_one_new _ _ _) HL1.out (by decide) (HQ.out rs.length hlt).2.2.1 (HQ.out rs.length hlt).2.2.2.1 (Nat.zero_le _) (wx.heap.size + 1) (by simp) ?_); intro g1 cap1 w2 ho1 hg1 hl1 hlt1; obtain ⟨hS2,k8,k9,kf⟩:=(hr.out.below ((Below.refl _ _).alloc (Nat.le_refl _) _)).stepN ho1 hg1 (hl1.imp (fun e=>e.symm) (fun e=>(congrArg some e).trans (by simp))); have HC4:=hide (((HC.out.below ((Below.refl _ _).alloc (Nat.le_refl _) _)).stepN (typ_alloc hr.out.typ _) ho1 hg1 (hl1.imp (fun e=>e.symm) (fun e=>(congrArg some e).trans (by simp)))).field (typ_g (typ_alloc hr.out.typ _) hg1 hr.out.ns_ne) 14 (.slice (some ⟨g1,0,none⟩) (gn.ex.nl + rs.length + 1) cap1)); have hz2:=hg1.size; have HS2:=hide hS2; have HZS:=hide HC4.out.nm; clear hS2 ho1 hg1 hl1)
          have k9':w2.cell? ⟨bp,15,none⟩ = some v2:=k9
          clear k9
          go_upto_region 11 with (at_builtin; go_must (refine wpList_append_lies _ rfl _ _ 32 rfl 0 3 i3 (.int .i64 0) 1 8 Tryz.underlying32 hi3 hz30 hz31 hz32 rfl (by decide) v2 (gn.ex.nl + rs.length) (gn.ex.rl.map Rc.mrk ++ rs.map Rc.mrk) rfl (HZS.out.alloc _) ⟨w2.heap.size,0,none⟩ 1 1 [.int .i64 m] rfl rfl (cell_one_new' _ _ _ _ (by simp)) (ints_oneCell .i64 [m]) (by decide) (HQ.out rs.length hlt).2.2.1 (HQ.out rs.length hlt).2.2.2.2 (Nat.zero_le _) (w2.heap.size + 1) (by simp) ?_); intro g2 cap2 w3 ho2 hg2 hl2 hlt2; obtain ⟨hS3,m9,mf⟩:=(HS2.out.below ((Below.refl _ _).alloc (Nat.le_refl _) _)).stepM ho2 hg2 (hl2.imp (fun e=>e.symm) (fun e=>(congrArg some e).trans (by simp))); have m9':w3.cell? ⟨bp,15,none⟩ = some v2:=m9; have mf':w3.frozen? ⟨bp,15,none⟩ = false:=mf; have HC5:=hide (((HC4.out.below ((Below.refl _ _).alloc (Nat.le_refl _) _)).stepM (r:=⟨al,us.length + rs.length,cl,m⟩) ho2 hg2 (hl2.imp (fun e=>e.symm) (fun e=>(congrArg some e).trans (by simp)))).field (typ_g (typ_alloc HS2.out.typ _) hg2 HS2.out.nm_ne) 15 (.slice (some ⟨g2,0,none⟩) (gn.ex.nl + rs.length + 1) cap2)); have hz3:=hg2.size; have HS3:=hide hS3; have HLS:=hide HC5.out.row; clear hS3 ho2 hg2 hl2 m9 mf)
          have hzz:wr.heap.size≤w3.heap.size:=by simp at hz2 hz3; omega
          have HZZ:=hide hzz
          have HNG:Hid ((Value.slice (some ⟨g2,0,none⟩) (gn.ex.nl + rs.length + 1) cap2).ownBlock ≠ some w3.heap.size):=fun e=>by
            have:=(HC5.out.nm.lt _ e).2
            simp at this
          clear hz2 hz3 hzz
          go_wp2_with (at_builtin; go_must (refine wpList_append_keeps rfl _ _ 31 rfl 0 32 i32 (.slice none 0 0) 1 24 Tryz.underlying31 hi32 hz320 hz321 hz322 rfl (by decide) (.slice al (us.length + rs.length) cl) (us.length + rs.length) ys rfl ((HLS.out.alloc _).alloc _) ⟨w3.heap.size + 1,0,none⟩ 1 1 [.slice (some ⟨w3.heap.size,0,none⟩) 1 1] rfl rfl (cell_one_new' _ _ _ _ (by simp)) (by simp [Value.oneCell']) (by decide) (HQ.out rs.length hlt).1 (HQ.out rs.length hlt).2.1 (Nat.zero_le _) (w3.heap.size + 2) (by simp) ?_); intro g3 cap3 w4 ho3 hg3 hl3 hlt3 hk3; have HS4:=hide (((HS3.out.below ((Below.refl _ _).alloc (Nat.le_refl _) _)).below ((Below.refl _ _).alloc (Nat.le_refl _) _)).stepL ho3 hg3 (hl3.imp (fun e=>e.symm) (fun e=>(congrArg some e).trans (by simp)))); have HC6:=hide (((HC5.out.below ((Below.refl _ _).alloc (Nat.le_refl _) (.cells #[.int .i64 m] 3))).below ((Below.refl _ _).alloc (Nat.le_refl _) _)).stepL ho3 hg3 hk3 (al_lt (al_at _ _ _ (by simp))) HNG.out (.inr HZZ.out)))
          have hl1:(rs ++ [(⟨al,us.length + rs.length,cl,m⟩:Rc)]).length = rs.length + 1:=by simp
          refine ⟨⟨rs ++ [(⟨al,us.length + rs.length,cl,m⟩:Rc)],ys ++ [.slice (some ⟨w3.heap.size,0,none⟩) 1 1],some ⟨g3,0,none⟩,cap3,_,_,by omega,by rw [hl1]; go_num,by rw [hl1]; rfl,by rw [hl1]; exact HS4.out,by rw [hl1]; exact HC6.out,HRN⟩,by simp [intOf]; omega⟩
        · obtain hq4:rs.length = 4:=by omega
          have hd:decide ((rs.length:Int) < 4) = false:=decide_eq_false (by omega)
          have q1:=hr.out
          have q2:=HC.out
          rw [hq4] at q1 q2
          have HF:=hide (HFIN.out _ _ _ _ _ rs hq4 q1 q2 HB.out)
          clear hq4 q1 q2
          go_wp2
          go_end0
          exact ⟨rfl,HF.out⟩
end
section
open Go.RowKit Go.Maps

theorem info81:(Tryz.prog.info? 81).map (fun i=>(i.zero,i.size,i.bytes)) = some (some (.slice none 0 0),1,24):=by kernel_rfl
def TB (nv:Value) (ns:List TNode) (k:Nat):Prop:=nv.ownBlock = some k ∨ ∃ n ∈ ns,n.A = k ∨ ∃ u ∈ n.us,u.ownBlock = some k
theorem NodesAt.blocks {w w':World} {lk:Int × Int→List Int} {nv:Value} {ns:List TNode} (h:NodesAt w lk nv ns) (hb:∀ k,TB nv ns k→w'.heap[k]? = w.heap[k]?):NodesAt w' lk nv ns :=
  ⟨ownsRow_of_block h.row fun g hg=>hb g (.inl hg),fun n hn=>⟨(hb _ (.inr ⟨n,hn,.inl rfl⟩)).trans (h.lks n hn).blk,(h.lks n hn).len,fun i hi=>ownsRow_of_block ((h.lks n hn).row i hi) fun g hg=>hb g (.inr ⟨n,hn,.inr ⟨_,by
    have hl:i < n.us.length:=by rw [(h.lks n hn).len]; exact hi
    rw [getD_at hl]; exact List.getElem_mem hl,hg⟩⟩)⟩⟩
theorem NodesAt.lt {w:World} {lk:Int × Int→List Int} {nv:Value} {ns:List TNode} (h:NodesAt w lk nv ns) {k:Nat} (hk:TB nv ns k):k < w.heap.size:=by
  rcases hk with e | ⟨n,hn,rfl | ⟨u,hu,hg⟩⟩
  · exact (h.row.lt k e).2
  · exact heap_lt (h.lks n hn).blk
  · exact (h.lks n hn).lt hu hg
theorem djs_flat {ns:List TNode} (h:Djs (ns.flatMap (·.us))) {i j:Nat} (hi:i < ns.length) (hj:j < ns.length) (hij:j < i) {u v:Value} (hu:u ∈ ns[j].us) (hv:v ∈ ns[i].us) {g:Nat} (hg:u.ownBlock = some g):v.ownBlock ≠ some g:=by
  have e:ns = ns.take (j + 1) ++ ns.drop (j + 1):=(List.take_append_drop _ _).symm
  unfold Djs at h
  rw [e,List.flatMap_append,List.pairwise_append] at h
  refine h.2.2 u (List.mem_flatMap.2 ⟨ns[j],?_,hu⟩) v (List.mem_flatMap.2 ⟨ns[i],?_,hv⟩) g hg
  · exact List.mem_take_iff_getElem.2 ⟨j,by omega,rfl⟩
  · exact List.mem_drop_iff_getElem.2 ⟨i - (j + 1),by omega,by congr 1; omega⟩
theorem djs_one {ns:List TNode} (h:Djs (ns.flatMap (·.us))) {n:TNode} (hn:n ∈ ns):Djs n.us:=by
  obtain ⟨s,t,rfl⟩:=List.append_of_mem hn
  unfold Djs at h ⊢
  rw [List.flatMap_append,List.pairwise_append,List.flatMap_cons,List.pairwise_append] at h
  exact h.2.1.1

structure GrS (W0 w w':World) (bp bb bs bm br:Nat) (cf:Cf) (gn gn':Net) (la:Option Addr) (lc:Nat) (nsv:BV) (nmv:Value) (nsv':BV) (nmv':Value) (nn nn':Nat) (L M:List Ent) (nv:Value) (ns:List TNode) (pt:Nat→Value) (cs:List Value) (i:Nat):Prop where
  pair:PairAt W0 w' bp bb bs bm br cf gn' la lc nsv' nmv' nn' L M
  net:∃ ex',gn' = { gn with ex:=ex' }∧ex'.ng = gn.ex.ng∧SameZ gn.ex ex'
  le:nn≤nn'∧nn'≤nn + 44 * i
  stay:Stays W0 w w' bp bb bs bm br gn gn' la lc nsv nmv nsv' nmv' L M (fun x=>nv.ownBlock = some x ∨ ∃ j,∃ hj:j < ns.length,j < i∧(ns[j].A = x ∨ ∃ u ∈ ns[j].us,u.ownBlock = some x)) (fun x=>∃ j,∃ hj:j < ns.length,j < i∧(ns[j].A = x ∨ ∃ u ∈ ns[j].us,u.ownBlock = some x))
  row:w'.ownsRow 0 95 3 nv ns.length cs
  rest:∀ k,3 * i≤k→cs[k]? = (ncells ns)[k]?
  done:∀ k,k < 3 * i→cs[k]? = some (pt k)
section
variable {W0 w w':World} {bp bb bs bm br:Nat} {cf:Cf} {gn gn':Net} {la:Option Addr} {lc:Nat} {nsv nsv':BV} {nmv nmv':Value} {nn nn':Nat} {L M:List Ent} {nv:Value} {ns:List TNode} {pt:Nat→Value} {cs:List Value} {i:Nat} {lk:Int × Int→List Int}
theorem GrS.node (h:GrS W0 w w' bp bb bs bm br cf gn gn' la lc nsv nmv nsv' nmv' nn nn' L M nv ns pt cs i) (hn:NodesAt w lk nv ns) (hT:∀ k,TB nv ns k→Apart W0 k bp bb bs bm br gn la lc nsv nmv L M) (hAd:(ns.map (·.A)).Nodup) (hdj:Djs (ns.flatMap (·.us))) (hi:i < ns.length) :
    LksAt w' ns[i].A ns[i].us (nodeL lk ns[i].id (ns[i].t + 1))∧Apart W0 ns[i].A bp bb bs bm br gn' la lc nsv' nmv' L M∧∀ u ∈ ns[i].us,∀ g,u.ownBlock = some g→Apart W0 g bp bb bs bm br gn' la lc nsv' nmv' L M:=by
  have hm:=List.getElem_mem hi
  have hl:=hn.lks _ hm
  have tA:TB nv ns ns[i].A:=.inr ⟨_,hm,.inl rfl⟩
  have tU:∀ u ∈ ns[i].us,∀ g,u.ownBlock = some g→TB nv ns g:=fun u hu g hg=>.inr ⟨_,hm,.inr ⟨u,hu,hg⟩⟩
  have nA:¬ ∃ j,∃ hj:j < ns.length,j < i∧(ns[j].A = ns[i].A ∨ ∃ u ∈ ns[j].us,u.ownBlock = some ns[i].A):=by
    rintro ⟨j,hj,hji,e | ⟨u,hu,e⟩⟩
    · have:=(List.pairwise_iff_getElem.1 hAd) j i (by simpa using hj) (by simpa using hi) hji
      simp at this
      exact this e
    · obtain ⟨k,hk,rfl⟩:=List.mem_iff_getElem.1 hu
      have hlj:=hn.lks _ (List.getElem_mem hj)
      have hr:=hlj.row k (by rw [← hlj.len]; exact hk)
      rw [getD_at hk] at hr
      obtain ⟨c,hc⟩:=ownsRow_obj hr e
      exact ne_of_elem hl.blk hc (by decide) rfl
  have bA:=(h.stay.2 _ (hn.lt tA) (hT _ tA) nA).2 (by
    rintro (e | e)
    · obtain ⟨c,hc⟩:=ownsRow_obj hn.row e
      exact ne_of_elem hl.blk hc (by decide) rfl
    · exact nA e)
  have nU:∀ u ∈ ns[i].us,∀ g,u.ownBlock = some g→¬ ∃ j,∃ hj:j < ns.length,j < i∧(ns[j].A = g ∨ ∃ u ∈ ns[j].us,u.ownBlock = some g):=fun u hu g hg=>by
    obtain ⟨k,hk,rfl⟩:=List.mem_iff_getElem.1 hu
    have hr:=hl.row k (by rw [← hl.len]; exact hk)
    rw [getD_at hk] at hr
    obtain ⟨c,hc⟩:=ownsRow_obj hr hg
    rintro ⟨j,hj,hji,e | ⟨u2,hu2,e⟩⟩
    · have hb2:=(hn.lks _ (List.getElem_mem hj)).blk
      rw [e] at hb2
      exact ne_of_elem hc hb2 (by decide) rfl
    · exact djs_flat hdj hi hj hji hu2 hu e hg
  have bU:∀ u ∈ ns[i].us,∀ g,u.ownBlock = some g→w'.heap[g]? = w.heap[g]?:=fun u hu g hg=>(h.stay.2 g (hn.lt (tU u hu g hg)) (hT g (tU u hu g hg)) (nU u hu g hg)).2 (by
    rintro (e | e)
    · obtain ⟨k,hk,rfl⟩:=List.mem_iff_getElem.1 hu
      have hr:=hl.row k (by rw [← hl.len]; exact hk)
      rw [getD_at hk] at hr
      obtain ⟨c,hc⟩:=ownsRow_obj hr hg
      obtain ⟨c2,hc2⟩:=ownsRow_obj hn.row e
      exact ne_of_elem hc hc2 (by decide) rfl
    · exact nU u hu g hg e)
  refine ⟨⟨bA.trans hl.blk,hl.len,fun k hk=>ownsRow_of_block (hl.row k hk) fun g hg=>?_⟩,(h.stay.2 _ (hn.lt tA) (hT _ tA) nA).1,fun u hu g hg=>(h.stay.2 g (hn.lt (tU u hu g hg)) (hT g (tU u hu g hg)) (nU u hu g hg)).1⟩
  have hk2:k < ns[i].us.length:=by rw [hl.len]; exact hk
  rw [getD_at hk2] at hg
  exact bU _ (List.getElem_mem hk2) g hg
theorem GrS.place (h:GrS W0 w w' bp bb bs bm br cf gn gn' la lc nsv nmv nsv' nmv' nn nn' L M nv ns pt cs i) {g c:Nat} (hv:nv = .slice (some ⟨g,0,none⟩) ns.length c) (hi:i < ns.length):w'.cell? ⟨g,i * 3 + 2,none⟩ = some (.slice (some ⟨ns[i].A,0,none⟩) (ns[i].t + 1) (ns[i].t + 1)):=by
  have hr:=h.row
  rw [hv] at hr
  refine ownsRow_cell hr ?_
  rw [h.rest _ (by omega),ncells_get ns i 2 hi (by omega)]
  rfl
theorem NodesAt.notR (hn:NodesAt w lk nv ns) {g:Nat} (hg:nv.ownBlock = some g) (i:Nat):¬ ∃ j,∃ hj:j < ns.length,j < i∧(ns[j].A = g ∨ ∃ u ∈ ns[j].us,u.ownBlock = some g):=by
  obtain ⟨cg,hcg⟩:=ownsRow_obj hn.row hg
  rintro ⟨j,hj,_,e | ⟨u,hu,e⟩⟩
  · have hl:=hn.lks _ (List.getElem_mem hj)
    rw [← e] at hcg
    exact ne_of_elem hl.blk hcg (by decide) rfl
  · have hl:=hn.lks _ (List.getElem_mem hj)
    obtain ⟨k,hk,rfl⟩:=List.mem_iff_getElem.1 hu
    have hr:=hl.row k (by rw [← hl.len]; exact hk)
    rw [getD_at hk] at hr
    obtain ⟨c,hc⟩:=ownsRow_obj hr e
    exact ne_of_elem hc hcg (by decide) rfl
theorem GrS.next {w3:World} {ex3:Bks} {nsv3:BV} {nmv3:Value} (h:GrS W0 w w' bp bb bs bm br cf gn gn' la lc nsv nmv nsv' nmv' nn nn' L M nv ns pt cs i) (hn:NodesAt w lk nv ns) (hT:∀ k,TB nv ns k→Apart W0 k bp bb bs bm br gn la lc nsv nmv L M) {g c:Nat} (hv:nv = .slice (some ⟨g,0,none⟩) ns.length c) (hi:i < ns.length) (hlen:ns[i].us.length≤11)
    (hp:PairAt W0 w3 bp bb bs bm br cf { gn' with ex:=ex3 } la lc nsv3 nmv3 (nn' + 4 * ns[i].us.length) L M) (hng:ex3.ng = gn'.ex.ng) (hz3:SameZ gn'.ex ex3) (hs:Stays W0 w' w3 bp bb bs bm br gn' { gn' with ex:=ex3 } la lc nsv' nmv' nsv3 nmv3 L M (fun x=>x = ns[i].A ∨ ∃ u ∈ ns[i].us,u.ownBlock = some x) (fun x=>x = ns[i].A ∨ ∃ u ∈ ns[i].us,u.ownBlock = some x)) :
    w3.ownsRow 0 95 3 nv ns.length cs∧∀ a b d,pt (i * 3) = a→pt (i * 3 + 1) = b→pt (i * 3 + 2) = d→GrS W0 w (((w3.setCell ⟨g,i * 3,none⟩ a).setCell ⟨g,i * 3 + 1,none⟩ b).setCell ⟨g,i * 3 + 2,none⟩ d) bp bb bs bm br cf gn { gn' with ex:=ex3 } la lc nsv nmv nsv3 nmv3 nn (nn' + 4 * ns[i].us.length) L M nv ns pt (((cs.set (i * 3) a).set (i * 3 + 1) b).set (i * 3 + 2) d) (i + 1):=by
  have hm:=List.getElem_mem hi
  have tg:TB nv ns g:=.inl (by rw [hv]; rfl)
  have hlt:=hn.lt tg
  have hg0:nv.ownBlock = some g:=by rw [hv]; rfl
  have hA':=(h.stay.2 g hlt (hT g tg) (hn.notR hg0 i)).1
  obtain ⟨cg,hcg⟩:=ownsRow_obj hn.row hg0
  have hl:=hn.lks _ hm
  have hl2:g < w'.heap.size:=(h.row.lt g hg0).2
  have hgn:¬ (g = ns[i].A ∨ ∃ u ∈ ns[i].us,u.ownBlock = some g):=by
    rintro (e | ⟨u,hu,e⟩)
    · rw [e] at hcg
      exact ne_of_elem hl.blk hcg (by decide) rfl
    · obtain ⟨k,hk,rfl⟩:=List.mem_iff_getElem.1 hu
      have hr:=hl.row k (by rw [← hl.len]; exact hk)
      rw [getD_at hk] at hr
      obtain ⟨c,hc⟩:=ownsRow_obj hr e
      exact ne_of_elem hc hcg (by decide) rfl
  have hA3:=hs.2 g hl2 hA' hgn
  have hb3:=hA3.2 hgn
  have hrow3:w3.ownsRow 0 95 3 nv ns.length cs:=ownsRow_of_block h.row fun g' hg'=>by
    rw [hg0] at hg'
    obtain rfl:=Option.some.inj hg'
    exact hb3
  refine ⟨hrow3,fun a b d ha hb hd=>?_⟩
  have hk5:Kept (fun x=>x = g) w3 (((w3.setCell ⟨g,i * 3,none⟩ a).setCell ⟨g,i * 3 + 1,none⟩ b).setCell ⟨g,i * 3 + 2,none⟩ d):=(((Kept.refl (fun x=>x = g) w3).setCell (p:=⟨g,i * 3,none⟩) (fun _=>rfl) _).setCell (p:=⟨g,i * 3 + 1,none⟩) (fun _=>rfl) _).setCell (p:=⟨g,i * 3 + 2,none⟩) (fun _=>rfl) _
  obtain ⟨ex',e1,e2⟩:=h.net
  have hle:=h.le
  refine ⟨hp.one hA3.1 hk5,⟨ex3,by rw [e1],by rw [hng,e1]; exact e2.1,by rw [e1] at hz3; exact e2.2.trans hz3⟩,by omega,?_,?_,fun k hk=>?_,fun k hk=>?_⟩
  · refine (h.stay.trans hs (T:=fun x=>nv.ownBlock = some x ∨ ∃ j,∃ hj:j < ns.length,j < i + 1∧(ns[j].A = x ∨ ∃ u ∈ ns[j].us,u.ownBlock = some x)) (R:=fun x=>∃ j,∃ hj:j < ns.length,j < i + 1∧(ns[j].A = x ∨ ∃ u ∈ ns[j].us,u.ownBlock = some x)) ?_ ?_ ?_ ?_).trans (Stays.one (P:=fun x=>x = g) (R:=fun _=>False) hk5 rfl) (fun _ _ e=>e) (fun _ _ e=>.inl (by rw [e]; exact hg0)) (fun _ _ e=>e) (fun _ _ e=>e.elim)
    · rintro x _ (e | ⟨j,hj,hji,e⟩)
      · exact .inl e
      · exact .inr ⟨j,hj,by omega,e⟩
    · rintro x _ (e | e)
      · exact .inr ⟨i,hi,by omega,.inl e.symm⟩
      · exact .inr ⟨i,hi,by omega,.inr e⟩
    · rintro x _ ⟨j,hj,hji,e⟩
      exact ⟨j,hj,by omega,e⟩
    · rintro x _ (e | e)
      · exact ⟨i,hi,by omega,.inl e.symm⟩
      · exact ⟨i,hi,by omega,.inr e⟩
  · rw [hv] at hrow3 ⊢
    exact ownsRow_set (ownsRow_set (ownsRow_set hrow3 _ _) _ _) _ _
  · rw [List.getElem?_set_ne (by omega),List.getElem?_set_ne (by omega),List.getElem?_set_ne (by omega),h.rest k (by omega)]
  · have hcl:cs.length = ns.length * 3:=hrow3.1
    rcases Nat.lt_or_ge k (3 * i) with h1 | h1
    · rw [List.getElem?_set_ne (by omega),List.getElem?_set_ne (by omega),List.getElem?_set_ne (by omega),h.done k h1]
    · rcases (by omega:k = i * 3 ∨ k = i * 3 + 1 ∨ k = i * 3 + 2) with rfl | rfl | rfl
      · rw [List.getElem?_set_ne (by omega),List.getElem?_set_ne (by omega),List.getElem?_set_self (by omega),ha]
      · rw [List.getElem?_set_ne (by omega),List.getElem?_set_self (by simp; omega),hb]
      · rw [List.getElem?_set_self (by simp; omega),hd]
end
end
end Go.Proofs.YtpkiefjanmfgfaaGreatDoor
