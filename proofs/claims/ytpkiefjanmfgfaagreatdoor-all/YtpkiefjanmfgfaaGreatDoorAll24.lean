import Derived.Test.YtpkiefjanmfgfaaGreatDoorAll15
import Derived.Test.YtpkiefjanmfgfaaGreatDoorAll17
import Derived.Test.YtpkiefjanmfgfaaGreatDoorAll18
import Derived.Test.YtpkiefjanmfgfaaGreatDoorAll19
import Derived.Test.YtpkiefjanmfgfaaGreatDoorAll22
import Derived.Test.YtpkiefjanmfgfaaGreatDoorAll23
namespace Go.Proofs.YtpkiefjanmfgfaaGreatDoor
section
open Go.RowKit Go.Maps

theorem ne_type {w:World} {a b:Nat} {c1 c2:Array Value} {e1 e2:TypeId} {f1 f2:Nat × Nat} (h1:w.heap[a]? = some (.cells c1 e1 f1)) (h2:w.heap[b]? = some (.cells c2 e2 f2)) (hne:e1 ≠ e2):a ≠ b:=ne_of_elem h1 h2 hne

theorem Rds.grow {O O':Nat→Prop} {OW OW':Nat→Option Obj} {Q:World→Nat→Nat→Int→Prop} {rs:List Rc} (h:Rds O OW Q rs) (hg:∀ k,O k→O' k∧OW' k = OW k):Rds O' OW' Q rs:=fun W hW=>h W fun k hk=>(hW k (hg k hk).1).trans (hg k hk).2
theorem Rds.app {O:Nat→Prop} {OW:Nat→Option Obj} {Q:World→Nat→Nat→Int→Prop} {r1 r2:List Rc} (h1:Rds O OW Q r1) (h2:Rds O OW Q r2):Rds O OW Q (r1 ++ r2):=fun W hW r hr=>(List.mem_append.1 hr).elim (h1 W hW r) (h2 W hW r)
structure RecX (E:Nat) (Q:World→Nat→Nat→Int→Prop) (w0:World) (bp:Nat) (A B:Nat→Prop) (w:World) (v u:Value) (n:Nat) (r0 rs:List Rc):Prop where
  bks:w.ownsRow 0 E 1 v n ((r0 ++ rs).map Rc.val)
  bkm:w.ownsRow 0 3 1 u n ((r0 ++ rs).map Rc.mrk)
  rd:∀ W:World,(∀ k,B k→W.heap[k]? = w.heap[k]?)→∀ r ∈ rs,Reads W Q r
  lt:∀ k,B k→k < w.heap.size∧v.ownBlock ≠ some k∧u.ownBlock ≠ some k∧(A k ∨ w0.heap.size≤k)
section
variable {W0 w w':World} {bp bb bs bm br:Nat} {cf:Cf} {gn:Net} {la:Option Addr} {lc:Nat} {nsv:BV} {nmv:Value} {nn:Nat} {L M:List Ent}

theorem PairAt.exTurned {ex':Bks} {S B:Nat→Prop} (h:PairAt W0 w bp bb bs bm br cf gn la lc nsv nmv nn L M) (hk:Kept S w w') (hS:∀ k,S k→k < w.heap.size→k = bp ∨ Apt W0 k bp bb bs bm br gn la lc nsv nmv L M)
    (typ:∃ cs,w'.heap[bp]? = some (.cells cs 41 (0,0))) (hlow:∀ o v,o < 10→o ≠ 6→o ≠ 7→w.cell? ⟨bp,o,none⟩ = some v→w'.cell? ⟨bp,o,none⟩ = some v) (c6:∃ b,w'.cell? ⟨bp,6,none⟩ = some (.int .i64 b)) (c7:∃ b,w'.cell? ⟨bp,7,none⟩ = some (.int .i64 b))
    (hX:XAt w' bp ex') (hxa:∀ k,ex'.own k→gn.ex.own k ∨ w.heap.size≤k) (hn:ex'.nh≤nn∧ex'.ng≤nn∧ex'.nl≤nn) (hZ:SameZ gn.ex ex') (hO:∀ k,ex'.O k ↔ gn.ex.O k ∨ B k) (hW:∀ k,ex'.O k→ex'.OW k = w'.heap[k]?) (hB:∀ k,B k→k < w'.heap.size∧(Apt W0 k bp bb bs bm br gn la lc nsv nmv L M ∨ w.heap.size≤k)∧¬ ex'.own k)
    (hr:(∀ k,gn.ex.O k→ex'.O k∧ex'.OW k = gn.ex.OW k)→Rds ex'.O ex'.OW QH ex'.rh∧Rds ex'.O ex'.OW QG ex'.rg∧Rds ex'.O ex'.OW QL ex'.rl) :
    PairAt W0 w' bp bb bs bm br cf { gn with ex:=ex' } la lc nsv nmv nn L M:=by
  obtain ⟨x4,h4⟩:=h.p4
  obtain ⟨x5,h5⟩:=h.p5
  obtain ⟨cb,hcb⟩:=h.tb
  obtain ⟨cs,hcs⟩:=h.ts
  obtain ⟨ys,hys⟩:=h.book.hs
  obtain ⟨zs,hzs⟩:=h.book.hm
  obtain ⟨cp,hcp⟩:=h.book.typ
  obtain ⟨cr,hcr⟩:=h.ref.typ
  have no:∀ {b:Nat},b < w.heap.size→b ≠ bp→¬ Apt W0 b bp bb bs bm br gn la lc nsv nmv L M→¬ S b:=fun h1 h2 h3 e=>(hS _ e h1).elim h2 h3
  have ty:∀ {b:Nat} {c:Array Value} {e:TypeId},w.heap[b]? = some (.cells c e (0,0))→e ≠ 41→¬ Apt W0 b bp bb bs bm br gn la lc nsv nmv L M→¬ S b:=fun hb h1 h2=>no (heap_lt hb) (ne_of_elem hb hcp h1) h2
  have hbb:¬ S bb:=ty hcb (by decide) (fun q=>q.b rfl)
  have hbs:¬ S bs:=ty hcs (by decide) (fun q=>q.s rfl)
  have hbm:¬ S bm:=no h.base.map.lt (fun e=>h.base.map.mb_ne hcp e.symm) (fun q=>q.m rfl)
  have hbr:¬ S br:=ty hcr (by decide) (fun q=>q.r rfl)
  have hpos:=h.pos
  have hlbp:=h.lbp
  have hold:=h.old.size
  have h00:¬ S 0:=no (by omega) (by omega) (fun q=>by have:=q.old; omega)
  have noPm:∀ e ∈ L,¬ S e.mb:=fun e he=>by
    obtain ⟨c,hc⟩:=(h.base.map.pts e he).obj
    exact ty hc (by decide) (fun q=>q.mb e he rfl)
  have noPr:∀ e ∈ M,¬ S e.rb:=fun e he=>by
    obtain ⟨c,hc⟩:=(h.ref.pts e he).obj
    exact ty hc (by decide) (fun q=>q.rb e he rfl)
  have noF:∀ k,gn.F k→¬ S k:=fun k hf=>no (h.base.foot k hf).1 (h.pf k hf).2.1 (fun q=>q.f hf)
  have noN:∀ g,nsv.ownBlock = some g→¬ S g:=fun g hg=>by
    obtain ⟨c,hc⟩:=ownsRow_obj hys hg
    exact ty hc (by decide) (fun q=>q.ns hg)
  have noM:∀ g,nmv.ownBlock = some g→¬ S g:=fun g hg=>by
    obtain ⟨c,hc⟩:=ownsRow_obj hzs hg
    exact ty hc (by decide) (fun q=>q.nm hg)
  have noL:∀ g,(Value.slice la M.length lc).ownBlock = some g→¬ S g:=fun g hg=>by
    obtain ⟨c,hc⟩:=ownsRow_obj h.ref.row hg
    exact ty hc (by decide) (fun q=>q.l hg)
  have hbw:Below W0.heap.size W0 w':=h.old.trans (hk.toBelow hold (fun k e=>by
    rcases Nat.lt_or_ge k w.heap.size with h1 | h1
    · rcases hS k e h1 with e1 | e1
      · omega
      · exact e1.old
    · omega))
  have q:=h.base.keptS hk hbb hbs hbm h00 noPm noF
  have apt:∀ {k:Nat},Apt W0 k bp bb bs bm br gn la lc nsv nmv L M→¬ B k→Apt W0 k bp bb bs bm br { gn with ex:=ex' } la lc nsv nmv L M:=fun {k} q hb=>⟨q.old,q.p,q.b,q.s,q.m,q.r,q.ns,q.nm,q.l,q.mb,q.rb,q.f,fun hf=>by
    rcases hf with e | e | e
    · exact q.o (.inl e)
    · exact ((hO k).1 e).elim (fun e=>q.o (.inr (.inl e))) hb
    · have e2:ex'.Z k:=e
      rw [hZ.z] at e2
      exact q.o (.inr (.inr e2))⟩
  have st:∀ k,Frz nsv gn.ex k→w'.heap[k]? = w.heap[k]?:=fun k hf=>hk.block k (h.o.a k hf).1 (fun s=>(hS k s (h.o.a k hf).1).elim (h.o.a k hf).2.p (fun q=>q.o hf))
  refine ⟨hlow 0 _ (by omega) (by omega) (by omega) h.p0,hlow 1 _ (by omega) (by omega) (by omega) h.p1,hlow 2 _ (by omega) (by omega) (by omega) h.p2,hlow 3 _ (by omega) (by omega) (by omega) h.p3,⟨x4,hlow 4 _ (by omega) (by omega) (by omega) h4⟩,⟨x5,hlow 5 _ (by omega) (by omega) (by omega) h5⟩,⟨typ,c6,c7,hlow 8 _ (by omega) (by omega) (by omega) h.book.c8,hlow 9 _ (by omega) (by omega) (by omega) h.book.c9,⟨ys,ownsRow_kept hys hk noN⟩,⟨zs,ownsRow_kept hzs hk noM⟩⟩,
    ⟨q.b0,q.b2,q.b3,q.b4,q.b5,q.b6,q.b7,q.b8,q.s0,q.s1,q.map,q.hdl,q.g,q.ok,q.lv,q.few,q.ints,q.len,q.crd,q.drw,q.foot,q.cfok⟩,h.ref.keptS hk hbr noL noPr,
    ⟨cb,(hk.block _ (heap_lt hcb) hbb).trans hcb⟩,⟨cs,(hk.block _ (heap_lt hcs) hbs).trans hcs⟩,h.am,hbw,h.pos,h.lbp,h.lbb,h.lbm,h.lbr,h.lla,h.lns,h.lnm,h.pf,hX,fun k hk2=>?_,hn,⟨fun k hf=>?_,fun k hf=>(st k (.inl hf)).trans (h.o.n k hf),fun k hf=>(hW k hf).symm,fun k hf=>?_,fun k hf=>?_,?_,h.o.ri,(hr ?_).1,(hr ?_).2.1,(hr ?_).2.2⟩⟩
  · have nb:¬ B k:=fun e=>(hB k e).2.2 hk2
    rcases hxa k hk2 with e | e
    · exact apt (h.xa k e) nb
    · exact apt (h.apart e).toApt nb
  · have old:Frz nsv gn.ex k→k < w'.heap.size∧Apt0 W0 k bp bb bs bm br gn.F la lc nsv nmv L M:=fun hf=>⟨Nat.lt_of_lt_of_le (h.o.a k hf).1 hk.size,(h.o.a k hf).2⟩
    rcases hf with e | e | e
    · exact old (.inl e)
    · rcases (hO k).1 e with e | e
      · exact old (.inr (.inl e))
      · obtain ⟨q1,q2,_⟩:=hB k e
        exact ⟨q1,q2.elim (fun q=>q.zero) (fun q=>(h.apart q).toApt.zero)⟩
    · rw [hZ.z] at e
      exact old (.inr (.inr e))
  · show w'.heap[k]? = ex'.ZW k
    have e2:ex'.Z k:=hf
    rw [hZ.z] at e2
    rw [hZ.zw]
    exact (st k (.inr (.inr e2))).trans (h.o.z k e2)
  · show ¬ ex'.Z k
    rw [hZ.z]
    rcases hf with e | e
    · exact h.o.oz k (.inl e)
    · rcases (hO k).1 e with e | e
      · exact h.o.oz k (.inr e)
      · rcases (hB k e).2.1 with q | q
        · exact fun hz=>q.o (.inr (.inr hz))
        · exact fun hz=>by have:=(h.o.a k (.inr (.inr hz))).1; omega
  · show ex'.ZN≤_
    rw [hZ.zn]
    exact Nat.le_trans h.o.s hk.size
  all_goals exact fun k hf=>⟨(hO k).2 (.inl hf),(hW k ((hO k).2 (.inl hf))).trans ((st k (.inr (.inl hf))).trans (h.o.o k hf))⟩
def Net.hits (gn:Net) (hsv hmv:Value) (B:Nat→Prop) (w':World) (rs:List Rc):Net:={ gn with ex:={ gn.ex with hsv:=hsv,hmv:=hmv,nh:=gn.ex.nh + 4,O:=fun k=>gn.ex.O k ∨ B k,OW:=fun k=>w'.heap[k]?,rh:=gn.ex.rh ++ rs } }

theorem PairAt.hits {lv lv' hsv' hmv':Value} {X n':Nat} {m m':Int} {B:Nat→Prop} {rs:List Rc} (h:PairAt W0 w bp bb bs bm br cf gn la lc nsv nmv nn L M) (hA:∀ g,lv.ownBlock = some g→Apart W0 g bp bb bs bm br gn la lc nsv nmv L M) (hx:gn.ex.nh + 4≤nn)
    (hs:HiS w bp lv gn.ex.hsv gn.ex.hmv X m m' w' lv' n' hsv' (gn.ex.nh + 4) hmv' (gn.ex.nh + 4)) (hr:RecX 58 QH w bp (fun k=>lv.ownBlock = some k) B w' hsv' hmv' (gn.ex.nh + 4) gn.ex.rh rs):PairAt W0 w' bp bb bs bm br cf (gn.hits hsv' hmv' B w' rs) la lc nsv nmv nn L M:=by
  have hk:=hs.kept
  have x1:∀ k,gn.ex.hsv.ownBlock = some k→gn.ex.own k:=fun k e=>.inl e
  have x2:∀ k,gn.ex.hmv.ownBlock = some k→gn.ex.own k:=fun k e=>.inr (.inl e)
  obtain ⟨cp,hcp⟩:=h.book.typ
  obtain ⟨f1,r1⟩:=h.x.hs
  obtain ⟨f2,r2⟩:=h.x.hm
  obtain ⟨g1,q1⟩:=h.x.gs
  obtain ⟨g2,q2⟩:=h.x.gm
  obtain ⟨g3,q3⟩:=h.x.ls
  obtain ⟨g4,q4⟩:=h.x.lm
  have rows:∀ {e sz n:Nat} {v:Value} {xs:List Value},w.ownsRow 0 e sz v n xs→e ≠ 41→(∀ k,v.ownBlock = some k→gn.ex.own k)→e ≠ 58→(∀ g,v.ownBlock = some g→gn.ex.hmv.ownBlock ≠ some g)→w'.ownsRow 0 e sz v n xs:=fun {e sz n v xs} hr h1 h2 h3 h4=>ownsRow_kept hr hk fun g hg hx=>by
    obtain ⟨c,hc⟩:=ownsRow_obj hr hg
    rcases hx with q | q | q | q
    · exact ne_type hc hcp h1 q
    · exact (hA g q).x (h2 g hg)
    · obtain ⟨c2,hc2⟩:=ownsRow_obj r1 q
      exact ne_type hc hc2 h3 rfl
    · exact h4 g hg q
  have mlt:∀ {g:Nat},gn.ex.own g→¬ w.heap.size≤g:=fun e=>by have:=h.x.lt e; omega
  have hX:XAt w' bp (gn.hits hsv' hmv' B w' rs).ex:=by
    refine ⟨hs.c8,hs.c9,hs.low _ _ (by omega) h.x.c12,hs.low _ _ (by omega) h.x.c13,hs.low _ _ (by omega) h.x.c14,hs.low _ _ (by omega) h.x.c15,⟨⟨_,rfl⟩,hr.bks⟩,⟨⟨_,rfl⟩,hr.bkm⟩,⟨g1,rows q1 (by decide) (fun k e=>.inr (.inr (.inl e))) (by decide) ?_⟩,⟨g2,rows q2 (by decide) (fun k e=>.inr (.inr (.inr (.inl e)))) (by decide) ?_⟩,⟨g3,rows q3 (by decide) (fun k e=>.inr (.inr (.inr (.inr (.inl e))))) (by decide) ?_⟩,⟨g4,rows q4 (by decide) (fun k e=>.inr (.inr (.inr (.inr (.inr e))))) (by decide) ?_⟩,⟨fun g e=>?_,h.x.dj.2⟩⟩
    · exact ty_ne q1 r2 (by decide)
    · exact fun g hg e=>(h.x.dj.1 g e).1 hg
    · exact ty_ne q3 r2 (by decide)
    · exact fun g hg e=>(h.x.dj.1 g e).2 hg
    · rcases hs.lm g e with e1 | e1
      · exact h.x.dj.1 g e1
      · exact ⟨fun e2=>mlt (.inr (.inr (.inr (.inl e2)))) e1,fun e2=>mlt (.inr (.inr (.inr (.inr (.inr e2))))) e1⟩
  have hxa:∀ k,(gn.hits hsv' hmv' B w' rs).ex.own k→gn.ex.own k ∨ w.heap.size≤k:=by
    rintro k (e | e | e | e | e | e)
    · exact (hs.ls k e).imp (x1 k) (fun e=>e)
    · exact (hs.lm k e).imp (x2 k) (fun e=>e)
    · exact .inl (.inr (.inr (.inl e)))
    · exact .inl (.inr (.inr (.inr (.inl e))))
    · exact .inl (.inr (.inr (.inr (.inr (.inl e)))))
    · exact .inl (.inr (.inr (.inr (.inr (.inr e)))))
  have hS:∀ k,(k = bp ∨ lv.ownBlock = some k ∨ gn.ex.hsv.ownBlock = some k ∨ gn.ex.hmv.ownBlock = some k)→k < w.heap.size→k = bp ∨ Apt W0 k bp bb bs bm br gn la lc nsv nmv L M:=by
    rintro k (e | e | e | e) _
    · exact .inl e
    · exact .inr (hA k e).toApt
    · exact .inr (h.xa k (x1 k e))
    · exact .inr (h.xa k (x2 k e))
  have hn:=h.xn
  have h6:=h.book.c6
  refine h.exTurned (B:=B) hk hS hs.typ (fun o v ho _ _ hv=>hs.low o v (by omega) hv) (h6.imp fun b hb=>hs.low 6 _ (by omega) hb) hs.c7 hX hxa ⟨hx,hn.2⟩ ⟨rfl,rfl,rfl⟩ (fun _=>Iff.rfl) (fun _ _=>rfl) (fun k hb=>?_) (fun hg=>⟨(h.o.rh.grow hg).app (fun W hW=>hr.rd W fun k hb=>hW k (.inr hb)),h.o.rg.grow hg,h.o.rl.grow hg⟩)
  obtain ⟨b1,b2,b3,b4⟩:=hr.lt k hb
  refine ⟨b1,b4.imp (fun e=>(hA k e).toApt) (fun e=>e),?_⟩
  rintro (e | e | e | e | e | e)
  · exact b2 e
  · exact b3 e
  · exact b4.elim (fun q=>(hA k q).x (.inr (.inr (.inl e)))) (mlt (.inr (.inr (.inl e))))
  · exact b4.elim (fun q=>(hA k q).x (.inr (.inr (.inr (.inl e))))) (mlt (.inr (.inr (.inr (.inl e)))))
  · exact b4.elim (fun q=>(hA k q).x (.inr (.inr (.inr (.inr (.inl e)))))) (mlt (.inr (.inr (.inr (.inr (.inl e))))))
  · exact b4.elim (fun q=>(hA k q).x (.inr (.inr (.inr (.inr (.inr e)))))) (mlt (.inr (.inr (.inr (.inr (.inr e))))))
end
theorem RcAt.at {w W:World} {bp sz nl:Nat} {ys:List Value} {nsv nmv:Value} {mm:Int} {r:Rc} (h:RcAt w bp sz nl ys nsv nmv mm r) {g:Nat} (hg:r.val.ownBlock = some g) (hb:W.heap[g]? = w.heap[g]?) {j:Nat} {u:Value} (hj:j < r.n * sz) (hu:ys[j]? = some u):W.cell? ⟨g,j,none⟩ = some u:=by
  rw [World.cell?_of_block hb]
  exact h.cell g hg j u hj hu
theorem hits77_rec (bp:Nat) (a:Option Addr) (n c:Nat) (x:Bks) (w:World) (typ:∃ cs,w.heap[bp]? = some (.cells cs 41 (0,0))) (c6:∃ b,w.cell? ⟨bp,6,none⟩ = some (.int .i64 b)) (c7:∃ b,w.cell? ⟨bp,7,none⟩ = some (.int .i64 b)) (hx:XAt w bp x) (hl:∃ xs,w.ownsRow 0 63 2 (.slice a n c) n xs) (hn:n≤1000) (hnn:(x.nh + 4) * 24≤140737488355328) :
    Calls Tryz.prog 77 #[.pointer (some ⟨bp,6,none⟩),.slice a n c] w fun ev w'=>ev = .returned (.tuple #[])∧∃ X m m' lv' hsv' hmv' B rs,HiS w bp (.slice a n c) x.hsv x.hmv X m m' w' lv' (n + 4) hsv' (x.nh + 4) hmv' (x.nh + 4)∧RecX 58 QH w bp (fun k=>(Value.slice a n c).ownBlock = some k) B w' hsv' hmv' (x.nh + 4) x.rh rs:=by
  obtain ⟨⟨_,rfl⟩,h1⟩:=hx.hs
  obtain ⟨⟨_,rfl⟩,h2⟩:=hx.hm
  refine (hits77_all bp a n c x.hsv x.hmv x.nh _ _ w typ c6 c7 hx.c10 hx.c11 hl h1 h2 hn hnn).mono ?_
  rintro ev w' ⟨rfl,X,m,m',lv',hsv',hmv',rs,hm,hs,hl4,hc,hrb⟩
  refine ⟨rfl,X,m,m',lv',hsv',hmv',(fun k=>∃ r ∈ rs,r.val.ownBlock = some k),rs,hs,?_,?_,fun W hW r hr=>?_,?_⟩
  · have:=hc.ns
    rw [hl4] at this
    simpa using this
  · have:=hc.nm
    rw [hl4] at this
    simpa using this
  · have q:=hc.rd r hr
    have hle:=q.le
    refine ⟨by omega,fun k hk=>?_⟩
    obtain ⟨g,e⟩:=q.addr (by omega)
    have hg:r.val.ownBlock = some g:=by unfold Rc.val; rw [e]; rfl
    have hb:=hW g ⟨r,hr,hg⟩
    refine ⟨g,e,q.at hg hb (by omega) ?_,q.at hg hb (by omega) ?_⟩
    · rw [patL_at _ (by omega),ptH0,q.m]
    · rw [patL_at _ (by omega),ptH1,q.m,hm]
  · rintro k ⟨r,hr,e⟩
    obtain ⟨q1,q2,q3,q4⟩:=(hc.rd r hr).lt k e
    exact ⟨q1,q3,q4,hrb r hr k e⟩
end
section
open Go.RowKit Go.Maps

section
variable {W0 w w':World} {bp bb bs bm br:Nat} {cf:Cf} {gn:Net} {la:Option Addr} {lc:Nat} {nsv:BV} {nmv:Value} {nn:Nat} {L M:List Ent}
theorem PairAt.away {S:Nat→Prop} (h:PairAt W0 w bp bb bs bm br cf gn la lc nsv nmv nn L M) (hA:∀ k,S k→Apart W0 k bp bb bs bm br gn la lc nsv nmv L M) (hk:Kept S w w'):PairAt W0 w' bp bb bs bm br cf gn la lc nsv nmv nn L M:=by
  obtain ⟨x4,h4⟩:=h.p4
  obtain ⟨x5,h5⟩:=h.p5
  obtain ⟨cb,hcb⟩:=h.tb
  obtain ⟨cs,hcs⟩:=h.ts
  have h0:=h.pos
  have np:¬ S bp:=fun e=>(hA _ e).p rfl
  have nb:¬ S bb:=fun e=>(hA _ e).b rfl
  have ns:¬ S bs:=fun e=>(hA _ e).s rfl
  refine ⟨hk.cell h.p0 np,hk.cell h.p1 np,hk.cell h.p2 np,hk.cell h.p3 np,⟨x4,hk.cell h4 np⟩,⟨x5,hk.cell h5 np⟩,h.book.keptS hk np (fun g hg e=>(hA _ e).ns hg) (fun g hg e=>(hA _ e).nm hg),h.base.keptS hk nb ns (fun e=>(hA _ e).m rfl) (fun e=>by have:=(hA _ e).old; omega) (fun e he q=>(hA _ q).mb e he rfl) (fun k hf e=>(hA _ e).f hf),h.ref.keptS hk (fun e=>(hA _ e).r rfl) (fun g hg e=>(hA _ e).l hg) (fun e he q=>(hA _ q).rb e he rfl),
    ⟨cb,(hk.block _ (Array.getElem?_eq_some_iff.1 hcb).1 nb).trans hcb⟩,⟨cs,(hk.block _ (Array.getElem?_eq_some_iff.1 hcs).1 ns).trans hcs⟩,h.am,h.old.trans (hk.toBelow h.old.size (fun k e=>(hA _ e).old)),h.pos,h.lbp,h.lbb,h.lbm,h.lbr,h.lla,h.lns,h.lnm,h.pf,h.x.keptS hk np (fun k hx e=>(hA _ e).x hx),h.xa,h.xn,h.o.kept hk (fun k e hf _=>(hA _ e).o hf) (fun _ _ q=>q)⟩
end

theorem LentAt.keptS {S:Nat→Prop} {w0 w w':World} {A:Nat} {mv:Value} {Z:Nat} {F:List (List Cnd)} {ks:List Nat} (h:LentAt w0 w A mv Z F ks) (hk:Kept S w w') (hS:∀ k,S k→k < w0.heap.size ∨ (k ≠ A∧k ≠ Z∧k ∉ ks∧mv.ownBlock ≠ some k)):LentAt w0 w' A mv Z F ks:=by
  have st:∀ {k:Nat} {o:Obj},w.heap[k]? = some o→¬ S k→w'.heap[k]? = some o:=fun hk2 hn=>(hk.block _ (Array.getElem?_eq_some_iff.1 hk2).1 hn).trans hk2
  have memk:∀ i,i < F.length→ks.getD i 0 ∈ ks:=fun i hi=>by
    rw [List.getD_eq_getElem?_getD,List.getElem?_eq_getElem (by rw [h.len]; exact hi)]
    exact List.getElem_mem _
  refine ⟨st h.all (fun e=>?_),ownsRow_kept h.mine hk (fun g hg e=>?_),h.len,fun i hi=>st (h.cls i hi) (fun e=>?_),h.nod,st h.z (fun e=>?_),h.zk,h.new,h.znew,h.anew,h.mnew⟩
  · rcases hS _ e with q | q
    · have:=h.anew; omega
    · exact q.1 rfl
  · rcases hS _ e with q | q
    · have:=h.mnew g hg; omega
    · exact q.2.2.2 hg
  · have hm:=memk i hi
    rcases hS _ e with q | q
    · have:=h.new _ hm; omega
    · exact q.2.2.1 hm
  · rcases hS _ e with q | q
    · have:=h.znew; omega
    · exact q.2.1 rfl
theorem LentAt.filt {w0 w:World} {A:Nat} {mv:Value} {Z:Nat} {F:List (List Cnd)} {ks:List Nat} (h:LentAt w0 w A mv Z F ks) (hm:∀ c ∈ F,c.length≤17592186044416) (hn:F.length≤17592186044416):FiltAt w (.slice (some ⟨A,0,none⟩) F.length (F.length + 1)) F:=by
  refine ⟨_,_,rfl,by omega,hn,.inr ⟨A,0,rfl,fun i hi=>?_⟩⟩
  have hz:=zip_at cutS h.len hi
  have h2:=(List.getElem?_eq_some_iff.1 hz).1
  refine ⟨cutS (ks.getD i 0) (F.getD i []),?_,(h.cls i hi).conds (hm _ (by rw [List.getD_eq_getElem?_getD,List.getElem?_eq_getElem hi]; exact List.getElem_mem hi))⟩
  simp only [World.cell?,h.all]
  simp [List.getElem?_append_left h2,hz]

set_option maxHeartbeats 400000 in
theorem looks31 (bb:Nat) (n:Int) (w:World) (b8:w.cell? ⟨bb,8,none⟩ = some (.int .i64 n)):Calls Tryz.prog 31 #[.pointer (some ⟨bb,0,none⟩)] w fun ev w'=>ev = .returned (.int .i64 n)∧w = w':=by
  go_enter Tryz.func31,Tryz.ntmps31
  go_wp2
  go_ret
  exact ⟨rfl,rfl⟩
end
section
open Go.RowKit Go.Maps

def SeOk (cf:Cf) (gn:Net) (L:List Ent) (xs:List Int) (F:List (List Cnd)) (k beam:Int) (l:List Hit) (n:Int):Prop :=
  (schCode cf.dim xs k beam F ≠ 0→l = []∧n = 0)∧(schCode cf.dim xs k beam F = 0→l = (srR cf gn L xs F (max k beam)).2.take (min k ((srR cf gn L xs F (max k beam)).2.length:Int)).toNat∧n = ((srR cf gn L xs F (max k beam)).1.length:Int))

theorem searchU (bb bs bm:Nat) (cf:Cf) (gn:Net) (L:List Ent) (pv:Value) (xs:List Int) (k beam:Int) (fv:Value) (F:List (List Cnd)) (w:World) (h:BaseAt w bb bs bm cf gn L) (htb:∃ cs,w.heap[bb]? = some (.cells cs 102 (0,0))) (hts:∃ cs,w.heap[bs]? = some (.cells cs 155 (0,0))) (hr:IRow w pv xs) (hp:IntsAt w pv xs) (hf:FiltAt w fv F) (hlo:0≤gn.looks∧gn.looks≤4000000000000000000) :
    Calls Tryz.prog 26 #[.pointer (some ⟨bb,0,none⟩),pv,.int .i64 k,.int .i64 beam,.agg #[fv]] w fun ev w'=>∃ v l n,ev = .returned (.tuple #[v,.int .i64 (schCode cf.dim xs k beam F)])∧HRow w' v l∧(∀ g,v.ownBlock = some g→w.heap.size≤g) ∧
      BaseAt w' bb bs bm cf { gn with looks:=gn.looks + n } L∧Kept (fun k=>k = bb) w w'∧(∃ cs,w'.heap[bb]? = some (.cells cs 102 (0,0)))∧SeOk cf gn L xs F k beam l n:=by
  by_cases hc:schCode cf.dim xs k beam F = 0
  · rw [hc]
    refine (search25_ok bb bs bm cf gn L pv xs k beam fv F w h htb hts hr hf hc hlo).mono ?_
    rintro ev w' ⟨v,rfl,h1,h2,h3,h4,h5,_⟩
    exact ⟨v,_,_,rfl,h1,h2,h3,h4,h5,fun e=>absurd hc e,fun _=>⟨rfl,rfl⟩⟩
  · refine (search25_no bb bs bm cf gn L pv xs k beam fv F w h hp hf _ rfl hc).mono ?_
    rintro ev w' ⟨rfl,hb⟩
    obtain ⟨cs,hcs⟩:=htb
    have hB:=h.below hb
    refine ⟨_,[],0,rfl,⟨rfl,.inl ⟨rfl,rfl⟩⟩,fun g e=>(by cases e),?_,Kept.of_below _ hb,⟨cs,(hb.block _ (heap_lt hcs)).trans hcs⟩,fun _=>⟨rfl,rfl⟩,fun e=>absurd e hc⟩
    rw [Int.add_zero]
    exact hB

section
variable {W0 w w':World} {bp bb bs bm br:Nat} {cf:Cf} {gn:Net} {la:Option Addr} {lc:Nat} {nsv:BV} {nmv:Value} {nn:Nat} {L M:List Ent}
theorem PairAt.looked {n:Int} (h:PairAt W0 w bp bb bs bm br cf gn la lc nsv nmv nn L M) (hk:Kept (fun k=>k = bb) w w') (hB:BaseAt w' bb bs bm cf { gn with looks:=n } L) (ht:∃ cs,w'.heap[bb]? = some (.cells cs 102 (0,0))):PairAt W0 w' bp bb bs bm br cf { gn with looks:=n } la lc nsv nmv nn L M:=by
  obtain ⟨x4,h4⟩:=h.p4
  obtain ⟨x5,h5⟩:=h.p5
  obtain ⟨cb,hcb⟩:=h.tb
  obtain ⟨cs,hcs⟩:=h.ts
  obtain ⟨cp,hcp⟩:=h.book.typ
  obtain ⟨cr,hcr⟩:=h.ref.typ
  obtain ⟨ys,hys⟩:=h.book.hs
  obtain ⟨zs,hzs⟩:=h.book.hm
  have ne:∀ {b:Nat} {c:Array Value} {e:TypeId},w.heap[b]? = some (.cells c e (0,0))→e ≠ 102→b ≠ bb:=fun hb h1=>ne_of_elem hb hcb h1
  have np:bp ≠ bb:=ne hcp (by decide)
  refine ⟨hk.cell h.p0 np,hk.cell h.p1 np,hk.cell h.p2 np,hk.cell h.p3 np,⟨x4,hk.cell h4 np⟩,⟨x5,hk.cell h5 np⟩,h.book.keptS hk np (fun g hg=>?_) (fun g hg=>?_),hB,h.ref.keptS hk (ne hcr (by decide)) (fun g hg=>?_) (fun e he=>?_),ht,⟨cs,(hk.block _ (heap_lt hcs) (ne hcs (by decide))).trans hcs⟩,h.am,h.old.trans (hk.toBelow h.old.size (fun k e=>by rw [e]; exact h.lbb)),h.pos,h.lbp,h.lbb,h.lbm,h.lbr,h.lla,h.lns,h.lnm,h.pf,h.x.keptS hk np (fun k hx=>(h.xa k hx).b),fun k hx=>?_,h.xn,h.o.kept hk (fun k e _ q=>q.b e) (fun _ _ q=>q)⟩
  · obtain ⟨c,hc⟩:=ownsRow_obj hys hg
    exact ne hc (by decide)
  · obtain ⟨c,hc⟩:=ownsRow_obj hzs hg
    exact ne hc (by decide)
  · obtain ⟨c,hc⟩:=ownsRow_obj h.ref.row hg
    exact ne hc (by decide)
  · obtain ⟨c,hc⟩:=(h.ref.pts e he).obj
    exact ne hc (by decide)
  · have q:=h.xa k hx
    exact ⟨q.old,q.p,q.b,q.s,q.m,q.r,q.ns,q.nm,q.l,q.mb,q.rb,q.f,q.o⟩
theorem PairAt.low (h:PairAt W0 w bp bb bs bm br cf gn la lc nsv nmv nn L M) (n:Int):PairAt W0 ((w.setCell ⟨bp,2,none⟩ (.int .i64 n)).setCell ⟨bp,3,none⟩ (.int .i64 n)) bp bb bs bm br cf { gn with lows:=n } la lc nsv nmv nn L M:=by
  obtain ⟨x4,h4⟩:=h.p4
  obtain ⟨x5,h5⟩:=h.p5
  obtain ⟨cb,hcb⟩:=h.tb
  obtain ⟨cs,hcs⟩:=h.ts
  obtain ⟨cp,hcp⟩:=h.book.typ
  obtain ⟨cr,hcr⟩:=h.ref.typ
  have hk:Kept (fun k=>k = bp) w ((w.setCell ⟨bp,2,none⟩ (.int .i64 n)).setCell ⟨bp,3,none⟩ (.int .i64 n)):=((Kept.refl (fun k=>k = bp) w).setCell (p:=⟨bp,2,none⟩) (fun _=>rfl) _).setCell (p:=⟨bp,3,none⟩) (fun _=>rfl) _
  have ne:∀ {b:Nat} {c:Array Value} {e:TypeId},w.heap[b]? = some (.cells c e (0,0))→e ≠ 41→b ≠ bp:=fun hb h1=>ne_of_elem hb hcp h1
  have far:∀ k,k ≠ 2→k ≠ 3→((w.setCell ⟨bp,2,none⟩ (.int .i64 n)).setCell ⟨bp,3,none⟩ (.int .i64 n)).cell? ⟨bp,k,none⟩ = w.cell? ⟨bp,k,none⟩:=fun k h2 h3=>(World.cell?_setCell_other _ _ _ _ (by simp <;> omega)).trans (World.cell?_setCell_other _ _ _ _ (by simp <;> omega))
  have c2:(w.setCell ⟨bp,2,none⟩ (.int .i64 n)).cell? ⟨bp,2,none⟩ = some (.int .i64 n):=World.cell?_setCell_same _ _ _ h.p2
  have c3:(w.setCell ⟨bp,2,none⟩ (.int .i64 n)).cell? ⟨bp,3,none⟩ = some (.int .i64 gn.lows):=(World.cell?_setCell_other _ _ _ _ (by simp)).trans h.p3
  have hpos:=h.pos
  have hlbp:=h.lbp
  have hB:=h.base.keptS hk (ne hcb (by decide)) (ne hcs (by decide)) (fun e=>h.base.map.mb_ne hcp e.symm) (by omega) (fun e he=>by obtain ⟨c,hc⟩:=(h.base.map.pts e he).obj; exact ne hc (by decide)) (fun k hf=>(h.pf k hf).2.1)
  refine ⟨(far 0 (by omega) (by omega)).trans h.p0,(far 1 (by omega) (by omega)).trans h.p1,(World.cell?_setCell_other _ _ _ _ (by simp)).trans c2,World.cell?_setCell_same _ _ _ c3,⟨x4,(far 4 (by omega) (by omega)).trans h4⟩,⟨x5,(far 5 (by omega) (by omega)).trans h5⟩,(h.book.setF (by omega) _).setF (by omega) _,⟨hB.b0,hB.b2,hB.b3,hB.b4,hB.b5,hB.b6,hB.b7,hB.b8,hB.s0,hB.s1,hB.map,hB.hdl,hB.g,hB.ok,hB.lv,hB.few,hB.ints,hB.len,hB.crd,hB.drw,hB.foot,hB.cfok⟩,h.ref.keptS hk (ne hcr (by decide)) (fun g hg=>?_) (fun e he=>?_),
    ⟨cb,(hk.block _ (heap_lt hcb) (ne hcb (by decide))).trans hcb⟩,⟨cs,(hk.block _ (heap_lt hcs) (ne hcs (by decide))).trans hcs⟩,h.am,h.old.trans (hk.toBelow h.old.size (fun k e=>by rw [e]; exact h.lbp)),h.pos,h.lbp,h.lbb,h.lbm,h.lbr,h.lla,h.lns,h.lnm,h.pf,h.x.rows hk (fun k hx=>(h.xa k hx).p) (fun o v ho hv=>(far o (by omega) (by omega)).trans hv),fun k hx=>?_,h.xn,h.o.kept hk (fun k e _ q=>q.p e) (fun _ _ q=>q)⟩
  · obtain ⟨c,hc⟩:=ownsRow_obj h.ref.row hg
    exact ne hc (by decide)
  · obtain ⟨c,hc⟩:=(h.ref.pts e he).obj
    exact ne hc (by decide)
  · have q:=h.xa k hx
    exact ⟨q.old,q.p,q.b,q.s,q.m,q.r,q.ns,q.nm,q.l,q.mb,q.rb,q.f,q.o⟩
end
end
section
open Go.RowKit Go.Maps

theorem irow_of_pts {w:World} {A c:Nat} {xs ys:List Int} (h:Pts w A c (xs ++ ys)):IRow w (.slice (some ⟨A,0,none⟩) xs.length c) xs:=by
  rcases h.2 with ⟨e,_⟩ | ⟨g,cap,cur,hv,h0,h1,h2,h3,h4,h5⟩
  · cases e
  · simp only [Value.slice.injEq,Option.some.injEq,Addr.mk.injEq] at hv
    obtain ⟨⟨rfl,_⟩,_,rfl⟩:=hv
    refine ⟨by simp [vals],.inr ⟨A,c,cur,rfl,h0,h1,by simp at h2; omega,h3,h4,?_⟩⟩
    have:=congrArg (List.take (xs.length * 1)) h5
    simpa [vals,List.take_take] using this

theorem opT {w:World} {X bp o:Nat} {q pv fv:Value} {kd id kk be t0 t1 draw:Int} (hX:w.heap[X]? = some (.cells #[.int .i64 kd,.int .i64 id,.int .i64 kk,.int .i64 be,pv,.int .i64 t0,.int .i64 t1,.int .u64 draw,fv] 49 (0,0))) (p0:w.cell? ⟨bp,o,none⟩ = some q) :
    w.cell? ⟨bp,o,none⟩ = some q∧w.cell? ⟨X,4,none⟩ = some pv∧w.cell? ⟨X,2,none⟩ = some (.int .i64 kk)∧w.cell? ⟨X,3,none⟩ = some (.int .i64 be)∧w.cell? ⟨X,8,none⟩ = some fv :=
  ⟨p0,by simp [World.cell?,hX],by simp [World.cell?,hX],by simp [World.cell?,hX],by simp [World.cell?,hX]⟩

structure Bes (w1 w:World) (X A1 T A Z n:Nat) (op:Array Value) (allv mv:Value) (F:List (List Cnd)) (ks:List Nat) (ys:List Int):Prop where
  x:w.heap[X]? = some (.cells op 49 (0,0))
  t:w.heap[T]? = some (.cells #[allv,mv] 141 (0,0))
  p:Pts w A1 n ys
  l:LentAt w1 w A mv Z F ks
theorem Bes.keptS {S:Nat→Prop} {w1 w w':World} {X A1 T A Z n:Nat} {op:Array Value} {allv mv:Value} {F:List (List Cnd)} {ks:List Nat} {ys:List Int} (h:Bes w1 w X A1 T A Z n op allv mv F ks ys) (hk:Kept S w w') (hX:¬ S X) (hT:¬ S T) (hA:¬ S A1) (hS:∀ k,S k→k < w1.heap.size ∨ (k ≠ A∧k ≠ Z∧k ∉ ks∧mv.ownBlock ≠ some k)):Bes w1 w' X A1 T A Z n op allv mv F ks ys :=
  ⟨(hk.block _ (heap_lt h.x) hX).trans h.x,(hk.block _ (heap_lt h.t) hT).trans h.t,ownsRow_kept h.p hk (fun g hg e=>hA ((show A1 = g by simpa [Value.ownBlock] using hg) ▸ e)),h.l.keptS hk hS⟩
section
variable {W0 w w':World} {bp bb bs bm br k:Nat} {gn:Net} {la:Option Addr} {lc:Nat} {nsv:BV} {nmv:Value} {L M:List Ent}
theorem Apart.look (h:Apart W0 k bp bb bs bm br gn la lc nsv nmv L M) (n:Int):Apart W0 k bp bb bs bm br { gn with looks:=n } la lc nsv nmv L M :=
  ⟨⟨h.old,h.p,h.b,h.s,h.m,h.r,h.ns,h.nm,h.l,h.mb,h.rb,h.f,h.o⟩,h.x⟩
theorem Apart.low (h:Apart W0 k bp bb bs bm br gn la lc nsv nmv L M) (n:Int):Apart W0 k bp bb bs bm br { gn with lows:=n } la lc nsv nmv L M :=
  ⟨⟨h.old,h.p,h.b,h.s,h.m,h.r,h.ns,h.nm,h.l,h.mb,h.rb,h.f,h.o⟩,h.x⟩
theorem Apart.later {nsv':BV} {lv0 lv nmv':Value} {n a b:Nat} (h:Apart W0 k bp bb bs bm br gn la lc nsv nmv L M) (hs:InB w bp lv0 nsv nmv w' lv n nsv' a nmv' b) (hk:k < w.heap.size) (hl:lv0.ownBlock ≠ some k):Apart W0 k bp bb bs bm br gn la lc nsv' nmv' L M :=
  ⟨⟨h.old,h.p,h.b,h.s,h.m,h.r,fun e=>(hs.ls k e).elim h.ns (fun e=>by omega),fun e=>(hs.lm k e).elim h.nm (fun e=>by omega),h.l,h.mb,h.rb,h.f,fun hf=>by
    obtain ⟨rs,_,_,eO,_,eR⟩:=hs.ext
    rcases hf with e | e
    · rcases (eO k).1 e with e | ⟨r,hr,e⟩
      · exact h.o (.inl e)
      · exact (eR r hr k e).2.2.2.2.elim hl (fun e=>by omega)
    · exact h.o (.inr e)⟩,h.x⟩
end
theorem LentAt.weaken {w0 w1 w:World} {A:Nat} {mv:Value} {Z:Nat} {F:List (List Cnd)} {ks:List Nat} (h:LentAt w1 w A mv Z F ks) (hz:w0.heap.size≤w1.heap.size):LentAt w0 w A mv Z F ks :=
  ⟨h.all,h.mine,h.len,h.cls,h.nod,h.z,h.zk,fun k hk=>Nat.le_trans hz (h.new k hk),Nat.le_trans hz h.znew,Nat.le_trans hz h.anew,fun g e=>Nat.le_trans hz (h.mnew g e)⟩

set_option maxHeartbeats 4000000 in
set_option maxRecDepth 20000 in
theorem searches38 (W0 w:World) (bp bb bs bm br:Nat) (cf:Cf) (gn:Net) (la:Option Addr) (lc:Nat) (nsv:BV) (nmv:Value) (nn:Nat) (L:List Ent) (kd id kk be t0 t1 draw:Int) (xs:List Int) (pa:Option Addr) (pc:Nat) (fv:Value) (F:List (List Cnd))
    (h:PairAt W0 w bp bb bs bm br cf gn la lc nsv nmv nn L L) (hlk:Lk gn nn) (hv:IntsAt W0 (.slice pa xs.length pc) xs) (hf:FiltAt W0 fv F) (hn:(xs.length + 6) * 8≤140737488355328) (hnn:(nn + 4) * 24≤140737488355328) (hfn:(F.length + 1) * 24≤140737488355328) (hfm:∀ c ∈ F,(c.length + 1) * 24≤140737488355328) :
    Calls Tryz.prog 38 #[.pointer (some ⟨bp,0,none⟩),.agg #[.int .i64 kd,.int .i64 id,.int .i64 kk,.int .i64 be,.slice pa xs.length pc,.int .i64 t0,.int .i64 t1,.int .u64 draw,fv]] w fun ev w'=>ev = .returned (.bool true)∧StepOk W0 bp bb bs bm br cf gn.ex nn w':=by
  have hf0:=hf
  obtain ⟨fa,fcap,rfl,_⟩:=hf0
  have hxl:xs.length≤17592186044416:=by omega
  have hfl:F.length≤17592186044416:=by omega
  have hva:=(hv.below h.old).below ((Below.refl _ _).alloc (Nat.le_refl _) (.cells #[.int .i64 kd,.int .i64 id,.int .i64 kk,.int .i64 be,.slice pa xs.length pc,.int .i64 t0,.int .i64 t1,.int .u64 draw,.slice fa F.length fcap] 49))
  have hn2:(xs.length + 2) * 8≤140737488355328:=Nat.le_trans (Nat.mul_le_mul_right 8 (by omega)) hn
  have hpl:=h.book.lt
  have H:=hide h
  have HV:=hide hv
  have HF:=hide hf
  have HVA:=hide hva
  have HN:=hide hn
  have HN2:=hide hn2
  have HNN:=hide hnn
  have HFN:=hide hfn
  have HFM:=hide hfm
  clear hva hn hn2 hnn hv h hf hfn hfm
  go_enter Tryz.func38,Tryz.ntmps38
  go_wp2_with fail
  refine (copied33_any xs (.slice pa xs.length pc) _ HVA.out HN2.out).mono ?_
  rintro ev w1 ⟨rfl,hp,hb⟩
  have hp1:Pts w1 (w.heap.size + 1) (xs.length + 2) (xs ++ [77,78]):=by simpa using hp
  have hX1:w1.heap[w.heap.size]? = some (.cells #[.int .i64 kd,.int .i64 id,.int .i64 kk,.int .i64 be,.slice pa xs.length pc,.int .i64 t0,.int .i64 t1,.int .u64 draw,.slice fa F.length fcap] 49 (0,0)):=(hb.block _ (by simp)).trans (heap_alloc_new w _)
  have hbw:Below w.heap.size w w1:=((Below.refl _ _).alloc (Nat.le_refl _) _).trans (hb.mono (by simp))
  have h1:=H.out.below hbw
  have H1:=hide h1
  have HP1:=hide hp1
  have HX1:=hide hX1
  have HBW:=hide hbw
  have hzw:w.heap.size + 1 < w1.heap.size:=(hp1.lt (w.heap.size + 1) rfl).2
  obtain ⟨q0,q1,q2,q3,q8⟩:=opT hX1 h1.p0
  clear hp hb hp1 hX1 hbw h1 q0 q2 q3
  go_wp2_with fail
  refine (lend74 (.slice fa F.length fcap) F w1 (HF.out.below H1.out.old) HFN.out HFM.out).mono ?_
  rintro ev w2 ⟨A,mv,Z,ks,rfl,hL2,hb2⟩
  have H2:=hide (H1.out.below hb2)
  have HP2:=hide (ownsRow_below HP1.out hb2)
  have HX2:=hide ((hb2.block _ (heap_lt HX1.out)).trans HX1.out)
  have HL2:=hide hL2
  have HB2:=hide hb2
  obtain ⟨ma,mn,mc,hmv⟩:∃ ma mn mc,mv = .slice ma mn mc:=by
    rcases hL2.mine.2 with ⟨e,_⟩ | ⟨_,_,_,e,_⟩
    · exact ⟨_,_,_,e⟩
    · exact ⟨_,_,_,e⟩
  subst hmv
  have hz2:=hb2.size
  clear hL2 hb2 q1 q8
  have c80:=H2.out.base.b8
  have p00:=H2.out.p0
  have hbl2:=H2.out.book.lt
  go_wp2_with (go_at_call 31; refine (looks31 bb gn.looks _ (by exact (H2.out.alloc _).base.b8)).mono ?_; rintro ev3 w3 ⟨rfl,rfl⟩)
  have hBes:Bes w1 (w2.alloc (.cells #[.slice (some ⟨A,0,none⟩) (F.length + 1) (F.length + 1),.slice ma mn mc] 141)) w.heap.size (w.heap.size + 1) w2.heap.size A Z (xs.length + 2) #[.int .i64 kd,.int .i64 id,.int .i64 kk,.int .i64 be,.slice pa xs.length pc,.int .i64 t0,.int .i64 t1,.int .u64 draw,.slice fa F.length fcap] (.slice (some ⟨A,0,none⟩) (F.length + 1) (F.length + 1)) (.slice ma mn mc) F ks (xs ++ [77,78]):=by
    have hal:Below w2.heap.size w2 (w2.alloc (.cells #[.slice (some ⟨A,0,none⟩) (F.length + 1) (F.length + 1),.slice ma mn mc] 141)):=(Below.refl _ _).alloc (Nat.le_refl _) _
    exact ⟨(hal.block _ (heap_lt HX2.out)).trans HX2.out,heap_alloc_new _ _,ownsRow_below HP2.out hal,HL2.out.keptS (Kept.of_below (fun _=>False) hal) (fun _ e=>e.elim)⟩
  have H3:=hide (H2.out.alloc (.cells #[.slice (some ⟨A,0,none⟩) (F.length + 1) (F.length + 1),.slice ma mn mc] 141))
  have hT3:w.heap.size + 1 < w2.heap.size:=by omega
  have BES3:=hide hBes
  clear hBes HX2 HP2 HL2 c80 p00 hbl2
  generalize hwe:w2.alloc (.cells #[.slice (some ⟨A,0,none⟩) (F.length + 1) (F.length + 1),.slice ma mn mc] 141) = w3 at H3 BES3 ⊢
  have hw3:w3.heap.size = w2.heap.size + 1:=by rw [← hwe]; simp
  generalize hTT:w2.heap.size = T at BES3 hT3 hw3 ⊢
  have HW3:=hide hw3
  have HTT:=hide hTT
  clear hwe hTT
  obtain ⟨s0,s4,s2,s3,s8⟩:=opT BES3.out.x H3.out.p0
  have st0:=cells_at BES3.out.t 0 rfl
  have bz1:(0:Int)≤(xs.length:Int):=by omega
  have bz2:(xs.length:Int)≤(xs.length:Int) + 2:=by omega
  have bz3:(0:Int)≤(F.length:Int):=by omega
  have bz4:(F.length:Int)≤(F.length:Int) + 1:=by omega
  have HSE:Hid (Calls Tryz.prog 26 #[.pointer (some ⟨bb,0,none⟩),.slice (some ⟨w.heap.size + 1,0,none⟩) xs.length (xs.length + 2),.int .i64 kk,.int .i64 be,.agg #[.slice (some ⟨A,0,none⟩) F.length (F.length + 1)]] w3.drew fun ev w'=>∃ v l n,ev = .returned (.tuple #[v,.int .i64 (schCode cf.dim xs kk be F)])∧HRow w' v l∧(∀ g,v.ownBlock = some g→w3.drew.heap.size≤g) ∧
      BaseAt w' bb bs bm cf { gn with looks:=gn.looks + n } L∧Kept (fun k=>k = bb) w3.drew w'∧(∃ cs,w'.heap[bb]? = some (.cells cs 102 (0,0)))∧SeOk cf gn L xs F kk be l n):=by
    have hdb:Below w3.heap.size w3 w3.drew:=(Below.refl _ _).drew
    refine searchU bb bs bm cf gn L _ xs kk be _ F w3.drew (H3.out.base.below hdb) H3.out.tb H3.out.ts (irow_of_pts (ownsRow_below BES3.out.p hdb)) (ints_of_pts (ownsRow_below BES3.out.p hdb) hxl _ (by omega)) ((BES3.out.l.filt (fun c hc=>by have:=HFM.out c hc; omega) hfl).below hdb) ⟨hlk.2.1,?_⟩
    have h1:=hlk.2.2.1
    have h2:=HNN.out
    omega
  have hcpX:∃ cp,w3.heap[bp]? = some (.cells cp 41 (0,0)):=H3.out.book.typ
  have HKEEP:Hid (∀ W,Kept (fun k=>k = bb) w3.drew W→(W.cell? ⟨bp,0,none⟩ = some (.pointer (some ⟨bb,0,none⟩))∧W.cell? ⟨w.heap.size,4,none⟩ = some (.slice pa xs.length pc)∧W.cell? ⟨w.heap.size,2,none⟩ = some (.int .i64 kk)∧W.cell? ⟨w.heap.size,3,none⟩ = some (.int .i64 be)∧W.cell? ⟨w.heap.size,8,none⟩ = some (.slice fa F.length fcap))∧W.cell? ⟨T,0,none⟩ = some (.slice (some ⟨A,0,none⟩) (F.length + 1) (F.length + 1))):=fun W hW=>by
    obtain ⟨cb,hcb⟩:=H3.out.tb
    obtain ⟨cp,hcp⟩:=hcpX
    have n1:bp ≠ bb:=ne_of_elem hcp hcb (by decide)
    have n2:w.heap.size ≠ bb:=ne_of_elem BES3.out.x hcb (by decide)
    have n3:T ≠ bb:=ne_of_elem BES3.out.t hcb (by decide)
    exact ⟨⟨hW.cell s0 n1,hW.cell s4 n2,hW.cell s2 n2,hW.cell s3 n2,hW.cell s8 n2⟩,hW.cell st0 n3⟩
  clear hcpX
  go_region_held3 (fun wx=>(wx.cell? ⟨bp,0,none⟩ = some (.pointer (some ⟨bb,0,none⟩))∧wx.cell? ⟨w.heap.size,4,none⟩ = some (.slice pa xs.length pc)∧wx.cell? ⟨w.heap.size,2,none⟩ = some (.int .i64 kk)∧wx.cell? ⟨w.heap.size,3,none⟩ = some (.int .i64 be)∧wx.cell? ⟨w.heap.size,8,none⟩ = some (.slice fa F.length fcap))∧wx.cell? ⟨T,0,none⟩ = some (.slice (some ⟨A,0,none⟩) (F.length + 1) (F.length + 1)))
    (first | (exact HKEEP.out _ (Kept.refl _ _)) | (with_reducible exact HKEEP.out _ k4d) | (refine HKEEP.out _ ?_; refine Kept.drew ?_; with_reducible exact k4d))
    (first | (go_at_call 26; refine HSE.out.mono ?_; rintro ev4 w4 ⟨v,l,n,rfl,r4,f4,b4,k4d,t4,se⟩))
  have K4:Hid (Kept (fun k=>k = bb) w3 w4):=(Kept.refl _ w3).drew.trans k4d (fun _ _ h=>h)
  have H4:=hide (H3.out.looked K4.out b4 t4)
  have hbbl:bb < w1.heap.size:=by
    obtain ⟨cb,hcb⟩:=H1.out.tb
    exact heap_lt hcb
  have BES4:Hid (Bes w1 w4 w.heap.size (w.heap.size + 1) T A Z (xs.length + 2) #[.int .i64 kd,.int .i64 id,.int .i64 kk,.int .i64 be,.slice pa xs.length pc,.int .i64 t0,.int .i64 t1,.int .u64 draw,.slice fa F.length fcap] (.slice (some ⟨A,0,none⟩) (F.length + 1) (F.length + 1)) (.slice ma mn mc) F ks (xs ++ [77,78])):=by
    obtain ⟨cb,hcb⟩:=H3.out.tb
    refine BES3.out.keptS K4.out (ne_of_elem BES3.out.x hcb (by decide)) (ne_of_elem BES3.out.t hcb (by decide)) (fun e=>?_) (fun k e=>.inl (by rw [e]; exact hbbl))
    obtain ⟨c2,hc2⟩:=BES3.out.p.obj
    exact ne_of_elem hc2 hcb (by decide) e
  have R4:=hide r4
  have F4:Hid (∀ g,v.ownBlock = some g→w3.heap.size≤g):=f4
  have SE:=hide se
  have c8:=H4.out.base.b8
  have p0:=H4.out.p0
  clear r4 f4 b4 k4d t4 se hbbl HKEEP HSE s0 s4 s2 s3 s8 st0 bz1 bz2 bz3 bz4
  have hsub:IntKind.i64.wrap (gn.looks + n - gn.looks) = IntKind.i64.wrap n:=by congr 1; omega
  go_wp2_with (go_at_call 31; refine (looks31 bb (gn.looks + n) _ c8).mono ?_; rintro ev5 w5 ⟨rfl,rfl⟩)
  clear c8 p0 hsub
  refine (whole34_any xs (.slice pa xs.length pc) (w.heap.size + 1) (xs.length + 2) w4 BES4.out.p ?c1 ?c2).mono ?_
  case c1=>exact HV.out.below H4.out.old
  case c2=>exact fun b off n c e hx=>by have:=HV.out.lt b off n c e hx; have:=H.out.old.size; omega
  rintro ev w5 ⟨rfl,⟨ys,hyl,hpy⟩,hk5⟩
  have hA1:=(H.out.apart (A:=w.heap.size + 1) (by omega)).look (gn.looks + n)
  have hXT:w.heap.size ≠ w.heap.size + 1∧T ≠ w.heap.size + 1:=⟨by omega,by omega⟩
  have BES5:Hid (Bes w1 w5 w.heap.size (w.heap.size + 1) T A Z (xs.length + 2) #[.int .i64 kd,.int .i64 id,.int .i64 kk,.int .i64 be,.slice pa xs.length pc,.int .i64 t0,.int .i64 t1,.int .u64 draw,.slice fa F.length fcap] (.slice (some ⟨A,0,none⟩) (F.length + 1) (F.length + 1)) (.slice ma mn mc) F ks ys) :=
    ⟨(hk5.block _ (heap_lt BES4.out.x) hXT.1).trans BES4.out.x,(hk5.block _ (heap_lt BES4.out.t) hXT.2).trans BES4.out.t,hpy,BES4.out.l.keptS hk5 (fun k e=>.inl (by rw [e]; exact hzw))⟩
  have H5:=hide (H4.out.one hA1 hk5)
  have hp5:w5.ownsRow 0 3 1 (.slice (some ⟨w.heap.size + 1,0,none⟩) (xs.length + 2) (xs.length + 2)) (xs.length + 2) (ys.map (Value.int .i64)):=hyl ▸ hpy
  have HI:=hide (H5.out.book.ins hp5 fun g' hg' e=>hA1.nm (by rw [e,← hg']; rfl))
  have HA1:=hide hA1
  have R5:=hide (ownsRow_kept R4.out hk5 fun g hg e=>by have h1:=F4.out g hg; have:=HW3.out; omega)
  have hbp6:(⟨bp,6,none⟩:Addr) = ⟨bp,6,none⟩:=rfl
  have hz5:=hk5.size
  clear hyl hpy hk5 hA1 hXT hp5
  go_wp2_with fail
  refine (ints35_rec bp (some ⟨w.heap.size + 1,0,none⟩) (xs.length + 2) (xs.length + 2) nsv nmv nn w5 HI.out H5.out.book HN.out HNN.out).mono ?_
  rintro ev w6 ⟨rfl,lv',nsv',nmv',hs6⟩
  have H6:=hide (H5.out.ints' HA1.out hs6)
  have aX:=H.out.apart (A:=w.heap.size) (Nat.le_refl _)
  have aT:=H.out.apart (A:=T) (by omega)
  have hS6:∀ k,(k = bp ∨ (Value.slice (some ⟨w.heap.size + 1,0,none⟩) (xs.length + 2) (xs.length + 2)).ownBlock = some k ∨ nsv.ownBlock = some k ∨ nmv.ownBlock = some k)→k < w1.heap.size:=fun k hk=>by
    rcases hk with e | e | e | e
    · rw [e]; exact H1.out.book.lt
    · obtain rfl:w.heap.size + 1 = k:=by simpa [Value.ownBlock] using e
      exact hzw
    · obtain ⟨_,hh⟩:=H1.out.book.hs
      exact (hh.lt k e).2
    · obtain ⟨_,hh⟩:=H1.out.book.hm
      exact (hh.lt k e).2
  have nX:¬ (w.heap.size = bp ∨ (Value.slice (some ⟨w.heap.size + 1,0,none⟩) (xs.length + 2) (xs.length + 2)).ownBlock = some w.heap.size ∨ nsv.ownBlock = some w.heap.size ∨ nmv.ownBlock = some w.heap.size):=fun hx=>by
    rcases hx with e | e | e | e
    · exact aX.p e
    · simp [Value.ownBlock] at e
    · exact aX.ns e
    · exact aX.nm e
  have nT:¬ (T = bp ∨ (Value.slice (some ⟨w.heap.size + 1,0,none⟩) (xs.length + 2) (xs.length + 2)).ownBlock = some T ∨ nsv.ownBlock = some T ∨ nmv.ownBlock = some T):=fun hx=>by
    have:=hS6 T hx
    have:=HTT.out
    omega
  have X6:=hide ((hs6.kept.block _ (heap_lt BES5.out.x) nX).trans BES5.out.x)
  have T6:=hide ((hs6.kept.block _ (heap_lt BES5.out.t) nT).trans BES5.out.t)
  have L6:=hide (BES5.out.l.keptS hs6.kept (fun k e=>.inl (hS6 k e)))
  have hz13:w1.heap.size≤w3.heap.size:=by have:=HW3.out; have:=HTT.out; omega
  have R6:=hide (ownsRow_kept R5.out hs6.kept fun g hg e=>by have h1:=F4.out g hg; have h2:=hS6 g e; omega)
  have HKS:Hid (∀ k ∈ ks,w1.heap.size≤k∧k < w3.heap.size):=fun k hk=>by
    refine ⟨BES3.out.l.new k hk,?_⟩
    obtain ⟨i,hi,e⟩:=List.mem_iff_getElem.1 hk
    have h2:=heap_lt (BES3.out.l.cls i (by rw [← BES3.out.l.len]; exact hi))
    rw [List.getD_eq_getElem?_getD,List.getElem?_eq_getElem hi] at h2
    simpa [e] using h2
  have hz35:w3.heap.size≤w5.heap.size:=by have:=K4.out.size; omega
  have HAK:Hid (∀ k,w1.heap.size≤k→k < w5.heap.size→Apart W0 k bp bb bs bm br { gn with looks:=gn.looks + n } la lc nsv' nmv' L L):=fun k h1 h2=>((H1.out.apart h1).look _).later hs6 h2 (fun e=>by have e2:w.heap.size + 1 = k:=(by simpa [Value.ownBlock] using e); omega)
  have HR5:Hid (∀ g,v.ownBlock = some g→w3.heap.size≤g∧g < w5.heap.size):=fun g e=>⟨F4.out g e,(R5.out.lt g e).2⟩
  have HZ:=hide hz13
  have HZ35:=hide hz35
  have hz6:=hs6.kept.size
  clear hs6 nX nT aX aT hS6 hz13 hz35
  obtain ⟨t60,t61⟩:=And.intro (cells_at T6.out 0 rfl) (cells_at T6.out 1 rfl)
  obtain ⟨q0,q4,q2,q3,q8⟩:=opT X6.out H6.out.p1
  clear q0 q4 q2 q3
  have hzW:W0.heap.size≤w1.heap.size:=H1.out.old.size
  go_wp2_with fail
  refine (kept75 W0 w6 A (.slice ma mn mc) Z F ks (.slice fa F.length fcap) (L6.out.weaken hzW) H6.out.old HF.out HFM.out HFN.out).mono ?_
  rintro ev w7 ⟨rfl,k7⟩
  have H7:=hide (H6.out.away (fun k hk=>HAK.out k (HKS.out k hk).1 (by have h1:=(HKS.out k hk).2; have h2:=HZ35.out; omega)) k7)
  have X7:=hide ((k7.block _ (heap_lt X6.out) (fun hk=>by have h1:=(HKS.out _ hk).1; omega)).trans X6.out)
  have R7:=hide (ownsRow_kept R6.out k7 fun g hg hk=>by have h1:=(HKS.out _ hk).2; have h2:=(HR5.out g hg).1; omega)
  have hz7:=k7.size
  clear k7 t60 t61 q8 H6 X6 T6 L6 R6 R5 R4 H5 BES5 BES4 BES3 H3 H4 HI HKS
  have hS7:=opT X7.out H7.out.p1
  have HRF:Hid (Calls Tryz.prog 76 #[.pointer (some ⟨br,0,none⟩),.slice pa xs.length pc,.int .i64 kk,.int .i64 be,.agg #[.slice fa F.length fcap]] w7.drew fun e w'=>e = .returned (.int .i64 (schCode cf.dim xs kk be F))∧Below w7.drew.heap.size w7.drew w'):=refusedR br cf la lc L _ xs kk be _ F w7.drew (H7.out.ref.below (Below.refl _ _).drew) ((HV.out.below H7.out.old).below (Below.refl _ _).drew) ((HF.out.below H7.out.old).below (Below.refl _ _).drew)
  have HK7:Hid (∀ W,Below w7.heap.size w7 W→W.cell? ⟨bp,1,none⟩ = some (.pointer (some ⟨br,0,none⟩))∧W.cell? ⟨w.heap.size,4,none⟩ = some (.slice pa xs.length pc)∧W.cell? ⟨w.heap.size,2,none⟩ = some (.int .i64 kk)∧W.cell? ⟨w.heap.size,3,none⟩ = some (.int .i64 be)∧W.cell? ⟨w.heap.size,8,none⟩ = some (.slice fa F.length fcap)):=fun W hW=>⟨cell_below hS7.1 hW,cell_below hS7.2.1 hW,cell_below hS7.2.2.1 hW,cell_below hS7.2.2.2.1 hW,cell_below hS7.2.2.2.2 hW⟩
  clear hS7
  go_wp2
  go_region_held3 (fun wx=>wx.cell? ⟨bp,1,none⟩ = some (.pointer (some ⟨br,0,none⟩))∧wx.cell? ⟨w.heap.size,4,none⟩ = some (.slice pa xs.length pc)∧wx.cell? ⟨w.heap.size,2,none⟩ = some (.int .i64 kk)∧wx.cell? ⟨w.heap.size,3,none⟩ = some (.int .i64 be)∧wx.cell? ⟨w.heap.size,8,none⟩ = some (.slice fa F.length fcap))
    ((refine HK7.out _ ?_; repeat (first | with_reducible exact hb8 | exact Below.refl _ _ | refine Below.drew ?_)))
    (first | (go_at_call 76; refine HRF.out.mono ?_; rintro ev8 w8 ⟨rfl,b8d⟩; have hb8:Below w7.heap.size w7 w8:=Below.undrew b8d))
  have H8:=hide (H7.out.below hb8)
  have X8:=hide ((hb8.block _ (heap_lt X7.out)).trans X7.out)
  have R8:=hide (ownsRow_below R7.out hb8)
  have hz8:=hb8.size
  clear b8d hb8 HK7 HRF H7 X7 R7
  obtain ⟨va,vc,hvv,_⟩:=HRow.slice R8.out
  subst hvv
  obtain ⟨se1,se2⟩:=SE.out
  clear SE
  have HC0:Hid (schCode cf.dim xs kk be F = schCode cf.dim xs kk be F):=rfl
  generalize hrr:schCode cf.dim xs kk be F = r at se1 se2 ⊢
  have HRR:=hide hrr
  clear hrr HC0
  by_cases hr:r = 0
  · subst hr
    obtain ⟨hl,hnl⟩:=se2 rfl
    clear se1 se2
    obtain ⟨hpc,hk1,hk2,hb1,hb2,hfb⟩:=schCode_ok HRR.out
    obtain ⟨hxd,hxc⟩:=ptCode_crd hpc
    have hok:F.all clauseB = true:=by
      unfold filtB at hfb
      simp at hfb
      simpa using hfb.2
    have hm3:cf.metric = 0 ∨ cf.metric = 1 ∨ cf.metric = 2:=by have h1:=H.out.base.cfok.m0; have h2:=H.out.base.cfok.m2; omega
    have hx100:xs.length≤100:=by have h1:=H.out.base.cfok.d8; omega
    have HNR:Hid (Calls Tryz.prog 78 #[.pointer (some ⟨br,0,none⟩),.slice pa xs.length pc,.agg #[.slice fa F.length fcap]] w8.drew fun ev w'=>∃ v l,ev = .returned v∧NrS w8.drew w' (.slice fa F.length fcap) v l∧l.Pairwise hle∧l.Perm (hitsL cf.metric xs F L)):=nearestR br cf la lc L _ xs _ F w8.drew (H8.out.ref.below (Below.refl _ _).drew) ((HV.out.below H8.out.old).below (Below.refl _ _).drew) ((HF.out.below H8.out.old).below (Below.refl _ _).drew) hok hm3 hxc (fun e he=>by have:=H.out.base.len e he; omega) H.out.base.crd hx100
    have HRO:Hid (∀ all:List Hit,all.Pairwise hle→all.Perm (hitsL cf.metric xs F L)→RightL l all kk be):=fun all h1 h2=>by rw [hl]; exact (right_of H.out.base xs F kk be hk1 all h1 h2).1
    have hnb:(l.length:Int)≤n∧n≤(L.length:Int):=by
      obtain ⟨_,_,_,_,_,s6,s7⟩:=srR_spec H.out.base xs F (max kk be) (by omega)
      have h3:=List.length_take_le (min kk ((srR cf gn L xs F (max kk be)).2.length:Int)).toNat (srR cf gn L xs F (max kk be)).2
      have h4:=List.length_take_le' (min kk ((srR cf gn L xs F (max kk be)).2.length:Int)).toNat (srR cf gn L xs F (max kk be)).2
      rw [← hl] at h3 h4
      rw [hnl]
      omega
    have hL60:=H.out.base.few
    have hpg:=placesL_ge cf L
    have hkb:(1≤kk∧kk≤1000)∧(1≤be∧be≤1000):=by omega
    have HKB:=hide hkb
    have hS8:=opT X8.out H8.out.p1
    have HK8:Hid (∀ W,Below w8.heap.size w8 W→W.cell? ⟨bp,1,none⟩ = some (.pointer (some ⟨br,0,none⟩))∧W.cell? ⟨w.heap.size,4,none⟩ = some (.slice pa xs.length pc)∧W.cell? ⟨w.heap.size,2,none⟩ = some (.int .i64 kk)∧W.cell? ⟨w.heap.size,3,none⟩ = some (.int .i64 be)∧W.cell? ⟨w.heap.size,8,none⟩ = some (.slice fa F.length fcap)):=fun W hW=>⟨cell_below hS8.1 hW,cell_below hS8.2.1 hW,cell_below hS8.2.2.1 hW,cell_below hS8.2.2.2.1 hW,cell_below hS8.2.2.2.2 hW⟩
    have hwn:wrap64 n = n:=by unfold wrap64; omega
    rw [hwn]
    have HWN:=hide hwn
    have HNB:=hide hnb
    have HPG:=hide hpg
    clear hS8 hl hnl hpc hk1 hk2 hb1 hb2 hfb hxd hxc hok hm3 hx100 hnb hpg hkb hwn
    go_wp2
    go_region_held3 (fun wx=>wx.cell? ⟨bp,1,none⟩ = some (.pointer (some ⟨br,0,none⟩))∧wx.cell? ⟨w.heap.size,4,none⟩ = some (.slice pa xs.length pc)∧wx.cell? ⟨w.heap.size,2,none⟩ = some (.int .i64 kk)∧wx.cell? ⟨w.heap.size,3,none⟩ = some (.int .i64 be)∧wx.cell? ⟨w.heap.size,8,none⟩ = some (.slice fa F.length fcap))
      ((refine HK8.out _ ?_; repeat (first | with_reducible exact hb9 | exact Below.refl _ _ | refine Below.drew ?_)))
      (first | (go_at_call 78; refine HNR.out.mono ?_; rintro ev9 w9 ⟨v9,l9,rfl,n9,pw9,pm9⟩; have hb9:Below w8.heap.size w8 w9:=Below.undrew n9.below))
    have H9:=hide (H8.out.below hb9)
    have X9:=hide ((hb9.block _ (heap_lt X8.out)).trans X8.out)
    have R9:=hide (ownsRow_below R8.out hb9)
    have hall:l9.length≤1000:=by
      have h1:=pm9.length_eq
      have h2:=hitsL_len cf.metric xs F L
      omega
    have HRG:Hid (Calls Tryz.prog 79 #[.slice va l.length vc,v9,.int .i64 kk,.int .i64 be] w9 fun ev w'=>ev = .returned (.bool true)∧Below w9.heap.size w9 w'):=rightR _ _ l l9 kk be w9 R9.out n9.row (HRO.out l9 pw9 pm9) HKB.out.1 HKB.out.2 hall
    have z2:=cells_at X9.out 2 rfl
    have z3:=cells_at X9.out 3 rfl
    clear n9 pw9 pm9 hb9 hall HRO HNR HK8 H8 X8 R8
    go_wp2_with fail
    refine HRG.out.mono ?_
    rintro ev10 w10 ⟨rfl,hb10⟩
    have H10:=hide (H9.out.below hb10)
    have R10:=hide (ownsRow_below R9.out hb10)
    clear hb10 z2 z3 H9 X9 R9 HRG
    go_wp2_with fail
    refine (placesR bp br cf la lc L w10 H10.out.p1 H10.out.ref H.out.base.cfok H.out.base.drw).mono ?_
    rintro ev11 w11 ⟨rfl,hb11⟩
    have H11:=hide (H10.out.below hb11)
    have R11:=hide (ownsRow_below R10.out hb11)
    clear hb11 H10 R10
    have p2:=H11.out.p2
    have p3:=H11.out.p3
    have pf:=H11.out.book.frozen
    have d1:decide ((l.length:Int)≤n) = true:=decide_eq_true HNB.out.1
    have d2:decide (n≤placesL cf L) = true:=decide_eq_true (by have h1:=HNB.out.2; have h2:=HPG.out; omega)
    have hwl:IntKind.i64.wrap (gn.lows + n) = gn.lows + n:=by
      rw [IntKind.wrap_i64]
      have h1:=hlk.1
      have h2:=And.intro hlk.2.1 hlk.2.2.1
      have h3:=HNB.out
      have h4:=HNN.out
      omega
    have hbp:=H11.out.book.lt
    generalize placesL cf L = pl at d2
    go_wp2_with fail
    have H12:=hide (H11.out.low (gn.lows + n))
    have R12:Hid (HRow ((w11.setCell ⟨bp,2,none⟩ (.int .i64 (gn.lows + n))).setCell ⟨bp,3,none⟩ (.int .i64 (gn.lows + n))) (.slice va l.length vc) l):=by
      refine ownsRow_of_block R11.out fun g hg=>?_
      obtain ⟨c1,hc1⟩:=ownsRow_obj R11.out hg
      obtain ⟨cp,hcp⟩:=H11.out.book.typ
      have hne:g ≠ bp:=ne_of_elem hc1 hcp (by decide)
      exact (Below.heap_setCell _ _ _ _ hne).trans (Below.heap_setCell _ _ _ _ hne)
    have hl60:l.length≤1000:=by have h1:=HNB.out; omega
    clear p2 p3 pf d1 d2 hwl hbp H11 R11
    generalize (w11.setCell ⟨bp,2,none⟩ (.int .i64 (gn.lows + n))).setCell ⟨bp,3,none⟩ (.int .i64 (gn.lows + n)) = w12 at H12 R12 ⊢
    refine (hits77_rec bp va l.length vc gn.ex w12 H12.out.book.typ H12.out.book.c6 H12.out.book.c7 H12.out.x ⟨_,R12.out⟩ hl60 ?c2).mono ?_
    case c2 =>
      have h1:=H.out.xn.1
      have h2:=HNN.out
      exact Nat.le_trans (Nat.mul_le_mul_right 24 (by omega)) h2
    rintro ev w13 ⟨rfl,X',m,m',lv9,hsv',hmv',B9,rs9,hs9,hr9⟩
    have h13:=H12.out.hits (fun g hg=>(HAK.out g (by have h1:=(HR5.out g hg).1; have h2:=HZ.out; omega) (HR5.out g hg).2).low _) (by have h1:=H.out.xn.1; show gn.ex.nh + 4≤nn + 4; omega) hs9 hr9
    have H13:=hide h13
    clear h13 hs9 hr9
    go_wp2
    go_ret
    refine ⟨rfl,_,_,_,_,_,_,_,Nat.le_refl _,H13.out,⟨?_,?_,?_,hlk.2.2.2⟩,⟨rfl,rfl,rfl⟩⟩
    · show gn.lows + n = gn.looks + n
      rw [hlk.1]
    · show 0≤gn.looks + n
      have h1:=hlk.2.1
      have h2:=HNB.out.1
      omega
    · show gn.looks + n≤400 * ((nn + 4:Nat):Int)
      have h1:=hlk.2.2.1
      have h2:=HNB.out.2
      push_cast
      omega
  · have hr0:(r == 0) = false:=by simpa using hr
    obtain ⟨rfl,rfl⟩:=se1 hr
    clear se1 se2
    have hbp:=H8.out.book.lt
    have hw0:wrap64 0 = 0:=by first | rfl | (simp [wrap64]; done) | (unfold wrap64; omega) | (have:=IntKind.wrap_i64 0; simp at this; exact this)
    rw [hw0]
    go_wp2_with fail
    refine (hits77_rec bp va 0 vc gn.ex w8 H8.out.book.typ H8.out.book.c6 H8.out.book.c7 H8.out.x ⟨_,R8.out⟩ (by omega) ?c1).mono ?_
    case c1 =>
      have h1:=H.out.xn.1
      have h2:=HNN.out
      exact Nat.le_trans (Nat.mul_le_mul_right 24 (by omega)) h2
    rintro ev w9 ⟨rfl,X',m,m',lv9,hsv',hmv',B9,rs9,hs9,hr9⟩
    have h9:=H8.out.hits (fun g hg=>HAK.out g (by have h1:=(HR5.out g hg).1; have h2:=HZ.out; omega) (HR5.out g hg).2) (by have h1:=H.out.xn.1; show gn.ex.nh + 4≤nn + 4; omega) hs9 hr9
    have H9:=hide h9
    clear h9 hs9 hr9
    go_wp2
    go_ret
    exact ⟨rfl,_,_,_,_,_,_,_,Nat.le_refl _,H9.out,⟨hlk.1.trans (Int.add_zero _).symm,by show 0≤gn.looks + 0; have:=hlk.2.1; omega,by show gn.looks + 0≤_; have:=hlk.2.2.1; push_cast; omega,hlk.2.2.2⟩,⟨rfl,rfl,rfl⟩⟩
end
section
open Go.RowKit Go.Maps

set_option maxHeartbeats 2000000 in
set_option maxRecDepth 20000 in
theorem step10_search (W0 w:World) (bp bb bs bm br:Nat) (cf:Cf) (gn:Net) (la:Option Addr) (lc:Nat) (nsv:BV) (nmv:Value) (nn:Nat) (L:List Ent) (id kk be t0 t1 draw:Int) (xs:List Int) (pa:Option Addr) (pc:Nat) (fa:Option Addr) (fn fc:Nat) (F:List (List Cnd))
    (h:PairAt W0 w bp bb bs bm br cf gn la lc nsv nmv nn L L) (hlk:Lk gn nn) (hv:IntsAt W0 (.slice pa xs.length pc) xs) (hf:FiltAt W0 (.slice fa fn fc) F) (hn:(xs.length + 6) * 8≤140737488355328) (hnn:(nn + 4) * 24≤140737488355328) (hfn:(F.length + 1) * 24≤140737488355328) (hfm:∀ c ∈ F,(c.length + 1) * 24≤140737488355328) :
    Calls Tryz.prog 15 #[.pointer (some ⟨bp,0,none⟩),.agg #[.int .i64 5,.int .i64 id,.int .i64 kk,.int .i64 be,.slice pa xs.length pc,.int .i64 t0,.int .i64 t1,.int .u64 draw,.slice fa fn fc]] w fun ev w'=>ev = .returned (.bool true)∧StepOk W0 bp bb bs bm br cf gn.ex nn w':=by
  have H:=hide h
  have HV:=hide hv
  have HF:=hide hf
  have HN:=hide hn
  have HNN:=hide hnn
  have HFN:=hide hfn
  have HFM:=hide hfm
  clear h hv hn hnn hf hfn hfm
  go_enter Tryz.func15,Tryz.ntmps15
  go_wp2_with fail
  refine (searches38 W0 _ bp bb bs bm br cf gn la lc nsv nmv nn L 5 id kk be t0 t1 draw xs pa pc _ F (H.out.alloc _) hlk HV.out HF.out HN.out HNN.out HFN.out HFM.out).mono ?_
  rintro ev w1 ⟨rfl,hs⟩
  go_wp2
  go_ret
  exact ⟨rfl,hs⟩

theorem step10_five (W0 w:World) (bp bb bs bm br:Nat) (cf:Cf) (gn:Net) (la:Option Addr) (lc:Nat) (nsv:BV) (nmv:Value) (nn:Nat) (L:List Ent) (kd id kk be t0 t1 draw:Int) (xs:List Int) (pa:Option Addr) (pc:Nat) (fa:Option Addr) (fn fc:Nat) (F:List (List Cnd))
    (h:PairAt W0 w bp bb bs bm br cf gn la lc nsv nmv nn L L) (hlk:Lk gn nn) (hv:IntsAt W0 (.slice pa xs.length pc) xs) (hid:I64 id) (hn:(xs.length + 6) * 8≤140737488355328) (hnn:(nn + 4) * 24≤140737488355328) (hdr:0≤draw∧draw < 18446744073709551616) (hf:FiltAt W0 (.slice fa fn fc) F) (hfn:(F.length + 1) * 24≤140737488355328) (hfm:∀ c ∈ F,(c.length + 1) * 24≤140737488355328) (hkd:kd≤5) :
    Calls Tryz.prog 15 #[.pointer (some ⟨bp,0,none⟩),.agg #[.int .i64 kd,.int .i64 id,.int .i64 kk,.int .i64 be,.slice pa xs.length pc,.int .i64 t0,.int .i64 t1,.int .u64 draw,.slice fa fn fc]] w fun ev w'=>ev = .returned (.bool true)∧StepOk W0 bp bb bs bm br cf gn.ex nn w':=by
  by_cases h5:kd = 5
  · subst h5; exact step10_search W0 w bp bb bs bm br cf gn la lc nsv nmv nn L id kk be t0 t1 draw xs pa pc fa fn fc F h hlk hv hf hn hnn hfn hfm
  exact step10_any W0 w bp bb bs bm br cf gn la lc nsv nmv nn L kd id kk be t0 t1 draw xs pa pc fa fn fc h hlk hv hid hn hnn hdr (by omega)
end
section
open Go.RowKit Go.Maps

structure ScriptF (w:World) (a:Option Addr) (len:Nat):Prop where
  sz:len * 104≤140737488355328
  op:∀ i,i < len→∃ b off,a = some ⟨b,off,none⟩∧∃ kd id kk be t0 t1 draw xs pa pc fa fn fc F,OpAt w b (off + i * 9) kd id kk be t0 t1 draw xs pa pc fa fn fc∧FiltAt w (.slice fa fn fc) F∧(F.length + 1) * 24≤140737488355328∧∀ c ∈ F,(c.length + 1) * 24≤140737488355328
end
end Go.Proofs.YtpkiefjanmfgfaaGreatDoor
