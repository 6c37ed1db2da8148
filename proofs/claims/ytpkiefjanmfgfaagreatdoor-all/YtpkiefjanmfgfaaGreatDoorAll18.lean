import Derived.Deep.DeepCutAuto
import Derived.Deep.RegionWith
import Derived.Test.YtpkiefjanmfgfaaGreatDoorAll17
namespace Go.Proofs.YtpkiefjanmfgfaaGreatDoor
section
open Go.RowKit Go.Maps

theorem opS {w:World} {X bp o:Nat} {q pv fv:Value} {kd id kk be t0 t1 draw:Int} (hX:w.heap[X]? = some (.cells #[.int .i64 kd,.int .i64 id,.int .i64 kk,.int .i64 be,pv,.int .i64 t0,.int .i64 t1,.int .u64 draw,fv] 49 (0,0))) (p0:w.cell? ⟨bp,o,none⟩ = some q) :
    w.cell? ⟨bp,o,none⟩ = some q∧w.cell? ⟨X,1,none⟩ = some (.int .i64 id)∧w.cell? ⟨X,4,none⟩ = some pv∧w.cell? ⟨X,5,none⟩ = some (.int .i64 t0)∧w.cell? ⟨X,6,none⟩ = some (.int .i64 t1)∧w.cell? ⟨X,7,none⟩ = some (.int .u64 draw) :=
  ⟨p0,by simp [World.cell?,hX],by simp [World.cell?,hX],by simp [World.cell?,hX],by simp [World.cell?,hX],by simp [World.cell?,hX]⟩

theorem pts_prefix {w:World} {A c:Nat} {xs ys:List Int} (h:Pts w A c (xs ++ ys)) {i:Nat} (hi:i < xs.length):w.cell? ⟨A,0 + i,none⟩ = some (.int .i64 (xs.getD i 0)):=by
  have:=h.cell i (by simp; omega)
  simpa [List.getD_eq_getElem?_getD,List.getElem?_append_left hi] using this

theorem puts_two {W0 w w':World} {bp bb bs bm br X A c:Nat} {cf:Cf} {gn:Net} {la:Option Addr} {lc:Nat} {nsv:BV} {nmv:Value} {nn:Nat} {L M:List Ent} {cs:Array Value} {ys:List Int} (h:PairAt W0 w bp bb bs bm br cf gn la lc nsv nmv nn L M) (hX:w.heap[X]? = some (.cells cs 49 (0,0))) (hp:Pts w A c ys) (hkd:Kept (fun k=>k = bm ∨ gn.F k) w.drew w') (hXF:¬ gn.F X) (hAF:¬ gn.F A) :
    Kept (fun k=>k = bm ∨ gn.F k) w w'∧w'.heap[X]? = some (.cells cs 49 (0,0))∧Pts w' A c ys:=by
  have hk:Kept (fun k=>k = bm ∨ gn.F k) w w':=(Kept.refl _ w).drew.trans hkd (fun _ _ h=>h)
  refine ⟨hk,(hk.block X (Array.getElem?_eq_some_iff.1 hX).1 (fun e=>e.elim (h.base.map.mb_ne hX) hXF)).trans hX,ownsRow_kept hp hk fun g hg=>?_⟩
  obtain ⟨cu,hcu⟩:=ownsRow_obj hp hg
  obtain rfl:A = g:=by simpa [Value.ownBlock] using hg
  exact fun e=>e.elim (h.base.map.mb_ne hcu) hAF

theorem nm_lt {W0 w:World} {bp bb bs bm br:Nat} {cf:Cf} {gn:Net} {la:Option Addr} {lc:Nat} {nsv:BV} {nmv:Value} {nn:Nat} {L M:List Ent} (h:PairAt W0 w bp bb bs bm br cf gn la lc nsv nmv nn L M) {b:Nat} (e:nmv.ownBlock = some b):b < w.heap.size:=by
  obtain ⟨xs,hx⟩:=h.book.hm
  exact (hx.lt b e).2
theorem PairAt.pfNew {W0 w:World} {bp bb bs bm br:Nat} {cf:Cf} {gn gn':Net} {la:Option Addr} {lc:Nat} {nsv:BV} {nmv:Value} {nn:Nat} {L M:List Ent} (h:PairAt W0 w bp bb bs bm br cf gn la lc nsv nmv nn L M) (hf:∀ k,gn'.F k→gn.F k ∨ w.heap.size≤k) :
    ∀ k,gn'.F k→W0.heap.size≤k∧k ≠ bp∧k ≠ br∧nsv.ownBlock ≠ some k∧nmv.ownBlock ≠ some k∧(Value.slice la M.length lc).ownBlock ≠ some k∧∀ e ∈ M,k ≠ e.rb:=by
  intro k hk
  rcases hf k hk with e | e
  · exact h.pf k e
  · have hA:=h.apart (A:=k) e
    exact ⟨hA.old,hA.p,hA.r,hA.ns,hA.nm,hA.l,hA.rb⟩
theorem puts_base {W0 w w':World} {bp bb bs bm br g gc:Nat} {cf:Cf} {gn gn':Net} {id t0 t1 draw:Int} {la:Option Addr} {lc:Nat} {nsv:BV} {nmv:Value} {nn:Nat} {L M:List Ent} {xs:List Int} (h:PairAt W0 w bp bb bs bm br cf gn la lc nsv nmv nn L M) (hk:Kept (fun k=>k = bm ∨ gn.F k) w w') (hB:∀ rb rc,BaseAt w' bb bs bm cf gn' (insE ⟨id,xs,t0,t1,draw,g,gc,rb,rc⟩ L)) (hg:∀ b,nmv.ownBlock = some b→b ≠ g) (hf:∀ k,gn'.F k→gn.F k ∨ w.heap.size≤k) (hlk:gn.like gn') (hg2:w.heap.size≤g) :
    ∀ rb rc,PairAt W0 w' bp bb bs bm br cf gn' la lc nsv nmv nn (insE ⟨id,xs,t0,t1,draw,g,gc,rb,rc⟩ L) M:=by
  intro rb rc
  obtain ⟨p0,p1,p2,p3,p4,p5,bk,rf,tb,ts,old,hx⟩:=h.turned hk
  obtain ⟨l1,l2,l3,l4,l5⟩:=hlk
  refine ⟨p0,p1,l3 ▸ p2,l3 ▸ p3,(by rw [l4]; exact p4),(by rw [l5]; exact p5),bk,hB rb rc,rf,tb,ts,⟨fun e he e1=>?_,h.am.2⟩,old,h.pos,h.lbp,h.lbb,h.lbm,h.lbr,h.lla,h.lns,h.lnm,h.pfNew hf,l2 ▸ hx,fun k hk=>?_,?_,?_⟩
  · rcases mem_insE he with rfl | he
    · exact hg _ e1 rfl
    · exact h.am.1 e he e1
  · rw [l2] at hk
    have q:=h.xa k hk
    have hlt:=h.x.lt hk
    exact ⟨q.old,q.p,q.b,q.s,q.m,q.r,q.ns,q.nm,q.l,fun e he=>(by
      rcases mem_insE he with rfl | he
      · show k ≠ g
        omega
      · exact q.mb e he),q.rb,fun e=>(hf k e).elim q.f (fun e=>by omega),by rw [l2]; exact q.o⟩
  · rw [l2]; exact h.xn
  · rw [l2]
    exact h.o.kept hk (fun k e _ q=>e.elim q.m q.f) (fun k hlt q=>⟨q.old,q.p,q.b,q.s,q.m,q.r,q.ns,q.nm,q.l,fun e he=>(by
      rcases mem_insE he with rfl | he
      · show k ≠ g
        omega
      · exact q.mb e he),q.rb,fun e=>(hf k e).elim q.f (fun e=>by omega)⟩)

def StepOk (W0:World) (bp bb bs bm br:Nat) (cf:Cf) (x0:Bks) (nn:Nat) (w':World):Prop :=
  ∃ la lc nsv nmv nn' L gn,nn'≤nn + 4∧PairAt W0 w' bp bb bs bm br cf gn la lc nsv nmv nn' L L∧Lk gn nn'∧SameZ x0 gn.ex

theorem Apart.net {W0:World} {A bp bb bs bm br:Nat} {gn gn':Net} {la:Option Addr} {lc:Nat} {nsv:BV} {nmv:Value} {L M:List Ent} (h:Apart W0 A bp bb bs bm br gn la lc nsv nmv L M) (hf:¬ gn'.F A) (hlk:gn.like gn'):Apart W0 A bp bb bs bm br gn' la lc nsv nmv L M :=
  ⟨⟨h.old,h.p,h.b,h.s,h.m,h.r,h.ns,h.nm,h.l,h.mb,h.rb,hf,by rw [hlk.2.1]; exact h.o⟩,fun e=>h.x (hlk.2.1 ▸ e)⟩
section
variable {W0 w w1 w2 w3 w4 w5:World} {bp bb bs bm br g gc n:Nat} {cf:Cf} {gn gn':Net} {id t0 t1 draw:Int} {la:Option Addr} {lc:Nat} {nsv nsv':BV} {nmv nmv' lv':Value} {nn n':Nat} {L:List Ent} {cs:Array Value} {xs ys:List Int}
theorem puts_three (h:PairAt W0 w bp bb bs bm br cf gn la lc nsv nmv nn L L) (h2:∀ rb rc,PairAt W0 w2 bp bb bs bm br cf gn' la lc nsv nmv nn (insE ⟨id,xs,t0,t1,draw,g,gc,rb,rc⟩ L) L) (hX:w2.heap[w.heap.size]? = some (.cells cs 49 (0,0))) (hk:Kept (fun k=>k = w.heap.size + 1) w2 w3) (hf:¬ gn'.F (w.heap.size + 1)) (hlk:gn.like gn') (hg:w.heap.size + 1 ≠ g) (hyl:ys.length = n + 2) (hpy:Pts w3 (w.heap.size + 1) (n + 2) ys) :
    w3.heap[w.heap.size]? = some (.cells cs 49 (0,0))∧(∀ rb rc,PairAt W0 w3 bp bb bs bm br cf gn' la lc nsv nmv nn (insE ⟨id,xs,t0,t1,draw,g,gc,rb,rc⟩ L) L)∧InS w3 bp (.slice (some ⟨w.heap.size + 1,0,none⟩) (n + 2) (n + 2)) nsv.v nmv w3 (.slice (some ⟨w.heap.size + 1,0,none⟩) (n + 2) (n + 2)) (n + 2) nsv.v nn nmv nn:=by
  have hA:=(h.apart (A:=w.heap.size + 1) (by omega)).net hf hlk
  have h3:∀ rb rc,PairAt W0 w3 bp bb bs bm br cf gn' la lc nsv nmv nn (insE ⟨id,xs,t0,t1,draw,g,gc,rb,rc⟩ L) L:=fun rb rc=>(h2 rb rc).one (hA.ins _ hg) hk
  refine ⟨(hk.block _ (Array.getElem?_eq_some_iff.1 hX).1 (by omega)).trans hX,h3,?_⟩
  have hp:w3.ownsRow 0 3 1 (.slice (some ⟨w.heap.size + 1,0,none⟩) (n + 2) (n + 2)) (n + 2) (ys.map (Value.int .i64)):=hyl ▸ hpy
  exact (h3 0 0).book.ins hp fun g' hg' e=>hA.nm (by rw [e,← hg']; rfl)
theorem puts_four (h:PairAt W0 w bp bb bs bm br cf gn la lc nsv nmv nn L L) (h3:∀ rb rc,PairAt W0 w3 bp bb bs bm br cf gn' la lc nsv nmv nn (insE ⟨id,xs,t0,t1,draw,g,gc,rb,rc⟩ L) L) (hX:w3.heap[w.heap.size]? = some (.cells cs 49 (0,0))) (hg:w.heap.size + 1 ≠ g) (hf:¬ gn'.F (w.heap.size + 1)) (hlk:gn.like gn') (hs:InB w3 bp (.slice (some ⟨w.heap.size + 1,0,none⟩) (n + 2) (n + 2)) nsv nmv w4 lv' n' nsv' (nn + 4) nmv' (nn + 4)) :
    w4.heap[w.heap.size]? = some (.cells cs 49 (0,0))∧∀ rb rc,PairAt W0 w4 bp bb bs bm br cf gn' la lc nsv' nmv' (nn + 4) (insE ⟨id,xs,t0,t1,draw,g,gc,rb,rc⟩ L) L:=by
  have hA:=(h.apart (A:=w.heap.size + 1) (by omega)).net hf hlk
  have hB:=h.apart (A:=w.heap.size) (Nat.le_refl _)
  refine ⟨(hs.kept.block _ (Array.getElem?_eq_some_iff.1 hX).1 (fun hx=>?_)).trans hX,fun rb rc=>(h3 rb rc).ints' (hA.ins _ hg) hs⟩
  rcases hx with e | e | e | e
  · exact hB.p e
  · simp [Value.ownBlock] at e
  · exact hB.ns e
  · exact hB.nm e
theorem puts_five (h:PairAt W0 w bp bb bs bm br cf gn la lc nsv nmv nn L L) (h4:∀ rb rc,PairAt W0 w4 bp bb bs bm br cf gn' la lc nsv' nmv' (nn + 4) (insE ⟨id,xs,t0,t1,draw,g,gc,rb,rc⟩ L) L) (hX:w4.heap[w.heap.size]? = some (.cells cs 49 (0,0))) (hp:RefPut w4.drew br cf la lc L id t0 t1 draw xs w5) :
    w5.heap[w.heap.size]? = some (.cells cs 49 (0,0))∧∃ la' lc' x,PairAt W0 w5 bp bb bs bm br cf gn' la' lc' nsv' nmv' (nn + 4) (insE x L) (insE x L):=by
  obtain ⟨rg,rgc,la',lc',hrg,hR,hkd,hl⟩:=hp
  have hk:Kept (fun k=>k = br ∨ (Value.slice la L.length lc).ownBlock = some k) w4 w5:=(Kept.refl _ w4).drew.trans hkd (fun _ _ h=>h)
  have hB:=h.apart (A:=w.heap.size) (Nat.le_refl _)
  refine ⟨(hk.block _ (Array.getElem?_eq_some_iff.1 hX).1 (fun hx=>?_)).trans hX,la',lc',⟨id,xs,t0,t1,draw,g,gc,rg,rgc⟩,(h4 rg rgc).refTurned hk (hR g gc) (fun b hb=>?_) (fun e he e1=>?_) (fun k hk=>⟨fun e=>?_,fun e he e1=>?_⟩) (fun k hlt hk=>⟨fun e=>?_,fun e he e1=>?_⟩)⟩
  · rcases hx with e | e
    · exact hB.r e
    · exact hB.l e
  · rcases hl _ b hb with e | e
    · exact h.lla b e
    · exact Nat.le_trans (h4 0 0).old.size e
  · rcases mem_insE he with rfl | he
    · have h1:=nm_lt (h4 0 0) e1
      have h2:w4.heap.size≤rg:=hrg
      simp at h1
      omega
    · exact (h4 0 0).am.2 e he e1
  · rcases hl _ k e with e | e
    · exact ((h4 0 0).pf k hk).2.2.2.2.2.1 e
    · have:=((h4 0 0).base.foot k hk).1
      have:w4.heap.size≤k:=e
      omega
  · rcases mem_insE he with rfl | he
    · have:=((h4 0 0).base.foot k hk).1
      have:w4.heap.size≤rg:=hrg
      simp only at e1
      omega
    · exact ((h4 0 0).pf k hk).2.2.2.2.2.2 e he e1
  · rcases hl _ k e with e | e
    · exact hk.elim (fun hk=>((h4 0 0).xa k hk).l e) (fun hk=>((h4 0 0).o.a k hk).2.l e)
    · have:w4.heap.size≤k:=e
      omega
  · rcases mem_insE he with rfl | he
    · have:w4.heap.size≤rg:=hrg
      simp only at e1
      omega
    · exact hk.elim (fun hk=>((h4 0 0).xa k hk).rb e he e1) (fun hk=>((h4 0 0).o.a k hk).2.rb e he e1)
end

set_option maxHeartbeats 2000000 in
set_option maxRecDepth 20000 in
theorem puts18_ok (W0 w:World) (bp bb bs bm br:Nat) (cf:Cf) (gn:Net) (la:Option Addr) (lc:Nat) (nsv:BV) (nmv:Value) (nn:Nat) (L:List Ent) (kd id kk be t0 t1 draw:Int) (xs:List Int) (pa:Option Addr) (pc:Nat) (fv:Value) (hfv:∃ a n c,fv = .slice a n c)
    (h:PairAt W0 w bp bb bs bm br cf gn la lc nsv nmv nn L L) (hlk:Lk gn nn) (hv:IntsAt W0 (.slice pa xs.length pc) xs) (hid:I64 id) (hn:(xs.length + 6) * 8≤140737488355328) (hnn:(nn + 4) * 24≤140737488355328)
    (hdr:0≤draw∧draw < 18446744073709551616) (hcode:ptCode cf.dim xs = 0) (hroom:Room cf.cap id L) :
    Calls Tryz.prog 35 #[.pointer (some ⟨bp,0,none⟩),.agg #[.int .i64 kd,.int .i64 id,.int .i64 kk,.int .i64 be,.slice pa xs.length pc,.int .i64 t0,.int .i64 t1,.int .u64 draw,fv]] w fun ev w'=>ev = .returned (.bool true)∧StepOk W0 bp bb bs bm br cf gn.ex nn w':=by
  obtain ⟨fa,fl,fc,rfl⟩:=hfv
  obtain ⟨dn,rfl⟩:∃ dn:Nat,draw = (dn:Int):=⟨draw.toNat,by omega⟩
  have hdn:dn < 18446744073709551616:=by omega
  clear hdr
  have hlen:(xs.length:Int) = cf.dim:=by
    unfold ptCode at hcode
    split at hcode
    · assumption
    · cases hcode
  have h0:0 < xs.length:=by have:=h.base.cfok.d1; omega
  have h8:xs.length≤8:=by have:=h.base.cfok.d8; omega
  have hL:L.length≤60:=h.ref.small
  obtain ⟨b,off,rfl,hcb⟩:∃ b off,pa = some ⟨b,off,none⟩∧∀ i,i < xs.length→W0.cell? ⟨b,off + i,none⟩ = some (.int .i64 (xs.getD i 0)):=by
    obtain ⟨a',c',e',_,_,hx⟩:=hv
    simp only [Value.slice.injEq] at e'
    obtain ⟨rfl,_,rfl⟩:=e'
    rcases hx with rfl | ⟨b,off,rfl,hc⟩
    · simp at h0
    · exact ⟨b,off,rfl,hc⟩
  have HCB:=hide hcb
  have hb0:=block_lt_of_cell (hcb 0 h0)
  clear hcb
  have hvw:=hv.below h.old
  have hva:=hvw.below ((Below.refl _ _).alloc (Nat.le_refl _) (.cells #[.int .i64 kd,.int .i64 id,.int .i64 kk,.int .i64 be,.slice (some ⟨b,off,none⟩) xs.length pc,.int .i64 t0,.int .i64 t1,.int .u64 (dn:Int),.slice fa fl fc] 49))
  have hn2:(xs.length + 2) * 8≤140737488355328:=Nat.le_trans (Nat.mul_le_mul_right 8 (by omega)) hn
  have hpl:=h.book.lt
  have HXF:Hid (¬ gn.F w.heap.size):=(h.apart (Nat.le_refl _)).f
  have HAF:Hid (¬ gn.F (w.heap.size + 1)):=(h.apart (A:=w.heap.size + 1) (by omega)).f
  have H:=hide h
  have HV:=hide hv
  have HVA:=hide hva
  have HC:=hide hcode
  have HN:=hide hn
  have HN2:=hide hn2
  have HNN:=hide hnn
  have HLEN:=hide hlen
  clear hvw hva hcode hn hn2 hnn hv h hlen
  go_enter Tryz.func35,Tryz.ntmps35
  go_wp2_with fail
  refine (copied33_any xs (.slice (some ⟨b,off,none⟩) xs.length pc) _ HVA.out HN2.out).mono ?_
  rintro ev w1 ⟨rfl,hp,hb⟩
  have hp1:Pts w1 (w.heap.size + 1) (xs.length + 2) (xs ++ [77,78]):=by simpa using hp
  have hX1:w1.heap[w.heap.size]? = some (.cells #[.int .i64 kd,.int .i64 id,.int .i64 kk,.int .i64 be,.slice (some ⟨b,off,none⟩) xs.length pc,.int .i64 t0,.int .i64 t1,.int .u64 (dn:Int),.slice fa fl fc] 49 (0,0)):=(hb.block _ (by simp)).trans (heap_alloc_new w _)
  have hbw:Below w.heap.size w w1:=((Below.refl _ _).alloc (Nat.le_refl _) _).trans (hb.mono (by simp))
  have h1:=H.out.below hbw
  have H1:=hide h1
  have HP1:=hide hp1
  have HX1:=hide hX1
  have HBW:=hide hbw
  have hzw:w.heap.size + 1 < w1.heap.size:=(hp1.lt (w.heap.size + 1) rfl).2
  have hp0:=h1.p0
  clear hp hb hp1 hX1 hbw h1
  have hS1:=opS HX1.out hp0
  have bz1:(0:Int)≤(xs.length:Int):=by omega
  have bz2:(xs.length:Int)≤(xs.length:Int) + 2:=by omega
  have HVL:Hid (∀ o,IntsAt (w1.drew.alloc o) (.slice (some ⟨w.heap.size + 1,0,none⟩) xs.length (xs.length + 2)) xs):=fun o=>(ints_of_pts HP1.out (by omega) _ (by omega)).below (((Below.refl _ _).drew).alloc (Nat.le_refl _) o)
  have HCC:Hid (∀ i,i < xs.length→w1.drew.cell? ⟨w.heap.size + 1,0 + i,none⟩ = some (.int .i64 (xs.getD i 0))):=fun i hi=>pts_prefix HP1.out hi
  go_wp2
  go_region_held3 (fun wx=>wx.cell? ⟨bp,0,none⟩ = some (.pointer (some ⟨bb,0,none⟩))∧wx.cell? ⟨w.heap.size,1,none⟩ = some (.int .i64 id)∧wx.cell? ⟨w.heap.size,4,none⟩ = some (.slice (some ⟨b,off,none⟩) xs.length pc)∧wx.cell? ⟨w.heap.size,5,none⟩ = some (.int .i64 t0)∧wx.cell? ⟨w.heap.size,6,none⟩ = some (.int .i64 t1)∧wx.cell? ⟨w.heap.size,7,none⟩ = some (.int .u64 (dn:Int)))
    (first | (exact hS1) | (exact hS2))
    (first
      | (go_at_call 21; refine (put13_ok bb bs bm cf gn id t0 t1 dn xs (w.heap.size + 1) 0 (xs.length + 2) L _ hid hdn ?_ HC.out ?_ hroom h0 h8 ?_).mono ?_; (exact H1.out.base.below (Below.refl _ _).drew); (exact HVL.out); (exact HCC.out); rintro ev2 w2 ⟨rfl,g,gc,gn',hg,hB2,hk2d,hf2,hlk2,hlnk⟩; obtain ⟨hk2,hX2,hp2⟩:=puts_two H1.out HX1.out HP1.out hk2d HXF.out HAF.out; have hS2:=opS hX2 (H1.out.turned hk2).1))
  have h2:=puts_base H1.out hk2 hB2 (fun b e=>by have h3:=nm_lt H1.out e; have h4:w1.heap.size≤g:=hg; omega) (fun k hk=>hf2 k hk) hlk2 hg
  have HLK:Hid (gn.like gn'):=hlk2
  have HLN:Hid ((∃ t,levOf gn'.lev id = some t)∧(1 < gn'.lev.length→gn'.lk (id,0) ≠ [])):=⟨⟨_,((hB2 0 0).lv id).trans (by rw [show id = (⟨id,xs,t0,t1,dn,g,gc,0,0⟩:Ent).id from rfl,findE_ins_self]; rfl)⟩,hlnk⟩
  have HF2:Hid (¬ gn'.F (w.heap.size + 1)):=fun e=>(hf2 _ e).elim HAF.out (fun e=>by have:w1.heap.size≤w.heap.size + 1:=e; omega)
  clear hf2 hlk2 hlnk
  have HP2:=hide hp2
  have HX2:=hide hX2
  have H2:=hide h2
  have HG:=hide hg
  have HB2:=hide hB2
  clear hp2 hX2 h2 hg hB2 hS1 hS2 hk2 hk2d HVL HCC
  go_wp2_with fail
  refine (whole34_any xs (.slice (some ⟨b,off,none⟩) xs.length pc) (w.heap.size + 1) (xs.length + 2) w2 HP2.out ?c1 ?c2).mono ?_
  case c1=>exact HV.out.below (H2.out 0 0).old
  case c2=>exact fun b off n c e hx=>by have:=HV.out.lt b off n c e hx; have:=H.out.old.size; omega
  rintro ev w3 ⟨rfl,⟨ys,hyl,hpy⟩,hk3⟩
  obtain ⟨hX3,h3,hins⟩:=puts_three (id:=id) (t0:=t0) (t1:=t1) (xs:=xs) (g:=g) (gc:=gc) H.out H2.out HX2.out hk3 HF2.out HLK.out (by have:w1.heap.size≤g:=HG.out; omega) hyl hpy
  have HX3:=hide hX3
  have H3:=hide h3
  have HI:=hide hins
  have hbp6:(⟨bp,6,none⟩:Addr) = ⟨bp,6,none⟩:=rfl
  clear hX3 h3 hins hyl hpy hk3
  go_wp2_with fail
  refine (ints35_rec bp (some ⟨w.heap.size + 1,0,none⟩) (xs.length + 2) (xs.length + 2) nsv nmv nn w3 HI.out (H3.out 0 0).book HN.out HNN.out).mono ?_
  rintro ev w4 ⟨rfl,lv',nsv',nmv',hs4⟩
  obtain ⟨hX4,h4⟩:=puts_four (id:=id) (t0:=t0) (t1:=t1) (xs:=xs) (g:=g) (gc:=gc) H.out H3.out HX3.out (by have:w1.heap.size≤g:=HG.out; omega) HF2.out HLK.out hs4
  have HX4:=hide hX4
  have H4:=hide h4
  have hp1:=(h4 0 0).p1
  have hS3:=opS hX4 hp1
  have HVL4:Hid (∀ o,IntsAt (w4.drew.alloc o) (.slice (some ⟨b,off,none⟩) xs.length pc) xs):=fun o=>(HV.out.below (h4 0 0).old).below (((Below.refl _ _).drew).alloc (Nat.le_refl _) o)
  have HCC4:Hid (∀ i,i < xs.length→w4.drew.cell? ⟨b,off + i,none⟩ = some (.int .i64 (xs.getD i 0))):=fun i hi=>Below.at (h4 0 0).old (HCB.out i hi) hb0
  clear hX4 h4 hs4 hp0
  go_wp2
  go_region_held3 (fun wx=>wx.cell? ⟨bp,1,none⟩ = some (.pointer (some ⟨br,0,none⟩))∧wx.cell? ⟨w.heap.size,1,none⟩ = some (.int .i64 id)∧wx.cell? ⟨w.heap.size,4,none⟩ = some (.slice (some ⟨b,off,none⟩) xs.length pc)∧wx.cell? ⟨w.heap.size,5,none⟩ = some (.int .i64 t0)∧wx.cell? ⟨w.heap.size,6,none⟩ = some (.int .i64 t1)∧wx.cell? ⟨w.heap.size,7,none⟩ = some (.int .u64 (dn:Int)))
    (first | (exact hS3) | (exact hS5))
    (first
      | (go_at_call 71; refine (put36_ok br cf la lc L id t0 t1 dn xs b off pc _ ?_ HC.out ?_ hroom (H.out.base.cfok.c60) h0 h8 ?_).mono ?_; (exact (H4.out 0 0).ref.below (Below.refl _ _).drew); (exact HVL4.out); (exact HCC4.out); rintro ev5 w5 ⟨rfl,hput⟩; obtain ⟨hX5,la5,lc5,x5,h5⟩:=puts_five H.out H4.out HX4.out hput; have hS5:=opS hX5 h5.p1; obtain ⟨y4,hy4⟩:=h5.p4; obtain ⟨y5,hy5⟩:=h5.p5; have hfz:=h5.book.frozen; have hb5:=h5.book.lt))
  have H5:=hide h5
  clear h5
  go_wp2
  go_ret
  exact ⟨rfl,_,_,_,_,_,_,_,Nat.le_refl _,(H5.out.field4 id).field5 true,(hlk.put HLK.out HLN.out.1 HLN.out.2).mono (Nat.le_add_right _ _),HLK.out.z⟩
end
section
open Go.RowKit Go.Maps

section
variable {W0 w w2 w3 w4:World} {bp bb bs bm br n:Nat} {cf:Cf} {gn:Net} {la:Option Addr} {lc:Nat} {nsv nsv':BV} {nmv nmv' lv':Value} {nn n':Nat} {L:List Ent} {cs:Array Value} {ys:List Int}
theorem puts_threeN (h:PairAt W0 w bp bb bs bm br cf gn la lc nsv nmv nn L L) (h2:PairAt W0 w2 bp bb bs bm br cf gn la lc nsv nmv nn L L) (hX:w2.heap[w.heap.size]? = some (.cells cs 49 (0,0))) (hk:Kept (fun k=>k = w.heap.size + 1) w2 w3) (hyl:ys.length = n + 2) (hpy:Pts w3 (w.heap.size + 1) (n + 2) ys) :
    w3.heap[w.heap.size]? = some (.cells cs 49 (0,0))∧PairAt W0 w3 bp bb bs bm br cf gn la lc nsv nmv nn L L∧InS w3 bp (.slice (some ⟨w.heap.size + 1,0,none⟩) (n + 2) (n + 2)) nsv.v nmv w3 (.slice (some ⟨w.heap.size + 1,0,none⟩) (n + 2) (n + 2)) (n + 2) nsv.v nn nmv nn:=by
  have hA:=h.apart (A:=w.heap.size + 1) (by omega)
  have h3:=h2.one hA hk
  refine ⟨(hk.block _ (Array.getElem?_eq_some_iff.1 hX).1 (by omega)).trans hX,h3,?_⟩
  have hp:w3.ownsRow 0 3 1 (.slice (some ⟨w.heap.size + 1,0,none⟩) (n + 2) (n + 2)) (n + 2) (ys.map (Value.int .i64)):=hyl ▸ hpy
  exact h3.book.ins hp fun g' hg' e=>hA.nm (by rw [e,← hg']; rfl)
theorem puts_fourN (h:PairAt W0 w bp bb bs bm br cf gn la lc nsv nmv nn L L) (h3:PairAt W0 w3 bp bb bs bm br cf gn la lc nsv nmv nn L L) (hX:w3.heap[w.heap.size]? = some (.cells cs 49 (0,0))) (hs:InB w3 bp (.slice (some ⟨w.heap.size + 1,0,none⟩) (n + 2) (n + 2)) nsv nmv w4 lv' n' nsv' (nn + 4) nmv' (nn + 4)) :
    w4.heap[w.heap.size]? = some (.cells cs 49 (0,0))∧PairAt W0 w4 bp bb bs bm br cf gn la lc nsv' nmv' (nn + 4) L L:=by
  have hA:=h.apart (A:=w.heap.size + 1) (by omega)
  have hB:=h.apart (A:=w.heap.size) (Nat.le_refl _)
  refine ⟨(hs.kept.block _ (Array.getElem?_eq_some_iff.1 hX).1 (fun hx=>?_)).trans hX,h3.ints' hA hs⟩
  rcases hx with e | e | e | e
  · exact hB.p e
  · simp [Value.ownBlock] at e
  · exact hB.ns e
  · exact hB.nm e
end

set_option maxHeartbeats 2000000 in
set_option maxRecDepth 20000 in
theorem puts18_no (W0 w:World) (bp bb bs bm br:Nat) (cf:Cf) (gn:Net) (la:Option Addr) (lc:Nat) (nsv:BV) (nmv:Value) (nn:Nat) (L:List Ent) (kd id kk be t0 t1 draw:Int) (xs:List Int) (pa:Option Addr) (pc:Nat) (fv:Value) (hfv:∃ a n c,fv = .slice a n c)
    (h:PairAt W0 w bp bb bs bm br cf gn la lc nsv nmv nn L L) (hlk:Lk gn nn) (hv:IntsAt W0 (.slice pa xs.length pc) xs) (_hid:I64 id) (hn:(xs.length + 6) * 8≤140737488355328) (hnn:(nn + 4) * 24≤140737488355328)
    (r:Int) (hr0:(r == 0) = false)
    (hput:∀ W,BaseAt W bb bs bm cf gn L→(∀ o,IntsAt (W.alloc o) (.slice (some ⟨w.heap.size + 1,0,none⟩) xs.length (xs.length + 2)) xs)→Calls Tryz.prog 21 #[.pointer (some ⟨bb,0,none⟩),.int .i64 id,.slice (some ⟨w.heap.size + 1,0,none⟩) xs.length (xs.length + 2),.agg #[.int .i64 t0,.int .i64 t1],.int .u64 draw] W fun ev w'=>ev = .returned (.int .i64 r)∧Below W.heap.size W w')
    (href:∀ W,RefAt W br cf la lc L→(∀ o,IntsAt (W.alloc o) (.slice pa xs.length pc) xs)→Calls Tryz.prog 71 #[.pointer (some ⟨br,0,none⟩),.int .i64 id,.slice pa xs.length pc,.agg #[.int .i64 t0,.int .i64 t1],.int .u64 draw] W fun ev w'=>ev = .returned (.int .i64 r)∧Below W.heap.size W w') :
    Calls Tryz.prog 35 #[.pointer (some ⟨bp,0,none⟩),.agg #[.int .i64 kd,.int .i64 id,.int .i64 kk,.int .i64 be,.slice pa xs.length pc,.int .i64 t0,.int .i64 t1,.int .u64 draw,fv]] w fun ev w'=>ev = .returned (.bool true)∧StepOk W0 bp bb bs bm br cf gn.ex nn w':=by
  obtain ⟨fa,fl,fc,rfl⟩:=hfv
  have hxl:xs.length≤17592186044416:=by omega
  have hvw:=hv.below h.old
  have hva:=hvw.below ((Below.refl _ _).alloc (Nat.le_refl _) (.cells #[.int .i64 kd,.int .i64 id,.int .i64 kk,.int .i64 be,.slice pa xs.length pc,.int .i64 t0,.int .i64 t1,.int .u64 draw,.slice fa fl fc] 49))
  have hn2:(xs.length + 2) * 8≤140737488355328:=Nat.le_trans (Nat.mul_le_mul_right 8 (by omega)) hn
  have hpl:=h.book.lt
  have H:=hide h
  have HV:=hide hv
  have HVA:=hide hva
  have HPUT:=hide hput
  have HREF:=hide href
  have HN:=hide hn
  have HN2:=hide hn2
  have HNN:=hide hnn
  clear hvw hva hn hn2 hnn hv h hput href
  go_enter Tryz.func35,Tryz.ntmps35
  go_wp2_with fail
  refine (copied33_any xs (.slice pa xs.length pc) _ HVA.out HN2.out).mono ?_
  rintro ev w1 ⟨rfl,hp,hb⟩
  have hp1:Pts w1 (w.heap.size + 1) (xs.length + 2) (xs ++ [77,78]):=by simpa using hp
  have hX1:w1.heap[w.heap.size]? = some (.cells #[.int .i64 kd,.int .i64 id,.int .i64 kk,.int .i64 be,.slice pa xs.length pc,.int .i64 t0,.int .i64 t1,.int .u64 draw,.slice fa fl fc] 49 (0,0)):=(hb.block _ (by simp)).trans (heap_alloc_new w _)
  have hbw:Below w.heap.size w w1:=((Below.refl _ _).alloc (Nat.le_refl _) _).trans (hb.mono (by simp))
  have h1:=H.out.below hbw
  have H1:=hide h1
  have HP1:=hide hp1
  have HX1:=hide hX1
  have HBW:=hide hbw
  have hzw:w.heap.size + 1 < w1.heap.size:=(hp1.lt (w.heap.size + 1) rfl).2
  have hp0:=h1.p0
  clear hp hb hp1 hX1 hbw h1
  have hS1:=opS HX1.out hp0
  have bz1:(0:Int)≤(xs.length:Int):=by omega
  have bz2:(xs.length:Int)≤(xs.length:Int) + 2:=by omega
  have HVL:Hid (∀ o,IntsAt (w1.drew.alloc o) (.slice (some ⟨w.heap.size + 1,0,none⟩) xs.length (xs.length + 2)) xs):=fun o=>(ints_of_pts HP1.out (by omega) _ (by omega)).below (((Below.refl _ _).drew).alloc (Nat.le_refl _) o)
  go_wp2
  go_region_held3 (fun wx=>wx.cell? ⟨bp,0,none⟩ = some (.pointer (some ⟨bb,0,none⟩))∧wx.cell? ⟨w.heap.size,1,none⟩ = some (.int .i64 id)∧wx.cell? ⟨w.heap.size,4,none⟩ = some (.slice pa xs.length pc)∧wx.cell? ⟨w.heap.size,5,none⟩ = some (.int .i64 t0)∧wx.cell? ⟨w.heap.size,6,none⟩ = some (.int .i64 t1)∧wx.cell? ⟨w.heap.size,7,none⟩ = some (.int .u64 draw))
    (first | (exact hS1) | (exact hS2))
    (first
      | (go_at_call 21; refine (HPUT.out _ ?_ ?_).mono ?_; (exact H1.out.base.below (Below.refl _ _).drew); (exact HVL.out); rintro ev2 w2 ⟨rfl,hb2d⟩; have hb2:=Below.undrew hb2d; have hX2:w2.heap[w.heap.size]? = some (.cells #[.int .i64 kd,.int .i64 id,.int .i64 kk,.int .i64 be,.slice pa xs.length pc,.int .i64 t0,.int .i64 t1,.int .u64 draw,.slice fa fl fc] 49 (0,0)):=(hb2.block _ (by omega)).trans HX1.out; have hS2:=opS hX2 (H1.out.below hb2).p0))
  have H2:=hide (H1.out.below hb2)
  have HP2:=hide (ownsRow_below HP1.out hb2)
  have HX2:=hide hX2
  clear hX2 hS1 hS2 hb2 hb2d HVL
  go_wp2_with fail
  refine (whole34_any xs (.slice pa xs.length pc) (w.heap.size + 1) (xs.length + 2) w2 HP2.out ?c1 ?c2).mono ?_
  case c1=>exact HV.out.below H2.out.old
  case c2=>exact fun b off n c e hx=>by have:=HV.out.lt b off n c e hx; have:=H.out.old.size; omega
  rintro ev w3 ⟨rfl,⟨ys,hyl,hpy⟩,hk3⟩
  obtain ⟨hX3,h3,hins⟩:=puts_threeN H.out H2.out HX2.out hk3 hyl hpy
  have HX3:=hide hX3
  have H3:=hide h3
  have HI:=hide hins
  have hbp6:(⟨bp,6,none⟩:Addr) = ⟨bp,6,none⟩:=rfl
  clear hX3 h3 hins hyl hpy hk3
  go_wp2_with fail
  refine (ints35_rec bp (some ⟨w.heap.size + 1,0,none⟩) (xs.length + 2) (xs.length + 2) nsv nmv nn w3 HI.out H3.out.book HN.out HNN.out).mono ?_
  rintro ev w4 ⟨rfl,lv',nsv',nmv',hs4⟩
  obtain ⟨hX4,h4⟩:=puts_fourN H.out H3.out HX3.out hs4
  have HX4:=hide hX4
  have H4:=hide h4
  have hp1:=h4.p1
  have hS3:=opS hX4 hp1
  have HVL4:Hid (∀ o,IntsAt (w4.drew.alloc o) (.slice pa xs.length pc) xs):=fun o=>(HV.out.below h4.old).below (((Below.refl _ _).drew).alloc (Nat.le_refl _) o)
  clear hX4 h4 hs4 hp0
  go_wp2
  go_region_held3 (fun wx=>wx.cell? ⟨bp,1,none⟩ = some (.pointer (some ⟨br,0,none⟩))∧wx.cell? ⟨w.heap.size,1,none⟩ = some (.int .i64 id)∧wx.cell? ⟨w.heap.size,4,none⟩ = some (.slice pa xs.length pc)∧wx.cell? ⟨w.heap.size,5,none⟩ = some (.int .i64 t0)∧wx.cell? ⟨w.heap.size,6,none⟩ = some (.int .i64 t1)∧wx.cell? ⟨w.heap.size,7,none⟩ = some (.int .u64 draw))
    (first | (exact hS3) | (exact hS5))
    (first
      | (go_at_call 71; refine (HREF.out _ ?_ ?_).mono ?_; (exact H4.out.ref.below (Below.refl _ _).drew); (exact HVL4.out); rintro ev5 w5 ⟨rfl,hb5d⟩; have hb5:=Below.undrew hb5d; have hX5:w5.heap[w.heap.size]? = some (.cells #[.int .i64 kd,.int .i64 id,.int .i64 kk,.int .i64 be,.slice pa xs.length pc,.int .i64 t0,.int .i64 t1,.int .u64 draw,.slice fa fl fc] 49 (0,0)):=(hb5.block _ (Array.getElem?_eq_some_iff.1 HX4.out).1).trans HX4.out; have hS5:=opS hX5 (H4.out.below hb5).p1))
  have H5:=hide (H4.out.below hb5)
  clear hb5 hb5d hX5 hS5 hS3
  go_wp2
  go_ret
  exact ⟨rfl,_,_,_,_,_,_,_,Nat.le_refl _,H5.out,hlk.mono (Nat.le_add_right _ _),SameZ.refl _⟩
end
section
open Go.RowKit Go.Maps

theorem puts18_any (W0 w:World) (bp bb bs bm br:Nat) (cf:Cf) (gn:Net) (la:Option Addr) (lc:Nat) (nsv:BV) (nmv:Value) (nn:Nat) (L:List Ent) (kd id kk be t0 t1 draw:Int) (xs:List Int) (pa:Option Addr) (pc:Nat) (fv:Value) (hfv:∃ a n c,fv = .slice a n c)
    (h:PairAt W0 w bp bb bs bm br cf gn la lc nsv nmv nn L L) (hlk:Lk gn nn) (hv:IntsAt W0 (.slice pa xs.length pc) xs) (hid:I64 id) (hn:(xs.length + 6) * 8≤140737488355328) (hnn:(nn + 4) * 24≤140737488355328) (hdr:0≤draw∧draw < 18446744073709551616) :
    Calls Tryz.prog 35 #[.pointer (some ⟨bp,0,none⟩),.agg #[.int .i64 kd,.int .i64 id,.int .i64 kk,.int .i64 be,.slice pa xs.length pc,.int .i64 t0,.int .i64 t1,.int .u64 draw,fv]] w fun ev w'=>ev = .returned (.bool true)∧StepOk W0 bp bb bs bm br cf gn.ex nn w':=by
  by_cases hc:ptCode cf.dim xs = 0
  · cases he:findE id L with
    | some e=>exact puts18_ok W0 w bp bb bs bm br cf gn la lc nsv nmv nn L kd id kk be t0 t1 draw xs pa pc fv hfv h hlk hv hid hn hnn hdr hc (.inl (by rw [he]; rfl))
    | none =>
      by_cases hf:cf.cap≤L.length
      · exact puts18_no W0 w bp bb bs bm br cf gn la lc nsv nmv nn L kd id kk be t0 t1 draw xs pa pc fv hfv h hlk hv hid hn hnn 4 rfl
          (fun W hB hi=>put13_full bb bs bm cf gn id t0 t1 draw xs _ _ _ L W hid hB hc hi he hf)
          (fun W hR hi=>put36_full br cf la lc L id t0 t1 draw xs _ W hR hc hi he hf)
      · exact puts18_ok W0 w bp bb bs bm br cf gn la lc nsv nmv nn L kd id kk be t0 t1 draw xs pa pc fv hfv h hlk hv hid hn hnn hdr hc (.inr hf)
  · exact puts18_no W0 w bp bb bs bm br cf gn la lc nsv nmv nn L kd id kk be t0 t1 draw xs pa pc fv hfv h hlk hv hid hn hnn (ptCode cf.dim xs) (by simpa using hc)
      (fun W hB hi=>put13_bad bb bs bm cf gn id t0 t1 draw xs _ L W hB _ rfl hc hi)
      (fun W hR hi=>put36_bad br cf la lc L id t0 t1 draw xs _ W hR _ rfl (by simpa using hc) hi)
end
section
open Go.RowKit Go.Maps

def GotL (s:Nat) (w:World) (xa:Option Addr) (xc:Nat) (xs:List Int):Prop :=
  (xs = []∧xa = none∧xc = 0) ∨ ∃ g,xa = some ⟨g,0,none⟩∧s≤g∧Pts w g xc xs
theorem GotL.kept {s A:Nat} {w w':World} {xa:Option Addr} {xc:Nat} {xs:List Int} (h:GotL s w xa xc xs) (hk:Kept (fun k=>k = A) w w') (hA:A < s):GotL s w' xa xc xs:=by
  rcases h with h | ⟨g,rfl,hg,hp⟩
  · exact .inl h
  · exact .inr ⟨g,rfl,hg,ownsRow_kept hp hk fun g' e=>by
      obtain rfl:g = g':=by simpa [Value.ownBlock] using e
      omega⟩
theorem GotL.below {s:Nat} {w w':World} {xa:Option Addr} {xc:Nat} {xs:List Int} (h:GotL s w xa xc xs) (hk:Below w.heap.size w w'):GotL s w' xa xc xs:=by
  rcases h with h | ⟨g,rfl,hg,hp⟩
  · exact .inl h
  · exact .inr ⟨g,rfl,hg,ownsRow_below hp hk⟩
theorem GotL.mono {s t:Nat} {w:World} {xa:Option Addr} {xc:Nat} {xs:List Int} (h:GotL s w xa xc xs) (ht:t≤s):GotL t w xa xc xs:=by
  rcases h with h | ⟨g,rfl,hg,hp⟩
  · exact .inl h
  · exact .inr ⟨g,rfl,by omega,hp⟩

structure GetX (w1 wx:World) (i a b:Int) (xs:List Int) (xb:Nat) (xa:Option Addr) (xc:Nat):Prop where
  old:Below w1.heap.size w1 wx
  lt:xb < wx.heap.size
  c0:wx.cell? ⟨xb,0,none⟩ = some (.int .i64 i)
  c1:wx.cell? ⟨xb,1,none⟩ = some (.slice xa xs.length xc)
  c2:wx.cell? ⟨xb,2,none⟩ = some (.int .i64 a)
  c3:wx.cell? ⟨xb,3,none⟩ = some (.int .i64 b)
  got:GotL w1.heap.size wx xa xc xs

theorem Kept.one {A:Nat} {w w':World} (h:Kept (fun k=>k = A) w w') (o:Nat) (u:Value):Kept (fun k=>k = A) w (w'.setCell ⟨A,o,none⟩ u):=h.setCell (p:=⟨A,o,none⟩) (fun _=>rfl) u

theorem GetX.late {w1 w2:World} {i a b:Int} {xs:List Int} {xa:Option Addr} {xc:Nat} (hb:Below w1.heap.size w1 w2) (hg:GotL w1.heap.size w2 xa xc xs) :
    GetX w1 (w2.alloc (.cells #[.int .i64 i,.slice xa xs.length xc,.int .i64 a,.int .i64 b] 77)) i a b xs w2.heap.size xa xc :=
  ⟨hb.alloc hb.size _,by simp,by simp,by simp,by simp,by simp,hg.below ((Below.refl _ _).alloc (Nat.le_refl _) _)⟩
theorem GetX.early {w1 w2:World} {o:Obj} {i a b:Int} {xs:List Int} {xa:Option Addr} {xc:Nat} {v0 v1 v2 v3:Value} (hb1:Below w1.heap.size w1 w2) (hb:Below (w1.alloc o).drew.heap.size (w1.alloc o).drew w2) (hg:GotL (w1.alloc o).drew.heap.size w2 xa xc xs)
    (n0:w2.cell? ⟨w1.heap.size,0,none⟩ = some v0) (n1:w2.cell? ⟨w1.heap.size,1,none⟩ = some v1) (n2:w2.cell? ⟨w1.heap.size,2,none⟩ = some v2) (n3:w2.cell? ⟨w1.heap.size,3,none⟩ = some v3) :
    GetX w1 ((((w2.setCell ⟨w1.heap.size,0,none⟩ (.int .i64 i)).setCell ⟨w1.heap.size,1,none⟩ (.slice xa xs.length xc)).setCell ⟨w1.heap.size,2,none⟩ (.int .i64 a)).setCell ⟨w1.heap.size,3,none⟩ (.int .i64 b)) i a b xs w1.heap.size xa xc:=by
  have hz:w1.heap.size + 1≤w2.heap.size:=by have:=hb.size; simp at this; omega
  have hk:Kept (fun k=>k = w1.heap.size) w2 ((((w2.setCell ⟨w1.heap.size,0,none⟩ (.int .i64 i)).setCell ⟨w1.heap.size,1,none⟩ (.slice xa xs.length xc)).setCell ⟨w1.heap.size,2,none⟩ (.int .i64 a)).setCell ⟨w1.heap.size,3,none⟩ (.int .i64 b)) :=
    ((((Kept.refl _ _).one _ _).one _ _).one _ _).one _ _
  refine ⟨hb1.trans (hk.toBelow (by omega) (fun k e=>by omega)),Nat.lt_of_lt_of_le (by omega) hk.size,?_,?_,?_,?_,(hg.kept hk (by simp)).mono (by simp)⟩
  · rw [World.cell?_setCell_other _ _ _ _ (by simp),World.cell?_setCell_other _ _ _ _ (by simp),World.cell?_setCell_other _ _ _ _ (by simp)]
    exact World.cell?_setCell_same _ _ _ n0
  · rw [World.cell?_setCell_other _ _ _ _ (by simp),World.cell?_setCell_other _ _ _ _ (by simp)]
    exact World.cell?_setCell_same _ _ _ ((World.cell?_setCell_other _ _ _ _ (by simp)).trans n1)
  · rw [World.cell?_setCell_other _ _ _ _ (by simp)]
    exact World.cell?_setCell_same _ _ _ ((World.cell?_setCell_other _ _ _ _ (by simp)).trans ((World.cell?_setCell_other _ _ _ _ (by simp)).trans n2))
  · exact World.cell?_setCell_same _ _ _ ((World.cell?_setCell_other _ _ _ _ (by simp)).trans ((World.cell?_setCell_other _ _ _ _ (by simp)).trans ((World.cell?_setCell_other _ _ _ _ (by simp)).trans n3)))

structure GetY (w1 wx:World) (i a b:Int) (n:Nat) (xb:Nat) (xa:Option Addr) (xc:Nat):Prop where
  old:Below w1.heap.size w1 wx
  c0:wx.cell? ⟨xb,0,none⟩ = some (.int .i64 i)
  c1:wx.cell? ⟨xb,1,none⟩ = some (.slice xa n xc)
  c2:wx.cell? ⟨xb,2,none⟩ = some (.int .i64 a)
  c3:wx.cell? ⟨xb,3,none⟩ = some (.int .i64 b)
theorem GetY.late {w1 w2:World} {i a b d:Int} {n:Nat} {xa:Option Addr} {xc:Nat} (hb:Below w1.heap.size w1 w2) :
    GetY w1 (w2.alloc (.cells #[.int .i64 i,.slice xa n xc,.int .i64 a,.int .i64 b,.int .u64 d] 135)) i a b n w2.heap.size xa xc :=
  ⟨hb.alloc hb.size _,by simp,by simp,by simp,by simp⟩
theorem GetY.early {w1 w2:World} {i a b d:Int} {n:Nat} {xa:Option Addr} {xc:Nat} {v0 v1 v2 v3:Value} (hb1:Below w1.heap.size w1 w2)
    (n0:w2.cell? ⟨w1.heap.size,0,none⟩ = some v0) (n1:w2.cell? ⟨w1.heap.size,1,none⟩ = some v1) (n2:w2.cell? ⟨w1.heap.size,2,none⟩ = some v2) (n3:w2.cell? ⟨w1.heap.size,3,none⟩ = some v3) :
    GetY w1 (((((w2.setCell ⟨w1.heap.size,0,none⟩ (.int .i64 i)).setCell ⟨w1.heap.size,1,none⟩ (.slice xa n xc)).setCell ⟨w1.heap.size,2,none⟩ (.int .i64 a)).setCell ⟨w1.heap.size,3,none⟩ (.int .i64 b)).setCell ⟨w1.heap.size,4,none⟩ (.int .u64 d)) i a b n w1.heap.size xa xc:=by
  have hk:Kept (fun k=>k = w1.heap.size) w2 (((((w2.setCell ⟨w1.heap.size,0,none⟩ (.int .i64 i)).setCell ⟨w1.heap.size,1,none⟩ (.slice xa n xc)).setCell ⟨w1.heap.size,2,none⟩ (.int .i64 a)).setCell ⟨w1.heap.size,3,none⟩ (.int .i64 b)).setCell ⟨w1.heap.size,4,none⟩ (.int .u64 d)) :=
    (((((Kept.refl _ _).one _ _).one _ _).one _ _).one _ _).one _ _
  refine ⟨hb1.trans (hk.toBelow hb1.size (fun k e=>by omega)),?_,?_,?_,?_⟩
  · rw [World.cell?_setCell_other _ _ _ _ (by simp),World.cell?_setCell_other _ _ _ _ (by simp),World.cell?_setCell_other _ _ _ _ (by simp),World.cell?_setCell_other _ _ _ _ (by simp)]
    exact World.cell?_setCell_same _ _ _ n0
  · rw [World.cell?_setCell_other _ _ _ _ (by simp),World.cell?_setCell_other _ _ _ _ (by simp),World.cell?_setCell_other _ _ _ _ (by simp)]
    exact World.cell?_setCell_same _ _ _ ((World.cell?_setCell_other _ _ _ _ (by simp)).trans n1)
  · rw [World.cell?_setCell_other _ _ _ _ (by simp),World.cell?_setCell_other _ _ _ _ (by simp)]
    exact World.cell?_setCell_same _ _ _ ((World.cell?_setCell_other _ _ _ _ (by simp)).trans ((World.cell?_setCell_other _ _ _ _ (by simp)).trans n2))
  · rw [World.cell?_setCell_other _ _ _ _ (by simp)]
    exact World.cell?_setCell_same _ _ _ ((World.cell?_setCell_other _ _ _ _ (by simp)).trans ((World.cell?_setCell_other _ _ _ _ (by simp)).trans ((World.cell?_setCell_other _ _ _ _ (by simp)).trans n3)))

set_option maxHeartbeats 2000000 in
set_option maxRecDepth 20000 in
theorem gets19_any (W0 w:World) (bp bb bs bm br:Nat) (cf:Cf) (gn:Net) (la:Option Addr) (lc:Nat) (nsv:BV) (nmv:Value) (nn:Nat) (L:List Ent) (kd id kk be t0 t1 draw:Int) (pv fv:Value)
    (h:PairAt W0 w bp bb bs bm br cf gn la lc nsv nmv nn L L) (hlk:Lk gn nn) (hnn:(nn + 4) * 24≤140737488355328)
    (i a b d r:Int) (xs:List Int) (ya:Option Addr) (yc:Nat) (h8:xs.length≤8)
    (hget:∀ W,BaseAt W bb bs bm cf gn L→Calls Tryz.prog 29 #[.pointer (some ⟨bb,0,none⟩),.int .i64 id] W fun ev w'=>∃ xa xc,ev = .returned (.tuple #[.agg #[.int .i64 i,.slice xa xs.length xc,.int .i64 a,.int .i64 b],.int .i64 r])∧GotL W.heap.size w' xa xc xs∧Below W.heap.size W w')
    (href:∀ W,RefAt W br cf la lc L→Calls Tryz.prog 72 #[.pointer (some ⟨br,0,none⟩),.int .i64 id] W fun ev w'=>ev = .returned (.tuple #[.agg #[.int .i64 i,.slice ya xs.length yc,.int .i64 a,.int .i64 b,.int .u64 d],.int .i64 r])∧Below W.heap.size W w')
    (hya:∀ W,RefAt W br cf la lc L→IntsAt W (.slice ya xs.length yc) xs) :
    Calls Tryz.prog 36 #[.pointer (some ⟨bp,0,none⟩),.agg #[.int .i64 kd,.int .i64 id,.int .i64 kk,.int .i64 be,pv,.int .i64 t0,.int .i64 t1,.int .u64 draw,fv]] w fun ev w'=>ev = .returned (.bool true)∧StepOk W0 bp bb bs bm br cf gn.ex nn w':=by
  have hpl:=h.book.lt
  have H:=hide h
  have HGET:=hide hget
  have HREF:=hide href
  have HYA:=hide hya
  have HNN:=hide hnn
  clear hnn h hget href hya
  go_enter Tryz.func36,Tryz.ntmps36
  go_upto_region 1 with fail
  obtain ⟨w1,hw1⟩:∃ w1,w1 = w.alloc (.cells #[.int .i64 kd,.int .i64 id,.int .i64 kk,.int .i64 be,pv,.int .i64 t0,.int .i64 t1,.int .u64 draw,fv] 49):=⟨_,rfl⟩
  have h1:PairAt W0 w1 bp bb bs bm br cf gn la lc nsv nmv nn L L:=hw1 ▸ H.out.alloc _
  have ho1:w1.cell? ⟨w.heap.size,1,none⟩ = some (.int .i64 id):=by rw [hw1]; simp
  have hz1:w1.heap.size = w.heap.size + 1:=by rw [hw1]; simp
  rw [← hw1]
  clear hw1
  have H1:=hide h1
  have hp0:=h1.p0
  clear h1
  have hS1:=And.intro hp0 ho1
  go_cut [5,6] (fun xv ev wx=>∃ xb xa xc,xv = .pointer (some ⟨xb,0,none⟩)∧ev = .int .i64 r∧GetX w1 wx i a b xs xb xa xc)
  case first =>
    have hn1:bp < w1.heap.size:=by omega
    have hn2:w.heap.size < w1.heap.size:=by omega
    have hn3:w1.heap.size ≠ bp:=by omega
    have hn4:w1.heap.size ≠ w.heap.size:=by omega
    clear hz1
    go_region_held3 (fun wx=>wx.cell? ⟨bp,0,none⟩ = some (.pointer (some ⟨bb,0,none⟩))∧wx.cell? ⟨w.heap.size,1,none⟩ = some (.int .i64 id))
      (first | (with_reducible exact hS1) | (with_reducible exact hS2) | (refine ⟨?_,?_⟩ <;> (first | rw [World.cell?_setCell_far _ _ _ _ hn3,World.cell?_setCell_far _ _ _ _ hn3,World.cell?_setCell_far _ _ _ _ hn3,World.cell?_setCell_far _ _ _ _ hn3] | rw [World.cell?_setCell_far _ _ _ _ hn4,World.cell?_setCell_far _ _ _ _ hn4,World.cell?_setCell_far _ _ _ _ hn4,World.cell?_setCell_far _ _ _ _ hn4]) <;> (first | with_reducible exact hS2.1 | with_reducible exact hS2.2)) | (refine ⟨(World.cell?_alloc_lt _ _ _ hm1).trans ?_,(World.cell?_alloc_lt _ _ _ hm2).trans ?_⟩ <;> (first | with_reducible exact hS2.1 | with_reducible exact hS2.2)) | (refine ⟨(World.cell?_alloc_lt _ _ _ hn1).trans ?_,(World.cell?_alloc_lt _ _ _ hn2).trans ?_⟩ <;> (first | with_reducible exact hp0 | with_reducible exact ho1)) | ((simp [hp0,ho1]; done)) | ((simp [World.cell?_alloc_past,hm1,hm2,hS2.1,hS2.2]; done)))
      (first
        | (go_at_call 29; refine (HGET.out w1.drew ?_).mono ?_; (exact H1.out.base.below (Below.refl _ _).drew); rintro ev2 w2 ⟨xa,xc,rfl,hg,hb2⟩; have hb1:Below w1.heap.size w1 w2:=Below.trans (Below.refl _ _).drew (hb2.mono (by simp)); have hm1:bp < w2.heap.size:=Nat.lt_of_lt_of_le hn1 hb1.size; have hm2:w.heap.size < w2.heap.size:=Nat.lt_of_lt_of_le hn2 hb1.size; have hS2:=And.intro (Below.at hb1 hp0 hn1) (Below.at hb1 ho1 hn2); have HG:=hide hg; clear hg; have HB1:=hide hb1; clear hb1; have HB2:=hide hb2; clear hb2)
        | (go_at_call 29; refine (HGET.out _ ?_).mono ?_; (exact H1.out.base.below (by repeat (first | exact Below.refl _ _ | refine Below.drew ?_ | refine Below.alloc ?_ (by simp) _))); rintro ev2 w2 ⟨xa,xc,rfl,hg,hb2⟩; have hb1:Below w1.heap.size w1 w2:=Below.trans (by repeat (first | exact Below.refl _ _ | refine Below.drew ?_ | refine Below.alloc ?_ (by simp) _)) (hb2.mono (by simp)); have hm1:bp < w2.heap.size:=Nat.lt_of_lt_of_le hn1 hb1.size; have hm2:w.heap.size < w2.heap.size:=Nat.lt_of_lt_of_le hn2 hb1.size; have hS2:=And.intro (Below.at hb1 hp0 hn1) (Below.at hb1 ho1 hn2); have n0:w2.cell? ⟨w1.heap.size,0,none⟩ = some (.int .i64 0):=Below.at hb2 (by (simp; done)) (by (simp; done)); have n1:w2.cell? ⟨w1.heap.size,1,none⟩ = some (.slice none 0 0):=Below.at hb2 (by (simp; done)) (by (simp; done)); have n2:w2.cell? ⟨w1.heap.size,2,none⟩ = some (.int .i64 0):=Below.at hb2 (by (simp; done)) (by (simp; done)); have n3:w2.cell? ⟨w1.heap.size,3,none⟩ = some (.int .i64 0):=Below.at hb2 (by (simp; done)) (by (simp; done)); have fz:∀ o,w2.frozen? ⟨w1.heap.size,o,none⟩ = false:=fun o=>(hb2.frozen (p:=⟨_,o,none⟩) (by (simp; done))).trans (by (simp; done)); have HG:=hide hg; clear hg; have HB1:=hide hb1; clear hb1; have HB2:=hide hb2; clear hb2))
    all_goals go_wp2_with fail
    all_goals go_meet
    · exact ⟨_,_,_,rfl,rfl,GetX.late HB1.out HG.out⟩
    · exact ⟨_,_,_,rfl,rfl,GetX.early HB1.out HB2.out HG.out n0 n1 n2 n3⟩
  case rest =>
    obtain ⟨xb,xa,xc,rfl,rfl,hx⟩:=hcut
    have HX:=hide hx
    have h2:=H1.out.below hx.old
    have hp1:=h2.p1
    have H2:=hide h2
    have ho2:wc.cell? ⟨w.heap.size,1,none⟩ = some (.int .i64 id):=Below.at hx.old ho1 (by omega)
    have hT1:=And.intro hp1 ho2
    clear h2 hS1 hp0 ho1
    go_upto_region 2 with fail
    go_cut [7,8] (fun yv ev wx=>∃ yb,yv = .pointer (some ⟨yb,0,none⟩)∧ev = .int .i64 r∧GetY wc wx i a b xs.length yb ya yc)
    case first =>
      have hn1:bp < wc.heap.size:=by have:=hx.old.size; omega
      have hn2:w.heap.size < wc.heap.size:=by have:=hx.old.size; omega
      have hn3:wc.heap.size ≠ bp:=by omega
      have hn4:wc.heap.size ≠ w.heap.size:=by omega
      clear hz1 hx
      go_region_held3 (fun wx=>wx.cell? ⟨bp,1,none⟩ = some (.pointer (some ⟨br,0,none⟩))∧wx.cell? ⟨w.heap.size,1,none⟩ = some (.int .i64 id))
        (first | (with_reducible exact hT1) | (with_reducible exact hT2) | (refine ⟨?_,?_⟩ <;> (first | rw [World.cell?_setCell_far _ _ _ _ hn3,World.cell?_setCell_far _ _ _ _ hn3,World.cell?_setCell_far _ _ _ _ hn3,World.cell?_setCell_far _ _ _ _ hn3,World.cell?_setCell_far _ _ _ _ hn3] | rw [World.cell?_setCell_far _ _ _ _ hn4,World.cell?_setCell_far _ _ _ _ hn4,World.cell?_setCell_far _ _ _ _ hn4,World.cell?_setCell_far _ _ _ _ hn4,World.cell?_setCell_far _ _ _ _ hn4]) <;> (first | with_reducible exact hT2.1 | with_reducible exact hT2.2)) | (refine ⟨(World.cell?_alloc_lt _ _ _ hm1).trans ?_,(World.cell?_alloc_lt _ _ _ hm2).trans ?_⟩ <;> (first | with_reducible exact hT2.1 | with_reducible exact hT2.2)) | (refine ⟨(World.cell?_alloc_lt _ _ _ hn1).trans ?_,(World.cell?_alloc_lt _ _ _ hn2).trans ?_⟩ <;> (first | with_reducible exact hp1 | with_reducible exact ho2)) | ((simp [hp1,ho2]; done)) | ((simp [World.cell?_alloc_past,hm1,hm2,hT2.1,hT2.2]; done)))
        (first
          | (go_at_call 72; refine (HREF.out wc.drew ?_).mono ?_; (exact H2.out.ref.below (Below.refl _ _).drew); rintro ev2 w3 ⟨rfl,hb2⟩; have hb1:Below wc.heap.size wc w3:=Below.trans (Below.refl _ _).drew (hb2.mono (by simp)); have hm1:bp < w3.heap.size:=Nat.lt_of_lt_of_le hn1 hb1.size; have hm2:w.heap.size < w3.heap.size:=Nat.lt_of_lt_of_le hn2 hb1.size; have hT2:=And.intro (Below.at hb1 hp1 hn1) (Below.at hb1 ho2 hn2); have HB1:=hide hb1; clear hb1; have HB2:=hide hb2; clear hb2)
          | (go_at_call 72; refine (HREF.out _ ?_).mono ?_; (exact H2.out.ref.below (by repeat (first | exact Below.refl _ _ | refine Below.drew ?_ | refine Below.alloc ?_ (by simp) _))); rintro ev2 w3 ⟨rfl,hb2⟩; have hb1:Below wc.heap.size wc w3:=Below.trans (by repeat (first | exact Below.refl _ _ | refine Below.drew ?_ | refine Below.alloc ?_ (by simp) _)) (hb2.mono (by simp)); have hm1:bp < w3.heap.size:=Nat.lt_of_lt_of_le hn1 hb1.size; have hm2:w.heap.size < w3.heap.size:=Nat.lt_of_lt_of_le hn2 hb1.size; have hT2:=And.intro (Below.at hb1 hp1 hn1) (Below.at hb1 ho2 hn2); have n0:w3.cell? ⟨wc.heap.size,0,none⟩ = some (.int .i64 0):=Below.at hb2 (by (simp; done)) (by (simp; done)); have n1:w3.cell? ⟨wc.heap.size,1,none⟩ = some (.slice none 0 0):=Below.at hb2 (by (simp; done)) (by (simp; done)); have n2:w3.cell? ⟨wc.heap.size,2,none⟩ = some (.int .i64 0):=Below.at hb2 (by (simp; done)) (by (simp; done)); have n3:w3.cell? ⟨wc.heap.size,3,none⟩ = some (.int .i64 0):=Below.at hb2 (by (simp; done)) (by (simp; done)); have n4:w3.cell? ⟨wc.heap.size,4,none⟩ = some (.int .u64 0):=Below.at hb2 (by (simp; done)) (by (simp; done)); have fz:∀ o,w3.frozen? ⟨wc.heap.size,o,none⟩ = false:=fun o=>(hb2.frozen (p:=⟨_,o,none⟩) (by (simp; done))).trans (by (simp; done)); have HB1:=hide hb1; clear hb1; have HB2:=hide hb2; clear hb2))
      all_goals go_wp2_with fail
      all_goals go_meet
      · exact ⟨_,rfl,rfl,GetY.late HB1.out⟩
      · exact ⟨_,rfl,rfl,GetY.early HB1.out n0 n1 n2 n3⟩
    case rest =>
      obtain ⟨yb,rfl,rfl,hy⟩:=hcut
      have x0:=Below.at hy.old hx.c0 hx.lt
      have x1:=Below.at hy.old hx.c1 hx.lt
      have x2:=Below.at hy.old hx.c2 hx.lt
      have x3:=Below.at hy.old hx.c3 hx.lt
      have y0:=hy.c0
      have y1:=hy.c1
      have y2:=hy.c2
      have y3:=hy.c3
      have H3:=hide (H2.out.below hy.old)
      have HG:=hide (hx.got.below hy.old)
      clear hx hy hp1 ho2 hT1
      have HY:=hide (HYA.out _ H3.out.ref)
      go_wp2
      go_loopw [9,10] (fun ok iv wr=>∃ (k np:Nat),k≤xs.length∧iv = .int .i64 k∧ok = .bool true∧wr = wc.drewN np) (fun _ iv _=>xs.length - (intOf iv).toNat)
      case atStart=>exact ⟨0,0,Nat.zero_le _,rfl,rfl,rfl⟩
      case round =>
        obtain ⟨k,np,hk,rfl,rfl,rfl⟩:=hrel
        by_cases hlt:k < xs.length
        · obtain ⟨g,rfl,gx,hp⟩:∃ g,xa = some ⟨g,0,none⟩∧Hid (w1.heap.size≤g)∧Hid (Pts wc g xc xs):=by
            rcases HG.out with ⟨rfl,_⟩ | ⟨g,e,h1,h2⟩
            · simp at hlt
            · exact ⟨g,e,h1,h2⟩
          obtain ⟨yg,yo,rfl,hyc⟩:∃ yg yo,ya = some ⟨yg,yo,none⟩∧wc.cell? ⟨yg,yo + k,none⟩ = some (.int .i64 (xs.getD k 0)):=by
            obtain ⟨a',c',e',_,_,hx⟩:=HY.out
            simp only [Value.slice.injEq] at e'
            obtain ⟨rfl,_,rfl⟩:=e'
            rcases hx with rfl | ⟨b,off,rfl,hc⟩
            · simp at hlt
            · exact ⟨b,off,rfl,hc k hlt⟩
          have hxc:wc.cell? ⟨g,k,none⟩ = some (.int .i64 (xs.getD k 0)):=hp.out.at hlt
          generalize xs.getD k 0 = x at *
          go_wp2
          go_quiet (fail)
          go_wp2
          refine ⟨⟨k + 1,np + nq,by omega,by go_num,rfl,?_⟩,by simp [intOf]; omega⟩
          rfl
        · obtain rfl:k = xs.length:=by omega
          have H4:=hide (H3.out.below (below_drewN (Below.refl _ _) np))
          have HBK:=hide (H4.out.below (Below.refl _ _).drew).book
          rcases HG.out with ⟨hnil,rfl,rfl⟩ | ⟨g,rfl,gx,hp⟩
          · subst hnil
            have HI:Hid (InS (wc.drewN np).drew bp (.slice none 0 0) nsv.v nmv (wc.drewN np).drew (.slice none 0 0) 0 nsv.v nn nmv nn):=(H4.out.below (Below.refl _ _).drew).book.ins (xs:=[]) ⟨rfl,.inl ⟨rfl,rfl⟩⟩ (fun g e=>by cases e)
            go_wp2
            go_region_with (first | (go_at_call 70; refine (ints35_rec bp none 0 0 nsv nmv nn _ HI.out HBK.out (by decide) HNN.out).mono ?_; rintro ev w4 ⟨rfl,lv',nsv',nmv',hs4⟩))
            have H5:=hide ((H4.out.below (Below.refl _ _).drew).intsN hs4)
            clear hs4
            go_wp2
            go_ret
            exact ⟨rfl,_,_,_,_,_,_,_,Nat.le_refl _,H5.out,hlk.mono (Nat.le_add_right _ _),SameZ.refl _⟩
          · have hA:=H1.out.apart (A:=g) gx
            have hp4:(wc.drewN np).drew.ownsRow 0 3 1 (.slice (some ⟨g,0,none⟩) xs.length xc) xs.length (xs.map (Value.int .i64)):=ownsRow_below hp (below_drewN (Below.refl _ _) np).drew
            have HI:Hid (InS (wc.drewN np).drew bp (.slice (some ⟨g,0,none⟩) xs.length xc) nsv.v nmv (wc.drewN np).drew (.slice (some ⟨g,0,none⟩) xs.length xc) xs.length nsv.v nn nmv nn):=(H4.out.below (Below.refl _ _).drew).book.ins hp4 (fun g' e e2=>hA.nm (by rw [e2,← e]; rfl))
            have HA:=hide hA
            have hb8:(xs.length + 4) * 8≤140737488355328:=by omega
            clear hA hp4 hp gx
            go_wp2
            go_region_with (first | (go_at_call 70; refine (ints35_rec bp (some ⟨g,0,none⟩) xs.length xc nsv nmv nn _ HI.out HBK.out hb8 HNN.out).mono ?_; rintro ev w4 ⟨rfl,lv',nsv',nmv',hs4⟩))
            have H5:=hide ((H4.out.below (Below.refl _ _).drew).ints' HA.out hs4)
            clear hs4
            go_wp2
            go_ret
            exact ⟨rfl,_,_,_,_,_,_,_,Nat.le_refl _,H5.out,hlk.mono (Nat.le_add_right _ _),SameZ.refl _⟩

theorem gets19_all (W0 w:World) (bp bb bs bm br:Nat) (cf:Cf) (gn:Net) (la:Option Addr) (lc:Nat) (nsv:BV) (nmv:Value) (nn:Nat) (L:List Ent) (kd id kk be t0 t1 draw:Int) (pv fv:Value)
    (h:PairAt W0 w bp bb bs bm br cf gn la lc nsv nmv nn L L) (hlk:Lk gn nn) (hid:I64 id) (hnn:(nn + 4) * 24≤140737488355328) :
    Calls Tryz.prog 36 #[.pointer (some ⟨bp,0,none⟩),.agg #[.int .i64 kd,.int .i64 id,.int .i64 kk,.int .i64 be,pv,.int .i64 t0,.int .i64 t1,.int .u64 draw,fv]] w fun ev w'=>ev = .returned (.bool true)∧StepOk W0 bp bb bs bm br cf gn.ex nn w':=by
  cases he:findE id L with
  | none =>
    refine gets19_any W0 w bp bb bs bm br cf gn la lc nsv nmv nn L kd id kk be t0 t1 draw pv fv h hlk hnn 0 0 0 0 5 [] none 0 (by simp) ?_ ?_ ?_
    · intro W hB
      refine (get14_no bb bs bm cf gn id L W hid hB he).mono ?_
      rintro ev w' ⟨rfl,hb⟩
      exact ⟨none,0,rfl,.inl ⟨rfl,rfl,rfl⟩,hb⟩
    · exact fun W hR=>get37_no br cf la lc L id W hR he
    · exact fun W hR=>⟨none,0,rfl,by simp,by simp,.inl rfl⟩
  | some e =>
    have hm:e ∈ L:=(findE_mem he).1
    have h8:e.pt.length≤8:=(h.base.map.pos e hm).2
    refine gets19_any W0 w bp bb bs bm br cf gn la lc nsv nmv nn L kd id kk be t0 t1 draw pv fv h hlk hnn e.id e.t0 e.t1 e.draw 0 e.pt (some ⟨e.rb,0,none⟩) e.rc h8 ?_ ?_ ?_
    · intro W hB
      refine (get14_yes bb bs bm cf gn id L e W hid hB he).mono ?_
      rintro ev w' ⟨g,gc,rfl,hg,hp,hb⟩
      exact ⟨_,_,rfl,.inr ⟨g,rfl,hg,hp⟩,hb⟩
    · exact fun W hR=>get37_yes br cf la lc L id e W hR he
    · intro W hR
      have hp:=hR.pts e hm
      exact ⟨_,_,rfl,ownsRow_len hp,by omega,.inr ⟨e.rb,0,rfl,hp.cell⟩⟩
end
section
open Go.RowKit Go.Maps

section
variable {W0 w w1 w2:World} {bp bb bs bm br X:Nat} {cf:Cf} {gn gn':Net} {id:Int} {la:Option Addr} {lc:Nat} {nsv:BV} {nmv:Value} {nn:Nat} {L:List Ent} {cs:Array Value}
theorem del_base (h:PairAt W0 w bp bb bs bm br cf gn la lc nsv nmv nn L L) (hX:w.heap[X]? = some (.cells cs 49 (0,0))) (hk:Kept (fun k=>k = bm ∨ gn.F k) w.drew w1) (hB:BaseAt w1 bb bs bm cf gn' (delE id L)) (hf:∀ k,gn'.F k→gn.F k ∨ w.drew.heap.size≤k) (hXF:¬ gn.F X) (hlk:gn.like gn') :
    PairAt W0 w1 bp bb bs bm br cf gn' la lc nsv nmv nn (delE id L) L∧w1.heap[X]? = some (.cells cs 49 (0,0)):=by
  have hk':Kept (fun k=>k = bm ∨ gn.F k) w w1:=(Kept.refl _ w).drew.trans hk (fun _ _ h=>h)
  obtain ⟨p0,p1,p2,p3,p4,p5,bk,rf,tb,ts,old,hx⟩:=h.turned hk'
  obtain ⟨l1,l2,l3,l4,l5⟩:=hlk
  refine ⟨⟨p0,p1,l3 ▸ p2,l3 ▸ p3,(by rw [l4]; exact p4),(by rw [l5]; exact p5),bk,hB,rf,tb,ts,⟨fun e he e1=>?_,h.am.2⟩,old,h.pos,h.lbp,h.lbb,h.lbm,h.lbr,h.lla,h.lns,h.lnm,h.pfNew hf,l2 ▸ hx,fun k hk=>?_,?_,?_⟩,(hk'.block X (Array.getElem?_eq_some_iff.1 hX).1 (fun e=>e.elim (h.base.map.mb_ne hX) hXF)).trans hX⟩
  · exact h.am.1 e (mem_delE he) e1
  · rw [l2] at hk
    have q:=h.xa k hk
    have hlt:=h.x.lt hk
    exact ⟨q.old,q.p,q.b,q.s,q.m,q.r,q.ns,q.nm,q.l,fun e he=>q.mb e (mem_delE he),q.rb,fun e=>(hf k e).elim q.f (fun e=>by have:w.heap.size≤k:=e; omega),by rw [l2]; exact q.o⟩
  · rw [l2]; exact h.xn
  · rw [l2]
    exact h.o.kept hk' (fun k e _ q=>e.elim q.m q.f) (fun k hlt q=>⟨q.old,q.p,q.b,q.s,q.m,q.r,q.ns,q.nm,q.l,fun e he=>q.mb e (mem_delE he),q.rb,fun e=>(hf k e).elim q.f (fun e=>by have:w.heap.size≤k:=e; omega)⟩)
theorem del_ref {la':Option Addr} {lc':Nat} (h:PairAt W0 w bp bb bs bm br cf gn la lc nsv nmv nn (delE id L) L) (hX:w.heap[X]? = some (.cells cs 49 (0,0))) (hR:RefAt w1 br cf la' lc' (delE id L)) (hl:∀ g,(Value.slice la' (delE id L).length lc').ownBlock = some g→w.drew.heap.size≤g) (hk:Kept (fun k=>k = br) w.drew w1) :
    PairAt W0 w1 bp bb bs bm br cf gn la' lc' nsv nmv nn (delE id L) (delE id L)∧w1.heap[X]? = some (.cells cs 49 (0,0)):=by
  have hk':Kept (fun k=>k = br) w w1:=(Kept.refl _ w).drew.trans hk (fun _ _ h=>h)
  obtain ⟨cr,hcr⟩:=h.ref.typ
  refine ⟨h.refTurned (hk'.mono fun k _ e=>.inl e) hR (fun g hg=>Nat.le_trans h.old.size (hl g hg)) (fun e he=>h.am.2 e (mem_delE he)) (fun k hf=>⟨fun e=>(by have h1:=(h.base.foot k hf).1; have h2:w.heap.size≤k:=hl k e; omega),fun e he=>(h.pf k hf).2.2.2.2.2.2 e (mem_delE he)⟩) (fun k hlt hx=>⟨fun e=>(by have h2:w.heap.size≤k:=hl k e; omega),fun e he=>hx.elim (fun hx=>(h.xa k hx).rb e (mem_delE he)) (fun hx=>(h.o.a k hx).2.rb e (mem_delE he))⟩),(hk'.block X (Array.getElem?_eq_some_iff.1 hX).1 (ne_of_elem hX hcr (by decide))).trans hX⟩
end

set_option maxHeartbeats 2000000 in
set_option maxRecDepth 20000 in
theorem step10_put (W0 w:World) (bp bb bs bm br:Nat) (cf:Cf) (gn:Net) (la:Option Addr) (lc:Nat) (nsv:BV) (nmv:Value) (nn:Nat) (L:List Ent) (id kk be t0 t1 draw:Int) (xs:List Int) (pa:Option Addr) (pc:Nat) (fa:Option Addr) (fn fc:Nat)
    (h:PairAt W0 w bp bb bs bm br cf gn la lc nsv nmv nn L L) (hlk:Lk gn nn) (hv:IntsAt W0 (.slice pa xs.length pc) xs) (hid:I64 id) (hn:(xs.length + 6) * 8≤140737488355328) (hnn:(nn + 4) * 24≤140737488355328) (hdr:0≤draw∧draw < 18446744073709551616) :
    Calls Tryz.prog 15 #[.pointer (some ⟨bp,0,none⟩),.agg #[.int .i64 1,.int .i64 id,.int .i64 kk,.int .i64 be,.slice pa xs.length pc,.int .i64 t0,.int .i64 t1,.int .u64 draw,.slice fa fn fc]] w fun ev w'=>ev = .returned (.bool true)∧StepOk W0 bp bb bs bm br cf gn.ex nn w':=by
  have H:=hide h
  have HV:=hide hv
  have HN:=hide hn
  have HNN:=hide hnn
  clear h hv hn hnn
  go_enter Tryz.func15,Tryz.ntmps15
  go_wp2_with fail
  refine (puts18_any W0 _ bp bb bs bm br cf gn la lc nsv nmv nn L 1 id kk be t0 t1 draw xs pa pc _ ⟨_,_,_,rfl⟩ (H.out.alloc _) hlk HV.out hid HN.out HNN.out hdr).mono ?_
  rintro ev w1 ⟨rfl,hs⟩
  go_wp2
  go_ret
  exact ⟨rfl,hs⟩

set_option maxHeartbeats 2000000 in
set_option maxRecDepth 20000 in
theorem step10_get (W0 w:World) (bp bb bs bm br:Nat) (cf:Cf) (gn:Net) (la:Option Addr) (lc:Nat) (nsv:BV) (nmv:Value) (nn:Nat) (L:List Ent) (id kk be t0 t1 draw:Int) (pn:Nat) (pa:Option Addr) (pc:Nat) (fa:Option Addr) (fn fc:Nat)
    (h:PairAt W0 w bp bb bs bm br cf gn la lc nsv nmv nn L L) (hlk:Lk gn nn) (hid:I64 id) (hnn:(nn + 4) * 24≤140737488355328) :
    Calls Tryz.prog 15 #[.pointer (some ⟨bp,0,none⟩),.agg #[.int .i64 2,.int .i64 id,.int .i64 kk,.int .i64 be,.slice pa pn pc,.int .i64 t0,.int .i64 t1,.int .u64 draw,.slice fa fn fc]] w fun ev w'=>ev = .returned (.bool true)∧StepOk W0 bp bb bs bm br cf gn.ex nn w':=by
  have H:=hide h
  have HNN:=hide hnn
  clear h hnn
  go_enter Tryz.func15,Tryz.ntmps15
  go_wp2_with fail
  refine (gets19_all W0 _ bp bb bs bm br cf gn la lc nsv nmv nn L 2 id kk be t0 t1 draw _ _ (H.out.alloc _) hlk hid HNN.out).mono ?_
  rintro ev w1 ⟨rfl,hs⟩
  go_wp2
  go_ret
  exact ⟨rfl,hs⟩

set_option maxHeartbeats 2000000 in
set_option maxRecDepth 20000 in
theorem step10_count (W0 w:World) (bp bb bs bm br:Nat) (cf:Cf) (gn:Net) (la:Option Addr) (lc:Nat) (nsv:BV) (nmv:Value) (nn:Nat) (L:List Ent) (id kk be t0 t1 draw:Int) (pn:Nat) (pa:Option Addr) (pc:Nat) (fa:Option Addr) (fn fc:Nat)
    (h:PairAt W0 w bp bb bs bm br cf gn la lc nsv nmv nn L L) (hlk:Lk gn nn) :
    Calls Tryz.prog 15 #[.pointer (some ⟨bp,0,none⟩),.agg #[.int .i64 4,.int .i64 id,.int .i64 kk,.int .i64 be,.slice pa pn pc,.int .i64 t0,.int .i64 t1,.int .u64 draw,.slice fa fn fc]] w fun ev w'=>ev = .returned (.bool true)∧StepOk W0 bp bb bs bm br cf gn.ex nn w':=by
  have H:=hide h
  have hp0:=h.p0
  have hp1:=h.p1
  have hr6:=h.ref.r6
  have hbp:=h.book.lt
  have hbr:=h.ref.lt
  clear h
  go_enter Tryz.func15,Tryz.ntmps15
  go_wp2_with fail
  refine (count15_any bb bs bm cf gn L _ (H.out.alloc _).base).mono ?_
  rintro ev w1 ⟨rfl,rfl⟩
  go_wp2
  go_ret
  exact ⟨rfl,_,_,_,_,_,_,_,Nat.le_add_right _ _,H.out.alloc _,hlk,SameZ.refl _⟩

set_option maxHeartbeats 2000000 in
set_option maxRecDepth 20000 in
theorem step10_else (W0 w:World) (bp bb bs bm br:Nat) (cf:Cf) (gn:Net) (la:Option Addr) (lc:Nat) (nsv:BV) (nmv:Value) (nn:Nat) (L:List Ent) (kd id kk be t0 t1 draw:Int) (pn:Nat) (pa:Option Addr) (pc:Nat) (fa:Option Addr) (fn fc:Nat)
    (h:PairAt W0 w bp bb bs bm br cf gn la lc nsv nmv nn L L) (hlk:Lk gn nn) (b1:(kd == 1) = false) (b2:(kd == 2) = false) (b3:(kd == 3) = false) (b4:(kd == 4) = false) (b5:(kd == 5) = false) (b6:(kd == 6) = false) (b7:(kd == 7) = false) :
    Calls Tryz.prog 15 #[.pointer (some ⟨bp,0,none⟩),.agg #[.int .i64 kd,.int .i64 id,.int .i64 kk,.int .i64 be,.slice pa pn pc,.int .i64 t0,.int .i64 t1,.int .u64 draw,.slice fa fn fc]] w fun ev w'=>ev = .returned (.bool true)∧StepOk W0 bp bb bs bm br cf gn.ex nn w':=by
  have H:=hide h
  clear h
  go_enter Tryz.func15,Tryz.ntmps15
  go_wp2
  go_ret
  exact ⟨rfl,_,_,_,_,_,_,_,Nat.le_add_right _ _,H.out.alloc _,hlk,SameZ.refl _⟩
end
end Go.Proofs.YtpkiefjanmfgfaaGreatDoor
