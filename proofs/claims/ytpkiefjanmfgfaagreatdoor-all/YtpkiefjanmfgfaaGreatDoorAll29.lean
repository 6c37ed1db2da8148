import Derived.Test.YtpkiefjanmfgfaaGreatDoorAll19
import Derived.Test.YtpkiefjanmfgfaaGreatDoorAll24
import Derived.Test.YtpkiefjanmfgfaaGreatDoorAll27
import Derived.Test.YtpkiefjanmfgfaaGreatDoorAll28
namespace Go.Proofs.YtpkiefjanmfgfaaGreatDoor
section
open Go.RowKit Go.Maps

def ptrO (o:Option Nat):Value:=.pointer (o.map fun b=>⟨b,0,none⟩)
structure AllWays (w:World) (c d:Cf) (len:Nat) (sa:Option Addr) (I1:Option Nat→World→Prop) (I2:Option Nat→Option Nat→World→Prop) (J:Option Nat→Option Nat→Nat→World→Prop):Prop where
  one:∀ W,Below w.heap.size w W→Calls Tryz.prog 14 #[.agg #[.int .i64 c.dim,.int .i64 c.cap,.int .i64 c.links,.int .i64 c.metric,.int .i64 c.beam,.int .i64 c.top]] W fun ev w'=>∃ po,ev = .returned (.tuple #[ptrO po,.bool true])∧I1 po w'∧Below W.heap.size W w'
  two:∀ po W,I1 po W→Calls Tryz.prog 14 #[.agg #[.int .i64 d.dim,.int .i64 d.cap,.int .i64 d.links,.int .i64 d.metric,.int .i64 d.beam,.int .i64 d.top]] W fun ev w'=>∃ qo,ev = .returned (.tuple #[ptrO qo,.bool true])∧I2 po qo w'∧Below W.heap.size W w'
  none0:∀ po W,I2 po none W→J po none 0 W
  some0:∀ po b W,I2 po (some b) W→(∃ x,W.cell? ⟨b,6,none⟩ = some (.int .i64 x))∧W.frozen? ⟨b,6,none⟩ = false∧J po (some b) 0 (W.setCell ⟨b,6,none⟩ (.int .i64 1073741824))
  old:∀ po qo k W,J po qo k W→Below w.heap.size w W
  skip:∀ po qo k W,J po qo k W→k < len→J po qo (k + 1) W
  step:∀ po qo k W b,J po qo k W→k < len→(po = some b ∨ qo = some b)→∀ b' off,sa = some ⟨b',off,none⟩→∀ kd id kk be t0 t1 draw xs pa pc fa fn fc F,OpAt w b' (off + k * 9) kd id kk be t0 t1 draw xs pa pc fa fn fc→FiltAt w (.slice fa fn fc) F→(F.length + 1) * 24≤140737488355328→(∀ c ∈ F,(c.length + 1) * 24≤140737488355328)→Calls Tryz.prog 15 #[.pointer (some ⟨b,0,none⟩),.agg #[.int .i64 kd,.int .i64 id,.int .i64 kk,.int .i64 be,.slice pa xs.length pc,.int .i64 t0,.int .i64 t1,.int .u64 draw,.slice fa fn fc]] W fun ev w'=>ev = .returned (.bool true)∧J po qo (k + 1) w'
  look:∀ po qo k W b,J po qo k W→(po = some b ∨ qo = some b)→Calls Tryz.prog 16 #[.pointer (some ⟨b,6,none⟩)] W fun ev w'=>ev = .returned (.bool true)∧J po qo k w'

set_option maxHeartbeats 4000000 in
set_option maxRecDepth 20000 in
theorem all6_of (w:World) (c d:Cf) (sa:Option Addr) (len cap:Nat) (hg:Handle w) (hs:ScriptF w sa len) (hsm:len≤1048576)
    (h:∀ o1 o2,∃ I1 I2 J,AllWays ((w.alloc o1).alloc o2) c d len sa I1 I2 J) :
    Calls Tryz.prog 6 #[.agg #[.int .i64 c.dim,.int .i64 c.cap,.int .i64 c.links,.int .i64 c.metric,.int .i64 c.beam,.int .i64 c.top],.agg #[.int .i64 d.dim,.int .i64 d.cap,.int .i64 d.links,.int .i64 d.metric,.int .i64 d.beam,.int .i64 d.top],.slice sa len cap] w fun ev w'=>ev = .returned (.bool true)∧Below w.heap.size w w':=by
  have HS:=hide hs
  have HA:=hide h
  obtain ⟨d1,d2,d3,d4,d5,d6⟩:=c
  obtain ⟨e1,e2,e3,e4,e5,e6⟩:=d
  simp only
  clear hs h
  go_enter Tryz.func6,Tryz.ntmps6
  go_wp2_with fail
  obtain ⟨w2,hw2⟩:∃ w2,w2 = (w.alloc (.cells #[.int .i64 d1,.int .i64 d2,.int .i64 d3,.int .i64 d4,.int .i64 d5,.int .i64 d6] 23)).alloc (.cells #[.int .i64 e1,.int .i64 e2,.int .i64 e3,.int .i64 e4,.int .i64 e5,.int .i64 e6] 23):=⟨_,rfl⟩
  obtain ⟨I1,I2,J,hW⟩:=HA.out (.cells #[.int .i64 d1,.int .i64 d2,.int .i64 d3,.int .i64 d4,.int .i64 d5,.int .i64 d6] 23) (.cells #[.int .i64 e1,.int .i64 e2,.int .i64 e3,.int .i64 e4,.int .i64 e5,.int .i64 e6] 23)
  have HW:=hide hW
  clear hW
  have hb2:Below w.heap.size w w2:=hw2 ▸ ((Below.refl _ _).alloc (Nat.le_refl _) _).alloc (by simp) _
  have s1:w2.heap[w.heap.size]? = some (.cells #[.int .i64 d1,.int .i64 d2,.int .i64 d3,.int .i64 d4,.int .i64 d5,.int .i64 d6] 23 (0,0)):=by rw [hw2]; exact al_lt (heap_alloc_new _ _)
  have s2:w2.heap[w.heap.size + 1]? = some (.cells #[.int .i64 e1,.int .i64 e2,.int .i64 e3,.int .i64 e4,.int .i64 e5,.int .i64 e6] 23 (0,0)):=by rw [hw2]; exact al_at _ _ _ (by simp)
  rw [← hw2] at HW ⊢
  clear hw2 HA
  have HB2:=hide hb2
  have HS1:=hide (fun W (hW:Below w2.heap.size w2 W)=>(hW.block _ (heap_lt s1)).trans s1)
  have HS2:=hide (fun W (hW:Below w2.heap.size w2 W)=>(hW.block _ (heap_lt s2)).trans s2)
  clear s1 s2 hb2
  refine (awake8_any _ (hg.below HB2.out)).mono ?_
  rintro ev w3 ⟨rfl,hb3⟩
  have k0:=cells_at (HS1.out w3 hb3) 0 rfl
  have k1:=cells_at (HS1.out w3 hb3) 1 rfl
  have k2:=cells_at (HS1.out w3 hb3) 2 rfl
  have k3:=cells_at (HS1.out w3 hb3) 3 rfl
  have k4:=cells_at (HS1.out w3 hb3) 4 rfl
  have k5:=cells_at (HS1.out w3 hb3) 5 rfl
  simp only [List.getElem_toArray,List.getElem_cons_zero,List.getElem_cons_succ] at k0 k1 k2 k3 k4 k5
  have HB3:=hide hb3
  clear hb3
  go_wp2_with fail
  refine (HW.out.one w3 HB3.out).mono ?_
  rintro ev w4 ⟨po,rfl,hI1,hb4⟩
  have hb24:Below w2.heap.size w2 w4:=HB3.out.trans (hb4.mono HB3.out.size)
  clear k0 k1 k2 k3 k4 k5
  have k0:=cells_at (HS2.out w4 hb24) 0 rfl
  have k1:=cells_at (HS2.out w4 hb24) 1 rfl
  have k2:=cells_at (HS2.out w4 hb24) 2 rfl
  have k3:=cells_at (HS2.out w4 hb24) 3 rfl
  have k4:=cells_at (HS2.out w4 hb24) 4 rfl
  have k5:=cells_at (HS2.out w4 hb24) 5 rfl
  simp only [List.getElem_toArray,List.getElem_cons_zero,List.getElem_cons_succ] at k0 k1 k2 k3 k4 k5
  have HI1:=hide hI1
  clear hI1 hb4 hb24
  unfold ptrO
  go_wp2_with fail
  refine (HW.out.two po w4 HI1.out).mono ?_
  rintro ev w5 ⟨qo,rfl,hI2,_⟩
  have HI2:=hide hI2
  clear hI2 k0 k1 k2 k3 k4 k5 HI1
  unfold ptrO
  go_upto_if 39 with fail
  go_cut [10] (fun v wx=>v = .pointer (qo.map fun b=>⟨b,0,none⟩)∧J po qo 0 wx)
  case first =>
    cases qo with
    | none =>
      simp only [Option.map_none]
      go_wp2_with fail
      go_meet
      exact ⟨rfl,HW.out.none0 _ _ HI2.out⟩
    | some bq =>
      obtain ⟨⟨x6,hx6⟩,hf6,hJ⟩:=HW.out.some0 _ _ _ HI2.out
      have HJ:=hide hJ
      clear hJ
      simp only [Option.map_some]
      go_wp2_with fail
      go_meet
      exact ⟨rfl,HJ.out⟩
  case rest =>
  rename World=>w6
  obtain ⟨rfl,hJ0⟩:=hcut
  have HJ0:=hide hJ0
  clear hJ0 HI2
  go_wp2
  go_loopw [12,13,14,15,16] (fun iv _ _ _ _ wr=>∃ k:Nat,iv = .int .i64 k∧k≤len∧Hid (J po qo k wr)) (fun iv _ _ _ _ _=>len - (intOf iv).toNat)
  case atStart=>exact ⟨0,rfl,Nat.zero_le _,HJ0.out⟩
  case round =>
    clear HJ0
    obtain ⟨k,rfl,hk,HJ⟩:=hrel
    by_cases hlt:k < len
    · obtain ⟨b',off,rfl,kd,id,kk,be,t0,t1,draw,xs,pa,pc,fa,fn,fc,F,ho,hff,hfn,hfm⟩:=HS.out.op k hlt
      have ho2:=ho.below HB2.out
      have hor:=ho2.below (HW.out.old _ _ _ _ HJ.out)
      have c0:=hor.c0
      have c1:=hor.c1
      have c2:=hor.c2
      have c3:=hor.c3
      have c4:=hor.c4
      have c5:=hor.c5
      have c6:=hor.c6
      have c7:=hor.c7
      have c8:=hor.c8
      have HST:=hide (fun b hb=>HW.out.step po qo k wr b HJ.out hlt hb b' off rfl kd id kk be t0 t1 draw xs pa pc fa fn fc F ho2 (hff.below HB2.out) hfn hfm)
      have hdl:decide ((k:Int) < (len:Int)) = true:=decide_eq_true (by omega)
      clear ho ho2 hor hff hfn hfm
      go_upto_if 53 with fail
      go_cut [13] (fun v wx=>∃ xo:Option Nat,(xo = po ∨ xo = qo)∧v = .pointer (xo.map fun b=>⟨b,0,none⟩)∧wr = wx)
      case first =>
        go_wp2_with fail
        all_goals
          go_meet
          first | exact ⟨qo,.inr rfl,rfl,rfl⟩ | exact ⟨po,.inl rfl,rfl,rfl⟩
      case rest =>
        obtain ⟨xo,hxo,rfl,rfl⟩:=hcut
        cases xo with
        | none =>
          have HSK:=hide (HW.out.skip _ _ _ _ HJ.out hlt)
          simp only [Option.map_none]
          clear c0 c1 c2 c3 c4 c5 c6 c7 c8
          go_wp2
          exact ⟨⟨k + 1,by go_num,by omega,HSK.out⟩,by simp [intOf]; omega⟩
        | some bx =>
          have hbx:po = some bx ∨ qo = some bx:=hxo.imp (fun e=>e.symm) (fun e=>e.symm)
          have HSB:=hide (HST.out bx hbx)
          clear hxo hbx HST
          simp only [Option.map_some]
          go_wp2_with fail
          go_fit HSB.out
          rintro ev w7 ⟨rfl,hJ7⟩
          have HJ7:=hide hJ7
          clear hJ7 c0 c1 c2 c3 c4 c5 c6 c7 c8 HSB
          go_upto_region 16 with fail
          go_cut [15] (fun v wx=>v = .bool true∧J po qo (k + 1) wx)
          case first =>
            cases po with
            | none =>
              simp only [Option.map_none]
              go_wp2_with fail
              go_meet
              exact ⟨rfl,HJ7.out⟩
            | some bq =>
              have HLK:=hide (HW.out.look _ _ _ _ bq HJ7.out (.inl rfl))
              simp only [Option.map_some]
              go_wp2_with fail
              go_fit HLK.out
              rintro ev w8 ⟨rfl,hJ8⟩
              have HJ8:=hide hJ8
              clear hJ8
              go_wp2_with fail
              go_meet
              exact ⟨rfl,HJ8.out⟩
          case rest =>
            rename World=>w9
            obtain ⟨rfl,hJ9⟩:=hcut
            have HJ9:=hide hJ9
            clear hJ9 HJ7
            go_upto_region 17 with fail
            go_cut [16] (fun v wx=>v = .bool true∧J po qo (k + 1) wx)
            case first =>
              cases qo with
              | none =>
                simp only [Option.map_none]
                go_wp2_with fail
                go_meet
                exact ⟨rfl,HJ9.out⟩
              | some bq =>
                have HLK:=hide (HW.out.look _ _ _ _ bq HJ9.out (.inr rfl))
                simp only [Option.map_some]
                go_wp2_with fail
                go_fit HLK.out
                rintro ev w8 ⟨rfl,hJ8⟩
                have HJ8:=hide hJ8
                clear hJ8
                go_wp2_with fail
                go_meet
                exact ⟨rfl,HJ8.out⟩
            case rest =>
              rename World=>w10
              obtain ⟨rfl,hJ10⟩:=hcut
              have HJ10:=hide hJ10
              clear hJ10 HJ9
              go_wp2
              exact ⟨⟨k + 1,by go_num,by omega,HJ10.out⟩,by simp [intOf]; omega⟩
    · obtain rfl:k = len:=by omega
      have hdl:decide ((k:Int) < (k:Int)) = false:=decide_eq_false (by omega)
      have HOLD:=hide (HW.out.old _ _ _ _ HJ.out)
      go_wp2
      go_ret
      exact ⟨rfl,HB2.out.trans (HOLD.out.mono HB2.out.size)⟩
end
section
open Go.RowKit Go.Maps

section
variable {W0 w w':World} {bp bb bs bm br:Nat} {cf:Cf} {gn:Net} {la:Option Addr} {lc:Nat} {nsv:BV} {nmv:Value} {nn:Nat} {L M:List Ent}
theorem PairAt.setZ (h:PairAt W0 w bp bb bs bm br cf gn la lc nsv nmv nn L M) (Z:Nat→Prop) (hz:∀ k,Z k→k < w.heap.size∧Apt0 W0 k bp bb bs bm br gn.F la lc nsv nmv L M∧¬ gn.ex.own k∧¬ nsv.O k∧¬ gn.ex.O k) :
    PairAt W0 w bp bb bs bm br cf { gn with ex:={ gn.ex with Z:=Z,ZW:=fun k=>w.heap[k]?,ZN:=w.heap.size } } la lc nsv nmv nn L M:=by
  have q:=h.base
  have x:=h.x
  refine ⟨h.p0,h.p1,h.p2,h.p3,h.p4,h.p5,h.book,⟨q.b0,q.b2,q.b3,q.b4,q.b5,q.b6,q.b7,q.b8,q.s0,q.s1,q.map,q.hdl,q.g,q.ok,q.lv,q.few,q.ints,q.len,q.crd,q.drw,q.foot,q.cfok⟩,h.ref,h.tb,h.ts,h.am,h.old,h.pos,h.lbp,h.lbb,h.lbm,h.lbr,h.lla,h.lns,h.lnm,h.pf,⟨x.c10,x.c11,x.c12,x.c13,x.c14,x.c15,x.hs,x.hm,x.gs,x.gm,x.ls,x.lm,x.dj⟩,fun k hk=>?_,h.xn,⟨fun k hf=>?_,h.o.n,h.o.o,fun _ _=>rfl,fun k hf hk=>?_,Nat.le_refl _,h.o.ri,h.o.rh,h.o.rg,h.o.rl⟩⟩
  · have a:=h.xa k hk
    refine ⟨a.old,a.p,a.b,a.s,a.m,a.r,a.ns,a.nm,a.l,a.mb,a.rb,a.f,?_⟩
    rintro (e | e | e)
    · exact a.o (.inl e)
    · exact a.o (.inr (.inl e))
    · exact (hz k e).2.2.1 hk
  · rcases hf with e | e | e
    · exact h.o.a k (.inl e)
    · exact h.o.a k (.inr (.inl e))
    · exact ⟨(hz k e).1,(hz k e).2.1⟩
  · exact hf.elim (hz k hk).2.2.2.1 (hz k hk).2.2.2.2
theorem PairAt.older {W:World} (h:PairAt W0 w bp bb bs bm br cf gn la lc nsv nmv nn L M) (hb:Below W.heap.size W W0) (h0:0 < W.heap.size):PairAt W w bp bb bs bm br cf gn la lc nsv nmv nn L M:=by
  have hs:=hb.size
  refine ⟨h.p0,h.p1,h.p2,h.p3,h.p4,h.p5,h.book,h.base,h.ref,h.tb,h.ts,h.am,hb.trans (h.old.mono hs),h0,Nat.le_trans hs h.lbp,Nat.le_trans hs h.lbb,Nat.le_trans hs h.lbm,Nat.le_trans hs h.lbr,fun g e=>Nat.le_trans hs (h.lla g e),fun g e=>Nat.le_trans hs (h.lns g e),fun g e=>Nat.le_trans hs (h.lnm g e),fun k e=>⟨Nat.le_trans hs (h.pf k e).1,(h.pf k e).2⟩,h.x,fun k hk=>?_,h.xn,⟨fun k hf=>?_,h.o.n,h.o.o,h.o.z,h.o.oz,h.o.s,h.o.ri,h.o.rh,h.o.rg,h.o.rl⟩⟩
  · have a:=h.xa k hk
    exact ⟨Nat.le_trans hs a.old,a.p,a.b,a.s,a.m,a.r,a.ns,a.nm,a.l,a.mb,a.rb,a.f,a.o⟩
  · obtain ⟨q,a⟩:=h.o.a k hf
    exact ⟨q,Nat.le_trans hs a.old,a.p,a.b,a.s,a.m,a.r,a.ns,a.nm,a.l,a.mb,a.rb,a.f⟩
end

structure Gh where
  bb:Nat
  bs:Nat
  bm:Nat
  br:Nat
  gn:Net
  la:Option Addr
  lc:Nat
  nsv:BV
  nmv:Value
  nn:Nat
  L:List Ent
structure PP (W0 w:World) (cf:Cf) (b:Nat) (G:Gh):Prop where
  at':PairAt W0 w b G.bb G.bs G.bm G.br cf G.gn G.la G.lc G.nsv G.nmv G.nn G.L G.L
  lk:Lk G.gn G.nn
  nz:∀ k,¬ G.gn.ex.Z k
def Mn (W0:World) (b:Nat) (G:Gh) (k:Nat):Prop:=¬ (Apt0 W0 k b G.bb G.bs G.bm G.br G.gn.F G.la G.lc G.nsv G.nmv G.L G.L∧¬ G.gn.ex.own k) ∨ G.nsv.O k ∨ G.gn.ex.O k
section
variable {W0 w w':World} {cf:Cf} {b:Nat} {G:Gh} {k:Nat}
theorem Mn.not (h:¬ Mn W0 b G k):Apt0 W0 k b G.bb G.bs G.bm G.br G.gn.F G.la G.lc G.nsv G.nmv G.L G.L∧¬ G.gn.ex.own k∧¬ G.nsv.O k∧¬ G.gn.ex.O k:=by
  have h1:=Classical.not_not.1 (fun e=>h (.inl e))
  exact ⟨h1.1,h1.2,fun e=>h (.inr (.inl e)),fun e=>h (.inr (.inr e))⟩
theorem Mn.of (h1:Apt0 W0 k b G.bb G.bs G.bm G.br G.gn.F G.la G.lc G.nsv G.nmv G.L G.L) (h2:¬ G.gn.ex.own k) (h3:¬ G.nsv.O k) (h4:¬ G.gn.ex.O k):¬ Mn W0 b G k:=by
  rintro (e | e | e)
  · exact e ⟨h1,h2⟩
  · exact h3 e
  · exact h4 e
theorem PP.lt (h:PP W0 w cf b G) (hk:Mn W0 b G k):k < w.heap.size:=by
  rcases Nat.lt_or_ge k w.heap.size with h1 | h1
  · exact h1
  · have a:=h.at'.apart h1
    exact absurd hk (Mn.of a.toApt.zero a.x (fun e=>a.o (.inl e)) (fun e=>a.o (.inr (.inl e))))
theorem PP.apart (h:PP W0 w cf b G) (hk:¬ Mn W0 b G k):Apart W0 k b G.bb G.bs G.bm G.br G.gn G.la G.lc G.nsv G.nmv G.L G.L:=by
  obtain ⟨h1,h2,h3,h4⟩:=Mn.not hk
  refine ⟨h1.apt ?_,h2⟩
  rintro (e | e | e)
  · exact h3 e
  · exact h4 e
  · exact h.nz k e
theorem PP.below (h:PP W0 w cf b G) (hb:Below w.heap.size w w'):PP W0 w' cf b G:=⟨h.at'.below hb,h.lk,h.nz⟩
theorem PP.away (h:PP W0 w cf b G) (ho:w'.os = w.os∧w'.tape = w.tape∧w'.output = w.output) (hz:w.heap.size≤w'.heap.size) (h0:∀ k,k < W0.heap.size→w'.heap[k]? = w.heap[k]?) (hm:∀ k,Mn W0 b G k→W0.heap.size≤k→w'.heap[k]? = w.heap[k]?):PP W0 w' cf b G:=by
  refine ⟨h.at'.away (S:=fun k=>W0.heap.size≤k∧¬ Mn W0 b G k) (fun k e=>h.apart e.2) ⟨ho.1,ho.2.1,ho.2.2,hz,fun k _ hn=>?_⟩,h.lk,h.nz⟩
  rcases Nat.lt_or_ge k W0.heap.size with h1 | h1
  · exact h0 k h1
  · exact hm k (Classical.not_not.1 (fun e=>hn ⟨h1,e⟩)) h1
theorem PP.stepped (h:PP W0 w cf b G) {kd id kk be t0 t1 draw:Int} {xs:List Int} {pa:Option Addr} {pc:Nat} {fa:Option Addr} {fn fc:Nat} {F:List (List Cnd)} (hv:IntsAt W0 (.slice pa xs.length pc) xs) (hid:I64 id) (hn:(xs.length + 6) * 8≤140737488355328) (hnn:(G.nn + 4000) * 24≤140737488355328) (hdr:0≤draw∧draw < 18446744073709551616) (hf:FiltAt W0 (.slice fa fn fc) F) (hfn:(F.length + 1) * 24≤140737488355328) (hfm:∀ c ∈ F,(c.length + 1) * 24≤140737488355328) :
    Calls Tryz.prog 15 #[.pointer (some ⟨b,0,none⟩),.agg #[.int .i64 kd,.int .i64 id,.int .i64 kk,.int .i64 be,.slice pa xs.length pc,.int .i64 t0,.int .i64 t1,.int .u64 draw,.slice fa fn fc]] w fun ev w'=>ev = .returned (.bool true)∧∃ G',PP W0 w' cf b G'∧G'.nn≤G.nn + 3000∧(w'.os = w.os∧w'.tape = w.tape∧w'.output = w.output)∧w.heap.size≤w'.heap.size∧(∀ k,k < W0.heap.size→w'.heap[k]? = w.heap[k]?)∧∀ k,k < w.heap.size→W0.heap.size≤k→¬ Mn W0 b G k→¬ Mn W0 b G' k∧w'.heap[k]? = w.heap[k]?:=by
  have hzp:=h.at'.setZ (fun k=>W0.heap.size≤k∧k < w.heap.size∧¬ Mn W0 b G k) (fun k e=>⟨e.2.1,Mn.not e.2.2⟩)
  refine (step10_all W0 w b G.bb G.bs G.bm G.br cf _ G.la G.lc G.nsv G.nmv G.nn G.L kd id kk be t0 t1 draw xs pa pc fa fn fc F hzp h.lk hv hid hn hnn hdr hf hfn hfm).mono ?_
  rintro ev w' ⟨rfl,la,lc,nsv,nmv,nn,L,gn,h1,h2,h3,h4⟩
  refine ⟨rfl,⟨G.bb,G.bs,G.bm,G.br,{ gn with ex:={ gn.ex with Z:=fun _=>False,ZW:=fun k=>w'.heap[k]?,ZN:=w'.heap.size } },la,lc,nsv,nmv,nn,L⟩,⟨h2.setZ (fun _=>False) (fun k e=>e.elim),h3,fun _ e=>e⟩,h1,⟨h2.old.os.trans h.at'.old.os.symm,h2.old.tape.trans h.at'.old.tape.symm,h2.old.output.trans h.at'.old.output.symm⟩,?_,fun k hk=>(h2.old.block k hk).trans (h.at'.old.block k hk).symm,fun k hk hk0 hm=>?_⟩
  · have e:=h4.zn
    have s:=h2.o.s
    rw [e] at s
    exact s
  · have hZ:gn.ex.Z k:=by rw [h4.z]; exact ⟨hk0,hk,hm⟩
    obtain ⟨_,a⟩:=h2.o.a k (.inr (.inr hZ))
    refine ⟨Mn.of a (fun e=>(h2.xa k e).o (.inr (.inr hZ))) (fun e=>h2.o.oz k (.inl e) hZ) (fun e=>h2.o.oz k (.inr e) hZ),?_⟩
    rw [h2.o.z k hZ,h4.zw]
end

def Half (W0 W:World) (cf:Cf) (o:Option Nat) (G:Gh) (k:Nat):Prop:=∀ b,o = some b→PP W0 W cf b G∧G.nn≤3000 * k
def Dj (W0:World) (po qo:Option Nat) (G1 G2:Gh):Prop:=∀ b c,po = some b→qo = some c→∀ k,W0.heap.size≤k→Mn W0 b G1 k→Mn W0 c G2 k→False
structure AJ (W0:World) (c d:Cf) (len:Nat) (po qo:Option Nat) (k:Nat) (W:World):Prop where
  old:Below W0.heap.size W0 W
  le:k≤len
  two:∃ G1 G2,Half W0 W c po G1 k∧Half W0 W d qo G2 k∧Dj W0 po qo G1 G2
theorem Half.below {W0 W W':World} {cf:Cf} {o:Option Nat} {G:Gh} {k:Nat} (h:Half W0 W cf o G k) (hb:Below W.heap.size W W'):Half W0 W' cf o G k:=fun b e=>⟨(h b e).1.below hb,(h b e).2⟩
theorem Half.mono {W0 W:World} {cf:Cf} {o:Option Nat} {G:Gh} {k k':Nat} (h:Half W0 W cf o G k) (hk:k≤k'):Half W0 W cf o G k':=fun b e=>⟨(h b e).1,by have:=(h b e).2; omega⟩
theorem Dj.symm {W0:World} {po qo:Option Nat} {G1 G2:Gh} (h:Dj W0 po qo G1 G2):Dj W0 qo po G2 G1:=fun b c hb hc k hk h1 h2=>h c b hc hb k hk h2 h1
theorem Half.stepped {W0 W:World} {c d:Cf} {b:Nat} {qo:Option Nat} {G1 G2:Gh} {k len:Nat} (h1:Half W0 W c (some b) G1 k) (h2:Half W0 W d qo G2 k) (hd:Dj W0 (some b) qo G1 G2) (hk:k < len) (hlen:len≤1048576) {kd id kk be t0 t1 draw:Int} {xs:List Int} {pa:Option Addr} {pc:Nat} {fa:Option Addr} {fn fc:Nat} {F:List (List Cnd)} (hv:IntsAt W0 (.slice pa xs.length pc) xs) (hid:I64 id) (hn:(xs.length + 6) * 8≤140737488355328) (hdr:0≤draw∧draw < 18446744073709551616) (hf:FiltAt W0 (.slice fa fn fc) F) (hfn:(F.length + 1) * 24≤140737488355328) (hfm:∀ c ∈ F,(c.length + 1) * 24≤140737488355328) :
    Calls Tryz.prog 15 #[.pointer (some ⟨b,0,none⟩),.agg #[.int .i64 kd,.int .i64 id,.int .i64 kk,.int .i64 be,.slice pa xs.length pc,.int .i64 t0,.int .i64 t1,.int .u64 draw,.slice fa fn fc]] W fun ev w'=>ev = .returned (.bool true)∧∃ G1',Half W0 w' c (some b) G1' (k + 1)∧Half W0 w' d qo G2 (k + 1)∧Dj W0 (some b) qo G1' G2∧Below W0.heap.size W0 w':=by
  obtain ⟨p,hnn⟩:=h1 b rfl
  refine (p.stepped hv hid hn (by omega) hdr hf hfn hfm).mono ?_
  rintro ev w' ⟨rfl,G1',p',hn',ho,hz,h0,hm⟩
  refine ⟨rfl,G1',fun b' e=>?_,fun q e=>?_,fun b' q eb eq j hj m1 m2=>?_,p'.at'.old⟩
  · obtain rfl:b = b':=by simpa using e
    exact ⟨p',by omega⟩
  · obtain ⟨pq,hq⟩:=h2 q e
    exact ⟨pq.away ho hz h0 (fun j hj hj0=>(hm j (pq.lt hj) hj0 (fun e2=>hd b q rfl e j hj0 e2 hj)).2),by omega⟩
  · obtain rfl:b = b':=by simpa using eb
    have hlt:=(h2 q eq).1.lt m2
    exact (hm j hlt hj (fun e2=>hd b q rfl eq j hj e2 m2)).1 m1
theorem row_len {w:World} {E n:Nat} {v:Value} {rs:List Rc} {f:Rc→Value} (h:w.ownsRow 0 E 1 v n (rs.map f)):rs.length = n:=by
  have:=h.1
  simpa using this
theorem PP.look {W0 W:World} {cf:Cf} {b:Nat} {G:Gh} (h:PP W0 W cf b G) (hn:G.nn≤17592186044416):Calls Tryz.prog 16 #[.pointer (some ⟨b,6,none⟩)] W fun ev w'=>ev = .returned (.bool true)∧Below W.heap.size W w':=by
  have x:=h.at'.x
  obtain ⟨⟨_,rfl⟩,i1⟩:=h.at'.book.hs
  obtain ⟨⟨_,rfl⟩,i2⟩:=h.at'.book.hm
  obtain ⟨⟨_,rfl⟩,h1⟩:=x.hs
  obtain ⟨⟨_,rfl⟩,h2⟩:=x.hm
  obtain ⟨⟨_,rfl⟩,g1⟩:=x.gs
  obtain ⟨⟨_,rfl⟩,g2⟩:=x.gm
  obtain ⟨⟨_,rfl⟩,l1⟩:=x.ls
  obtain ⟨⟨_,rfl⟩,l2⟩:=x.lm
  have xn:=h.at'.xn
  have o:=h.at'.o
  exact still16 b W G.nsv.v G.nmv G.gn.ex.hsv G.gn.ex.hmv G.gn.ex.gsv G.gn.ex.gmv G.gn.ex.lsv G.gn.ex.lmv G.nsv.R G.gn.ex.rh G.gn.ex.rg G.gn.ex.rl
    ⟨h.at'.book.c8,by rw [row_len i1]; exact i1,h.at'.book.c9,by rw [row_len i1]; exact i2,by rw [row_len i1]; exact hn⟩
    ⟨x.c10,by rw [row_len h1]; exact h1,x.c11,by rw [row_len h1]; exact h2,by rw [row_len h1]; omega⟩
    ⟨x.c12,by rw [row_len g1]; exact g1,x.c13,by rw [row_len g1]; exact g2,by rw [row_len g1]; omega⟩
    ⟨x.c14,by rw [row_len l1]; exact l1,x.c15,by rw [row_len l1]; exact l2,by rw [row_len l1]; omega⟩
    (o.ri W o.n) (o.rh W o.o) (o.rg W o.o) (o.rl W o.o)
theorem PP.new (W0:World) (cf:Cf) (W:World) (hg:Handle W) (hW:Below W0.heap.size W0 W) (h0:0 < W0.heap.size) :
    Calls Tryz.prog 14 #[.agg #[.int .i64 cf.dim,.int .i64 cf.cap,.int .i64 cf.links,.int .i64 cf.metric,.int .i64 cf.beam,.int .i64 cf.top]] W fun ev w'=>∃ po G,ev = .returned (.tuple #[ptrO po,.bool true])∧Half W0 w' cf po G 0∧Below W.heap.size W w'∧∀ b,po = some b→∀ k,W0.heap.size≤k→k < W.heap.size→¬ Mn W0 b G k:=by
  obtain ⟨d,c,l,m,b,t⟩:=cf
  cases hc:cfgB d c l m b t
  · refine (begun9_no d c l m b t W hg hc).mono ?_
    rintro ev w' ⟨rfl,hb⟩
    exact ⟨none,⟨0,0,0,0,⟨0,fun _=>False,[],fun _=>[],[],0,Bks.nil,0,0,false⟩,none,0,BV.nil,.slice none 0 0,0,[]⟩,rfl,fun b e=>(by cases e),hb,fun b e=>(by cases e)⟩
  · refine (begun9_yes W d c l m b t W hg (Below.refl _ _) (Nat.lt_of_lt_of_le h0 hW.size) hc).mono ?_
    rintro ev w' ⟨bp,bb,bs,bm,br,gn,rfl,hp,hlk,hex,hbs⟩
    refine ⟨some bp,⟨bb,bs,bm,br,gn,none,0,BV.nil,.slice none 0 0,0,[]⟩,rfl,fun b' e=>?_,hp.old,fun b' e k hk0 hk=>?_⟩
    · obtain rfl:bp = b':=by simpa using e
      exact ⟨⟨hp.older hW h0,hlk,fun k e=>by simp only [hex] at e; exact e⟩,Nat.le_refl _⟩
    · obtain rfl:bp = b':=by simpa using e
      have l1:=hp.lbp
      have l2:=hp.lbb
      have l3:=hp.lbm
      have l4:=hp.lbr
      exact Mn.of ⟨hk0,by show k ≠ bp; omega,by show k ≠ bb; omega,by show k ≠ bs; omega,by show k ≠ bm; omega,by show k ≠ br; omega,fun e=>(by cases e),fun e=>(by cases e),fun e=>(by cases e),fun e he=>absurd he List.not_mem_nil,fun e he=>absurd he List.not_mem_nil,fun e=>by have:=(hp.pf k e).1; omega⟩ (fun e=>Bks.own_nil k (by simp only [hex] at e; exact e)) (fun e=>e) (fun e=>by simp only [hex] at e; exact e)

theorem all_ways (w:World) (c d:Cf) (sa:Option Addr) (len:Nat) (hg:Handle w) (hsm:len≤1048576):∃ I1 I2 J,AllWays w c d len sa I1 I2 J:=by
  have h0:=hg.lt
  refine ⟨fun po W=>Below w.heap.size w W∧∃ G,Half w W c po G 0,fun po qo W=>AJ w c d len po qo 0 W,AJ w c d len,⟨fun W hW=>?_,fun po W hI=>?_,fun po W hI=>hI,fun po b W hI=>?_,fun po qo k W hJ=>hJ.old,fun po qo k W hJ hk=>?_,fun po qo k W b hJ hk hb b' off hs kd id kk be t0 t1 draw xs pa pc fa fn fc F ho hf hfn hfm=>?_,fun po qo k W b hJ hb=>?_⟩⟩
  · refine (PP.new w c W (hg.below hW) hW h0).mono ?_
    rintro ev w' ⟨po,G,rfl,hh,hb,_⟩
    exact ⟨po,rfl,⟨hW.trans (hb.mono hW.size),G,hh⟩,hb⟩
  · obtain ⟨hW,G1,h1⟩:=hI
    refine (PP.new w d W (hg.below hW) hW h0).mono ?_
    rintro ev w' ⟨qo,G2,rfl,h2,hb,hm⟩
    exact ⟨qo,rfl,⟨hW.trans (hb.mono hW.size),Nat.zero_le _,G1,G2,h1.below hb,h2,fun b q eb eq k hk m1 m2=>hm q eq k hk ((h1 b eb).1.lt m1) m2⟩,hb⟩
  · obtain ⟨hW,hk,G1,G2,h1,h2,hd⟩:=hI
    obtain ⟨q,hq⟩:=h2 b rfl
    obtain ⟨x6,hx6⟩:=q.at'.book.c6
    refine ⟨⟨x6,hx6⟩,q.at'.book.frozen 6,?_⟩
    have q2:=q.at'.mark67 6 (.inl rfl) 1073741824 0
    have hkp:Kept (fun k=>k = b) W (W.setCell ⟨b,6,none⟩ (.int .i64 1073741824)):=(Kept.refl (fun k=>k = b) W).setCell (p:=⟨b,6,none⟩) (fun _=>rfl) _
    have hmb:Mn w b G2 b:=.inl (fun e=>e.1.p rfl)
    refine ⟨hW.trans (hkp.toBelow hW.size (fun k e=>by rw [e]; exact q.at'.lbp)),hk,G1,G2,fun b1 e1=>?_,fun b2 e2=>?_,hd⟩
    · obtain ⟨p,hp⟩:=h1 b1 e1
      refine ⟨p.away ⟨hkp.os,hkp.tape,hkp.output⟩ hkp.size (fun k hk=>hkp.block k (Nat.lt_of_lt_of_le hk hW.size) (fun e=>?_)) (fun k hm hk0=>hkp.block k (p.lt hm) (fun e=>?_)),hp⟩
      · have:=q.at'.lbp
        omega
      · subst e
        exact hd b1 k e1 rfl k hk0 hm hmb
    · obtain rfl:b = b2:=by simpa using e2
      exact ⟨⟨q2,q.lk,q.nz⟩,hq⟩
  · obtain ⟨hW,hl,G1,G2,h1,h2,hd⟩:=hJ
    exact ⟨hW,hk,G1,G2,h1.mono (Nat.le_succ _),h2.mono (Nat.le_succ _),hd⟩
  · obtain ⟨hW,hl,G1,G2,h1,h2,hd⟩:=hJ
    rcases hb with rfl | rfl
    · refine (h1.stepped h2 hd hk hsm ho.pt ho.wf ho.sz ho.dr hf hfn hfm).mono ?_
      rintro ev w' ⟨rfl,G1',k1,k2,k3,k4⟩
      exact ⟨rfl,k4,hk,G1',G2,k1,k2,k3⟩
    · refine (h2.stepped h1 hd.symm hk hsm ho.pt ho.wf ho.sz ho.dr hf hfn hfm).mono ?_
      rintro ev w' ⟨rfl,G2',k1,k2,k3,k4⟩
      exact ⟨rfl,k4,hk,G1,G2',k2,k1,k3.symm⟩
  · obtain ⟨hW,hl,G1,G2,h1,h2,hd⟩:=hJ
    have key:Calls Tryz.prog 16 #[.pointer (some ⟨b,6,none⟩)] W fun ev w'=>ev = .returned (.bool true)∧Below W.heap.size W w':=by
      rcases hb with rfl | rfl
      · exact (h1 b rfl).1.look (by have:=(h1 b rfl).2; omega)
      · exact (h2 b rfl).1.look (by have:=(h2 b rfl).2; omega)
    refine key.mono ?_
    rintro ev w' ⟨rfl,hb2⟩
    exact ⟨rfl,hW.trans (hb2.mono hW.size),hl,G1,G2,h1.below hb2,h2.below hb2,hd⟩
theorem all6_any (w:World) (c d:Cf) (sa:Option Addr) (len cap:Nat) (hg:Handle w) (hs:ScriptF w sa len) (hsm:len≤1048576) :
    Calls Tryz.prog 6 #[.agg #[.int .i64 c.dim,.int .i64 c.cap,.int .i64 c.links,.int .i64 c.metric,.int .i64 c.beam,.int .i64 c.top],.agg #[.int .i64 d.dim,.int .i64 d.cap,.int .i64 d.links,.int .i64 d.metric,.int .i64 d.beam,.int .i64 d.top],.slice sa len cap] w fun ev w'=>ev = .returned (.bool true)∧Below w.heap.size w w' :=
  all6_of w c d sa len cap hg hs hsm (fun o1 o2=>all_ways _ c d sa len ((hg.alloc o1).alloc o2) hsm)
end
section
open Go.ChangeShapes Go.WideShapes Go.ChangeAt Go.RowKit

theorem handle_laid6 {W:World} (h:laidMetH Tryz.prog Rows.allUptoRow.laid W):Handle W:=by
  have h':laidMet Tryz.prog [] W∧handlesMet Tryz.prog Rows.allUptoRow.laid W:=h
  obtain ⟨name,u,ty,e1,e2,e3,e4,e5⟩:=h'.2 _ (List.mem_singleton.2 rfl)
  have en:name = [101,114,114,111,114]:=(Option.some.inj e1).symm
  subst en
  obtain rfl:=Option.some.inj (rtypeRow.symm.trans e2)
  have hm:ty ∈ (List.range 313).filter fun t=>Tryz.prog.rowNamed t [101,114,114,111,114]:=List.mem_filter.2 ⟨List.mem_range.2 (by rw [← typesSize]; exact e3),e4⟩
  rw [errRow] at hm
  obtain rfl:=List.mem_singleton.1 hm
  have hh:typeHandle Tryz.prog 104 = .pointer (some ⟨1,104,none⟩):=by kernel_rfl
  rw [hh] at e5
  unfold Handle
  simpa using World.var?_cell errVar e5 0

set_option maxRecDepth 100000 in
theorem all_contract (H:Type) (enc:TypeId × Value→H) (W:World) (base:Nat) (args:Array Value) (ds gs:List (DataW H)) (before:List MemPlace)
    (hval:∀ (j:Nat) t v,Tryz.f6.params[j]? = some t→args[j]? = some v→Value.okWide Tryz.prog W .any base t v)
    (hW:DataW.Whole enc Tryz.prog Tryz.f6.params.toList Rows.allSpec.vars false W args.toList ds gs before)
    (hz:(DataW.weightsEach Tryz.prog (Tryz.f6.params.toList ++ Rows.allSpec.plain.varTypes Tryz.prog) (ds ++ gs)).all (·≤reachBytes) = true) (hL:laidMetH Tryz.prog Rows.allUptoRow.laid W) (hcd:Rows.uptoSmall H (ds ++ gs) = true) :
    Calls Tryz.prog 6 args W fun e W'=>∃ v,e = .returned v∧Rows.allSpec.post enc Tryz.prog Tryz.f6 false true false false W args v W':=by
  have hW':=hW
  obtain ⟨p,q,hA0,hV,rfl,hfz,hnd⟩:=hW
  have hA:DataW.TrodAll enc Tryz.prog W 0 (fun _=>true) true Tryz.f6.params.toList args.toList ds p:=hA0
  rw [Tryz.params6] at hA hval hz
  obtain ⟨v0,vs0,d0,ds0,p0,q0,hargs,rfl,rfl,h0,r0⟩:=trodAll_cons hA
  obtain ⟨v1,vs1,d1,ds1,p1,q1,rfl,rfl,rfl,h1,r1⟩:=trodAll_cons r0
  obtain ⟨v2,vs2,d2,ds2,p2,q2,rfl,rfl,rfl,h2,r2⟩:=trodAll_cons r1
  obtain ⟨rfl,rfl,rfl⟩:=trodAll_nil r2
  obtain rfl:args = #[v0,v1,v2]:=by cases args; simp_all
  obtain ⟨rfl,rfl⟩:=trodVars_none hV
  have hlt:=hW'.lt
  obtain ⟨a0,a1,a2,a3,a4,a5,rfl⟩:=cfg_open (hval 0 23 v0 rfl rfl) h0
  obtain ⟨b0,b1,b2,b3,b4,b5,rfl⟩:=cfg_open (hval 1 23 v1 rfl rfl) h1
  obtain ⟨sa,len,cap,rfl,hlc,hs⟩:=scriptF_open (hval 2 24 v2 rfl rfl) h2 (fun k hk=>by
    have:=List.all_eq_true.1 hz k (DataW.weights_mem_each (j:=2) rfl rfl k hk)
    simpa using this)
  have hsm:len≤1048576:=by
    have hq:=of_decide_eq_true (show decide (Rows.uptoBulkAll _≤1048576) = true from hcd)
    have h3:=script_bulk h2
    have h4:Rows.uptoBulk d2≤_:=bulk_mem (l:=[d0,d1,d2] ++ []) (by simp)
    omega
  refine (all6_any W ⟨a0,a1,a2,a3,a4,a5⟩ ⟨b0,b1,b2,b3,b4,b5⟩ sa len cap (handle_laid6 hL) hs hsm).mono fun e W' ⟨he,hb⟩=>?_
  subst he
  refine ⟨_,rfl,_,_,_,[],p0 ++ (p1 ++ (p2 ++ [])),[],hW',?_,?_,?_,hb.frame _,fun h=>by cases h⟩
  · exact trodAll_cons_mk (shut_bool Tryz.underlying4 _) trodAll_mk0
  · exact trodAll_cons_mk (Below.trod laidOut read23 (by rw [typesSize]; decide) h0 hb (fun x hx=>hlt x (by simp [hx]))) (trodAll_cons_mk (Below.trod laidOut read23 (by rw [typesSize]; decide) h1 hb (fun x hx=>hlt x (by simp [hx]))) (trodAll_cons_mk (Below.trod laidOut read24 (by rw [typesSize]; decide) h2 hb (fun x hx=>hlt x (by simp [hx]))) trodAll_mk0))
  · rfl

noncomputable def allArgs:Array Value:=#[.agg #[.int .i64 0,.int .i64 0,.int .i64 0,.int .i64 0,.int .i64 0,.int .i64 0],.agg #[.int .i64 0,.int .i64 0,.int .i64 0,.int .i64 0,.int .i64 0,.int .i64 0],.slice none 0 0]
theorem laid_met6 (os:Os):laidMetH Tryz.prog Rows.allUptoRow.laid ((laidWorld os).forCall (fun _ _=>0) ⟨#[],allArgs,[]⟩).memory :=
  laidMetH_of_parts (laidMet_nil _ _) (by kernel_rfl)
theorem reads_none6 (os:Os) {H:Type} (enc:TypeId × Value→H):∃ places,DataW.whole enc Tryz.prog ((laidWorld os).forCall (fun _ _=>0) ⟨#[],allArgs,[]⟩).memory Tryz.f6.params.toList Rows.allSpec.vars false allArgs.toList 8 = some ([.agg [.lit (.int .i64 0),.lit (.int .i64 0),.lit (.int .i64 0),.lit (.int .i64 0),.lit (.int .i64 0),.lit (.int .i64 0)],.agg [.lit (.int .i64 0),.lit (.int .i64 0),.lit (.int .i64 0),.lit (.int .i64 0),.lit (.int .i64 0),.lit (.int .i64 0)],.nil],[],places) :=
  ⟨[],by kernel_rfl⟩

set_option maxRecDepth 100000 in
theorem all_lifted (os:Os) (started:os.Started) (H:Type) (enc:TypeId × Value→H) (F:Stop.Interp) :
    ReturnsInHanded {} Tryz.checked os 6 .any ((Rows.OpenSpec.upto Rows.allSpec).preRow enc Tryz.prog Tryz.f6 Rows.allUptoRow.domain false Rows.allUptoRow.laid) (((Rows.OpenSpec.upto Rows.allSpec).at F).post enc Tryz.prog Tryz.f6 false true false false):=by
  obtain ⟨places,hx⟩:=reads_none6 os enc
  refine returnsInHanded_of_row (C:=Tryz.checked) (s:=Rows.OpenSpec.upto Rows.allSpec) knob started (by kernel_rfl) Tryz.func6
    (witness_row_at (enc:=enc) (C:=Tryz.checked) false (laidWorld os) allArgs rfl (by kernel_rfl) (by kernel_rfl) (by kernel_rfl)
      (OpenSpec.preRow_of_cond 8 hx (by kernel_rfl) (fun k hk=>by cases hk; exact (show decide (Rows.uptoBulkAll _≤1048576) = true from decide_eq_true (by simp [Rows.uptoBulkAll,Rows.uptoBulk]))) (by kernel_rfl) (laid_met6 os))) ?_
  intro W base args ds gs before hval hW _ hcd hz hL _ _
  exact all_contract H enc W base args ds gs before hval hW hz hL (hcd _ rfl)

set_option maxRecDepth 100000 in
theorem all_said:Rows.AllUptoSaid :=
  OpenClaim.holds_of_cond 6 Tryz.f6 rfl rfl rfl rfl rfl rfl rfl ⟨rfl,rfl,rfl,rfl,rfl⟩ rfl rfl rfl rfl rfl (by kernel_rfl) Tryz.func6 (by kernel_rfl)
    (of_decide_eq_true (by kernel_rfl)) (by unfold Func.isWrapper; first | (rw [if_pos (by decide +kernel)]; kernel_rfl) | (rw [if_neg (by decide +kernel)]; exact ⟨rfl,rfl⟩))
    (fun os started H enc _ F=>by rw [OpenClaim.pre_eq_preRow]; exact all_lifted os started H enc F)

theorem all_plain (f : FuncId) (fn : Func) (hf : Tryz.pinned.checked.prog.funcNamed "nearby/nearbylaw.All" = some f) (hfn : Tryz.pinned.checked.prog.funcs[f]? = some fn) :
    true = Tryz.pinned.checked.prog.looks []∧∀ (j:Nat) t,fn.params[j]? = some t→Tryz.pinned.checked.prog.wantsStandIn t = false:=by
  obtain rfl : f = 6 := Option.some.inj ((show Tryz.prog.funcNamed "nearby/nearbylaw.All" = some 6 by kernel_rfl).symm.trans hf) |>.symm
  obtain rfl:fn = Tryz.f6:=(Option.some.inj (Tryz.func6.symm.trans hfn)).symm
  refine ⟨by kernel_rfl,fun j t ht=>?_⟩
  rw [Tryz.params6] at ht
  have hm:=Array.mem_of_getElem? ht
  simp at hm
  rcases hm with rfl | rfl
  · exact (show Tryz.prog.wantsStandIn 23 = false by kernel_rfl)
  · exact (show Tryz.prog.wantsStandIn 24 = false by kernel_rfl)

theorem all_card:Rows.AllUptoCardSaid :=
  Claim7.holds_tied_plain_at .later [] _ _ _ _ all_said (fun _ h=>by cases h) (by kernel_rfl) (fun _ h=>by cases h) allUpto_row_tie rfl ⟨rfl,rfl⟩ (by kernel_rfl) rfl all_plain (by kernel_rfl)
#print axioms all_card
end
end Go.Proofs.YtpkiefjanmfgfaaGreatDoor
