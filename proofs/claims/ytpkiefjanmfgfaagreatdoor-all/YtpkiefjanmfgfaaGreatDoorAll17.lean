import Derived.Test.YtpkiefjanmfgfaaGreatDoorAll13
import Derived.Test.YtpkiefjanmfgfaaGreatDoorAll15
import Derived.Test.YtpkiefjanmfgfaaGreatDoorAll16
namespace Go.Proofs.YtpkiefjanmfgfaaGreatDoor
section
open Go.RowKit Go.Maps

def patL (pt:Nat→Value) (N:Nat):List Value:=(List.range N).map pt
theorem patL_len (pt:Nat→Value) (N:Nat):(patL pt N).length = N:=by simp [patL]
theorem patL_at (pt:Nat→Value) {N j:Nat} (h:j < N):(patL pt N)[j]? = some (pt j):=by simp [patL,h]
theorem patL_two (pt:Nat→Value) (N:Nat):patL pt (N + 2) = patL pt N ++ [pt N,pt (N + 1)]:=by simp [patL,List.range_succ]
theorem patL_three (pt:Nat→Value) (N:Nat):patL pt (N + 3) = patL pt N ++ [pt N,pt (N + 1),pt (N + 2)]:=by simp [patL,List.range_succ]
theorem all_pat {ys:List Value} {pt:Nat→Value} {N:Nat} (hl:ys.length = N) (h:∀ j,j < N→ys[j]? = some (pt j)):ys = patL pt N:=by
  refine List.ext_getElem? fun j=>?_
  rcases Nat.lt_or_ge j N with h1 | h1
  · rw [patL_at pt h1]; exact h j h1
  · rw [List.getElem?_eq_none (by omega),List.getElem?_eq_none (by rw [patL_len]; omega)]
def ptH (m m':Int) (j:Nat):Value:=if j % 2 = 0 then .int .i64 m else .int .i64 m'
theorem ptH0 (m m':Int) (k:Nat):ptH m m' (k * 2) = .int .i64 m:=by unfold ptH; rw [if_pos (by omega)]
theorem ptH1 (m m':Int) (k:Nat):ptH m m' (k * 2 + 1) = .int .i64 m':=by unfold ptH; rw [if_neg (by omega)]
theorem set_runH {ys:List Value} {m m':Int} {k:Nat} (h:∀ j,j < k * 2→ys[j]? = some (ptH m m' j)) (hk:k * 2 + 1 < ys.length):∀ j,j < (k + 1) * 2→((ys.set (k * 2) (.int .i64 m)).set (k * 2 + 1) (.int .i64 m'))[j]? = some (ptH m m' j):=fun j hj=>by
  rcases Nat.lt_or_ge j (k * 2) with h1 | h1
  · rw [List.getElem?_set_ne (by omega),List.getElem?_set_ne (by omega)]; exact h j h1
  · by_cases h2:j = k * 2
    · subst h2
      rw [List.getElem?_set_ne (by omega),List.getElem?_set_self (by omega),ptH0]
    · obtain rfl:j = k * 2 + 1:=by omega
      rw [List.getElem?_set_self (by rw [List.length_set]; exact hk),ptH1]
section
variable {E e sz:Nat} {w w1:World} {bp:Nat} {nsv nmv:Value} {nn:Nat} {ys x0 m0:List Value} {mm:Int}
theorem ApC.setL {g n c:Nat} (h:ApC E e sz w bp (.slice (some ⟨g,0,none⟩) n c) n ys nsv nmv nn x0 m0 mm [] []) (j:Nat) (u:Value):ApC E e sz (w.setCell ⟨g,j,none⟩ u) bp (.slice (some ⟨g,0,none⟩) n c) n (ys.set j u) nsv nmv nn x0 m0 mm [] []:=by
  obtain ⟨cl,hcl⟩:=ownsRow_obj h.row (g:=g) rfl
  refine ⟨ownsRow_set h.row j u,ownsRow_of_block h.ns fun g' q=>Below.heap_setCell _ _ _ _ ?_,ownsRow_of_block h.nm fun g' q=>Below.heap_setCell _ _ _ _ ?_,h.tys,fun r hr=>absurd hr List.not_mem_nil⟩
  · obtain ⟨c2,h2⟩:=ownsRow_obj h.ns q
    exact (ne_of_elem hcl h2 h.tys.2.2.1).symm
  · obtain ⟨c2,h2⟩:=ownsRow_obj h.nm q
    exact (ne_of_elem hcl h2 h.tys.2.1).symm
theorem ApC.drewN {lv:Value} {nl:Nat} {rs rt:List Rc} (h:ApC E e sz w bp lv nl ys nsv nmv nn x0 m0 mm rs rt) (n:Nat):ApC E e sz (w.drewN n) bp lv nl ys nsv nmv nn x0 m0 mm rs rt:=h.below (below_drewN (Below.refl _ _) n)
end

set_option maxHeartbeats 2000000 in
set_option maxRecDepth 10000 in
theorem hits77_all (bp:Nat) (a:Option Addr) (n c:Nat) (nsv nmv:Value) (nn:Nat) (x0 m0:List Value) (w:World) (typ:∃ cs,w.heap[bp]? = some (.cells cs 41 (0,0))) (c6:∃ b,w.cell? ⟨bp,6,none⟩ = some (.int .i64 b)) (c7:∃ b,w.cell? ⟨bp,7,none⟩ = some (.int .i64 b)) (c8:w.cell? ⟨bp,10,none⟩ = some nsv) (c9:w.cell? ⟨bp,11,none⟩ = some nmv) (hl:∃ xs,w.ownsRow 0 63 2 (.slice a n c) n xs) (hs:w.ownsRow 0 58 1 nsv nn x0) (hm:w.ownsRow 0 3 1 nmv nn m0) (hn:n≤1000) (hnn:(nn + 4) * 24≤140737488355328) :
    Calls Tryz.prog 77 #[.pointer (some ⟨bp,6,none⟩),.slice a n c] w fun ev w'=>ev = .returned (.tuple #[])∧∃ X m m' lv' nsv' nmv' rs,m' = wrap64 (-m)∧HiS w bp (.slice a n c) nsv nmv X m m' w' lv' (n + 4) nsv' (nn + 4) nmv' (nn + 4)∧rs.length = 4∧ApC 58 63 2 w' bp lv' (n + 4) (patL (ptH m m') ((n + 4) * 2)) nsv' nmv' nn x0 m0 m rs rs ∧
      ∀ r ∈ rs,∀ g,r.val.ownBlock = some g→(Value.slice a n c).ownBlock = some g ∨ w.heap.size≤g:=by
  have B1:=hide (bd1 nn hnn)
  have B2:=hide (bd2 nn hnn)
  have B3:=hide (hd16 n hn)
  have M1:=hide (md1 nn hnn)
  clear hnn
  obtain ⟨i3,hi3,hz30,hz31,hz32⟩:=info_parts info3
  obtain ⟨i58,hi58,hz580,hz581,hz582⟩:=info_parts info58b
  obtain ⟨i63,hi63,hz630,hz631,hz632⟩:=info_parts info63
  have hst:=HiS.start typ c7 c8 c9 hl ⟨_,hs⟩ ⟨_,hm⟩
  obtain ⟨b6,h6⟩:=c6
  obtain ⟨b7,h7⟩:=c7
  have h7f:w.frozen? ⟨bp,7,none⟩ = false:=by
    obtain ⟨cs,hc⟩:=typ
    simp [World.frozen?,hc]
  obtain ⟨y0,hy0⟩:=hl
  have HY0:Hid (y0.length = n * 2):=hy0.1
  have HC0:Hid (∀ m,ApC 58 63 2 w bp (.slice a n c) n y0 nsv nmv nn x0 m0 m [] []):=fun m=>⟨hy0,by simpa using hs,by simpa using hm,by decide,fun r hr=>absurd hr List.not_mem_nil⟩
  have HTY:=hide typ
  have HST:=hide hst
  clear hst typ c8 c9 hy0 hs hm
  go_enter Tryz.func77,Tryz.ntmps77
  go_wp2_with fail
  refine (mark58_any bp b6 b7 _ h6 h7 h7f).mono ?_
  rintro ev w1 ⟨m,nx,nq,rfl,rfl⟩
  have H1':=HST.out nx m (wrap64 (-m)) nq
  have HC1:=hide (((HC0.out m).field HTY.out 7 (.int .i64 nx)).drewN nq)
  have hsz:((w.setCell ⟨bp,7,none⟩ (.int .i64 nx)).drewN nq).heap.size = w.heap.size:=by simp
  have H1:=hide H1'
  clear H1' HST h6 h7 h7f HC0
  generalize (w.setCell ⟨bp,7,none⟩ (.int .i64 nx)).drewN nq = w1 at H1 HC1 hsz ⊢
  rw [← hsz] at H1
  clear hsz
  have HC2:=hide (HC1.out.below ((Below.refl _ _).alloc (Nat.le_refl _) (.cells #[.int .i64 m,.int .i64 (wrap64 (-m))] 63)))
  clear HC1
  go_wp2
  generalize hwe:w1.alloc (.cells #[.int .i64 m,.int .i64 (wrap64 (-m))] 63) = w2 at H1 HC2 ⊢
  generalize w1.heap.size = X at H1 ⊢
  clear hwe
  generalize hmm:wrap64 (-m) = m' at H1
  have HMM:=hide hmm
  clear hmm
  go_loopw [6] (fun i wr=>∃ (k:Nat) (ys:List Value),k≤n∧i = .int .i64 k∧Hid (HiS w bp (.slice a n c) nsv nmv X m m' wr (.slice a n c) n nsv nn nmv nn)∧Hid (ApC 58 63 2 wr bp (.slice a n c) n ys nsv nmv nn x0 m0 m [] [])∧Hid (ys.length = n * 2∧∀ j,j < k * 2→ys[j]? = some (ptH m m' j))) (fun i _=>n - (intOf i).toNat)
  case atStart=>exact ⟨0,y0,Nat.zero_le _,rfl,H1,HC2,HY0.out,fun j hj=>absurd hj (by omega)⟩
  case round =>
    obtain ⟨k,ys,hk,rfl,hr,HC,HY⟩:=hrel
    have bx0:=cells_at hr.out.bx 0 rfl
    have bx1:=cells_at hr.out.bx 1 rfl
    by_cases hlt:k < n
    · have hxs:=HC.out.row
      rcases hxs.2 with ⟨_,h0⟩ | ⟨g,cap,cur,hv,_⟩
      · omega
      simp only [Value.slice.injEq] at hv
      obtain ⟨rfl,_,rfl⟩:=hv
      have hxl:ys.length = n * 2:=HY.out.1
      have hcx:wr.cell? ⟨g,k * 2,none⟩ = some ys[k * 2]:=ownsRow_cell hxs (List.getElem?_eq_getElem (by omega))
      have hcy:wr.cell? ⟨g,k * 2 + 1,none⟩ = some ys[k * 2 + 1]:=ownsRow_cell hxs (List.getElem?_eq_getElem (by omega))
      have hfx:=ownsRow_frozen hxs
      have HSR:=hide (set_runH HY.out.2 (show k * 2 + 1 < ys.length by omega))
      generalize ys[k * 2] = x at hcx
      generalize ys[k * 2 + 1] = y at hcy
      clear hxs hxl
      go_wp2
      exact ⟨⟨k + 1,_,by omega,by go_num,(hr.out.setL (k * 2) _).setL (k * 2 + 1) _,(HC.out.setL (k * 2) _).setL (k * 2 + 1) _,by rw [List.length_set,List.length_set]; exact HY.out.1,HSR.out⟩,by simp [intOf]; omega⟩
    · obtain rfl:k = n:=by omega
      have hys:=all_pat HY.out.1 HY.out.2
      subst hys
      have H2:=hr
      have HC3:=HC
      clear hr HC HY H1 HC2 bx0 bx1
      go_wp2
      go_loopw [1,7] (fun l i wr=>∃ (rs:List Rc) (al:Option Addr) (cl:Nat) (nsv' nmv':Value),rs.length≤4∧i = .int .i64 rs.length∧l = .slice al (k + rs.length) cl∧Hid (HiS w bp (.slice a k c) nsv nmv X m m' wr (.slice al (k + rs.length) cl) (k + rs.length) nsv' (nn + rs.length) nmv' (nn + rs.length))∧Hid (ApC 58 63 2 wr bp (.slice al (k + rs.length) cl) (k + rs.length) (patL (ptH m m') ((k + rs.length) * 2)) nsv' nmv' nn x0 m0 m rs rs)∧Hid (∀ r ∈ rs,∀ g,r.val.ownBlock = some g→(Value.slice a k c).ownBlock = some g ∨ w.heap.size≤g)) (fun _ i _=>4 - (intOf i).toNat)
      case atStart=>exact ⟨[],a,c,nsv,nmv,Nat.zero_le _,rfl,rfl,H2.out,HC3.out,fun r hr=>absurd hr List.not_mem_nil⟩
      case round =>
        clear H2 HC3
        obtain ⟨rs,al,cl,nsv',nmv',hq,rfl,rfl,hr,HC,HB⟩:=hrel
        by_cases hlt:rs.length < 4
        · have hd:decide ((rs.length:Int) < 4) = true:=decide_eq_true (by omega)
          have c8:=hr.out.c8
          have hbl:=hr.out.lt
          have HL1:=hide (one_of_row HC.out.row)
          have HRN:Hid (∀ r ∈ rs ++ [(⟨al,k + rs.length,cl,m⟩:Rc)],∀ g,r.val.ownBlock = some g→(Value.slice a k c).ownBlock = some g ∨ w.heap.size≤g):=fun r hr2 g hg=>by
            rcases List.mem_append.1 hr2 with h1 | h1
            · exact HB.out r h1 g hg
            · obtain rfl:=List.mem_singleton.1 h1
              exact hr.out.ll g hg
          have HYS:=hide HC.out.ns
          have HPT:Hid (patL (ptH m m') ((k + (rs ++ [(⟨al,k + rs.length,cl,m⟩:Rc)]).length) * 2) = patL (ptH m m') ((k + rs.length) * 2) ++ [.int .i64 m,.int .i64 m']):=by
            have e1:(k + (rs ++ [(⟨al,k + rs.length,cl,m⟩:Rc)]).length) * 2 = (k + rs.length) * 2 + 2:=by simp; omega
            show _ = _
            rw [e1,patL_two,ptH0,ptH1]
          go_upto_region 10 with (at_builtin; go_must (refine wpList_append_lies _ rfl _ _ 33 rfl 0 58 i58 (.slice none 0 0) 1 24 Tryz.underlying33 hi58 hz580 hz581 hz582 rfl (by decide) nsv' (nn + rs.length) (x0 ++ rs.map Rc.val) rfl (HYS.out.alloc _) ⟨wr.heap.size,0,none⟩ 1 1 [.slice al (k + rs.length) cl] rfl rfl (cell_one_new _ _ _) HL1.out (by decide) (M1.out rs.length hlt) (B1.out rs.length hlt) (Nat.zero_le _) (wr.heap.size + 1) (by simp) ?_); intro g1 cap1 w2 ho1 hg1 hl1 hlt1; obtain ⟨hS2,k8,k9,kf⟩:=hr.out.stepN ho1 hg1 (hl1.imp (fun e=>e.symm) (fun e=>congrArg some e)); have HC4:=hide (((HC.out.below ((Below.refl _ _).alloc (Nat.le_refl _) _)).stepN (typ_alloc hr.out.typ _) ho1 hg1 (hl1.imp (fun e=>e.symm) (fun e=>(congrArg some e).trans (by simp)))).field (typ_grown hr.out.typ hg1 hr.out.ns_ne) 10 (.slice (some ⟨g1,0,none⟩) (nn + rs.length + 1) cap1)); have HS2:=hide hS2; have HZS:=hide HC4.out.nm; clear hS2 ho1 hg1 hl1)
          go_upto_region 11 with (at_builtin; go_must (refine wpList_append_lies _ rfl _ _ 32 rfl 0 3 i3 (.int .i64 0) 1 8 Tryz.underlying32 hi3 hz30 hz31 hz32 rfl (by decide) nmv' (nn + rs.length) (m0 ++ rs.map Rc.mrk) rfl (HZS.out.alloc _) ⟨w2.heap.size,0,none⟩ 1 1 [.int .i64 m] rfl rfl (cell_one_new' _ _ _ _ (by simp)) (ints_oneCell .i64 [m]) (by decide) (M1.out rs.length hlt) (B2.out rs.length hlt) (Nat.zero_le _) (w2.heap.size + 1) (by simp) ?_); intro g2 cap2 w3 ho2 hg2 hl2 hlt2; obtain ⟨hS3,m9,mf⟩:=HS2.out.stepM ho2 hg2 (hl2.imp (fun e=>e.symm) (fun e=>(congrArg some e).trans (by simp))); have HC5:=hide (((HC4.out.below ((Below.refl _ _).alloc (Nat.le_refl _) _)).stepM (r:=⟨al,k + rs.length,cl,m⟩) ho2 hg2 (hl2.imp (fun e=>e.symm) (fun e=>(congrArg some e).trans (by simp)))).field (typ_grown HS2.out.typ hg2 HS2.out.nm_ne) 11 (.slice (some ⟨g2,0,none⟩) (nn + rs.length + 1) cap2)); have HS3:=hide hS3; have HLS:=hide HC5.out.row; clear hS3 ho2 hg2 hl2)
          have bx0:=cells_at HS3.out.bx 0 rfl
          have bx1:=cells_at HS3.out.bx 1 rfl
          go_wp2_with (at_builtin; go_must (refine wpList_append_keeps rfl _ _ 58 rfl 0 63 i63 (.agg #[.int .i64 0,.int .i64 0]) 2 16 Tryz.underlying58 hi63 hz630 hz631 hz632 rfl (by decide) (.slice al (k + rs.length) cl) (k + rs.length) (patL (ptH m m') ((k + rs.length) * 2)) rfl (HLS.out.alloc _) ⟨w3.heap.size,0,none⟩ 1 1 [.int .i64 m,.int .i64 m'] rfl rfl (news_two _ _ _ _ _ (by simp)) (by simp [Value.oneCell']) (by decide) (B3.out rs.length hlt).1 (B3.out rs.length hlt).2 (Nat.zero_le _) (w3.heap.size + 1) (by simp) ?_); intro g3 cap3 w4 ho3 hg3 hl3 hlt3 hk3; have HS4:=hide (HS3.out.stepL ho3 hg3 (hl3.imp (fun e=>e.symm) (fun e=>(congrArg some e).trans (by simp)))); have HC6:=hide ((HC5.out.below ((Below.refl _ _).alloc (Nat.le_refl _) _)).stepL ho3 hg3 hk3))
          have hl1:(rs ++ [(⟨al,k + rs.length,cl,m⟩:Rc)]).length = rs.length + 1:=by simp
          refine ⟨⟨rs ++ [(⟨al,k + rs.length,cl,m⟩:Rc)],some ⟨g3,0,none⟩,cap3,_,_,by omega,by rw [hl1]; go_num,by rw [hl1]; rfl,by rw [hl1]; exact HS4.out,by rw [HPT.out,hl1]; exact HC6.out,HRN⟩,by simp [intOf]; omega⟩
        · obtain hq4:rs.length = 4:=by omega
          have hd:decide ((rs.length:Int) < 4) = false:=decide_eq_false (by omega)
          have HF:Hid (∃ X m m' lv' nsv' nmv' rs,m' = wrap64 (-m)∧HiS w bp (.slice a k c) nsv nmv X m m' wr lv' (k + 4) nsv' (nn + 4) nmv' (nn + 4)∧rs.length = 4∧ApC 58 63 2 wr bp lv' (k + 4) (patL (ptH m m') ((k + 4) * 2)) nsv' nmv' nn x0 m0 m rs rs∧∀ r ∈ rs,∀ g,r.val.ownBlock = some g→(Value.slice a k c).ownBlock = some g ∨ w.heap.size≤g):=by
            have q1:=hr.out
            have q2:=HC.out
            rw [hq4] at q1 q2
            exact ⟨X,m,m',_,_,_,rs,HMM.out.symm,q1,hq4,q2,HB.out⟩
          clear hq4
          go_wp2
          go_end0
          exact ⟨rfl,HF.out⟩
end
section
open Go.RowKit Go.Maps

theorem IntsAt.below {w w':World} {v:Value} {xs:List Int} (h:IntsAt w v xs) (hb:Below w.heap.size w w'):IntsAt w' v xs:=by
  obtain ⟨a,cap,rfl,h1,h2,h3⟩:=h
  refine ⟨a,cap,rfl,h1,h2,?_⟩
  rcases h3 with h3 | ⟨b,off,rfl,hc⟩
  · exact .inl h3
  · exact .inr ⟨b,off,rfl,fun i hi=>Below.at hb (hc i hi) (block_lt_of_cell (hc i hi))⟩
theorem IntsAt.lt {w:World} {v:Value} {xs:List Int} (h:IntsAt w v xs):∀ b off n c,v = .slice (some ⟨b,off,none⟩) n c→0 < xs.length→b < w.heap.size:=by
  obtain ⟨a,cap,rfl,h1,h2,h3⟩:=h
  intro b off n c e h0
  rcases h3 with rfl | ⟨b',off',rfl,hc⟩
  · simp at h0
  · simp only [Value.slice.injEq,Option.some.injEq,Addr.mk.injEq] at e
    obtain ⟨⟨rfl,_⟩,_⟩:=e
    exact block_lt_of_cell (hc 0 h0)

theorem RefAt.keptS {S:Nat→Prop} {w w':World} {br:Nat} {cf:Cf} {la:Option Addr} {lc:Nat} {L:List Ent} (h:RefAt w br cf la lc L) (hk:Kept S w w') (h1:¬ S br) (h2:∀ g,(Value.slice la L.length lc).ownBlock = some g→¬ S g) (h3:∀ e ∈ L,¬ S e.rb):RefAt w' br cf la lc L:=by
  obtain ⟨cs,hc⟩:=h.typ
  have hlt:=h.lt
  exact ⟨⟨cs,(hk.block br hlt h1).trans hc⟩,hk.cell h.r0 h1,hk.cell h.r1 h1,hk.cell h.r2 h1,hk.cell h.r3 h1,hk.cell h.r5 h1,hk.cell h.r6 h1,ownsRow_kept h.row hk h2,fun e he=>ownsRow_kept (h.pts e he) hk fun g hg=>by
    obtain rfl:e.rb = g:=by simpa [Value.ownBlock] using hg
    exact h3 e he,h.rising,h.small⟩

structure BookAt (w:World) (bp:Nat) (nsv:BV) (nmv:Value) (nn:Nat):Prop where
  typ:∃ cs,w.heap[bp]? = some (.cells cs 41 (0,0))
  c6:∃ b,w.cell? ⟨bp,6,none⟩ = some (.int .i64 b)
  c7:∃ b,w.cell? ⟨bp,7,none⟩ = some (.int .i64 b)
  c8:w.cell? ⟨bp,8,none⟩ = some nsv.v
  c9:w.cell? ⟨bp,9,none⟩ = some nmv
  hs:∃ xs:{ xs:List Value // xs = nsv.R.map Rc.val },w.ownsRow 0 32 1 nsv.v nn xs.1
  hm:∃ xs:{ xs:List Value // xs = nsv.R.map Rc.mrk },w.ownsRow 0 3 1 nmv nn xs.1
theorem BookAt.lt {w:World} {bp:Nat} {nsv:BV} {nmv:Value} {nn:Nat} (h:BookAt w bp nsv nmv nn):bp < w.heap.size:=by
  obtain ⟨cs,hc⟩:=h.typ
  exact (Array.getElem?_eq_some_iff.1 hc).1
theorem BookAt.frozen {w:World} {bp:Nat} {nsv:BV} {nmv:Value} {nn:Nat} (h:BookAt w bp nsv nmv nn) (o:Nat):w.frozen? ⟨bp,o,none⟩ = false:=by
  obtain ⟨cs,hc⟩:=h.typ
  simp [World.frozen?,hc]
theorem BookAt.keptS {S:Nat→Prop} {w w':World} {bp:Nat} {nsv:BV} {nmv:Value} {nn:Nat} (h:BookAt w bp nsv nmv nn) (hk:Kept S w w') (h1:¬ S bp) (h2:∀ g,nsv.ownBlock = some g→¬ S g) (h3:∀ g,nmv.ownBlock = some g→¬ S g):BookAt w' bp nsv nmv nn:=by
  obtain ⟨cs,hc⟩:=h.typ
  obtain ⟨b6,h6⟩:=h.c6
  obtain ⟨b7,h7⟩:=h.c7
  obtain ⟨xs,hx⟩:=h.hs
  obtain ⟨ys,hy⟩:=h.hm
  exact ⟨⟨cs,(hk.block bp h.lt h1).trans hc⟩,⟨b6,hk.cell h6 h1⟩,⟨b7,hk.cell h7 h1⟩,hk.cell h.c8 h1,hk.cell h.c9 h1,⟨xs,ownsRow_kept hx hk h2⟩,⟨ys,ownsRow_kept hy hk h3⟩⟩
theorem BookAt.setF {w:World} {bp:Nat} {nsv:BV} {nmv:Value} {nn:Nat} (h:BookAt w bp nsv nmv nn) {o:Nat} (ho:o < 6) (u:Value):BookAt (w.setCell ⟨bp,o,none⟩ u) bp nsv nmv nn:=by
  obtain ⟨cs,hc⟩:=h.typ
  obtain ⟨b6,h6⟩:=h.c6
  obtain ⟨b7,h7⟩:=h.c7
  obtain ⟨xs,hx⟩:=h.hs
  obtain ⟨ys,hy⟩:=h.hm
  have rs:∀ {e:Nat} {v:Value} {n:Nat} {l:List Value},e ≠ 41→w.ownsRow 0 e 1 v n l→(w.setCell ⟨bp,o,none⟩ u).ownsRow 0 e 1 v n l:=fun {e v n l} he hr=>ownsRow_of_block hr fun g hv=>Below.heap_setCell _ _ _ _ (by
    obtain ⟨c2,h2⟩:=ownsRow_obj hr hv
    exact (ne_of_elem hc h2 (fun e'=>he e'.symm)).symm)
  have cl:∀ {k:Nat} {v:Value},6≤k→w.cell? ⟨bp,k,none⟩ = some v→(w.setCell ⟨bp,o,none⟩ u).cell? ⟨bp,k,none⟩ = some v:=fun hk hh=>by
    rw [World.cell?_setCell_other _ _ _ _ (by simp <;> omega)]; exact hh
  exact ⟨⟨_,heap_setCell_same _ _ _ _ _ _ hc⟩,⟨b6,cl (by omega) h6⟩,⟨b7,cl (by omega) h7⟩,cl (by omega) h.c8,cl (by omega) h.c9,⟨xs,rs (by decide) hx⟩,⟨ys,rs (by decide) hy⟩⟩

structure XAt (w:World) (bp:Nat) (x:Bks):Prop where
  c10:w.cell? ⟨bp,10,none⟩ = some x.hsv
  c11:w.cell? ⟨bp,11,none⟩ = some x.hmv
  c12:w.cell? ⟨bp,12,none⟩ = some x.gsv
  c13:w.cell? ⟨bp,13,none⟩ = some x.gmv
  c14:w.cell? ⟨bp,14,none⟩ = some x.lsv
  c15:w.cell? ⟨bp,15,none⟩ = some x.lmv
  hs:∃ xs:{ xs:List Value // xs = x.rh.map Rc.val },w.ownsRow 0 58 1 x.hsv x.nh xs.1
  hm:∃ xs:{ xs:List Value // xs = x.rh.map Rc.mrk },w.ownsRow 0 3 1 x.hmv x.nh xs.1
  gs:∃ xs:{ xs:List Value // xs = x.rg.map Rc.val },w.ownsRow 0 81 1 x.gsv x.ng xs.1
  gm:∃ xs:{ xs:List Value // xs = x.rg.map Rc.mrk },w.ownsRow 0 3 1 x.gmv x.ng xs.1
  ls:∃ xs:{ xs:List Value // xs = x.rl.map Rc.val },w.ownsRow 0 31 1 x.lsv x.nl xs.1
  lm:∃ xs:{ xs:List Value // xs = x.rl.map Rc.mrk },w.ownsRow 0 3 1 x.lmv x.nl xs.1
  dj:(∀ g,x.hmv.ownBlock = some g→x.gmv.ownBlock ≠ some g∧x.lmv.ownBlock ≠ some g)∧∀ g,x.gmv.ownBlock = some g→x.lmv.ownBlock ≠ some g
theorem XAt.lt {w:World} {bp:Nat} {x:Bks} (h:XAt w bp x) {k:Nat} (hk:x.own k):k < w.heap.size:=by
  obtain ⟨_,h1⟩:=h.hs
  obtain ⟨_,h2⟩:=h.hm
  obtain ⟨_,h3⟩:=h.gs
  obtain ⟨_,h4⟩:=h.gm
  obtain ⟨_,h5⟩:=h.ls
  obtain ⟨_,h6⟩:=h.lm
  rcases hk with e | e | e | e | e | e
  · exact (h1.lt k e).2
  · exact (h2.lt k e).2
  · exact (h3.lt k e).2
  · exact (h4.lt k e).2
  · exact (h5.lt k e).2
  · exact (h6.lt k e).2
theorem XAt.rows {S:Nat→Prop} {w w':World} {bp:Nat} {x:Bks} (h:XAt w bp x) (hk:Kept S w w') (h2:∀ k,x.own k→¬ S k) (hc:∀ o v,9 < o→w.cell? ⟨bp,o,none⟩ = some v→w'.cell? ⟨bp,o,none⟩ = some v):XAt w' bp x:=by
  obtain ⟨x1,q1⟩:=h.hs
  obtain ⟨x2,q2⟩:=h.hm
  obtain ⟨x3,q3⟩:=h.gs
  obtain ⟨x4,q4⟩:=h.gm
  obtain ⟨x5,q5⟩:=h.ls
  obtain ⟨x6,q6⟩:=h.lm
  exact ⟨hc _ _ (by decide) h.c10,hc _ _ (by decide) h.c11,hc _ _ (by decide) h.c12,hc _ _ (by decide) h.c13,hc _ _ (by decide) h.c14,hc _ _ (by decide) h.c15,
    ⟨x1,ownsRow_kept q1 hk fun g e=>h2 g (.inl e)⟩,⟨x2,ownsRow_kept q2 hk fun g e=>h2 g (.inr (.inl e))⟩,⟨x3,ownsRow_kept q3 hk fun g e=>h2 g (.inr (.inr (.inl e)))⟩,⟨x4,ownsRow_kept q4 hk fun g e=>h2 g (.inr (.inr (.inr (.inl e))))⟩,⟨x5,ownsRow_kept q5 hk fun g e=>h2 g (.inr (.inr (.inr (.inr (.inl e)))))⟩,⟨x6,ownsRow_kept q6 hk fun g e=>h2 g (.inr (.inr (.inr (.inr (.inr e)))))⟩,h.dj⟩
theorem XAt.keptS {S:Nat→Prop} {w w':World} {bp:Nat} {x:Bks} (h:XAt w bp x) (hk:Kept S w w') (h1:¬ S bp) (h2:∀ k,x.own k→¬ S k):XAt w' bp x :=
  h.rows hk h2 fun _ _ _ hv=>hk.cell hv h1

def Frz (nsv:BV) (x:Bks) (k:Nat):Prop:=nsv.O k ∨ x.O k ∨ x.Z k
def Rds (O:Nat→Prop) (OW:Nat→Option Obj) (Q:World→Nat→Nat→Int→Prop) (rs:List Rc):Prop:=∀ W:World,(∀ k,O k→W.heap[k]? = OW k)→∀ r ∈ rs,Reads W Q r
structure Apt0 (W0:World) (A bp bb bs bm br:Nat) (F:Nat→Prop) (la:Option Addr) (lc:Nat) (nsv:BV) (nmv:Value) (L M:List Ent):Prop where
  old:W0.heap.size≤A
  p:A ≠ bp
  b:A ≠ bb
  s:A ≠ bs
  m:A ≠ bm
  r:A ≠ br
  ns:nsv.ownBlock ≠ some A
  nm:nmv.ownBlock ≠ some A
  l:(Value.slice la M.length lc).ownBlock ≠ some A
  mb:∀ e ∈ L,A ≠ e.mb
  rb:∀ e ∈ M,A ≠ e.rb
  f:¬ F A
structure Apt (W0:World) (A bp bb bs bm br:Nat) (gn:Net) (la:Option Addr) (lc:Nat) (nsv:BV) (nmv:Value) (L M:List Ent):Prop where
  old:W0.heap.size≤A
  p:A ≠ bp
  b:A ≠ bb
  s:A ≠ bs
  m:A ≠ bm
  r:A ≠ br
  ns:nsv.ownBlock ≠ some A
  nm:nmv.ownBlock ≠ some A
  l:(Value.slice la M.length lc).ownBlock ≠ some A
  mb:∀ e ∈ L,A ≠ e.mb
  rb:∀ e ∈ M,A ≠ e.rb
  f:¬ gn.F A
  o:¬ Frz nsv gn.ex A
theorem Apt.zero {W0:World} {A bp bb bs bm br:Nat} {gn:Net} {la:Option Addr} {lc:Nat} {nsv:BV} {nmv:Value} {L M:List Ent} (h:Apt W0 A bp bb bs bm br gn la lc nsv nmv L M):Apt0 W0 A bp bb bs bm br gn.F la lc nsv nmv L M:=⟨h.old,h.p,h.b,h.s,h.m,h.r,h.ns,h.nm,h.l,h.mb,h.rb,h.f⟩
theorem Apt0.apt {W0:World} {A bp bb bs bm br:Nat} {gn:Net} {la:Option Addr} {lc:Nat} {nsv:BV} {nmv:Value} {L M:List Ent} (h:Apt0 W0 A bp bb bs bm br gn.F la lc nsv nmv L M) (ho:¬ Frz nsv gn.ex A):Apt W0 A bp bb bs bm br gn la lc nsv nmv L M:=⟨h.old,h.p,h.b,h.s,h.m,h.r,h.ns,h.nm,h.l,h.mb,h.rb,h.f,ho⟩
structure OAt (W0 w:World) (bp bb bs bm br:Nat) (F:Nat→Prop) (x:Bks) (la:Option Addr) (lc:Nat) (nsv:BV) (nmv:Value) (L M:List Ent):Prop where
  a:∀ k,Frz nsv x k→k < w.heap.size∧Apt0 W0 k bp bb bs bm br F la lc nsv nmv L M
  n:∀ k,nsv.O k→w.heap[k]? = nsv.OW k
  o:∀ k,x.O k→w.heap[k]? = x.OW k
  z:∀ k,x.Z k→w.heap[k]? = x.ZW k
  oz:∀ k,nsv.O k ∨ x.O k→¬ x.Z k
  s:x.ZN≤w.heap.size
  ri:Rds nsv.O nsv.OW QI nsv.R
  rh:Rds x.O x.OW QH x.rh
  rg:Rds x.O x.OW QG x.rg
  rl:Rds x.O x.OW QL x.rl
theorem OAt.kept {W0 w w':World} {bp bb bs bm br:Nat} {F F':Nat→Prop} {x:Bks} {la la':Option Addr} {lc lc':Nat} {nsv:BV} {nmv nmv':Value} {L M L' M':List Ent} {S:Nat→Prop} (h:OAt W0 w bp bb bs bm br F x la lc nsv nmv L M) (hk:Kept S w w')
    (hS:∀ k,S k→Frz nsv x k→Apt0 W0 k bp bb bs bm br F la lc nsv nmv L M→False) (hA:∀ k,k < w.heap.size→Apt0 W0 k bp bb bs bm br F la lc nsv nmv L M→Apt0 W0 k bp bb bs bm br F' la' lc' nsv nmv' L' M'):OAt W0 w' bp bb bs bm br F' x la' lc' nsv nmv' L' M':=by
  have q:∀ k,Frz nsv x k→w'.heap[k]? = w.heap[k]?:=fun k hf=>hk.block k (h.a k hf).1 (fun s=>hS k s hf (h.a k hf).2)
  exact ⟨fun k hf=>⟨Nat.lt_of_lt_of_le (h.a k hf).1 hk.size,hA k (h.a k hf).1 (h.a k hf).2⟩,fun k hf=>(q k (.inl hf)).trans (h.n k hf),fun k hf=>(q k (.inr (.inl hf))).trans (h.o k hf),fun k hf=>(q k (.inr (.inr hf))).trans (h.z k hf),h.oz,Nat.le_trans h.s hk.size,h.ri,h.rh,h.rg,h.rl⟩
structure Apart (W0:World) (A bp bb bs bm br:Nat) (gn:Net) (la:Option Addr) (lc:Nat) (nsv:BV) (nmv:Value) (L M:List Ent):Prop extends Apt W0 A bp bb bs bm br gn la lc nsv nmv L M where
  x:¬ gn.ex.own A

structure PairAt (W0 w:World) (bp bb bs bm br:Nat) (cf:Cf) (gn:Net) (la:Option Addr) (lc:Nat) (nsv:BV) (nmv:Value) (nn:Nat) (L M:List Ent):Prop where
  p0:w.cell? ⟨bp,0,none⟩ = some (.pointer (some ⟨bb,0,none⟩))
  p1:w.cell? ⟨bp,1,none⟩ = some (.pointer (some ⟨br,0,none⟩))
  p2:w.cell? ⟨bp,2,none⟩ = some (.int .i64 gn.lows)
  p3:w.cell? ⟨bp,3,none⟩ = some (.int .i64 gn.lows)
  p4:∃ x:{ x:Int // x = gn.lst },w.cell? ⟨bp,4,none⟩ = some (.int .i64 x.1)
  p5:∃ x:{ x:Bool // x = gn.pt },w.cell? ⟨bp,5,none⟩ = some (.bool x.1)
  book:BookAt w bp nsv nmv nn
  base:BaseAt w bb bs bm cf gn L
  ref:RefAt w br cf la lc M
  tb:∃ cs,w.heap[bb]? = some (.cells cs 102 (0,0))
  ts:∃ cs,w.heap[bs]? = some (.cells cs 155 (0,0))
  am:(∀ e ∈ L,nmv.ownBlock ≠ some e.mb)∧∀ e ∈ M,nmv.ownBlock ≠ some e.rb
  old:Below W0.heap.size W0 w
  pos:0 < W0.heap.size
  lbp:W0.heap.size≤bp
  lbb:W0.heap.size≤bb
  lbm:W0.heap.size≤bm
  lbr:W0.heap.size≤br
  lla:∀ g,(Value.slice la M.length lc).ownBlock = some g→W0.heap.size≤g
  lns:∀ g,nsv.ownBlock = some g→W0.heap.size≤g
  lnm:∀ g,nmv.ownBlock = some g→W0.heap.size≤g
  pf:∀ k,gn.F k→W0.heap.size≤k∧k ≠ bp∧k ≠ br∧nsv.ownBlock ≠ some k∧nmv.ownBlock ≠ some k∧(Value.slice la M.length lc).ownBlock ≠ some k∧∀ e ∈ M,k ≠ e.rb
  x:XAt w bp gn.ex
  xa:∀ k,gn.ex.own k→Apt W0 k bp bb bs bm br gn la lc nsv nmv L M
  xn:gn.ex.nh≤nn∧gn.ex.ng≤nn∧gn.ex.nl≤nn
  o:OAt W0 w bp bb bs bm br gn.F gn.ex la lc nsv nmv L M

structure SameZ (x0 x:Bks):Prop where
  z:x.Z = x0.Z
  zw:x.ZW = x0.ZW
  zn:x.ZN = x0.ZN
theorem SameZ.refl (x:Bks):SameZ x x:=⟨rfl,rfl,rfl⟩
theorem SameZ.trans {a b c:Bks} (h:SameZ a b) (k:SameZ b c):SameZ a c:=⟨k.z.trans h.z,k.zw.trans h.zw,k.zn.trans h.zn⟩
theorem Net.like.z {gn gn':Net} (h:gn.like gn'):SameZ gn.ex gn'.ex:=⟨by rw [h.2.1],by rw [h.2.1],by rw [h.2.1]⟩
def PutOk (gn:Net):Prop:=gn.pt = true→(∃ t,levOf gn.lev gn.lst = some t)∧(1 < gn.lev.length→gn.lk (gn.lst,0) ≠ [])
def Lk (gn:Net) (nn:Nat):Prop:=gn.lows = gn.looks∧0≤gn.looks∧gn.looks≤400 * (nn:Int)∧PutOk gn
theorem Lk.mono {gn:Net} {nn nn':Nat} (h:Lk gn nn) (hn:nn≤nn'):Lk gn nn':=⟨h.1,h.2.1,by have:=h.2.2.1; omega,h.2.2.2⟩
theorem Lk.put {gn gn':Net} {nn:Nat} (h:Lk gn nn) (hl:gn.like gn') {id:Int} (h5:∃ t,levOf gn'.lev id = some t) (h6:1 < gn'.lev.length→gn'.lk (id,0) ≠ []):Lk { gn' with lst:=id,pt:=true } nn:=by
  obtain ⟨l1,_,l3,_⟩:=hl
  obtain ⟨h1,h2,h3,_⟩:=h
  exact ⟨by show gn'.lows = gn'.looks; rw [l3,l1,h1],by show 0≤gn'.looks; rw [l1]; exact h2,by show gn'.looks≤_; rw [l1]; exact h3,fun _=>⟨h5,h6⟩⟩
theorem Lk.gone {gn gn':Net} {nn:Nat} (h:Lk gn nn) (hl:gn.like gn'):Lk { gn' with pt:=false } nn:=by
  obtain ⟨l1,_,l3,_⟩:=hl
  obtain ⟨h1,h2,h3,_⟩:=h
  exact ⟨by show gn'.lows = gn'.looks; rw [l3,l1,h1],by show 0≤gn'.looks; rw [l1]; exact h2,by show gn'.looks≤_; rw [l1]; exact h3,fun e=>by cases e⟩
theorem Net.pt_eq {gn:Net} {b:Bool} (h:b = gn.pt):({ gn with pt:=b }:Net) = gn:=by subst h; rfl

section
variable {W0 w w':World} {bp bb bs bm br:Nat} {cf:Cf} {gn:Net} {la:Option Addr} {lc:Nat} {nsv:BV} {nmv:Value} {nn:Nat} {L M:List Ent}

theorem PairAt.below (h:PairAt W0 w bp bb bs bm br cf gn la lc nsv nmv nn L M) (hb:Below w.heap.size w w'):PairAt W0 w' bp bb bs bm br cf gn la lc nsv nmv nn L M:=by
  obtain ⟨x4,h4⟩:=h.p4
  obtain ⟨x5,h5⟩:=h.p5
  obtain ⟨cb,hcb⟩:=h.tb
  obtain ⟨cs,hcs⟩:=h.ts
  have hlt:=h.book.lt
  exact ⟨Below.at hb h.p0 hlt,Below.at hb h.p1 hlt,Below.at hb h.p2 hlt,Below.at hb h.p3 hlt,⟨x4,Below.at hb h4 hlt⟩,⟨x5,Below.at hb h5 hlt⟩,h.book.keptS (Kept.of_below (fun _=>False) hb) id (fun _ _=>id) (fun _ _=>id),h.base.below hb,h.ref.below hb,⟨cb,(hb.block _ (Array.getElem?_eq_some_iff.1 hcb).1).trans hcb⟩,⟨cs,(hb.block _ (Array.getElem?_eq_some_iff.1 hcs).1).trans hcs⟩,h.am,h.old.trans (hb.mono h.old.size),h.pos,h.lbp,h.lbb,h.lbm,h.lbr,h.lla,h.lns,h.lnm,h.pf,h.x.keptS (Kept.of_below (fun _=>False) hb) id (fun _ _=>id),h.xa,h.xn,h.o.kept (Kept.of_below (fun _=>False) hb) (fun _ e=>e.elim) (fun _ _ q=>q)⟩
theorem PairAt.alloc (h:PairAt W0 w bp bb bs bm br cf gn la lc nsv nmv nn L M) (o:Obj):PairAt W0 (w.alloc o) bp bb bs bm br cf gn la lc nsv nmv nn L M:=h.below ((Below.refl _ _).alloc (Nat.le_refl _) o)

theorem PairAt.turned (h:PairAt W0 w bp bb bs bm br cf gn la lc nsv nmv nn L M) (hk:Kept (fun k=>k = bm ∨ gn.F k) w w') :
    w'.cell? ⟨bp,0,none⟩ = some (.pointer (some ⟨bb,0,none⟩))∧w'.cell? ⟨bp,1,none⟩ = some (.pointer (some ⟨br,0,none⟩))∧w'.cell? ⟨bp,2,none⟩ = some (.int .i64 gn.lows)∧w'.cell? ⟨bp,3,none⟩ = some (.int .i64 gn.lows)∧(∃ x:{ x:Int // x = gn.lst },w'.cell? ⟨bp,4,none⟩ = some (.int .i64 x.1))∧(∃ x:{ x:Bool // x = gn.pt },w'.cell? ⟨bp,5,none⟩ = some (.bool x.1))∧BookAt w' bp nsv nmv nn∧RefAt w' br cf la lc M ∧
      (∃ cs,w'.heap[bb]? = some (.cells cs 102 (0,0)))∧(∃ cs,w'.heap[bs]? = some (.cells cs 155 (0,0)))∧Below W0.heap.size W0 w'∧XAt w' bp gn.ex:=by
  obtain ⟨x4,h4⟩:=h.p4
  obtain ⟨x5,h5⟩:=h.p5
  obtain ⟨cb,hcb⟩:=h.tb
  obtain ⟨cs,hcs⟩:=h.ts
  have hm:=h.base.map
  have hne:∀ {b:Nat} {c:Array Value} {e:TypeId},w.heap[b]? = some (.cells c e (0,0))→¬ gn.F b→¬ (b = bm ∨ gn.F b):=fun hb hf e=>e.elim (hm.mb_ne hb) hf
  have f1:¬ gn.F bp:=fun e=>(h.pf _ e).2.1 rfl
  have f2:¬ gn.F br:=fun e=>(h.pf _ e).2.2.1 rfl
  have f3:¬ gn.F bb:=fun e=>(h.base.foot _ e).2.2.1 rfl
  have f4:¬ gn.F bs:=fun e=>(h.base.foot _ e).2.2.2.1 rfl
  obtain ⟨cp,hcp⟩:=h.book.typ
  obtain ⟨cr,hcr⟩:=h.ref.typ
  refine ⟨hk.cell h.p0 (hne hcp f1),hk.cell h.p1 (hne hcp f1),hk.cell h.p2 (hne hcp f1),hk.cell h.p3 (hne hcp f1),⟨x4,hk.cell h4 (hne hcp f1)⟩,⟨x5,hk.cell h5 (hne hcp f1)⟩,h.book.keptS hk (hne hcp f1) ?_ ?_,h.ref.keptS hk (hne hcr f2) ?_ ?_,⟨cb,(hk.block _ (Array.getElem?_eq_some_iff.1 hcb).1 (hne hcb f3)).trans hcb⟩,⟨cs,(hk.block _ (Array.getElem?_eq_some_iff.1 hcs).1 (hne hcs f4)).trans hcs⟩,h.old.trans (hk.toBelow h.old.size (fun k hk=>hk.elim (fun e=>by rw [e]; exact h.lbm) (fun e=>(h.pf k e).1))),h.x.keptS hk (hne hcp f1) (fun k hx e=>e.elim (fun e=>(h.xa k hx).m e) (h.xa k hx).f)⟩
  · intro g hg
    obtain ⟨xs,hx⟩:=h.book.hs
    obtain ⟨c,hc⟩:=ownsRow_obj hx hg
    exact hne hc (fun e=>(h.pf _ e).2.2.2.1 hg)
  · intro g hg
    obtain ⟨xs,hx⟩:=h.book.hm
    obtain ⟨c,hc⟩:=ownsRow_obj hx hg
    exact hne hc (fun e=>(h.pf _ e).2.2.2.2.1 hg)
  · intro g hg
    obtain ⟨c,hc⟩:=ownsRow_obj h.ref.row hg
    exact hne hc (fun e=>(h.pf _ e).2.2.2.2.2.1 hg)
  · intro e he
    obtain ⟨c,hc⟩:=(h.ref.pts e he).obj
    exact hne hc (fun f=>(h.pf _ f).2.2.2.2.2.2 e he rfl)
end
end
section
open Go.RowKit Go.Maps

theorem BookAt.ins {w:World} {bp:Nat} {nsv:BV} {nmv lv:Value} {nn n:Nat} {xs:List Value} (h:BookAt w bp nsv nmv nn) (hl:w.ownsRow 0 3 1 lv n xs) (ha:∀ g,lv.ownBlock = some g→nmv.ownBlock ≠ some g):InS w bp lv nsv.v nmv w lv n nsv.v nn nmv nn :=
  ⟨h.typ,fun _ _ _ hv=>hv,h.c6,h.c7,h.c8,h.c9,⟨xs,hl⟩,h.hs.elim fun x hx=>⟨x.1,hx⟩,h.hm.elim fun x hx=>⟨x.1,hx⟩,ha,fun _ hg=>.inl hg,fun _ hg=>.inl hg,fun _ hg=>.inl hg,Kept.refl _ _⟩
structure InB (w0:World) (bp:Nat) (lv0:Value) (nsv0:BV) (nmv0:Value) (w:World) (lv:Value) (nl:Nat) (nsv:BV) (ns:Nat) (nmv:Value) (nm:Nat):Prop extends InS w0 bp lv0 nsv0.v nmv0 w lv nl nsv.v ns nmv nm where
  bks:w.ownsRow 0 32 1 nsv.v ns (nsv.R.map Rc.val)
  bkm:w.ownsRow 0 3 1 nmv nm (nsv.R.map Rc.mrk)
  ext:∃ rs:List Rc,nsv.R = nsv0.R ++ rs∧(∀ r ∈ rs,Reads w QI r)∧(∀ k,nsv.O k ↔ nsv0.O k ∨ ∃ r ∈ rs,r.val.ownBlock = some k)∧(∀ k,nsv.OW k = w.heap[k]?)∧∀ r ∈ rs,∀ g,r.val.ownBlock = some g→g < w.heap.size∧g ≠ bp∧nsv.v.ownBlock ≠ some g∧nmv.ownBlock ≠ some g∧(lv0.ownBlock = some g ∨ w0.heap.size≤g)
theorem InB.bookAt {w0 w:World} {bp:Nat} {lv0 nmv0 lv nmv:Value} {nsv0 nsv:BV} {nl nn:Nat} (h:InB w0 bp lv0 nsv0 nmv0 w lv nl nsv nn nmv nn):BookAt w bp nsv nmv nn:=⟨h.typ,h.c6,h.c7,h.c8,h.c9,⟨⟨_,rfl⟩,h.bks⟩,⟨_,rfl⟩,h.bkm⟩
theorem ints35_rec (bp:Nat) (a:Option Addr) (n c:Nat) (nsv:BV) (nmv:Value) (nn:Nat) (w:World) (h:InS w bp (.slice a n c) nsv.v nmv w (.slice a n c) n nsv.v nn nmv nn) (hb:BookAt w bp nsv nmv nn) (hn:(n + 4) * 8≤140737488355328) (hnn:(nn + 4) * 24≤140737488355328) :
    Calls Tryz.prog 70 #[.pointer (some ⟨bp,6,none⟩),.slice a n c] w fun ev w'=>ev = .returned (.tuple #[])∧∃ (lv':Value) (nsv':BV) (nmv':Value),InB w bp (.slice a n c) nsv nmv w' lv' (n + 4) nsv' (nn + 4) nmv' (nn + 4):=by
  obtain ⟨⟨_,rfl⟩,h1⟩:=hb.hs
  obtain ⟨⟨_,rfl⟩,h2⟩:=hb.hm
  refine (ints70_all bp a n c nsv.v nmv nn _ _ w h h1 h2 hn hnn).mono ?_
  rintro ev w' ⟨rfl,lv',nsv',nmv',mm,rs,hs,hl,hc,hr⟩
  refine ⟨rfl,lv',⟨nsv',fun k=>nsv.O k ∨ ∃ r ∈ rs,r.val.ownBlock = some k,fun k=>w'.heap[k]?,nsv.R ++ rs⟩,nmv',⟨hs,?_,?_,rs,rfl,fun r hr=>(hc.rd r hr).2.1,fun _=>Iff.rfl,fun _=>rfl,fun r hm g hg=>?_⟩⟩
  · have:=hc.ns
    rw [hl] at this
    simpa using this
  · have:=hc.nm
    rw [hl] at this
    simpa using this
  · obtain ⟨q1,q2,q3,q4⟩:=(hc.rd r hm).2.2.2 g hg
    exact ⟨q1,q2,q3,q4,hr r hm g hg⟩

theorem ints_of_pts {w:World} {A c:Nat} {xs ys:List Int} (h:Pts w A c (xs ++ ys)) (hm:xs.length≤17592186044416) (c':Nat) (hc:xs.length≤c'):IntsAt w (.slice (some ⟨A,0,none⟩) xs.length c') xs:=by
  refine ⟨_,_,rfl,hc,hm,.inr ⟨A,0,rfl,fun i hi=>?_⟩⟩
  have:=h.cell i (by simp; omega)
  simpa [List.getD_eq_getElem?_getD,List.getElem?_append_left hi] using this

theorem PairAt.ints {W0 w w':World} {bp bb bs bm br:Nat} {cf:Cf} {gn:Net} {la:Option Addr} {lc:Nat} {nsv nsv':BV} {nmv nmv' lv lv':Value} {nn n':Nat} {L M:List Ent} (h:PairAt W0 w bp bb bs bm br cf gn la lc nsv nmv nn L M)
    (hA:∀ g,lv.ownBlock = some g→W0.heap.size≤g∧g ≠ bb∧g ≠ bs∧g ≠ bm∧g ≠ br∧(∀ e ∈ L,g ≠ e.mb)∧(∀ e ∈ M,g ≠ e.rb)∧(∀ b,(Value.slice la M.length lc).ownBlock = some b→g ≠ b)∧¬ gn.F g∧¬ gn.ex.own g∧¬ Frz nsv gn.ex g)
    (hs:InB w bp lv nsv nmv w' lv' n' nsv' (nn + 4) nmv' (nn + 4)):PairAt W0 w' bp bb bs bm br cf gn la lc nsv' nmv' (nn + 4) L M:=by
  obtain ⟨x4,h4⟩:=h.p4
  obtain ⟨x5,h5⟩:=h.p5
  obtain ⟨cb,hcb⟩:=h.tb
  obtain ⟨cs,hcs⟩:=h.ts
  obtain ⟨cp,hcp⟩:=h.book.typ
  obtain ⟨cr,hcr⟩:=h.ref.typ
  obtain ⟨ys,hys⟩:=h.book.hs
  obtain ⟨zs,hzs⟩:=h.book.hm
  have hk:=hs.kept
  have nsne:∀ {b:Nat} {c:Array Value} {e:TypeId},w.heap[b]? = some (.cells c e (0,0))→e ≠ 32→nsv.ownBlock ≠ some b:=fun hb he e'=>by
    obtain ⟨c2,h2⟩:=ownsRow_obj hys e'
    exact ne_of_elem hb h2 he rfl
  have nmne:∀ {b:Nat} {c:Array Value} {e:TypeId},w.heap[b]? = some (.cells c e (0,0))→e ≠ 3→nmv.ownBlock ≠ some b:=fun hb he e'=>by
    obtain ⟨c2,h2⟩:=ownsRow_obj hzs e'
    exact ne_of_elem hb h2 he rfl
  have no:∀ {b:Nat} {c:Array Value} {e:TypeId},w.heap[b]? = some (.cells c e (0,0))→e ≠ 41→e ≠ 32→e ≠ 3→lv.ownBlock ≠ some b→¬ (b = bp ∨ lv.ownBlock = some b ∨ nsv.ownBlock = some b ∨ nmv.ownBlock = some b):=fun hb h1 h2 h3 h4 hx=>by
    rcases hx with e | e | e | e
    · subst e; rw [hb] at hcp; simp at hcp; exact h1 hcp.2
    · exact h4 e
    · exact nsne hb h2 e
    · exact nmne hb h3 e
  have noPm:∀ e ∈ L,¬ (e.mb = bp ∨ lv.ownBlock = some e.mb ∨ nsv.ownBlock = some e.mb ∨ nmv.ownBlock = some e.mb):=fun e he hx=>by
    obtain ⟨c,hc⟩:=(h.base.map.pts e he).obj
    rcases hx with e1 | e1 | e1 | e1
    · exact ne_of_elem hc hcp (by decide) e1
    · exact (hA _ e1).2.2.2.2.2.1 e he rfl
    · exact nsne hc (by decide) e1
    · exact h.am.1 e he e1
  have noPr:∀ e ∈ M,¬ (e.rb = bp ∨ lv.ownBlock = some e.rb ∨ nsv.ownBlock = some e.rb ∨ nmv.ownBlock = some e.rb):=fun e he hx=>by
    obtain ⟨c,hc⟩:=(h.ref.pts e he).obj
    rcases hx with e1 | e1 | e1 | e1
    · exact ne_of_elem hc hcp (by decide) e1
    · exact (hA _ e1).2.2.2.2.2.2.1 e he rfl
    · exact nsne hc (by decide) e1
    · exact h.am.2 e he e1
  have hbm:¬ (bm = bp ∨ lv.ownBlock = some bm ∨ nsv.ownBlock = some bm ∨ nmv.ownBlock = some bm):=fun hx=>by
    rcases hx with e1 | e1 | e1 | e1
    · exact h.base.map.mb_ne hcp e1.symm
    · exact (hA bm e1).2.2.2.1 rfl
    · obtain ⟨c2,h2⟩:=ownsRow_obj hys e1; exact h.base.map.mb_ne h2 rfl
    · obtain ⟨c2,h2⟩:=ownsRow_obj hzs e1; exact h.base.map.mb_ne h2 rfl
  have h00:¬ (0 = bp ∨ lv.ownBlock = some 0 ∨ nsv.ownBlock = some 0 ∨ nmv.ownBlock = some 0):=fun hx=>by
    have:=h.pos
    rcases hx with e1 | e1 | e1 | e1
    · have:=h.lbp; omega
    · have:=(hA 0 e1).1; omega
    · have:=h.lns 0 e1; omega
    · have:=h.lnm 0 e1; omega
  have hbb:=no hcb (by decide) (by decide) (by decide) (fun e=>(hA bb e).2.1 rfl)
  have hbs:=no hcs (by decide) (by decide) (by decide) (fun e=>(hA bs e).2.2.1 rfl)
  have hbr:=no hcr (by decide) (by decide) (by decide) (fun e=>(hA br e).2.2.2.2.1 rfl)
  have hla:∀ g,(Value.slice la M.length lc).ownBlock = some g→¬ (g = bp ∨ lv.ownBlock = some g ∨ nsv.ownBlock = some g ∨ nmv.ownBlock = some g):=fun g hg=>by
    obtain ⟨c,hc⟩:=ownsRow_obj h.ref.row hg
    exact no hc (by decide) (by decide) (by decide) (fun e=>(hA g e).2.2.2.2.2.2.2.1 g hg rfl)
  have hFF:∀ k,gn.F k→¬ (k = bp ∨ lv.ownBlock = some k ∨ nsv.ownBlock = some k ∨ nmv.ownBlock = some k):=fun k hf hx=>by
    obtain ⟨_,q1,_,q2,q3,_⟩:=h.pf k hf
    rcases hx with e | e | e | e
    · exact q1 e
    · exact (hA k e).2.2.2.2.2.2.2.2.1 hf
    · exact q2 e
    · exact q3 e
  have hold:Below W0.heap.size w w':=hk.toBelow h.old.size fun k hk=>by
    rcases hk with e | e | e | e
    · rw [e]; exact h.lbp
    · exact (hA k e).1
    · exact h.lns k e
    · exact h.lnm k e
  refine ⟨hs.low 0 _ (by omega) h.p0,hs.low 1 _ (by omega) h.p1,hs.low 2 _ (by omega) h.p2,hs.low 3 _ (by omega) h.p3,⟨x4,hs.low 4 _ (by omega) h4⟩,⟨x5,hs.low 5 _ (by omega) h5⟩,hs.bookAt,h.base.keptS hk hbb hbs hbm h00 noPm hFF,h.ref.keptS hk hbr hla noPr,
    ⟨cb,(hk.block _ (Array.getElem?_eq_some_iff.1 hcb).1 hbb).trans hcb⟩,⟨cs,(hk.block _ (Array.getElem?_eq_some_iff.1 hcs).1 hbs).trans hcs⟩,?_,h.old.trans hold,h.pos,h.lbp,h.lbb,h.lbm,h.lbr,h.lla,?_,?_,?_,?_,?_,?_,?_⟩
  · refine ⟨fun e he e1=>?_,fun e he e1=>?_⟩
    · have hm1:=((h.base.map.pts e he).lt e.mb rfl).2
      rcases hs.lm _ e1 with h1 | h1
      · exact h.am.1 e he h1
      · omega
    · have hm2:=((h.ref.pts e he).lt e.rb rfl).2
      rcases hs.lm _ e1 with h1 | h1
      · exact h.am.2 e he h1
      · omega
  · intro g hg
    rcases hs.ls g hg with h1 | h1
    · exact h.lns g h1
    · exact Nat.le_trans h.old.size h1
  · intro g hg
    rcases hs.lm g hg with h1 | h1
    · exact h.lnm g h1
    · exact Nat.le_trans h.old.size h1
  · intro k hf
    obtain ⟨q0,q1,q2,q3,q4,q5,q6⟩:=h.pf k hf
    have hlt:=(h.base.foot k hf).1
    exact ⟨q0,q1,q2,fun e=>(hs.ls k e).elim q3 (fun e=>by omega),fun e=>(hs.lm k e).elim q4 (fun e=>by omega),q5,q6⟩
  · refine h.x.rows hk (fun k hx e=>?_) (fun o v ho hv=>hs.low o v (.inr ho) hv)
    rcases e with e | e | e | e
    · exact (h.xa k hx).p e
    · exact (hA k e).2.2.2.2.2.2.2.2.2.1 hx
    · exact (h.xa k hx).ns e
    · exact (h.xa k hx).nm e
  · intro k hx
    have hlt:=h.x.lt hx
    have q:=h.xa k hx
    obtain ⟨rs,_,_,eO,_,eR⟩:=hs.ext
    refine ⟨q.old,q.p,q.b,q.s,q.m,q.r,fun e=>(hs.ls k e).elim q.ns (fun e=>by omega),fun e=>(hs.lm k e).elim q.nm (fun e=>by omega),q.l,q.mb,q.rb,q.f,?_⟩
    rintro (e | e)
    · rcases (eO k).1 e with e | ⟨r,hr,e⟩
      · exact q.o (.inl e)
      · rcases (eR r hr k e).2.2.2.2 with e | e
        · exact (hA k e).2.2.2.2.2.2.2.2.2.1 hx
        · omega
    · exact q.o (.inr e)
  · have q:=h.xn
    omega
  · obtain ⟨rs,eL,eQ,eO,eW,eR⟩:=hs.ext
    have st:∀ k,Frz nsv gn.ex k→w'.heap[k]? = w.heap[k]?:=fun k hf=>by
      obtain ⟨q1,q2⟩:=h.o.a k hf
      refine hk.block k q1 (fun e=>?_)
      rcases e with e | e | e | e
      · exact q2.p e
      · exact (hA k e).2.2.2.2.2.2.2.2.2.2 hf
      · exact q2.ns e
      · exact q2.nm e
    have old:∀ k,Frz nsv gn.ex k→k < w'.heap.size∧Apt0 W0 k bp bb bs bm br gn.F la lc nsv' nmv' L M:=fun k hf=>by
      obtain ⟨q1,q⟩:=h.o.a k hf
      exact ⟨Nat.lt_of_lt_of_le q1 hk.size,q.old,q.p,q.b,q.s,q.m,q.r,fun e=>(hs.ls k e).elim q.ns (fun e=>by omega),fun e=>(hs.lm k e).elim q.nm (fun e=>by omega),q.l,q.mb,q.rb,q.f⟩
    refine ⟨fun k hf=>?_,fun k _=>(eW k).symm,fun k hf=>(st k (.inr (.inl hf))).trans (h.o.o k hf),fun k hf=>(st k (.inr (.inr hf))).trans (h.o.z k hf),fun k hf=>?_,Nat.le_trans h.o.s hk.size,fun W hW r hr=>?_,h.o.rh,h.o.rg,h.o.rl⟩
    · rcases hf with hf | hf
      · rcases (eO k).1 hf with e | ⟨r,hr,e⟩
        · exact old k (.inl e)
        · obtain ⟨q1,q2,q3,q4,q5⟩:=eR r hr k e
          refine ⟨q1,?_⟩
          rcases q5 with q5 | q5
          · obtain ⟨a1,a2,a3,a4,a5,a6,a7,a8,a9,_⟩:=hA k q5
            exact ⟨a1,q2,a2,a3,a4,a5,q3,q4,fun e=>a8 k e rfl,a6,a7,a9⟩
          · obtain ⟨cb,hcb⟩:=h.tb
            have l1:=(Array.getElem?_eq_some_iff.1 hcb).1
            have l2:=(Array.getElem?_eq_some_iff.1 hcs).1
            have l3:=h.base.map.lt
            have l4:=h.ref.lt
            exact ⟨Nat.le_trans h.old.size q5,q2,by omega,by omega,by omega,by omega,q3,q4,fun e=>by have:=(h.ref.row.lt k e).2; omega,fun e he=>by have:=h.base.map.plt e he; omega,fun e he=>(by have:=((h.ref.pts e he).lt e.rb rfl).2; omega),fun e=>by have:=(h.base.foot k e).1; omega⟩
      · exact old k (.inr hf)
    · rcases hf with hf | hf
      · rcases (eO k).1 hf with e | ⟨r,hr,e⟩
        · exact h.o.oz k (.inl e)
        · rcases (eR r hr k e).2.2.2.2 with e | e
          · exact fun hz=>(hA k e).2.2.2.2.2.2.2.2.2.2 (.inr (.inr hz))
          · exact fun hz=>by have:=(h.o.a k (.inr (.inr hz))).1; omega
      · exact h.o.oz k (.inr hf)
    · rw [eL] at hr
      rcases List.mem_append.1 hr with hr | hr
      · exact h.o.ri W (fun k hf=>((hW k ((eO k).2 (.inl hf))).trans (eW k)).trans ((st k (.inl hf)).trans (h.o.n k hf))) r hr
      · exact (eQ r hr).blocks fun g k hg _ hq=>hq.same ((hW g ((eO g).2 (.inr ⟨r,hr,hg⟩))).trans (eW g))

section
variable {W0 w w':World} {bp bb bs bm br:Nat} {cf:Cf} {gn:Net} {la:Option Addr} {lc:Nat} {nsv:BV} {nmv:Value} {nn:Nat} {L M:List Ent} {A:Nat}
theorem PairAt.apart (h:PairAt W0 w bp bb bs bm br cf gn la lc nsv nmv nn L M) (hA:w.heap.size≤A):Apart W0 A bp bb bs bm br gn la lc nsv nmv L M:=by
  obtain ⟨cb,hcb⟩:=h.tb
  obtain ⟨cs,hcs⟩:=h.ts
  obtain ⟨ys,hys⟩:=h.book.hs
  obtain ⟨zs,hzs⟩:=h.book.hm
  have h1:=h.book.lt
  have h2:=(Array.getElem?_eq_some_iff.1 hcb).1
  have h3:=(Array.getElem?_eq_some_iff.1 hcs).1
  have h4:=h.base.map.lt
  have h5:=h.ref.lt
  exact ⟨⟨Nat.le_trans h.old.size hA,by omega,by omega,by omega,by omega,by omega,fun e=>by have:=(hys.lt A e).2; omega,fun e=>by have:=(hzs.lt A e).2; omega,fun e=>by have:=(h.ref.row.lt A e).2; omega,fun e he=>by have:=h.base.map.plt e he; omega,fun e he=>(by have:=((h.ref.pts e he).lt e.rb rfl).2; omega),fun e=>by have:=(h.base.foot A e).1; omega,fun e=>by have:=(h.o.a A e).1; omega⟩,fun e=>by have:=h.x.lt e; omega⟩
theorem Apart.ins (h:Apart W0 A bp bb bs bm br gn la lc nsv nmv L M) (x:Ent) (hx:A ≠ x.mb):Apart W0 A bp bb bs bm br gn la lc nsv nmv (insE x L) M :=
  ⟨⟨h.old,h.p,h.b,h.s,h.m,h.r,h.ns,h.nm,h.l,fun e he=>by
    rcases mem_insE he with rfl | he
    · exact hx
    · exact h.mb e he,h.rb,h.f,h.o⟩,h.x⟩
theorem PairAt.one (h:PairAt W0 w bp bb bs bm br cf gn la lc nsv nmv nn L M) (hA:Apart W0 A bp bb bs bm br gn la lc nsv nmv L M) (hk:Kept (fun k=>k = A) w w'):PairAt W0 w' bp bb bs bm br cf gn la lc nsv nmv nn L M:=by
  obtain ⟨x4,h4⟩:=h.p4
  obtain ⟨x5,h5⟩:=h.p5
  obtain ⟨cb,hcb⟩:=h.tb
  obtain ⟨cs,hcs⟩:=h.ts
  have h0:=h.pos
  have hold:=hA.old
  refine ⟨hk.cell h.p0 hA.p.symm,hk.cell h.p1 hA.p.symm,hk.cell h.p2 hA.p.symm,hk.cell h.p3 hA.p.symm,⟨x4,hk.cell h4 hA.p.symm⟩,⟨x5,hk.cell h5 hA.p.symm⟩,h.book.keptS hk hA.p.symm (fun g hg e=>hA.ns (by rw [hg,e])) (fun g hg e=>hA.nm (by rw [hg,e])),h.base.keptS hk hA.b.symm hA.s.symm hA.m.symm (by omega) (fun e he=>(hA.mb e he).symm) (fun k hf e=>hA.f (e ▸ hf)),h.ref.keptS hk hA.r.symm (fun g hg e=>hA.l (by rw [hg,e])) (fun e he=>(hA.rb e he).symm),
    ⟨cb,(hk.block _ (Array.getElem?_eq_some_iff.1 hcb).1 hA.b.symm).trans hcb⟩,⟨cs,(hk.block _ (Array.getElem?_eq_some_iff.1 hcs).1 hA.s.symm).trans hcs⟩,h.am,h.old.trans (hk.toBelow h.old.size (fun k e=>by rw [e]; exact hold)),h.pos,h.lbp,h.lbb,h.lbm,h.lbr,h.lla,h.lns,h.lnm,h.pf,h.x.keptS hk hA.p.symm (fun k hx e=>hA.x (e ▸ hx)),h.xa,h.xn,h.o.kept hk (fun k e hf _=>hA.o (e ▸ hf)) (fun _ _ q=>q)⟩
theorem PairAt.ints' {nsv':BV} {nmv' lv':Value} {n n' c:Nat} (h:PairAt W0 w bp bb bs bm br cf gn la lc nsv nmv nn L M) (hA:Apart W0 A bp bb bs bm br gn la lc nsv nmv L M) (hs:InB w bp (.slice (some ⟨A,0,none⟩) n c) nsv nmv w' lv' n' nsv' (nn + 4) nmv' (nn + 4)):PairAt W0 w' bp bb bs bm br cf gn la lc nsv' nmv' (nn + 4) L M :=
  h.ints (fun g hg=>by
    obtain rfl:A = g:=by simpa [Value.ownBlock] using hg
    exact ⟨hA.old,hA.b,hA.s,hA.m,hA.r,hA.mb,hA.rb,fun b hb e=>hA.l (by rw [hb,e]),hA.f,hA.x,hA.o⟩) hs
theorem PairAt.intsN {nsv':BV} {nmv' lv':Value} {n':Nat} (h:PairAt W0 w bp bb bs bm br cf gn la lc nsv nmv nn L M) (hs:InB w bp (.slice none 0 0) nsv nmv w' lv' n' nsv' (nn + 4) nmv' (nn + 4)):PairAt W0 w' bp bb bs bm br cf gn la lc nsv' nmv' (nn + 4) L M :=
  h.ints (fun g hg=>by cases hg) hs

theorem PairAt.refTurned {la':Option Addr} {lc':Nat} {M':List Ent} (h:PairAt W0 w bp bb bs bm br cf gn la lc nsv nmv nn L M) (hk:Kept (fun k=>k = br ∨ (Value.slice la M.length lc).ownBlock = some k) w w') (hr:RefAt w' br cf la' lc' M') (hl:∀ g,(Value.slice la' M'.length lc').ownBlock = some g→W0.heap.size≤g) (ham:∀ e ∈ M',nmv.ownBlock ≠ some e.rb) (hpf:∀ k,gn.F k→(Value.slice la' M'.length lc').ownBlock ≠ some k∧∀ e ∈ M',k ≠ e.rb) (hxa:∀ k,k < w.heap.size→gn.ex.own k ∨ Frz nsv gn.ex k→(Value.slice la' M'.length lc').ownBlock ≠ some k∧∀ e ∈ M',k ≠ e.rb) :
    PairAt W0 w' bp bb bs bm br cf gn la' lc' nsv nmv nn L M':=by
  obtain ⟨x4,h4⟩:=h.p4
  obtain ⟨x5,h5⟩:=h.p5
  obtain ⟨cb,hcb⟩:=h.tb
  obtain ⟨cs,hcs⟩:=h.ts
  obtain ⟨cp,hcp⟩:=h.book.typ
  obtain ⟨cr,hcr⟩:=h.ref.typ
  obtain ⟨ys,hys⟩:=h.book.hs
  obtain ⟨zs,hzs⟩:=h.book.hm
  have no:∀ {b:Nat} {c:Array Value} {e:TypeId},w.heap[b]? = some (.cells c e (0,0))→e ≠ 92→e ≠ 135→¬ (b = br ∨ (Value.slice la M.length lc).ownBlock = some b):=fun hb h1 h2 hx=>by
    rcases hx with e | e
    · exact ne_of_elem hb hcr h1 e
    · obtain ⟨c2,h3⟩:=ownsRow_obj h.ref.row e
      exact ne_of_elem hb h3 h2 rfl
  have hbm:¬ (bm = br ∨ (Value.slice la M.length lc).ownBlock = some bm):=fun hx=>by
    rcases hx with e | e
    · exact h.base.map.mb_ne hcr e.symm
    · obtain ⟨c2,h3⟩:=ownsRow_obj h.ref.row e
      exact h.base.map.mb_ne h3 rfl
  have h00:¬ (0 = br ∨ (Value.slice la M.length lc).ownBlock = some 0):=fun hx=>by
    have:=h.pos
    rcases hx with e | e
    · have:=h.lbr; omega
    · have:=h.lla 0 e; omega
  have hbp:=no hcp (by decide) (by decide)
  refine ⟨hk.cell h.p0 hbp,hk.cell h.p1 hbp,hk.cell h.p2 hbp,hk.cell h.p3 hbp,⟨x4,hk.cell h4 hbp⟩,⟨x5,hk.cell h5 hbp⟩,h.book.keptS hk hbp (fun g hg=>?_) (fun g hg=>?_),h.base.keptS hk (no hcb (by decide) (by decide)) (no hcs (by decide) (by decide)) hbm h00 (fun e he=>?_) (fun k hf e=>e.elim (h.pf k hf).2.2.1 (h.pf k hf).2.2.2.2.2.1),hr,
    ⟨cb,(hk.block _ (Array.getElem?_eq_some_iff.1 hcb).1 (no hcb (by decide) (by decide))).trans hcb⟩,⟨cs,(hk.block _ (Array.getElem?_eq_some_iff.1 hcs).1 (no hcs (by decide) (by decide))).trans hcs⟩,⟨h.am.1,ham⟩,h.old.trans (hk.toBelow h.old.size (fun k e=>?_)),h.pos,h.lbp,h.lbb,h.lbm,h.lbr,hl,h.lns,h.lnm,fun k hf=>⟨(h.pf k hf).1,(h.pf k hf).2.1,(h.pf k hf).2.2.1,(h.pf k hf).2.2.2.1,(h.pf k hf).2.2.2.2.1,(hpf k hf).1,(hpf k hf).2⟩,h.x.keptS hk hbp (fun k hx e=>e.elim (h.xa k hx).r (h.xa k hx).l),fun k hx=>?_,h.xn,?_⟩
  · obtain ⟨c,hc⟩:=ownsRow_obj hys hg
    exact no hc (by decide) (by decide)
  · obtain ⟨c,hc⟩:=ownsRow_obj hzs hg
    exact no hc (by decide) (by decide)
  · obtain ⟨c,hc⟩:=(h.base.map.pts e he).obj
    exact no hc (by decide) (by decide)
  · rcases e with e | e
    · rw [e]; exact h.lbr
    · exact h.lla k e
  · have q:=h.xa k hx
    have q2:=hxa k (h.x.lt hx) (.inl hx)
    exact ⟨q.old,q.p,q.b,q.s,q.m,q.r,q.ns,q.nm,q2.1,q.mb,q2.2,q.f,q.o⟩
  · have hO:=h.o.kept hk (fun k e _ q=>e.elim q.r q.l) (fun _ _ q=>q)
    exact ⟨fun k hf=>by
      obtain ⟨q1,q⟩:=hO.a k hf
      have q2:=hxa k (h.o.a k hf).1 (.inr hf)
      exact ⟨q1,q.old,q.p,q.b,q.s,q.m,q.r,q.ns,q.nm,q2.1,q.mb,q2.2,q.f⟩,hO.n,hO.o,hO.z,hO.oz,hO.s,hO.ri,hO.rh,hO.rg,hO.rl⟩
theorem PairAt.field4 (h:PairAt W0 w bp bb bs bm br cf gn la lc nsv nmv nn L M) (x:Int):PairAt W0 (w.setCell ⟨bp,4,none⟩ (.int .i64 x)) bp bb bs bm br cf { gn with lst:=x } la lc nsv nmv nn L M:=by
  obtain ⟨x4,h4⟩:=h.p4
  obtain ⟨x5,h5⟩:=h.p5
  obtain ⟨cb,hcb⟩:=h.tb
  obtain ⟨cs,hcs⟩:=h.ts
  obtain ⟨cp,hcp⟩:=h.book.typ
  obtain ⟨cr,hcr⟩:=h.ref.typ
  have hk:Kept (fun k=>k = bp) w (w.setCell ⟨bp,4,none⟩ (.int .i64 x)):=(Kept.refl (fun k=>k = bp) w).setCell (p:=⟨bp,4,none⟩) (fun _=>rfl) _
  have ne:∀ {b:Nat} {c:Array Value} {e:TypeId},w.heap[b]? = some (.cells c e (0,0))→e ≠ 41→b ≠ bp:=fun hb h1=>ne_of_elem hb hcp h1
  have far:∀ k,k ≠ 4→(w.setCell ⟨bp,4,none⟩ (.int .i64 x)).cell? ⟨bp,k,none⟩ = w.cell? ⟨bp,k,none⟩:=fun k hk=>World.cell?_setCell_other _ _ _ _ (by simp <;> omega)
  have hpos:=h.pos
  have hlbp:=h.lbp
  have hB:=h.base.keptS hk (ne hcb (by decide)) (ne hcs (by decide)) (fun e=>h.base.map.mb_ne hcp e.symm) (by omega) (fun e he=>by obtain ⟨c,hc⟩:=(h.base.map.pts e he).obj; exact ne hc (by decide)) (fun k hf=>(h.pf k hf).2.1)
  refine ⟨(far 0 (by omega)).trans h.p0,(far 1 (by omega)).trans h.p1,(far 2 (by omega)).trans h.p2,(far 3 (by omega)).trans h.p3,⟨⟨x,rfl⟩,World.cell?_setCell_same _ _ _ h4⟩,⟨x5,(far 5 (by omega)).trans h5⟩,h.book.setF (by omega) _,⟨hB.b0,hB.b2,hB.b3,hB.b4,hB.b5,hB.b6,hB.b7,hB.b8,hB.s0,hB.s1,hB.map,hB.hdl,hB.g,hB.ok,hB.lv,hB.few,hB.ints,hB.len,hB.crd,hB.drw,hB.foot,hB.cfok⟩,h.ref.keptS hk (ne hcr (by decide)) (fun g hg=>?_) (fun e he=>?_),
    ⟨cb,(hk.block _ (Array.getElem?_eq_some_iff.1 hcb).1 (ne hcb (by decide))).trans hcb⟩,⟨cs,(hk.block _ (Array.getElem?_eq_some_iff.1 hcs).1 (ne hcs (by decide))).trans hcs⟩,h.am,h.old.trans (hk.toBelow h.old.size (fun k e=>by rw [e]; exact h.lbp)),h.pos,h.lbp,h.lbb,h.lbm,h.lbr,h.lla,h.lns,h.lnm,h.pf,h.x.rows hk (fun k hx=>(h.xa k hx).p) (fun o v ho hv=>(far o (by omega)).trans hv),fun k hx=>?_,h.xn,h.o.kept hk (fun k e _ q=>q.p e) (fun _ _ q=>q)⟩
  · obtain ⟨c,hc⟩:=ownsRow_obj h.ref.row hg
    exact ne hc (by decide)
  · obtain ⟨c,hc⟩:=(h.ref.pts e he).obj
    exact ne hc (by decide)
  · have q:=h.xa k hx
    exact ⟨q.old,q.p,q.b,q.s,q.m,q.r,q.ns,q.nm,q.l,q.mb,q.rb,q.f,q.o⟩
theorem PairAt.field5 (h:PairAt W0 w bp bb bs bm br cf gn la lc nsv nmv nn L M) (x:Bool):PairAt W0 (w.setCell ⟨bp,5,none⟩ (.bool x)) bp bb bs bm br cf { gn with pt:=x } la lc nsv nmv nn L M:=by
  obtain ⟨x4,h4⟩:=h.p4
  obtain ⟨x5,h5⟩:=h.p5
  obtain ⟨cb,hcb⟩:=h.tb
  obtain ⟨cs,hcs⟩:=h.ts
  obtain ⟨cp,hcp⟩:=h.book.typ
  obtain ⟨cr,hcr⟩:=h.ref.typ
  have hk:Kept (fun k=>k = bp) w (w.setCell ⟨bp,5,none⟩ (.bool x)):=(Kept.refl (fun k=>k = bp) w).setCell (p:=⟨bp,5,none⟩) (fun _=>rfl) _
  have ne:∀ {b:Nat} {c:Array Value} {e:TypeId},w.heap[b]? = some (.cells c e (0,0))→e ≠ 41→b ≠ bp:=fun hb h1=>ne_of_elem hb hcp h1
  have far:∀ k,k ≠ 5→(w.setCell ⟨bp,5,none⟩ (.bool x)).cell? ⟨bp,k,none⟩ = w.cell? ⟨bp,k,none⟩:=fun k hk=>World.cell?_setCell_other _ _ _ _ (by simp <;> omega)
  have hpos:=h.pos
  have hlbp:=h.lbp
  have hB:=h.base.keptS hk (ne hcb (by decide)) (ne hcs (by decide)) (fun e=>h.base.map.mb_ne hcp e.symm) (by omega) (fun e he=>by obtain ⟨c,hc⟩:=(h.base.map.pts e he).obj; exact ne hc (by decide)) (fun k hf=>(h.pf k hf).2.1)
  refine ⟨(far 0 (by omega)).trans h.p0,(far 1 (by omega)).trans h.p1,(far 2 (by omega)).trans h.p2,(far 3 (by omega)).trans h.p3,⟨x4,(far 4 (by omega)).trans h4⟩,⟨⟨x,rfl⟩,World.cell?_setCell_same _ _ _ h5⟩,h.book.setF (by omega) _,⟨hB.b0,hB.b2,hB.b3,hB.b4,hB.b5,hB.b6,hB.b7,hB.b8,hB.s0,hB.s1,hB.map,hB.hdl,hB.g,hB.ok,hB.lv,hB.few,hB.ints,hB.len,hB.crd,hB.drw,hB.foot,hB.cfok⟩,h.ref.keptS hk (ne hcr (by decide)) (fun g hg=>?_) (fun e he=>?_),
    ⟨cb,(hk.block _ (Array.getElem?_eq_some_iff.1 hcb).1 (ne hcb (by decide))).trans hcb⟩,⟨cs,(hk.block _ (Array.getElem?_eq_some_iff.1 hcs).1 (ne hcs (by decide))).trans hcs⟩,h.am,h.old.trans (hk.toBelow h.old.size (fun k e=>by rw [e]; exact h.lbp)),h.pos,h.lbp,h.lbb,h.lbm,h.lbr,h.lla,h.lns,h.lnm,h.pf,h.x.rows hk (fun k hx=>(h.xa k hx).p) (fun o v ho hv=>(far o (by omega)).trans hv),fun k hx=>?_,h.xn,h.o.kept hk (fun k e _ q=>q.p e) (fun _ _ q=>q)⟩
  · obtain ⟨c,hc⟩:=ownsRow_obj h.ref.row hg
    exact ne hc (by decide)
  · obtain ⟨c,hc⟩:=(h.ref.pts e he).obj
    exact ne hc (by decide)
  · have q:=h.xa k hx
    exact ⟨q.old,q.p,q.b,q.s,q.m,q.r,q.ns,q.nm,q.l,q.mb,q.rb,q.f,q.o⟩
end
end
end Go.Proofs.YtpkiefjanmfgfaaGreatDoor
