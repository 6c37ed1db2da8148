import Derived.Laws.CopyOwn
import Derived.Test.YtpkiefjanmfgfaaGreatDoorAll01
import Derived.Test.YtpkiefjanmfgfaaGreatDoorAll06
import Derived.Test.YtpkiefjanmfgfaaGreatDoorAll13
import Derived.Test.YtpkiefjanmfgfaaGreatDoorAll15
import Derived.Test.YtpkiefjanmfgfaaGreatDoorAll20
import Derived.Test.YtpkiefjanmfgfaaGreatDoorAll21
namespace Go.Proofs.YtpkiefjanmfgfaaGreatDoor
section
open Go.RowKit Go.Maps

def hitsL (m:Int) (xs:List Int) (F:List (List Cnd)) (L:List Ent):List Hit:=(L.filter fun e=>passB F e.t0 e.t1).map fun e=>(e.id,distL m xs e.pt)
theorem hitsL_no {m:Int} {xs:List Int} {F:List (List Cnd)} {L:List Ent} {k:Nat} (hk:k < L.length) (h:passB F L[k].t0 L[k].t1 = false):hitsL m xs F (L.take (k + 1)) = hitsL m xs F (L.take k):=by
  unfold hitsL
  rw [List.take_succ_eq_append_getElem hk,List.filter_append,List.map_append]
  simp [h]
theorem hitsL_yes {m:Int} {xs:List Int} {F:List (List Cnd)} {L:List Ent} {k:Nat} (hk:k < L.length) (h:passB F L[k].t0 L[k].t1 = true):hitsL m xs F (L.take (k + 1)) = hitsL m xs F (L.take k) ++ [(L[k].id,distL m xs L[k].pt)]:=by
  unfold hitsL
  rw [List.take_succ_eq_append_getElem hk,List.filter_append,List.map_append]
  simp [h]
theorem hitsL_len (m:Int) (xs:List Int) (F:List (List Cnd)) (L:List Ent):(hitsL m xs F L).length≤L.length:=by
  unfold hitsL
  simpa using List.length_filter_le _ _
theorem hitsL_lt {m:Int} {xs:List Int} {F:List (List Cnd)} {L:List Ent} (hr:Rising L) {k:Nat} (hk:k < L.length):∀ x ∈ hitsL m xs F (L.take k),x.1 < L[k].id:=by
  intro x hx
  unfold hitsL at hx
  obtain ⟨e,he,rfl⟩:=List.mem_map.1 hx
  have he2:=(List.mem_filter.1 he).1
  obtain ⟨i,hi,rfl⟩:=List.mem_iff_getElem.1 he2
  simp only [List.getElem_take]
  have hi2:i < k:=by simp at hi; omega
  exact (List.pairwise_iff_getElem.1 hr) i k (by omega) hk hi2

theorem sink_sorted {A B:List Hit} {x:Hit} (hs:(A ++ B).Pairwise hle) (hb:∀ b ∈ B,x.2 < b.2) (hid:∀ a ∈ A,a.1 < x.1) (ha:A = [] ∨ ∃ A' y,A = A' ++ [y]∧y.2≤x.2):(A ++ x :: B).Pairwise hle:=by
  rw [List.pairwise_append] at hs ⊢
  obtain ⟨h1,h2,h3⟩:=hs
  refine ⟨h1,List.pairwise_cons.2 ⟨fun b hb'=>.inl (hb b hb'),h2⟩,fun a ha' y hy=>?_⟩
  rcases List.mem_cons.1 hy with rfl | hy
  · have hle2:a.2≤y.2:=by
      rcases ha with rfl | ⟨A',z,rfl,hz⟩
      · simp at ha'
      · rcases List.mem_append.1 ha' with h | h
        · have:=(List.pairwise_append.1 h1).2.2 a h z (by simp)
          unfold hle at this
          omega
        · rw [List.mem_singleton.1 h]; exact hz
    have:=hid a ha'
    unfold hle
    omega
  · exact h3 a ha' y hy
theorem nth_mid (A B:List Hit) (x:Hit):nth (A ++ x :: B) A.length = x:=by simp [nth,List.getD_eq_getElem?_getD]
theorem nth_last (A B:List Hit) (x y:Hit):nth ((A ++ [y]) ++ x :: B) ((A ++ [y]).length - 1) = y:=by simp [nth,List.getD_eq_getElem?_getD]
theorem sink_set (A B:List Hit) (x y:Hit):(((A ++ [y]) ++ x :: B).set (A ++ [y]).length y).set ((A ++ [y]).length - 1) x = A ++ x :: y :: B:=by
  simp

structure NrS (w wr:World) (fv v:Value) (l:List Hit):Prop where
  row:HRow wr v l
  new:∀ g,v.ownBlock = some g→w.heap.size < g
  below:Below w.heap.size w wr
  box:wr.heap[w.heap.size]? = some (.cells #[fv] 47 (0,0))
theorem NrS.on {w wr wq:World} {fv v:Value} {l:List Hit} (h:NrS w wr fv v l) (hb:Below wr.heap.size wr wq):NrS w wq fv v l :=
  ⟨ownsRow_below h.row hb,h.new,h.below.trans (hb.mono h.below.size),(hb.block _ (heap_lt h.box)).trans h.box⟩
theorem NrS.grown {w wr wq:World} {fv v:Value} {l:List Hit} {g cap:Nat} {x:Hit} (h:NrS w wr fv v l) (ho:wq.ownsRow 0 63 2 (.slice (some ⟨g,0,none⟩) (l.length + 1) cap) (l.length + 1) (hcells l ++ [.int .i64 x.1,.int .i64 x.2])) (hg:wr.grownBy wq v.ownBlock) (hat:v.ownBlock = some g ∨ wr.heap.size≤g):NrS w wq fv (.slice (some ⟨g,0,none⟩) (l.length + 1) cap) (l ++ [x]):=by
  have hlt:=heap_lt h.box
  refine ⟨?_,fun g' e=>?_,?_,?_⟩
  · unfold HRow
    rw [hcells_append,List.length_append]
    exact ho
  · obtain rfl:g = g':=by simpa [Value.ownBlock] using e
    exact hat.elim (h.new g) (fun e=>by omega)
  · exact h.below.grown hg h.below.size (fun k e=>Nat.le_of_lt (h.new k e))
  · exact (hg.block _ hlt (fun e=>by have:=h.new _ e.symm; omega)).trans h.box
theorem NrS.put {w wr:World} {fv:Value} {g n cap:Nat} {l:List Hit} (h:NrS w wr fv (.slice (some ⟨g,0,none⟩) n cap) l) (hn:n = l.length) (k:Nat) (x:Hit):NrS w ((wr.setCell ⟨g,k * 2,none⟩ (.int .i64 x.1)).setCell ⟨g,k * 2 + 1,none⟩ (.int .i64 x.2)) fv (.slice (some ⟨g,0,none⟩) n cap) (l.set k x):=by
  have hg:=h.new g rfl
  refine ⟨?_,h.new,(h.below.setCell (by exact Nat.le_of_lt hg) _).setCell (by exact Nat.le_of_lt hg) _,?_⟩
  · unfold HRow
    rw [List.length_set]
    subst hn
    exact HRow.set h.row k x
  · rw [Below.heap_setCell _ _ _ _ (by show _ ≠ g; omega),Below.heap_setCell _ _ _ _ (by show _ ≠ g; omega)]
    exact h.box

set_option maxHeartbeats 4000000 in
set_option maxRecDepth 20000 in
theorem nearestR (br:Nat) (cf:Cf) (la:Option Addr) (lc:Nat) (L:List Ent) (pv:Value) (xs:List Int) (fv:Value) (F:List (List Cnd)) (w:World) (h:RefAt w br cf la lc L) (hp:IntsAt w pv xs) (hf:FiltAt w fv F) (hok:F.all clauseB = true) (hm:cf.metric = 0 ∨ cf.metric = 1 ∨ cf.metric = 2) (hx:∀ x ∈ xs,Crd x) (hlen:∀ e ∈ L,e.pt.length = xs.length) (hcrd:∀ e ∈ L,∀ x ∈ e.pt,Crd x) (h8:xs.length≤100) :
    Calls Tryz.prog 78 #[.pointer (some ⟨br,0,none⟩),pv,.agg #[fv]] w fun ev w'=>∃ v l,ev = .returned v∧NrS w w' fv v l∧l.Pairwise hle∧l.Perm (hitsL cf.metric xs F L):=by
  have h':=h
  have hbr:=h.lt
  obtain ⟨pa,pcap,rfl,_⟩:=id hp
  obtain ⟨fa,fcap,rfl,_⟩:=id hf
  have hS0:NrS w (w.alloc (.cells #[.slice fa F.length fcap] 47)) (.slice fa F.length fcap) (.slice none 0 0) []:=⟨⟨rfl,.inl ⟨rfl,rfl⟩⟩,fun g e=>(by cases e),(Below.refl _ _).alloc (Nat.le_refl _) _,heap_alloc_new _ _⟩
  obtain ⟨i0,hi63,hz0,hz1,hz2⟩:=info_parts info63
  have H:=hide h
  have HP:=hide hp
  have HF:=hide hf
  have HOK:=hide hok
  have HX:=hide hx
  have HLN:=hide hlen
  have HCR:=hide hcrd
  have HS0:=hide hS0
  have hsm:=h.small
  clear h hp hf hok hx hlen hcrd hS0 h'
  go_enter Tryz.func78,Tryz.ntmps78
  go_wp2
  generalize hwe:w.alloc (.cells #[.slice fa F.length fcap] 47) = w1 at HS0 ⊢
  clear hwe
  go_loopw [7,8,9,10,11,12] (fun v i _ _ _ _ wr=>∃ (k:Nat) (u:Value) (l:List Hit),u = v∧i = .int .i64 k∧k≤L.length∧Hid (NrS w wr (.slice fa F.length fcap) u l)∧Hid (l.Pairwise hle)∧Hid (l.Perm (hitsL cf.metric xs F (L.take k)))) (fun _ i _ _ _ _ _=>L.length - (intOf i).toNat)
  case atStart=>exact ⟨0,_,[],rfl,rfl,Nat.zero_le _,HS0,List.Pairwise.nil,by simp [Hid,hitsL]⟩
  case round =>
    obtain ⟨k,v,l,hv,rfl,hk,HN,HPW,HPM⟩:=hrel
    subst hv
    have hR:=H.out.below HN.out.below
    have r6:=hR.r6
    by_cases hlt:k < L.length
    · obtain ⟨g,rfl⟩:=hR.addr (by omega)
      have e0:=ref_cell hR.row hlt (j:=0) (by omega) rfl
      have e1:=ref_cell hR.row hlt (j:=1) (by omega) rfl
      have e2:=ref_cell hR.row hlt (j:=2) (by omega) rfl
      have e3:=ref_cell hR.row hlt (j:=3) (by omega) rfl
      have hmem:L[k] ∈ L:=List.getElem_mem hlt
      have hids:=hitsL_lt (m:=cf.metric) (xs:=xs) (F:=F) H.out.rising hlt
      have hno:=hitsL_no (m:=cf.metric) (xs:=xs) (F:=F) hlt
      have hyes:=hitsL_yes (m:=cf.metric) (xs:=xs) (F:=F) hlt
      have hpt:=hR.pts _ hmem
      have hln:=HLN.out _ hmem
      have hcr:=HCR.out _ hmem
      have hll:l.length≤60:=by
        have h1:=HPM.out.length_eq
        have h2:=hitsL_len cf.metric xs F (L.take k)
        simp at h2
        omega
      generalize L[k] = e at *
      have HPS:Hid (∀ W,Below wr.heap.size wr W→Calls Tryz.prog 125 #[.agg #[.slice fa F.length fcap],.agg #[.int .i64 e.t0,.int .i64 e.t1]] W fun e' w'=>e' = .returned (.bool (passB F e.t0 e.t1))∧Below W.heap.size W w'):=fun W hW=>passesR _ F e.t0 e.t1 W ((HF.out.below HN.out.below).below hW) HOK.out
      have HDS:Hid (∀ W,Below wr.heap.size wr W→Calls Tryz.prog 126 #[.pointer (some ⟨br,0,none⟩),.slice pa xs.length pcap,.slice (some ⟨e.rb,0,none⟩) e.pt.length e.rc] W fun e' w'=>e' = .returned (.int .i64 (distL cf.metric xs e.pt))∧Below W.heap.size W w'):=fun W hW =>
        distR br cf.metric _ xs e.pt e.rb e.rc W hm (cell_below hR.r3 hW) (IntsAt.belowD (IntsAt.belowD HP.out HN.out.below) hW) (ownsRow_below hpt hW) hln.symm HX.out hcr h8
      have b0:=cells_at HN.out.box 0 rfl
      have HSB:Hid (∀ W,Below wr.heap.size wr W→W.cell? ⟨br,6,none⟩ = some (.slice (some ⟨g,0,none⟩) L.length lc)∧W.cell? ⟨w.heap.size,0,none⟩ = some (.slice fa F.length fcap)∧W.cell? ⟨g,k * 5 + 2,none⟩ = some (.int .i64 e.t0)∧W.cell? ⟨g,k * 5 + 3,none⟩ = some (.int .i64 e.t1)):=fun W hW=>⟨cell_below r6 hW,cell_below b0 hW,cell_below e2 hW,cell_below e3 hW⟩
      have HE:Hid (∀ W,Below wr.heap.size wr W→W.cell? ⟨br,6,none⟩ = some (.slice (some ⟨g,0,none⟩) L.length lc)∧W.cell? ⟨g,k * 5,none⟩ = some (.int .i64 e.id)∧W.cell? ⟨g,k * 5 + 1,none⟩ = some (.slice (some ⟨e.rb,0,none⟩) e.pt.length e.rc)):=fun W hW=>⟨cell_below r6 hW,cell_below e0 hW,cell_below e1 hW⟩
      have HIDS:=hide hids
      have HNO:=hide hno
      have HYES:=hide hyes
      clear hids hno hyes hpt hln hcr e0 e1 e2 e3 b0 hR
      generalize passB F e.t0 e.t1 = pb at HPS HNO HYES
      generalize distL cf.metric xs e.pt = dv at HDS HYES
      as_aux_lemma =>
      go_wp2
      clear r6
      go_region_held3 (fun wx=>wx.cell? ⟨br,6,none⟩ = some (.slice (some ⟨g,0,none⟩) L.length lc)∧wx.cell? ⟨w.heap.size,0,none⟩ = some (.slice fa F.length fcap)∧wx.cell? ⟨g,k * 5 + 2,none⟩ = some (.int .i64 e.t0)∧wx.cell? ⟨g,k * 5 + 3,none⟩ = some (.int .i64 e.t1))
        ((refine HSB.out _ ?_; repeat (first | with_reducible exact hb3 | exact Below.refl _ _ | refine Below.drew ?_)))
        (first | (go_at_call 125; refine (HPS.out _ (Below.refl _ _).drew).mono ?_; rintro e3 w3 ⟨rfl,b3⟩; have hb3:Below wr.heap.size wr w3:=Below.undrew b3))
      have HB3:=hide hb3
      clear hb3 b3
      cases pb with
      | false =>
        go_wp2
        refine ⟨⟨k + 1,v,l,rfl,by go_num,by omega,HN.out.on HB3.out,HPW,by rw [HNO.out rfl]; exact HPM⟩,by simp [intOf]; omega⟩
      | true =>
        obtain ⟨q6,q0,q1⟩:=HE.out _ HB3.out
        go_wp2_with fail
        refine (HDS.out _ HB3.out).mono ?_
        rintro ev4 w4 ⟨rfl,hb4⟩
        have hb4w:Below wr.heap.size wr w4:=HB3.out.trans (hb4.mono HB3.out.size)
        obtain ⟨p6,p0,p1⟩:=HE.out _ hb4w
        have HN4:=hide (HN.out.on hb4w)
        clear q6 q0 q1 hb4 hb4w
        have hfit:=row_fit l.length (by omega)
        go_wp2_with (at_builtin; refine wpList_append_lies _ rfl _ _ 58 rfl 0 63 i0 (.agg #[.int .i64 0,.int .i64 0]) 2 16 Tryz.underlying58 hi63 hz0 hz1 hz2 rfl (by decide) _ l.length (hcells l) rfl (HN4.out.row.alloc _) ⟨w4.heap.size,0,none⟩ 1 1 [.int .i64 e.id,.int .i64 dv] rfl rfl (World.news_of_block (cs:=#[.int .i64 e.id,.int .i64 dv]) (t:=63) (fr:=(0,0)) (heap_alloc_new _ _)) (by simp [Value.oneCell']) (by decide) hfit.1 hfit.2 (Nat.zero_le _) (w4.heap.size + 1) (by simp) ?_; intro g1 cap1 w5 ho1 hg1 hl1 hlt1; have HN5:=hide ((HN4.out.on ((Below.refl _ _).alloc (Nat.le_refl _) _)).grown (x:=(e.id,dv)) ho1 hg1 (hl1.imp (fun e=>e) (fun e=>by simp; omega))); clear ho1 hg1 hl1)
        have HQ:Hid ((l ++ [(e.id,dv)]).Perm (hitsL cf.metric xs F (L.take (k + 1)))):=by
          show List.Perm _ _
          rw [HYES.out (by first | exact rfl | exact trivial)]
          exact HPM.out.append_right _
        have HID:Hid (∀ a ∈ l,a.1 < e.id):=fun a ha=>HIDS.out a (HPM.out.mem_iff.1 ha)
        clear HPM HIDS HYES HNO HE HSB HPS HDS HN4 HN HB3 p6 p0 p1 hfit
        go_loopw [11,12] (fun i _ wq=>∃ (A B:List Hit),i = .int .i64 A.length∧Hid (NrS w wq (.slice fa F.length fcap) (.slice (some ⟨g1,0,none⟩) (l.length + 1) cap1) (A ++ (e.id,dv) :: B))∧Hid (A ++ B = l)∧Hid (∀ b ∈ B,dv < b.2)) (fun i _ _=>(intOf i).toNat)
        case atStart=>exact ⟨l,[],by go_num,HN5,by simp [Hid],fun b hb=>absurd hb List.not_mem_nil⟩
        case round =>
          rename World=>wq
          obtain ⟨A,B,rfl,HM,HAB,HBB⟩:=hrel
          have hlen:(A ++ (e.id,dv) :: B).length = l.length + 1:=by rw [← HAB.out]; simp; omega
          have hdone:∀ W,NrS w W (.slice fa F.length fcap) (.slice (some ⟨g1,0,none⟩) (l.length + 1) cap1) (A ++ (e.id,dv) :: B)→(A = [] ∨ ∃ A' y,A = A' ++ [y]∧y.2≤dv)→∃ (l_1:List Hit),Hid (NrS w W (.slice fa F.length fcap) (.slice (some ⟨g1,0,none⟩) (l.length + 1) cap1) l_1)∧Hid (l_1.Pairwise hle)∧Hid (l_1.Perm (hitsL cf.metric xs F (L.take (k + 1)))):=fun W hW hA=>by
            refine ⟨_,hW,?_,?_⟩
            · exact sink_sorted (by rw [HAB.out]; exact HPW.out) HBB.out (fun a ha=>HID.out a (by rw [← HAB.out]; simp [ha])) hA
            · refine List.Perm.trans ?_ HQ.out
              rw [← HAB.out,List.append_assoc]
              exact List.Perm.append_left _ (List.perm_append_singleton _ _).symm
          have HDN:=hide hdone
          clear hdone
          rcases List.eq_nil_or_concat A with rfl | ⟨A',y,rfl⟩
          · have hd0:decide ((0:Int) < (([]:List Hit).length:Int)) = false:=rfl
            go_wp2
            go_quiet (fail)
            go_wp2
            obtain ⟨l1,n1,n2,n3⟩:=HDN.out _ (HM.out.on (below_drewN (Below.refl _ _) _)) (.inl (by first | exact rfl | exact trivial))
            exact ⟨⟨k + 1,_,l1,rfl,by go_num,by omega,n1,n2,n3⟩,by simp [intOf]; omega⟩
          · have hl1:(A' ++ [y]).length = A'.length + 1:=by simp
            rw [List.concat_eq_append] at *
            have hrow:wq.ownsRow 0 63 2 (.slice (some ⟨g1,0,none⟩) (l.length + 1) cap1) (l.length + 1) (hcells (A' ++ [y] ++ (e.id,dv) :: B)):=by
              have:=HM.out.row
              unfold HRow at this
              rwa [hlen] at this
            have x1:=HRow.at1 hrow (k:=A'.length + 1) (by simp)
            have x0:=HRow.at0 hrow (k:=A'.length + 1) (by simp)
            have y1:=HRow.at1 hrow (k:=A'.length) (by simp)
            have y0:=HRow.at0 hrow (k:=A'.length) (by simp)
            have nx:nth (A' ++ [y] ++ (e.id,dv) :: B) (A'.length + 1) = (e.id,dv):=by have:=nth_mid (A' ++ [y]) B (e.id,dv); rwa [hl1] at this
            have ny:nth (A' ++ [y] ++ (e.id,dv) :: B) A'.length = y:=by have:=nth_last A' B (e.id,dv) y; rwa [hl1] at this
            rw [nx] at x1 x0
            rw [ny] at y1 y0
            simp only at x1 x0
            have hfz:=ownsRow_frozen hrow
            have hgl:=(hrow.lt g1 rfl).2
            have hd0:decide ((0:Int) < ((A' ++ [y]).length:Int)) = true:=decide_eq_true (by simp)
            have hAl:A'.length < l.length:=by rw [← HAB.out]; simp
            have HL1:=hide hl1
            have HLN:=hide hlen
            clear hlen hrow nx ny
            rw [hl1] at hd0 ⊢
            clear hl1
            obtain ⟨yi,yd⟩:=y
            simp only at y1 y0
            by_cases hlt:dv < yd
            · have hlt2:decide (dv < yd) = true:=decide_eq_true hlt
              go_wp2
              go_quiet (fail)
              have HM2:=hide (HM.out.on (below_drewN (Below.refl _ _) nq))
              have u0:(wq.drewN nq).cell? ⟨g1,(A'.length + 1) * 2,none⟩ = some (.int .i64 e.id):=x0
              have u1:(wq.drewN nq).cell? ⟨g1,(A'.length + 1) * 2 + 1,none⟩ = some (.int .i64 dv):=x1
              have z0:(wq.drewN nq).cell? ⟨g1,A'.length * 2,none⟩ = some (.int .i64 yi):=y0
              have z1:(wq.drewN nq).cell? ⟨g1,A'.length * 2 + 1,none⟩ = some (.int .i64 yd):=y1
              have hfz2:∀ j,(wq.drewN nq).frozen? ⟨g1,j,none⟩ = false:=hfz
              have hgl2:g1 < (wq.drewN nq).heap.size:=by simpa using hgl
              generalize wq.drewN nq = wz at HM2 u0 u1 z0 z1 hfz2 hgl2 ⊢
              clear x0 x1 y0 y1 hfz hgl HM HDN
              go_wp2
              have hq:=(HM2.out.put HLN.out.symm (A'.length + 1) (yi,yd)).put (by rw [List.length_set]; exact HLN.out.symm) A'.length (e.id,dv)
              have hss:=sink_set A' B (e.id,dv) (yi,yd)
              rw [HL1.out,Nat.add_sub_cancel] at hss
              rw [hss] at hq
              refine ⟨⟨A',(yi,yd) :: B,rfl,hq.on ((Below.refl _ _).alloc (Nat.le_refl _) _),by rw [← HAB.out]; simp [Hid],fun b hb=>?_⟩,by simp [intOf]⟩
              rcases List.mem_cons.1 hb with rfl | hb
              · exact hlt
              · exact HBB.out b hb
            · have hlt2:decide (dv < yd) = false:=decide_eq_false hlt
              go_wp2
              go_quiet (fail)
              go_wp2
              obtain ⟨l1,n1,n2,n3⟩:=HDN.out _ (HM.out.on (below_drewN (Below.refl _ _) _)) (.inr ⟨A',(yi,yd),by first | exact rfl | trivial,by show yd≤dv; omega⟩)
              exact ⟨⟨k + 1,_,l1,rfl,by go_num,by omega,n1,n2,n3⟩,by simp [intOf]; omega⟩
    · obtain rfl:k = L.length:=by omega
      go_wp2
      go_ret
      exact ⟨_,l,rfl,HN.out,HPW.out,by have:=HPM.out; rwa [List.take_length] at this⟩
end
section
open Go.RowKit Go.Maps

def placesL (cf:Cf):List Ent→Int
  | []=>0
  | e :: L=>lvlOf cf e.draw + 1 + placesL cf L
theorem placesL_append (cf:Cf):∀ (L M:List Ent),placesL cf (L ++ M) = placesL cf L + placesL cf M
  | [],M=>by simp [placesL]
  | e :: L,M=>by rw [List.cons_append,placesL,placesL_append cf L M,placesL]; omega
theorem placesL_ge (cf:Cf):∀ (L:List Ent),(L.length:Int)≤placesL cf L
  | []=>by simp [placesL]
  | e :: L=>by
    have:=placesL_ge cf L
    have h:0≤lvlOf cf e.draw:=by unfold lvlOf; omega
    simp only [placesL,List.length_cons]
    omega
theorem placesL_le {cf:Cf} (h:CfOk cf):∀ (L:List Ent),placesL cf L≤6 * (L.length:Int)
  | []=>by simp [placesL]
  | e :: L=>by
    have:=placesL_le h L
    have:=lvlOf_le h e.draw
    simp only [placesL,List.length_cons]
    omega

theorem levelR' (br:Nat) (cf:Cf) (d:Int) (w:World) (r2:w.cell? ⟨br,2,none⟩ = some (.int .i64 cf.links)) (r5:w.cell? ⟨br,5,none⟩ = some (.int .i64 cf.top)) (hd:0≤d∧d < 18446744073709551616) (hc:CfOk cf) :
    Calls Tryz.prog 81 #[.pointer (some ⟨br,0,none⟩),.int .u64 d] w fun e w'=>e = .returned (.int .i64 (lvlOf cf d))∧w = w':=by
  have h1:=hc.l2
  have h2:=hc.l8
  have h3:=hc.t0
  have h4:=hc.t5
  have e1:((cf.links.toNat:Nat):Int) = cf.links:=by omega
  have e2:((cf.top.toNat:Nat):Int) = cf.top:=by omega
  have e3:((d.toNat:Nat):Int) = d:=by omega
  have:=levelR br d.toNat cf.links.toNat cf.top.toNat w (by rw [e1]; exact r2) (by rw [e2]; exact r5) (by omega) (by omega) (by omega) (by omega)
  rw [e3] at this
  exact this

set_option maxHeartbeats 2000000 in
set_option maxRecDepth 20000 in
theorem placesR (bp br:Nat) (cf:Cf) (la:Option Addr) (lc:Nat) (L:List Ent) (w:World) (p1:w.cell? ⟨bp,1,none⟩ = some (.pointer (some ⟨br,0,none⟩))) (h:RefAt w br cf la lc L) (hc:CfOk cf) (hd:∀ e ∈ L,0≤e.draw∧e.draw < 18446744073709551616) :
    Calls Tryz.prog 80 #[.pointer (some ⟨bp,0,none⟩)] w fun ev w'=>ev = .returned (.int .i64 (placesL cf L))∧Below w.heap.size w w':=by
  have r6:=h.r6
  have hsm:=h.small
  have H:=hide h
  have HC:=hide hc
  have HD:=hide hd
  clear h hc hd
  go_enter Tryz.func80,Tryz.ntmps80
  go_wp2
  go_loopw [3,4,5] (fun n i _ wr=>∃ k:Nat,i = .int .i64 k∧n = .int .i64 (placesL cf (L.take k))∧k≤L.length∧Hid (∃ n,wr = w.drewN n)) (fun _ i _ _=>L.length - (intOf i).toNat)
  case atStart=>exact ⟨0,rfl,rfl,Nat.zero_le _,0,rfl⟩
  case round =>
    obtain ⟨k,rfl,rfl,hk,hw⟩:=hrel
    obtain ⟨n0,hw0⟩:=id hw.out
    have q1:wr.cell? ⟨bp,1,none⟩ = some (.pointer (some ⟨br,0,none⟩)):=by rw [hw0]; exact p1
    have q6:wr.cell? ⟨br,6,none⟩ = some (.slice la L.length lc):=by rw [hw0]; exact r6
    by_cases hlt:k < L.length
    · obtain ⟨g,rfl⟩:=H.out.addr (by omega)
      have e4:=ref_cell H.out.row hlt (j:=4) (by omega) rfl
      have q4:wr.cell? ⟨g,k * 5 + 4,none⟩ = some (.int .u64 L[k].draw):=by rw [hw0]; exact e4
      have hlv:=levelR' br cf L[k].draw wr.drew (by rw [hw0]; exact H.out.r2) (by rw [hw0]; exact H.out.r5) (HD.out _ (List.getElem_mem hlt)) HC.out
      have hst:placesL cf (L.take (k + 1)) = placesL cf (L.take k) + (lvlOf cf L[k].draw + 1):=by
        rw [List.take_succ_eq_append_getElem hlt,placesL_append]; simp [placesL]
      have hl:=lvlOf_le HC.out L[k].draw
      have h1:=placesL_le HC.out (L.take k)
      have h2:=placesL_ge cf (L.take k)
      have h3:(L.take k).length = k:=by simp; omega
      rw [h3] at h1 h2
      generalize lvlOf cf L[k].draw = lv at hlv hst hl
      generalize L[k].draw = dr at q4 hlv
      generalize placesL cf (L.take k) = s at h1 h2 hst ⊢
      have HLV:=hide hlv
      have HST:=hide hst
      have w1:IntKind.i64.wrap (s + lv) = s + lv:=by rw [IntKind.wrap_i64]; omega
      have w2:IntKind.i64.wrap (s + lv + 1) = s + lv + 1:=by rw [IntKind.wrap_i64]; omega
      have hW:Hid (∀ j,∃ n,wr.drewN j = w.drewN n):=fun j=>⟨n0 + j,by rw [hw0]; simp⟩
      clear hlv hst hl h1 h2 h3 hw0 hw e4
      go_wp2
      go_region_held3 (fun wx=>wx.cell? ⟨bp,1,none⟩ = some (.pointer (some ⟨br,0,none⟩))∧wx.cell? ⟨br,6,none⟩ = some (.slice (some ⟨g,0,none⟩) L.length lc)∧wx.cell? ⟨g,k * 5 + 4,none⟩ = some (.int .u64 dr))
        (exact ⟨q1,q6,q4⟩)
        (first | (go_at_call 81; refine HLV.out.mono ?_; rintro e3 w3 ⟨rfl,rfl⟩))
      go_wp2
      refine ⟨⟨k + 1,by go_num,by rw [HST.out]; simp; omega,by omega,hW.out 1⟩,by simp [intOf]; omega⟩
    · obtain rfl:k = L.length:=by omega
      have HW:Hid (Below w.heap.size w wr):=by rw [hw0]; exact below_drewN (Below.refl _ _) _
      have ht:L.take L.length = L:=List.take_length
      rw [ht]
      clear hw0 ht
      go_wp2
      go_ret
      exact ⟨rfl,HW.out⟩
end
section
open Go.RowKit

theorem hle_anti {a b:Hit} (h1:hle a b) (h2:hle b a):a = b:=by
  unfold hle at h1 h2
  obtain ⟨a1,a2⟩:=a
  obtain ⟨b1,b2⟩:=b
  simp only at h1 h2
  simp only [Prod.mk.injEq]
  omega

theorem sub_sorted:∀ {all S:List Hit},all.Pairwise hle→S.Pairwise hle→S.Nodup→(∀ x ∈ S,x ∈ all)→S.Sublist all
  | [],S,_,_,_,h=>by
    cases S with
    | nil=>exact List.Sublist.refl _
    | cons x r=>exact absurd (h x (by simp)) List.not_mem_nil
  | a :: t,[],_,_,_,_=>List.nil_sublist _
  | a :: t,x :: r,ha,hs,hn,h=>by
    obtain ⟨ha1,ha2⟩:=List.pairwise_cons.1 ha
    obtain ⟨hs1,hs2⟩:=List.pairwise_cons.1 hs
    obtain ⟨hn1,hn2⟩:=List.nodup_cons.1 hn
    by_cases e:x = a
    · subst e
      refine List.Sublist.cons_cons x (sub_sorted ha2 hs2 hn2 fun y hy=>?_)
      rcases List.mem_cons.1 (h y (by simp [hy])) with rfl | hy2
      · exact absurd hy hn1
      · exact hy2
    · refine List.Sublist.cons a (sub_sorted ha2 hs hn fun y hy=>?_)
      rcases List.mem_cons.1 (h y hy) with rfl | hy2
      · have hxt:x ∈ t:=(List.mem_cons.1 (h x (by simp))).resolve_left e
        have h1:=ha1 x hxt
        rcases List.mem_cons.1 hy with rfl | hyr
        · exact absurd rfl e
        · exact absurd (hle_anti (hs1 y hyr) h1) e
      · exact hy2

structure RightL (l all:List Hit) (k beam:Int):Prop where
  len:(l.length:Int) = min k (all.length:Int)
  sub:l.Sublist all
  exact:(all.length:Int)≤k ∨ (all.length:Int)≤beam→l = all.take l.length

theorem nth_drop_cons {l:List Hit} {i:Nat} (h:i < l.length):l.drop i = nth l i :: l.drop (i + 1):=by
  rw [List.drop_eq_getElem_cons h,nth,List.getD_eq_getElem?_getD,List.getElem?_eq_getElem h]; rfl
theorem sub_head {x y:Hit} {r t:List Hit} (h:(x :: r).Sublist (y :: t)) (e:y ≠ x):(x :: r).Sublist t:=by
  cases h with
  | cons _ h=>exact h
  | cons_cons _ _=>exact absurd rfl e
theorem sub_tail {x:Hit} {r t:List Hit} (h:(x :: r).Sublist (x :: t)):r.Sublist t:=by
  cases h with
  | cons _ h=>exact (List.sublist_cons_self x r).trans h
  | cons_cons _ h=>exact h

theorem HRow.slice {w:World} {v:Value} {l:List Hit} (h:HRow w v l):∃ a c,v = .slice a l.length c∧(0 < l.length→∃ g,a = some ⟨g,0,none⟩):=by
  rcases h.2 with ⟨rfl,h0⟩ | ⟨g,cap,cur,hv,_⟩
  · exact ⟨none,0,by rw [h0],fun h=>by omega⟩
  · exact ⟨_,cap,hv,fun _=>⟨g,rfl⟩⟩
structure RtS (l all:List Hit) (ex:Bool) (i a:Nat):Prop where
  il:i≤l.length
  sub:(l.drop i).Sublist (all.drop a)
  ex:ex = true→a = i
theorem RtS.lt {l all:List Hit} {ex:Bool} {i a:Nat} (h:RtS l all ex i a) (hi:i < l.length):a < all.length:=by
  have:=h.sub.length_le
  simp at this
  omega
theorem RtS.hit {l all:List Hit} {ex:Bool} {i a:Nat} (h:RtS l all ex i a) (hi:i < l.length) (e:nth all a = nth l i):RtS l all ex (i + 1) (a + 1):=by
  refine ⟨hi,?_,fun h1=>by rw [h.ex h1]⟩
  have h1:=h.sub
  rw [nth_drop_cons hi,nth_drop_cons (h.lt hi),e] at h1
  exact sub_tail h1
theorem RtS.miss {l all:List Hit} {ex:Bool} {i a:Nat} (h:RtS l all ex i a) (hi:i < l.length) (e:nth all a ≠ nth l i) (hx:ex = true→l = all.take l.length):RtS l all ex i (a + 1):=by
  refine ⟨h.il,?_,fun h1=>?_⟩
  · have h1:=h.sub
    rw [nth_drop_cons hi,nth_drop_cons (h.lt hi)] at h1
    rw [nth_drop_cons hi]
    exact sub_head h1 e
  · have h2:=h.ex h1
    subst h2
    have h3:=congrArg (fun q=>nth q a) (hx h1)
    rw [nth_take hi] at h3
    exact absurd h3.symm e

def RtX (l all:List Hit) (ex:Bool):Prop:=ex = true→l = all.take l.length

set_option maxHeartbeats 4000000 in
set_option maxRecDepth 20000 in
theorem rightR (v1 v2:Value) (l all:List Hit) (k beam:Int) (w:World) (h1:HRow w v1 l) (h2:HRow w v2 all) (hr:RightL l all k beam) (hk:1≤k∧k≤1000) (_hb:1≤beam∧beam≤1000) (ha:all.length≤1000) :
    Calls Tryz.prog 79 #[v1,v2,.int .i64 k,.int .i64 beam] w fun ev w'=>ev = .returned (.bool true)∧Below w.heap.size w w':=by
  obtain ⟨a1,c1,rfl,ha1⟩:=HRow.slice h1
  obtain ⟨a2,c2,rfl,ha2⟩:=HRow.slice h2
  have hlen:=hr.len
  have H1:=hide h1
  have H2:=hide h2
  have HA1:=hide ha1
  have HA2:=hide ha2
  have HR:=hide hr
  have hcase:(decide ((all.length:Int) < k) = true∧decide ((all.length:Int)≤k) = true∧(all.length:Int) = (l.length:Int)∧True) ∨ (decide ((all.length:Int) < k) = false∧decide ((all.length:Int)≤k) = true∧k = (l.length:Int)∧True) ∨ (decide ((all.length:Int) < k) = false∧decide ((all.length:Int)≤k) = false∧k = (l.length:Int)∧decide ((all.length:Int)≤beam) = true) ∨ (decide ((all.length:Int) < k) = false∧decide ((all.length:Int)≤k) = false∧k = (l.length:Int)∧decide ((all.length:Int)≤beam) = false):=by
    rcases Int.lt_trichotomy (all.length:Int) k with h | h | h
    · exact .inl ⟨decide_eq_true h,decide_eq_true (by omega),by omega,trivial⟩
    · exact .inr (.inl ⟨decide_eq_false (by omega),decide_eq_true (by omega),by omega,trivial⟩)
    · by_cases hbm:(all.length:Int)≤beam
      · exact .inr (.inr (.inl ⟨decide_eq_false (by omega),decide_eq_false (by omega),by omega,decide_eq_true hbm⟩))
      · exact .inr (.inr (.inr ⟨decide_eq_false (by omega),decide_eq_false (by omega),by omega,decide_eq_false hbm⟩))
  have hex:∀ b:Bool,b = true→(b = true→(all.length:Int)≤k ∨ (all.length:Int)≤beam)→(b = true→l = all.take l.length):=fun b _ h1 h2=>hr.exact (h1 h2)
  have HEX:=hide hex
  clear h1 h2 ha1 ha2 hr hlen hex
  rcases hcase with ⟨d1,d2,d3,d4⟩ | ⟨d1,d2,d3,d4⟩ | ⟨d1,d2,d3,d4⟩ | ⟨d1,d2,d3,d4⟩
  · have D2:=hide (of_decide_eq_true d2)
    have D3:=hide d3
    have hbn:((l.length:Int) != (all.length:Int)) = false:=by rw [d3]; simp
    clear d3 d4 HEX
    go_enter Tryz.func79,Tryz.ntmps79
    go_wp2
    go_loopw [11,12] (fun at' i wr=>∃ (x q:Nat),at' = .int .i64 q∧i = .int .i64 x∧Hid (RtS l all true x q)∧Hid (∃ n,wr = w.drewN n)) (fun _ i _=>all.length - (intOf i).toNat)
    case atStart=>exact ⟨0,0,rfl,rfl,⟨Nat.zero_le _,HR.out.sub,fun _=>rfl⟩,0,rfl⟩
    case round =>
      obtain ⟨x,q,rfl,rfl,HS,HW⟩:=hrel
      have HLA:Hid (all.length≤1000):=ha
      have HEQ:Hid (RtX l all true):=fun _=>HR.out.exact (.inl D2.out)
      clear HR d1 d2 ha
      by_cases hltN:x < all.length
      · have hlt:x < l.length:=by have:=D3.out; omega
        obtain ⟨g1,rfl⟩:=HA1.out (by omega)
        have hq0:=HS.out.lt hlt
        obtain ⟨g2,rfl⟩:=HA2.out (by omega)
        go_wp2
        go_loopw [11] (fun at' wq=>∃ q:Nat,at' = .int .i64 q∧Hid (RtS l all true x q)∧Hid (∃ n,wq = w.drewN n)) (fun at' _=>all.length - (intOf at').toNat)
        case atStart=>exact ⟨q,rfl,HS,HW⟩
        case round =>
          clear HS HW hq0
          rename World=>wq
          obtain ⟨q,rfl,HS,HW⟩:=hrel
          obtain ⟨n0,hw0⟩:=id HW.out
          have hq:=HS.out.lt hlt
          have hq1:=HLA.out
          have x0:wq.cell? ⟨g1,x * 2,none⟩ = some (.int .i64 (nth l x).1):=by rw [hw0]; exact HRow.at0 (ownsRow_drewN H1.out n0) hlt
          have x1:wq.cell? ⟨g1,x * 2 + 1,none⟩ = some (.int .i64 (nth l x).2):=by rw [hw0]; exact HRow.at1 (ownsRow_drewN H1.out n0) hlt
          have y0:wq.cell? ⟨g2,q * 2,none⟩ = some (.int .i64 (nth all q).1):=by rw [hw0]; exact HRow.at0 (ownsRow_drewN H2.out n0) hq
          have y1:wq.cell? ⟨g2,q * 2 + 1,none⟩ = some (.int .i64 (nth all q).2):=by rw [hw0]; exact HRow.at1 (ownsRow_drewN H2.out n0) hq
          have HWW:Hid (∀ j,∃ n,wq.drewN j = w.drewN n):=fun j=>⟨n0 + j,by rw [hw0]; simp⟩
          have HHIT:=hide (HS.out.hit hlt)
          have HMISS:=hide (fun e=>HS.out.miss hlt e HEQ.out)
          have hxq:=hide HS.out.ex
          clear hw0 HW HS
          generalize nth l x = xv at x0 x1 HHIT HMISS
          generalize nth all q = yv at y0 y1 HHIT HMISS
          obtain ⟨xi,xd⟩:=xv
          obtain ⟨yi,yd⟩:=yv
          simp only at x0 x1 y0 y1
          by_cases e1:yi = xi
          · subst e1
            by_cases e2:yd = xd
            · subst e2
              have HH:=hide (HHIT.out rfl)
              clear HHIT HMISS
              have hqx:x = q:=(hxq.out rfl).symm
              subst hqx
              go_wp2
              go_quiet (fail)
              go_wp2
              exact ⟨⟨x + 1,x + 1,by go_num,by go_num,HH,HWW.out _⟩,by simp [intOf]; omega⟩
            · have HM:=hide (HMISS.out (fun e=>e2 (congrArg Prod.snd e)))
              clear HHIT HMISS hxq
              go_wp2
              go_quiet (fail)
              go_wp2
              exact ⟨⟨q + 1,by go_num,HM,HWW.out _⟩,by simp [intOf]; omega⟩
          · have HM:=hide (HMISS.out (fun e=>e1 (congrArg Prod.fst e)))
            clear HHIT HMISS hxq
            go_wp2
            go_quiet (fail)
            go_wp2
            exact ⟨⟨q + 1,by go_num,HM,HWW.out _⟩,by simp [intOf]; omega⟩
      · obtain ⟨n0,hw0⟩:=id HW.out
        have HB:Hid (Below w.heap.size w wr):=by rw [hw0]; exact below_drewN (Below.refl _ _) _
        clear hw0
        go_wp2
        go_ret
        exact ⟨rfl,HB.out⟩
  · have D2:=hide (of_decide_eq_true d2)
    have D3:=hide d3
    have hbn:((l.length:Int) != k) = false:=by rw [d3]; simp
    clear d3
    clear d4 HEX
    go_enter Tryz.func79,Tryz.ntmps79
    go_wp2
    go_loopw [11,12] (fun at' i wr=>∃ (x q:Nat),at' = .int .i64 q∧i = .int .i64 x∧Hid (RtS l all true x q)∧Hid (∃ n,wr = w.drewN n)) (fun _ i _=>k.toNat - (intOf i).toNat)
    case atStart=>exact ⟨0,0,rfl,rfl,⟨Nat.zero_le _,HR.out.sub,fun _=>rfl⟩,0,rfl⟩
    case round =>
      obtain ⟨x,q,rfl,rfl,HS,HW⟩:=hrel
      have HLA:Hid (all.length≤1000):=ha
      have HEQ:Hid (RtX l all true):=fun _=>HR.out.exact (.inl D2.out)
      clear HR d1 d2 ha
      by_cases hltN:(x:Int) < k
      · have hlt:x < l.length:=by have:=D3.out; omega
        obtain ⟨g1,rfl⟩:=HA1.out (by omega)
        have hq0:=HS.out.lt hlt
        obtain ⟨g2,rfl⟩:=HA2.out (by omega)
        go_wp2
        go_loopw [11] (fun at' wq=>∃ q:Nat,at' = .int .i64 q∧Hid (RtS l all true x q)∧Hid (∃ n,wq = w.drewN n)) (fun at' _=>all.length - (intOf at').toNat)
        case atStart=>exact ⟨q,rfl,HS,HW⟩
        case round =>
          clear HS HW hq0
          rename World=>wq
          obtain ⟨q,rfl,HS,HW⟩:=hrel
          obtain ⟨n0,hw0⟩:=id HW.out
          have hq:=HS.out.lt hlt
          have hq1:=HLA.out
          have x0:wq.cell? ⟨g1,x * 2,none⟩ = some (.int .i64 (nth l x).1):=by rw [hw0]; exact HRow.at0 (ownsRow_drewN H1.out n0) hlt
          have x1:wq.cell? ⟨g1,x * 2 + 1,none⟩ = some (.int .i64 (nth l x).2):=by rw [hw0]; exact HRow.at1 (ownsRow_drewN H1.out n0) hlt
          have y0:wq.cell? ⟨g2,q * 2,none⟩ = some (.int .i64 (nth all q).1):=by rw [hw0]; exact HRow.at0 (ownsRow_drewN H2.out n0) hq
          have y1:wq.cell? ⟨g2,q * 2 + 1,none⟩ = some (.int .i64 (nth all q).2):=by rw [hw0]; exact HRow.at1 (ownsRow_drewN H2.out n0) hq
          have HWW:Hid (∀ j,∃ n,wq.drewN j = w.drewN n):=fun j=>⟨n0 + j,by rw [hw0]; simp⟩
          have HHIT:=hide (HS.out.hit hlt)
          have HMISS:=hide (fun e=>HS.out.miss hlt e HEQ.out)
          have hxq:=hide HS.out.ex
          clear hw0 HW HS
          generalize nth l x = xv at x0 x1 HHIT HMISS
          generalize nth all q = yv at y0 y1 HHIT HMISS
          obtain ⟨xi,xd⟩:=xv
          obtain ⟨yi,yd⟩:=yv
          simp only at x0 x1 y0 y1
          by_cases e1:yi = xi
          · subst e1
            by_cases e2:yd = xd
            · subst e2
              have HH:=hide (HHIT.out rfl)
              clear HHIT HMISS
              have hqx:x = q:=(hxq.out rfl).symm
              subst hqx
              go_wp2
              go_quiet (fail)
              go_wp2
              exact ⟨⟨x + 1,x + 1,by go_num,by go_num,HH,HWW.out _⟩,by simp [intOf]; omega⟩
            · have HM:=hide (HMISS.out (fun e=>e2 (congrArg Prod.snd e)))
              clear HHIT HMISS hxq
              go_wp2
              go_quiet (fail)
              go_wp2
              exact ⟨⟨q + 1,by go_num,HM,HWW.out _⟩,by simp [intOf]; omega⟩
          · have HM:=hide (HMISS.out (fun e=>e1 (congrArg Prod.fst e)))
            clear HHIT HMISS hxq
            go_wp2
            go_quiet (fail)
            go_wp2
            exact ⟨⟨q + 1,by go_num,HM,HWW.out _⟩,by simp [intOf]; omega⟩
      · obtain ⟨n0,hw0⟩:=id HW.out
        have HB:Hid (Below w.heap.size w wr):=by rw [hw0]; exact below_drewN (Below.refl _ _) _
        clear hw0
        go_wp2
        go_ret
        exact ⟨rfl,HB.out⟩
  · have D2:=hide (of_decide_eq_true d4)
    have D3:=hide d3
    have hbn:((l.length:Int) != k) = false:=by rw [d3]; simp
    clear d3
    clear HEX
    go_enter Tryz.func79,Tryz.ntmps79
    go_wp2
    go_loopw [11,12] (fun at' i wr=>∃ (x q:Nat),at' = .int .i64 q∧i = .int .i64 x∧Hid (RtS l all true x q)∧Hid (∃ n,wr = w.drewN n)) (fun _ i _=>k.toNat - (intOf i).toNat)
    case atStart=>exact ⟨0,0,rfl,rfl,⟨Nat.zero_le _,HR.out.sub,fun _=>rfl⟩,0,rfl⟩
    case round =>
      obtain ⟨x,q,rfl,rfl,HS,HW⟩:=hrel
      have HLA:Hid (all.length≤1000):=ha
      have HEQ:Hid (RtX l all true):=fun _=>HR.out.exact (.inr D2.out)
      clear HR d1 d2 ha
      by_cases hltN:(x:Int) < k
      · have hlt:x < l.length:=by have:=D3.out; omega
        obtain ⟨g1,rfl⟩:=HA1.out (by omega)
        have hq0:=HS.out.lt hlt
        obtain ⟨g2,rfl⟩:=HA2.out (by omega)
        go_wp2
        go_loopw [11] (fun at' wq=>∃ q:Nat,at' = .int .i64 q∧Hid (RtS l all true x q)∧Hid (∃ n,wq = w.drewN n)) (fun at' _=>all.length - (intOf at').toNat)
        case atStart=>exact ⟨q,rfl,HS,HW⟩
        case round =>
          clear HS HW hq0
          rename World=>wq
          obtain ⟨q,rfl,HS,HW⟩:=hrel
          obtain ⟨n0,hw0⟩:=id HW.out
          have hq:=HS.out.lt hlt
          have hq1:=HLA.out
          have x0:wq.cell? ⟨g1,x * 2,none⟩ = some (.int .i64 (nth l x).1):=by rw [hw0]; exact HRow.at0 (ownsRow_drewN H1.out n0) hlt
          have x1:wq.cell? ⟨g1,x * 2 + 1,none⟩ = some (.int .i64 (nth l x).2):=by rw [hw0]; exact HRow.at1 (ownsRow_drewN H1.out n0) hlt
          have y0:wq.cell? ⟨g2,q * 2,none⟩ = some (.int .i64 (nth all q).1):=by rw [hw0]; exact HRow.at0 (ownsRow_drewN H2.out n0) hq
          have y1:wq.cell? ⟨g2,q * 2 + 1,none⟩ = some (.int .i64 (nth all q).2):=by rw [hw0]; exact HRow.at1 (ownsRow_drewN H2.out n0) hq
          have HWW:Hid (∀ j,∃ n,wq.drewN j = w.drewN n):=fun j=>⟨n0 + j,by rw [hw0]; simp⟩
          have HHIT:=hide (HS.out.hit hlt)
          have HMISS:=hide (fun e=>HS.out.miss hlt e HEQ.out)
          have hxq:=hide HS.out.ex
          clear hw0 HW HS
          generalize nth l x = xv at x0 x1 HHIT HMISS
          generalize nth all q = yv at y0 y1 HHIT HMISS
          obtain ⟨xi,xd⟩:=xv
          obtain ⟨yi,yd⟩:=yv
          simp only at x0 x1 y0 y1
          by_cases e1:yi = xi
          · subst e1
            by_cases e2:yd = xd
            · subst e2
              have HH:=hide (HHIT.out rfl)
              clear HHIT HMISS
              have hqx:x = q:=(hxq.out rfl).symm
              subst hqx
              go_wp2
              go_quiet (fail)
              go_wp2
              exact ⟨⟨x + 1,x + 1,by go_num,by go_num,HH,HWW.out _⟩,by simp [intOf]; omega⟩
            · have HM:=hide (HMISS.out (fun e=>e2 (congrArg Prod.snd e)))
              clear HHIT HMISS hxq
              go_wp2
              go_quiet (fail)
              go_wp2
              exact ⟨⟨q + 1,by go_num,HM,HWW.out _⟩,by simp [intOf]; omega⟩
          · have HM:=hide (HMISS.out (fun e=>e1 (congrArg Prod.fst e)))
            clear HHIT HMISS hxq
            go_wp2
            go_quiet (fail)
            go_wp2
            exact ⟨⟨q + 1,by go_num,HM,HWW.out _⟩,by simp [intOf]; omega⟩
      · obtain ⟨n0,hw0⟩:=id HW.out
        have HB:Hid (Below w.heap.size w wr):=by rw [hw0]; exact below_drewN (Below.refl _ _) _
        clear hw0
        go_wp2
        go_ret
        exact ⟨rfl,HB.out⟩
  · have D3:=hide d3
    have hbn:((l.length:Int) != k) = false:=by rw [d3]; simp
    clear d3
    clear HEX
    go_enter Tryz.func79,Tryz.ntmps79
    go_wp2
    go_loopw [11,12] (fun at' i wr=>∃ (x q:Nat),at' = .int .i64 q∧i = .int .i64 x∧Hid (RtS l all false x q)∧Hid (∃ n,wr = w.drewN n)) (fun _ i _=>k.toNat - (intOf i).toNat)
    case atStart=>exact ⟨0,0,rfl,rfl,⟨Nat.zero_le _,HR.out.sub,fun _=>rfl⟩,0,rfl⟩
    case round =>
      obtain ⟨x,q,rfl,rfl,HS,HW⟩:=hrel
      have HLA:Hid (all.length≤1000):=ha
      have HEQ:Hid (RtX l all false):=fun h=>absurd h (by decide)
      clear HR d1 d2 ha
      by_cases hltN:(x:Int) < k
      · have hlt:x < l.length:=by have:=D3.out; omega
        obtain ⟨g1,rfl⟩:=HA1.out (by omega)
        have hq0:=HS.out.lt hlt
        obtain ⟨g2,rfl⟩:=HA2.out (by omega)
        go_wp2
        go_loopw [11] (fun at' wq=>∃ q:Nat,at' = .int .i64 q∧Hid (RtS l all false x q)∧Hid (∃ n,wq = w.drewN n)) (fun at' _=>all.length - (intOf at').toNat)
        case atStart=>exact ⟨q,rfl,HS,HW⟩
        case round =>
          clear HS HW hq0
          rename World=>wq
          obtain ⟨q,rfl,HS,HW⟩:=hrel
          obtain ⟨n0,hw0⟩:=id HW.out
          have hq:=HS.out.lt hlt
          have hq1:=HLA.out
          have x0:wq.cell? ⟨g1,x * 2,none⟩ = some (.int .i64 (nth l x).1):=by rw [hw0]; exact HRow.at0 (ownsRow_drewN H1.out n0) hlt
          have x1:wq.cell? ⟨g1,x * 2 + 1,none⟩ = some (.int .i64 (nth l x).2):=by rw [hw0]; exact HRow.at1 (ownsRow_drewN H1.out n0) hlt
          have y0:wq.cell? ⟨g2,q * 2,none⟩ = some (.int .i64 (nth all q).1):=by rw [hw0]; exact HRow.at0 (ownsRow_drewN H2.out n0) hq
          have y1:wq.cell? ⟨g2,q * 2 + 1,none⟩ = some (.int .i64 (nth all q).2):=by rw [hw0]; exact HRow.at1 (ownsRow_drewN H2.out n0) hq
          have HWW:Hid (∀ j,∃ n,wq.drewN j = w.drewN n):=fun j=>⟨n0 + j,by rw [hw0]; simp⟩
          have HHIT:=hide (HS.out.hit hlt)
          have HMISS:=hide (fun e=>HS.out.miss hlt e HEQ.out)
          have hxq:=hide HS.out.ex
          clear hw0 HW HS
          generalize nth l x = xv at x0 x1 HHIT HMISS
          generalize nth all q = yv at y0 y1 HHIT HMISS
          obtain ⟨xi,xd⟩:=xv
          obtain ⟨yi,yd⟩:=yv
          simp only at x0 x1 y0 y1
          by_cases e1:yi = xi
          · subst e1
            by_cases e2:yd = xd
            · subst e2
              have HH:=hide (HHIT.out rfl)
              clear HHIT HMISS
              clear hxq
              go_wp2
              go_quiet (fail)
              go_wp2
              exact ⟨⟨x + 1,q + 1,by go_num,by go_num,HH,HWW.out _⟩,by simp [intOf]; omega⟩
            · have HM:=hide (HMISS.out (fun e=>e2 (congrArg Prod.snd e)))
              clear HHIT HMISS hxq
              go_wp2
              go_quiet (fail)
              go_wp2
              exact ⟨⟨q + 1,by go_num,HM,HWW.out _⟩,by simp [intOf]; omega⟩
          · have HM:=hide (HMISS.out (fun e=>e1 (congrArg Prod.fst e)))
            clear HHIT HMISS hxq
            go_wp2
            go_quiet (fail)
            go_wp2
            exact ⟨⟨q + 1,by go_num,HM,HWW.out _⟩,by simp [intOf]; omega⟩
      · obtain ⟨n0,hw0⟩:=id HW.out
        have HB:Hid (Below w.heap.size w wr):=by rw [hw0]; exact below_drewN (Below.refl _ _) _
        clear hw0
        go_wp2
        go_ret
        exact ⟨rfl,HB.out⟩
end
section
open Go.RowKit Go.Maps

theorem right_of {w:World} {bb bs bm:Nat} {cf:Cf} {gn:Net} {L:List Ent} (h:BaseAt w bb bs bm cf gn L) (xs:List Int) (F:List (List Cnd)) (k beam:Int) (hk:1≤k) (all:List Hit) (hs:all.Pairwise hle) (hp:all.Perm (hitsL cf.metric xs F L)) :
    RightL ((srR cf gn L xs F (max k beam)).2.take (min k ((srR cf gn L xs F (max k beam)).2.length:Int)).toNat) all k beam ∧
      ((srR cf gn L xs F (max k beam)).2.take (min k ((srR cf gn L xs F (max k beam)).2.length:Int)).toNat).length≤(srR cf gn L xs F (max k beam)).1.length∧(srR cf gn L xs F (max k beam)).1.length≤L.length:=by
  obtain ⟨s1,s2,s3,s4,s5,s6,s7⟩:=srR_spec h xs F (max k beam) (by omega)
  generalize (srR cf gn L xs F (max k beam)).2 = S at *
  generalize (srR cf gn L xs F (max k beam)).1 = K at *
  have hal:all.length = (passL F L).length:=by rw [hp.length_eq]; simp [hitsL,passL]
  have hsub:S.Sublist all:=sub_sorted hs s1 (List.Pairwise.of_map (fun x:Hit=>x.1) (fun a b (h:a.1 ≠ b.1) e=>h (congrArg _ e)) s2) fun x hx=>by
    obtain ⟨e,he,rfl⟩:=s3 x hx
    exact hp.mem_iff.2 (List.mem_map.2 ⟨e,he,rfl⟩)
  have hsl:=hsub.length_le
  have hn:((min k (S.length:Int)).toNat:Int) = min k (all.length:Int):=by omega
  have hle:(min k (S.length:Int)).toNat≤S.length:=by omega
  have hlen:(S.take (min k (S.length:Int)).toNat).length = (min k (S.length:Int)).toNat:=by rw [List.length_take]; omega
  refine ⟨⟨by rw [hlen]; exact hn,(List.take_sublist _ _).trans hsub,fun hx=>?_⟩,by rw [hlen]; omega,s7⟩
  have:S = all:=hsub.eq_of_length (by omega)
  subst this
  rw [hlen]
end
section
open Go.RowKit

set_option maxHeartbeats 1000000 in
set_option maxRecDepth 20000 in
theorem sameConds123 (v1 v2:Value) (cs:List Cnd) (w:World) (h1:CondsAt w v1 cs) (h2:CondsAt w v2 cs) :
    Calls Tryz.prog 123 #[v1,v2] w fun ev w'=>ev = .returned (.bool true)∧Below w.heap.size w w':=by
  obtain ⟨a1,c1,rfl,_,hm,_⟩:=id h1
  obtain ⟨a2,c2,rfl,_⟩:=id h2
  have H1:=hide h1
  have H2:=hide h2
  clear h1 h2
  go_enter Tryz.func123,Tryz.ntmps123
  go_wp2
  go_loopw [5] (fun i wr=>∃ k:Nat,i = .int .i64 k∧k≤cs.length∧Hid (∃ n,wr = w.drewN n)) (fun i _=>cs.length - (intOf i).toNat)
  case atStart=>exact ⟨0,rfl,Nat.zero_le _,0,rfl⟩
  case round =>
    obtain ⟨k,rfl,hk,hw⟩:=hrel
    obtain ⟨n0,hw0⟩:=id hw.out
    by_cases hlt:k < cs.length
    · obtain ⟨b,off,rfl,x0,x1,x2⟩:=H1.out.cond hlt
      obtain ⟨b',off',rfl,y0,y1,y2⟩:=H2.out.cond hlt
      have u0:wr.cell? ⟨b,off + k * 3,none⟩ = some (.int .i64 (cs.getD k (0,0,0)).1):=by rw [hw0]; exact x0
      have u1:wr.cell? ⟨b,off + k * 3 + 1,none⟩ = some (.int .i64 (cs.getD k (0,0,0)).2.1):=by rw [hw0]; exact x1
      have u2:wr.cell? ⟨b,off + k * 3 + 2,none⟩ = some (.int .i64 (cs.getD k (0,0,0)).2.2):=by rw [hw0]; exact x2
      have z0:wr.cell? ⟨b',off' + k * 3,none⟩ = some (.int .i64 (cs.getD k (0,0,0)).1):=by rw [hw0]; exact y0
      have z1:wr.cell? ⟨b',off' + k * 3 + 1,none⟩ = some (.int .i64 (cs.getD k (0,0,0)).2.1):=by rw [hw0]; exact y1
      have z2:wr.cell? ⟨b',off' + k * 3 + 2,none⟩ = some (.int .i64 (cs.getD k (0,0,0)).2.2):=by rw [hw0]; exact y2
      have hW:Hid (∀ j,∃ n,wr.drewN j = w.drewN n):=fun j=>⟨n0 + j,by rw [hw0]; simp⟩
      generalize cs.getD k (0,0,0) = c at u0 u1 u2 z0 z1 z2
      obtain ⟨t,o,x⟩:=c
      simp only at u0 u1 u2 z0 z1 z2
      clear x0 x1 x2 y0 y1 y2 hw0 hw
      go_wp2
      go_quiet (fail)
      go_wp2
      exact ⟨⟨k + 1,by go_num,by omega,hW.out _⟩,by simp [intOf]; omega⟩
    · have HB:Hid (Below w.heap.size w wr):=by rw [hw0]; exact below_drewN (Below.refl _ _) _
      clear hw0
      go_wp2
      go_ret
      exact ⟨rfl,HB.out⟩
end
section
open Go.RowKit

theorem run_copy_wide {P:Program} (w:World) (dT sT ty elem:TypeId) (g o dLen dCap:Nat) (a:Addr) (sLen sCap n size:Nat) (cur:Array Value) (t:TypeId) (cs:List Value)
    (hu:P.underlying dT = some (.slice elem)) (hs:(P.info? elem).map (·.size) = some size)
    (hg:w.heap[g]? = some (.cells cur t (0,0))) (hn:n = Nat.min sLen dLen) (hc:cs.length = n * size)
    (hsrc:∀ j v,cs[j]? = some v→w.cell? (a.add j) = some v) (hfit:o + cs.length≤cur.size) (h1:∀ v ∈ cs,v.oneCell' = true) :
    (Builtin.copy_ #[dT,sT] ty #[.slice (some ⟨g,o,none⟩) dLen dCap,.slice (some a) sLen sCap]).run P w =
      .ok (goInt n) (w.setRow g (cur.toList.take o ++ cs ++ cur.toList.drop (o + cs.length)).toArray):=by
  have hl:=run_loadCells_list (P:=P) w a cs hsrc
  have hst:=run_storeCells_at P g o t cs 0 cur w hg (by simpa using hfit) h1
  cases hq:P.info? elem with
  | none=>simp [hq] at hs
  | some i =>
    have hi:i.size = size:=by simpa [hq] using hs
    simp [Builtin.copy_,run_underlying hu,Builtin.lenOf,Builtin.firstCells,sizeOf,typeInfo,hq,hi,← hn,← hc,hl,hst]
theorem run_copy_none' {P:Program} (w:World) (dT sT ty elem:TypeId) (d a:Option Addr) (dLen dCap sLen sCap size:Nat) (hu:P.underlying dT = some (.slice elem)) (hs:(P.info? elem).map (·.size) = some size) (hn:Nat.min sLen dLen = 0) :
    (Builtin.copy_ #[dT,sT] ty #[.slice d dLen dCap,.slice a sLen sCap]).run P w = .ok (goInt 0) w:=by
  cases hq:P.info? elem with
  | none=>simp [hq] at hs
  | some i =>
    have hl:∀ (x:Addr),(loadCells x 0).run P w = .ok #[] w:=fun x=>by simpa using run_loadCells_list (P:=P) w x [] (by simp)
    cases d <;> cases a <;> simp [Builtin.copy_,run_underlying hu,Builtin.lenOf,Builtin.firstCells,sizeOf,typeInfo,hq,hn,storeCells,hl]

theorem wpList_copy_wide {P:Program} {w:World} {ops:Array Oper} {rest:List Oper} {o:Oper} {a:Act} {Q:Exit→Act→World→Prop} (hgd:o.guard = none) (d s:Operand) (dT sT:TypeId)
    (ho:o.op = .call { callee:=.builtin .copy,args:=#[d,s],argTypes:=#[dT,sT] }) (elem:TypeId) (hu:P.underlying dT = some (.slice elem)) (size:Nat) (hsz:(P.info? elem).map (·.size) = some size)
    (dp sp:Option Addr) (dLen dCap sLen sCap:Nat) (hd:a.eval d = .slice dp dLen dCap) (hs:a.eval s = .slice sp sLen sCap)
    (g off n:Nat) (cur:List Value) (t:TypeId) (hg:w.heap[g]? = some (.cells cur.toArray t (0,0))) (cs:List Value) (hn:n = Nat.min sLen dLen) (hc:cs.length = n * size)
    (hpos:0 < n→dp = some ⟨g,off,none⟩∧∃ ad,sp = some ad∧∀ j v,cs[j]? = some v→w.cell? (ad.add j) = some v)
    (hfit:off + cs.length≤cur.length) (h1:∀ v ∈ cs,v.oneCell' = true) (B:Nat) (w0:World) (hb:Below B w0 w) (hBg:B≤g)
    (h:∀ w',Hid (w'.heap[g]? = some (.cells (splice cur off cs).toArray t (0,0)))→Below B w0 w'→Kept (fun k=>k = g) w w'→wpList P ops Q rest (a.put o.dst (goInt n)) w') :
    wpList P ops Q (o :: rest) a w:=by
  refine wpList_plain hgd fun K hK=>?_
  by_cases h0:n = 0
  · have hrun:=run_copy_none' (P:=P) w dT sT o.type elem dp sp dLen dCap sLen sCap size hu hsz (hn.symm.trans h0)
    obtain rfl:cs = []:=List.eq_nil_of_length_eq_zero (by rw [hc,h0,Nat.zero_mul])
    have h2:=h w (show _ = _ by simpa [splice] using hg) hb (Kept.refl _ _)
    unfold Oper.wp
    simp [execOp,ho,resolve,invoke,builtin,hd,hs,hrun,Result.andThen]
    rw [h0] at h2
    exact hK _ _ h2
  · obtain ⟨rfl,ad,rfl,hsrc⟩:=hpos (by omega)
    have hrun:=run_copy_wide (P:=P) w dT sT o.type elem g off dLen dCap ad sLen sCap n size cur.toArray t cs hu hsz hg hn hc hsrc (by simpa using hfit) h1
    unfold Oper.wp
    simp [execOp,ho,resolve,invoke,builtin,hd,hs,hrun,Result.andThen]
    refine hK _ _ (h _ (show _ = _ by simpa [splice] using setRow_heap w g _ _ t _ hg) (by simpa using below_setRow hb hBg _) ?_)
    exact ⟨rfl,rfl,rfl,by simp [World.setRow],fun k _ hk=>setRow_other w g k _ hk⟩
end
end Go.Proofs.YtpkiefjanmfgfaaGreatDoor
