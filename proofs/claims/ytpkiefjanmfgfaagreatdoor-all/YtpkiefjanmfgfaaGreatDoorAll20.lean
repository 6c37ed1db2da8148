import Derived.Deep.RegionWith
import Derived.Test.YtpkiefjanmfgfaaGreatDoorAll07
import Derived.Test.YtpkiefjanmfgfaaGreatDoorAll13
import Derived.Test.YtpkiefjanmfgfaaGreatDoorAll14
import Derived.Test.YtpkiefjanmfgfaaGreatDoorAll19
namespace Go.Proofs.YtpkiefjanmfgfaaGreatDoor
section
open Go.RowKit Go.Maps

def holdV (o v x:Int):Bool:=if o = 0 then decide (x = v) else if o = 1 then decide (x ≠ v) else if o = 2 then decide (x < v) else decide (v≤x)
def holdB (t0 t1:Int) (c:Cnd):Bool:=holdV c.2.1 c.2.2 (if c.1 = 0 then t0 else t1)
def passB (F:List (List Cnd)) (t0 t1:Int):Bool:=F.any (fun cs=>cs.all (holdB t0 t1)) || decide (F = [])

set_option maxHeartbeats 1000000 in
theorem holds141 (t o v x:Int) (w:World):Calls Tryz.prog 148 #[.agg #[.int .i64 t,.int .i64 o,.int .i64 v],.int .i64 x] w fun e w'=>e = .returned (.bool (holdV o v x))∧Below w.heap.size w w':=by
  have hB:∀ ob,Below w.heap.size w (w.alloc ob):=fun ob=>(Below.refl _ _).alloc (Nat.le_refl _) _
  have HV:Hid (holdV o v x = if o = 0 then decide (x = v) else if o = 1 then decide (x ≠ v) else if o = 2 then decide (x < v) else decide (v≤x)):=rfl
  generalize holdV o v x = hv at HV
  by_cases h0:o = 0
  · subst h0
    go_enter Tryz.func148,Tryz.ntmps148
    go_wp2
    go_ret
    exact ⟨by rw [HV.out]; simp [BEq.beq],hB _⟩
  · have d0:(o == 0) = false:=by simpa using h0
    by_cases h1:o = 1
    · subst h1
      go_enter Tryz.func148,Tryz.ntmps148
      go_wp2
      go_ret
      exact ⟨by rw [HV.out]; simp [bne,BEq.beq],hB _⟩
    · have d1:(o == 1) = false:=by simpa using h1
      by_cases h2:o = 2
      · subst h2
        go_enter Tryz.func148,Tryz.ntmps148
        go_wp2
        go_ret
        exact ⟨by rw [HV.out]; simp,hB _⟩
      · have d2:(o == 2) = false:=by simpa using h2
        go_enter Tryz.func148,Tryz.ntmps148
        go_wp2
        go_ret
        exact ⟨by rw [HV.out]; simp [h0,h1,h2],hB _⟩

theorem tag_cases {c:Cnd} (h:condB c = true):c.1 = 0 ∨ c.1 = 1:=by
  unfold condB inB at h
  simp at h
  omega

set_option maxHeartbeats 2000000 in
set_option maxRecDepth 20000 in
theorem allHold98 (v:Value) (cs:List Cnd) (t0 t1:Int) (w:World) (h:CondsAt w v cs) (hok:cs.all condB = true):Calls Tryz.prog 102 #[v,.agg #[.int .i64 t0,.int .i64 t1]] w fun e w'=>e = .returned (.bool (cs.all (holdB t0 t1)))∧Below w.heap.size w w':=by
  obtain ⟨a,cap,rfl,hcap,hm,hx⟩:=h
  have hB0:Below w.heap.size w (w.alloc (.cells #[.int .i64 t0,.int .i64 t1] 43)):=(Below.refl _ _).alloc (Nat.le_refl _) _
  have hz:(w.alloc (.cells #[.int .i64 t0,.int .i64 t1] 43)).heap[w.heap.size]? = some (.cells #[.int .i64 t0,.int .i64 t1] 43 (0,0)):=heap_alloc_new _ _
  have HX:=hide hx
  have HB0:=hide hB0
  have HOK:=hide hok
  have HZ:=hide hz
  obtain ⟨av,hav⟩:∃ av,av = cs.all (holdB t0 t1):=⟨_,rfl⟩
  have HAV:=hide hav
  rw [← hav]
  clear hx hB0 hok hz hav
  go_enter Tryz.func102,Tryz.ntmps102
  go_wp2
  generalize hwe:w.alloc (.cells #[.int .i64 t0,.int .i64 t1] 43) = w1 at HB0 HZ ⊢
  clear hwe
  go_loopw [6,9] (fun _ i wr=>∃ k:Nat,i = .int .i64 k∧k≤cs.length∧Hid ((cs.take k).all (holdB t0 t1) = true)∧Hid (Below w.heap.size w wr)∧Hid (wr.heap[w.heap.size]? = some (.cells #[.int .i64 t0,.int .i64 t1] 43 (0,0)))) (fun _ i _=>cs.length - (intOf i).toNat)
  case atStart=>exact ⟨0,rfl,Nat.zero_le _,rfl,HB0.out,HZ.out⟩
  case round =>
    obtain ⟨k,rfl,hk,HA,HB,HT⟩:=hrel
    by_cases hlt:k < cs.length
    · obtain ⟨b,off,rfl,hc⟩:∃ b off,a = some ⟨b,off,none⟩∧∀ i,i < cs.length→w.cell? ⟨b,off + i * 3,none⟩ = some (.int .i64 (cs.getD i (0,0,0)).1)∧w.cell? ⟨b,off + i * 3 + 1,none⟩ = some (.int .i64 (cs.getD i (0,0,0)).2.1)∧w.cell? ⟨b,off + i * 3 + 2,none⟩ = some (.int .i64 (cs.getD i (0,0,0)).2.2):=by
        rcases HX.out with rfl | h
        · exact absurd hlt (Nat.not_lt_zero _)
        · exact h
      obtain ⟨c0,c1,c2⟩:=hc k hlt
      have y0:=cell_below c0 HB.out
      have y1:=cell_below c1 HB.out
      have y2:=cell_below c2 HB.out
      have HS:Hid ((cs.take (k + 1)).all (holdB t0 t1) = ((cs.take k).all (holdB t0 t1) && holdB t0 t1 (cs.getD k (0,0,0)))):=all_take_succ (holdB t0 t1) cs k _ hlt
      have HBD:Hid (holdB t0 t1 (cs.getD k (0,0,0)) = false→cs.all (holdB t0 t1) = false):=fun h=>all_bad hlt h
      have htc:=tag_cases (List.all_eq_true.1 HOK.out (cs.getD k (0,0,0)) (by simp [List.getD_eq_getElem?_getD,hlt]))
      generalize cs.getD k (0,0,0) = c at y0 y1 y2 HS HBD htc
      obtain ⟨t,o,x⟩:=c
      simp only at y0 y1 y2 htc
      have hal:Below wr.heap.size wr (wr.alloc (.cells #[.int .i64 t,.int .i64 o,.int .i64 x] 72)):=(Below.refl _ _).alloc (Nat.le_refl _) _
      have hbk:(wr.alloc (.cells #[.int .i64 t,.int .i64 o,.int .i64 x] 72)).heap[wr.heap.size]? = some (.cells #[.int .i64 t,.int .i64 o,.int .i64 x] 72 (0,0)):=heap_alloc_new _ _
      have htt:=(hal.block _ (heap_lt HT.out)).trans HT.out
      have HB2:=hide (HB.out.trans (hal.mono HB.out.size))
      have HHV:Hid (holdB t0 t1 (t,o,x) = holdV o x (if t = 0 then t0 else t1)):=rfl
      generalize hw2:wr.alloc (.cells #[.int .i64 t,.int .i64 o,.int .i64 x] 72) = w2 at hbk htt HB2
      have HW2:=hide hw2
      have HBK:=hide hbk
      have HTT:=hide htt
      clear hc c0 c1 c2 hal hw2 hbk htt
      go_upto_region 4 with fail
      rw [HW2.out]
      have m0:=cells_at HBK.out 0 rfl
      have m1:=cells_at HBK.out 1 rfl
      have m2:=cells_at HBK.out 2 rfl
      have q0:=cells_at HTT.out 0 rfl
      have q1:=cells_at HTT.out 1 rfl
      have HSB:Hid (∀ W,Below w2.heap.size w2 W→W.cell? ⟨wr.heap.size,0,none⟩ = some (.int .i64 t)∧W.cell? ⟨wr.heap.size,1,none⟩ = some (.int .i64 o)∧W.cell? ⟨wr.heap.size,2,none⟩ = some (.int .i64 x)∧W.cell? ⟨w.heap.size,0,none⟩ = some (.int .i64 t0)∧W.cell? ⟨w.heap.size,1,none⟩ = some (.int .i64 t1)):=fun W hW=>⟨cell_below m0 hW,cell_below m1 hW,cell_below m2 hW,cell_below q0 hW,cell_below q1 hW⟩
      clear m0 m1 m2 q0 q1 y0 y1 y2
      rcases htc with rfl | rfl
      · have hhd:=holds141 0 o x t0
        have HHD:=hide hhd
        have HHV2:Hid (holdB t0 t1 (0,o,x) = holdV o x t0):=by
          show _ = _
          rw [HHV.out]
          simp
        clear hhd
        generalize holdV o x t0 = hb at HHD HHV2
        go_region_held3 (fun wx=>wx.cell? ⟨wr.heap.size,0,none⟩ = some (.int .i64 0)∧wx.cell? ⟨wr.heap.size,1,none⟩ = some (.int .i64 o)∧wx.cell? ⟨wr.heap.size,2,none⟩ = some (.int .i64 x)∧wx.cell? ⟨w.heap.size,0,none⟩ = some (.int .i64 t0)∧wx.cell? ⟨w.heap.size,1,none⟩ = some (.int .i64 t1))
          ((refine HSB.out _ ?_; repeat (first | with_reducible exact hb3 | exact Below.refl _ _ | refine Below.drew ?_)))
          (first | (go_at_call 148; refine (HHD.out w2.drew).mono ?_; rintro e3 w3 ⟨rfl,b3⟩; have hb3:Below w2.heap.size w2 w3:=Below.undrew b3))
        have HB3:=hide (HB2.out.trans (hb3.mono HB2.out.size))
        have HT3:=hide ((hb3.block _ (heap_lt HTT.out)).trans HTT.out)
        clear hb3 b3
        cases hb with
        | true =>
          go_wp2
          refine ⟨⟨k + 1,by go_num,by omega,?_,HB3.out,HT3.out⟩,by simp [intOf]; omega⟩
          show _ = _
          rw [HS.out,HA.out,HHV2.out]; rfl
        | false =>
          go_wp2
          go_ret
          exact ⟨by rw [HAV.out,HBD.out HHV2.out]; rfl,HB3.out⟩
      · have hhd:=holds141 1 o x t1
        have HHD:=hide hhd
        have HHV2:Hid (holdB t0 t1 (1,o,x) = holdV o x t1):=by
          show _ = _
          rw [HHV.out]
          simp
        clear hhd
        generalize holdV o x t1 = hb at HHD HHV2
        go_region_held3 (fun wx=>wx.cell? ⟨wr.heap.size,0,none⟩ = some (.int .i64 1)∧wx.cell? ⟨wr.heap.size,1,none⟩ = some (.int .i64 o)∧wx.cell? ⟨wr.heap.size,2,none⟩ = some (.int .i64 x)∧wx.cell? ⟨w.heap.size,0,none⟩ = some (.int .i64 t0)∧wx.cell? ⟨w.heap.size,1,none⟩ = some (.int .i64 t1))
          ((refine HSB.out _ ?_; repeat (first | with_reducible exact hb3 | exact Below.refl _ _ | refine Below.drew ?_)))
          (first | (go_at_call 148; refine (HHD.out w2.drew).mono ?_; rintro e3 w3 ⟨rfl,b3⟩; have hb3:Below w2.heap.size w2 w3:=Below.undrew b3))
        have HB3:=hide (HB2.out.trans (hb3.mono HB2.out.size))
        have HT3:=hide ((hb3.block _ (heap_lt HTT.out)).trans HTT.out)
        clear hb3 b3
        cases hb with
        | true =>
          go_wp2
          refine ⟨⟨k + 1,by go_num,by omega,?_,HB3.out,HT3.out⟩,by simp [intOf]; omega⟩
          show _ = _
          rw [HS.out,HA.out,HHV2.out]; rfl
        | false =>
          go_wp2
          go_ret
          exact ⟨by rw [HAV.out,HBD.out HHV2.out]; rfl,HB3.out⟩
    · go_wp2
      go_ret
      obtain rfl:k = cs.length:=by omega
      have:=HA.out
      rw [List.take_length] at this
      exact ⟨by rw [HAV.out,this]; rfl,HB.out⟩
end
section
open Go.RowKit Go.Maps

theorem any_take_succ {α:Type} (p:α→Bool) (xs:List α) (k:Nat) (d:α) (h:k < xs.length):(xs.take (k + 1)).any p = ((xs.take k).any p || p (xs.getD k d)):=by
  rw [List.take_succ_eq_append_getElem h,List.any_append]
  simp [List.getD_eq_getElem?_getD,h]
theorem any_hit {α:Type} {p:α→Bool} {xs:List α} {k:Nat} {d:α} (h:k < xs.length) (hb:p (xs.getD k d) = true):xs.any p = true:=by
  rw [List.any_eq_true]
  refine ⟨xs.getD k d,?_,hb⟩
  simp [List.getD_eq_getElem?_getD,h]

set_option maxHeartbeats 2000000 in
set_option maxRecDepth 20000 in
theorem passes52 (v:Value) (F:List (List Cnd)) (t0 t1:Int) (w:World) (h:FiltAt w v F) (hok:F.all clauseB = true):Calls Tryz.prog 55 #[.agg #[v],.agg #[.int .i64 t0,.int .i64 t1]] w fun e w'=>e = .returned (.bool (passB F t0 t1))∧Below w.heap.size w w':=by
  obtain ⟨a,cap,rfl,hcap,hm,hx⟩:=h
  have hB0:Below w.heap.size w ((w.alloc (.cells #[.slice a F.length cap] 47)).alloc (.cells #[.int .i64 t0,.int .i64 t1] 43)):=((Below.refl _ _).alloc (Nat.le_refl _) _).alloc (by simp) _
  have hz0:((w.alloc (.cells #[.slice a F.length cap] 47)).alloc (.cells #[.int .i64 t0,.int .i64 t1] 43)).heap[w.heap.size]? = some (.cells #[.slice a F.length cap] 47 (0,0)):=(Below.heap_alloc _ _ _ (by simp)).trans (heap_alloc_new _ _)
  have hz1:((w.alloc (.cells #[.slice a F.length cap] 47)).alloc (.cells #[.int .i64 t0,.int .i64 t1] 43)).heap[w.heap.size + 1]? = some (.cells #[.int .i64 t0,.int .i64 t1] 43 (0,0)):=heap_alloc2_new _ _ _
  have HX:=hide hx
  have HB0:=hide hB0
  have HOK:=hide hok
  have HZ0:=hide hz0
  have HZ1:=hide hz1
  obtain ⟨av,hav⟩:∃ av,av = passB F t0 t1:=⟨_,rfl⟩
  have HAV:=hide hav
  rw [← hav]
  clear hx hB0 hok hz0 hz1 hav
  go_enter Tryz.func55,Tryz.ntmps55
  go_wp2
  generalize hwe:(w.alloc (.cells #[.slice a F.length cap] 47)).alloc (.cells #[.int .i64 t0,.int .i64 t1] 43) = w1 at HB0 HZ0 HZ1 ⊢
  clear hwe
  go_loopw [6,10] (fun _ i wr=>∃ k:Nat,i = .int .i64 k∧k≤F.length∧Hid ((F.take k).any (fun cs=>cs.all (holdB t0 t1)) = false)∧Hid (Below w.heap.size w wr)∧Hid (wr.heap[w.heap.size]? = some (.cells #[.slice a F.length cap] 47 (0,0)))∧Hid (wr.heap[w.heap.size + 1]? = some (.cells #[.int .i64 t0,.int .i64 t1] 43 (0,0)))) (fun _ i _=>F.length - (intOf i).toNat)
  case atStart=>exact ⟨0,rfl,Nat.zero_le _,rfl,HB0.out,HZ0.out,HZ1.out⟩
  case round =>
    obtain ⟨k,rfl,hk,HA,HB,HT0,HT1⟩:=hrel
    by_cases hlt:k < F.length
    · obtain ⟨b,off,rfl,hc⟩:∃ b off,a = some ⟨b,off,none⟩∧∀ i,i < F.length→∃ u,w.cell? ⟨b,off + i,none⟩ = some u∧CondsAt w u (F.getD i []):=by
        rcases HX.out with rfl | h
        · exact absurd hlt (Nat.not_lt_zero _)
        · exact h
      obtain ⟨u,hu,hcu⟩:=hc k hlt
      have y0:=cell_below hu HB.out
      have hcr:=hcu.below HB.out
      have HS:Hid ((F.take (k + 1)).any (fun cs=>cs.all (holdB t0 t1)) = ((F.take k).any (fun cs=>cs.all (holdB t0 t1)) || (F.getD k []).all (holdB t0 t1))):=hide (any_take_succ (fun cs:List Cnd=>cs.all (holdB t0 t1)) F k [] hlt)
      have HBD:Hid ((F.getD k []).all (holdB t0 t1) = true→F.any (fun cs=>cs.all (holdB t0 t1)) = true):=fun h=>any_hit (d:=[]) hlt h
      have hcb:(F.getD k []).all condB = true:=by
        have:=List.all_eq_true.1 HOK.out (F.getD k []) (by simp [List.getD_eq_getElem?_getD,hlt])
        unfold clauseB at this
        simp at this
        simpa using this.2
      generalize F.getD k [] = cs at hcr HS HBD hcb
      have hal:=allHold98 u cs t0 t1 wr hcr hcb
      obtain ⟨ua,uc,rfl,_⟩:=hcr
      have q0:=cells_at HT1.out 0 rfl
      have q1:=cells_at HT1.out 1 rfl
      have HAL:=hide hal
      clear hal hc hu hcu hcb
      generalize cs.all (holdB t0 t1) = hv at HAL HS HBD
      go_wp2_with fail
      refine HAL.out.mono ?_
      rintro e3 w3 ⟨rfl,hb3⟩
      have HB3:=hide (HB.out.trans (hb3.mono HB.out.size))
      have HT03:=hide ((hb3.block _ (heap_lt HT0.out)).trans HT0.out)
      have HT13:=hide ((hb3.block _ (heap_lt HT1.out)).trans HT1.out)
      clear hb3 y0 q0 q1
      cases hv with
      | true =>
        go_wp2
        go_ret
        refine ⟨?_,HB3.out⟩
        rw [HAV.out]
        unfold passB
        rw [HBD.out (by first | exact rfl | exact trivial)]; rfl
      | false =>
        go_wp2
        refine ⟨⟨k + 1,by go_num,by omega,?_,HB3.out,HT03.out,HT13.out⟩,by simp [intOf]; omega⟩
        show _ = _
        rw [HS.out,HA.out]; rfl
    · have z0:=cells_at HT0.out 0 rfl
      have HAV2:Hid (av = decide ((F.length:Int) = 0)):=by
        show _ = _
        obtain rfl:k = F.length:=by omega
        have:=HA.out
        rw [List.take_length] at this
        rw [HAV.out]
        unfold passB
        rw [this]
        simp [List.length_eq_zero_iff]
      clear HX
      go_wp2
      go_ret
      exact ⟨by rw [HAV2.out]; simp [BEq.beq],HB.out⟩

theorem hcells_take_src {w:World} {g n cap:Nat} {l:List Hit} (h:w.ownsRow 0 63 2 (.slice (some ⟨g,0,none⟩) n cap) n (hcells l)) {m:Nat}:∀ j u,(hcells (l.take m))[j]? = some u→w.cell? ((⟨g,0,none⟩:Addr).add j) = some u:=by
  intro j u hj
  rw [addr_add,Nat.zero_add]
  refine ownsRow_cell h ?_
  have e:hcells l = hcells (l.take m) ++ hcells (l.drop m):=by
    rw [← hcells_append,List.take_append_drop]
  rw [e,List.getElem?_append_left (List.getElem?_eq_some_iff.1 hj).1]
  exact hj
set_option maxHeartbeats 1000000 in
theorem cloneH (sa:Option Addr) (xs:List Hit) (cap:Nat) (w:World) (hl:xs.length≤1000) (hsrc:∃ g,sa = some ⟨g,0,none⟩∧∀ j u,(hcells xs)[j]? = some u→w.cell? ((⟨g,0,none⟩:Addr).add j) = some u) :
    Calls Tryz.prog 60 #[.slice sa xs.length cap] w fun e w'=>∃ v',e = .returned v'∧HRow w' v' xs∧(∀ g,v'.ownBlock = some g→w.heap.size≤g)∧Below w.heap.size w w':=by
  obtain ⟨g,rfl,hs⟩:=hsrc
  obtain ⟨i0,hi,hz0,hz1,hz2⟩:=info_parts info63
  have hn:=fun w=>Go.run_eql_slice_nil (P:=Tryz.prog) w 58 63 (some ⟨g,0,none⟩) xs.length cap Tryz.underlying58
  have hown:=World.ownsRow_made (base:=w.heap.size) (e:=63) (size:=2) w #[] 0 (Nat.le_refl _) (by simp [maxLen]) (by simp)
  have HN:Hid (0 < xs.length→∃ a,(some ⟨g,0,none⟩:Option Addr) = some a∧∀ j u,(hcells xs)[j]? = some u→(w.alloc (.cells #[] 63)).cell? (a.add j) = some u):=fun _=>⟨_,rfl,fun j u hj=>by
    have h1:=hs j u hj
    rw [addr_add] at h1 ⊢
    exact cell_below h1 ((Below.refl _ _).alloc (Nat.le_refl _) _)⟩
  clear hs
  go_enter Tryz.func60,Tryz.ntmps60
  go_wp2_with (at_builtin; go_must (refine wpList_append_any _ rfl _ _ 58 rfl w.heap.size 63 i0 (.agg #[.int .i64 0,.int .i64 0]) 2 16 Tryz.underlying58 hi hz0 hz1 hz2 rfl (by decide) (.slice (some ⟨w.heap.size,0,none⟩) 0 0) 0 [] rfl hown (some ⟨g,0,none⟩) xs.length cap (hcells xs) rfl (hcells_length xs) HN.out (hcells_one xs) (by unfold maxLen; omega) (by omega) (by simp) ?_); intro v1 w1 ho hgr hat; have HO:=hide ho; have HG:=hide hgr; have HAT:=hide hat; clear ho hgr hat)
  go_ret
  refine ⟨_,rfl,?_,fun g' e=>?_,?_⟩
  · have:=HO.out
    rw [Nat.zero_add,List.nil_append] at this
    exact ownsRow_zero this
  · have e':v1.ownBlock = some g':=e
    rcases HAT.out with h | h
    · rw [h] at e'
      have:w.heap.size = g':=by simpa [Value.ownBlock] using e'
      omega
    · rw [h] at e'
      have:w.heap.size + 1 = g':=by simpa using e'
      omega
  · exact ((Below.refl w.heap.size w).alloc (Nat.le_refl _) _).grown HG.out (by simp) (fun k hk=>Nat.le_of_eq (by simpa [Value.ownBlock] using hk))
set_option maxHeartbeats 1000000 in
theorem cloneH_nil (w:World):Calls Tryz.prog 60 #[.slice none 0 0] w fun e w'=>e = .returned (.slice none 0 0)∧w = w':=by
  have hn:=fun w=>Go.run_eql_slice_nil (P:=Tryz.prog) w 58 63 none 0 0 Tryz.underlying58
  go_enter Tryz.func60,Tryz.ntmps60
  go_wp2
  go_ret
  exact ⟨rfl,rfl⟩
end
section
open Go.RowKit Go.Maps

def qd (m:Int) (xs:List Int) (L:List Ent) (id:Int):Int:=distL m xs (ptOf L id)
def qw (F:List (List Cnd)) (L:List Ent) (id:Int):Bool:=match findE id L with | some e=>passB F e.t0 e.t1 | none=>false
theorem field77t (i:Int) (s:Value) (a b:Int) (w:World):(Instr.field 77 (.agg #[.int .i64 i,s,.int .i64 a,.int .i64 b]) 2).run Tryz.prog w = .ok (.agg #[.int .i64 a,.int .i64 b]) w:=by kernel_rfl
theorem enter52 (args:Array Value) (w:World):(callFunc 52 args).run Tryz.prog w = .ok (.enter 52 args) w:=by kernel_rfl
theorem enter54 (args:Array Value) (w:World):(callFunc 54 args).run Tryz.prog w = .ok (.enter 54 args) w:=by kernel_rfl

set_option maxHeartbeats 1000000 in
set_option maxRecDepth 20000 in
theorem search49 (b5 b6 bb bs bm:Nat) (m:Int) (dim:Nat) (pv:Value) (xs:List Int) (id:Int) (L:List Ent) (w:World) (h:PtsAt w bb bs bm m dim L) (h5:w.cell? ⟨b5,0,none⟩ = some (.pointer (some ⟨bb,0,none⟩))) (h6:w.cell? ⟨b6,0,none⟩ = some pv) (hr:IRow w pv xs) (hl:xs.length = dim) (hx:∀ x ∈ xs,Crd x) (h8:dim≤100) (hid:I64 id) (he:(findE id L).isSome = true) :
    Calls Tryz.prog 52 #[.int .i64 id,.pointer (some ⟨b5,0,none⟩),.pointer (some ⟨b6,0,none⟩)] w fun ev w'=>ev = .returned (.int .i64 (qd m xs L id))∧Below w.heap.size w w':=by
  obtain ⟨e,he⟩:=Option.isSome_iff_exists.1 he
  have hqd:qd m xs L id = distL m xs e.pt:=by unfold qd ptOf; rw [he]
  rw [hqd]
  have hds:=distance50 bb bs bm m dim pv xs id L e w h hid he hr hl hx h8
  obtain ⟨pa,pc,rfl,_⟩:=IRow_slice hr
  have HD:=hide hds
  clear hds hqd h hr he hx hl
  generalize distL m xs e.pt = dv at HD ⊢
  go_enter Tryz.func52,Tryz.ntmps52
  go_wp2_with (go_at_call 53; refine HD.out.mono ?_; rintro e2 w2 ⟨rfl,hb2⟩)
  go_ret
  exact ⟨rfl,hb2⟩

set_option maxHeartbeats 1000000 in
set_option maxRecDepth 20000 in
theorem search51 (b5 b9 bb bs bm:Nat) (fv:Value) (F:List (List Cnd)) (id:Int) (L:List Ent) (w:World) (h6:w.cell? ⟨bb,6,none⟩ = some (.pointer (some ⟨bs,0,none⟩))) (hs1:w.cell? ⟨bs,1,none⟩ = some (.map (some bm))) (hm:MapAt w bm L) (h5:w.cell? ⟨b5,0,none⟩ = some (.pointer (some ⟨bb,0,none⟩))) (h9:w.cell? ⟨b9,0,none⟩ = some fv) (hf:FiltAt w fv F) (hok:F.all clauseB = true) (hid:I64 id) (he:(findE id L).isSome = true) :
    Calls Tryz.prog 54 #[.int .i64 id,.pointer (some ⟨b9,0,none⟩),.pointer (some ⟨b5,0,none⟩)] w fun ev w'=>ev = .returned (.bool (qw F L id))∧Below w.heap.size w w':=by
  obtain ⟨e,he⟩:=Option.isSome_iff_exists.1 he
  have hqw:qw F L id = passB F e.t0 e.t1:=by unfold qw; rw [he]
  rw [hqw]
  have hpk:=peek53 bs bm id L e w.drew hid hs1 (hm.below (Below.refl _ _).drew) he
  have hps:=fun W (hW:Below w.heap.size w W)=>passes52 fv F e.t0 e.t1 W (hf.below hW) hok
  have hfd:=field77t e.id (.slice (some ⟨e.mb,0,none⟩) e.pt.length e.mc) e.t0 e.t1
  have hf2:=hf
  obtain ⟨fa,fc,rfl,_⟩:=hf2
  have HPK:=hide hpk
  have HPS:=hide hps
  have HSB:Hid (∀ W,Below w.heap.size w W→W.cell? ⟨b9,0,none⟩ = some (.slice fa F.length fc)∧W.cell? ⟨b5,0,none⟩ = some (.pointer (some ⟨bb,0,none⟩))∧W.cell? ⟨bb,6,none⟩ = some (.pointer (some ⟨bs,0,none⟩))):=fun W hW=>⟨cell_below h9 hW,cell_below h5 hW,cell_below h6 hW⟩
  generalize passB F e.t0 e.t1 = pb at HPS
  clear hpk hps hqw hm hf h6 hs1 h5 h9
  go_enter Tryz.func54,Tryz.ntmps54
  go_wp2
  go_region_held3 (fun wx=>wx.cell? ⟨b9,0,none⟩ = some (.slice fa F.length fc)∧wx.cell? ⟨b5,0,none⟩ = some (.pointer (some ⟨bb,0,none⟩))∧wx.cell? ⟨bb,6,none⟩ = some (.pointer (some ⟨bs,0,none⟩)))
    ((refine HSB.out _ ?_; repeat (first | with_reducible exact hb4 | with_reducible exact hb3 | exact Below.refl _ _ | refine Below.drew ?_)))
    (first
      | (go_at_call 56; refine HPK.out.mono ?_; rintro e2 w2 ⟨rfl,hb2⟩; have hb3:=Below.undrew hb2; have hps2:=HPS.out w2 hb3)
      | (go_at_call 55; refine hps2.mono ?_; rintro e3 w3 ⟨rfl,b4⟩; have hb4:=hb3.trans (b4.mono hb3.size)))
  go_wp2
  go_ret
  exact ⟨rfl,hb4⟩

noncomputable def cellV (w:World) (b o:Nat):Value:=(w.cell? ⟨b,o,none⟩).getD undef
theorem cellV_some {w:World} {b o:Nat} {v:Value} (h:w.cell? ⟨b,o,none⟩ = some v):w.cell? ⟨b,o,none⟩ = some (cellV w b o):=by
  unfold cellV; rw [h]; rfl
theorem cellV_eq {w:World} {b o:Nat} {v:Value} (h:w.cell? ⟨b,o,none⟩ = some v):cellV w b o = v:=by
  unfold cellV; rw [h]; rfl

noncomputable def srR (cf:Cf) (gn:Net) (L:List Ent) (xs:List Int) (F:List (List Cnd)) (width:Int):List (Int × Int) × List Hit :=
  let d:=downR (qd cf.metric xs L) gn.lev gn.lk gn.ch (gn.lev.map (·.1)).length [] 0
  alongR (qd cf.metric xs L) (qw F L) width (fun i=>reachedL gn.lk gn.ch i 0) (gn.lev.map (·.1)).length d.1 d.2

theorem srch_boxes (w:World) (a b c:Value):(((w.alloc (.cells #[a] 38)).alloc (.cells #[b] 32)).alloc (.cells #[c] 47)).heap[w.heap.size]? = some (.cells #[a] 38 (0,0))∧(((w.alloc (.cells #[a] 38)).alloc (.cells #[b] 32)).alloc (.cells #[c] 47)).heap[w.heap.size + 1]? = some (.cells #[b] 32 (0,0))∧(((w.alloc (.cells #[a] 38)).alloc (.cells #[b] 32)).alloc (.cells #[c] 47)).heap[w.heap.size + 1 + 1]? = some (.cells #[c] 47 (0,0))∧(((w.alloc (.cells #[a] 38)).alloc (.cells #[b] 32)).alloc (.cells #[c] 47)).heap.size = w.heap.size + 3∧Below w.heap.size w (((w.alloc (.cells #[a] 38)).alloc (.cells #[b] 32)).alloc (.cells #[c] 47)):=by
  refine ⟨?_,?_,?_,by simp,(((Below.refl _ _).alloc (Nat.le_refl _) _).alloc (by simp) _).alloc (by simp; omega) _⟩
  · exact (Below.heap_alloc _ _ _ (by simp; omega)).trans ((Below.heap_alloc _ _ _ (by simp)).trans (heap_alloc_new _ _))
  · exact (Below.heap_alloc _ _ _ (by simp)).trans (heap_alloc2_new _ _ _)
  · have:=heap_alloc2_new (w.alloc (.cells #[a] 38)) (.cells #[b] 32) (.cells #[c] 47)
    simpa using this
theorem IntsAt.belowI {w w':World} {v:Value} {xs:List Int} (h:IntsAt w v xs) (hb:Below w.heap.size w w'):IntsAt w' v xs:=by
  obtain ⟨a,cap,rfl,h1,h2,h3⟩:=h
  refine ⟨a,cap,rfl,h1,h2,h3.imp id ?_⟩
  rintro ⟨b,off,rfl,hc⟩
  exact ⟨b,off,rfl,fun i hi=>cell_below (hc i hi) hb⟩

set_option maxHeartbeats 2000000 in
set_option maxRecDepth 20000 in
theorem search25_no (bb bs bm:Nat) (cf:Cf) (gn:Net) (L:List Ent) (pv:Value) (xs:List Int) (k beam:Int) (fv:Value) (F:List (List Cnd)) (w:World) (h:BaseAt w bb bs bm cf gn L) (hp:IntsAt w pv xs) (hf:FiltAt w fv F) (r:Int) (hr:schCode cf.dim xs k beam F = r) (hbad:r ≠ 0) :
    Calls Tryz.prog 26 #[.pointer (some ⟨bb,0,none⟩),pv,.int .i64 k,.int .i64 beam,.agg #[fv]] w fun ev w'=>ev = .returned (.tuple #[.slice none 0 0,.int .i64 r])∧Below w.heap.size w w':=by
  have hsc:=fun W (hW:Below w.heap.size w W)=>search47 cf.dim pv xs k beam fv F W (hp.belowI hW) (hf.below hW)
  rw [hr] at hsc
  obtain ⟨pa,pc,rfl,_⟩:=hp
  obtain ⟨fa,fc,rfl,_⟩:=hf
  obtain ⟨x0,x1,x2,xz,hB⟩:=srch_boxes w (.pointer (some ⟨bb,0,none⟩)) (.slice pa xs.length pc) (.slice fa F.length fc)
  have HB:=hide hB
  have HX0:=hide x0
  have HX1:=hide x1
  have HX2:=hide x2
  have H:=hide h
  have HSC:=hide hsc
  clear hsc hB hr h x0 x1 x2 xz
  go_enter Tryz.func26,Tryz.ntmps26
  go_wp2
  generalize hwe:((w.alloc (.cells #[.pointer (some ⟨bb,0,none⟩)] 38)).alloc (.cells #[.slice pa xs.length pc] 32)).alloc (.cells #[.slice fa F.length fc] 47) = w1 at HB HX0 HX1 HX2 ⊢
  clear hwe
  have q0:=cells_at HX0.out 0 rfl
  have q1:=cells_at HX1.out 0 rfl
  have q2:=cells_at HX2.out 0 rfl
  have q3:=cell_below H.out.b0 HB.out
  have HSB:Hid (∀ W,Below w1.heap.size w1 W→W.cell? ⟨w.heap.size,0,none⟩ = some (.pointer (some ⟨bb,0,none⟩))∧W.cell? ⟨w.heap.size + 1,0,none⟩ = some (.slice pa xs.length pc)∧W.cell? ⟨w.heap.size + 1 + 1,0,none⟩ = some (.slice fa F.length fc)∧W.cell? ⟨bb,0,none⟩ = some (.int .i64 cf.dim)):=fun W hW=>⟨cell_below q0 hW,cell_below q1 hW,cell_below q2 hW,cell_below q3 hW⟩
  clear q0 q1 q2 q3
  go_region_held3 (fun wx=>wx.cell? ⟨w.heap.size,0,none⟩ = some (.pointer (some ⟨bb,0,none⟩))∧wx.cell? ⟨w.heap.size + 1,0,none⟩ = some (.slice pa xs.length pc)∧wx.cell? ⟨w.heap.size + 1 + 1,0,none⟩ = some (.slice fa F.length fc)∧wx.cell? ⟨bb,0,none⟩ = some (.int .i64 cf.dim))
    ((refine HSB.out _ ?_; repeat (first | with_reducible exact hb2 | exact Below.refl _ _ | refine Below.drew ?_)))
    (first | (go_at_call 50; refine (HSC.out w1.drew HB.out.drew).mono ?_; rintro e2 w2 ⟨⟨u,rfl,hu⟩,b2⟩; have hb2:Below w1.heap.size w1 w2:=Below.undrew b2; obtain ⟨ux,rfl⟩:=hu.shape hbad))
  have HB2:=hide (HB.out.trans (hb2.mono HB.out.size))
  have her:=errno_deep r _ w2 hu (H.out.hdl.below HB2.out)
  have HER:=hide her
  clear her hu b2 hb2 HSB
  go_wp2_with fail
  refine HER.out.mono ?_
  rintro e3 w3 ⟨rfl,hb3⟩
  have HB3:=hide (HB2.out.trans (hb3.mono HB2.out.size))
  clear hb3
  go_wp2
  go_ret2
  exact ⟨rfl,HB3.out⟩
end
section
open Go.RowKit Go.Maps

theorem ints_of_irow {w:World} {v:Value} {xs:List Int} (h:IRow w v xs) (hl:xs.length≤1000):IntsAt w v xs:=by
  rcases h.2 with ⟨rfl,hz⟩ | ⟨g,cap,cur,rfl,_,hg,hn,hcm,hcs,htk⟩
  · obtain rfl:=List.eq_nil_of_length_eq_zero hz
    exact ⟨none,0,rfl,Nat.le_refl _,by simp,.inl rfl⟩
  · refine ⟨_,cap,rfl,hn,by omega,.inr ⟨g,0,rfl,fun i hi=>?_⟩⟩
    rw [Nat.zero_add]
    exact ownsRow_cell (n:=xs.length) (cap:=cap) h (by simp [vals,List.getD_eq_getElem?_getD,hi])
theorem schCode_ok {dim:Int} {xs:List Int} {k beam:Int} {F:List (List Cnd)} (h:schCode dim xs k beam F = 0):ptCode dim xs = 0∧1≤k∧k≤60∧1≤beam∧beam≤100∧filtB F = true:=by
  unfold schCode at h
  split at h
  · exact absurd h (by assumption)
  · rename_i h1
    split at h
    · rename_i h2
      have hf:filtB F = true:=by
        cases hb:filtB F with
        | true=>rfl
        | false=>rw [hb] at h; cases h
      unfold inB at h2
      simp at h2 h1
      exact ⟨h1,h2.1.1,h2.1.2,h2.2.1,h2.2.2,hf⟩
    · cases h

theorem BaseAt.look {w:World} {bb bs bm:Nat} {cf:Cf} {gn:Net} {L:List Ent} {cb cs:Array Value} (h:BaseAt w bb bs bm cf gn L) (hcb:w.heap[bb]? = some (.cells cb 102 (0,0))) (hcs:w.heap[bs]? = some (.cells cs 155 (0,0))) (n:Int):BaseAt (w.setCell ⟨bb,8,none⟩ (.int .i64 n)) bb bs bm cf { gn with looks:=n } L:=by
  have hk:Kept (fun k=>k = bb) w (w.setCell ⟨bb,8,none⟩ (.int .i64 n)):=(Kept.refl (fun k=>k = bb) w).setCell (p:=⟨bb,8,none⟩) (fun _=>rfl) _
  have far:∀ {o:Nat} {v:Value},o ≠ 8→w.cell? ⟨bb,o,none⟩ = some v→(w.setCell ⟨bb,8,none⟩ (.int .i64 n)).cell? ⟨bb,o,none⟩ = some v:=fun {o v} ho hc=>(World.cell?_setCell_other _ _ _ _ (by simp <;> omega)).trans hc
  have nbs:bs ≠ bb:=ne_of_elem hcs hcb (by decide)
  have nbm:bm ≠ bb:=fun e=>h.map.mb_ne hcb e.symm
  have n0:0 ≠ bb:=fun e=>by
    have h1:w.cell? ⟨0,0,none⟩ = _:=h.hdl
    have h2:=h.b0
    rw [← e,h1] at h2
    cases h2
  have npt:∀ e ∈ L,e.mb ≠ bb:=fun e he=>by
    obtain ⟨cu,hcu⟩:=(h.map.pts e he).obj
    exact ne_of_elem hcu hcb (by decide)
  exact ⟨far (by omega) h.b0,far (by omega) h.b2,far (by omega) h.b3,far (by omega) h.b4,far (by omega) h.b5,far (by omega) h.b6,far (by omega) h.b7,World.cell?_setCell_same _ _ _ h.b8,hk.cell h.s0 nbs,hk.cell h.s1 nbs,h.map.keptS hk nbm npt,h.hdl.kept hk n0,h.g.kept hk (fun k hf=>(h.foot k hf).2.2.1),h.ok,h.lv,h.few,h.ints,h.len,h.crd,h.drw,fun k hf=>⟨Nat.lt_of_lt_of_le (h.foot k hf).1 hk.size,(h.foot k hf).2⟩,h.cfok⟩

set_option maxHeartbeats 4000000 in
set_option maxRecDepth 20000 in
theorem search25_ok (bb bs bm:Nat) (cf:Cf) (gn:Net) (L:List Ent) (pv:Value) (xs:List Int) (k beam:Int) (fv:Value) (F:List (List Cnd)) (w:World) (h:BaseAt w bb bs bm cf gn L) (htb:∃ cs,w.heap[bb]? = some (.cells cs 102 (0,0))) (hts:∃ cs,w.heap[bs]? = some (.cells cs 155 (0,0))) (hr:IRow w pv xs) (hf:FiltAt w fv F) (hc:schCode cf.dim xs k beam F = 0) (hlo:0≤gn.looks∧gn.looks≤4000000000000000000) :
    Calls Tryz.prog 26 #[.pointer (some ⟨bb,0,none⟩),pv,.int .i64 k,.int .i64 beam,.agg #[fv]] w fun ev w'=>∃ v',ev = .returned (.tuple #[v',.int .i64 0])∧HRow w' v' ((srR cf gn L xs F (max k beam)).2.take (min k ((srR cf gn L xs F (max k beam)).2.length:Int)).toNat)∧(∀ g,v'.ownBlock = some g→w.heap.size≤g) ∧
      BaseAt w' bb bs bm cf { gn with looks:=gn.looks + (srR cf gn L xs F (max k beam)).1.length } L∧Kept (fun k=>k = bb) w w'∧(∃ cs,w'.heap[bb]? = some (.cells cs 102 (0,0)))∧KnOk (gn.lev.map (·.1)) (qd cf.metric xs L) (srR cf gn L xs F (max k beam)).1∧(∀ x ∈ (srR cf gn L xs F (max k beam)).2,x.1 ∈ gn.lev.map (·.1)∧x.2 = qd cf.metric xs L x.1):=by
  obtain ⟨hpc,hk1,hk2,hb1,hb2,hfb⟩:=schCode_ok hc
  obtain ⟨hxl,hxc⟩:=ptCode_crd hpc
  have hd8:=h.cfok.d8
  have hok:F.all clauseB = true:=by
    unfold filtB at hfb
    simp at hfb
    simpa using hfb.2
  have hsc:=fun W (hW:Below w.heap.size w W)=>search47 cf.dim pv xs k beam fv F W ((ints_of_irow hr (by omega)).belowI hW) (hf.below hW)
  rw [hc] at hsc
  obtain ⟨pa,pc,rfl,_⟩:=IRow_slice hr
  have hf2:=hf
  obtain ⟨fa,fc,rfl,_⟩:=hf2
  obtain ⟨x0,x1,x2,xz,hB⟩:=srch_boxes w (.pointer (some ⟨bb,0,none⟩)) (.slice pa xs.length pc) (.slice fa F.length fc)
  have HB:=hide hB
  have HX0:=hide x0
  have HX1:=hide x1
  have HX2:=hide x2
  have H:=hide h
  have HR:=hide hr
  have HF:=hide hf
  have HOK:=hide hok
  have HXC:=hide hxc
  have HXL:=hide hxl
  have HLO:=hide hlo
  have HTB:=hide htb
  have HTS:=hide hts
  have HSC:=hide hsc
  clear hsc hB h x0 x1 x2 xz hr hf hok hxc hxl hpc hfb hlo hc htb hts
  go_enter Tryz.func26,Tryz.ntmps26
  go_wp2
  generalize hwe:((w.alloc (.cells #[.pointer (some ⟨bb,0,none⟩)] 38)).alloc (.cells #[.slice pa xs.length pc] 32)).alloc (.cells #[.slice fa F.length fc] 47) = w1 at HB HX0 HX1 HX2 ⊢
  clear hwe
  have q0:=cells_at HX0.out 0 rfl
  have q1:=cells_at HX1.out 0 rfl
  have q2:=cells_at HX2.out 0 rfl
  have q3:=cell_below H.out.b0 HB.out
  have HSB:Hid (∀ W,Below w1.heap.size w1 W→W.cell? ⟨w.heap.size,0,none⟩ = some (.pointer (some ⟨bb,0,none⟩))∧W.cell? ⟨w.heap.size + 1,0,none⟩ = some (.slice pa xs.length pc)∧W.cell? ⟨w.heap.size + 1 + 1,0,none⟩ = some (.slice fa F.length fc)∧W.cell? ⟨bb,0,none⟩ = some (.int .i64 cf.dim)):=fun W hW=>⟨cell_below q0 hW,cell_below q1 hW,cell_below q2 hW,cell_below q3 hW⟩
  clear q0 q1 q2 q3
  go_region_held3 (fun wx=>wx.cell? ⟨w.heap.size,0,none⟩ = some (.pointer (some ⟨bb,0,none⟩))∧wx.cell? ⟨w.heap.size + 1,0,none⟩ = some (.slice pa xs.length pc)∧wx.cell? ⟨w.heap.size + 1 + 1,0,none⟩ = some (.slice fa F.length fc)∧wx.cell? ⟨bb,0,none⟩ = some (.int .i64 cf.dim))
    ((refine HSB.out _ ?_; repeat (first | with_reducible exact hb2 | exact Below.refl _ _ | refine Below.drew ?_)))
    (first | (go_at_call 50; refine (HSC.out w1.drew HB.out.drew).mono ?_; rintro e2 w2 ⟨⟨u,rfl,hu⟩,b2⟩; have hb2:Below w1.heap.size w1 w2:=Below.undrew b2; have hun:u = .nilIface:=(by rcases hu with ⟨_,h⟩ | ⟨h,_⟩; (exact h); (exact absurd rfl h)); subst hun))
  have hB2:=HB.out.trans (hb2.mono HB.out.size)
  have hx0:=(hb2.block _ (heap_lt HX0.out)).trans HX0.out
  have hx1:=(hb2.block _ (heap_lt HX1.out)).trans HX1.out
  have hx2:=(hb2.block _ (heap_lt HX2.out)).trans HX2.out
  have hz2:w.heap.size + 1 + 1 < w2.heap.size:=heap_lt hx2
  have hnew:=new48 gn.bg 52 #[.pointer (some ⟨w.heap.size,0,none⟩),.pointer (some ⟨w.heap.size + 1,0,none⟩)] w2
  have d0:=cells_at hx0 0 rfl
  have d7:=cell_below H.out.b7 hB2
  have HNEW:=hide hnew
  have HB2:=hide hB2
  have HX0:=hide hx0
  have HX1:=hide hx1
  have HX2:=hide hx2
  clear hnew hB2 hx0 hx1 hx2 hb2 b2 hu HSB HSC
  go_wp2_with fail
  refine HNEW.out.mono ?_
  rintro e3 w3 ⟨rfl,hw3,hb3⟩
  have hB3:=HB2.out.trans (hb3.mono HB2.out.size)
  have hx0:=(hb3.block _ (heap_lt HX0.out)).trans HX0.out
  have hx1:=(hb3.block _ (heap_lt HX1.out)).trans HX1.out
  have hx2:=(hb3.block _ (heap_lt HX2.out)).trans HX2.out
  have hs3:=hb3.size
  have hlt3:=heap_lt hw3.blk
  have hI:∀ x ∈ gn.lev.map (·.1),I64 x:=fun x hx=>by
    obtain ⟨e,he⟩:=Option.isSome_iff_exists.1 (H.out.ids.1 hx)
    rw [← (findE_mem he).2]
    exact H.out.ints e (findE_mem he).1
  have hinn:=H.out.ok.ok.lg.inn H.out.ok.ok.lev5
  have hidl:=H.out.idsLen
  have hchl:=H.out.chLen
  have hBW:∀ W,Kept (fun k=>k = w2.heap.size ∨ w3.heap.size≤k) w3 W→Below w.heap.size w W:=fun W hW=>hB3.trans (hW.toBelow hB3.size (fun k e=>by have:=hB3.size; omega))
  have hE3:WayEnv w3 gn.bg 52 #[.pointer (some ⟨w.heap.size,0,none⟩),.pointer (some ⟨w.heap.size + 1,0,none⟩)] w2.heap.size (gn.lev.map (·.1)) (qd cf.metric xs L) gn.F gn.lev gn.lk gn.ch:=by
    refine ⟨(H.out.below hB3).g,fun q hq=>⟨by have:=(H.out.foot q hq).1; omega,by have:=(H.out.foot q hq).1; omega⟩,hI,by simp; omega,H.out.ok.ok.nb,fun p=>Nat.le_trans (hinn.len p) (by simp; omega),by omega,enter52,fun o ho W hW=>?_⟩
    have hW':=hBW W hW
    exact search49 w.heap.size (w.heap.size + 1) bb bs bm cf.metric cf.dim.toNat _ xs o L W (H.out.below hW').pts (hW.cell (cells_at hx0 0 rfl) (by omega)) (hW.cell (cells_at hx1 0 rfl) (by omega)) (ownsRow_below HR.out hW') (by have:=HXL.out; omega) HXC.out (by omega) (hI o ho) (H.out.ids.1 ho)
  have hwant:∀ o ∈ gn.lev.map (·.1),∀ W,Kept (fun k=>k = w2.heap.size ∨ w3.heap.size≤k) w3 W→Calls Tryz.prog 54 (#[.int .i64 o] ++ #[.pointer (some ⟨w.heap.size + 1 + 1,0,none⟩),.pointer (some ⟨w.heap.size,0,none⟩)]) W fun e W'=>e = .returned (.bool (qw F L o))∧Below W.heap.size W W':=fun o ho W hW=>by
    have hW':=hBW W hW
    exact search51 w.heap.size (w.heap.size + 1 + 1) bb bs bm _ F o L W (H.out.below hW').b6 (H.out.below hW').s1 (H.out.below hW').map (hW.cell (cells_at hx0 0 rfl) (by omega)) (hW.cell (cells_at hx2 0 rfl) (by omega)) (HF.out.below hW') HOK.out (hI o ho) (H.out.ids.1 ho)
  have hlev:∀ p ∈ gn.lev,0≤p.2∧p.2≤10∧p.1 ∈ gn.lev.map (·.1):=fun p hp=>⟨(H.out.ok.ok.lev5 p hp).1,by have:=(H.out.ok.ok.lev5 p hp).2; omega,List.mem_map.2 ⟨p,hp,rfl⟩⟩
  have hdn:=down55 (w2.heap.size + 1) gn.bg 52 #[.pointer (some ⟨w.heap.size,0,none⟩),.pointer (some ⟨w.heap.size + 1,0,none⟩)] w2.heap.size [] 0 (gn.lev.map (·.1)) (qd cf.metric xs L) gn.F gn.lev gn.lk gn.ch w3 hw3 hE3 ⟨by omega,by omega⟩ ⟨List.nodup_nil,fun _ hp=>absurd hp List.not_mem_nil,fun _ hp=>absurd hp List.not_mem_nil⟩ hlev
  have HSR:Hid (srR cf gn L xs F (max k beam) = alongR (qd cf.metric xs L) (qw F L) (max k beam) (fun i=>reachedL gn.lk gn.ch i 0) (gn.lev.map (·.1)).length (downR (qd cf.metric xs L) gn.lev gn.lk gn.ch (gn.lev.map (·.1)).length [] 0).1 (downR (qd cf.metric xs L) gn.lev gn.lk gn.ch (gn.lev.map (·.1)).length [] 0).2):=rfl
  generalize downR (qd cf.metric xs L) gn.lev gn.lk gn.ch (gn.lev.map (·.1)).length [] 0 = p0 at hdn HSR
  generalize hsr:srR cf gn L xs F (max k beam) = sr at HSR
  have HSRE:=hide hsr
  have HDN:=hide hdn
  have HE3:=hide hE3
  have HWT:=hide hwant
  have HBWW:=hide hBW
  have HX0:=hide hx0
  have HX1:=hide hx1
  have HX2:=hide hx2
  have HB3:=hide hB3
  clear hdn hE3 hwant hBW hx0 hx1 hx2 hB3 hb3 hw3 hsr hI hinn hidl hchl hlev d0 d7 HNEW
  go_wp2_with fail
  refine HDN.out.mono ?_
  rintro e4 w4 ⟨v4,rfl,r4,f4,a4,k4,x4,l4,kk4⟩
  have hk34:Kept (fun k=>k = w2.heap.size ∨ w3.heap.size≤k) w3 w4:=kk4.mono (fun q _ e=>.inl e)
  have hal:=along54' (w2.heap.size + 1) gn.bg 52 _ w2.heap.size p0.1 0 v4 p0.2 (max k beam) 54 #[.pointer (some ⟨w.heap.size + 1 + 1,0,none⟩),.pointer (some ⟨w.heap.size,0,none⟩)] (gn.lev.map (·.1)) (qd cf.metric xs L) (qw F L) gn.F gn.lev gn.lk gn.ch w4 a4 (HE3.out.later2 hk34) r4 l4 (fun x hx=>(x4 x hx).1) (I64_of 0 (by omega) (by omega)) k4 (by omega) enter54
    (fun o ho W hW=>HWT.out o ho W (hk34.trans hW (fun q hq e=>e.imp (fun e=>e) (fun e=>by have:=hk34.size; omega))))
  rw [← HSR.out] at hal
  have hz4:=kk4.size
  obtain ⟨va4,vc4,rfl,_⟩:=HRow_slice r4
  have HAL:=hide hal
  have HK34:=hide hk34
  clear hal hk34 r4 f4 a4 k4 x4 l4 kk4 HDN
  go_wp2_with fail
  refine HAL.out.mono ?_
  rintro e5 w5 ⟨v5,rfl,r5,f5,a5,k5,x5,l5,kk5⟩
  have hk35:Kept (fun k=>k = w2.heap.size ∨ w3.heap.size≤k) w3 w5:=HK34.out.trans kk5 (fun q _ e=>.inl e)
  have hB5:=HBWW.out w5 hk35
  have hz5:=hk35.size
  have hlk:=looks56 (w2.heap.size + 1) gn.bg 52 #[.pointer (some ⟨w.heap.size,0,none⟩),.pointer (some ⟨w.heap.size + 1,0,none⟩)] w2.heap.size sr.1
  have a5d:WalkAt w5.drew (w2.heap.size + 1) gn.bg 52 #[.pointer (some ⟨w.heap.size,0,none⟩),.pointer (some ⟨w.heap.size + 1,0,none⟩)] w2.heap.size sr.1:=a5.below (Below.refl _ _).drew
  have s0:=hk35.cell (cells_at HX0.out 0 rfl) (by omega)
  have s8:=cell_below H.out.b8 hB5
  obtain ⟨cb,hcb⟩:=HTB.out
  have hcb5:=(hB5.block _ (heap_lt hcb)).trans hcb
  have fz:=cells_frozen hcb5
  have hknl:=k5.len
  have HLK:=hide (hlk w5.drew a5d)
  have HR5:=hide r5
  have HF5:=hide f5
  have HK5:=hide k5
  have HX5:=hide x5
  have HL5:=hide l5
  have HB5:=hide hB5
  have HKNL:=hide hknl
  have hcase:=HRow_cases r5
  have hfew:(gn.lev.map (·.1)).length≤60:=by have:=H.out.idsLen; simpa using this
  have hwrp:IntKind.i64.wrap (gn.looks + (sr.1.length:Int)) = gn.looks + (sr.1.length:Int):=by rw [IntKind.wrap_i64]; have:=HLO.out; omega
  have HCB5:=hide hcb5
  have hcv:cellV w5.drew bb 8 = .int .i64 gn.looks:=cellV_eq s8
  have HSA:Hid (w5.drew.cell? ⟨w.heap.size,0,none⟩ = some (.pointer (some ⟨bb,0,none⟩))∧w5.drew.cell? ⟨bb,8,none⟩ = some (cellV w5.drew bb 8)):=⟨s0,cellV_some s8⟩
  have hneb:w.heap.size ≠ bb:=by have:=block_lt_of_cell H.out.b0; simp only at this; omega
  have HSC2:Hid (∀ u,(w5.drew.setCell ⟨bb,8,none⟩ u).cell? ⟨w.heap.size,0,none⟩ = some (.pointer (some ⟨bb,0,none⟩))∧(w5.drew.setCell ⟨bb,8,none⟩ u).cell? ⟨bb,8,none⟩ = some (cellV (w5.drew.setCell ⟨bb,8,none⟩ u) bb 8)):=fun u=>⟨(World.cell?_setCell_far _ _ _ _ (fun e=>hneb e.symm)).trans s0,cellV_some (World.cell?_setCell_same _ _ _ s8)⟩
  clear hlk a5 a5d r5 f5 k5 x5 l5 kk5 hk35 hB5 hknl hcb hcb5 HAL
  generalize hln:sr.2.length = ln at hcase
  have HLN:=hide hln
  clear hln
  have HEND:Hid (∀ w6 v6,Below w5.heap.size (w5.setCell ⟨bb,8,none⟩ (.int .i64 (gn.looks + (sr.1.length:Int)))) w6→HRow w6 v6 (sr.2.take (min k (sr.2.length:Int)).toNat)→(∀ g,v6.ownBlock = some g→w.heap.size≤g)→∃ v',Ending.returned (.tuple #[v6,.int .i64 0]) = Ending.returned (.tuple #[v',.int .i64 0])∧HRow w6 v' ((srR cf gn L xs F (max k beam)).2.take (min k ((srR cf gn L xs F (max k beam)).2.length:Int)).toNat)∧(∀ g,v'.ownBlock = some g→w.heap.size≤g) ∧
      BaseAt w6 bb bs bm cf { gn with looks:=gn.looks + (srR cf gn L xs F (max k beam)).1.length } L∧Kept (fun k=>k = bb) w w6∧(∃ cs,w6.heap[bb]? = some (.cells cs 102 (0,0)))∧KnOk (gn.lev.map (·.1)) (qd cf.metric xs L) (srR cf gn L xs F (max k beam)).1∧(∀ x ∈ (srR cf gn L xs F (max k beam)).2,x.1 ∈ gn.lev.map (·.1)∧x.2 = qd cf.metric xs L x.1)):=fun w6 v6 hb6 hr6 hf6=>by
    rw [HSRE.out]
    obtain ⟨csb,hcsb⟩:=HTS.out
    have hbl:=((H.out.below HB5.out).look HCB5.out ((HB5.out.block _ (heap_lt hcsb)).trans hcsb) (gn.looks + (sr.1.length:Int)))
    have hsz:(w5.setCell ⟨bb,8,none⟩ (.int .i64 (gn.looks + (sr.1.length:Int)))).heap.size = w5.heap.size:=by simp [World.setCell]
    have hb6':Below (w5.setCell ⟨bb,8,none⟩ (.int .i64 (gn.looks + (sr.1.length:Int)))).heap.size (w5.setCell ⟨bb,8,none⟩ (.int .i64 (gn.looks + (sr.1.length:Int)))) w6:=by rw [hsz]; exact hb6
    have hk5:Kept (fun k=>k = bb) w (w5.setCell ⟨bb,8,none⟩ (.int .i64 (gn.looks + (sr.1.length:Int)))):=(Kept.of_below (fun k=>k = bb) HB5.out).setCell (p:=⟨bb,8,none⟩) (fun _=>rfl) _
    exact ⟨v6,rfl,hr6,hf6,hbl.below hb6',hk5.below hb6',⟨_,(hb6'.block _ (by rw [hsz]; exact heap_lt HCB5.out)).trans (heap_setCell_same _ _ _ _ _ _ HCB5.out)⟩,HK5.out,HX5.out⟩
  rcases hcase with ⟨hnil,rfl⟩ | ⟨g5,c5,rfl,hgc⟩
  · have hmk:(min k 0).toNat = 0:=by omega
    have hcl:=fun W=>cloneH_nil W
    have HCL:=hide hcl
    have HNIL:=hide hnil
    clear hcl hnil
    go_wp2
    go_region_with (first | (go_at_call 59; refine HLK.out.mono ?_; rintro e6 w6 ⟨rfl,rfl⟩))
    all_goals go_wp2_with fail
    all_goals refine (HCL.out _).mono ?_
    all_goals (rintro e7 w7 ⟨rfl,rfl⟩)
    all_goals go_wp2
    all_goals go_ret2
    all_goals (refine HEND.out _ _ ((Below.refl _ _).drew) ?_ (fun g e=>by simp [Value.ownBlock] at e))
    all_goals (rw [HNIL.out,List.take_nil]; exact ⟨rfl,.inl ⟨rfl,rfl⟩⟩)
  · have hml:((sr.2.take (min k (sr.2.length:Int)).toNat)).length = (min k (ln:Int)).toNat:=by
      rw [List.length_take,HLN.out]
      omega
    have hcl:=fun W (hr:HRow W (.slice (some ⟨g5,0,none⟩) sr.2.length c5) sr.2)=>cloneH (some ⟨g5,0,none⟩) (sr.2.take (min k (sr.2.length:Int)).toNat) c5 W (by rw [hml]; omega) ⟨g5,rfl,hcells_take_src hr⟩
    rw [hml] at hcl
    have hr6:HRow (w5.setCell ⟨bb,8,none⟩ (.int .i64 (gn.looks + (sr.1.length:Int)))).drew (.slice (some ⟨g5,0,none⟩) sr.2.length c5) sr.2:=by
      have h5:HRow w5 (.slice (some ⟨g5,0,none⟩) sr.2.length c5) sr.2:=by
        rw [HLN.out]; exact HR5.out
      refine ownsRow_of_block h5 fun g e=>?_
      show (w5.setCell ⟨bb,8,none⟩ _).heap[g]? = _
      exact Below.heap_setCell _ _ _ _ (fun e2=>row_ne h5 HCB5.out (by decide) (by rw [e,e2]))
    have HCL:=hide (hcl _ hr6)
    have HSZ:Hid ((w5.setCell ⟨bb,8,none⟩ (.int .i64 (gn.looks + (sr.1.length:Int)))).drew.heap.size = w5.heap.size):=by
      show _ = _
      simp [World.setCell]
    clear hcl hr6 hml
    go_wp2
    go_region_with (first | (go_at_call 59; refine HLK.out.mono ?_; rintro e6 w6 ⟨rfl,rfl⟩))
    all_goals go_wp2_with fail
    all_goals refine HCL.out.mono ?_
    all_goals (rintro e7 w7 ⟨v7,rfl,r7,f7,b7⟩)
    all_goals (have hb7:Below w5.heap.size (w5.setCell ⟨bb,8,none⟩ (.int .i64 (gn.looks + (sr.1.length:Int)))) w7:=by { rw [HSZ.out] at b7; exact ((Below.refl _ _).drew).trans b7 })
    all_goals (have HE7:=hide (HEND.out w7 v7 hb7 r7 (fun g e=>by have h1:=f7 g e; rw [HSZ.out] at h1; have:=HB5.out.size; omega)))
    all_goals (clear r7 f7 b7 hb7)
    all_goals go_wp2
    all_goals go_ret2
    all_goals exact HE7.out
end
section

def hle (a b:Hit):Prop:=a.2 < b.2 ∨ (a.2 = b.2∧a.1≤b.1)
theorem hle_refl (a:Hit):hle a a:=.inr ⟨rfl,Int.le_refl _⟩
theorem hle_trans {a b c:Hit} (h1:hle a b) (h2:hle b c):hle a c:=by unfold hle at *; omega
theorem hle_total (a b:Hit):hle a b ∨ hle b a:=by unfold hle; omega
theorem farB_iff (a b:Hit):farB a b = true ↔ ¬ hle a b:=by
  unfold farB cmpH orI cmpI hle
  rw [decide_eq_true_iff]
  by_cases h1:a.2 < b.2
  · simp [h1]
  · by_cases h2:b.2 < a.2
    · simp [h1,h2]; omega
    · by_cases h3:a.1 < b.1
      · simp [h1,h2,h3]; omega
      · by_cases h4:b.1 < a.1
        · simp [h1,h2,h3,h4] <;> omega
        · simp [h1,h2,h3,h4] <;> omega
theorem far_false {a b:Hit} (h:¬ farB a b = true):hle a b:=by
  rw [farB_iff] at h
  exact Classical.not_not.1 h
theorem far_true {a b:Hit} (h:farB a b = true):hle b a:=(hle_total b a).resolve_right ((farB_iff a b).1 h)

theorem nth_setAt {l:List Hit} {a k:Nat} {x:Hit} (ha:a < l.length):nth (l.set a x) k = if k = a then x else nth l k:=by
  unfold nth
  rw [List.getD_eq_getElem?_getD,List.getD_eq_getElem?_getD]
  by_cases h:k = a
  · subst h
    rw [if_pos rfl,List.getElem?_set_self ha]; rfl
  · rw [if_neg h,List.getElem?_set_ne (fun e=>h e.symm)]
theorem nth_swap {l:List Hit} {a b k:Nat} (ha:a < l.length) (hb:b < l.length):nth (swapL l a b) k = if k = b then nth l a else if k = a then nth l b else nth l k:=by
  unfold swapL
  rw [nth_setAt (by rw [List.length_set]; exact hb),nth_setAt ha]

def Hp (l:List Hit):Prop:=∀ i,0 < i→i < l.length→hle (nth l i) (nth l ((i - 1) / 2))
theorem Hp.top {l:List Hit} (h:Hp l):∀ i,i < l.length→hle (nth l i) (nth l 0):=by
  intro i
  induction i using Nat.strongRecOn with
  | ind i ih =>
    intro hi
    rcases Nat.eq_zero_or_pos i with h0 | h0
    · subst h0; exact hle_refl _
    · exact hle_trans (h i h0 hi) (ih ((i - 1) / 2) (by omega) (by omega))
theorem upL_heap:∀ (n a:Nat) (l:List Hit),a < l.length→a < n→(∀ i,0 < i→i < l.length→i ≠ a→hle (nth l i) (nth l ((i - 1) / 2)))→(∀ i,0 < i→i < l.length→(i - 1) / 2 = a→0 < a→hle (nth l i) (nth l ((a - 1) / 2)))→Hp (upL 150 n l a)
  | 0,_,_,_,hn,_,_=>absurd hn (Nat.not_lt_zero _)
  | n + 1,a,l,ha,hn,h1,h2=>by
    unfold upL
    split
    · rename_i h0
      intro i hi hl
      exact h1 i hi hl (by omega)
    · rename_i h0
      have hp:(a - 1) / 2 < a:=by omega
      split
      · rename_i hf
        have hf':hle (nth l ((a - 1) / 2)) (nth l a):=far_true hf
        refine upL_heap n ((a - 1) / 2) _ (by rw [swapL_length]; omega) (by omega) (fun i hi hl hne=>?_) (fun i hi hl hpi hp0=>?_)
        · rw [swapL_length] at hl
          rw [nth_swap ha (by omega),nth_swap ha (by omega),if_neg hne]
          by_cases hia:i = a
          · subst hia
            rw [if_pos rfl,if_pos rfl]; exact hf'
          · rw [if_neg hia]
            by_cases hpp:(i - 1) / 2 = (a - 1) / 2
            · rw [if_pos hpp]
              have:=h1 i hi hl hia
              rw [hpp] at this
              exact hle_trans this hf'
            · rw [if_neg hpp]
              by_cases hpa:(i - 1) / 2 = a
              · rw [if_pos hpa]
                exact h2 i hi hl hpa (by omega)
              · rw [if_neg hpa]
                exact h1 i hi hl hia
        · rw [swapL_length] at hl
          have hpp:=h1 ((a - 1) / 2) hp0 (by omega) (by omega)
          rw [nth_swap ha (by omega),nth_swap ha (by omega),if_neg (show ¬ i = (a - 1) / 2 by omega),if_neg (show ¬ ((a - 1) / 2 - 1) / 2 = (a - 1) / 2 by omega),if_neg (show ¬ ((a - 1) / 2 - 1) / 2 = a by omega)]
          by_cases hia:i = a
          · rw [if_pos hia]; exact hpp
          · rw [if_neg hia]
            have:=h1 i hi hl hia
            rw [hpi] at this
            exact hle_trans this hpp
      · rename_i hf
        intro i hi hl
        by_cases hia:i = a
        · subst hia; exact far_false hf
        · exact h1 i hi hl hia
theorem nth_append_left {l m:List Hit} {k:Nat} (h:k < l.length):nth (l ++ m) k = nth l k:=by
  unfold nth
  rw [List.getD_eq_getElem?_getD,List.getD_eq_getElem?_getD,List.getElem?_append_left h]
theorem pushL_heap {l:List Hit} (h:Hp l) (x:Hit):Hp (pushL 150 l x):=by
  unfold pushL
  refine upL_heap _ _ _ (by simp) (by omega) (fun i hi hl hne=>?_) (fun i hi hl hp h0=>?_)
  · simp at hl
    rw [nth_append_left (by omega),nth_append_left (by omega)]
    exact h i hi (by omega)
  · simp at hl
    omega
theorem pick_le {l:List Hit} {a b:Nat}:hle (nth l a) (nth l (pickL 150 l a b))∧(b < l.length→hle (nth l b) (nth l (pickL 150 l a b))):=by
  unfold pickL
  split
  · rename_i h
    exact ⟨far_true h.2,fun _=>hle_refl _⟩
  · rename_i h
    refine ⟨hle_refl _,fun hb=>far_false (fun hf=>h ⟨hb,hf⟩)⟩
theorem downL_heap:∀ (n a:Nat) (l:List Hit),a < l.length→l.length≤a + n→(∀ i,0 < i→i < l.length→(i - 1) / 2 ≠ a→hle (nth l i) (nth l ((i - 1) / 2)))→(∀ i,0 < i→i < l.length→(i - 1) / 2 = a→0 < a→hle (nth l i) (nth l ((a - 1) / 2)))→Hp (downL 150 n l a)
  | 0,a,l,ha,hn,_,_=>absurd hn (by omega)
  | n + 1,a,l,ha,hn,h1,h2=>by
    have p1:=pick_le (l:=l) (a:=a) (b:=2 * a + 1)
    have p2:=pick_le (l:=l) (a:=pickL 150 l a (2 * a + 1)) (b:=2 * a + 2)
    have ha2:hle (nth l a) (nth l (pickL 150 l (pickL 150 l a (2 * a + 1)) (2 * a + 2))):=hle_trans p1.1 p2.1
    have hch:∀ i,0 < i→i < l.length→(i - 1) / 2 = a→hle (nth l i) (nth l (pickL 150 l (pickL 150 l a (2 * a + 1)) (2 * a + 2))):=fun i hi hl hp=>by
      have:i = 2 * a + 1 ∨ i = 2 * a + 2:=by omega
      rcases this with rfl | rfl
      · exact hle_trans (p1.2 hl) p2.1
      · exact p2.2 hl
    have hfl:pickL 150 l (pickL 150 l a (2 * a + 1)) (2 * a + 2) < l.length:=pickL_lt (pickL_lt ha)
    have hfc:pickL 150 l (pickL 150 l a (2 * a + 1)) (2 * a + 2) = a ∨ pickL 150 l (pickL 150 l a (2 * a + 1)) (2 * a + 2) = 2 * a + 1 ∨ pickL 150 l (pickL 150 l a (2 * a + 1)) (2 * a + 2) = 2 * a + 2:=by
      rcases pickL_or 150 l (pickL 150 l a (2 * a + 1)) (2 * a + 2) with h | h
      · rcases pickL_or 150 l a (2 * a + 1) with h' | h'
        · rw [h,h']; exact .inl rfl
        · rw [h,h']; exact .inr (.inl rfl)
      · rw [h]; exact .inr (.inr rfl)
    unfold downL
    generalize pickL 150 l (pickL 150 l a (2 * a + 1)) (2 * a + 2) = f at ha2 hch hfl hfc
    split
    · rename_i hfa
      subst hfa
      intro i hi hl
      by_cases hp:(i - 1) / 2 = f
      · rw [hp]; exact hch i hi hl hp
      · exact h1 i hi hl hp
    · rename_i hfa
      have hfp:(f - 1) / 2 = a∧a < f:=by omega
      refine downL_heap n f _ (by rw [swapL_length]; exact hfl) (by rw [swapL_length]; omega) (fun i hi hl hne=>?_) (fun i hi hl hpi h0=>?_)
      · rw [swapL_length] at hl
        rw [nth_swap ha hfl,nth_swap ha hfl,if_neg hne]
        by_cases hif:i = f
        · subst hif
          rw [if_pos rfl,if_pos hfp.1]; exact ha2
        · rw [if_neg hif]
          by_cases hia:i = a
          · subst hia
            rw [if_pos rfl,if_neg (show ¬ (i - 1) / 2 = i by omega)]
            exact h2 f (by omega) hfl hfp.1 hi
          · rw [if_neg hia]
            by_cases hpa:(i - 1) / 2 = a
            · rw [if_pos hpa]; exact hch i hi hl hpa
            · rw [if_neg hpa]; exact h1 i hi hl hpa
      · rw [swapL_length] at hl
        rw [nth_swap ha hfl,nth_swap ha hfl,if_neg (show ¬ i = f by omega),if_neg (show ¬ i = a by omega),if_neg (show ¬ (f - 1) / 2 = f by omega),if_pos hfp.1]
        have:=h1 i hi hl (by omega)
        rw [hpi] at this
        exact this
theorem nth_take {l:List Hit} {n k:Nat} (h:k < n):nth (l.take n) k = nth l k:=by
  unfold nth
  rw [List.getD_eq_getElem?_getD,List.getD_eq_getElem?_getD,List.getElem?_take_of_lt h]
theorem popL_heap {l:List Hit} (h:Hp l):Hp (popL 150 l):=by
  unfold popL
  rcases Nat.lt_or_ge 1 l.length with hl | hl
  · refine downL_heap _ 0 _ (by simp; omega) (by simp) (fun i hi hil hne=>?_) (fun i hi hil hp h0=>absurd h0 (Nat.lt_irrefl _))
    simp at hil
    rw [nth_take (by omega),nth_take (by omega),nth_setAt (by omega),nth_setAt (by omega),if_neg (by omega),if_neg hne]
    exact h i hi (by omega)
  · intro i hi hil
    rw [downL_length] at hil
    simp at hil
    omega
theorem set_set_permL {l:List Hit} {a b:Nat} (ha:a < l.length) (hb:b < l.length):(swapL l a b).Perm l:=by
  unfold swapL nth
  rw [List.getD_eq_getElem?_getD,List.getD_eq_getElem?_getD,List.getElem?_eq_getElem ha,List.getElem?_eq_getElem hb]
  exact List.set_set_perm ha hb
theorem upL_perm {fk:Nat}:∀ (n a:Nat) (l:List Hit),a < l.length→(upL fk n l a).Perm l
  | 0,_,_,_=>List.Perm.refl _
  | n + 1,a,l,ha=>by
    unfold upL
    split
    · exact List.Perm.refl _
    · split
      · exact (upL_perm n _ _ (by rw [swapL_length]; omega)).trans (set_set_permL ha (by omega))
      · exact List.Perm.refl _
theorem downL_perm {fk:Nat}:∀ (n a:Nat) (l:List Hit),a < l.length→(downL fk n l a).Perm l
  | 0,_,_,_=>List.Perm.refl _
  | n + 1,a,l,ha=>by
    unfold downL
    split
    · exact List.Perm.refl _
    · exact (downL_perm n _ _ (by rw [swapL_length]; exact pickL_lt (pickL_lt ha))).trans (set_set_permL ha (pickL_lt (pickL_lt ha)))
theorem pushL_perm {fk:Nat} (l:List Hit) (x:Hit):(pushL fk l x).Perm (x :: l):=by
  unfold pushL
  exact (upL_perm _ _ _ (by simp)).trans (List.perm_append_singleton x l)
theorem popL_perm {fk:Nat} {x:Hit} {l:List Hit}:(popL fk (x :: l)).Perm l:=by
  unfold popL
  rcases List.eq_nil_or_concat l with rfl | ⟨m,y,rfl⟩
  · simp [downL]
  · have e1:nth (x :: (m ++ [y])) ((x :: (m ++ [y])).length - 1) = y:=by
      unfold nth
      simp [List.getD_eq_getElem?_getD]
    have e2:((x :: (m ++ [y])).set 0 y).take ((x :: (m ++ [y])).length - 1) = y :: m:=by
      simp
    rw [List.concat_eq_append] at *
    rw [e1,e2]
    exact (downL_perm _ _ _ (by simp)).trans (List.perm_append_singleton y m).symm
theorem drainL_perm:∀ (n:Nat) (l:List Hit),n = l.length→(drainL n l).Perm l
  | 0,l,h=>by
    rw [List.eq_nil_of_length_eq_zero h.symm]; exact List.Perm.refl _
  | n + 1,[],h=>by cases h
  | n + 1,x :: l,h=>by
    unfold drainL
    have hp:=popL_perm (fk:=150) (x:=x) (l:=l)
    have:=drainL_perm n (popL 150 (x :: l)) (by rw [hp.length_eq]; simpa using h)
    have e:nth (x :: l) 0 = x:=rfl
    rw [e]
    exact (List.perm_append_singleton x _).trans ((this.trans hp).cons x)
theorem drainL_sorted:∀ (n:Nat) (l:List Hit),n = l.length→Hp l→(drainL n l).Pairwise hle
  | 0,_,_,_=>List.Pairwise.nil
  | n + 1,l,h,hh=>by
    unfold drainL
    rw [List.pairwise_append]
    refine ⟨drainL_sorted n _ (by rw [popL_length]; omega) (popL_heap hh),List.pairwise_singleton _ _,fun a ha b hb=>?_⟩
    rw [List.mem_singleton.1 hb]
    have hm:=mem_popL (mem_drainL (by rw [popL_length]; omega) ha)
    obtain ⟨i,hi,rfl⟩:=List.getElem_of_mem hm
    have:=hh.top i hi
    unfold nth at this
    rw [List.getD_eq_getElem?_getD,List.getElem?_eq_getElem hi] at this
    exact this
end
end Go.Proofs.YtpkiefjanmfgfaaGreatDoor
