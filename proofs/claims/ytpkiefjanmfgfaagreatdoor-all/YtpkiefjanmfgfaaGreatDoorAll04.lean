import Derived.BigRegion
import Derived.Test.YtpkiefjanmfgfaaGreatDoorAll02
import Derived.Test.YtpkiefjanmfgfaaGreatDoorAll03
namespace Go.Proofs.YtpkiefjanmfgfaaGreatDoor
section
open Go.RowKit Go.Maps

theorem drop_zero {Ls Ms:List LEnt} {p:Int × Int} {er:List Int} (h1:lkOf Ms = upd (lkOf Ls) p er) (h2:∀ e ∈ Ms,e.pl ≠ p→e ∈ Ls) (h0:er.length = 0) :
    lkOf (ldel p Ms) = upd (lkOf Ls) p er∧(∀ e' ∈ ldel p Ms,∃ e ∈ Ls,e.g = e'.g)∧(FullL Ls→FullL (ldel p Ms)):=by
  have hm:∀ e ∈ ldel p Ms,e ∈ Ls:=fun e he=>h2 e (List.mem_filter.1 he).1 (by simpa using (List.mem_filter.1 he).2)
  refine ⟨?_,fun e he=>⟨e,hm e he,rfl⟩,fun hf e he=>hf e (hm e he)⟩
  rw [lkOf_del,h1,List.eq_nil_of_length_eq_zero h0]
  funext q
  unfold upd
  split <;> rfl
theorem drop_more {Ls Ms:List LEnt} {p:Int × Int} {er:List Int} (h2:∀ e ∈ Ms,e.pl ≠ p→e ∈ Ls) (h4:∀ e ∈ Ms,e.pl = p→e.xs = er) (h0:er.length ≠ 0) :
    FullL Ls→FullL Ms:=by
  intro hf e he
  by_cases h:e.pl = p
  · rw [h4 e he h]
    intro e2
    rw [e2] at h0
    exact h0 rfl
  · exact hf e (h2 e he h)

set_option maxHeartbeats 4000000 in
set_option maxRecDepth 20000 in
theorem drop152 (bg bl bk:Nat) (cv:Value) (lev:List (Int × Int)) (Ls:List LEnt) (ch:List Int) (i j x:Int) (w:World) (h:GRaw w bg bl bk cv lev Ls ch) (hi:I64 i) (hj:I64 j) (hn:Ls.length < 100000)
    (hl:(lkOf Ls (i,j)).length≤1000) (hs:(lkOf Ls (i,j)).Pairwise (·≤·)) :
    Calls Tryz.prog 162 #[.pointer (some ⟨bg,0,none⟩),.agg #[.int .i64 i,.int .i64 j],.int .i64 x] w fun ev w'=>ev = .returned (.tuple #[]) ∧
      ∃ Ls',GRaw w' bg bl bk cv lev Ls' ch∧lkOf Ls' = upd (lkOf Ls) (i,j) (delS (lkOf Ls (i,j)) x)∧Kept (fun k=>k = bk ∨ (oldv Ls (i,j)).ownBlock = some k) w w'∧(∀ e' ∈ Ls',∃ e ∈ Ls,e.g = e'.g)∧(FullL Ls→FullL Ls'):=by
  have hS:PlS w bg bl bk cv lev Ls ch w.heap.size i j (w.alloc (.cells #[.int .i64 i,.int .i64 j] 218)) :=
    ⟨h.below ((Below.refl _ _).alloc (Nat.le_refl _) _),heap_alloc_new _ _,(Below.refl _ _).alloc (Nat.le_refl _) _,hi,hj⟩
  have HOLD:=hide (fun k (e:(oldv Ls (i,j)).ownBlock = some k)=>h.flt (k:=k) (by obtain ⟨e0,he0,_,hg0⟩:=h.old_own e; exact .inr (.inr (.inr (.inr ⟨e0,he0,hg0⟩)))))
  have HOM:=hide (fun k (e:(oldv Ls (i,j)).ownBlock = some k)=>h.old_own e)
  have HNU:=hide (fun e (he:e ∈ Ls)=>h.lfind_self he)
  clear h
  go_enter Tryz.func162,Tryz.ntmps162
  go_wp2_with fail
  generalize w.alloc (.cells #[.int .i64 i,.int .i64 j] 218) = w1 at hS ⊢
  have hsr:=search163 (oldv Ls (i,j)) (lkOf Ls (i,j)) x w1.drew (hS.drew.1.old_row (i,j)) hl hs
  have HSR:=hide hsr
  clear hsr
  have HL:=hide hl
  have HI:=hide hi
  have HJ:=hide hj
  clear hl hs hi hj
  go_region_held3 (fun wx=>wx.cell? ⟨bg,1,none⟩ = some (.map (some bk))∧wx.cell? ⟨w.heap.size,0,none⟩ = some (.int .i64 i)∧wx.cell? ⟨w.heap.size,1,none⟩ = some (.int .i64 j) ∧
    (Instr.lookup 188 (.map (some bk)) (.agg #[.int .i64 i,.int .i64 j]) false).run Tryz.prog wx = .ok (oldv Ls (i,j)) wx)
    ((first | with_reducible exact hS.drew.reads | with_reducible exact (PlS.drewN hS (1 + q)).reads))
    (first
      | (go_at_call 176; refine HSR.out.mono ?_; rintro e2 w2 ⟨rfl,q,rfl⟩; have hq0:=0))
  have hS2:=PlS.drewN hS (1 + q)
  generalize w1.drewN (1 + q) = w2 at hS2 ⊢
  clear hS HSR hq0
  have htail:∀ (w3:World) (Ms:List LEnt) (ac:Act),PlS w bg bl bk cv lev Ms ch w.heap.size i j w3→True:=fun _ _ _ _=>trivial
  clear htail
  by_cases hm:x ∈ lkOf Ls (i,j)
  · rw [show decide (x ∈ lkOf Ls (i,j)) = true by simpa using hm]
    have hcl:cntI (lkOf Ls (i,j)) x < (lkOf Ls (i,j)).length:=by
      unfold cntI
      rcases Nat.lt_or_ge (List.countP (fun y=>decide (y < x)) (lkOf Ls (i,j))) (lkOf Ls (i,j)).length with h | h
      · exact h
      · have:=List.countP_eq_length.1 (Nat.le_antisymm List.countP_le_length h) x hm
        simp at this
    have hw1:IntKind.i64.wrap ((cntI (lkOf Ls (i,j)) x:Int) + 1) = (cntI (lkOf Ls (i,j)) x:Int) + 1:=by
      have:=HL.out
      rw [IntKind.wrap_i64]; omega
    generalize hcc:cntI (lkOf Ls (i,j)) x = cc at hcl hw1
    have hfind:∃ e0,lfind (i,j) Ls = some e0:=by
      cases hf:lfind (i,j) Ls with
      | none=>unfold lkOf at hm; rw [hf] at hm; simp at hm
      | some e0=>exact ⟨e0,rfl⟩
    obtain ⟨e0,hf⟩:=hfind
    have hov:oldv Ls (i,j) = .slice (some ⟨e0.g,0,none⟩) (lkOf Ls (i,j)).length e0.cap:=by unfold oldv lkOf; rw [hf]; rfl
    have hxs:lkOf Ls (i,j) = e0.xs:=by unfold lkOf; rw [hf]; rfl
    have hrow2:Pts w2.drew e0.g e0.cap (lkOf Ls (i,j)):=by rw [hxs]; exact hS2.drew.1.row e0 (lfind_mem hf).1
    have hdel:=delete164 e0.g e0.cap (lkOf Ls (i,j)) cc w2.drew hrow2 hcl HL.out
    have hdelA:Calls Tryz.prog 177 #[lookV w2.drew bk i j,.int .i64 cc,.int .i64 ((cc:Int) + 1)] w2.drew fun ev w'=>ev = .returned (.slice (some ⟨e0.g,0,none⟩) ((lkOf Ls (i,j)).eraseIdx cc).length e0.cap)∧Pts w' e0.g e0.cap ((lkOf Ls (i,j)).eraseIdx cc)∧Kept (fun k=>k = e0.g) w2.drew w':=by
      rw [lookV_eq hS2.drew.1 HI.out HJ.out,hov]; exact hdel
    have hset:∀ (w3:World),Pts w3 e0.g e0.cap ((lkOf Ls (i,j)).eraseIdx cc)→Kept (fun k=>k = e0.g) w2.drew w3 →
        ∃ w4,(Instr.mapUpdate 188 (.map (some bk)) (.agg #[.int .i64 i,.int .i64 j]) (.slice (some ⟨e0.g,0,none⟩) ((lkOf Ls (i,j)).eraseIdx cc).length e0.cap)).run Tryz.prog w3 = .ok () w4∧GRaw w4 bg bl bk cv lev (⟨(i,j),(lkOf Ls (i,j)).eraseIdx cc,e0.g,e0.cap⟩ :: ldel (i,j) Ls) ch∧Kept (fun k=>k = bk ∨ (oldv Ls (i,j)).ownBlock = some k) w2.drew w4 :=
      fun w3 hr hk=>GRaw.set hS2.drew.1 (i,j) ⟨HI.out,HJ.out⟩ hn hr (hk.mono (fun k _ e=>by rw [hov,e]; rfl)) (.inl (by rw [hov]; rfl))
    have hne0:=hS2.1.g_ne (lfind_mem hf).1
    have hg0:=HOLD.out e0.g (by rw [hov]; rfl)
    have HBX:Hid (∀ w4,Kept (fun k=>k = bk ∨ (oldv Ls (i,j)).ownBlock = some k) w2.drew w4→w4.heap[w.heap.size]? = some (.cells #[.int .i64 i,.int .i64 j] 218 (0,0))):=fun w4 hk =>
      (hk.block _ (heap_lt hS2.drew.2.1) (fun e=>e.elim (fun e=>hS2.drew.1.lnk.not_cells hS2.drew.2.1 e) (fun e=>by have:=HOLD.out _ e; omega))).trans hS2.drew.2.1
    have HDEL:=hide hdelA
    have HSET:=hide hset
    have HNE:=hide hne0
    have HG0:=hide hg0
    have HS2:=hide hS2
    have HA:=hide hS2.drew.readsV
    have HCC:=hide hcc
    have HM:=hide hm
    have HOV:=hide hov
    have HE0:=hide (lfind_mem hf)
    clear hS2 hdel hdelA hset hrow2 hxs hov hf hcc hm hne0 hg0
    go_wp2_with fail
    go_region_held3 (fun wx=>wx.cell? ⟨bg,1,none⟩ = some (.map (some bk))∧wx.cell? ⟨w.heap.size,0,none⟩ = some (.int .i64 i)∧wx.cell? ⟨w.heap.size,1,none⟩ = some (.int .i64 j) ∧
    (Instr.lookup 188 (.map (some bk)) (.agg #[.int .i64 i,.int .i64 j]) false).run Tryz.prog wx = .ok (lookV wx bk i j) wx)
      ((first | with_reducible exact HA.out | with_reducible exact HR4.out | with_reducible exact HR3.out))
      (first
        | (go_at_call 177; (with_reducible refine HDEL.out.mono ?_); rintro e3 w3 ⟨rfl,hp3,hk3⟩; obtain ⟨w4,hrun,hraw,hkk⟩:=HSET.out w3 hp3 hk3; have HR4:=hide (readsV_am hraw.c1 hraw.lnk (HBX.out w4 hkk) HI.out HJ.out); have HR3:=hide (PlS.readsK HS2.out.drew hk3 (fun e=>HNE.out.1 e.symm) (fun e=>HNE.out.2.2 e.symm) (fun e=>by have:=HG0.out; omega)); have HRAW:=hide hraw; have HKK:=hide hkk; clear hp3 hk3 hraw hkk))
    have hT:PlS w4 bg bl bk cv lev (⟨(i,j),(lkOf Ls (i,j)).eraseIdx cc,e0.g,e0.cap⟩ :: ldel (i,j) Ls) ch w.heap.size i j w4:=⟨HRAW.out,HBX.out w4 HKK.out,Below.refl _ _,HI.out,HJ.out⟩
    have hms1:lkOf (⟨(i,j),(lkOf Ls (i,j)).eraseIdx cc,e0.g,e0.cap⟩ :: ldel (i,j) Ls) = upd (lkOf Ls) (i,j) (delS (lkOf Ls (i,j)) x):=by rw [lkOf_put ⟨(i,j),_,_,_⟩,delS,if_pos HM.out,HCC.out]
    have hms2:∀ e ∈ (⟨(i,j),(lkOf Ls (i,j)).eraseIdx cc,e0.g,e0.cap⟩ :: ldel (i,j) Ls),e.pl ≠ (i,j)→e ∈ Ls:=fun e he hne=>by
      rcases List.mem_cons.1 he with rfl | he
      · exact absurd rfl hne
      · exact (List.mem_filter.1 he).1
    have hms3:∀ e ∈ (⟨(i,j),(lkOf Ls (i,j)).eraseIdx cc,e0.g,e0.cap⟩ :: ldel (i,j) Ls),∃ e0 ∈ Ls,e0.g = e.g:=fun e he=>by
      rcases List.mem_cons.1 he with rfl | he
      · exact ⟨e0,HE0.out.1,rfl⟩
      · exact ⟨e,(List.mem_filter.1 he).1,rfl⟩
    have hms4:∀ e ∈ (⟨(i,j),(lkOf Ls (i,j)).eraseIdx cc,e0.g,e0.cap⟩ :: ldel (i,j) Ls),e.pl = (i,j)→e.xs = delS (lkOf Ls (i,j)) x:=fun e he hp=>by
      rcases List.mem_cons.1 he with rfl | he
      · rw [delS,if_pos HM.out,HCC.out]
      · exact absurd hp (by simpa using (List.mem_filter.1 he).2)
    have hlen:(lkOf (⟨(i,j),(lkOf Ls (i,j)).eraseIdx cc,e0.g,e0.cap⟩ :: ldel (i,j) Ls) (i,j)).length = (delS (lkOf Ls (i,j)) x).length:=by rw [hms1]; simp [upd]
    have hkw:Kept (fun k=>k = bk ∨ (oldv Ls (i,j)).ownBlock = some k) w w4:=(Kept.of_below _ HS2.out.drew.2.2.1).trans HKK.out (fun _ _ e=>e)
    generalize (⟨(i,j),(lkOf Ls (i,j)).eraseIdx cc,e0.g,e0.cap⟩ :: ldel (i,j) Ls) = Ms at hT hms1 hms2 hms3 hms4 hlen
    obtain ⟨oa,oc,hoa,_⟩:=IRow_slice (hT.1.old_row (i,j))
    have hrd:=hT.drew.reads
    rw [hoa,hlen] at hrd
    have HM1:=hide hms1
    have HM2:=hide hms2
    have HM3:=hide hms3
    have HM4:=hide hms4
    have HKW:=hide hkw
    have HT5:=hide hT.drew
    have HRD:=hide hrd
    clear hT hrd hoa hms1 hms2 hms3 hms4 hlen hkw
    by_cases hz:(delS (lkOf Ls (i,j)) x).length = 0
    · rw [hz] at HRD
      have HZ:=hide hz
      clear hz
      go_wp2_with fail
      go_region_held3 (fun wx=>wx.cell? ⟨bg,1,none⟩ = some (.map (some bk))∧wx.cell? ⟨w.heap.size,0,none⟩ = some (.int .i64 i)∧wx.cell? ⟨w.heap.size,1,none⟩ = some (.int .i64 j) ∧
    (Instr.lookup 188 (.map (some bk)) (.agg #[.int .i64 i,.int .i64 j]) false).run Tryz.prog wx = .ok (.slice oa 0 oc) wx)
        ((with_reducible exact HRD.out)) (fail)
      clear HRD
      have HK5:Hid (Kept (fun k=>k = bk ∨ (oldv Ls (i,j)).ownBlock = some k) w w4.drew):=HKW.out.drew
      generalize w4.drew = w5 at HT5 HK5 ⊢
      obtain ⟨w6,hrun,hraw6,hk6⟩:=GRaw.unset HT5.out.drew.1 (i,j) ⟨HI.out,HJ.out⟩
      have hb6:w6.heap[w.heap.size]? = some (.cells #[.int .i64 i,.int .i64 j] 218 (0,0)):=(hk6.block _ (heap_lt HT5.out.drew.2.1) (HT5.out.drew.1.lnk.not_cells HT5.out.drew.2.1)).trans HT5.out.drew.2.1
      have HR6:Hid (w6.cell? ⟨bg,1,none⟩ = some (.map (some bk))∧w6.cell? ⟨w.heap.size,0,none⟩ = some (.int .i64 i)∧w6.cell? ⟨w.heap.size,1,none⟩ = some (.int .i64 j)):=⟨hraw6.c1,cells_at hb6 0 rfl,cells_at hb6 1 rfl⟩
      have HR5:=hide (And.intro HT5.out.drew.reads.1 (And.intro HT5.out.drew.reads.2.1 HT5.out.drew.reads.2.2.1))
      have HRAW6:=hide hraw6
      have HK6:=hide hk6
      clear hraw6 hk6 hb6
      simp only at hrun
      go_wp2_with fail
      go_region_held3 (fun wx=>wx.cell? ⟨bg,1,none⟩ = some (.map (some bk))∧wx.cell? ⟨w.heap.size,0,none⟩ = some (.int .i64 i)∧wx.cell? ⟨w.heap.size,1,none⟩ = some (.int .i64 j))
        ((first | with_reducible exact HR5.out | with_reducible exact HR6.out)) (fail)
      go_end0
      obtain ⟨q1,q2,q3⟩:=drop_zero HM1.out HM2.out HZ.out
      exact ⟨rfl,_,HRAW6.out,q1,HK5.out.trans ((Kept.refl _ w5).drew.trans (HK6.out) (fun _ _ e=>e)) (fun _ _ e=>.inl e),q2,q3⟩
    · have hz1:¬ ((delS (lkOf Ls (i,j)) x).length:Int) = 0:=by omega
      have HZ:=hide hz
      go_wp2_with fail
      go_region_held3 (fun wx=>wx.cell? ⟨bg,1,none⟩ = some (.map (some bk))∧wx.cell? ⟨w.heap.size,0,none⟩ = some (.int .i64 i)∧wx.cell? ⟨w.heap.size,1,none⟩ = some (.int .i64 j) ∧
    (Instr.lookup 188 (.map (some bk)) (.agg #[.int .i64 i,.int .i64 j]) false).run Tryz.prog wx = .ok (.slice oa (delS (lkOf Ls (i,j)) x).length oc) wx)
        ((with_reducible exact HRD.out)) (fail)
      go_wp2
      go_end0
      exact ⟨rfl,Ms,HT5.out.1,HM1.out,HKW.out.drew,HM3.out,drop_more HM2.out HM4.out HZ.out⟩
  · rw [show decide (x ∈ lkOf Ls (i,j)) = false by simpa using hm]
    have HM:=hide hm
    have HS2:=hide hS2
    clear hm hS2
    have hT:PlS w2 bg bl bk cv lev (Ls) ch w.heap.size i j w2:=⟨HS2.out.1,HS2.out.2.1,Below.refl _ _,HI.out,HJ.out⟩
    have hms1:lkOf (Ls) = upd (lkOf Ls) (i,j) (delS (lkOf Ls (i,j)) x):=by
      funext q'
      by_cases e:q' = (i,j)
      · rw [e]; simp only [upd,if_true]; rw [delS,if_neg HM.out]
      · simp only [upd,if_neg e]
    have hms2:∀ e ∈ (Ls),e.pl ≠ (i,j)→e ∈ Ls:=fun e he _=>he
    have hms3:∀ e ∈ (Ls),∃ e0 ∈ Ls,e0.g = e.g:=fun e he=>⟨e,he,rfl⟩
    have hms4:∀ e ∈ (Ls),e.pl = (i,j)→e.xs = delS (lkOf Ls (i,j)) x:=fun e he hp=>by
      rw [delS,if_neg HM.out]
      unfold lkOf
      have:=HNU.out e he
      rw [hp] at this
      rw [this]
      rfl
    have hlen:(lkOf (Ls) (i,j)).length = (delS (lkOf Ls (i,j)) x).length:=by rw [delS,if_neg HM.out]
    have hkw:Kept (fun k=>k = bk ∨ (oldv Ls (i,j)).ownBlock = some k) w w2:=Kept.of_below _ HS2.out.2.2.1
    obtain ⟨Ms,hMs⟩:∃ Ms,Ms = Ls:=⟨_,rfl⟩
    rw [← hMs] at hT
    clear hlen
    have hlen:(lkOf Ms (i,j)).length = (delS (lkOf Ls (i,j)) x).length:=by rw [hMs,delS,if_neg HM.out]
    rw [show (∀ e ∈ Ls,e.pl ≠ (i,j)→e ∈ Ls) = (∀ e ∈ Ms,e.pl ≠ (i,j)→e ∈ Ls) by rw [hMs]] at hms2
    rw [show (∀ e ∈ Ls,∃ e0 ∈ Ls,e0.g = e.g) = (∀ e ∈ Ms,∃ e0 ∈ Ls,e0.g = e.g) by rw [hMs]] at hms3
    rw [show (∀ e ∈ Ls,e.pl = (i,j)→e.xs = delS (lkOf Ls (i,j)) x) = (∀ e ∈ Ms,e.pl = (i,j)→e.xs = delS (lkOf Ls (i,j)) x) by rw [hMs]] at hms4
    rw [show (lkOf Ls = upd (lkOf Ls) (i,j) (delS (lkOf Ls (i,j)) x)) = (lkOf Ms = upd (lkOf Ls) (i,j) (delS (lkOf Ls (i,j)) x)) by rw [hMs]] at hms1
    clear hMs
    obtain ⟨oa,oc,hoa,_⟩:=IRow_slice (hT.1.old_row (i,j))
    have hrd:=hT.drew.reads
    rw [hoa,hlen] at hrd
    have HM1:=hide hms1
    have HM2:=hide hms2
    have HM3:=hide hms3
    have HM4:=hide hms4
    have HKW:=hide hkw
    have HT5:=hide hT.drew
    have HRD:=hide hrd
    clear hT hrd hoa hms1 hms2 hms3 hms4 hlen hkw
    by_cases hz:(delS (lkOf Ls (i,j)) x).length = 0
    · rw [hz] at HRD
      have HZ:=hide hz
      clear hz
      go_wp2_with fail
      go_region_held3 (fun wx=>wx.cell? ⟨bg,1,none⟩ = some (.map (some bk))∧wx.cell? ⟨w.heap.size,0,none⟩ = some (.int .i64 i)∧wx.cell? ⟨w.heap.size,1,none⟩ = some (.int .i64 j) ∧
    (Instr.lookup 188 (.map (some bk)) (.agg #[.int .i64 i,.int .i64 j]) false).run Tryz.prog wx = .ok (.slice oa 0 oc) wx)
        ((with_reducible exact HRD.out)) (fail)
      clear HRD
      have HK5:Hid (Kept (fun k=>k = bk ∨ (oldv Ls (i,j)).ownBlock = some k) w w2.drew):=HKW.out.drew
      generalize w2.drew = w5 at HT5 HK5 ⊢
      obtain ⟨w6,hrun,hraw6,hk6⟩:=GRaw.unset HT5.out.drew.1 (i,j) ⟨HI.out,HJ.out⟩
      have hb6:w6.heap[w.heap.size]? = some (.cells #[.int .i64 i,.int .i64 j] 218 (0,0)):=(hk6.block _ (heap_lt HT5.out.drew.2.1) (HT5.out.drew.1.lnk.not_cells HT5.out.drew.2.1)).trans HT5.out.drew.2.1
      have HR6:Hid (w6.cell? ⟨bg,1,none⟩ = some (.map (some bk))∧w6.cell? ⟨w.heap.size,0,none⟩ = some (.int .i64 i)∧w6.cell? ⟨w.heap.size,1,none⟩ = some (.int .i64 j)):=⟨hraw6.c1,cells_at hb6 0 rfl,cells_at hb6 1 rfl⟩
      have HR5:=hide (And.intro HT5.out.drew.reads.1 (And.intro HT5.out.drew.reads.2.1 HT5.out.drew.reads.2.2.1))
      have HRAW6:=hide hraw6
      have HK6:=hide hk6
      clear hraw6 hk6 hb6
      simp only at hrun
      go_wp2_with fail
      go_region_held3 (fun wx=>wx.cell? ⟨bg,1,none⟩ = some (.map (some bk))∧wx.cell? ⟨w.heap.size,0,none⟩ = some (.int .i64 i)∧wx.cell? ⟨w.heap.size,1,none⟩ = some (.int .i64 j))
        ((first | with_reducible exact HR5.out | with_reducible exact HR6.out)) (fail)
      go_end0
      obtain ⟨q1,q2,q3⟩:=drop_zero HM1.out HM2.out HZ.out
      exact ⟨rfl,_,HRAW6.out,q1,HK5.out.trans ((Kept.refl _ w5).drew.trans (HK6.out) (fun _ _ e=>e)) (fun _ _ e=>.inl e),q2,q3⟩
    · have hz1:¬ ((delS (lkOf Ls (i,j)) x).length:Int) = 0:=by omega
      have HZ:=hide hz
      go_wp2_with fail
      go_region_held3 (fun wx=>wx.cell? ⟨bg,1,none⟩ = some (.map (some bk))∧wx.cell? ⟨w.heap.size,0,none⟩ = some (.int .i64 i)∧wx.cell? ⟨w.heap.size,1,none⟩ = some (.int .i64 j) ∧
    (Instr.lookup 188 (.map (some bk)) (.agg #[.int .i64 i,.int .i64 j]) false).run Tryz.prog wx = .ok (.slice oa (delS (lkOf Ls (i,j)) x).length oc) wx)
        ((with_reducible exact HRD.out)) (fail)
      go_wp2
      go_end0
      exact ⟨rfl,Ms,HT5.out.1,HM1.out,HKW.out.drew,HM3.out,drop_more HM2.out HM4.out HZ.out⟩
end
section

def Ris (xs:List Int):Prop:=xs.Pairwise (· < ·)
theorem Ris.le {xs:List Int} (h:Ris xs):xs.Pairwise (·≤·):=h.imp (fun h=>Int.le_of_lt h)

theorem cntI_cons (y:Int) (xs:List Int) (x:Int):cntI (y :: xs) x = cntI xs x + if y < x then 1 else 0:=by
  unfold cntI
  rw [List.countP_cons]
  simp

theorem cntI_zero {xs:List Int} {x:Int} (h:∀ y ∈ xs,¬ y < x):cntI xs x = 0:=by
  unfold cntI
  rw [List.countP_eq_zero]
  intro y hy
  simpa using h y hy

theorem take_cnt:∀ {xs:List Int} (x:Int),Ris xs→xs.take (cntI xs x) = xs.filter (fun y=>decide (y < x))∧xs.drop (cntI xs x) = xs.filter (fun y=>decide (¬ y < x))
  | [],x,_=>⟨rfl,rfl⟩
  | y :: xs,x,h=>by
    obtain ⟨h1,h2⟩:=List.pairwise_cons.1 h
    obtain ⟨i1,i2⟩:=take_cnt x h2
    rw [cntI_cons]
    by_cases hy:y < x
    · simp only [hy,if_true,List.take_succ_cons,List.drop_succ_cons,List.filter_cons,decide_true,not_true_eq_false,decide_false,Bool.false_eq_true,if_false]
      exact ⟨by rw [i1],i2⟩
    · have hz:cntI xs x = 0:=cntI_zero fun z hz=>by have:=h1 z hz; omega
      have e1:xs.filter (fun z=>decide (z < x)) = []:=by rw [← i1,hz]; rfl
      have e2:xs.filter (fun z=>decide (¬ z < x)) = xs:=by rw [← i2,hz]; rfl
      simp only [hy,if_false,hz,List.filter_cons,decide_false,not_false_eq_true,decide_true,if_true,Bool.false_eq_true]
      exact ⟨e1.symm,by rw [e2]; rfl⟩

theorem mem_insAt {xs:List Int} {i:Nat} {x y:Int}:y ∈ insAt xs i x ↔ y = x ∨ y ∈ xs:=by
  unfold insAt
  rw [List.mem_append,List.mem_cons]
  constructor
  · rintro (h | h | h)
    · exact .inr (List.mem_of_mem_take h)
    · exact .inl h
    · exact .inr (List.mem_of_mem_drop h)
  · rintro (h | h)
    · exact .inr (.inl h)
    · rw [← List.take_append_drop i xs,List.mem_append] at h
      exact h.elim .inl (fun h=>.inr (.inr h))
theorem mem_insS {xs:List Int} {x y:Int}:y ∈ insS xs x ↔ y = x ∨ y ∈ xs:=by
  unfold insS
  split
  · rename_i h
    exact ⟨.inr,fun e=>e.elim (fun e=>e ▸ h) id⟩
  · exact mem_insAt
theorem ris_insS {xs:List Int} {x:Int} (h:Ris xs):Ris (insS xs x):=by
  unfold insS
  split
  · exact h
  · rename_i hx
    unfold insAt Ris
    obtain ⟨e1,e2⟩:=take_cnt x h
    rw [e1,e2,List.pairwise_append]
    refine ⟨h.filter _,List.pairwise_cons.2 ⟨fun z hz=>?_,h.filter _⟩,fun a ha b hb=>?_⟩
    · obtain ⟨hz1,hz2⟩:=List.mem_filter.1 hz
      have:z ≠ x:=fun e=>hx (e ▸ hz1)
      simp at hz2; omega
    · have ha2:=(List.mem_filter.1 ha).2
      simp at ha2
      rcases List.mem_cons.1 hb with rfl | hb
      · exact ha2
      · have hb2:=(List.mem_filter.1 hb).2
        simp at hb2; omega
theorem insS_length (xs:List Int) (x:Int):(insS xs x).length = if x ∈ xs then xs.length else xs.length + 1:=by
  unfold insS
  split
  · rfl
  · rw [insAt_length]
theorem delS_eq {xs:List Int} {x:Int} (h:Ris xs):delS xs x = xs.filter (fun y=>decide (y ≠ x)):=by
  unfold delS
  split
  · rename_i hx
    obtain ⟨e1,e2⟩:=take_cnt x h
    rw [List.eraseIdx_eq_take_drop_succ,e1]
    have e3:xs.drop (cntI xs x + 1) = xs.filter (fun y=>decide (x < y)):=by
      have:xs.drop (cntI xs x + 1) = (xs.drop (cntI xs x)).drop 1:=by rw [List.drop_drop]
      rw [this,e2]
      have hm:x ∈ xs.filter (fun y=>decide (¬ y < x)):=List.mem_filter.2 ⟨hx,by simp⟩
      have hr:Ris (xs.filter (fun y=>decide (¬ y < x))):=h.filter _
      have hmin:∀ z ∈ xs.filter (fun y=>decide (¬ y < x)),x≤z:=fun z hz=>by have:=(List.mem_filter.1 hz).2; simp at this; omega
      have hgt:xs.filter (fun y=>decide (x < y)) = (xs.filter (fun y=>decide (¬ y < x))).filter (fun y=>decide (x < y)):=by
        rw [List.filter_filter]
        refine List.filter_congr fun z _=>?_
        by_cases h1:x < z
        · simp [h1]; omega
        · simp [h1]
      rw [hgt]
      revert hm hr hmin
      generalize xs.filter (fun y=>decide (¬ y < x)) = ys
      intro hm hr hmin
      cases ys with
      | nil=>cases hm
      | cons y ys =>
        obtain ⟨g1,g2⟩:=List.pairwise_cons.1 hr
        have hy:y = x:=by
          rcases List.mem_cons.1 hm with e | e
          · exact e.symm
          · have:=g1 x e; have:=hmin y (by simp); omega
        subst hy
        rw [List.filter_cons]
        simp only [Int.lt_irrefl,decide_false,Bool.false_eq_true,if_false,List.drop_succ_cons,List.drop_zero]
        rw [List.filter_eq_self.2 (fun z hz=>by simpa using g1 z hz)]
    rw [e3]
    clear e1 e2 e3 hx
    induction xs with
    | nil=>rfl
    | cons y ys ih =>
      obtain ⟨g1,g2⟩:=List.pairwise_cons.1 h
      have i:=ih g2
      simp only [List.filter_cons]
      rcases Int.lt_trichotomy y x with c | c | c
      · have c2:¬ x < y:=by omega
        have c3:y ≠ x:=by omega
        simp only [c,c2,c3,decide_true,decide_false,Bool.false_eq_true,if_true,if_false,ne_eq,not_false_eq_true,List.cons_append]
        rw [i]
      · subst c
        simp only [Int.lt_irrefl,decide_false,Bool.false_eq_true,if_false,ne_eq,not_true_eq_false]
        exact i
      · have c2:¬ y < x:=by omega
        have c3:y ≠ x:=by omega
        have z1:ys.filter (fun z=>decide (z < x)) = []:=List.filter_eq_nil_iff.2 fun z hz=>by have:=g1 z hz; simp; omega
        have z2:ys.filter (fun z=>decide (x < z)) = ys:=List.filter_eq_self.2 fun z hz=>by have:=g1 z hz; simp; omega
        have z3:ys.filter (fun z=>decide (z ≠ x)) = ys:=List.filter_eq_self.2 fun z hz=>by have:=g1 z hz; simp; omega
        simp only [c,c2,c3,decide_true,decide_false,Bool.false_eq_true,if_true,if_false,ne_eq,not_false_eq_true]
        rw [z1,z2]
        simp only [List.nil_append]
        exact congrArg (y :: ·) z3.symm
  · rename_i hx
    rw [List.filter_eq_self.2]
    intro y hy
    have:y ≠ x:=fun e=>hx (e ▸ hy)
    simpa using this
theorem mem_delS {xs:List Int} {x y:Int} (h:Ris xs):y ∈ delS xs x ↔ y ∈ xs∧y ≠ x:=by
  rw [delS_eq h,List.mem_filter]
  simp
theorem ris_delS {xs:List Int} {x:Int} (h:Ris xs):Ris (delS xs x):=by
  rw [delS_eq h]; exact h.filter _
theorem delS_length (xs:List Int) (x:Int):(delS xs x).length≤xs.length:=by
  unfold delS
  split
  · rw [List.length_eraseIdx]
    split <;> omega
  · exact Nat.le_refl _
end
section
open Go.RowKit Go.Maps

def GAt (w:World) (bg:Nat) (F:Nat→Prop) (lev:List (Int × Int)) (lk:Int × Int→List Int) (ch:List Int):Prop :=
  ∃ bl bk cv Ls,GRaw w bg bl bk cv lev Ls ch∧FullL Ls∧(∀ k,foot bg bl bk cv Ls k→F k)∧lkOf Ls = lk

section
variable {w w':World} {bg:Nat} {F:Nat→Prop} {lev:List (Int × Int)} {lk:Int × Int→List Int} {ch:List Int}
theorem GAt.kept {S:Nat→Prop} (h:GAt w bg F lev lk ch) (hk:Kept S w w') (hs:∀ k,F k→¬ S k):GAt w' bg F lev lk ch:=by
  obtain ⟨bl,bk,cv,Ls,h1,h2,h3,h4⟩:=h
  exact ⟨bl,bk,cv,Ls,h1.kept hk (fun k hf=>hs k (h3 k hf)),h2,h3,h4⟩
theorem GAt.below (h:GAt w bg F lev lk ch) (hk:Below w.heap.size w w'):GAt w' bg F lev lk ch:=by
  obtain ⟨bl,bk,cv,Ls,h1,h2,h3,h4⟩:=h
  exact ⟨bl,bk,cv,Ls,h1.below hk,h2,h3,h4⟩
theorem GAt.lt (h:GAt w bg F lev lk ch):bg < w.heap.size:=by
  obtain ⟨bl,bk,cv,Ls,h1,h2,h3,h4⟩:=h
  exact heap_lt h1.blk
theorem count_le {bl bk:Nat} {cv:Value} {Ls:List LEnt} (h:GRaw w bg bl bk cv lev Ls ch) (hf:FullL Ls) {U:List (Int × Int)} (hu:∀ p,lkOf Ls p ≠ []→p ∈ U):Ls.length≤U.length:=by
  have hn:=h.lnk.nodup
  unfold keysA lpairs at hn
  rw [List.map_map] at hn
  have hs:(Ls.map (·.pl)) ⊆ U:=fun p hp=>by
    obtain ⟨e,he,rfl⟩:=List.mem_map.1 hp
    refine hu _ ?_
    unfold lkOf
    rw [h.lfind_self he]
    exact hf e he
  have:=List.Nodup.length_le_of_subset (l₁:=Ls.map (·.pl)) hn hs
  simpa using this
end

def tieL (lk:Int × Int→List Int) (a b l:Int):Int × Int→List Int :=
  upd (upd lk (a,l) (insS (lk (a,l)) b)) (b,l) (insS (upd lk (a,l) (insS (lk (a,l)) b) (b,l)) a)
def cutL (lk:Int × Int→List Int) (a b l:Int):Int × Int→List Int :=
  upd (upd lk (a,l) (delS (lk (a,l)) b)) (b,l) (delS (upd lk (a,l) (delS (lk (a,l)) b) (b,l)) a)

set_option maxHeartbeats 1000000 in
theorem tie134 (bg:Nat) (F:Nat→Prop) (lev:List (Int × Int)) (lk:Int × Int→List Int) (ch:List Int) (a b l:Int) (w:World) (h:GAt w bg F lev lk ch) (ha:I64 a) (hb:I64 b) (hl:I64 l)
    (U:List (Int × Int)) (hU:U.length≤5000) (hu:∀ p,lk p ≠ []→p ∈ U) (hs:∀ p,Ris (lk p)∧(lk p).length≤500) :
    Calls Tryz.prog 141 #[.pointer (some ⟨bg,0,none⟩),.int .i64 l,.int .i64 a,.int .i64 b] w fun ev w'=>ev = .returned (.tuple #[]) ∧
      ∃ F',GAt w' bg F' lev (tieL lk a b l) ch∧Kept F w w'∧∀ k,F' k→F k ∨ w.heap.size≤k:=by
  obtain ⟨bl,bk,cv,Ls,h1,h2,h3,h4⟩:=h
  subst h4
  have hc:=count_le h1 h2 hu
  have A1:=add155 bg bl bk cv lev Ls ch a l b w h1 ha hl (by omega) (by have:=(hs (a,l)).2; omega) (hs (a,l)).1.le
  have H1:=hide h1
  have H2:=hide h2
  have H3:=hide h3
  have HS:=hide hs
  have HU:=hide hu
  have HA:=hide A1
  clear h1 h2 h3 hs hu A1
  go_enter Tryz.func141,Tryz.ntmps141
  go_wp2_with fail
  refine HA.out.mono ?_
  rintro e1 w1 ⟨rfl,Ls1,g1,l1,k1,b1,f1⟩
  have hu1:∀ p,lkOf Ls1 p ≠ []→p ∈ (a,l) :: U:=fun p hp=>by
    rw [l1] at hp
    unfold upd at hp
    split at hp
    · rename_i e; rw [e]; exact List.mem_cons_self
    · exact List.mem_cons_of_mem _ (HU.out p hp)
  have hc1:=count_le g1 (f1 H2.out) hu1
  have hs1:∀ p,Ris (lkOf Ls1 p)∧(lkOf Ls1 p).length≤501:=fun p=>by
    rw [l1]
    unfold upd
    split
    · refine ⟨ris_insS (HS.out (a,l)).1,?_⟩
      rw [insS_length]
      have:=(HS.out (a,l)).2
      split <;> omega
    · exact ⟨(HS.out p).1,by have:=(HS.out p).2; omega⟩
  have A2:=add155 bg bl bk cv lev Ls1 ch b l a w1 g1 hb hl (by simp at hc1; omega) (by have:=(hs1 (b,l)).2; omega) (hs1 (b,l)).1.le
  have HA2:=hide A2
  have HF1:=hide f1
  have HB1:=hide b1
  have HK1:=hide k1
  have HL1:=hide l1
  have HG1:=hide g1
  clear A2 f1 b1 k1 l1 hs1 hu1 hc1 g1
  go_wp2_with fail
  refine HA2.out.mono ?_
  rintro e2 w2 ⟨rfl,Ls2,g2,l2,k2,b2,f2⟩
  go_wp2
  go_end0
  have own1:∀ {p:Int × Int} {k:Nat},(oldv Ls p).ownBlock = some k→F k:=fun {p k} e=>by
    obtain ⟨e0,he0,_,hg0⟩:=H1.out.old_own e
    exact H3.out _ (.inr (.inr (.inr (.inr ⟨e0,he0,hg0⟩))))
  have own2:∀ {p:Int × Int} {k:Nat},(oldv Ls1 p).ownBlock = some k→F k ∨ w.heap.size≤k:=fun {p k} e=>by
    obtain ⟨e0,he0,_,hg0⟩:=HG1.out.old_own e
    rcases HB1.out e0 he0 with ⟨e3,he3,hg3⟩ | h
    · exact .inl (H3.out _ (.inr (.inr (.inr (.inr ⟨e3,he3,by rw [hg3,hg0]⟩)))))
    · exact .inr (hg0 ▸ h)
  have fbk:F bk:=H3.out _ (.inr (.inr (.inl rfl)))
  refine ⟨rfl,fun k=>F k ∨ w.heap.size≤k,⟨bl,bk,cv,Ls2,g2,f2 (HF1.out H2.out),?_,?_⟩,?_,fun k h=>h⟩
  · intro k hk
    rcases hk with h | h | h | h | ⟨e,he,hg⟩
    · exact .inl (H3.out _ (.inl h))
    · exact .inl (H3.out _ (.inr (.inl h)))
    · exact .inl (H3.out _ (.inr (.inr (.inl h))))
    · exact .inl (H3.out _ (.inr (.inr (.inr (.inl h)))))
    · rcases b2 e he with ⟨e1,he1,hg1⟩ | h
      · rcases HB1.out e1 he1 with ⟨e0,he0,hg0⟩ | h
        · exact .inl (H3.out _ (.inr (.inr (.inr (.inr ⟨e0,he0,by rw [hg0,hg1,hg]⟩)))))
        · exact .inr (by rw [← hg,← hg1]; exact h)
      · exact .inr (by rw [← hg]; exact Nat.le_trans HK1.out.size h)
  · rw [l2,HL1.out]; rfl
  · refine (HK1.out.mono (fun k _ e=>e.elim (fun e=>e ▸ fbk) own1)).trans k2 (fun k hk e=>?_)
    rcases e with e | e
    · exact e ▸ fbk
    · exact (own2 e).elim id (fun h=>by omega)
end
section
open Go.RowKit Go.Maps

set_option maxHeartbeats 1000000 in
theorem cut128 (bg:Nat) (F:Nat→Prop) (lev:List (Int × Int)) (lk:Int × Int→List Int) (ch:List Int) (a b l:Int) (w:World) (h:GAt w bg F lev lk ch) (ha:I64 a) (hb:I64 b) (hl:I64 l)
    (U:List (Int × Int)) (hU:U.length≤5000) (hu:∀ p,lk p ≠ []→p ∈ U) (hs:∀ p,Ris (lk p)∧(lk p).length≤500) :
    Calls Tryz.prog 135 #[.pointer (some ⟨bg,0,none⟩),.int .i64 l,.int .i64 a,.int .i64 b] w fun ev w'=>ev = .returned (.tuple #[]) ∧
      GAt w' bg F lev (cutL lk a b l) ch∧Kept F w w':=by
  obtain ⟨bl,bk,cv,Ls,h1,h2,h3,h4⟩:=h
  subst h4
  have hc:=count_le h1 h2 hu
  have A1:=drop152 bg bl bk cv lev Ls ch a l b w h1 ha hl (by omega) (by have:=(hs (a,l)).2; omega) (hs (a,l)).1.le
  have H1:=hide h1
  have H2:=hide h2
  have H3:=hide h3
  have HS:=hide hs
  have HU:=hide hu
  have HA:=hide A1
  clear h1 h2 h3 hs hu A1
  go_enter Tryz.func135,Tryz.ntmps135
  go_wp2_with fail
  refine HA.out.mono ?_
  rintro e1 w1 ⟨rfl,Ls1,g1,l1,k1,b1,f1⟩
  have hu1:∀ p,lkOf Ls1 p ≠ []→p ∈ (a,l) :: U:=fun p hp=>by
    rw [l1] at hp
    unfold upd at hp
    split at hp
    · rename_i e; rw [e]; exact List.mem_cons_self
    · exact List.mem_cons_of_mem _ (HU.out p hp)
  have hc1:=count_le g1 (f1 H2.out) hu1
  have hs1:∀ p,Ris (lkOf Ls1 p)∧(lkOf Ls1 p).length≤501:=fun p=>by
    rw [l1]
    unfold upd
    split
    · refine ⟨ris_delS (HS.out (a,l)).1,?_⟩
      have:=delS_length (lkOf Ls (a,l)) b
      have:=(HS.out (a,l)).2
      omega
    · exact ⟨(HS.out p).1,by have:=(HS.out p).2; omega⟩
  have A2:=drop152 bg bl bk cv lev Ls1 ch b l a w1 g1 hb hl (by simp at hc1; omega) (by have:=(hs1 (b,l)).2; omega) (hs1 (b,l)).1.le
  have HA2:=hide A2
  have HF1:=hide f1
  have HB1:=hide b1
  have HK1:=hide k1
  have HL1:=hide l1
  have HG1:=hide g1
  clear A2 f1 b1 k1 l1 hs1 hu1 hc1 g1
  go_wp2_with fail
  refine HA2.out.mono ?_
  rintro e2 w2 ⟨rfl,Ls2,g2,l2,k2,b2,f2⟩
  go_wp2
  go_end0
  have own1:∀ {p:Int × Int} {k:Nat},(oldv Ls p).ownBlock = some k→F k:=fun {p k} e=>by
    obtain ⟨e0,he0,_,hg0⟩:=H1.out.old_own e
    exact H3.out _ (.inr (.inr (.inr (.inr ⟨e0,he0,hg0⟩))))
  have own2:∀ {p:Int × Int} {k:Nat},(oldv Ls1 p).ownBlock = some k→F k:=fun {p k} e=>by
    obtain ⟨e0,he0,_,hg0⟩:=HG1.out.old_own e
    obtain ⟨e3,he3,hg3⟩:=HB1.out e0 he0
    exact H3.out _ (.inr (.inr (.inr (.inr ⟨e3,he3,by rw [hg3,hg0]⟩))))
  have fbk:F bk:=H3.out _ (.inr (.inr (.inl rfl)))
  refine ⟨rfl,⟨bl,bk,cv,Ls2,g2,f2 (HF1.out H2.out),?_,?_⟩,?_⟩
  · intro k hk
    rcases hk with h | h | h | h | ⟨e,he,hg⟩
    · exact H3.out _ (.inl h)
    · exact H3.out _ (.inr (.inl h))
    · exact H3.out _ (.inr (.inr (.inl h)))
    · exact H3.out _ (.inr (.inr (.inr (.inl h))))
    · obtain ⟨e1,he1,hg1⟩:=b2 e he
      obtain ⟨e0,he0,hg0⟩:=HB1.out e1 he1
      exact H3.out _ (.inr (.inr (.inr (.inr ⟨e0,he0,by rw [hg0,hg1,hg]⟩))))
  · rw [l2,HL1.out]; rfl
  · exact (HK1.out.mono (fun k _ e=>e.elim (fun e=>e ▸ fbk) own1)).trans k2 (fun k _ e=>e.elim (fun e=>e ▸ fbk) own2)

def levOf (lev:List (Int × Int)) (id:Int):Option Int:=(lev.find? fun p=>decide (p.1 = id)).map (·.2)
theorem getA_levV (id:Int):∀ lev:List (Int × Int),getA id (levV lev) = (levOf lev id).map (Value.int .i64)
  | []=>rfl
  | (i,l) :: lev=>by
    unfold levV levOf
    rw [List.map_cons,getA_cons,List.find?_cons]
    by_cases h:i = id
    · simp [h]
    · simp only [h,if_false,decide_false]
      exact getA_levV id lev
theorem zero3 (w:World):(zeroValue 3).run Tryz.prog w = .ok (.int .i64 0) w:=by kernel_rfl

set_option maxHeartbeats 1000000 in
theorem level87 (bg:Nat) (F:Nat→Prop) (lev:List (Int × Int)) (lk:Int × Int→List Int) (ch:List Int) (id:Int) (w:World) (h:GAt w bg F lev lk ch) (hid:I64 id) :
    Calls Tryz.prog 91 #[.pointer (some ⟨bg,0,none⟩),.int .i64 id] w fun ev w'=>ev = .returned (.int .i64 ((levOf lev id).getD (-1)))∧w = w':=by
  obtain ⟨bl,bk,cv,Ls,h1,h2,h3,h4⟩:=h
  have c0:=h1.c0
  have hl:(Instr.lookup 169 (.map (some bl)) (.int .i64 id) true).run Tryz.prog w = _:=h1.lev.look_ok Tryz.underlying169 (zero3 w) id hid
  rw [getA_levV] at hl
  clear h1 h2 h3 h4
  cases hv:levOf lev id with
  | none =>
    rw [hv] at hl
    simp only [Option.map_none,Option.getD_none,Option.isSome_none] at hl ⊢
    go_enter Tryz.func91,Tryz.ntmps91
    go_wp2
    go_ret
    exact ⟨rfl,rfl⟩
  | some l =>
    rw [hv] at hl
    simp only [Option.map_some,Option.getD_some,Option.isSome_some] at hl ⊢
    go_enter Tryz.func91,Tryz.ntmps91
    go_wp2
    go_ret
    exact ⟨rfl,rfl⟩

set_option maxHeartbeats 1000000 in
theorem clone_nil (w:World):Calls Tryz.prog 134 #[.slice none 0 0] w fun e w'=>e = .returned (.slice none 0 0)∧w = w':=by
  have hn:=fun w=>Go.run_eql_slice_nil (P:=Tryz.prog) w 32 3 none 0 0 Tryz.underlying32
  go_enter Tryz.func134,Tryz.ntmps134
  go_wp2
  go_ret
  exact ⟨rfl,rfl⟩

theorem clone127 (v:Value) (xs:List Int) (w:World) (hr:IRow w v xs) (h0:xs ≠ [] ∨ v = .slice none 0 0) (hl:xs.length≤1000) :
    Calls Tryz.prog 134 #[v] w fun e w'=>∃ v',e = .returned v'∧IRow w' v' xs∧(∀ g,v'.ownBlock = some g→w.heap.size≤g)∧Below w.heap.size w w'∧(xs = []→v' = .slice none 0 0):=by
  rcases hr.2 with ⟨rfl,hz⟩ | ⟨g,cap,cur,rfl,_,hg,hn,hcm,hcs,htk⟩
  · obtain rfl:=List.eq_nil_of_length_eq_zero hz
    refine (clone_nil w).mono ?_
    rintro e w' ⟨rfl,rfl⟩
    exact ⟨_,rfl,⟨rfl,.inl ⟨rfl,rfl⟩⟩,fun g e=>by simp [Value.ownBlock] at e,Below.refl _ _,fun _=>rfl⟩
  · have hx:xs ≠ []:=h0.elim id (fun e=>by cases e)
    have hp:0 < xs.length:=List.length_pos_iff.2 hx
    refine (clone_any xs g 0 cap w hp (by omega) (fun i hi=>?_)).mono ?_
    · rw [Nat.zero_add]
      exact ownsRow_cell (n:=xs.length) (cap:=cap) hr (by simp [vals,List.getD_eq_getElem?_getD,hi])
    · rintro e w' ⟨g',cap',rfl,hg',hown,hb⟩
      exact ⟨_,rfl,hown,fun g e=>by obtain rfl:g' = g:=by { simpa [Value.ownBlock] using e }; exact hg',hb,fun e=>absurd e hx⟩

set_option maxHeartbeats 1000000 in
theorem linked88 (bg:Nat) (F:Nat→Prop) (lev:List (Int × Int)) (lk:Int × Int→List Int) (ch:List Int) (id l:Int) (w:World) (h:GAt w bg F lev lk ch) (hid:I64 id) (hl:I64 l) (hs:(lk (id,l)).length≤1000) :
    Calls Tryz.prog 92 #[.pointer (some ⟨bg,0,none⟩),.int .i64 id,.int .i64 l] w fun ev w'=>∃ v',ev = .returned v'∧IRow w' v' (lk (id,l))∧(∀ g,v'.ownBlock = some g→w.heap.size≤g)∧Below w.heap.size w w'∧(lk (id,l) = []→v' = .slice none 0 0):=by
  obtain ⟨bl,bk,cv,Ls,h1,h2,h3,h4⟩:=h
  subst h4
  have c1:=h1.c1
  have hlk:=h1.look id l hid hl
  have hrow:=h1.old_row (id,l)
  have h0:lkOf Ls (id,l) ≠ [] ∨ oldv Ls (id,l) = .slice none 0 0:=by
    unfold lkOf oldv
    cases hf:lfind (id,l) Ls with
    | none=>exact .inr rfl
    | some e=>exact .inl (h2 e (lfind_mem hf).1)
  have hcl:=clone127 _ _ w hrow h0 hs
  have HCL:=hide hcl
  clear h1 h2 h3 hrow h0 hcl
  go_enter Tryz.func92,Tryz.ntmps92
  go_wp2_with (go_at_call 134; refine HCL.out.mono ?_; rintro e2 w2 ⟨v',rfl,hr2,hg2,hb2,hn2⟩)
  go_ret
  exact ⟨v',rfl,hr2,hg2,hb2,hn2⟩
end
section
open Go.RowKit Go.Maps

section
variable {w w':World} {bg bl bk:Nat} {cv cv':Value} {lev lev':List (Int × Int)} {Ls:List LEnt} {ch ch':List Int}
theorem GRaw.setLev (h:GRaw w bg bl bk cv lev Ls ch) (hk:Kept (fun k=>k = bl) w w') (hm:AMap intKey w' bl (levV lev')):GRaw w' bg bl bk cv lev' Ls ch :=
  ⟨(hk.block _ (heap_lt h.blk) h.b_ne.1).trans h.blk,hm,h.lnk.kept hk (fun e=>h.bb e.symm),fun e he=>ownsRow_kept (h.row e he) hk (fun g e'=>by obtain rfl:e.g = g:=by { simpa [Value.ownBlock] using e' }; exact (h.g_ne he).2.1),
    ownsRow_kept h.chr hk (fun g e=>(h.c_ne e).2.1),h.sepg,h.sepc,h.bb⟩
theorem GRaw.setCh (h:GRaw w bg bl bk cv lev Ls ch) (hk:Kept (fun k=>k = bg ∨ cv.ownBlock = some k) w w') (hb:w'.heap[bg]? = some (.cells #[.map (some bl),.map (some bk),cv'] 190 (0,0))) (hr:IRow w' cv' ch') (hs:∀ e ∈ Ls,cv'.ownBlock ≠ some e.g):GRaw w' bg bl bk cv' lev Ls ch' :=
  ⟨hb,h.lev.kept hk (fun e=>e.elim (fun e=>h.b_ne.1 e.symm) (fun e=>(h.c_ne e).2.1 rfl)),h.lnk.kept hk (fun e=>e.elim (fun e=>h.b_ne.2 e.symm) (fun e=>(h.c_ne e).2.2 rfl)),
    fun e he=>ownsRow_kept (h.row e he) hk (fun g e'=>by obtain rfl:e.g = g:=by { simpa [Value.ownBlock] using e' }; exact fun e''=>e''.elim (h.g_ne he).1 (h.sepc e he)),hr,h.sepg,hs,h.bb⟩
end

theorem putA_new {α:Type} [DecidableEq α] {a:α} {v:Value} {L:List (α × Value)} (h:getA a L = none):putA a v L = (a,v) :: L:=by
  unfold putA delA
  rw [List.filter_eq_self.2]
  intro p hp
  have:=getA_none_iff.1 h
  simp
  exact fun e=>this (List.mem_map.2 ⟨p,hp,e⟩)

theorem ints_fit (n:Nat) (h:n≤1000):n + 1≤maxLen∧(n + 1) * 8≤140737488355328:=by unfold maxLen; omega

set_option maxHeartbeats 2000000 in
set_option maxRecDepth 20000 in
theorem enter92 (bg:Nat) (F:Nat→Prop) (lev:List (Int × Int)) (lk:Int × Int→List Int) (ch:List Int) (id l:Int) (w:World) (h:GAt w bg F lev lk ch) (hid:I64 id) (hno:levOf lev id = none) (hn:lev.length≤1000) (hc:ch.length≤1000) :
    Calls Tryz.prog 96 #[.pointer (some ⟨bg,0,none⟩),.int .i64 id,.int .i64 l] w fun ev w'=>ev = .returned (.tuple #[]) ∧
      ∃ F',GAt w' bg F' ((id,l) :: lev) lk (ch ++ [id])∧Kept F w w'∧∀ k,F' k→F k ∨ w.heap.size≤k:=by
  obtain ⟨bl,bk,cv,Ls,h1,h2,h3,h4⟩:=h
  subst h4
  obtain ⟨i0,hi,hz0,hz1,hz2⟩:=info_parts info3
  have c0:=h1.c0
  obtain ⟨w1,hrun,ham,hk1⟩:=h1.lev.put Tryz.underlying169 (by unfold levV maxLen; rw [List.length_map]; omega) id hid (.int .i64 l)
  rw [putA_new (by rw [getA_levV,hno]; rfl)] at ham
  have hrun':(Instr.mapUpdate 169 (.map (some bl)) (.int .i64 id) (.int .i64 l)).run Tryz.prog w = .ok () w1:=hrun
  have g1:GRaw w1 bg bl bk cv ((id,l) :: lev) Ls ch:=h1.setLev hk1 ham
  have fbl:F bl:=h3 _ (.inr (.inl rfl))
  have fbg:F bg:=h3 _ (.inl rfl)
  have H2:=hide h2
  have H3:=hide h3
  have HK1:=hide hk1
  have c2:=g1.c2
  have hf2:=cells_frozen g1.blk
  have hfit:=ints_fit ch.length hc
  have hcr:=(g1.below ((Below.refl _ _).alloc (Nat.le_refl _) (.cells #[.int .i64 id] 3))).chr
  have hbg1:=heap_lt g1.blk
  have hcn:∀ g,cv.ownBlock = some g→g ≠ bg:=fun g e=>(g1.c_ne e).1
  have G1:=hide g1
  have HCR:=hide hcr
  have HCN:=hide hcn
  clear h1 h2 h3 hk1 ham hrun g1 hcr hcn
  go_enter Tryz.func96,Tryz.ntmps96
  go_wp2_with (at_builtin; refine wpList_append_lies _ rfl _ _ 32 rfl 0 3 i0 (.int .i64 0) 1 8 Tryz.underlying32 hi hz0 hz1 hz2 rfl (by decide) cv ch.length (vals ch) rfl HCR.out ⟨w1.heap.size,0,none⟩ 1 1 [.int .i64 id] rfl rfl (World.news_of_block (cs:=#[.int .i64 id]) (t:=3) (fr:=(0,0)) (heap_alloc_new _ _)) (by simp [Value.oneCell']) (by decide) hfit.1 hfit.2 (Nat.zero_le _) (w1.heap.size + 1) (by simp) ?_; intro gg cap w2 hown1 hgrow hat hlt; have hb2:w2.heap[bg]? = some (.cells #[.map (some bl),.map (some bk),cv] 190 (0,0)):=((hgrow.block bg (by simp; omega) (fun e=>HCN.out bg e.symm rfl)).trans (Below.heap_alloc _ _ _ hbg1)).trans G1.out.blk; have d2:=cells_at hb2 2 rfl; have d3:=cells_frozen hb2; have HO:=hide hown1; have HG:=hide hgrow; have HAT:=hide hat; have HB2:=hide hb2; clear hown1 hgrow hat hb2)
  go_end0
  have hk2:Kept (fun k=>k = bg ∨ cv.ownBlock = some k) w1 w2:=((Kept.refl _ w1).alloc _).grown HG.out (fun k e _=>.inr e)
  have hk3:=hk2.setCell (p:=⟨bg,2,none⟩) (fun _=>.inl rfl) (.slice (some ⟨gg,0,none⟩) (ch.length + 1) cap)
  have hge:cv.ownBlock = some gg ∨ w1.heap.size≤gg:=HAT.out.imp (fun h=>h) (fun e=>by omega)
  have hgb:gg ≠ bg:=by
    rcases hge with e | e
    · exact HCN.out _ e
    · omega
  have g3:GRaw (w2.setCell ⟨bg,2,none⟩ (.slice (some ⟨gg,0,none⟩) (ch.length + 1) cap)) bg bl bk (.slice (some ⟨gg,0,none⟩) (ch ++ [id]).length cap) ((id,l) :: lev) Ls (ch ++ [id]):=by
    have el:(ch ++ [id]).length = ch.length + 1:=by simp
    refine G1.out.setCh hk3 ?_ ?_ ?_
    · rw [heap_setCell_same _ _ _ _ _ _ HB2.out,el]
      simp
    · unfold IRow
      rw [vals_append,el]
      refine ownsRow_of_block HO.out fun g' e=>?_
      obtain rfl:gg = g':=by simpa [Value.ownBlock] using e
      exact Below.heap_setCell _ _ _ _ hgb
    · intro e he e'
      obtain rfl:gg = e.g:=by simpa [Value.ownBlock] using e'
      rcases hge with e2 | e2
      · exact G1.out.sepc e he e2
      · have:=G1.out.glt he; omega
  refine ⟨rfl,fun k=>F k ∨ w.heap.size≤k,⟨bl,bk,_,Ls,g3,H2.out,?_,rfl⟩,?_,fun k h=>h⟩
  · intro k hk
    rcases hk with h | h | h | h | ⟨e,he,hg⟩
    · exact .inl (H3.out _ (.inl h))
    · exact .inl (H3.out _ (.inr (.inl h)))
    · exact .inl (H3.out _ (.inr (.inr (.inl h))))
    · obtain rfl:gg = k:=by simpa [Value.ownBlock] using h
      rcases hge with e2 | e2
      · exact .inl (H3.out _ (.inr (.inr (.inr (.inl e2)))))
      · exact .inr (Nat.le_trans HK1.out.size e2)
    · exact .inl (H3.out _ (.inr (.inr (.inr (.inr ⟨e,he,hg⟩)))))
  · refine (HK1.out.mono (fun k _ e=>e ▸ fbl)).trans hk3 (fun k _ e=>?_)
    rcases e with e | e
    · exact e ▸ fbg
    · exact H3.out _ (.inr (.inr (.inr (.inl e))))

set_option maxHeartbeats 1000000 in
theorem new61 (w:World):Calls Tryz.prog 66 #[] w fun ev w'=>ev = .returned (.pointer (some ⟨w.heap.size + 2,0,none⟩))∧GAt w' (w.heap.size + 2) (fun k=>w.heap.size≤k) [] (fun _=>[]) []∧Below w.heap.size w w':=by
  have hmm:=@run_makeMap Tryz.prog
  go_enter Tryz.func66,Tryz.ntmps66
  go_wp2
  go_ret
  refine ⟨by simp,⟨w.heap.size,w.heap.size + 1,.slice none 0 0,[],⟨?_,?_,?_,fun _ he=>absurd he List.not_mem_nil,⟨rfl,.inl ⟨rfl,rfl⟩⟩,List.nodup_nil,fun _ he=>absurd he List.not_mem_nil,by omega⟩,fun _ he=>absurd he List.not_mem_nil,?_,rfl⟩,?_⟩
  · have:=heap_alloc_new ((w.alloc (.map #[] 0)).alloc (.map #[] 0)) (.cells #[.map (some w.heap.size),.map (some (w.heap.size + 1)),.slice none 0 0] 190)
    simpa using this
  · exact ((AMap.made (E:=intKey) w).below ((Below.refl _ _).alloc (Nat.le_refl _) _)).below ((Below.refl _ _).alloc (Nat.le_refl _) _)
  · have:=AMap.made (E:=placeKey) (w.alloc (.map #[] 0))
    have h2:=this.below ((Below.refl _ _).alloc (Nat.le_refl _) (.cells #[.map (some w.heap.size),.map (some (w.heap.size + 1)),.slice none 0 0] 190))
    have e3:(w.alloc (.map #[] 0)).heap.size = w.heap.size + 1:=by simp
    rw [e3] at h2
    exact h2
  · intro k hk
    rcases hk with h | h | h | h | ⟨e,he,_⟩
    · omega
    · omega
    · omega
    · simp [Value.ownBlock] at h
    · cases he
  · exact (((Below.refl _ _).alloc (Nat.le_refl _) _).alloc (by simp) _).alloc (by simp; omega) _
end
section
open Go.RowKit

set_option maxHeartbeats 2000000 in
theorem swap162 (bq fk g cap a b:Nat) (l:List Hit) (w:World) (h:QAt w bq fk (.slice (some ⟨g,0,none⟩) l.length cap) l) (ha:a < l.length) (hb:b < l.length) (hab:a ≠ b) (_hl:l.length≤1000) :
    Calls Tryz.prog 172 #[.pointer (some ⟨bq,0,none⟩),.int .i64 a,.int .i64 b] w fun ev w'=>ev = .returned (.tuple #[])∧QAt w' bq fk (.slice (some ⟨g,0,none⟩) l.length cap) (swapL l a b)∧Kept (fun k=>k = g) w w':=by
  have c1:=h.c1
  have a0:=HRow.at0 h.row ha
  have a1:=HRow.at1 h.row ha
  have b0:=HRow.at0 h.row hb
  have b1:=HRow.at1 h.row hb
  have hf:=ownsRow_frozen h.row
  have hcap:=ownsRow_len h.row
  have hne:=h.ne (g:=g) rfl
  have H:=hide h
  clear h
  generalize hx:nth l a = x at a0 a1
  generalize hy:nth l b = y at b0 b1
  have HX:=hide hx
  have HY:=hide hy
  clear hx hy
  have hab1:¬ a = b:=hab
  have hab2:¬ b = a:=fun e=>hab e.symm
  go_enter Tryz.func172,Tryz.ntmps172
  go_wp2
  go_region
  go_wp2
  go_end0
  obtain ⟨rfl⟩:nth l a = x:=HX.out
  obtain ⟨rfl⟩:nth l b = y:=HY.out
  have hr:=HRow.set (HRow.set H.out.row a (nth l b)) b (nth l a)
  refine ⟨rfl,⟨?_,?_⟩,?_⟩
  · have:=H.out.blk
    have h1:¬ bq = g:=fun e=>hne e.symm
    simp only [World.drew]
    repeat rw [Below.heap_setCell _ _ _ _ (by first | exact h1 | exact hne)]
    exact this
  · unfold HRow
    rw [swapL_length]
    exact ownsRow_of_block hr fun _ _=>rfl
  · exact Kept.drew (Kept.setG (Kept.setG (Kept.setG (Kept.setG (Kept.refl _ w) _ _) _ _) _ _) _ _)

end
section
open Go.RowKit

def ahead (fk:Nat) (a b:Hit):Bool:=if fk = 104 then nearB a b else farB a b
def IsOrd (fk:Nat):Prop:=fk = 104 ∨ fk = 150

def upL (fk:Nat):Nat→List Hit→Nat→List Hit
  | 0,l,_=>l
  | n + 1,l,at_=>if at_ = 0 then l else if ahead fk (nth l at_) (nth l ((at_ - 1) / 2)) = true then upL fk n (swapL l at_ ((at_ - 1) / 2)) ((at_ - 1) / 2) else l
theorem upL_length (fk:Nat):∀ n l a,(upL fk n l a).length = l.length
  | 0,_,_=>rfl
  | n + 1,l,a=>by
    unfold upL
    split
    · rfl
    · split
      · rw [upL_length,swapL_length]
      · rfl


def CmpQ (w0:World) (bq fk g n cap a b:Nat) (x y:Hit) (wx:World):Prop :=
  (wx.cell? ⟨bq,0,none⟩ = some (.func (.func fk) #[] #[])∧wx.cell? ⟨bq,1,none⟩ = some (.slice (some ⟨g,0,none⟩) n cap) ∧
    wx.cell? ⟨g,a * 2,none⟩ = some (.int .i64 x.1)∧wx.cell? ⟨g,a * 2 + 1,none⟩ = some (.int .i64 x.2)∧wx.cell? ⟨g,b * 2,none⟩ = some (.int .i64 y.1)∧wx.cell? ⟨g,b * 2 + 1,none⟩ = some (.int .i64 y.2))∧Below w0.heap.size w0 wx
section
variable {w0 wx wy:World} {bq fk g n cap a b:Nat} {x y:Hit}
theorem CmpQ.cells (h:CmpQ w0 bq fk g n cap a b x y wx):wx.cell? ⟨bq,0,none⟩ = some (.func (.func fk) #[] #[])∧wx.cell? ⟨bq,1,none⟩ = some (.slice (some ⟨g,0,none⟩) n cap) ∧
    wx.cell? ⟨g,a * 2,none⟩ = some (.int .i64 x.1)∧wx.cell? ⟨g,a * 2 + 1,none⟩ = some (.int .i64 x.2)∧wx.cell? ⟨g,b * 2,none⟩ = some (.int .i64 y.1)∧wx.cell? ⟨g,b * 2 + 1,none⟩ = some (.int .i64 y.2):=h.1
theorem CmpQ.bel (h:CmpQ w0 bq fk g n cap a b x y wx):Below w0.heap.size w0 wx:=h.2
theorem cell_below {b o:Nat} {v:Value} (hc:wx.cell? ⟨b,o,none⟩ = some v) (hb:Below wx.heap.size wx wy):wy.cell? ⟨b,o,none⟩ = some v:=Below.at hb hc (block_lt_of_cell (a:=⟨b,o,none⟩) hc)
theorem CmpQ.below (h:CmpQ w0 bq fk g n cap a b x y wx) (hb:Below wx.heap.size wx wy):CmpQ w0 bq fk g n cap a b x y wy :=
  ⟨⟨cell_below h.1.1 hb,cell_below h.1.2.1 hb,cell_below h.1.2.2.1 hb,cell_below h.1.2.2.2.1 hb,cell_below h.1.2.2.2.2.1 hb,cell_below h.1.2.2.2.2.2 hb⟩,h.2.trans (hb.mono h.2.size)⟩
theorem CmpQ.drew (h:CmpQ w0 bq fk g n cap a b x y wx):CmpQ w0 bq fk g n cap a b x y wx.drew:=h.below (Below.refl _ _).drew
theorem CmpQ.of {m:List Hit} (h:QAt wx bq fk (.slice (some ⟨g,0,none⟩) m.length cap) m) (ha:a < m.length) (hb:b < m.length):CmpQ wx bq fk g m.length cap a b (nth m a) (nth m b) wx :=
  ⟨⟨h.c0,h.c1,HRow.at0 h.row ha,HRow.at1 h.row ha,HRow.at0 h.row hb,HRow.at1 h.row hb⟩,Below.refl _ _⟩
end

theorem upL_fuel (fk:Nat):∀ (n m:Nat) (l:List Hit) (a:Nat),a < n→a < m→upL fk n l a = upL fk m l a
  | n + 1,m + 1,l,a,hn,hm=>by
    unfold upL
    by_cases h0:a = 0
    · simp [h0]
    · simp only [h0,if_false]
      split
      · exact upL_fuel fk n m _ _ (by omega) (by omega)
      · rfl

theorem half_lt {k:Nat} (h:¬ k = 0):(k - 1) / 2 < k:=by omega

set_option maxHeartbeats 4000000 in
theorem up144_100 (bq g cap a:Nat) (l:List Hit) (w:World) (h:QAt w bq 104 (.slice (some ⟨g,0,none⟩) l.length cap) l) (ha:a < l.length) (hl:l.length≤1000) :
    Calls Tryz.prog 151 #[.pointer (some ⟨bq,0,none⟩),.int .i64 a] w fun ev w'=>ev = .returned (.tuple #[])∧QAt w' bq 104 (.slice (some ⟨g,0,none⟩) l.length cap) (upL 104 (a + 1) l a)∧Kept (fun k=>k = g) w w':=by
  have hne:=h.ne (g:=g) rfl
  have hcap:=ownsRow_len h.row
  have H:=hide h
  clear h
  go_enter Tryz.func151,Tryz.ntmps151
  go_wp2
  go_loopw [1,4] (fun at_ _ wr=>∃ (k:Nat) (m:List Hit),at_ = .int .i64 k∧k < l.length∧m.length = l.length∧QAt wr bq 104 (.slice (some ⟨g,0,none⟩) m.length cap) m∧upL 104 (a + 1) l a = upL 104 (k + 1) m k∧Kept (fun k=>k = g) w wr) (fun at_ _ _=>(intOf at_).toNat)
  case atStart=>exact ⟨a,l,rfl,ha,rfl,H.out,rfl,Kept.refl _ _⟩
  case round =>
    obtain ⟨k,m,rfl,hkl,hml,hq,he,hkp⟩:=hrel
    by_cases h0:k = 0
    · subst h0
      go_wp2
      go_end0
      refine ⟨rfl,?_,hkp⟩
      rw [he,← hml]
      simpa [upL] using hq
    · have ep:((k:Int) - 1) / 2 = (((k - 1) / 2:Nat):Int):=by omega
      have hp:=half_lt h0
      have hm1000:m.length≤1000:=by omega
      have hkm:k < m.length:=by omega
      have HE:=hide he
      have HK:=hide hkp
      have HML:=hide hml
      clear he hkp hml
      go_wp2
      rw [ep]
      generalize hpe:(k - 1) / 2 = p at hp
      have hpm:p < m.length:=by omega
      have hS:=CmpQ.of hq hkm hpm
      have HQ:=hide hq
      have HP:=hide hpe
      clear hq hpe ep
      generalize hx:nth m k = x at hS
      generalize hy:nth m p = y at hS
      have HX:=hide hx
      have HY:=hide hy
      clear hx hy
      go_region_held3 (fun wx=>wx.cell? ⟨bq,0,none⟩ = some (.func (.func 104) #[] #[])∧wx.cell? ⟨bq,1,none⟩ = some (.slice (some ⟨g,0,none⟩) m.length cap) ∧
    wx.cell? ⟨g,k * 2,none⟩ = some (.int .i64 x.1)∧wx.cell? ⟨g,k * 2 + 1,none⟩ = some (.int .i64 x.2)∧wx.cell? ⟨g,p * 2,none⟩ = some (.int .i64 y.1)∧wx.cell? ⟨g,p * 2 + 1,none⟩ = some (.int .i64 y.2)) ((refine CmpQ.cells (w0:=wr) ?_; repeat (first | exact hS | refine CmpQ.drew ?_ | exact hS2)))
        (first
          | (go_at_call 104; refine (nearer100 x y _).mono ?_; rintro e w2 ⟨rfl,hb2⟩; have hS2:=CmpQ.below (CmpQ.drew hS) hb2))
      have HS2:=hide hS2
      clear hS hS2 hb2
      by_cases hah:ahead 104 x y = true
      · have hah1:nearB x y = true:=by simpa [ahead] using hah
        rw [hah1]
        have HA:=hide hah
        clear hah hah1
        have hq2:=HQ.out.below HS2.out.bel
        go_wp2_with (go_at_call 172; refine (swap162 bq 104 g cap k p m _ hq2 hkm hpm (by omega) hm1000).mono ?_; rintro e3 w3 ⟨rfl,hq3,hk3⟩)
        refine ⟨⟨p,swapL m k p,rfl,by omega,by rw [swapL_length]; exact HML.out,by rw [swapL_length]; exact hq3,?_,?_⟩,by simp [intOf]; omega⟩
        · rw [HE.out,upL,if_neg h0,HP.out,HX.out,HY.out,if_pos HA.out]
          exact upL_fuel _ _ _ _ _ (by omega) (by omega)
        · exact (HK.out.below HS2.out.bel).trans hk3 (fun _ _ h=>h)
      · have hah1:nearB x y = false:=by simpa [ahead] using hah
        rw [hah1]
        have HA:=hide hah
        clear hah hah1
        go_wp2
        (try simp only [Exit.inBlock,Exit.then]); refine bodyPost_ret (results_none rfl _ _ _) rfl ?_
        refine ⟨rfl,?_,?_⟩
        · rw [HE.out,upL,if_neg h0,HP.out,HX.out,HY.out,if_neg HA.out,← HML.out]
          exact HQ.out.below HS2.out.bel
        · exact HK.out.below HS2.out.bel

set_option maxHeartbeats 4000000 in
theorem up144_143 (bq g cap a:Nat) (l:List Hit) (w:World) (h:QAt w bq 150 (.slice (some ⟨g,0,none⟩) l.length cap) l) (ha:a < l.length) (hl:l.length≤1000) :
    Calls Tryz.prog 151 #[.pointer (some ⟨bq,0,none⟩),.int .i64 a] w fun ev w'=>ev = .returned (.tuple #[])∧QAt w' bq 150 (.slice (some ⟨g,0,none⟩) l.length cap) (upL 150 (a + 1) l a)∧Kept (fun k=>k = g) w w':=by
  have hne:=h.ne (g:=g) rfl
  have hcap:=ownsRow_len h.row
  have H:=hide h
  clear h
  go_enter Tryz.func151,Tryz.ntmps151
  go_wp2
  go_loopw [1,4] (fun at_ _ wr=>∃ (k:Nat) (m:List Hit),at_ = .int .i64 k∧k < l.length∧m.length = l.length∧QAt wr bq 150 (.slice (some ⟨g,0,none⟩) m.length cap) m∧upL 150 (a + 1) l a = upL 150 (k + 1) m k∧Kept (fun k=>k = g) w wr) (fun at_ _ _=>(intOf at_).toNat)
  case atStart=>exact ⟨a,l,rfl,ha,rfl,H.out,rfl,Kept.refl _ _⟩
  case round =>
    obtain ⟨k,m,rfl,hkl,hml,hq,he,hkp⟩:=hrel
    by_cases h0:k = 0
    · subst h0
      go_wp2
      go_end0
      refine ⟨rfl,?_,hkp⟩
      rw [he,← hml]
      simpa [upL] using hq
    · have ep:((k:Int) - 1) / 2 = (((k - 1) / 2:Nat):Int):=by omega
      have hp:=half_lt h0
      have hm1000:m.length≤1000:=by omega
      have hkm:k < m.length:=by omega
      have HE:=hide he
      have HK:=hide hkp
      have HML:=hide hml
      clear he hkp hml
      go_wp2
      rw [ep]
      generalize hpe:(k - 1) / 2 = p at hp
      have hpm:p < m.length:=by omega
      have hS:=CmpQ.of hq hkm hpm
      have HQ:=hide hq
      have HP:=hide hpe
      clear hq hpe ep
      generalize hx:nth m k = x at hS
      generalize hy:nth m p = y at hS
      have HX:=hide hx
      have HY:=hide hy
      clear hx hy
      go_region_held3 (fun wx=>wx.cell? ⟨bq,0,none⟩ = some (.func (.func 150) #[] #[])∧wx.cell? ⟨bq,1,none⟩ = some (.slice (some ⟨g,0,none⟩) m.length cap) ∧
    wx.cell? ⟨g,k * 2,none⟩ = some (.int .i64 x.1)∧wx.cell? ⟨g,k * 2 + 1,none⟩ = some (.int .i64 x.2)∧wx.cell? ⟨g,p * 2,none⟩ = some (.int .i64 y.1)∧wx.cell? ⟨g,p * 2 + 1,none⟩ = some (.int .i64 y.2)) ((refine CmpQ.cells (w0:=wr) ?_; repeat (first | exact hS | refine CmpQ.drew ?_ | exact hS2)))
        (first
          | (go_at_call 150; refine (farther143 x y _).mono ?_; rintro e w2 ⟨rfl,hb2⟩; have hS2:=CmpQ.below (CmpQ.drew hS) hb2))
      have HS2:=hide hS2
      clear hS hS2 hb2
      by_cases hah:ahead 150 x y = true
      · have hah1:farB x y = true:=by simpa [ahead] using hah
        rw [hah1]
        have HA:=hide hah
        clear hah hah1
        have hq2:=HQ.out.below HS2.out.bel
        go_wp2_with (go_at_call 172; refine (swap162 bq 150 g cap k p m _ hq2 hkm hpm (by omega) hm1000).mono ?_; rintro e3 w3 ⟨rfl,hq3,hk3⟩)
        refine ⟨⟨p,swapL m k p,rfl,by omega,by rw [swapL_length]; exact HML.out,by rw [swapL_length]; exact hq3,?_,?_⟩,by simp [intOf]; omega⟩
        · rw [HE.out,upL,if_neg h0,HP.out,HX.out,HY.out,if_pos HA.out]
          exact upL_fuel _ _ _ _ _ (by omega) (by omega)
        · exact (HK.out.below HS2.out.bel).trans hk3 (fun _ _ h=>h)
      · have hah1:farB x y = false:=by simpa [ahead] using hah
        rw [hah1]
        have HA:=hide hah
        clear hah hah1
        go_wp2
        (try simp only [Exit.inBlock,Exit.then]); refine bodyPost_ret (results_none rfl _ _ _) rfl ?_
        refine ⟨rfl,?_,?_⟩
        · rw [HE.out,upL,if_neg h0,HP.out,HX.out,HY.out,if_neg HA.out,← HML.out]
          exact HQ.out.below HS2.out.bel
        · exact HK.out.below HS2.out.bel

theorem up144_any (bq fk g cap a:Nat) (hk:IsOrd fk) (l:List Hit) (w:World) (h:QAt w bq fk (.slice (some ⟨g,0,none⟩) l.length cap) l) (ha:a < l.length) (hl:l.length≤1000) :
    Calls Tryz.prog 151 #[.pointer (some ⟨bq,0,none⟩),.int .i64 a] w fun ev w'=>ev = .returned (.tuple #[])∧QAt w' bq fk (.slice (some ⟨g,0,none⟩) l.length cap) (upL fk (a + 1) l a)∧Kept (fun k=>k = g) w w':=by
  rcases hk with rfl | rfl
  · exact up144_100 bq g cap a l w h ha hl
  · exact up144_143 bq g cap a l w h ha hl
end
end Go.Proofs.YtpkiefjanmfgfaaGreatDoor
