import Derived.Deep.DeepCutAuto
import Derived.Test.YtpkiefjanmfgfaaGreatDoorAll08
import Derived.Test.YtpkiefjanmfgfaaGreatDoorAll09
namespace Go.Proofs.YtpkiefjanmfgfaaGreatDoor
section
open Go.RowKit Go.Maps

structure RdAt (w:World) (N bg:Nat) (F:Nat→Prop) (lev:List (Int × Int)) (lk:Int × Int→List Int) (ch:List Int) (B Z Z8:Nat) (links beam:Int) (fv:Value) (id l:Int) (v8:Value):Prop where
  g:GAt w bg F lev lk ch
  fl:∀ k,F k→k < N
  c3:w.heap[B]? = some (.cells #[.pointer (some ⟨bg,0,none⟩),.int .i64 links,.int .i64 beam,fv] 109 (0,0))
  c4:w.heap[B + 1]? = some (.cells #[.int .i64 l] 3 (0,0))
  c1:w.heap[Z]? = some (.cells #[.int .i64 id] 3 (0,0))
  c2:w.heap[Z8]? = some (.cells #[v8] 32 (0,0))
  r:IRow w v8 (lk (id,l))
  rl:∀ g,v8.ownBlock = some g→g < N
  bl:B + 1 < N
  zl:Z < N
  z8:Z8 < N
  nN:N≤w.heap.size

section
variable {w w':World} {N bg:Nat} {F:Nat→Prop} {lev:List (Int × Int)} {lk:Int × Int→List Int} {ch:List Int} {B Z Z8:Nat} {links beam:Int} {fv:Value} {id l:Int} {v8:Value}
theorem RdAt.kept {S:Nat→Prop} (h:RdAt w N bg F lev lk ch B Z Z8 links beam fv id l v8) (hk:Kept S w w') (hS:∀ k,S k→N≤k):RdAt w' N bg F lev lk ch B Z Z8 links beam fv id l v8:=by
  have hb:∀ k,k < N→w'.heap[k]? = w.heap[k]?:=fun k hkN=>hk.block k (Nat.lt_of_lt_of_le hkN h.nN) (fun e=>absurd (hS k e) (by omega))
  exact ⟨h.g.kept hk (fun k hf e=>absurd (hS k e) (by have:=h.fl k hf; omega)),h.fl,(hb _ (by have:=h.bl; omega)).trans h.c3,(hb _ h.bl).trans h.c4,(hb _ h.zl).trans h.c1,(hb _ h.z8).trans h.c2,ownsRow_of_block h.r (fun g e=>hb g (h.rl g e)),h.rl,h.bl,h.zl,h.z8,Nat.le_trans h.nN hk.size⟩
theorem RdAt.below (h:RdAt w N bg F lev lk ch B Z Z8 links beam fv id l v8) (hb:Below w.heap.size w w'):RdAt w' N bg F lev lk ch B Z Z8 links beam fv id l v8:=h.kept (S:=fun _=>False) (Kept.of_below _ hb) (fun _ e=>e.elim)
theorem RdAt.six_kept {S:Nat→Prop} (h:RdAt w N bg F lev lk ch B Z Z8 links beam fv id l v8) {wx:World} (hk:Kept S w wx) (h1:¬ S B) (h2:¬ S (B + 1)) (h3:¬ S Z) :
    wx.cell? ⟨B,0,none⟩ = some (.pointer (some ⟨bg,0,none⟩))∧wx.cell? ⟨B,1,none⟩ = some (.int .i64 links)∧wx.cell? ⟨B,2,none⟩ = some (.int .i64 beam)∧wx.cell? ⟨B,3,none⟩ = some fv∧wx.cell? ⟨Z,0,none⟩ = some (.int .i64 id)∧wx.cell? ⟨B + 1,0,none⟩ = some (.int .i64 l) :=
  ⟨hk.cell (cells_at h.c3 0 rfl) h1,hk.cell (cells_at h.c3 1 rfl) h1,hk.cell (cells_at h.c3 2 rfl) h1,hk.cell (cells_at h.c3 3 rfl) h1,hk.cell (cells_at h.c1 0 rfl) h3,hk.cell (cells_at h.c4 0 rfl) h2⟩
theorem RdAt.six {wx:World} (h:RdAt wx N bg F lev lk ch B Z Z8 links beam fv id l v8) :
    wx.cell? ⟨B,0,none⟩ = some (.pointer (some ⟨bg,0,none⟩))∧wx.cell? ⟨B,1,none⟩ = some (.int .i64 links)∧wx.cell? ⟨B,2,none⟩ = some (.int .i64 beam)∧wx.cell? ⟨B,3,none⟩ = some fv∧wx.cell? ⟨Z,0,none⟩ = some (.int .i64 id)∧wx.cell? ⟨B + 1,0,none⟩ = some (.int .i64 l):=h.six_kept (S:=fun _=>False) (Kept.refl _ _) (fun e=>e) (fun e=>e) (fun e=>e)
end

theorem mendAll_take (links:Int) (dd:Int→Int→Int) (l:Int) (left:List Int) (lk:Int × Int→List Int) (k:Nat) (hk:k < left.length) :
    mendAll links dd l left lk (left.take (k + 1)) = mendOne links dd l left (mendAll links dd l left lk (left.take k)) left[k]:=by
  unfold mendAll
  rw [List.take_succ_eq_append_getElem hk,List.foldl_append]
  rfl

set_option maxHeartbeats 4000000 in
set_option maxRecDepth 20000 in
theorem mend90 (bg:Nat) (links beam:Int) (mk:Nat) (caps:Array Value) (dd:Int→Int→Int) (F:Nat→Prop) (lev:List (Int × Int)) (lk:Int × Int→List Int) (ch:List Int) (ids:List Int) (l:Int) (v:Value) (left:List Int) (w:World)
    (h:GAt w bg F lev lk ch) (hF:∀ k,F k→k < w.heap.size) (hlk:LkIn ids lk) (hids:ids.length≤300) (hI:∀ x ∈ ids,I64 x) (hl:0≤l∧l≤10) (hr:IRow w v left) (hv:∀ g,v.ownBlock = some g→¬ F g) (hll:left.length≤300) (hs:∀ x ∈ left,x ∈ ids) (hk:0≤links∧links≤1000)
    (eg:∀ args w,(callFunc mk args).run Tryz.prog w = .ok (.enter mk args) w)
    (hm:∀ a ∈ ids,∀ b ∈ ids,∀ W,Kept F w W→Calls Tryz.prog mk (#[.int .i64 a,.int .i64 b] ++ caps) W fun e W'=>e = .returned (.int .i64 (dd a b))∧Below W.heap.size W W') :
    Calls Tryz.prog 94 #[.agg #[.pointer (some ⟨bg,0,none⟩),.int .i64 links,.int .i64 beam,.func (.func mk) #[] caps],.int .i64 l,v] w fun ev w'=>ev = .returned (.tuple #[]) ∧
      ∃ F',GAt w' bg F' lev (mendAll links dd l left lk left) ch∧Kept F w w'∧∀ k,F' k→F k ∨ w.heap.size≤k:=by
  obtain ⟨a,cap,rfl,ha⟩:=IRow_slice hr
  have hlI:I64 l:=I64_of l (by omega) (by omega)
  have hw1:Below w.heap.size w ((w.alloc (.cells #[.pointer (some ⟨bg,0,none⟩),.int .i64 links,.int .i64 beam,.func (.func mk) #[] caps] 109)).alloc (.cells #[.int .i64 l] 3)):=((Below.refl _ _).alloc (Nat.le_refl _) _).alloc (by simp) _
  have hc3:((w.alloc (.cells #[.pointer (some ⟨bg,0,none⟩),.int .i64 links,.int .i64 beam,.func (.func mk) #[] caps] 109)).alloc (.cells #[.int .i64 l] 3)).heap[w.heap.size]? = some (.cells #[.pointer (some ⟨bg,0,none⟩),.int .i64 links,.int .i64 beam,.func (.func mk) #[] caps] 109 (0,0)):=(Below.heap_alloc _ _ _ (by simp)).trans (heap_alloc_new _ _)
  have hc4:((w.alloc (.cells #[.pointer (some ⟨bg,0,none⟩),.int .i64 links,.int .i64 beam,.func (.func mk) #[] caps] 109)).alloc (.cells #[.int .i64 l] 3)).heap[w.heap.size + 1]? = some (.cells #[.int .i64 l] 3 (0,0)):=heap_alloc2_new _ _ _
  have hz1:((w.alloc (.cells #[.pointer (some ⟨bg,0,none⟩),.int .i64 links,.int .i64 beam,.func (.func mk) #[] caps] 109)).alloc (.cells #[.int .i64 l] 3)).heap.size = w.heap.size + 2:=by simp
  have HG0:=hide (h.below hw1)
  have HW1:=hide hw1
  have HC3:=hide hc3
  have HC4:=hide hc4
  have HZ1:=hide hz1
  have HFW:=hide hF
  have HLK:=hide hlk
  have HI:=hide hI
  have HR:=hide hr
  have HV:=hide hv
  have HS:=hide hs
  have HM:=hide hm
  have HA:=hide ha
  have HLL:=hide hll
  clear h hF hlk hI hr hv hs hm hw1 hc3 hc4 hz1 ha hll
  go_enter Tryz.func94,Tryz.ntmps94
  go_wp2
  generalize hwe:(w.alloc (.cells #[.pointer (some ⟨bg,0,none⟩),.int .i64 links,.int .i64 beam,.func (.func mk) #[] caps] 109)).alloc (.cells #[.int .i64 l] 3) = w1 at HG0 HW1 HC3 HC4 HZ1 ⊢
  clear hwe
  go_loopw [7,8,9,12] (fun _ _ _ i wr=>∃ (k:Nat) (F2:Nat→Prop),i = .int .i64 k∧k≤left.length∧Hid (GAt wr bg F2 lev (mendAll links dd l left lk (left.take k)) ch)∧Hid (∀ k,F2 k→F k ∨ w.heap.size + 2≤k)∧Hid (wr.heap[w.heap.size]? = some (.cells #[.pointer (some ⟨bg,0,none⟩),.int .i64 links,.int .i64 beam,.func (.func mk) #[] caps] 109 (0,0)))∧Hid (wr.heap[w.heap.size + 1]? = some (.cells #[.int .i64 l] 3 (0,0)))∧Hid (Kept F w wr)) (fun _ _ _ i _=>left.length - (intOf i).toNat)
  case atStart=>exact ⟨0,F,rfl,Nat.zero_le _,HG0.out,fun k h=>.inl h,HC3.out,HC4.out,Kept.of_below _ HW1.out⟩
  case round =>
    obtain ⟨k,F2,rfl,hkl,HG,HF2,HB3,HB4,HK⟩:=hrel
    by_cases hlt:k < left.length
    · obtain ⟨g,rfl⟩:=HA.out (by omega)
      have hrow:=ownsRow_kept HR.out HK.out (fun g e=>HV.out g e)
      have y0:wr.cell? ⟨g,k,none⟩ = some (.int .i64 left[k]):=ownsRow_cell hrow (by simp [vals,hlt])
      have hin:left[k] ∈ ids:=HS.out _ (List.getElem_mem hlt)
      have hnext:=mendAll_take links dd l left lk k hlt
      have hlkk:LkIn ids (mendAll links dd l left lk (left.take k)):=LkIn.mendAll links dd hl HS.out HLK.out (fun x hx=>HS.out x (List.mem_of_mem_take hx))
      generalize mendAll links dd l left lk (left.take k) = lkk at HG hnext hlkk
      generalize left[k] = id at y0 hin hnext
      have hgT:=HG.out.tight
      have hz2:=heap_lt HB4.out
      have hlen:∀ p,(lkk p).length≤300:=fun p=>Nat.le_trans (hlkk.len p) hids
      have hidI:=HI.out _ hin
      have ha1:Below wr.heap.size wr (wr.alloc (.cells #[.int .i64 id] 3)):=(Below.refl _ _).alloc (Nat.le_refl _) _
      have h88:=linked88 bg _ lev lkk ch id l (wr.alloc (.cells #[.int .i64 id] 3)) (hgT.below ha1) hidI hlI (Nat.le_trans (hlen _) (by omega))
      have b0:wr.cell? ⟨w.heap.size,0,none⟩ = some (.pointer (some ⟨bg,0,none⟩)):=cells_at HB3.out 0 rfl
      have b4:wr.cell? ⟨w.heap.size + 1,0,none⟩ = some (.int .i64 l):=cells_at HB4.out 0 rfl
      have hz3:w.heap.size < wr.heap.size:=by omega
      have H88:=hide h88
      have HROW:=hide hrow
      have HNX:=hide hnext
      have HLKK:=hide hlkk
      have HGT:=hide hgT
      have HLEN:=hide hlen
      have HIN:=hide hin
      have HIDI:=hide hidI
      have HA1:=hide ha1
      clear h88 hrow hnext hlkk hgT hlen hin hidI ha1
      go_wp2_with fail
      refine H88.out.mono ?_
      rintro e8 w8 ⟨v8,rfl,r8,f8,b8,n8⟩
      obtain ⟨a8,cap8,hv8,_⟩:=IRow_slice r8
      subst hv8
      have hz8:wr.heap.size < w8.heap.size:=by have:=b8.size; simp at this; omega
      have hB8:Below wr.heap.size wr w8:=HA1.out.trans (b8.mono HA1.out.size)
      have ha8:Below w8.heap.size w8 (w8.alloc (.cells #[.slice a8 (lkk (id,l)).length cap8] 32)):=(Below.refl _ _).alloc (Nat.le_refl _) _
      have hRd:RdAt (w8.alloc (.cells #[.slice a8 (lkk (id,l)).length cap8] 32)) (w8.heap.size + 1) bg (fun k=>F2 k∧k < wr.heap.size) lev lkk ch w.heap.size wr.heap.size w8.heap.size links beam (.func (.func mk) #[] caps) id l (.slice a8 (lkk (id,l)).length cap8):=by
        refine ⟨(HGT.out.below hB8).below ha8,fun k hk=>by have:=hk.2; omega,?_,?_,?_,heap_alloc_new _ _,ownsRow_below r8 ha8,fun g e=>?_,by omega,by omega,by omega,by simp⟩
        · exact (ha8.block _ (by omega)).trans ((hB8.block _ (by omega)).trans HB3.out)
        · exact (ha8.block _ (by omega)).trans ((hB8.block _ (by omega)).trans HB4.out)
        · exact (ha8.block _ (by omega)).trans ((b8.block _ (by simp)).trans (heap_alloc_new _ _))
        · have:=(r8.lt g e).2; omega
      have hB8a:Below wr.heap.size wr (w8.alloc (.cells #[.slice a8 (lkk (id,l)).length cap8] 32)):=hB8.trans (ha8.mono (by omega))
      have hcl:=clone127 (.slice (some ⟨g,0,none⟩) left.length cap) left (w8.alloc (.cells #[.slice a8 (lkk (id,l)).length cap8] 32)) (ownsRow_below HROW.out hB8a) (.inl (fun e=>by rw [e] at hlt; exact absurd hlt (Nat.not_lt_zero _))) (by have:=HLL.out; omega)
      have hz8a:(w8.alloc (.cells #[.slice a8 (lkk (id,l)).length cap8] 32)).heap.size = w8.heap.size + 1:=by simp
      rw [hz8a] at hcl
      generalize hlv:(lkk (id,l)).length = lv at *
      generalize hw8a:w8.alloc (.cells #[.slice a8 lv cap8] 32) = w8a at hcl hRd hB8a hz8a
      have HW8A:=hide hw8a
      have HRD:=hide hRd
      have HB8:=hide hB8a
      have HZ8:=hide hz8a
      have HCL:=hide hcl
      clear hcl hRd hB8a hz8a hB8 ha8 r8 f8 b8 n8 hlv hw8a
      clear y0 b0 b4
      go_wp2_with fail
      rw [HW8A.out]
      refine HCL.out.mono ?_
      rintro e9 w9 ⟨v9,rfl,r9,f9,b9,n9⟩
      obtain ⟨a9,cap9,hv9,_⟩:=IRow_slice r9
      subst hv9
      have b9':Below w8a.heap.size w8a w9:=by rw [HZ8.out]; exact b9
      have hRd9:=HRD.out.below b9'
      have hdel:=deleteFunc129_131 (.pointer (some ⟨wr.heap.size,0,none⟩)) (.pointer (some ⟨w8.heap.size,0,none⟩)) (.pointer (some ⟨w.heap.size,0,none⟩)) (.pointer (some ⟨w.heap.size + 1,0,none⟩)) (outB links lkk id l) (.slice a9 left.length cap9) left w9 r9 (by have:=HLL.out; omega) (fun W x hx hkW=>by
        have hR:=hRd9.kept hkW (fun k e=>f9 k e)
        exact mend131 wr.heap.size w8.heap.size w.heap.size (w.heap.size + 1) bg links beam _ _ _ lev lkk ch id l x W hR.g (HI.out x (HS.out x hx)) hlI (fun p=>Nat.le_trans (HLEN.out p) (by omega)) hk (cells_at hR.c1 0 rfl) (cells_at hR.c2 0 rfl) hR.r (cells_at hR.c4 0 rfl) hR.c3)
      have HDEL:=hide hdel
      have HRD9:=hide hRd9
      have HF9:=hide f9
      have HK9:=hide ((HK.out.below HB8.out).below b9')
      clear hdel hRd9 f9 b9 b9' n9 r9
      go_wp2_with fail
      refine HDEL.out.mono ?_
      rintro e10 w10 ⟨v10,rfl,r10,o10,k10⟩
      obtain ⟨a10,cap10,hv10,_⟩:=IRow_slice r10
      subst hv10
      have hRd10:=HRD9.out.kept k10 (fun k e=>HF9.out k e)
      have hK10:Kept F w w10:=HK9.out.trans k10 (fun j hj e=>by have:=HF9.out j e; omega)
      have hrm:=room133 bg links beam (.func (.func mk) #[] caps) _ lev lkk ch id l w10 hRd10.g HIDI.out hlI (Nat.le_trans (HLEN.out _) (by omega)) hk
      have d0:w10.cell? ⟨w.heap.size,0,none⟩ = some (.pointer (some ⟨bg,0,none⟩)):=cells_at hRd10.c3 0 rfl
      have d1:w10.cell? ⟨w.heap.size,1,none⟩ = some (.int .i64 links):=cells_at hRd10.c3 1 rfl
      have d2:w10.cell? ⟨w.heap.size,2,none⟩ = some (.int .i64 beam):=cells_at hRd10.c3 2 rfl
      have d3:w10.cell? ⟨w.heap.size,3,none⟩ = some (.func (.func mk) #[] caps):=cells_at hRd10.c3 3 rfl
      have z0:w10.cell? ⟨wr.heap.size,0,none⟩ = some (.int .i64 id):=cells_at hRd10.c1 0 rfl
      have l0:w10.cell? ⟨w.heap.size + 1,0,none⟩ = some (.int .i64 l):=cells_at hRd10.c4 0 rfl
      have hmo:mendOne links dd l left lkk id = if 0 < (keepP (outB links lkk id l) left).length∧roomL links lkk id l = true then tieL lkk id (nearL dd id (keepP (outB links lkk id l) left)).1 l else lkk:=rfl
      have hfs:∀ x ∈ keepP (outB links lkk id l) left,x ∈ left:=fun x hx=>mem_keepP hx
      have hfl:(keepP (outB links lkk id l) left).length≤left.length:=by unfold keepP; exact List.length_filter_le _ _
      generalize keepP (outB links lkk id l) left = free at r10 hmo hfs hfl d0
      generalize roomL links lkk id l = rv at hrm hmo
      have HMO:=hide hmo
      have HFS:=hide hfs
      have HFL:=hide hfl
      have HRM:=hide hrm
      have HRD10:=hide hRd10
      have HK10:=hide hK10
      have HR10:=hide r10
      have HNF:Hid (∀ k,k≤w.heap.size + 1→w.heap.size≤k→¬ (F2 k∧k < wr.heap.size)):=fun k h1 h2 h3=>by
        rcases HF2.out k h3.1 with e | e
        · have:=HFW.out k e; omega
        · omega
      clear hmo hfs hfl hrm hRd10 hK10 r10 o10 k10 HRD9 HF9 HK9 HDEL HCL HRD HB8 HZ8 HW8A
      have hl300:left.length≤300:=HLL.out
      by_cases hf0:0 < free.length
      · have hfd:decide (0 < (free.length:Int)) = true:=by simp; omega
        cases rv with
        | false =>
         as_aux_lemma =>
          go_wp2_with (go_at_call 140; refine HRM.out.mono ?_; rintro e11 w11 ⟨rfl,hb11⟩)
          refine ⟨⟨k + 1,fun k=>F2 k∧k < wr.heap.size,by go_num,by omega,?_,fun k hk=>HF2.out k hk.1,?_,?_,HK10.out.below hb11⟩,by simp [intOf]; omega⟩
          · show GAt _ _ _ _ _ _
            rw [HNX.out,HMO.out,if_neg (by simp)]
            exact HRD10.out.g.below hb11
          · exact (hb11.block _ (by have:=HRD10.out.nN; omega)).trans HRD10.out.c3
          · exact (hb11.block _ (by have:=HRD10.out.nN; omega)).trans HRD10.out.c4
        | true =>
         as_aux_lemma =>
          go_wp2_with (go_at_call 140; refine HRM.out.mono ?_; rintro e11 w11 ⟨rfl,hb11⟩)
          have hRd11:=HRD10.out.below hb11
          have hK11:=HK10.out.below hb11
          have hr11:=ownsRow_below HR10.out hb11
          have hnr:=nearest135 (.pointer (some ⟨bg,0,none⟩)) links beam mk caps dd id (.slice a10 free.length cap10) free w11.drew (ownsRow_below hr11 (Below.refl _ _).drew) hf0 (by have:=HFL.out; omega) eg (fun o ho W hW=>HM.out id HIN.out o (HS.out o (HFS.out o ho)) W (hK11.below (Below.undrew hW)))
          have htie:=fun W (hW:Below w11.heap.size w11 W)=>tie134 bg _ lev lkk ch id (nearL dd id free).1 l W ((hRd11.below hW).g) HIDI.out (HI.out _ (HS.out _ (HFS.out _ (nearL_mem hf0)))) hlI (allP ids) (by rw [allP_length]; omega) HLKK.out.inAll (fun p=>⟨HLKK.out.ris p,Nat.le_trans (HLEN.out p) (by omega)⟩)
          have hfd63:=field63 (nearL dd id free).1 (nearL dd id free).2
          have HMO2:Hid (mendOne links dd l left lkk id = tieL lkk id (nearL dd id free).1 l):=by
            show _ = _
            rw [HMO.out,if_pos (by first | exact ⟨hf0,rfl⟩ | exact ⟨hf0,trivial⟩)]
          generalize nearL dd id free = nl at hnr htie hfd63 HMO2
          have HNR:=hide hnr
          have HTIE:=hide htie
          have HRD11:=hide hRd11
          have HK11:=hide hK11
          have HSA:=hide (hRd11.below (Below.refl _ _).drew).six
          have HZ9:Hid (∀ k,k = w.heap.size ∨ k = w.heap.size + 1 ∨ k = wr.heap.size→¬ (F2 k∧k < wr.heap.size)):=fun k e h3=>by
            rcases e with e | e | e
            · exact HNF.out k (by omega) (by omega) h3
            · exact HNF.out k (by omega) (by omega) h3
            · omega
          clear hnr htie hRd11 hK11 hr11 hb11 d0 d1 d2 d3 z0 l0 hfd HRM HRD10 HK10
          go_region_held3 (fun wx=>wx.cell? ⟨w.heap.size,0,none⟩ = some (.pointer (some ⟨bg,0,none⟩))∧wx.cell? ⟨w.heap.size,1,none⟩ = some (.int .i64 links)∧wx.cell? ⟨w.heap.size,2,none⟩ = some (.int .i64 beam)∧wx.cell? ⟨w.heap.size,3,none⟩ = some (.func (.func mk) #[] caps)∧wx.cell? ⟨wr.heap.size,0,none⟩ = some (.int .i64 id)∧wx.cell? ⟨w.heap.size + 1,0,none⟩ = some (.int .i64 l))
            ((first | with_reducible exact HSA.out | with_reducible exact HSB.out | with_reducible exact HSC.out))
            (first
              | (go_at_call 142; refine HNR.out.mono ?_; rintro e12 w12 ⟨rfl,hb12⟩; have hb12':=Below.undrew hb12; have HSB:=hide (HRD11.out.below hb12').six; have ht:=HTIE.out w12 hb12')
              | (go_at_call 141; refine ht.mono ?_; rintro e13 w13 ⟨rfl,F3,hg13,hk13,hf13⟩; have HSC:=hide ((HRD11.out.below hb12').six_kept hk13 (HZ9.out _ (.inl rfl)) (HZ9.out _ (.inr (.inl rfl))) (HZ9.out _ (.inr (.inr rfl))))))
          have hRd12:=HRD11.out.below hb12'
          have hK12:=HK11.out.below hb12'
          have HG13:=hide hg13
          have HF13:=hide hf13
          have HX3:=hide ((hk13.block _ (heap_lt hRd12.c3) (HZ9.out _ (.inl rfl))).trans hRd12.c3)
          have HX4:=hide ((hk13.block _ (heap_lt hRd12.c4) (HZ9.out _ (.inr (.inl rfl)))).trans hRd12.c4)
          have HK13:Hid (Kept F w w13):=hK12.trans hk13 (fun j hj e=>(HF2.out j e.1).elim (fun e=>e) (fun e=>by omega))
          have HN12:Hid (w.heap.size + 2≤w12.heap.size):=by have:=hRd12.nN; have:=hRd12.bl; show _≤_; omega
          clear hg13 hf13 hk13 hRd12 hK12 ht hb12 hb12' HSA HSB HSC HNR HTIE
          go_wp2
          refine ⟨⟨k + 1,F3,by go_num,by omega,?_,fun k hk=>(HF13.out k hk).elim (fun e=>HF2.out k e.1) (fun e=>.inr (Nat.le_trans HN12.out e)),HX3.out,HX4.out,HK13.out⟩,by simp [intOf]; omega⟩
          show GAt _ _ _ _ _ _
          rw [HNX.out,HMO2.out]
          exact HG13.out
      · have hfd:decide (0 < (free.length:Int)) = false:=decide_eq_false (by omega)
        as_aux_lemma =>
        go_wp2
        refine ⟨⟨k + 1,fun k=>F2 k∧k < wr.heap.size,by go_num,by omega,?_,fun k hk=>HF2.out k hk.1,HRD10.out.c3,HRD10.out.c4,HK10.out⟩,by simp [intOf]; omega⟩
        show GAt _ _ _ _ _ _
        rw [HNX.out,HMO.out,if_neg (by intro h; exact hf0 h.1)]
        exact HRD10.out.g
    · go_wp2
      go_end0
      obtain rfl:k = left.length:=by omega
      refine ⟨rfl,F2,?_,HK.out,fun k hk=>(HF2.out k hk).imp id (fun e=>by omega)⟩
      have h9:=HG.out
      rw [List.take_of_length_le (Nat.le_refl _)] at h9
      exact h9
end
section
open Go.RowKit Go.Maps

def linkOne (links:Int) (dd:Int→Int→Int) (l id:Int) (lk:Int × Int→List Int) (k:Nat) (x:Int):Int × Int→List Int :=
  if roomL links lk x l = true then tieL lk x id l
  else if 0 < k∧nearB (farL dd x (lk (x,l))) (id,dd x id) = true then lk
  else tieL (cutL lk x (farL dd x (lk (x,l))).1 l) x id l
def linkAll (links:Int) (dd:Int→Int→Int) (l id:Int):Nat→List Int→(Int × Int→List Int)→Int × Int→List Int
  | _,[],lk=>lk
  | k,x :: xs,lk=>linkAll links dd l id (k + 1) xs (linkOne links dd l id lk k x)
theorem linkAll_append (links:Int) (dd:Int→Int→Int) (l id:Int) (y:Int):∀ (xs:List Int) (k:Nat) (lk:Int × Int→List Int),linkAll links dd l id k (xs ++ [y]) lk = linkOne links dd l id (linkAll links dd l id k xs lk) (k + xs.length) y
  | [],_,_=>rfl
  | x :: xs,k,lk=>by
    rw [List.cons_append,linkAll,linkAll,linkAll_append links dd l id y xs,List.length_cons]
    congr 1
    omega
theorem linkAll_take (links:Int) (dd:Int→Int→Int) (l id:Int) (xs:List Int) (lk:Int × Int→List Int) (k:Nat) (hk:k < xs.length) :
    linkAll links dd l id 0 (xs.take (k + 1)) lk = linkOne links dd l id (linkAll links dd l id 0 (xs.take k) lk) k xs[k]:=by
  rw [List.take_succ_eq_append_getElem hk,linkAll_append,List.length_take]
  congr 1
  omega
theorem LkIn.linkOne {ids:List Int} {lk:Int × Int→List Int} (h:LkIn ids lk) (links:Int) (dd:Int→Int→Int) {l id x:Int} (k:Nat) (hl:0≤l∧l≤10) (hid:id ∈ ids) (hx:x ∈ ids):LkIn ids (linkOne links dd l id lk k x):=by
  unfold Proofs.YtpkiefjanmfgfaaGreatDoor.linkOne
  split
  · exact h.tie hx hid hl
  · split
    · exact h
    · exact (h.cut _ _ _).tie hx hid hl
theorem LkIn.linkAll {ids:List Int} (links:Int) (dd:Int→Int→Int) {l id:Int} (hl:0≤l∧l≤10) (hid:id ∈ ids):∀ {xs:List Int} {k:Nat} {lk:Int × Int→List Int},LkIn ids lk→(∀ x ∈ xs,x ∈ ids)→LkIn ids (linkAll links dd l id k xs lk)
  | [],_,_,h,_=>h
  | x :: xs,k,_,h,hx=>LkIn.linkAll (xs:=xs) links dd hl hid (h.linkOne links dd k hl hid (hx x List.mem_cons_self)) (fun y hy=>hx y (List.mem_cons_of_mem _ hy))
theorem noRoom_pos {links:Int} {lk:Int × Int→List Int} {x l:Int} (hk:1≤links) (h:roomL links lk x l = false):0 < (lk (x,l)).length:=by
  unfold roomL mostL at h
  have:=of_decide_eq_false h
  split at this <;> omega
end
section
open Go.RowKit Go.Maps

structure LnAt (w:World) (bg:Nat) (F:Nat→Prop) (lev:List (Int × Int)) (lk:Int × Int→List Int) (ch:List Int) (B Z:Nat) (links beam:Int) (fv:Value) (x:Hit):Prop where
  g:GAt w bg F lev lk ch
  cB:w.heap[B]? = some (.cells #[.pointer (some ⟨bg,0,none⟩),.int .i64 links,.int .i64 beam,fv] 109 (0,0))
  cZ:w.heap[Z]? = some (.cells #[.int .i64 x.1,.int .i64 x.2] 63 (0,0))
  nB:¬ F B
  nZ:¬ F Z
section
variable {w w':World} {bg:Nat} {F:Nat→Prop} {lev:List (Int × Int)} {lk:Int × Int→List Int} {ch:List Int} {B Z:Nat} {links beam:Int} {fv:Value} {x:Hit}
theorem LnAt.below (h:LnAt w bg F lev lk ch B Z links beam fv x) (hb:Below w.heap.size w w'):LnAt w' bg F lev lk ch B Z links beam fv x :=
  ⟨h.g.below hb,(hb.block _ (heap_lt h.cB)).trans h.cB,(hb.block _ (heap_lt h.cZ)).trans h.cZ,h.nB,h.nZ⟩
theorem LnAt.cells (h:LnAt w bg F lev lk ch B Z links beam fv x):w.cell? ⟨B,0,none⟩ = some (.pointer (some ⟨bg,0,none⟩))∧w.cell? ⟨B,1,none⟩ = some (.int .i64 links)∧w.cell? ⟨B,2,none⟩ = some (.int .i64 beam)∧w.cell? ⟨B,3,none⟩ = some fv∧w.cell? ⟨Z,0,none⟩ = some (.int .i64 x.1) :=
  ⟨cells_at h.cB 0 rfl,cells_at h.cB 1 rfl,cells_at h.cB 2 rfl,cells_at h.cB 3 rfl,cells_at h.cZ 0 rfl⟩
theorem LnAt.cellsB (h:LnAt w bg F lev lk ch B Z links beam fv x) (hb:Below w.heap.size w w'):w'.cell? ⟨B,0,none⟩ = some (.pointer (some ⟨bg,0,none⟩))∧w'.cell? ⟨B,1,none⟩ = some (.int .i64 links)∧w'.cell? ⟨B,2,none⟩ = some (.int .i64 beam)∧w'.cell? ⟨B,3,none⟩ = some fv∧w'.cell? ⟨Z,0,none⟩ = some (.int .i64 x.1):=(h.below hb).cells
end

structure FarX (w wx:World) (xb:Nat) (y:Hit):Prop where
  old:Below w.heap.size w wx
  new:w.heap.size≤xb
  blk:wx.heap[xb]? = some (.cells #[.int .i64 y.1,.int .i64 y.2] 63 (0,0))
theorem FarX.late {w w3:World} {y:Hit} (hb:Below w.heap.size w w3):FarX w (w3.alloc (.cells #[.int .i64 y.1,.int .i64 y.2] 63)) w3.heap.size y :=
  ⟨hb.alloc hb.size _,hb.size,heap_alloc_new _ _⟩
theorem FarX.early {w w3:World} {xb:Nat} {y:Hit} {a b:Value} (hb:Below w.heap.size w w3) (hx:w.heap.size≤xb) (hc:w3.heap[xb]? = some (.cells #[a,b] 63 (0,0))):FarX w ((w3.setCell ⟨xb,0,none⟩ (.int .i64 y.1)).setCell ⟨xb,1,none⟩ (.int .i64 y.2)) xb y:=by
  refine ⟨(hb.setCell hx _).setCell hx _,hx,?_⟩
  rw [heap_setCell_same _ _ _ _ _ _ (heap_setCell_same _ _ _ _ _ _ hc)]
  simp

set_option maxHeartbeats 4000000 in
set_option maxRecDepth 20000 in
theorem link93 (bg:Nat) (links beam:Int) (mk:Nat) (caps:Array Value) (dd:Int→Int→Int) (F:Nat→Prop) (lev:List (Int × Int)) (lk:Int × Int→List Int) (ch:List Int) (ids:List Int) (id l:Int) (g cap:Nat) (found:List Hit) (w:World)
    (h:GAt w bg F lev lk ch) (hF:∀ k,F k→k < w.heap.size) (hlk:LkIn ids lk) (hids:ids.length≤300) (hI:∀ x ∈ ids,I64 x) (hl:0≤l∧l≤10) (hid:id ∈ ids) (hr:HRow w (.slice (some ⟨g,0,none⟩) found.length cap) found) (hv:¬ F g) (hfl:found.length≤300) (hcap:found.length≤cap) (hs:∀ x ∈ found,x.1 ∈ ids) (hk:1≤links∧links≤1000)
    (eg:∀ args w,(callFunc mk args).run Tryz.prog w = .ok (.enter mk args) w)
    (hm:∀ a ∈ ids,∀ b ∈ ids,∀ W,Kept F w W→Calls Tryz.prog mk (#[.int .i64 a,.int .i64 b] ++ caps) W fun e W'=>e = .returned (.int .i64 (dd a b))∧Below W.heap.size W W') :
    Calls Tryz.prog 97 #[.agg #[.pointer (some ⟨bg,0,none⟩),.int .i64 links,.int .i64 beam,.func (.func mk) #[] caps],.int .i64 id,.int .i64 l,.slice (some ⟨g,0,none⟩) found.length cap] w fun ev w'=>ev = .returned (.tuple #[]) ∧
      ∃ F',GAt w' bg F' lev (linkAll links dd l id 0 ((found.map (·.1)).take (min (found.length:Int) links).toNat) lk) ch∧Kept F w w'∧∀ k,F' k→F k ∨ w.heap.size≤k:=by
  have hlI:I64 l:=I64_of l (by omega) (by omega)
  have hw1:Below w.heap.size w (w.alloc (.cells #[.pointer (some ⟨bg,0,none⟩),.int .i64 links,.int .i64 beam,.func (.func mk) #[] caps] 109)):=(Below.refl _ _).alloc (Nat.le_refl _) _
  have hc3:(w.alloc (.cells #[.pointer (some ⟨bg,0,none⟩),.int .i64 links,.int .i64 beam,.func (.func mk) #[] caps] 109)).heap[w.heap.size]? = some (.cells #[.pointer (some ⟨bg,0,none⟩),.int .i64 links,.int .i64 beam,.func (.func mk) #[] caps] 109 (0,0)):=heap_alloc_new _ _
  have hz1:(w.alloc (.cells #[.pointer (some ⟨bg,0,none⟩),.int .i64 links,.int .i64 beam,.func (.func mk) #[] caps] 109)).heap.size = w.heap.size + 1:=by simp
  have hm1:(min (found.length:Int) links).toNat≤found.length:=by omega
  have hm2:((min (found.length:Int) links).toNat:Int) = min (found.length:Int) links:=by omega
  generalize hmm:(min (found.length:Int) links).toNat = m at hm1 hm2
  have HMM:=hide hmm
  clear hmm
  have HG0:=hide (h.below hw1)
  have HW1:=hide hw1
  have HC3:=hide hc3
  have HZ1:=hide hz1
  have HFW:=hide hF
  have HLK:=hide hlk
  have HI:=hide hI
  have HR:=hide hr
  have HV:=hide hv
  have HS:=hide hs
  have HM:=hide hm
  have HFL:=hide hfl
  have HID:=hide hid
  have HK:=hide hk
  clear h hF hlk hI hr hv hs hm hw1 hc3 hz1 hid
  go_enter Tryz.func97,Tryz.ntmps97
  go_wp2
  generalize hwe:w.alloc (.cells #[.pointer (some ⟨bg,0,none⟩),.int .i64 links,.int .i64 beam,.func (.func mk) #[] caps] 109) = w1 at HG0 HW1 HC3 HZ1 ⊢
  clear hwe
  go_loopw [8,9,10,19] (fun _ _ _ i wr=>∃ (k:Nat) (F2:Nat→Prop),i = .int .i64 k∧k≤m∧Hid (GAt wr bg F2 lev (linkAll links dd l id 0 ((found.map (·.1)).take k) lk) ch)∧Hid (∀ k,F2 k→F k ∨ w.heap.size + 1≤k)∧Hid (wr.heap[w.heap.size]? = some (.cells #[.pointer (some ⟨bg,0,none⟩),.int .i64 links,.int .i64 beam,.func (.func mk) #[] caps] 109 (0,0)))∧Hid (Kept F w wr)) (fun _ _ _ i _=>m - (intOf i).toNat)
  case atStart=>exact ⟨0,F,rfl,Nat.zero_le _,HG0.out,fun k h=>.inl h,HC3.out,Kept.of_below _ HW1.out⟩
  case round =>
    obtain ⟨k,F2,rfl,hkm,HG,HF2,HB3,HKE⟩:=hrel
    by_cases hlt:k < m
    · have hkf:k < found.length:=by omega
      have hrow:=ownsRow_kept HR.out HKE.out (fun g' e=>by obtain rfl:g = g':=by { simpa [Value.ownBlock] using e }; exact HV.out)
      have y0:=HRow.at0 hrow hkf
      have y1:=HRow.at1 hrow hkf
      have hin:(nth found k).1 ∈ ids:=HS.out _ (nth_mem hkf)
      have hnext:linkAll links dd l id 0 ((found.map (·.1)).take (k + 1)) lk = linkOne links dd l id (linkAll links dd l id 0 ((found.map (·.1)).take k) lk) k (nth found k).1:=by
        rw [linkAll_take links dd l id _ lk k (by simpa using hkf)]
        congr 1
        simp [nth,List.getD_eq_getElem?_getD,hkf]
      have hlkk:LkIn ids (linkAll links dd l id 0 ((found.map (·.1)).take k) lk):=LkIn.linkAll links dd hl HID.out HLK.out (fun x hx=>by
        obtain ⟨y,hy,rfl⟩:=List.mem_map.1 (List.mem_of_mem_take hx)
        exact HS.out y hy)
      generalize linkAll links dd l id 0 ((found.map (·.1)).take k) lk = lkk at HG hnext hlkk
      generalize nth found k = x at y0 y1 hin hnext
      have hgT:=HG.out.tight
      have hz2:=heap_lt HB3.out
      have hlen:∀ p,(lkk p).length≤300:=fun p=>Nat.le_trans (hlkk.len p) hids
      have hidI:=HI.out _ hin
      have ha1:Below wr.heap.size wr (wr.alloc (.cells #[.int .i64 x.1,.int .i64 x.2] 63)):=(Below.refl _ _).alloc (Nat.le_refl _) _
      have hLn:LnAt (wr.alloc (.cells #[.int .i64 x.1,.int .i64 x.2] 63)) bg (fun k=>F2 k∧k < wr.heap.size) lev lkk ch w.heap.size wr.heap.size links beam (.func (.func mk) #[] caps) x:=by
        refine ⟨hgT.below ha1,(ha1.block _ hz2).trans HB3.out,heap_alloc_new _ _,fun e=>?_,fun e=>absurd e.2 (Nat.lt_irrefl _)⟩
        rcases HF2.out _ e.1 with e1 | e1
        · have:=HFW.out _ e1; omega
        · omega
      have hrm:=room133 bg links beam (.func (.func mk) #[] caps) _ lev lkk ch x.1 l _ hLn.g hidI hlI (Nat.le_trans (hlen _) (by omega)) ⟨by omega,hk.2⟩
      have b0:wr.cell? ⟨w.heap.size,0,none⟩ = some (.pointer (some ⟨bg,0,none⟩)):=cells_at HB3.out 0 rfl
      have b1:wr.cell? ⟨w.heap.size,1,none⟩ = some (.int .i64 links):=cells_at HB3.out 1 rfl
      have b2:wr.cell? ⟨w.heap.size,2,none⟩ = some (.int .i64 beam):=cells_at HB3.out 2 rfl
      have b3:wr.cell? ⟨w.heap.size,3,none⟩ = some (.func (.func mk) #[] caps):=cells_at HB3.out 3 rfl
      have hone:linkOne links dd l id lkk k x.1 = if roomL links lkk x.1 l = true then tieL lkk x.1 id l else if 0 < k∧nearB (farL dd x.1 (lkk (x.1,l))) (id,dd x.1 id) = true then lkk else tieL (cutL lkk x.1 (farL dd x.1 (lkk (x.1,l))).1 l) x.1 id l:=rfl
      have HPOS:Hid (roomL links lkk x.1 l = false→0 < (lkk (x.1,l)).length):=noRoom_pos hk.1
      generalize hrv:roomL links lkk x.1 l = rv at hrm hone HPOS
      have HRM:=hide hrm
      have HONE:=hide hone
      have HNX:=hide hnext
      have HLKK:=hide hlkk
      have HLEN:=hide hlen
      have HIN:=hide hin
      have HIDI:=hide hidI
      have HLN:=hide hLn
      have HA1:=hide ha1
      have HGT:=hide hgT
      clear hrow hnext hlkk hgT hlen hin hidI hLn ha1 hrm hone hrv
      cases rv with
      | true =>
       as_aux_lemma =>
        go_wp2_with fail
        refine HRM.out.mono ?_
        rintro e2 w2 ⟨rfl,hb2⟩
        have hLn2:=HLN.out.below hb2
        have htie:=tie134 bg _ lev lkk ch x.1 id l w2 hLn2.g HIDI.out (HI.out _ HID.out) hlI (allP ids) (by rw [allP_length]; omega) HLKK.out.inAll (fun p=>⟨HLKK.out.ris p,Nat.le_trans (HLEN.out p) (by omega)⟩)
        have c0:=hLn2.cells.1
        have z0:=hLn2.cells.2.2.2.2
        have hB2:=HA1.out.trans (hb2.mono HA1.out.size)
        have HLN2:=hide hLn2
        have HB2:=hide hB2
        have HTIE:=hide htie
        clear htie hLn2 hb2 hB2 b0 b1 b2 b3 y0 y1
        go_wp2_with fail
        refine HTIE.out.mono ?_
        rintro e3 w3 ⟨rfl,F3,hg3,hk3,hf3⟩
        have HG3:=hide hg3
        have HK3:=hide hk3
        have HF3:=hide hf3
        clear hg3 hk3 hf3 c0 z0
        go_wp2
        refine ⟨⟨k + 1,F3,by go_num,by omega,?_,fun j hj=>?_,?_,?_⟩,by simp [intOf]; omega⟩
        · show GAt _ _ _ _ _ _
          rw [HNX.out,HONE.out]
          first | rw [if_pos rfl] | rw [if_pos trivial]
          exact HG3.out
        · rcases HF3.out j hj with e | e
          · exact HF2.out j e.1
          · have:=HB2.out.size
            exact .inr (by omega)
        · exact (HK3.out.block _ (heap_lt HLN2.out.cB) HLN2.out.nB).trans HLN2.out.cB
        · exact (HKE.out.below HB2.out).trans HK3.out (fun j hj e=>(HF2.out j e.1).elim (fun e=>e) (fun e=>by omega))
      | false =>
        go_wp2_with fail
        refine HRM.out.mono ?_
        rintro e2 w2 ⟨rfl,hb2⟩
        have hLn2:=HLN.out.below hb2
        have hpos:=HPOS.out (by first | exact rfl | exact trivial)
        have hlk2:=fun W (hW:Below w2.heap.size w2 W)=>linked88 bg _ lev lkk ch x.1 l W (hLn2.below hW).g HIDI.out hlI (Nat.le_trans (HLEN.out _) (by omega))
        have hfr2:=fun W v (hW:Below w2.heap.size w2 W) (hr:IRow W v (lkk (x.1,l)))=>farthest137 (.pointer (some ⟨bg,0,none⟩)) links beam mk caps dd x.1 v (lkk (x.1,l)) W hr hpos (Nat.le_trans (HLEN.out _) (by omega)) eg (fun o ho W' hW'=>HM.out x.1 HIN.out o (HLKK.out.sub _ o ho) W' ((HKE.out.below (HA1.out.trans (hb2.mono HA1.out.size))).below (hW.trans (hW'.mono hW.size))))
        have hB2:=HA1.out.trans (hb2.mono HA1.out.size)
        have HLN2:=hide hLn2
        have HB2:=hide hB2
        have HLK2:=hide hlk2
        have HFR2:=hide hfr2
        clear hLn2 hb2 hB2 b0 b1 b2 b3 y0 y1 hlk2 hfr2 hpos
        generalize hfar:farL dd x.1 (lkk (x.1,l)) = far at HFR2 HONE
        have hfm:far.1 ∈ lkk (x.1,l):=hfar ▸ farL_mem (HPOS.out (by first | exact rfl | exact trivial))
        have HFM:=hide hfm
        clear hfar hfm
        go_upto_region 5 with fail
        go_cut [10] (fun xv wx=>∃ xb,xv = .pointer (some ⟨xb,0,none⟩)∧FarX w2 wx xb far)
        case first =>
          go_region_held3 (fun wx=>wx.cell? ⟨w.heap.size,0,none⟩ = some (.pointer (some ⟨bg,0,none⟩))∧wx.cell? ⟨w.heap.size,1,none⟩ = some (.int .i64 links)∧wx.cell? ⟨w.heap.size,2,none⟩ = some (.int .i64 beam)∧wx.cell? ⟨w.heap.size,3,none⟩ = some (.func (.func mk) #[] caps)∧wx.cell? ⟨wr.heap.size,0,none⟩ = some (.int .i64 x.1))
            (first | (refine HLN2.out.cellsB ?_; repeat (first | with_reducible exact hb4 | with_reducible exact hb3 | exact Below.refl _ _ | refine Below.drew ?_ | refine Below.setCell ?_ (by first | exact Nat.le_refl _ | exact hb3.size) _ | refine Below.alloc ?_ (by first | exact Nat.le_refl _ | exact hb4.size | exact hb3.size) _)))
            (first
              | (go_at_call 92; refine (HLK2.out w2.drew (Below.refl _ _).drew).mono ?_; rintro e3 w3 ⟨v3,rfl,r3,f3,b3,n3⟩; have hb3:Below w2.heap.size w2 w3:=Below.undrew b3; obtain ⟨a3,c3,hv3,_⟩:=IRow_slice r3; subst hv3)
              | (go_at_call 92; refine (HLK2.out (w2.alloc (.cells #[.int .i64 0,.int .i64 0] 63)).drew (((Below.refl _ _).alloc (Nat.le_refl _) _).drew)).mono ?_; rintro e3 w3 ⟨v3,rfl,r3,f3,b3,n3⟩; have hb3:Below w2.heap.size w2 w3:=(((Below.refl _ _).alloc (Nat.le_refl _) _).drew).trans (b3.mono (by simp)); obtain ⟨a3,c3,hv3,_⟩:=IRow_slice r3; subst hv3; have hc3:w3.heap[w2.heap.size]? = some (.cells #[.int .i64 0,.int .i64 0] 63 (0,0)):=(b3.block _ (by simp)).trans (heap_alloc_new _ _))
              | (go_at_call 144; refine (HFR2.out w3 _ hb3 r3).mono ?_; rintro e4 w4 ⟨rfl,b4⟩; have hb4:Below w2.heap.size w2 w4:=hb3.trans (b4.mono hb3.size); have hc4:=(b4.block _ (heap_lt hc3)).trans hc3; have n0:=cells_at hc4 0 rfl; have n1:=cells_at hc4 1 rfl; have fz:=cells_frozen hc4; have HC4:=hide hc4; clear hc4)
              | (go_at_call 144; refine (HFR2.out w3 _ hb3 r3).mono ?_; rintro e4 w4 ⟨rfl,b4⟩; have hb4:Below w2.heap.size w2 w4:=hb3.trans (b4.mono hb3.size))
              | (go_at_call 144; refine (HFR2.out (w3.alloc (.cells #[.int .i64 0,.int .i64 0] 63)) _ (hb3.alloc hb3.size _) (ownsRow_below r3 ((Below.refl _ _).alloc (Nat.le_refl _) _))).mono ?_; rintro e4 w4 ⟨rfl,b4⟩; have hb4:Below w2.heap.size w2 w4:=(hb3.alloc hb3.size _).trans (b4.mono (by have:=hb3.size; simp; omega)); have hc4:w4.heap[w3.heap.size]? = some (.cells #[.int .i64 0,.int .i64 0] 63 (0,0)):=(b4.block _ (by simp)).trans (heap_alloc_new _ _); have n0:=cells_at hc4 0 rfl; have n1:=cells_at hc4 1 rfl; have fz:=cells_frozen hc4; have HC4:=hide hc4; clear hc4))
          all_goals go_wp2_with fail
          all_goals go_meet
          · exact ⟨_,rfl,FarX.late hb4⟩
          · exact ⟨_,rfl,FarX.early hb4 hb3.size HC4.out⟩
          · exact ⟨_,rfl,FarX.early hb4 (Nat.le_refl _) HC4.out⟩
        case rest =>
          rename World=>wd
          obtain ⟨xb,rfl,hx⟩:=hcut
          have hLnc:=HLN2.out.below hx.old
          have hS:∀ W,Below wd.heap.size wd W→W.cell? ⟨w.heap.size,0,none⟩ = some (.pointer (some ⟨bg,0,none⟩))∧W.cell? ⟨w.heap.size,1,none⟩ = some (.int .i64 links)∧W.cell? ⟨w.heap.size,2,none⟩ = some (.int .i64 beam)∧W.cell? ⟨w.heap.size,3,none⟩ = some (.func (.func mk) #[] caps)∧W.cell? ⟨wr.heap.size,0,none⟩ = some (.int .i64 x.1)∧W.cell? ⟨xb,0,none⟩ = some (.int .i64 far.1)∧W.cell? ⟨xb,1,none⟩ = some (.int .i64 far.2):=fun W hW =>
            ⟨(hLnc.below hW).cells.1,(hLnc.below hW).cells.2.1,(hLnc.below hW).cells.2.2.1,(hLnc.below hW).cells.2.2.2.1,(hLnc.below hW).cells.2.2.2.2,cells_at ((hW.block _ (heap_lt hx.blk)).trans hx.blk) 0 rfl,cells_at ((hW.block _ (heap_lt hx.blk)).trans hx.blk) 1 rfl⟩
          have hKc:Kept F w wd:=(HKE.out.below HB2.out).below hx.old
          have hht:=fun W (hW:Below wd.heap.size wd W)=>hit138 (.pointer (some ⟨bg,0,none⟩)) links beam mk caps dd x.1 id W eg (fun W' hW'=>HM.out x.1 HIN.out id HID.out W' ((hKc.below hW).below hW'))
          have hnr:=nearer100 far (id,dd x.1 id)
          have HS:=hide hS
          have HHT:=hide hht
          have HNR:=hide hnr
          have HLC:=hide hLnc
          have HX:=hide hx
          have HKC:=hide hKc
          obtain ⟨nbv,hnbv⟩:∃ nbv:Bool,nbv = (decide (0 < k) && nearB far (id,dd x.1 id)):=⟨_,rfl⟩
          have HNB:=hide hnbv
          clear hS hht hnr hLnc hx hKc hnbv
          go_upto_region 6 with fail
          go_cut [50] (fun v wx=>v = .bool nbv∧Below wd.heap.size wd wx)
          case first =>
            by_cases hk0:0 < k
            · have hd:decide (0 < (k:Int)) = true:=by simpa using hk0
              go_region_held3 (fun wx=>wx.cell? ⟨w.heap.size,0,none⟩ = some (.pointer (some ⟨bg,0,none⟩))∧wx.cell? ⟨w.heap.size,1,none⟩ = some (.int .i64 links)∧wx.cell? ⟨w.heap.size,2,none⟩ = some (.int .i64 beam)∧wx.cell? ⟨w.heap.size,3,none⟩ = some (.func (.func mk) #[] caps)∧wx.cell? ⟨wr.heap.size,0,none⟩ = some (.int .i64 x.1)∧wx.cell? ⟨xb,0,none⟩ = some (.int .i64 far.1)∧wx.cell? ⟨xb,1,none⟩ = some (.int .i64 far.2))
                ((refine HS.out _ ?_; repeat (first | with_reducible exact hb6 | with_reducible exact hb5 | exact Below.refl _ _ | refine Below.drew ?_)))
                (first
                  | (go_at_call 145; refine (HHT.out wd.drew (Below.refl _ _).drew).mono ?_; rintro e5 w5 ⟨rfl,b5⟩; have hb5:Below wd.heap.size wd w5:=Below.undrew b5)
                  | (go_at_call 104; refine (HNR.out w5).mono ?_; rintro e6 w6 ⟨rfl,b6⟩; have hb6:Below wd.heap.size wd w6:=hb5.trans (b6.mono hb5.size)))
              go_wp2_with fail
              go_meet
              exact ⟨by rw [HNB.out]; simp [hk0],hb6⟩
            · have hd:decide (0 < (k:Int)) = false:=decide_eq_false (by omega)
              obtain ⟨s0,s1,s2,s3,s4,s5,s6⟩:=HS.out wd (Below.refl _ _)
              go_quiet (fail)
              go_wp2_with fail
              go_meet
              exact ⟨by rw [HNB.out]; simp [hk0],below_drewN (Below.refl _ _) _⟩
          case rest =>
            obtain ⟨rfl,hbc⟩:=hcut
            have hLc:=HLC.out.below hbc
            have hKc:=HKC.out.below hbc
            have hSc:=HS.out wc hbc
            have hszc:wr.heap.size≤wc.heap.size:=Nat.le_trans (Nat.le_trans HB2.out.size HX.out.old.size) hbc.size
            have HLC2:=hide hLc
            have HKC2:=hide hKc
            clear hLc hKc hbc HS HHT HNR
            cases nbv with
            | true =>
             as_aux_lemma =>
              clear hSc
              go_wp2
              refine ⟨⟨k + 1,fun k=>F2 k∧k < wr.heap.size,by go_num,by omega,?_,fun j hj=>HF2.out j hj.1,HLC2.out.cB,HKC2.out⟩,by simp [intOf]; omega⟩
              show GAt _ _ _ _ _ _
              have hb:=HNB.out
              simp at hb
              rw [HNX.out,HONE.out,if_neg (by simp),if_pos hb]
              exact HLC2.out.g
            | false =>
             as_aux_lemma =>
              have hcut:=cut128 bg _ lev lkk ch x.1 far.1 l wc HLC2.out.g HIDI.out (HI.out _ (HLKK.out.sub _ _ HFM.out)) hlI (allP ids) (by rw [allP_length]; omega) HLKK.out.inAll (fun p=>⟨HLKK.out.ris p,Nat.le_trans (HLEN.out p) (by omega)⟩)
              have HCUT:=hide hcut
              clear hcut
              obtain ⟨s0,s1,s2,s3,s4,s5,s6⟩:=hSc
              go_wp2_with fail
              refine HCUT.out.mono ?_
              rintro e7 w7 ⟨rfl,hg7,hk7⟩
              have hlk7:LkIn ids (cutL lkk x.1 far.1 l):=HLKK.out.cut _ _ _
              have hc7:=(hk7.block _ (heap_lt HLC2.out.cB) HLC2.out.nB).trans HLC2.out.cB
              have hz7:=(hk7.block _ (heap_lt HLC2.out.cZ) HLC2.out.nZ).trans HLC2.out.cZ
              have htie:=tie134 bg _ lev (cutL lkk x.1 far.1 l) ch x.1 id l w7 hg7 HIDI.out (HI.out _ HID.out) hlI (allP ids) (by rw [allP_length]; omega) hlk7.inAll (fun p=>⟨hlk7.ris p,Nat.le_trans (hlk7.len p) (by omega)⟩)
              have c0:=cells_at hc7 0 rfl
              have z0:=cells_at hz7 0 rfl
              have HTIE:=hide htie
              have HC7:=hide hc7
              have HK7:=hide hk7
              clear hlk7 htie hc7 hz7 hk7 hg7 HCUT s0 s1 s2 s3 s4 s5 s6
              go_wp2_with fail
              refine HTIE.out.mono ?_
              rintro e8 w8 ⟨rfl,F3,hg8,hk8,hf8⟩
              have HG8:=hide hg8
              have HK8:=hide hk8
              have HF8:=hide hf8
              clear hg8 hk8 hf8 c0 z0 HTIE
              go_wp2
              refine ⟨⟨k + 1,F3,by go_num,by omega,?_,fun j hj=>?_,?_,?_⟩,by simp [intOf]; omega⟩
              · show GAt _ _ _ _ _ _
                have hb:=HNB.out
                rw [HNX.out,HONE.out,if_neg (by simp),if_neg (fun h=>by simp [h.1,h.2] at hb)]
                exact HG8.out
              · rcases HF8.out j hj with e | e
                · exact HF2.out j e.1
                · have:=HK7.out.size
                  exact .inr (by omega)
              · exact (HK8.out.block _ (heap_lt HC7.out) HLC2.out.nB).trans HC7.out
              · exact ((HKC2.out.trans HK7.out (fun j hj e=>(HF2.out j e.1).elim (fun e=>e) (fun e=>by omega))).trans HK8.out (fun j hj e=>(HF2.out j e.1).elim (fun e=>e) (fun e=>by omega)))
    · go_wp2
      go_end0
      obtain rfl:k = m:=by omega
      exact ⟨rfl,F2,HG.out,HKE.out,fun k hk=>(HF2.out k hk).imp (fun e=>e) (fun e=>by omega)⟩
end
section
open Go.RowKit Go.Maps

def nrR (dd:Int→Int) (beam:Int) (lk:Int × Int→List Int) (ch:List Int) (N:Nat):Nat→List (Int × Int) × List Hit→List (List Hit)
  | 0,_=>[]
  | n + 1,p=>nrR dd beam lk ch N n (alongR dd (fun _=>true) beam (fun i=>reachedL lk ch i n) N p.1 p.2) ++ [(alongR dd (fun _=>true) beam (fun i=>reachedL lk ch i n) N p.1 p.2).2]
theorem nrR_length (dd:Int→Int) (beam:Int) (lk:Int × Int→List Int) (ch:List Int) (N:Nat):∀ n p,(nrR dd beam lk ch N n p).length = n
  | 0,_=>rfl
  | n + 1,p=>by rw [nrR,List.length_append,nrR_length dd beam lk ch N n]; rfl
noncomputable def nearF (dd:Int→Int) (beam:Int) (lev:List (Int × Int)) (lk:Int × Int→List Int) (ch:List Int) (N:Nat) (level:Int):List (List Hit) :=
  if lev = [] then [] else nrR dd beam lk ch N (min level (entrL lev).2 + 1).toNat (downR dd lev lk ch N [] level)

structure FoundAt (w:World) (N:Nat) (v:Value) (fs:List (List Hit)) (vs:List Value):Prop where
  val:∃ a,v = .slice a fs.length fs.length∧(0 < fs.length→∃ g,a = some ⟨g,0,none⟩∧N≤g∧w.heap[g]? = some (.cells vs.toArray 58 (0,0)))
  len:vs.length = fs.length
  row:∀ k,k < fs.length→HRow w (vs.getD k (.slice none 0 0)) (fs.getD k [])∧∀ g,(vs.getD k (.slice none 0 0)).ownBlock = some g→N≤g
theorem HRow_cases {w:World} {v:Value} {l:List Hit} (h:HRow w v l):(l = []∧v = .slice none 0 0) ∨ ∃ g cap,v = .slice (some ⟨g,0,none⟩) l.length cap∧l.length≤cap:=by
  rcases h.2 with ⟨h1,h2⟩ | ⟨g,cap,cur,h1,_,_,h3,_⟩
  · left
    exact ⟨List.eq_nil_of_length_eq_zero h2,h1⟩
  · exact .inr ⟨g,cap,h1,h3⟩
end
end Go.Proofs.YtpkiefjanmfgfaaGreatDoor
