import Derived.Test.YtpkiefjanmfgfaaGreatDoorAll01
import Derived.Test.YtpkiefjanmfgfaaGreatDoorAll02
import Derived.Test.YtpkiefjanmfgfaaGreatDoorAll11
import Derived.Test.YtpkiefjanmfgfaaGreatDoorAll12
import Derived.Test.YtpkiefjanmfgfaaGreatDoorAll15
import Derived.Test.YtpkiefjanmfgfaaGreatDoorAll20
namespace Go.Proofs.YtpkiefjanmfgfaaGreatDoor
section

structure FInv (want:Int→Bool) (width:Int) (s:AS):Prop where
  hp:Hp s.Fd
  nod:(s.Fd.map (·.1)).Nodup
  sub:∀ h ∈ s.Fd,h.1 ∈ s.met∧want h.1 = true
  cnt:(s.Fd.length:Int) = min width ((s.met.filter want).length:Int)
theorem popL_nodup {l:List Hit} (h:(l.map (·.1)).Nodup):((popL 150 l).map (·.1)).Nodup:=by
  cases l with
  | nil=>simp [popL,downL]
  | cons x l =>
    have hp:=(popL_perm (fk:=150) (x:=x) (l:=l)).map (·.1)
    rw [hp.nodup_iff]
    rw [List.map_cons,List.nodup_cons] at h
    exact h.2
theorem FInv.meet {want:Int→Bool} {width:Int} {s:AS} (h:FInv want width s) (_hw:0 < width) (dd:Int→Int) (id:Int):FInv want width (meetL dd want width s id):=by
  unfold meetL
  split
  · exact h
  · rename_i hm
    by_cases hwt:want id = true
    · have e:(List.filter want (id :: s.met)).length = (s.met.filter want).length + 1:=by rw [List.filter_cons_of_pos hwt]; rfl
      have hpn:((pushL 150 s.Fd (id,dd id)).map (·.1)).Nodup:=by
        rw [((pushL_perm s.Fd (id,dd id)).map (·.1)).nodup_iff,List.map_cons,List.nodup_cons]
        refine ⟨fun hx=>?_,h.nod⟩
        obtain ⟨y,hy,e⟩:=List.mem_map.1 hx
        have e':y.1 = id:=e
        exact hm (e' ▸ (h.sub y hy).1)
      have hps:∀ y ∈ pushL 150 s.Fd (id,dd id),y.1 ∈ id :: s.met∧want y.1 = true:=fun y hy=>by
        rcases mem_pushL hy with rfl | hy
        · exact ⟨List.mem_cons_self,hwt⟩
        · exact ⟨List.mem_cons_of_mem _ (h.sub y hy).1,(h.sub y hy).2⟩
      have hc:=h.cnt
      refine ⟨?_,?_,fun y hy=>?_,?_⟩
      · simp only [hwt,if_true]
        unfold addL
        split
        · exact popL_heap (pushL_heap h.hp _)
        · exact pushL_heap h.hp _
      · simp only [hwt,if_true]
        unfold addL
        split
        · exact popL_nodup hpn
        · exact hpn
      · simp only [hwt,if_true] at hy
        unfold addL at hy
        split at hy
        · exact hps y (mem_popL hy)
        · exact hps y hy
      · simp only [hwt,if_true]
        show ((addL width s.Fd (id,dd id)).length:Int) = min width ((List.filter want (id :: s.met)).length:Int)
        rw [e]
        unfold addL
        split
        · rename_i h1
          rw [pushL_length] at h1
          rw [popL_length,pushL_length]
          omega
        · rename_i h1
          rw [pushL_length] at h1
          rw [pushL_length]
          omega
    · have hwf:want id = false:=by simpa using hwt
      refine ⟨?_,?_,fun y hy=>?_,?_⟩
      · simp only [hwf]; exact h.hp
      · simp only [hwf]; exact h.nod
      · simp only [hwf] at hy
        exact ⟨List.mem_cons_of_mem _ (h.sub y hy).1,(h.sub y hy).2⟩
      · simp only [hwf]
        show ((if false = true then _ else s.Fd).length:Int) = min width ((List.filter want (id :: s.met)).length:Int)
        rw [List.filter_cons_of_neg (by rw [hwf]; decide)]
        exact h.cnt
theorem FInv.meetAll {want:Int→Bool} {width:Int} (hw:0 < width) (dd:Int→Int):∀ {l:List Int} {s:AS},FInv want width s→FInv want width (meetAll dd want width s l)
  | [],_,h=>h
  | x :: l,_,h=>FInv.meetAll (l:=l) hw dd (h.meet hw dd x)
theorem FInv.run {want:Int→Bool} {width:Int} (hw:0 < width) (dd:Int→Int) {nb:Int→List Int}:∀ (n:Nat) {s:AS},FInv want width s→FInv want width (runS dd want width nb n s)
  | 0,_,h=>h
  | n + 1,s,h=>by
    unfold runS
    split
    · have hp:FInv want width (popS s):=⟨h.hp,h.nod,h.sub,h.cnt⟩
      exact FInv.run hw dd n (hp.meetAll hw dd)
    · exact h

def Cl (nb:Int→List Int) (ex:Int→Prop) (s:AS):Prop:=∀ x ∈ s.met,ex x ∨ (∃ h ∈ s.C,h.1 = x) ∨ ∀ y ∈ nb x,y ∈ s.met
theorem meetL_met {dd:Int→Int} {want:Int→Bool} {width:Int} {s:AS} {id:Int}:(∀ x ∈ s.met,x ∈ (meetL dd want width s id).met)∧id ∈ (meetL dd want width s id).met:=by
  unfold meetL
  split
  · rename_i h; exact ⟨fun x hx=>hx,h⟩
  · exact ⟨fun x hx=>List.mem_cons_of_mem _ hx,List.mem_cons_self⟩
theorem Cl.meet {nb:Int→List Int} {ex:Int→Prop} {s:AS} (h:Cl nb ex s) (dd:Int→Int) (want:Int→Bool) (width:Int) (id:Int):Cl nb ex (meetL dd want width s id):=by
  have hmono:=(meetL_met (dd:=dd) (want:=want) (width:=width) (s:=s) (id:=id)).1
  intro x hx
  by_cases hin:x ∈ s.met
  · rcases h x hin with h1 | ⟨y,hy,e⟩ | h1
    · exact .inl h1
    · refine .inr (.inl ⟨y,?_,e⟩)
      unfold meetL
      split
      · exact hy
      · exact ((pushL_perm s.C (id,dd id)).mem_iff).2 (List.mem_cons_of_mem _ hy)
    · exact .inr (.inr fun y hy=>hmono y (h1 y hy))
  · unfold meetL at hx ⊢
    split at hx
    · exact absurd hx hin
    · rename_i hm
      rcases List.mem_cons.1 hx with rfl | hx
      · rw [if_neg hm]
        exact .inr (.inl ⟨(x,dd x),((pushL_perm s.C (x,dd x)).mem_iff).2 List.mem_cons_self,rfl⟩)
      · exact absurd hx hin
theorem Cl.meetAll {nb:Int→List Int} {ex:Int→Prop} (dd:Int→Int) (want:Int→Bool) (width:Int):∀ {l:List Int} {s:AS},Cl nb ex s→Cl nb ex (meetAll dd want width s l)
  | [],_,h=>h
  | x :: l,_,h=>Cl.meetAll (l:=l) dd want width (h.meet dd want width x)
theorem meetAll_met (dd:Int→Int) (want:Int→Bool) (width:Int):∀ {l:List Int} {s:AS},(∀ x ∈ s.met,x ∈ (meetAll dd want width s l).met)∧∀ x ∈ l,x ∈ (meetAll dd want width s l).met
  | [],_=>⟨fun x hx=>hx,fun x hx=>absurd hx List.not_mem_nil⟩
  | y :: l,s=>by
    have h1:=meetL_met (dd:=dd) (want:=want) (width:=width) (s:=s) (id:=y)
    have h2:=meetAll_met dd want width (l:=l) (s:=meetL dd want width s y)
    refine ⟨fun x hx=>h2.1 x (h1.1 x hx),fun x hx=>?_⟩
    rcases List.mem_cons.1 hx with rfl | hx
    · exact h2.1 x h1.2
    · exact h2.2 x hx
theorem Cl.step {nb:Int→List Int} {s:AS} (h:Cl nb (fun _=>False) s) (dd:Int→Int) (want:Int→Bool) (width:Int) (hC:0 < s.C.length):Cl nb (fun _=>False) (stepS dd want width nb s):=by
  obtain ⟨t,C',hCe⟩:∃ t C',s.C = t :: C':=by
    cases hc:s.C with
    | nil=>rw [hc] at hC; exact absurd hC (Nat.lt_irrefl _)
    | cons t C'=>exact ⟨t,C',rfl⟩
  have hp:Cl nb (fun x=>x = t.1) (popS s):=fun x hx=>by
    rcases h x hx with h1 | ⟨y,hy,e⟩ | h1
    · exact h1.elim
    · rw [hCe] at hy
      rcases List.mem_cons.1 hy with rfl | hy
      · exact .inl e.symm
      · refine .inr (.inl ⟨y,?_,e⟩)
        show y ∈ popL 104 s.C
        rw [hCe]
        exact ((popL_perm (fk:=104) (x:=t) (l:=C')).mem_iff).2 hy
    · exact .inr (.inr h1)
  have ht:nth s.C 0 = t:=by rw [hCe]; rfl
  intro x hx
  unfold stepS at hx ⊢
  rw [ht] at hx ⊢
  rcases hp.meetAll dd want width x hx with h1 | h1 | h1
  · subst h1
    exact .inr (.inr fun y hy=>(meetAll_met dd want width (l:=nb t.1) (s:=popS s)).2 y hy)
  · exact .inr (.inl h1)
  · exact .inr (.inr h1)
theorem run_end {ids:List Int} {dd:Int→Int} (want:Int→Bool) (width:Int) {nb:Int→List Int} (hnb:∀ i ∈ ids,∀ x ∈ nb i,x ∈ ids):∀ (n:Nat) {s:AS},ASOk ids dd s→s.mu ids.length≤n→Cl nb (fun _=>False) s→onward width (runS dd want width nb n s) = false∧Cl nb (fun _=>False) (runS dd want width nb n s)∧(∀ x ∈ s.met,x ∈ (runS dd want width nb n s).met)∧ASOk ids dd (runS dd want width nb n s)
  | 0,s,h,hm,hc=>by
    have:s.C.length = 0:=by unfold AS.mu at hm; omega
    refine ⟨?_,hc,fun x hx=>hx,h⟩
    show onward width s = false
    unfold onward
    rw [this]; rfl
  | n + 1,s,h,hm,hc=>by
    unfold runS
    split
    · rename_i ho
      obtain ⟨h1,h2⟩:=h.step want width hnb ho
      have hC:0 < s.C.length:=by
        unfold onward at ho
        simp at ho
        exact ho.1
      obtain ⟨a,b,c,d⟩:=run_end want width hnb n h1 (by omega) (hc.step dd want width hC)
      refine ⟨a,b,fun x hx=>c x ?_,d⟩
      unfold stepS
      exact (meetAll_met dd want width (s:=popS s)).1 x hx
    · rename_i ho
      exact ⟨by simpa using ho,hc,fun x hx=>hx,h⟩

theorem alongR_spec {ids:List Int} {dd:Int→Int} {want:Int→Bool} {width:Int} {nb:Int→List Int} {kn:List (Int × Int)} {st:List Hit} (hw:0 < width) (hnb:∀ i ∈ ids,∀ x ∈ nb i,x ∈ ids) (hkn:KnOk ids dd kn) (hst:∀ x ∈ st,x.1 ∈ ids) :
    (alongR dd want width nb ids.length kn st).2.Pairwise hle∧((alongR dd want width nb ids.length kn st).2.map (·.1)).Nodup∧(∀ h ∈ (alongR dd want width nb ids.length kn st).2,h.1 ∈ ids∧h.2 = dd h.1∧want h.1 = true) ∧
      ((alongR dd want width nb ids.length kn st).2.length:Int)≤width∧(width≤((alongR dd want width nb ids.length kn st).2.length:Int) ∨ ∃ M:List Int,(∀ x ∈ st,x.1 ∈ M)∧(∀ x ∈ M,∀ y ∈ nb x,y ∈ M)∧((alongR dd want width nb ids.length kn st).2.length:Int) = min width ((M.filter want).length:Int)):=by
  have hsl:∀ x ∈ st.map (·.1),x ∈ ids:=fun x hx=>by
    obtain ⟨y,hy,rfl⟩:=List.mem_map.1 hx
    exact hst y hy
  have h0:FInv want width (begS kn):=⟨fun i _ hl=>absurd hl (Nat.not_lt_zero _),List.nodup_nil,fun _ hx=>absurd hx List.not_mem_nil,by show (0:Int) = min width 0; omega⟩
  have hc0:Cl nb (fun _=>False) (begS kn):=fun x hx=>absurd hx List.not_mem_nil
  have h1:=h0.meetAll hw dd (l:=st.map (·.1))
  have hc1:=hc0.meetAll dd want width (l:=st.map (·.1))
  obtain ⟨ha,_⟩:=ASOk.meetAll want width (l:=st.map (·.1)) hkn.beg hsl
  have hm1:=(meetAll_met dd want width (l:=st.map (·.1)) (s:=begS kn)).2
  obtain ⟨e1,e2,e3,e4⟩:=run_end want width hnb ((meetAll dd want width (begS kn) (st.map (·.1))).mu ids.length) ha (Nat.le_refl _) hc1
  have hf:=h1.run hw dd (nb:=nb) ((meetAll dd want width (begS kn) (st.map (·.1))).mu ids.length)
  unfold alongR
  simp only
  generalize runS dd want width nb ((meetAll dd want width (begS kn) (st.map (·.1))).mu ids.length) (meetAll dd want width (begS kn) (st.map (·.1))) = sF at e1 e2 e3 e4 hf
  have hperm:=drainL_perm sF.Fd.length sF.Fd rfl
  refine ⟨drainL_sorted _ _ rfl hf.hp,?_,fun h hh=>?_,?_,?_⟩
  · rw [(hperm.map (·.1)).nodup_iff]; exact hf.nod
  · have hm:=hperm.mem_iff.1 hh
    exact ⟨e4.sub _ (e4.fm h hm).1,(e4.fm h hm).2,(hf.sub h hm).2⟩
  · rw [drainL_length]
    have:=hf.cnt
    omega
  · rw [drainL_length]
    unfold onward at e1
    rcases Nat.eq_zero_or_pos sF.C.length with hz | hz
    · right
      have hCn:sF.C = []:=List.eq_nil_of_length_eq_zero hz
      refine ⟨sF.met,fun x hx=>e3 _ (hm1 _ (List.mem_map.2 ⟨x,hx,rfl⟩)),fun x hx y hy=>?_,hf.cnt⟩
      rcases e2 x hx with h | ⟨z,hz',_⟩ | h
      · exact h.elim
      · rw [hCn] at hz'; cases hz'
      · exact h y hy
    · left
      have:leadsL width sF.Fd (nth sF.C 0) = false:=by
        simpa [hz] using e1
      unfold leadsL at this
      split at this
      · cases this
      · omega

theorem chain_all {lk:Int × Int→List Int} {ch:List Int} (hn:ch.Nodup) {M:List Int} (hM:∀ x ∈ M,∀ y ∈ reachedL lk ch x 0,y ∈ M) {x:Int} (hx:x ∈ ch) (hxM:x ∈ M):∀ y ∈ ch,y ∈ M:=by
  have hb:∀ x ∈ M,∀ y ∈ besideL ch x,y ∈ M:=fun x hx y hy=>hM x hx y (by unfold reachedL; rw [if_pos rfl]; exact List.mem_append.2 (.inr hy))
  have hidx:∀ k (hk:k < ch.length),ch.idxOf ch[k] = k:=fun k hk=>hn.idxOf_getElem k hk
  have hgd:∀ k (hk:k < ch.length),ch.getD k 0 = ch[k]:=fun k hk=>by rw [List.getD_eq_getElem?_getD,List.getElem?_eq_getElem hk]; rfl
  have hup:∀ k (hk:k + 1 < ch.length),ch[k] ∈ M→ch[k + 1] ∈ M:=fun k hk h=>hb _ h _ (by
    unfold besideL
    rw [if_pos (List.getElem_mem _),hidx k (by omega)]
    refine List.mem_append.2 (.inr ?_)
    unfold behind1
    rw [if_pos hk,hgd (k + 1) hk]
    exact List.mem_singleton.2 rfl)
  have hdn:∀ k (hk:k + 1 < ch.length),ch[k + 1] ∈ M→ch[k] ∈ M:=fun k hk h=>hb _ h _ (by
    unfold besideL
    rw [if_pos (List.getElem_mem _),hidx (k + 1) hk]
    refine List.mem_append.2 (.inl ?_)
    unfold ahead1
    rw [if_pos (by omega),Nat.add_sub_cancel,hgd k (by omega)]
    exact List.mem_singleton.2 rfl)
  obtain ⟨k0,hk0,rfl⟩:=List.getElem_of_mem hx
  have up:∀ d (hd:k0 + d < ch.length),ch[k0 + d] ∈ M:=by
    intro d
    induction d with
    | zero=>intro _; exact hxM
    | succ d ih=>intro hd; exact hup (k0 + d) hd (ih (by omega))
  have dn:∀ d,d≤k0→∀ hd:k0 - d < ch.length,ch[k0 - d] ∈ M:=by
    intro d
    induction d with
    | zero=>intro _ _; exact hxM
    | succ d ih =>
      intro hle hd
      have h1:=ih (by omega) (by omega)
      have e:k0 - d = k0 - (d + 1) + 1:=by omega
      have h2:ch[k0 - (d + 1) + 1]'(by omega) ∈ M:=by
        have:ch[k0 - (d + 1) + 1]'(by omega) = ch[k0 - d]'(by omega):=by congr 1; omega
        rw [this]; exact h1
      exact hdn (k0 - (d + 1)) (by omega) h2
  intro y hy
  obtain ⟨j,hj,rfl⟩:=List.getElem_of_mem hy
  rcases Nat.le_total k0 j with h | h
  · have:=up (j - k0) (by omega)
    have e:ch[k0 + (j - k0)]'(by omega) = ch[j]:=by congr 1; omega
    rw [← e]; exact this
  · have:=dn (k0 - j) (by omega) (by omega)
    have e:ch[k0 - (k0 - j)]'(by omega) = ch[j]:=by congr 1; omega
    rw [← e]; exact this
end
section
open Go.RowKit Go.Maps

theorem alongR_known {ids:List Int} {dd:Int→Int} {want:Int→Bool} {width:Int} {nb:Int→List Int} {kn:List (Int × Int)} {st:List Hit} (hnb:∀ i ∈ ids,∀ x ∈ nb i,x ∈ ids) (hkn:KnOk ids dd kn) (hst:∀ x ∈ st,x.1 ∈ ids):KnOk ids dd (alongR dd want width nb ids.length kn st).1:=by
  have hsl:∀ x ∈ st.map (·.1),x ∈ ids:=fun x hx=>by
    obtain ⟨y,hy,rfl⟩:=List.mem_map.1 hx
    exact hst y hy
  obtain ⟨ha,_⟩:=ASOk.meetAll want width (l:=st.map (·.1)) hkn.beg hsl
  exact (run_end want width hnb _ ha (Nat.le_refl _) (Cl.meetAll (nb:=nb) (ex:=fun _=>False) dd want width (fun x hx=>absurd hx List.not_mem_nil))).2.2.2.know
theorem along_one {ids:List Int} {dd:Int→Int} {nb:Int→List Int} {kn:List (Int × Int)} {st:List Hit} (hnb:∀ i ∈ ids,∀ x ∈ nb i,x ∈ ids) (hkn:KnOk ids dd kn) (hst:∀ x ∈ st,x.1 ∈ ids) (h0:st ≠ []):(alongR dd (fun _=>true) 1 nb ids.length kn st).2 ≠ []:=by
  obtain ⟨_,_,_,_,h⟩:=alongR_spec (dd:=dd) (want:=fun _=>true) (width:=1) (by omega) hnb hkn hst
  intro e
  rw [e] at h
  rcases h with h | ⟨M,h1,_,h3⟩
  · simp at h
  · obtain ⟨x,hx⟩:=List.exists_mem_of_ne_nil _ h0
    have hm:=h1 x hx
    have:0 < (M.filter fun _=>true).length:=List.length_pos_of_mem (List.mem_filter.2 ⟨hm,rfl⟩)
    simp only [List.length_nil] at h3
    omega
theorem dnR_one {ids:List Int} {dd:Int→Int} {lk:Int × Int→List Int} {ch:List Int} (hnb:∀ l:Int,∀ i ∈ ids,∀ x ∈ reachedL lk ch i l,x ∈ ids):∀ (n:Nat) (l:Int) (p:List (Int × Int) × List Hit),KnOk ids dd p.1→(∀ x ∈ p.2,x.1 ∈ ids)→p.2 ≠ []→(dnR dd lk ch ids.length n l p).2 ≠ []∧KnOk ids dd (dnR dd lk ch ids.length n l p).1∧∀ x ∈ (dnR dd lk ch ids.length n l p).2,x.1 ∈ ids
  | 0,_,p,h1,h2,h3=>⟨h3,h1,h2⟩
  | n + 1,l,p,h1,h2,h3=>by
    unfold dnR
    have hs:=alongR_spec (dd:=dd) (want:=fun _=>true) (width:=1) (by omega) (hnb l) h1 h2
    exact dnR_one hnb n (l - 1) _ (alongR_known (hnb l) h1 h2) (fun x hx=>(hs.2.2.1 x hx).1) (along_one (hnb l) h1 h2 h3)

def passL (F:List (List Cnd)) (L:List Ent):List Ent:=L.filter fun e=>passB F e.t0 e.t1
theorem findE_of_mem {L:List Ent} (hr:Rising L) {e:Ent} (he:e ∈ L):findE e.id L = some e:=by
  induction L with
  | nil=>cases he
  | cons y r ih =>
    obtain ⟨h1,h2⟩:=List.pairwise_cons.1 hr
    unfold findE
    rw [List.find?_cons]
    rcases List.mem_cons.1 he with rfl | he
    · simp
    · have:=h1 e he
      have hne:¬ y.id = e.id:=by omega
      simp only [hne,decide_false]
      exact ih h2 he
theorem rising_nodup {L:List Ent} (h:Rising L):(L.map (·.id)).Nodup:=by
  unfold Rising at h
  rw [List.Nodup,List.pairwise_map]
  exact h.imp (fun h=>by omega)

def MK (s:AS):Prop:=∀ x ∈ s.met,x ∈ s.kn.map (·.1)
theorem MK.meet {s:AS} (h:MK s) (dd:Int→Int) (want:Int→Bool) (width:Int) (id:Int):MK (meetL dd want width s id):=by
  unfold meetL
  split
  · exact h
  · intro x hx
    show x ∈ (knowL dd s.kn id).map (·.1)
    have hsub:∀ y ∈ s.kn.map (·.1),y ∈ (knowL dd s.kn id).map (·.1):=fun y hy=>by
      unfold knowL
      split
      · rw [List.map_cons]; exact List.mem_cons_of_mem _ hy
      · exact hy
    rcases List.mem_cons.1 hx with rfl | hx
    · unfold knowL
      split
      · rw [List.map_cons]; exact List.mem_cons_self
      · rename_i hl
        obtain ⟨t,ht⟩:=Option.ne_none_iff_exists'.1 hl
        exact List.mem_map.2 ⟨_,levOf_mem ht,rfl⟩
    · exact hsub x (h x hx)
theorem MK.meetAll (dd:Int→Int) (want:Int→Bool) (width:Int):∀ {l:List Int} {s:AS},MK s→MK (meetAll dd want width s l)
  | [],_,h=>h
  | x :: l,_,h=>MK.meetAll (l:=l) dd want width (h.meet dd want width x)
theorem MK.run (dd:Int→Int) (want:Int→Bool) (width:Int) {nb:Int→List Int}:∀ (n:Nat) {s:AS},MK s→MK (runS dd want width nb n s)
  | 0,_,h=>h
  | n + 1,s,h=>by
    unfold runS
    split
    · have hp:MK (popS s):=h
      exact MK.run dd want width n (hp.meetAll dd want width)
    · exact h
theorem along_knows {ids:List Int} {dd:Int→Int} {want:Int→Bool} {width:Int} {nb:Int→List Int} {kn:List (Int × Int)} {st:List Hit} (hw:0 < width) (hnb:∀ i ∈ ids,∀ x ∈ nb i,x ∈ ids) (hkn:KnOk ids dd kn) (hst:∀ x ∈ st,x.1 ∈ ids):(alongR dd want width nb ids.length kn st).2.length≤(alongR dd want width nb ids.length kn st).1.length:=by
  have hs:=alongR_spec (dd:=dd) (want:=want) hw hnb hkn hst
  have h0:MK (begS kn):=fun x hx=>absurd hx List.not_mem_nil
  have h1:=(h0.meetAll dd want width (l:=st.map (·.1))).run dd want width (nb:=nb) ((meetAll dd want width (begS kn) (st.map (·.1))).mu ids.length)
  have f0:FInv want width (begS kn):=⟨fun i _ hl=>absurd hl (Nat.not_lt_zero _),List.nodup_nil,fun _ hx=>absurd hx List.not_mem_nil,by show (0:Int) = min width 0; omega⟩
  have f1:=(f0.meetAll hw dd (l:=st.map (·.1))).run hw dd (nb:=nb) ((meetAll dd want width (begS kn) (st.map (·.1))).mu ids.length)
  have hn:=hs.2.1
  unfold alongR at hn ⊢
  simp only at hn ⊢
  generalize runS dd want width nb ((meetAll dd want width (begS kn) (st.map (·.1))).mu ids.length) (meetAll dd want width (begS kn) (st.map (·.1))) = sF at h1 f1 hn ⊢
  have:=List.Nodup.length_le_of_subset (l₂:=sF.kn.map (·.1)) hn (fun x hx=>by
    obtain ⟨y,hy,rfl⟩:=List.mem_map.1 hx
    exact h1 _ (f1.sub y ((drainL_perm sF.Fd.length sF.Fd rfl).mem_iff.1 hy)).1)
  simpa using this

theorem srR_spec {w:World} {bb bs bm:Nat} {cf:Cf} {gn:Net} {L:List Ent} (h:BaseAt w bb bs bm cf gn L) (xs:List Int) (F:List (List Cnd)) (width:Int) (hw:0 < width) :
    (srR cf gn L xs F width).2.Pairwise hle∧((srR cf gn L xs F width).2.map (·.1)).Nodup∧(∀ x ∈ (srR cf gn L xs F width).2,∃ e ∈ passL F L,x = (e.id,distL cf.metric xs e.pt))∧((srR cf gn L xs F width).2.length:Int)≤width∧min width ((passL F L).length:Int)≤((srR cf gn L xs F width).2.length:Int)∧(srR cf gn L xs F width).2.length≤(srR cf gn L xs F width).1.length∧(srR cf gn L xs F width).1.length≤L.length:=by
  have hnb:=h.ok.ok.nb
  have hd:KnOk (gn.lev.map (·.1)) (qd cf.metric xs L) (downR (qd cf.metric xs L) gn.lev gn.lk gn.ch (gn.lev.map (·.1)).length [] 0).1∧(∀ x ∈ (downR (qd cf.metric xs L) gn.lev gn.lk gn.ch (gn.lev.map (·.1)).length [] 0).2,x.1 ∈ gn.lev.map (·.1))∧(gn.lev ≠ []→(downR (qd cf.metric xs L) gn.lev gn.lk gn.ch (gn.lev.map (·.1)).length [] 0).2 ≠ []):=by
    have hk0:KnOk (gn.lev.map (·.1)) (qd cf.metric xs L) []:=⟨List.nodup_nil,fun _ hp=>absurd hp List.not_mem_nil,fun _ hp=>absurd hp List.not_mem_nil⟩
    unfold downR
    split
    · rename_i e
      exact ⟨hk0,fun x hx=>absurd hx List.not_mem_nil,fun hne=>absurd e hne⟩
    · rename_i hne
      have hm:=entrL_mem (fun p hp=>(h.ok.ok.lev5 p hp).1) hne
      have hin:(entrL gn.lev).1 ∈ gn.lev.map (·.1):=List.mem_map.2 ⟨_,hm,rfl⟩
      obtain ⟨a,b,c⟩:=dnR_one (ids:=gn.lev.map (·.1)) (dd:=qd cf.metric xs L) hnb ((entrL gn.lev).2 - 0).toNat (entrL gn.lev).2 (knowL (qd cf.metric xs L) [] (entrL gn.lev).1,[((entrL gn.lev).1,qd cf.metric xs L (entrL gn.lev).1)]) (hk0.hit hin) (fun x hx=>by rw [List.mem_singleton.1 hx]; exact hin) (by simp)
      exact ⟨b,c,fun _=>a⟩
  obtain ⟨hd1,hd2,hd3⟩:=hd
  have hs:=alongR_spec (dd:=qd cf.metric xs L) (want:=qw F L) hw (hnb 0) hd1 hd2
  have hk:=along_knows (dd:=qd cf.metric xs L) (want:=qw F L) hw (hnb 0) hd1 hd2
  have hkl:=(alongR_known (want:=qw F L) (width:=width) (hnb 0) hd1 hd2).len
  have hids:(gn.lev.map (·.1)).length≤L.length:=by
    have h1:gn.lev.map (·.1) ⊆ L.map (·.id):=fun x hx=>by
      obtain ⟨e,he⟩:=Option.isSome_iff_exists.1 (h.ids.1 hx)
      exact List.mem_map.2 ⟨e,(findE_mem he).1,(findE_mem he).2⟩
    have h2:=List.Nodup.length_le_of_subset h.ok.ok.nod h1
    simpa using h2
  unfold srR
  simp only
  generalize downR (qd cf.metric xs L) gn.lev gn.lk gn.ch (gn.lev.map (·.1)).length [] 0 = d at hd1 hd2 hd3 hs hk hkl
  obtain ⟨s1,s2,s3,s4,s5⟩:=hs
  refine ⟨s1,s2,fun x hx=>?_,s4,?_,hk,Nat.le_trans hkl hids⟩
  · obtain ⟨q1,q2,q3⟩:=s3 x hx
    obtain ⟨e,he⟩:=Option.isSome_iff_exists.1 (h.ids.1 q1)
    have hq:passB F e.t0 e.t1 = true:=by
      unfold qw at q3
      rw [he] at q3; exact q3
    refine ⟨e,List.mem_filter.2 ⟨(findE_mem he).1,hq⟩,?_⟩
    have q4:x.2 = distL cf.metric xs e.pt:=by
      rw [q2]
      unfold qd ptOf
      rw [he]
    exact Prod.ext (findE_mem he).2.symm q4
  · rcases s5 with s5 | ⟨M,m1,m2,m3⟩
    · omega
    · have hle:(passL F L).length≤(M.filter (qw F L)).length:=by
        by_cases hne:gn.lev = []
        · have hL:passL F L = []:=by
            rw [List.eq_nil_iff_forall_not_mem]
            intro e he
            have he':=(List.mem_filter.1 he).1
            have:=h.ids.2 (by rw [findE_of_mem h.map.rising he']; rfl)
            rw [hne] at this
            cases this
          rw [hL]; exact Nat.zero_le _
        · obtain ⟨x0,hx0⟩:=List.exists_mem_of_ne_nil _ (hd3 hne)
          have hall:=chain_all h.ok.ok.chn m2 ((h.ok.ok.chm _).2 (hd2 x0 hx0)) (m1 x0 hx0)
          have hnd:((passL F L).map (·.id)).Nodup:=List.Nodup.sublist (List.Sublist.map _ List.filter_sublist) (rising_nodup h.map.rising)
          have:=List.Nodup.length_le_of_subset (l₂:=M.filter (qw F L)) hnd (fun i hi=>by
            obtain ⟨e,he,rfl⟩:=List.mem_map.1 hi
            obtain ⟨he1,he2⟩:=List.mem_filter.1 he
            have hf:=findE_of_mem h.map.rising he1
            refine List.mem_filter.2 ⟨hall _ ((h.ok.ok.chm _).2 (h.ids.2 (by rw [hf]; rfl))),?_⟩
            unfold qw
            rw [hf]; exact he2)
          simpa using this
      omega
end
section
open Go.RowKit Go.Maps

theorem FiltAt.clause {w:World} {a:Option Addr} {n cap:Nat} {F:List (List Cnd)} (h:FiltAt w (.slice a n cap) F) {i:Nat} (hi:i < F.length):∃ b off ua uc,a = some ⟨b,off,none⟩∧w.cell? ⟨b,off + i,none⟩ = some (.slice ua (F.getD i []).length uc)∧CondsAt w (.slice ua (F.getD i []).length uc) (F.getD i []):=by
  obtain ⟨a',cap',e,_,_,hx⟩:=h
  simp only [Value.slice.injEq] at e
  obtain ⟨rfl,_,rfl⟩:=e
  rcases hx with rfl | ⟨b,off,rfl,hc⟩
  · exact absurd hi (Nat.not_lt_zero _)
  · obtain ⟨u,hu,hcu⟩:=hc i hi
    have h2:=hcu
    obtain ⟨ua,uc,rfl,_⟩:=h2
    exact ⟨b,off,ua,uc,rfl,hu,hcu⟩
theorem CondsAt.cond {w:World} {a:Option Addr} {n cap:Nat} {cs:List Cnd} (h:CondsAt w (.slice a n cap) cs) {i:Nat} (hi:i < cs.length):∃ b off,a = some ⟨b,off,none⟩∧w.cell? ⟨b,off + i * 3,none⟩ = some (.int .i64 (cs.getD i (0,0,0)).1)∧w.cell? ⟨b,off + i * 3 + 1,none⟩ = some (.int .i64 (cs.getD i (0,0,0)).2.1)∧w.cell? ⟨b,off + i * 3 + 2,none⟩ = some (.int .i64 (cs.getD i (0,0,0)).2.2):=by
  obtain ⟨a',cap',e,_,_,hx⟩:=h
  simp only [Value.slice.injEq] at e
  obtain ⟨rfl,_,rfl⟩:=e
  rcases hx with rfl | ⟨b,off,rfl,hc⟩
  · exact absurd hi (Nat.not_lt_zero _)
  · exact ⟨b,off,rfl,hc i hi⟩

set_option maxHeartbeats 1000000 in
set_option maxRecDepth 20000 in
theorem holdsR (t o v t0 t1:Int) (w:World) (ht:t = 0 ∨ t = 1):Calls Tryz.prog 157 #[.agg #[.int .i64 t,.int .i64 o,.int .i64 v],.agg #[.int .i64 t0,.int .i64 t1]] w fun e w'=>e = .returned (.bool (holdB t0 t1 (t,o,v)))∧Below w.heap.size w w':=by
  have hB:∀ o1 o2,Below w.heap.size w ((w.alloc o1).alloc o2):=fun o1 o2=>((Below.refl _ _).alloc (Nat.le_refl _) _).alloc (by simp) _
  have HV:Hid (holdB t0 t1 (t,o,v) = if o = 0 then decide ((if t = 0 then t0 else t1) = v) else if o = 1 then decide ((if t = 0 then t0 else t1) ≠ v) else if o = 2 then decide ((if t = 0 then t0 else t1) < v) else decide (v≤(if t = 0 then t0 else t1))):=rfl
  generalize holdB t0 t1 (t,o,v) = hv at HV
  rcases ht with rfl | rfl
  all_goals
    by_cases h0:o = 0
    · subst h0
      go_enter Tryz.func157,Tryz.ntmps157
      go_wp2
      go_ret
      exact ⟨by rw [HV.out]; simp [BEq.beq],hB _ _⟩
    · have d0:(o == 0) = false:=by simpa using h0
      by_cases h1:o = 1
      · subst h1
        go_enter Tryz.func157,Tryz.ntmps157
        go_wp2
        go_ret
        exact ⟨by rw [HV.out]; simp [bne,BEq.beq],hB _ _⟩
      · have d1:(o == 1) = false:=by simpa using h1
        by_cases h2:o = 2
        · subst h2
          go_enter Tryz.func157,Tryz.ntmps157
          go_wp2
          go_ret
          exact ⟨by rw [HV.out]; simp,hB _ _⟩
        · have d2:(o == 2) = false:=by simpa using h2
          go_enter Tryz.func157,Tryz.ntmps157
          go_wp2
          go_ret
          exact ⟨by rw [HV.out]; simp [h0,h1,h2],hB _ _⟩

set_option maxHeartbeats 4000000 in
set_option maxRecDepth 20000 in
theorem wrongR (v:Value) (F:List (List Cnd)) (w:World) (h:FiltAt w v F):Calls Tryz.prog 124 #[.agg #[v]] w fun e w'=>e = .returned (.bool (!filtB F))∧Below w.heap.size w w':=by
  have h':=h
  obtain ⟨a,cap,rfl,hcap,hm,_⟩:=h'
  have hB0:Below w.heap.size w (w.alloc (.cells #[.slice a F.length cap] 47)):=(Below.refl _ _).alloc (Nat.le_refl _) _
  obtain ⟨fb,hfb⟩:∃ fb,fb = filtB F:=⟨_,rfl⟩
  rw [← hfb]
  by_cases h6:F.length≤6
  · have hd:decide (6 < (F.length:Int)) = false:=decide_eq_false (by omega)
    have HCB:Hid (fb = F.all clauseB):=by
      show _ = _
      rw [hfb]
      unfold filtB
      simp [h6]
    have hz0:(w.alloc (.cells #[.slice a F.length cap] 47)).heap[w.heap.size]? = some (.cells #[.slice a F.length cap] 47 (0,0)):=heap_alloc_new _ _
    have HF:=hide h
    have HB0:=hide hB0
    have HZ0:=hide hz0
    clear h hB0 hz0 hfb
    go_enter Tryz.func124,Tryz.ntmps124
    go_wp2
    generalize hwe:w.alloc (.cells #[.slice a F.length cap] 47) = w1 at HB0 HZ0 ⊢
    clear hwe
    go_loopw [3,4,5,6,7] (fun i _ _ _ _ wr=>∃ k:Nat,i = .int .i64 k∧k≤F.length∧Hid ((F.take k).all clauseB = true)∧Hid (Below w.heap.size w wr)∧Hid (wr.heap[w.heap.size]? = some (.cells #[.slice a F.length cap] 47 (0,0)))) (fun i _ _ _ _ _=>F.length - (intOf i).toNat)
    case atStart=>exact ⟨0,rfl,Nat.zero_le _,rfl,HB0.out,HZ0.out⟩
    case round =>
      obtain ⟨k,rfl,hk,HA,HB,HZ⟩:=hrel
      have z0:=cells_at HZ.out 0 rfl
      by_cases hlt:k < F.length
      · obtain ⟨b,off,ua,uc,rfl,hu,hcu⟩:=(HF.out.below HB.out).clause hlt
        have HS:Hid ((F.take (k + 1)).all clauseB = ((F.take k).all clauseB && clauseB (F.getD k []))):=hide (all_take_succ clauseB F k [] hlt)
        have HBD:Hid (clauseB (F.getD k []) = false→F.all clauseB = false):=fun h=>all_bad hlt h
        generalize F.getD k [] = cs at hu hcu HS HBD
        by_cases hc6:cs.length≤6
        · have hd6:decide (6 < (cs.length:Int)) = false:=decide_eq_false (by omega)
          have HCC:Hid (clauseB cs = cs.all condB):=by
            show _ = _
            unfold clauseB
            simp [hc6]
          have HCU:=hide hcu
          have HU:=hide hu
          clear hu hcu z0
          have z0:=cells_at HZ.out 0 rfl
          have hu:=HU.out
          go_wp2
          clear z0 hu
          go_loopw [4,5,6,7] (fun i _ _ _ wq=>∃ j:Nat,i = .int .i64 j∧j≤cs.length∧Hid ((cs.take j).all condB = true)∧Hid (Below wr.heap.size wr wq)) (fun i _ _ _ _=>cs.length - (intOf i).toNat)
          case atStart=>exact ⟨0,rfl,Nat.zero_le _,rfl,Below.refl _ _⟩
          case round =>
            rename World=>wq
            obtain ⟨j,rfl,hj,HAJ,HBJ⟩:=hrel
            have z0:=cell_below (cells_at HZ.out 0 rfl) HBJ.out
            have hu:=cell_below HU.out HBJ.out
            have HBW:=hide (HB.out.trans (HBJ.out.mono HB.out.size))
            by_cases hjl:j < cs.length
            · obtain ⟨b2,off2,rfl,c0,c1,c2⟩:=(HCU.out.below HBJ.out).cond hjl
              have HSJ:Hid ((cs.take (j + 1)).all condB = ((cs.take j).all condB && condB (cs.getD j (0,0,0)))):=hide (all_take_succ condB cs j _ hjl)
              have HBDJ:Hid (condB (cs.getD j (0,0,0)) = false→cs.all condB = false):=fun h=>all_bad hjl h
              generalize cs.getD j (0,0,0) = c at c0 c1 c2 HSJ HBDJ
              obtain ⟨t,o,x⟩:=c
              simp only at c0 c1 c2
              have HCD:Hid (condB (t,o,x) = (inB t 0 1 && inB o 0 3)):=rfl
              have hal:Below wq.heap.size wq (wq.alloc (.cells #[.int .i64 t,.int .i64 o,.int .i64 x] 72)):=(Below.refl _ _).alloc (Nat.le_refl _) _
              have HBA:=hide (HBJ.out.trans (hal.mono HBJ.out.size))
              have HBWA:=hide (HBW.out.trans (hal.mono HBW.out.size))
              clear hal
              cases h1:inB t 0 1
              · have HBAD:Hid (fb = false):=by
                  show _ = _
                  rw [HCB.out]
                  refine HBD.out ?_
                  rw [HCC.out]
                  refine HBDJ.out ?_
                  rw [HCD.out,h1]; rfl
                go_wp2_with (go_at_call 67; refine (in_any _ _ _ _).mono ?_; rintro e w' ⟨rfl,rfl⟩)
                go_ret
                exact ⟨by rw [HBAD.out]; rfl,HBWA.out⟩
              · cases h2:inB o 0 3
                · have HBAD:Hid (fb = false):=by
                    show _ = _
                    rw [HCB.out]
                    refine HBD.out ?_
                    rw [HCC.out]
                    refine HBDJ.out ?_
                    rw [HCD.out,h1,h2]; rfl
                  go_wp2_with (go_at_call 67; refine (in_any _ _ _ _).mono ?_; rintro e w' ⟨rfl,rfl⟩)
                  go_ret
                  exact ⟨by rw [HBAD.out]; rfl,HBWA.out⟩
                · go_wp2_with (go_at_call 67; refine (in_any _ _ _ _).mono ?_; rintro e w' ⟨rfl,rfl⟩)
                  refine ⟨⟨j + 1,by go_num,by omega,?_,HBA.out⟩,by simp [intOf]; omega⟩
                  show _ = _
                  rw [HSJ.out,HAJ.out,HCD.out,h1,h2]; rfl
            · go_wp2
              obtain rfl:j = cs.length:=by omega
              have hall:=HAJ.out
              rw [List.take_length] at hall
              refine ⟨⟨k + 1,by go_num,by omega,?_,HBW.out,(HBJ.out.block _ (heap_lt HZ.out)).trans HZ.out⟩,by simp [intOf]; omega⟩
              show _ = _
              rw [HS.out,HA.out,HCC.out,hall]; rfl
        · have hd6:decide (6 < (cs.length:Int)) = true:=decide_eq_true (by omega)
          have hcb:clauseB cs = false:=by
            unfold clauseB
            simp [hc6]
          clear hcu
          go_wp2
          go_ret
          exact ⟨by rw [HCB.out,HBD.out hcb]; rfl,HB.out⟩
      · go_wp2
        go_ret
        obtain rfl:k = F.length:=by omega
        have:=HA.out
        rw [List.take_length] at this
        exact ⟨by rw [HCB.out,this]; rfl,HB.out⟩
  · have hd:decide (6 < (F.length:Int)) = true:=decide_eq_true (by omega)
    have hcb:fb = false:=by
      rw [hfb]
      unfold filtB
      simp [h6]
    go_enter Tryz.func124,Tryz.ntmps124
    go_wp2
    go_ret
    exact ⟨by rw [hcb]; rfl,hB0⟩
end
section
open Go.RowKit Go.Maps

set_option maxHeartbeats 4000000 in
set_option maxRecDepth 20000 in
theorem passesR (v:Value) (F:List (List Cnd)) (t0 t1:Int) (w:World) (h:FiltAt w v F) (hok:F.all clauseB = true):Calls Tryz.prog 125 #[.agg #[v],.agg #[.int .i64 t0,.int .i64 t1]] w fun e w'=>e = .returned (.bool (passB F t0 t1))∧Below w.heap.size w w':=by
  have h':=h
  obtain ⟨a,cap,rfl,hcap,hm,_⟩:=h'
  have hB0:Below w.heap.size w ((w.alloc (.cells #[.slice a F.length cap] 47)).alloc (.cells #[.int .i64 t0,.int .i64 t1] 43)):=((Below.refl _ _).alloc (Nat.le_refl _) _).alloc (by simp) _
  have hz0:((w.alloc (.cells #[.slice a F.length cap] 47)).alloc (.cells #[.int .i64 t0,.int .i64 t1] 43)).heap[w.heap.size]? = some (.cells #[.slice a F.length cap] 47 (0,0)):=(Below.heap_alloc _ _ _ (by simp)).trans (heap_alloc_new _ _)
  have hz1:((w.alloc (.cells #[.slice a F.length cap] 47)).alloc (.cells #[.int .i64 t0,.int .i64 t1] 43)).heap[w.heap.size + 1]? = some (.cells #[.int .i64 t0,.int .i64 t1] 43 (0,0)):=heap_alloc2_new _ _ _
  have HF:=hide h
  have HB0:=hide hB0
  have HOK:=hide hok
  have HZ0:=hide hz0
  have HZ1:=hide hz1
  obtain ⟨av,hav⟩:∃ av,av = passB F t0 t1:=⟨_,rfl⟩
  have HAV:=hide hav
  rw [← hav]
  clear h hB0 hok hz0 hz1 hav
  go_enter Tryz.func125,Tryz.ntmps125
  go_wp2
  generalize hwe:(w.alloc (.cells #[.slice a F.length cap] 47)).alloc (.cells #[.int .i64 t0,.int .i64 t1] 43) = w1 at HB0 HZ0 HZ1 ⊢
  clear hwe
  go_loopw [5,6,7,8] (fun i _ _ _ wr=>∃ k:Nat,i = .int .i64 k∧k≤F.length∧Hid ((F.take k).any (fun cs=>cs.all (holdB t0 t1)) = false)∧Hid (Below w.heap.size w wr)∧Hid (wr.heap[w.heap.size]? = some (.cells #[.slice a F.length cap] 47 (0,0)))∧Hid (wr.heap[w.heap.size + 1]? = some (.cells #[.int .i64 t0,.int .i64 t1] 43 (0,0)))) (fun i _ _ _ _=>F.length - (intOf i).toNat)
  case atStart=>exact ⟨0,rfl,Nat.zero_le _,rfl,HB0.out,HZ0.out,HZ1.out⟩
  case round =>
    obtain ⟨k,rfl,hk,HA,HB,HZ,HT⟩:=hrel
    have z0:=cells_at HZ.out 0 rfl
    by_cases hlt:k < F.length
    · obtain ⟨b,off,ua,uc,rfl,hu,hcu⟩:=(HF.out.below HB.out).clause hlt
      have HS:Hid ((F.take (k + 1)).any (fun cs=>cs.all (holdB t0 t1)) = ((F.take k).any (fun cs=>cs.all (holdB t0 t1)) || (F.getD k []).all (holdB t0 t1))):=hide (any_take_succ (fun cs:List Cnd=>cs.all (holdB t0 t1)) F k [] hlt)
      have HBD:Hid ((F.getD k []).all (holdB t0 t1) = true→F.any (fun cs=>cs.all (holdB t0 t1)) = true):=fun h=>any_hit (d:=[]) hlt h
      have hcb:(F.getD k []).all condB = true:=by
        have:=List.all_eq_true.1 HOK.out (F.getD k []) (by simp [List.getD_eq_getElem?_getD,hlt])
        unfold clauseB at this
        simp at this
        simpa using this.2
      have HCB:=hide hcb
      clear hcb
      generalize F.getD k [] = cs at hu hcu HS HBD HCB
      have hcl:cs.length≤17592186044416:=by
        obtain ⟨_,_,_,_,h2,_⟩:=hcu
        exact h2
      have HCU:=hide hcu
      have HU:=hide hu
      clear hcu hu
      go_wp2
      clear z0
      go_loopw [6,7,8] (fun al i _ wq=>∃ j:Nat,i = .int .i64 j∧j≤cs.length∧al = .bool ((cs.take j).all (holdB t0 t1))∧Hid (Below wr.heap.size wr wq)) (fun _ i _ _=>cs.length - (intOf i).toNat)
      case atStart=>exact ⟨0,rfl,Nat.zero_le _,rfl,Below.refl _ _⟩
      case round =>
        rename World=>wq
        obtain ⟨j,rfl,hj,rfl,HBJ⟩:=hrel
        have z0:=cell_below (cells_at HZ.out 0 rfl) HBJ.out
        have hu:=cell_below HU.out HBJ.out
        have HBW:=hide (HB.out.trans (HBJ.out.mono HB.out.size))
        by_cases hjl:j < cs.length
        · obtain ⟨b2,off2,rfl,c0,c1,c2⟩:=(HCU.out.below HBJ.out).cond hjl
          have HSJ:Hid ((cs.take (j + 1)).all (holdB t0 t1) = ((cs.take j).all (holdB t0 t1) && holdB t0 t1 (cs.getD j (0,0,0)))):=hide (all_take_succ (holdB t0 t1) cs j _ hjl)
          have htc:=tag_cases (List.all_eq_true.1 HCB.out (cs.getD j (0,0,0)) (by simp [List.getD_eq_getElem?_getD,hjl]))
          generalize cs.getD j (0,0,0) = c at c0 c1 c2 HSJ htc
          obtain ⟨t,o,x⟩:=c
          simp only at c0 c1 c2 htc
          have q0:=cell_below (cells_at HT.out 0 rfl) HBJ.out
          have q1:=cell_below (cells_at HT.out 1 rfl) HBJ.out
          have hhd:=holdsR t o x t0 t1 wq.drew htc
          have HHD:=hide hhd
          have HSB:Hid (∀ W,Below wq.heap.size wq W→W.cell? ⟨w.heap.size,0,none⟩ = some (.slice (some ⟨b,off,none⟩) F.length cap)∧W.cell? ⟨b,off + k,none⟩ = some (.slice (some ⟨b2,off2,none⟩) cs.length uc)∧W.cell? ⟨b2,off2 + j * 3,none⟩ = some (.int .i64 t)∧W.cell? ⟨b2,off2 + j * 3 + 1,none⟩ = some (.int .i64 o)∧W.cell? ⟨b2,off2 + j * 3 + 2,none⟩ = some (.int .i64 x)∧W.cell? ⟨w.heap.size + 1,0,none⟩ = some (.int .i64 t0)∧W.cell? ⟨w.heap.size + 1,1,none⟩ = some (.int .i64 t1)):=fun W hW=>⟨cell_below z0 hW,cell_below hu hW,cell_below c0 hW,cell_below c1 hW,cell_below c2 hW,cell_below q0 hW,cell_below q1 hW⟩
          clear hhd c0 c1 c2 q0 q1
          as_aux_lemma =>
          generalize holdB t0 t1 (t,o,x) = hb at HHD HSJ
          generalize (cs.take j).all (holdB t0 t1) = ab at HSJ
          go_wp2
          clear z0 hu
          go_region_held3 (fun wx=>wx.cell? ⟨w.heap.size,0,none⟩ = some (.slice (some ⟨b,off,none⟩) F.length cap)∧wx.cell? ⟨b,off + k,none⟩ = some (.slice (some ⟨b2,off2,none⟩) cs.length uc)∧wx.cell? ⟨b2,off2 + j * 3,none⟩ = some (.int .i64 t)∧wx.cell? ⟨b2,off2 + j * 3 + 1,none⟩ = some (.int .i64 o)∧wx.cell? ⟨b2,off2 + j * 3 + 2,none⟩ = some (.int .i64 x)∧wx.cell? ⟨w.heap.size + 1,0,none⟩ = some (.int .i64 t0)∧wx.cell? ⟨w.heap.size + 1,1,none⟩ = some (.int .i64 t1))
            ((refine HSB.out _ ?_; repeat (first | with_reducible exact hb3 | exact Below.refl _ _ | refine Below.drew ?_)))
            (first | (go_at_call 157; refine HHD.out.mono ?_; rintro e3 w3 ⟨rfl,b3⟩; have hb3:Below wq.heap.size wq w3:=Below.undrew b3))
          have HB3:=hide (HBJ.out.trans (hb3.mono HBJ.out.size))
          clear hb3 b3
          cases ab
          · go_wp2
            refine ⟨⟨j + 1,by go_num,by omega,?_,HB3.out⟩,by simp [intOf]; omega⟩
            rw [HSJ.out]; rfl
          · go_wp2
            refine ⟨⟨j + 1,by go_num,by omega,?_,HB3.out⟩,by simp [intOf]; omega⟩
            rw [HSJ.out]; simp
        · obtain rfl:j = cs.length:=by omega
          have hal:cs.take cs.length = cs:=List.take_length
          rw [hal]
          have HZ2:=hide ((HBJ.out.block _ (heap_lt HZ.out)).trans HZ.out)
          have HT2:=hide ((HBJ.out.block _ (heap_lt HT.out)).trans HT.out)
          generalize hgv:cs.all (holdB t0 t1) = gv at HS HBD
          clear hgv
          as_aux_lemma =>
          cases gv with
          | true =>
            go_wp2
            go_ret
            refine ⟨?_,HBW.out⟩
            rw [HAV.out]
            unfold passB
            rw [HBD.out (by first | exact rfl | exact trivial)]; rfl
          | false =>
            go_wp2
            refine ⟨⟨k + 1,by go_num,by omega,?_,HBW.out,HZ2.out,HT2.out⟩,by simp [intOf]; omega⟩
            show _ = _
            rw [HS.out,HA.out]; rfl
    · have HAV2:Hid (av = decide ((F.length:Int) = 0)):=by
        show _ = _
        obtain rfl:k = F.length:=by omega
        have:=HA.out
        rw [List.take_length] at this
        rw [HAV.out]
        unfold passB
        rw [this]
        simp [List.length_eq_zero_iff]
      go_wp2
      go_ret
      exact ⟨by rw [HAV2.out]; simp [BEq.beq],HB.out⟩

set_option maxHeartbeats 2000000 in
set_option maxRecDepth 20000 in
theorem refusedR (br:Nat) (cf:Cf) (la:Option Addr) (lc:Nat) (L:List Ent) (pv:Value) (xs:List Int) (k beam:Int) (fv:Value) (F:List (List Cnd)) (w:World) (h:RefAt w br cf la lc L) (hp:IntsAt w pv xs) (hf:FiltAt w fv F) :
    Calls Tryz.prog 76 #[.pointer (some ⟨br,0,none⟩),pv,.int .i64 k,.int .i64 beam,.agg #[fv]] w fun e w'=>e = .returned (.int .i64 (schCode cf.dim xs k beam F))∧Below w.heap.size w w':=by
  have hB0:Below w.heap.size w (w.alloc (.cells #[fv] 47)):=(Below.refl _ _).alloc (Nat.le_refl _) _
  have hpt:=point59_any xs pv cf.dim br (w.alloc (.cells #[fv] 47)) (by
    obtain ⟨a,cap,rfl,h1,h2,h3⟩:=hp
    refine ⟨a,cap,rfl,h1,h2,h3.imp id ?_⟩
    rintro ⟨b,off,rfl,hc⟩
    exact ⟨b,off,rfl,fun i hi=>cell_below (hc i hi) hB0⟩) (cell_below h.r0 hB0)
  have hwr:=wrongR fv F (w.alloc (.cells #[fv] 47)) (hf.below hB0)
  obtain ⟨pa,pcap,rfl,_⟩:=hp
  have hf2:=hf
  obtain ⟨fa,fcap,rfl,_⟩:=hf2
  have HPT:=hide hpt
  have HWR:=hide hwr
  have HB0:=hide hB0
  have HSC:Hid (schCode cf.dim xs k beam F = if ptCode cf.dim xs ≠ 0 then ptCode cf.dim xs else if inB k 1 60 = true∧inB beam 1 100 = true then okCode (filtB F) else 6):=rfl
  clear hpt hf hB0 hwr h
  generalize schCode cf.dim xs k beam F = sc at HSC
  generalize filtB F = fb at HWR HSC
  generalize ptCode cf.dim xs = pc at HPT HSC
  go_enter Tryz.func76,Tryz.ntmps76
  go_wp2_with fail
  refine HPT.out.mono ?_
  rintro e1 w1 ⟨rfl,rfl⟩
  go_wp2_with fail
  refine HWR.out.mono ?_
  rintro e2 w2 ⟨rfl,hb2⟩
  have HB2:=hide (HB0.out.trans (hb2.mono HB0.out.size))
  clear hb2
  by_cases hpc:pc = 0
  · subst hpc
    have HSC2:Hid (sc = if inB k 1 60 = true∧inB beam 1 100 = true then okCode fb else 6):=by
      have:=HSC.out
      show sc = _
      simpa using this
    cases hk:inB k 1 60
    · go_wp2_with (go_at_call 67; refine (in_any _ _ _ _).mono ?_; rintro e w' ⟨rfl,rfl⟩)
      go_ret
      exact ⟨by rw [HSC2.out,hk,if_neg (by simp)]; rfl,HB2.out⟩
    · cases hb:inB beam 1 100
      · go_wp2_with (go_at_call 67; refine (in_any _ _ _ _).mono ?_; rintro e w' ⟨rfl,rfl⟩)
        go_ret
        exact ⟨by rw [HSC2.out,hb,if_neg (by simp)]; rfl,HB2.out⟩
      · cases fb
        · go_wp2_with (go_at_call 67; refine (in_any _ _ _ _).mono ?_; rintro e w' ⟨rfl,rfl⟩)
          go_ret
          exact ⟨by rw [HSC2.out,hk,hb,if_pos ⟨rfl,rfl⟩]; rfl,HB2.out⟩
        · go_wp2_with (go_at_call 67; refine (in_any _ _ _ _).mono ?_; rintro e w' ⟨rfl,rfl⟩)
          go_ret
          exact ⟨by rw [HSC2.out,hk,hb,if_pos ⟨rfl,rfl⟩]; rfl,HB2.out⟩
  · have HSC2:Hid (sc = pc):=by
      have:=HSC.out
      rw [if_pos hpc] at this
      exact this
    have hne:(pc != 0) = true:=by simpa using hpc
    cases hk:inB k 1 60
    · go_wp2_with (go_at_call 67; refine (in_any _ _ _ _).mono ?_; rintro e w' ⟨rfl,rfl⟩)
      go_ret
      exact ⟨by rw [HSC2.out]; rfl,HB2.out⟩
    · go_wp2_with (go_at_call 67; refine (in_any _ _ _ _).mono ?_; rintro e w' ⟨rfl,rfl⟩)
      go_ret
      exact ⟨by rw [HSC2.out]; rfl,HB2.out⟩
end
section
open Go.RowKit

theorem IntsAt.cell {w:World} {a:Option Addr} {n c:Nat} {xs:List Int} (h:IntsAt w (.slice a n c) xs) {i:Nat} (hi:i < xs.length):∃ b off,a = some ⟨b,off,none⟩∧w.cell? ⟨b,off + i,none⟩ = some (.int .i64 (xs.getD i 0)):=by
  obtain ⟨a',c',e,h1,h2,h3⟩:=h
  simp only [Value.slice.injEq] at e
  obtain ⟨rfl,rfl,rfl⟩:=e
  rcases h3 with rfl | ⟨b,off,rfl,hc⟩
  · simp at hi
  · exact ⟨b,off,rfl,hc i hi⟩

theorem IntsAt.belowD {w w':World} {v:Value} {xs:List Int} (h:IntsAt w v xs) (hb:Below w.heap.size w w'):IntsAt w' v xs:=by
  obtain ⟨a,cap,rfl,h1,h2,h3⟩:=h
  refine ⟨a,cap,rfl,h1,h2,h3.imp id ?_⟩
  rintro ⟨b,off,rfl,hc⟩
  exact ⟨b,off,rfl,fun i hi=>Below.at hb (hc i hi) (block_lt_of_cell (hc i hi))⟩
theorem crd_get {l:List Int} (hl:∀ x ∈ l,Crd x) (n:Nat):Crd (l.getD n 0):=by
  rw [List.getD_eq_getElem?_getD]
  rcases Nat.lt_or_ge n l.length with h | h
  · rw [List.getElem?_eq_getElem h]; exact hl _ (List.getElem_mem h)
  · rw [List.getElem?_eq_none h]; unfold Crd; simp

set_option maxHeartbeats 2000000 in
set_option maxRecDepth 20000 in
theorem distR (br:Nat) (m:Int) (v1:Value) (p q:List Int) (g gc:Nat) (w:World) (hm:m = 0 ∨ m = 1 ∨ m = 2) (r3:w.cell? ⟨br,3,none⟩ = some (.int .i64 m)) (h1:IntsAt w v1 p) (h2:Pts w g gc q) (hl:p.length = q.length) (hp:∀ x ∈ p,Crd x) (hq:∀ x ∈ q,Crd x) (h8:p.length≤100) :
    Calls Tryz.prog 126 #[.pointer (some ⟨br,0,none⟩),v1,.slice (some ⟨g,0,none⟩) q.length gc] w fun e w'=>e = .returned (.int .i64 (distL m p q))∧Below w.heap.size w w':=by
  have h1':=h1
  obtain ⟨a1,c1,rfl,_⟩:=h1'
  have H1:=hide h1
  have H2:=hide h2
  have HP:=hide hp
  have HQ:=hide hq
  have HL:=hide hl
  clear h1 h2 hp hq hl
  go_enter Tryz.func126,Tryz.ntmps126
  go_wp2
  go_loopw [7,8,9,30,37,46] (fun sm i _ _ _ _ wr=>∃ k:Nat,sm = .int .i64 (sumTo m p q k)∧i = .int .i64 k∧k≤p.length∧Hid (∃ n,wr = w.drewN n)) (fun _ i _ _ _ _ _=>p.length - (intOf i).toNat)
  case atStart=>exact ⟨0,rfl,rfl,Nat.zero_le _,0,rfl⟩
  case round =>
    obtain ⟨k,rfl,rfl,hk,hw⟩:=hrel
    obtain ⟨n0,hw0⟩:=id hw.out
    by_cases hlt:k < p.length
    · have hlt2:k < q.length:=by rw [← HL.out]; exact hlt
      obtain ⟨b,off,rfl,x1'⟩:=H1.out.cell hlt
      have x1:wr.cell? ⟨b,off + k,none⟩ = some (.int .i64 (p.getD k 0)):=by rw [hw0]; exact x1'
      have x2:wr.cell? ⟨g,k,none⟩ = some (.int .i64 (q.getD k 0)):=by
        rw [hw0]
        have:=H2.out.cell k hlt2
        rwa [Nat.zero_add] at this
      have y3:wr.cell? ⟨br,3,none⟩ = some (.int .i64 m):=by rw [hw0]; exact r3
      have hc1:=crd_get HP.out k
      have hc2:=crd_get HQ.out k
      have hsm:=sumTo_le (m:=m) HP.out HQ.out k
      have HSS:Hid (sumTo m p q (k + 1) = sumTo m p q k + partI m (p.getD k 0) (q.getD k 0)):=rfl
      generalize sumTo m p q k = s at hsm HSS ⊢
      generalize p.getD k 0 = x at x1 hc1 HSS
      generalize q.getD k 0 = y at x2 hc2 HSS
      have hW:Hid (∀ j,∃ n,wr.drewN j = w.drewN n):=fun j=>⟨n0 + j,by rw [hw0]; simp⟩
      clear hw0 hw x1'
      have hpr:=prod_le hc1 hc2
      unfold Crd at hc1 hc2
      have hsq:=sq_le (x:=x - y) (by omega) (by omega)
      have w1:IntKind.i64.wrap (x - y) = x - y:=by rw [IntKind.wrap_i64]; omega
      have w3:IntKind.i64.wrap ((x - y) * (x - y)) = (x - y) * (x - y):=by rw [IntKind.wrap_i64]; omega
      have w4:IntKind.i64.wrap (s + (x - y) * (x - y)) = s + (x - y) * (x - y):=by rw [IntKind.wrap_i64]; omega
      have w5:IntKind.i64.wrap (x * y) = x * y:=by rw [IntKind.wrap_i64]; omega
      have w6:IntKind.i64.wrap (s - x * y) = s - x * y:=by rw [IntKind.wrap_i64]; omega
      have w7:IntKind.i64.wrap (s + (x - y)) = s + (x - y):=by rw [IntKind.wrap_i64]; omega
      have w8:IntKind.i64.wrap (-(x - y)) = -(x - y):=by rw [IntKind.wrap_i64]; omega
      have w9:IntKind.i64.wrap (s + -(x - y)) = s + -(x - y):=by rw [IntKind.wrap_i64]; omega
      clear hsm hpr hsq
      rcases hm with rfl | rfl | rfl
      · go_wp2
        go_quiet (fail)
        go_wp2
        refine ⟨⟨k + 1,by rw [HSS.out]; simp [partI],by go_num,by omega,hW.out _⟩,by simp [intOf]; omega⟩
      · by_cases hd:x - y < 0
        · have hdd:decide (x - y < 0) = true:=decide_eq_true hd
          go_wp2
          go_quiet (fail)
          go_wp2
          refine ⟨⟨k + 1,?_,by go_num,by omega,hW.out _⟩,by simp [intOf]; omega⟩
          have e:partI 1 x y = -(x - y):=by unfold partI; rw [if_neg (by omega),if_pos rfl]; omega
          rw [HSS.out,e]
        · have hdd:decide (x - y < 0) = false:=decide_eq_false hd
          go_wp2
          go_quiet (fail)
          go_wp2
          refine ⟨⟨k + 1,?_,by go_num,by omega,hW.out _⟩,by simp [intOf]; omega⟩
          have e:partI 1 x y = x - y:=by unfold partI; rw [if_neg (by omega),if_pos rfl]; omega
          rw [HSS.out,e]
      · go_wp2
        go_quiet (fail)
        go_wp2
        go_quiet (fail)
        go_wp2
        refine ⟨⟨k + 1,by rw [HSS.out]; simp [partI]; omega,by go_num,by omega,hW.out _⟩,by simp [intOf]; omega⟩
    · obtain rfl:k = p.length:=by omega
      have hs:=sumTo_all m p q HL.out
      have HS:=hide hs
      have HW:Hid (Below w.heap.size w wr):=by rw [hw0]; exact below_drewN (Below.refl _ _) _
      clear hs hw0
      go_wp2
      go_ret
      exact ⟨by rw [HS.out]; rfl,HW.out⟩
end
section
open Go.RowKit

theorem lvl_cond (x links:Nat) (h:2≤links):x≤18446744073709551615 / links ↔ ¬ 0 < x * links / 18446744073709551616:=by
  rw [Nat.le_div_iff_mul_le (by omega)]
  have:=Nat.div_pos_iff (a:=x * links) (b:=18446744073709551616)
  omega

set_option maxHeartbeats 2000000 in
set_option maxRecDepth 20000 in
theorem levelR (br d links top:Nat) (w:World) (r2:w.cell? ⟨br,2,none⟩ = some (.int .i64 (links:Int))) (r5:w.cell? ⟨br,5,none⟩ = some (.int .i64 (top:Int))) (hd:d < 18446744073709551616) (hl2:2≤links) (hl:links≤1000) (ht:top≤100) :
    Calls Tryz.prog 81 #[.pointer (some ⟨br,0,none⟩),.int .u64 d] w fun e w'=>e = .returned (.int .i64 (lvlR links top d))∧w = w':=by
  have hcv:IntKind.u64.wrap (links:Int) = (links:Int):=by rw [IntKind.wrap_u64]; omega
  go_enter Tryz.func81,Tryz.ntmps81
  go_wp2
  go_loop [5,6] (fun i dv=>∃ (k e:Nat),dv = .int .u64 e∧i = .int .i64 k∧k≤top∧e < 18446744073709551616∧Hid (lvlR links top d = lvlR links (top - k) e + k)) (fun i _=>top - (intOf i).toNat)
  case atStart=>exact ⟨0,d,rfl,rfl,Nat.zero_le _,hd,rfl⟩
  case round =>
    obtain ⟨k,e,rfl,rfl,hk,he,HE⟩:=hrel
    by_cases hlt:k < top
    · have hltd:decide ((k:Int) < (top:Int)) = true:=decide_eq_true (by omega)
      have hstep:lvlR links (top - k) e = if 0 < e * links / 18446744073709551616 then 0 else lvlR links (top - (k + 1)) (e * links % 18446744073709551616) + 1:=by
        have e1:top - k = (top - (k + 1)) + 1:=by omega
        rw [e1]; rfl
      have HST:=hide hstep
      have hcd:=lvl_cond e links hl2
      have hz:(links:Int) ≠ 0:=by omega
      clear hstep
      by_cases h0:0 < e * links / 18446744073709551616
      · have h1:¬ e≤18446744073709551615 / links:=fun h=>hcd.1 h h0
        have h1d:decide ((e:Int)≤18446744073709551615 / (links:Int)) = false:=decide_eq_false (by
          rw [show (18446744073709551615:Int) / (links:Int) = ((18446744073709551615 / links:Nat):Int) from (by simp)]
          omega)
        have HH:=hide h0
        clear h0 h1 hcd
        go_wp2
        go_ret
        exact ⟨by rw [HE.out,HST.out,if_pos HH.out]; simp,rfl⟩
      · have h1:e≤18446744073709551615 / links:=hcd.2 h0
        have h2:e * links < 18446744073709551616:=by
          have:=Nat.div_pos_iff (a:=e * links) (b:=18446744073709551616)
          omega
        have h1d:decide ((e:Int)≤18446744073709551615 / (links:Int)) = true:=decide_eq_true (by
          rw [show (18446744073709551615:Int) / (links:Int) = ((18446744073709551615 / links:Nat):Int) from (by simp)]
          omega)
        have h3:IntKind.u64.wrap ((e:Int) * (links:Int)) = ((e * links:Nat):Int):=by rw [IntKind.wrap_u64]; push_cast; omega
        have HH:=hide h0
        have H2:=hide h2
        clear h0 h1 hcd h2
        go_wp2
        refine ⟨⟨k + 1,e * links,rfl,by go_num,by omega,H2.out,?_⟩,by simp [intOf]; omega⟩
        show _ = _
        rw [HE.out,HST.out,if_neg HH.out,Nat.mod_eq_of_lt H2.out]; omega
    · have hltd:decide ((k:Int) < (top:Int)) = false:=decide_eq_false (by omega)
      go_wp2
      go_ret
      obtain rfl:k = top:=by omega
      exact ⟨by rw [HE.out,Nat.sub_self]; simp [lvlR],rfl⟩
end
end Go.Proofs.YtpkiefjanmfgfaaGreatDoor
