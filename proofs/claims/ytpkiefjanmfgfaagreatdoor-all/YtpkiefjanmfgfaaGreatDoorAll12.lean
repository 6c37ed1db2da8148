import Derived.Laws.EntriesVeiled
import Derived.Test.YtpkiefjanmfgfaaGreatDoorAll01
import Derived.Test.YtpkiefjanmfgfaaGreatDoorAll02
import Derived.Test.YtpkiefjanmfgfaaGreatDoorAll03
import Derived.Test.YtpkiefjanmfgfaaGreatDoorAll10
import Derived.Test.YtpkiefjanmfgfaaGreatDoorAll11
namespace Go.Proofs.YtpkiefjanmfgfaaGreatDoor
section

structure NOk (links:Int) (lev:List (Int × Int)) (lk:Int × Int→List Int) (ch:List Int):Prop where
  ok:GOk lev lk ch
  few:∀ a l,((lk (a,l)).length:Int)≤mostL links l

def Few (links:Int) (lk:Int × Int→List Int):Prop:=∀ a l,((lk (a,l)).length:Int)≤mostL links l
section
variable {links:Int} {lev:List (Int × Int)} {lk:Int × Int→List Int}
theorem insS_le (xs:List Int) (x:Int):(insS xs x).length≤xs.length + 1:=by
  rw [insS_length]
  split <;> omega
theorem tieL_at {a b l:Int} (hab:a ≠ b):tieL lk a b l (a,l) = insS (lk (a,l)) b∧tieL lk a b l (b,l) = insS (lk (b,l)) a:=by
  have h1:(a,l) ≠ (b,l):=fun e=>hab (Prod.mk.inj e).1
  unfold tieL upd
  simp [h1,Ne.symm h1]
theorem tieL_far {a b l:Int} {p:Int × Int} (h1:p ≠ (a,l)) (h2:p ≠ (b,l)):tieL lk a b l p = lk p:=by
  unfold tieL upd
  rw [if_neg h2,if_neg h1]
theorem Few.tie (h:Few links lk) {a b l:Int} (hab:a ≠ b) (ha:((lk (a,l)).length:Int) < mostL links l) (hb:((lk (b,l)).length:Int) < mostL links l):Few links (tieL lk a b l):=by
  intro c m
  by_cases h1:(c,m) = (a,l)
  · obtain ⟨rfl,rfl⟩:=Prod.mk.inj h1
    rw [(tieL_at hab).1]
    have:=insS_le (lk (c,m)) b
    omega
  · by_cases h2:(c,m) = (b,l)
    · obtain ⟨rfl,rfl⟩:=Prod.mk.inj h2
      rw [(tieL_at hab).2]
      have:=insS_le (lk (c,m)) a
      omega
    · rw [tieL_far h1 h2]; exact h c m
theorem Few.cut (hg:LG lev lk) (h:Few links lk) (a b l:Int):Few links (cutL lk a b l):=by
  intro c m
  have:=(cutL_sub hg.ris a b l (c,m)).2.2
  have:=h c m
  omega
theorem cut_less (hg:LG lev lk) {a b l:Int} (hb:b ∈ lk (a,l)):(cutL lk a b l (a,l)).length < (lk (a,l)).length:=by
  have h1:=(cutL_ris hg.ris a b l (a,l)).nodup
  have h2:cutL lk a b l (a,l) ⊆ (lk (a,l)).erase b:=fun x hx=>by
    have:=(mem_cutL hg.ris).1 hx
    exact (List.Nodup.mem_erase_iff (hg.ris (a,l)).nodup).2 ⟨fun e=>this.2.1 ⟨rfl,e⟩,this.1⟩
  have h3:=List.Nodup.length_le_of_subset h1 h2
  rw [List.length_erase_of_mem hb] at h3
  have:=List.length_pos_of_mem hb
  omega
theorem Few.mendOne (h:Few links lk) (dd:Int→Int→Int) {l id:Int} {left:List Int}:Few links (mendOne links dd l left lk id):=by
  unfold Proofs.YtpkiefjanmfgfaaGreatDoor.mendOne
  split
  · rename_i h1
    have hm:=nearL_mem (dd:=dd) (id:=id) h1.1
    have hr:=h1.2
    generalize (nearL dd id (keepP (outB links lk id l) left)).1 = y at hm ⊢
    unfold keepP outB at hm
    simp at hm
    have hr2:=hm.2.2
    unfold roomL at hr hr2
    exact h.tie (fun e=>hm.2.1.1 e.symm) (of_decide_eq_true hr) (of_decide_eq_true hr2)
  · exact h
theorem Few.mendAll (dd:Int→Int→Int) {l:Int} {left:List Int}:∀ {xs:List Int} {lk:Int × Int→List Int},Few links lk→Few links (mendAll links dd l left lk xs)
  | [],_,h=>h
  | _x :: xs,_,h=>Few.mendAll (xs:=xs) dd (h.mendOne dd)
theorem Few.linkOne (hg:LG lev lk) (h:Few links lk) (hl2:1≤links) (dd:Int→Int→Int) {l id x:Int} (k:Nat) (hne:x ≠ id) (hk:(lk (id,l)).length≤k) (hkl:(k:Int) < mostL links l):Few links (linkOne links dd l id lk k x)∧(linkOne links dd l id lk k x (id,l)).length≤k + 1:=by
  unfold Proofs.YtpkiefjanmfgfaaGreatDoor.linkOne
  have hid:((lk (id,l)).length:Int) < mostL links l:=by omega
  split
  · rename_i hr
    unfold roomL at hr
    refine ⟨h.tie hne (of_decide_eq_true hr) hid,?_⟩
    rw [(tieL_at hne).2]
    have:=insS_le (lk (id,l)) x
    omega
  · split
    · exact ⟨h,by omega⟩
    · rename_i hr _
      have hpos:=noRoom_pos hl2 (by simpa using hr)
      have hf:=farL_mem (dd:=dd) (id:=x) hpos
      have hc:=cut_less hg hf
      have hcf:=Few.cut hg h x (farL dd x (lk (x,l))).1 l
      have hci:=(cutL_sub hg.ris x (farL dd x (lk (x,l))).1 l (id,l)).2.2
      have hx:=h x l
      refine ⟨hcf.tie hne (by omega) (by omega),?_⟩
      rw [(tieL_at hne).2]
      have:=insS_le (cutL lk x (farL dd x (lk (x,l))).1 l (id,l)) x
      omega
theorem Few.linkAll (hl2:1≤links) (dd:Int→Int→Int) {l id:Int} (hid:On lev l id):∀ {xs:List Int} {k:Nat} {lk:Int × Int→List Int},LG lev lk→Few links lk→(∀ x ∈ xs,On lev l x∧x ≠ id)→(lk (id,l)).length≤k→(((k + xs.length:Nat):Int))≤mostL links l→Few links (linkAll links dd l id k xs lk)
  | [],_,_,_,h,_,_,_=>h
  | x :: xs,k,lk,hg,h,hx,hk,hkl=>by
    have hx0:=hx x List.mem_cons_self
    simp only [List.length_cons] at hkl
    obtain ⟨a,b⟩:=Few.linkOne hg h hl2 dd k hx0.2 hk (by omega)
    exact Few.linkAll (xs:=xs) hl2 dd hid (hg.linkOne links dd k hid hx0.1 hx0.2) a (fun y hy=>hx y (List.mem_cons_of_mem _ hy)) b (by omega)
theorem linkOne_far (dd:Int→Int→Int) {l m id x c:Int} (k:Nat) (h:m ≠ l):linkOne links dd l id lk k x (c,m) = lk (c,m):=by
  have hn:∀ a:Int,(c,m) ≠ (a,l):=fun a e=>h (Prod.mk.inj e).2
  unfold Proofs.YtpkiefjanmfgfaaGreatDoor.linkOne
  split
  · exact tieL_far (hn _) (hn _)
  · split
    · rfl
    · rw [tieL_far (hn _) (hn _)]
      unfold cutL upd
      rw [if_neg (hn _),if_neg (hn _)]
theorem linkAll_far (dd:Int→Int→Int) {l m id c:Int} (h:m ≠ l):∀ {xs:List Int} {k:Nat} {lk:Int × Int→List Int},linkAll links dd l id k xs lk (c,m) = lk (c,m)
  | [],_,_=>rfl
  | x :: xs,k,lk=>by
    show linkAll links dd l id (k + 1) xs (Proofs.YtpkiefjanmfgfaaGreatDoor.linkOne links dd l id lk k x) (c,m) = _
    rw [linkAll_far dd h,linkOne_far dd k h]
end

section
variable {links:Int} {lev:List (Int × Int)} {lk:Int × Int→List Int} {ch:List Int}
theorem mem_levDel {id x:Int}:x ∈ (levDel id lev).map (·.1) ↔ x ∈ lev.map (·.1)∧x ≠ id:=by
  unfold levDel
  constructor
  · intro h
    obtain ⟨p,hp,rfl⟩:=List.mem_map.1 h
    obtain ⟨h1,h2⟩:=List.mem_filter.1 hp
    exact ⟨List.mem_map.2 ⟨p,h1,rfl⟩,by simpa using h2⟩
  · rintro ⟨h,hne⟩
    obtain ⟨p,hp,rfl⟩:=List.mem_map.1 h
    exact List.mem_map.2 ⟨p,List.mem_filter.2 ⟨hp,by simpa using hne⟩,rfl⟩
theorem LG.del (h:LG lev lk) (dd:Int→Int→Int) {id:Int} {top:Nat} (ht:(levOf lev id).getD (-1) + 1 = (top:Int)):∀ n,LG (levDel id lev) (delM links dd lk id (Proofs.YtpkiefjanmfgfaaGreatDoor.leaveF lk id top) n)
  | 0=>h.leave ht
  | n + 1=>by
    have hs:∀ x ∈ lk (id,(n:Int)),On (levDel id lev) n x:=fun x hx=>by
      obtain ⟨_,h0,t,ht,hl⟩:=h.on hx
      have hne:x ≠ id:=fun e=>h.irr id n (e ▸ hx)
      exact ⟨h0,t,by rw [levOf_levDel_ne hne]; exact ht,hl⟩
    exact LG.mendAll links dd hs (LG.del h dd ht n) hs
theorem Few.leaveF (hg:LG lev lk) (h:Few links lk) (id:Int) (n:Nat):Few links (leaveF lk id n):=by
  intro a l
  have h1:=((hg.leaveF id n).ris (a,l)).nodup
  have h2:Proofs.YtpkiefjanmfgfaaGreatDoor.leaveF lk id n (a,l) ⊆ lk (a,l):=fun x hx=>((mem_leaveF hg id n).1 hx).1
  have:=List.Nodup.length_le_of_subset h1 h2
  have:=h a l
  omega
theorem Few.delM {base:Int × Int→List Int} (h:Few links base) (dd:Int→Int→Int) {id:Int}:∀ n,Few links (delM links dd lk id base n)
  | 0=>h
  | n + 1=>Few.mendAll dd (Few.delM h dd n)
theorem NOk.del (h:NOk links lev lk ch) (dd:Int→Int→Int) {id:Int} {top:Nat} (ht:(levOf lev id).getD (-1) + 1 = (top:Int)) :
    NOk links (levDel id lev) (Proofs.YtpkiefjanmfgfaaGreatDoor.delM links dd lk id (Proofs.YtpkiefjanmfgfaaGreatDoor.leaveF lk id top) top) (keepP (fun x=>decide (x = id)) ch):=by
  refine ⟨⟨h.ok.lg.del dd ht top,fun p hp=>h.ok.lev5 p (List.mem_filter.1 hp).1,?_,?_,fun x=>?_⟩,Few.delM (Few.leaveF h.ok.lg h.few id top) dd top⟩
  · exact List.Nodup.sublist (List.Sublist.map _ List.filter_sublist) h.ok.nod
  · unfold keepP
    exact h.ok.chn.filter _
  · rw [mem_levDel,← h.ok.chm x]
    unfold keepP
    simp
theorem levOf_cons {id t a:Int}:levOf ((id,t) :: lev) a = if id = a then some t else levOf lev a:=by
  unfold levOf
  rw [List.find?_cons]
  by_cases h:id = a
  · simp [h]
  · simp [h]
theorem On.cons {id t l a:Int} (h:On lev l a) (hno:levOf lev id = none):On ((id,t) :: lev) l a:=by
  obtain ⟨h0,s,hs,hl⟩:=h
  refine ⟨h0,s,?_,hl⟩
  rw [levOf_cons,if_neg (fun e=>by rw [e,hs] at hno; cases hno)]
  exact hs
theorem LG.cons (h:LG lev lk) {id t:Int} (hno:levOf lev id = none):LG ((id,t) :: lev) lk :=
  ⟨h.ris,h.sym,h.irr,fun a b l hm=>On.cons (h.lvl a b l hm) hno⟩
theorem getD_mem_on {fs:List (List Hit)} {n:Nat} {x:Hit} (h:x ∈ fs.getD n []):∃ hn:n < fs.length,x ∈ fs[n]:=by
  rw [List.getD_eq_getElem?_getD] at h
  rcases Nat.lt_or_ge n fs.length with h1 | h1
  · rw [List.getElem?_eq_getElem h1] at h
    exact ⟨h1,h⟩
  · rw [List.getElem?_eq_none h1] at h
    cases h
theorem put_layer {fs:List (List Hit)} (hf:∀ k (hk:k < fs.length),∀ x ∈ fs[k],On lev k x.1) {id t:Int} (hno:levOf lev id = none) (n:Nat):∀ x ∈ ((fs.getD n []).map (·.1)).take (min ((fs.getD n []).length:Int) links).toNat,On ((id,t) :: lev) n x∧x ≠ id:=by
  intro x hx
  obtain ⟨y,hy,rfl⟩:=List.mem_map.1 (List.mem_of_mem_take hx)
  obtain ⟨hn,hy⟩:=getD_mem_on hy
  have:=hf n hn y hy
  refine ⟨On.cons this hno,fun e=>?_⟩
  obtain ⟨_,s,hs,_⟩:=this
  rw [e,hno] at hs
  cases hs
theorem LG.put (h:LG lev lk) (hf2:Few links lk) (hl2:1≤links) (dd:Int→Int→Int) {id t:Int} (ht:0≤t) (hno:levOf lev id = none) {fs:List (List Hit)} (hfl:fs.length≤(t + 1).toNat) (hf:∀ k (hk:k < fs.length),∀ x ∈ fs[k],On lev k x.1):∀ n,n≤fs.length→LG ((id,t) :: lev) (putM links dd id fs lk n)∧Few links (putM links dd id fs lk n)∧∀ c m,(n:Int)≤m→putM links dd id fs lk n (c,m) = lk (c,m)
  | 0,_=>⟨h.cons hno,hf2,fun _ _ _=>rfl⟩
  | n + 1,hn=>by
    obtain ⟨h1,h2,h3⟩:=LG.put h hf2 hl2 dd ht hno hfl hf n (by omega)
    have hid:On ((id,t) :: lev) (n:Int) id:=⟨by omega,t,by rw [levOf_cons,if_pos rfl],by omega⟩
    have hx:=put_layer (links:=links) (t:=t) hf hno n
    have hnil:lk (id,(n:Int)) = []:=by
      cases hc:lk (id,(n:Int)) with
      | nil=>rfl
      | cons y ys =>
        obtain ⟨_,s,hs,_⟩:=h.lvl id y n (by rw [hc]; exact List.mem_cons_self)
        rw [hno] at hs; cases hs
    have hz:(putM links dd id fs lk n (id,(n:Int))).length≤0:=by rw [h3 id n (Int.le_refl _),hnil]; exact Nat.le_refl _
    have hlen:((0 + (((fs.getD n []).map (·.1)).take (min ((fs.getD n []).length:Int) links).toNat).length:Nat):Int)≤mostL links n:=by
      rw [List.length_take]
      unfold mostL
      split <;> omega
    exact ⟨LG.linkAll links dd hid h1 hx,Few.linkAll hl2 dd hid h1 h2 hx hz hlen,fun c m hm=>by
      show Proofs.YtpkiefjanmfgfaaGreatDoor.linkAll links dd n id 0 _ _ (c,m) = _
      rw [linkAll_far dd (by omega)]
      exact h3 c m (by omega)⟩
theorem NOk.put (h:NOk links lev lk ch) (hl2:1≤links) (dd:Int→Int→Int) {id t beam:Int} {N:Nat} (ht:0≤t∧t≤5) (hno:levOf lev id = none) :
    NOk links ((id,t) :: lev) (putM links dd id (nearF (dd id) beam lev lk ch N t) lk (nearF (dd id) beam lev lk ch N t).length) (ch ++ [id]):=by
  obtain ⟨hfl,hf⟩:=nearF_on h.ok (dd:=dd id) (beam:=beam) (N:=N) ht.1
  obtain ⟨h1,h2,_⟩:=LG.put h.ok.lg h.few hl2 dd ht.1 hno hfl hf _ (Nat.le_refl _)
  have hni:id ∉ lev.map (·.1):=fun hm=>by
    obtain ⟨s,hs,_⟩:=h.ok.has hm
    rw [hno] at hs; cases hs
  refine ⟨⟨h1,fun p hp=>?_,?_,?_,fun x=>?_⟩,h2⟩
  · rcases List.mem_cons.1 hp with rfl | hp
    · exact ht
    · exact h.ok.lev5 p hp
  · rw [List.map_cons,List.nodup_cons]
    exact ⟨hni,h.ok.nod⟩
  · rw [List.nodup_append]
    refine ⟨h.ok.chn,List.pairwise_singleton _ _,fun a ha b hb e=>?_⟩
    rw [List.mem_singleton.1 hb] at e
    exact hni ((h.ok.chm id).1 (e ▸ ha))
  · rw [List.mem_append,h.ok.chm x,List.mem_singleton,List.map_cons,List.mem_cons]
    exact ⟨fun h=>h.symm,fun h=>h.symm⟩
end
end
section

theorem addL_pos {width:Int} (hw:0 < width) (l:List Hit) (h:Hit):addL width l h ≠ []:=by
  intro e
  have e2:=congrArg List.length e
  unfold addL at e2
  split at e2
  · rename_i h1
    rw [popL_length,pushL_length] at e2
    rw [pushL_length] at h1
    simp only [List.length_nil] at e2
    omega
  · rw [pushL_length] at e2
    simp at e2
theorem fd_meet {width:Int} (hw:0 < width) (dd:Int→Int) {s:AS} {id:Int} (h:s.Fd ≠ [] ∨ id ∉ s.met):(meetL dd (fun _=>true) width s id).Fd ≠ []:=by
  unfold meetL
  split
  · rename_i hm
    exact h.elim (fun e=>e) (fun e=>absurd hm e)
  · simp only [if_true]
    exact addL_pos hw _ _
theorem fd_meetAll {width:Int} (hw:0 < width) (dd:Int→Int):∀ {l:List Int} {s:AS},s.Fd ≠ []→(meetAll dd (fun _=>true) width s l).Fd ≠ []
  | [],_,h=>h
  | x :: l,_s,h=>fd_meetAll (l:=l) hw dd (fd_meet hw dd (id:=x) (.inl h))
theorem fd_run {width:Int} (hw:0 < width) (dd:Int→Int) {nb:Int→List Int}:∀ (n:Nat) {s:AS},s.Fd ≠ []→(runS dd (fun _=>true) width nb n s).Fd ≠ []
  | 0,_,h=>h
  | n + 1,s,h=>by
    unfold runS
    split
    · exact fd_run hw dd n (fd_meetAll hw dd (s:=popS s) h)
    · exact h
theorem along_some {width:Int} (hw:0 < width) {dd:Int→Int} {nb:Int→List Int} {N:Nat} {kn:List (Int × Int)} {st:List Hit} (h0:st ≠ []):(alongR dd (fun _=>true) width nb N kn st).2 ≠ []:=by
  cases st with
  | nil=>exact absurd rfl h0
  | cons x r =>
    have h1:(meetAll dd (fun _=>true) width (begS kn) ((x :: r).map (·.1))).Fd ≠ []:=by
      have:=fd_meetAll (l:=r.map (fun h:Hit=>h.1)) hw dd (fd_meet hw dd (s:=begS kn) (id:=x.1) (.inr List.not_mem_nil))
      exact this
    have h2:=fd_run hw dd (nb:=nb) ((meetAll dd (fun _=>true) width (begS kn) ((x :: r).map (·.1))).mu N) h1
    intro e
    have e2:=congrArg List.length e
    unfold alongR at e2
    simp only [drainL_length,List.length_nil] at e2
    exact h2 (List.eq_nil_of_length_eq_zero e2)
theorem dnR_some {dd:Int→Int} {lk:Int × Int→List Int} {ch:List Int} {N:Nat}:∀ (n:Nat) (l:Int) (p:List (Int × Int) × List Hit),p.2 ≠ []→(dnR dd lk ch N n l p).2 ≠ []
  | 0,_,_,h=>h
  | n + 1,l,p,h=>by
    unfold dnR
    exact dnR_some n (l - 1) _ (along_some (by omega) h)
theorem nrR_some {dd:Int→Int} {beam:Int} (hb:0 < beam) {lk:Int × Int→List Int} {ch:List Int} {N:Nat}:∀ (n:Nat) (p:List (Int × Int) × List Hit),p.2 ≠ []→0 < n→(nrR dd beam lk ch N n p).getD 0 [] ≠ []
  | 0,_,_,hn=>absurd hn (Nat.lt_irrefl _)
  | n + 1,p,hp,_=>by
    have ha:=along_some (dd:=dd) (nb:=fun i=>reachedL lk ch i n) (N:=N) (kn:=p.1) hb hp
    unfold nrR
    rcases Nat.eq_zero_or_pos n with rfl | h0
    · simpa [nrR] using ha
    · have ih:=nrR_some (dd:=dd) hb (lk:=lk) (ch:=ch) (N:=N) n _ ha h0
      have hl:=nrR_length dd beam lk ch N n (alongR dd (fun _=>true) beam (fun i=>reachedL lk ch i n) N p.1 p.2)
      rw [List.getD_eq_getElem?_getD] at ih ⊢
      rw [List.getElem?_append_left (by omega)]
      exact ih
theorem nearF_some {dd:Int→Int} {beam:Int} (hb:0 < beam) {lev:List (Int × Int)} {lk:Int × Int→List Int} {ch:List Int} {N:Nat} {level:Int} (hl:0≤level) (h5:∀ p ∈ lev,0≤p.2) (hne:lev ≠ []):0 < (nearF dd beam lev lk ch N level).length∧(nearF dd beam lev lk ch N level).getD 0 [] ≠ []:=by
  have he:=h5 _ (entrL_mem h5 hne)
  unfold nearF
  rw [if_neg hne]
  have hs:(downR dd lev lk ch N [] level).2 ≠ []:=by
    unfold downR
    rw [if_neg hne]
    exact dnR_some _ _ _ (List.cons_ne_nil _ _)
  refine ⟨by rw [nrR_length]; omega,nrR_some hb _ _ hs (by omega)⟩
section
variable {links:Int} {lk:Int × Int→List Int}
theorem mem_ne_nil {l:List Int} {x:Int} (h:x ∈ l):l ≠ []:=fun e=>by rw [e] at h; cases h
theorem linkOne_has (dd:Int→Int→Int) {l id x:Int} (k:Nat) (h:lk (id,l) ≠ [] ∨ k = 0):linkOne links dd l id lk k x (id,l) ≠ []:=by
  have ht:∀ f:Int × Int→List Int,tieL f x id l (id,l) ≠ []:=fun f=>mem_ne_nil (x:=x) (mem_tieL.2 (.inr (.inr ⟨rfl,rfl⟩)))
  unfold linkOne
  split
  · exact ht _
  · split
    · rename_i h1
      exact h.elim (fun e=>e) (fun e=>by omega)
    · exact ht _
theorem linkAll_has (dd:Int→Int→Int) {l id:Int}:∀ {xs:List Int} {k:Nat} {lk:Int × Int→List Int},lk (id,l) ≠ [] ∨ (k = 0∧xs ≠ [])→linkAll links dd l id k xs lk (id,l) ≠ []
  | [],_,_,h=>h.elim (fun e=>e) (fun e=>absurd rfl e.2)
  | _x :: xs,k,_lk,h=>linkAll_has (xs:=xs) dd (.inl (linkOne_has dd k (h.elim .inl (fun e=>.inr e.1))))
theorem putM_has (hl:1≤links) (dd:Int→Int→Int) {id:Int} {fs:List (List Hit)} (h0:fs.getD 0 [] ≠ []):∀ n,0 < n→putM links dd id fs lk n (id,0) ≠ []
  | 0,hn=>absurd hn (Nat.lt_irrefl _)
  | n + 1,_=>by
    unfold putM
    rcases Nat.eq_zero_or_pos n with rfl | hp
    · refine linkAll_has dd (.inr ⟨rfl,fun e=>?_⟩)
      have e2:=congrArg List.length e
      have hp:0 < (fs.getD 0 []).length:=List.length_pos_iff.2 h0
      rw [List.length_take,List.length_map,List.length_nil] at e2
      omega
    · rw [linkAll_far dd (by omega)]
      exact putM_has hl dd h0 n hp
end
end
section
open Go.RowKit Go.Maps

set_option maxHeartbeats 2000000 in
set_option maxRecDepth 20000 in
theorem weave42 (bb bg:Nat) (links beam:Int) (w:World) (h2:w.cell? ⟨bb,2,none⟩ = some (.int .i64 links)) (h4:w.cell? ⟨bb,4,none⟩ = some (.int .i64 beam)) (h7:w.cell? ⟨bb,7,none⟩ = some (.pointer (some ⟨bg,0,none⟩))) :
    Calls Tryz.prog 45 #[.pointer (some ⟨bb,0,none⟩)] w fun ev w'=>ev = .returned (.agg #[.pointer (some ⟨bg,0,none⟩),.int .i64 links,.int .i64 beam,.func (.func 90) #[] #[.pointer (some ⟨w.heap.size,0,none⟩)]])∧w'.cell? ⟨w.heap.size,0,none⟩ = some (.pointer (some ⟨bb,0,none⟩))∧Below w.heap.size w w':=by
  have hbb:=block_lt_of_cell h2
  go_enter Tryz.func45,Tryz.ntmps45
  go_wp2
  have hB:Below w.heap.size w ((w.alloc (.cells #[.pointer (some ⟨bb,0,none⟩)] 38)).alloc (.cells #[.pointer none,.int .i64 0,.int .i64 0,.nilFunc] 109)):=((Below.refl _ _).alloc (Nat.le_refl _) _).alloc (by simp) _
  have q0:((w.alloc (.cells #[.pointer (some ⟨bb,0,none⟩)] 38)).alloc (.cells #[.pointer none,.int .i64 0,.int .i64 0,.nilFunc] 109)).heap[w.heap.size + 1]? = some (.cells #[.pointer none,.int .i64 0,.int .i64 0,.nilFunc] 109 (0,0)):=heap_alloc2_new _ _ _
  have q1:((w.alloc (.cells #[.pointer (some ⟨bb,0,none⟩)] 38)).alloc (.cells #[.pointer none,.int .i64 0,.int .i64 0,.nilFunc] 109)).heap[w.heap.size]? = some (.cells #[.pointer (some ⟨bb,0,none⟩)] 38 (0,0)):=(Below.heap_alloc _ _ _ (by simp)).trans (heap_alloc_new _ _)
  generalize (w.alloc (.cells #[.pointer (some ⟨bb,0,none⟩)] 38)).alloc (.cells #[.pointer none,.int .i64 0,.int .i64 0,.nilFunc] 109) = w1 at hB q0 q1 ⊢
  have c0:w1.cell? ⟨w.heap.size + 1,0,none⟩ = some (.pointer none):=cells_at q0 0 rfl
  have c1:w1.cell? ⟨w.heap.size + 1,1,none⟩ = some (.int .i64 0):=cells_at q0 1 rfl
  have c2:w1.cell? ⟨w.heap.size + 1,2,none⟩ = some (.int .i64 0):=cells_at q0 2 rfl
  have c3:w1.cell? ⟨w.heap.size + 1,3,none⟩ = some .nilFunc:=cells_at q0 3 rfl
  have fz:∀ o,w1.frozen? ⟨w.heap.size + 1,o,none⟩ = false:=fun o=>cells_frozen q0 o
  have d0:w1.cell? ⟨w.heap.size,0,none⟩ = some (.pointer (some ⟨bb,0,none⟩)):=cells_at q1 0 rfl
  have g2:=Below.at hB h2 hbb
  have g4:=Below.at hB h4 hbb
  have g7:=Below.at hB h7 hbb
  have HB:=hide hB
  clear hB q0 q1 h2 h4 h7
  go_region
  go_wp2
  refine bodyPost_ret (v:=.agg #[.pointer (some ⟨bg,0,none⟩),.int .i64 links,.int .i64 beam,.func (.func 90) #[] #[.pointer (some ⟨w.heap.size,0,none⟩)]]) (by simp [results,Tryz.results45,go_sem,c0,c1,c2,c3]) rfl ⟨rfl,?_,?_⟩
  · show World.cell? (World.setCell _ _ _) _ = _
    rw [World.cell?_setCell_other _ _ _ _ (by simp),World.cell?_setCell_other _ _ _ _ (by simp),World.cell?_setCell_other _ _ _ _ (by simp),World.cell?_setCell_other _ _ _ _ (by simp)]
    exact d0
  · refine Below.drew ?_
    repeat (first | exact HB.out | refine Below.setCell ?_ (by show _≤w.heap.size + 1; omega) _)
end
section
open Go.RowKit

theorem mul94 (x y:Nat) (hx:x < 18446744073709551616) (hy:y < 18446744073709551616) (w:World) :
    Calls Tryz.prog 98 #[.int .u64 x,.int .u64 y] w fun e w'=>e = .returned (.tuple #[.int .u64 ((x * y / 18446744073709551616:Nat):Int),.int .u64 ((x * y % 18446744073709551616:Nat):Int)])∧w = w' :=
  (Go.Proofs.Any.bits_Mul64 Tryz.lays264 x y hx hy w).mono (fun _ _ h=>⟨h.1,h.2.symm⟩)

def lvlR (links:Nat):Nat→Nat→Nat
  | 0,_=>0
  | n + 1,d=>if 0 < d * links / 18446744073709551616 then 0 else lvlR links n (d * links % 18446744073709551616) + 1
theorem lvlR_le (links:Nat):∀ n d,lvlR links n d≤n
  | 0,_=>Nat.le_refl _
  | n + 1,d=>by
    unfold lvlR
    split
    · omega
    · have:=lvlR_le links n (d * links % 18446744073709551616); omega

set_option maxHeartbeats 2000000 in
set_option maxRecDepth 20000 in
theorem levelOf45 (d links top:Nat) (hd:d < 18446744073709551616) (hl:links≤1000) (ht:top≤100) (w:World) :
    Calls Tryz.prog 48 #[.int .u64 d,.int .i64 links,.int .i64 top] w fun e w'=>e = .returned (.int .i64 (lvlR links top d))∧w = w':=by
  have hcv:IntKind.u64.wrap (links:Int) = (links:Int):=by rw [IntKind.wrap_u64]; omega
  go_enter Tryz.func48,Tryz.ntmps48
  go_wp2
  go_loop [0,7,8,9,11] (fun dv _ _ _ i=>∃ (k e:Nat),dv = .int .u64 e∧i = .int .i64 k∧k≤top∧e < 18446744073709551616∧Hid (lvlR links top d = lvlR links (top - k) e + k)) (fun _ _ _ _ i=>top - (intOf i).toNat)
  case atStart=>exact ⟨0,d,rfl,rfl,Nat.zero_le _,hd,rfl⟩
  case round =>
    obtain ⟨k,e,rfl,rfl,hk,he,HE⟩:=hrel
    by_cases hlt:k < top
    · have hm:=mul94 e links he (by omega) w
      have hstep:lvlR links (top - k) e = if 0 < e * links / 18446744073709551616 then 0 else lvlR links (top - (k + 1)) (e * links % 18446744073709551616) + 1:=by
        have e1:top - k = (top - (k + 1)) + 1:=by omega
        rw [e1]; rfl
      have hmod:e * links % 18446744073709551616 < 18446744073709551616:=Nat.mod_lt _ (by decide)
      generalize e * links / 18446744073709551616 = hi at hm hstep
      generalize e * links % 18446744073709551616 = lo at hm hstep hmod
      have HM:=hide hm
      have HST:=hide hstep
      clear hm hstep
      by_cases h0:0 < hi
      · have h0d:decide ((0:Int) < (hi:Int)) = true:=decide_eq_true (by omega)
        go_wp2_with (go_at_call 98; refine HM.out.mono ?_; rintro e2 w2 ⟨rfl,rfl⟩)
        go_ret
        exact ⟨by rw [HE.out,HST.out,if_pos h0]; simp,rfl⟩
      · have h0d:decide ((0:Int) < (hi:Int)) = false:=decide_eq_false (by omega)
        go_wp2_with (go_at_call 98; refine HM.out.mono ?_; rintro e2 w2 ⟨rfl,rfl⟩)
        refine ⟨⟨k + 1,lo,rfl,by go_num,by omega,hmod,?_⟩,by simp [intOf]; omega⟩
        show _ = _
        rw [HE.out,HST.out,if_neg h0]; omega
    · go_wp2
      go_ret
      obtain rfl:k = top:=by omega
      exact ⟨by rw [HE.out,Nat.sub_self]; simp [lvlR],rfl⟩
end
section
open Go.RowKit Go.Maps

set_option maxHeartbeats 1000000 in
theorem get29_no (bs bm:Nat) (id:Int) (L:List Ent) (w:World) (hid:I64 id) (c1:w.cell? ⟨bs,1,none⟩ = some (.map (some bm))) (hm:MapAt w bm L) (he:findE id L = none) :
    Calls Tryz.prog 61 #[.pointer (some ⟨bs,0,none⟩),.int .i64 id] w fun ev w'=>(∃ s,ev = .returned (.tuple #[.agg #[.int .i64 0,.slice none 0 0,.int .i64 0,.int .i64 0],.iface 158 (.agg #[.string s,.int .i64 id,.iface 156 (.int .i64 5)])]))∧Below w.heap.size w w':=by
  have hb:=block_lt_of_cell c1
  go_enter Tryz.func61,Tryz.ntmps61
  go_wp2_with fail
  refine (find57_no bs bm id L _ hid ?c1 (hm.alloc _) he).mono ?_
  case c1=>rw [World.cell?_alloc_lt _ _ _ (by exact hb)]; exact c1
  rintro ev w1 ⟨⟨s,rfl⟩,hb1⟩
  have l0:w1.cell? ⟨w.heap.size,0,none⟩ = some (.int .i64 0):=Below.at hb1 (by simp) (by simp)
  have l1:w1.cell? ⟨w.heap.size,1,none⟩ = some (.slice none 0 0):=Below.at hb1 (by simp) (by simp)
  have l2:w1.cell? ⟨w.heap.size,2,none⟩ = some (.int .i64 0):=Below.at hb1 (by simp) (by simp)
  have l3:w1.cell? ⟨w.heap.size,3,none⟩ = some (.int .i64 0):=Below.at hb1 (by simp) (by simp)
  have fl:∀ o,w1.frozen? ⟨w.heap.size,o,none⟩ = false:=fun o=>(hb1.frozen (p:=⟨_,o,none⟩) (by simp)).trans (by simp)
  have hz:w.heap.size < w1.heap.size:=by have:=hb1.size; simp at this; omega
  have HB:=hide hb1
  clear hb1 hm he c1
  go_wp2
  refine bodyPost_ret (v:=.tuple #[.agg #[.int .i64 0,.slice none 0 0,.int .i64 0,.int .i64 0],.iface 158 (.agg #[.string s,.int .i64 id,.iface 156 (.int .i64 5)])]) (by simp [results,Tryz.results61,go_sem,l0,l1,l2,l3,hz]) rfl ⟨⟨s,rfl⟩,?_⟩
  have hb2:Below w.heap.size w w1:=((Below.refl _ _).alloc (Nat.le_refl _) _).trans (HB.out.mono (by simp))
  repeat (first | exact hb2 | refine Below.setCell ?_ (by first | omega | (simp; done) | (simp; omega)) _ | refine Below.alloc ?_ (by first | omega | (simp; done) | (simp; omega)) _)

set_option maxHeartbeats 1000000 in
theorem get29_yes (bs bm:Nat) (id:Int) (L:List Ent) (e:Ent) (w:World) (hid:I64 id) (c1:w.cell? ⟨bs,1,none⟩ = some (.map (some bm))) (hm:MapAt w bm L) (he:findE id L = some e) :
    Calls Tryz.prog 61 #[.pointer (some ⟨bs,0,none⟩),.int .i64 id] w fun ev w'=>∃ g gc,ev = .returned (.tuple #[.agg #[.int .i64 e.id,.slice (some ⟨g,0,none⟩) e.pt.length gc,.int .i64 e.t0,.int .i64 e.t1],.nilIface])∧w.heap.size≤g∧Pts w' g gc e.pt∧Below w.heap.size w w':=by
  have hb:=block_lt_of_cell c1
  have hmem:=(findE_mem he).1
  have hpos:=hm.pos e hmem
  have hlt:=hm.plt e hmem
  go_enter Tryz.func61,Tryz.ntmps61
  go_wp2_with fail
  refine (find57_yes bs bm id L e _ hid ?c1 (hm.alloc _) he).mono ?_
  case c1=>rw [World.cell?_alloc_lt _ _ _ (by exact hb)]; exact c1
  rintro ev w1 ⟨rfl,hb1⟩
  have hbw:Below w.heap.size w w1:=((Below.refl _ _).alloc (Nat.le_refl _) _).trans (hb1.mono (by simp))
  have hz:w.heap.size < w1.heap.size:=by have:=hb1.size; simp at this; omega
  have HP:Hid (∀ o,Pts (w1.alloc o) e.mb e.mc e.pt):=fun o=>((hm.below hbw).alloc o).pts e hmem
  have l0:w1.cell? ⟨w.heap.size,0,none⟩ = some (.int .i64 0):=Below.at hb1 (by simp) (by simp)
  have l1:w1.cell? ⟨w.heap.size,1,none⟩ = some (.slice none 0 0):=Below.at hb1 (by simp) (by simp)
  have l2:w1.cell? ⟨w.heap.size,2,none⟩ = some (.int .i64 0):=Below.at hb1 (by simp) (by simp)
  have l3:w1.cell? ⟨w.heap.size,3,none⟩ = some (.int .i64 0):=Below.at hb1 (by simp) (by simp)
  have fl:∀ o,w1.frozen? ⟨w.heap.size,o,none⟩ = false:=fun o=>(hb1.frozen (p:=⟨_,o,none⟩) (by simp)).trans (by simp)
  have HB:=hide hbw
  clear hb1 hm he c1 hbw
  go_wp2_with fail
  refine (copied56_any e.id e.t0 e.t1 e.pt e.mb 0 e.mc _ hpos.1 (by omega) (Pts.cell (HP.out _))).mono ?_
  rintro ev w2 ⟨g,gc,rfl,hg,hp,hb2⟩
  have m0:w2.cell? ⟨w.heap.size,0,none⟩ = some (.int .i64 0):=Below.at hb2 (by rw [World.cell?_alloc_lt _ _ _ (by exact hz)]; exact l0) (by simp; omega)
  have m1:w2.cell? ⟨w.heap.size,1,none⟩ = some (.slice none 0 0):=Below.at hb2 (by rw [World.cell?_alloc_lt _ _ _ (by exact hz)]; exact l1) (by simp; omega)
  have m2:w2.cell? ⟨w.heap.size,2,none⟩ = some (.int .i64 0):=Below.at hb2 (by rw [World.cell?_alloc_lt _ _ _ (by exact hz)]; exact l2) (by simp; omega)
  have m3:w2.cell? ⟨w.heap.size,3,none⟩ = some (.int .i64 0):=Below.at hb2 (by rw [World.cell?_alloc_lt _ _ _ (by exact hz)]; exact l3) (by simp; omega)
  have fm:∀ o,w2.frozen? ⟨w.heap.size,o,none⟩ = false:=fun o=>(hb2.frozen (p:=⟨_,o,none⟩) (by simp; omega)).trans ((World.frozen?_alloc_old _ _ _ (by simp; omega)).trans (fl o))
  have HB2:=hide hb2
  have HP2:=hide hp
  have HG:=hide hg
  clear l0 l1 l2 l3 fl hb2 hp hg HP
  go_wp2
  refine bodyPost_ret (v:=.tuple #[.agg #[.int .i64 e.id,.slice (some ⟨g,0,none⟩) e.pt.length gc,.int .i64 e.t0,.int .i64 e.t1],.nilIface]) (by simp [results,Tryz.results61,go_sem,m0,m1,m2,m3]) rfl ⟨g,gc,rfl,?_,?_,?_⟩
  · have:=HG.out; simp at this; omega
  · have hg:=HG.out
    simp at hg
    refine ownsRow_of_block HP2.out fun g' e'=>?_
    obtain rfl:g = g':=by simpa [Value.ownBlock] using e'
    repeat rw [Below.heap_setCell _ _ _ _ (by simp; omega)]
  · have hb3:Below w.heap.size w w2:=(HB.out.alloc (by omega) _).trans (HB2.out.mono (by simp; omega))
    repeat (first | exact hb3 | refine Below.setCell ?_ (by first | omega | (simp; done) | (simp; omega)) _)

set_option maxHeartbeats 1000000 in
theorem delete31_no (bs bm:Nat) (id:Int) (L:List Ent) (w:World) (hid:I64 id) (c1:w.cell? ⟨bs,1,none⟩ = some (.map (some bm))) (hm:MapAt w bm L) (he:findE id L = none) :
    Calls Tryz.prog 49 #[.pointer (some ⟨bs,0,none⟩),.int .i64 id] w fun ev w'=>(∃ s,ev = .returned (.iface 158 (.agg #[.string s,.int .i64 id,.iface 156 (.int .i64 5)])))∧Below w.heap.size w w':=by
  go_enter Tryz.func49,Tryz.ntmps49
  go_wp2_with fail
  refine (find57_no bs bm id L _ hid c1 hm he).mono ?_
  rintro ev w1 ⟨⟨s,rfl⟩,hb1⟩
  have hz:w.heap.size≤w1.heap.size:=hb1.size
  have HB:=hide hb1
  clear hb1 hm he c1
  go_wp2
  go_ret
  refine ⟨⟨s,rfl⟩,?_⟩
  repeat (first | exact HB.out | refine Below.setCell ?_ (by first | omega | (simp; done) | (simp; omega)) _ | refine Below.alloc ?_ (by first | omega | (simp; done) | (simp; omega)) _)

set_option maxHeartbeats 1000000 in
theorem delete31_yes (bs bm:Nat) (id:Int) (L:List Ent) (e:Ent) (w:World) (hid:I64 id) (c1:w.cell? ⟨bs,1,none⟩ = some (.map (some bm))) (hm:MapAt w bm L) (he:findE id L = some e) :
    Calls Tryz.prog 49 #[.pointer (some ⟨bs,0,none⟩),.int .i64 id] w fun ev w'=>ev = .returned .nilIface∧MapAt w' bm (delE id L)∧Kept (fun k=>k = bm) w w':=by
  go_enter Tryz.func49,Tryz.ntmps49
  go_wp2_with fail
  refine (find57_yes bs bm id L e _ hid c1 hm he).mono ?_
  rintro ev w1 ⟨rfl,hb1⟩
  have hz:w.heap.size≤w1.heap.size:=hb1.size
  have c1':=Below.at hb1 c1 (block_lt_of_cell c1)
  have hbs:=block_lt_of_cell c1'
  obtain ⟨w3,hrun,hm3,hk3⟩:=((hm.below hb1).alloc (.cells #[.int .i64 e.id,.slice (some ⟨e.mb,0,none⟩) e.pt.length e.mc,.int .i64 e.t0,.int .i64 e.t1] 77)).drop id hid
  have HB:=hide hb1
  have HM:=hide hm3
  have HK:=hide hk3
  clear hb1 hm he c1 hm3 hk3
  go_wp2
  go_ret
  exact ⟨rfl,HM.out,((Kept.of_below _ HB.out).alloc _).trans HK.out (fun _ _ h=>h)⟩

set_option maxHeartbeats 1000000 in
theorem new26_any (places:Int) (w:World) :
    Calls Tryz.prog 65 #[.int .i64 places] w fun ev w'=>ev = .returned (.pointer (some ⟨w.heap.size + 1,0,none⟩))∧(w.alloc (.map #[] 0)).alloc (.cells #[.int .i64 places,.map (some w.heap.size)] 155) = w':=by
  have hmm:=@run_makeMap Tryz.prog
  go_enter Tryz.func65,Tryz.ntmps65
  go_wp2
  go_ret
  exact ⟨rfl,rfl⟩
end
section
open Go.RowKit

theorem ptCode_dim (xs:List Int) (dim:Int) (h:¬ (xs.length:Int) = dim):ptCode dim xs = 2:=by simp [ptCode,h]
theorem ptCode_bad (xs:List Int) (dim:Int) (h:(xs.length:Int) = dim) (k:Nat) (hk:k < xs.length) (hb:coordB (xs.getD k 0) = false):ptCode dim xs = 3:=by
  have:xs.all coordB = false:=by
    rw [List.all_eq_false]
    refine ⟨xs.getD k 0,?_,by rw [hb]; decide⟩
    simp [List.getD_eq_getElem?_getD,hk]
  simp [ptCode,h,this]
theorem ptCode_ok (xs:List Int) (dim:Int) (h:(xs.length:Int) = dim) (hb:(xs.take xs.length).all coordB = true):ptCode dim xs = 0:=by
  rw [List.take_length] at hb
  simp [ptCode,h,hb]

set_option maxHeartbeats 1000000 in
theorem point27_long (xs:List Int) (b off cap:Nat) (w:World) (hm:xs.length≤17592186044416)
    (hc:∀ i,i < xs.length→w.cell? ⟨b,off + i,none⟩ = some (.int .i64 (xs.getD i 0))) (_hcap:xs.length≤cap) :
    Calls Tryz.prog 42 #[.slice (some ⟨b,off,none⟩) xs.length cap,.int .i64 xs.length] w fun e w'=>(∃ v,e = .returned v∧IsErr (ptCode xs.length xs) v)∧Below w.heap.size w w':=by
  have hne:((xs.length:Int) != (xs.length:Int)) = false:=by simp
  go_enter Tryz.func42,Tryz.ntmps42
  go_wp2
  go_loop [19] (fun i=>∃ k:Nat,k≤xs.length∧i = .int .i64 k∧(xs.take k).all coordB = true) (fun i=>xs.length - (intOf i).toNat)
  case atStart=>exact ⟨0,Nat.zero_le _,rfl,by simp⟩
  case round =>
    obtain ⟨k,hk,rfl,hall⟩:=hrel
    have HA:Hid ((xs.take k).all coordB = true):=hall
    clear hall
    by_cases hlt:k < xs.length
    · have hck:=hc k hlt
      have HS:Hid ((xs.take (k + 1)).all coordB = ((xs.take k).all coordB && coordB (xs.getD k 0))):=all_snoc xs k hlt
      have HB:Hid (coordB (xs.getD k 0) = false→ptCode xs.length xs = 3):=ptCode_bad xs _ rfl k hlt
      clear hc
      generalize xs.getD k 0 = x at *
      cases hb:inB x (-1048576) 1048576
      · go_wp2_with (go_at_call 86; refine (within_any _ _ _ _).mono ?_; rintro e w' ⟨rfl,rfl⟩)
        go_ret
        exact ⟨⟨_,rfl,by rw [HB.out hb]; exact .inr ⟨by decide,.inr ⟨_,_,_,_,rfl⟩⟩⟩,(Below.refl _ _).alloc (Nat.le_refl _) _⟩
      · go_wp2_with (go_at_call 86; refine (within_any _ _ _ _).mono ?_; rintro e w' ⟨rfl,rfl⟩)
        go_round
        case rel=>exact ⟨k + 1,by omega,by go_num,by rw [HS.out,HA.out]; simp [coordB,hb]⟩
        case measure=>simp [intOf]; omega
    · have he:k = xs.length:=by omega
      have HB:Hid (ptCode xs.length xs = 0):=ptCode_ok xs _ rfl (by rw [← he]; exact HA.out)
      clear he hc
      go_wp2
      go_ret
      exact ⟨⟨_,rfl,by rw [HB.out]; exact .inl ⟨rfl,rfl⟩⟩,Below.refl _ _⟩

set_option maxHeartbeats 1000000 in
theorem point27_nil (a:Option Addr) (cap:Nat) (w:World) :
    Calls Tryz.prog 42 #[.slice a 0 cap,.int .i64 0] w fun e w'=>(∃ v,e = .returned v∧IsErr (ptCode 0 []) v)∧Below w.heap.size w w':=by
  go_enter Tryz.func42,Tryz.ntmps42
  go_wp2
  refine wp_loop_rounds 1 ?_
  rw [rounds_succ]
  go_wp2
  go_ret
  exact ⟨⟨_,rfl,.inl ⟨by decide,rfl⟩⟩,Below.refl _ _⟩

set_option maxHeartbeats 1000000 in
theorem point27_dim (xs:List Int) (a:Option Addr) (cap:Nat) (dim:Int) (w:World) (hd:¬ (xs.length:Int) = dim) :
    Calls Tryz.prog 42 #[.slice a xs.length cap,.int .i64 dim] w fun e w'=>(∃ v,e = .returned v∧IsErr (ptCode dim xs) v)∧Below w.heap.size w w':=by
  have HB:Hid (ptCode dim xs = 2):=ptCode_dim xs dim hd
  have hne:((xs.length:Int) != dim) = true:=by simpa using hd
  clear hd
  go_enter Tryz.func42,Tryz.ntmps42
  go_wp2
  go_ret
  exact ⟨⟨_,rfl,by rw [HB.out]; exact .inr ⟨by decide,.inl ⟨_,_,rfl⟩⟩⟩,Below.refl _ _⟩

theorem point27_any (xs:List Int) (v:Value) (dim:Int) (w:World) (h:IntsAt w v xs) :
    Calls Tryz.prog 42 #[v,.int .i64 dim] w fun e w'=>(∃ v,e = .returned v∧IsErr (ptCode dim xs) v)∧Below w.heap.size w w':=by
  obtain ⟨a,cap,rfl,hcap,hm,hx⟩:=h
  by_cases hd:(xs.length:Int) = dim
  · subst hd
    rcases hx with rfl | ⟨b,off,rfl,hc⟩
    · exact point27_nil a cap w
    · exact point27_long xs b off cap w hm hc hcap
  · exact point27_dim xs a cap dim w hd

set_option maxHeartbeats 1000000 in
theorem point59_long (xs:List Int) (b off cap rb:Nat) (w:World) (hm:xs.length≤17592186044416) (hr:w.cell? ⟨rb,0,none⟩ = some (.int .i64 xs.length))
    (hc:∀ i,i < xs.length→w.cell? ⟨b,off + i,none⟩ = some (.int .i64 (xs.getD i 0))) (_hcap:xs.length≤cap) :
    Calls Tryz.prog 122 #[.pointer (some ⟨rb,0,none⟩),.slice (some ⟨b,off,none⟩) xs.length cap] w fun e w'=>e = .returned (.int .i64 (ptCode xs.length xs))∧w = w':=by
  have hne:((xs.length:Int) != (xs.length:Int)) = false:=by simp
  go_enter Tryz.func122,Tryz.ntmps122
  go_wp2
  go_loop [5] (fun i=>∃ k:Nat,k≤xs.length∧i = .int .i64 k∧(xs.take k).all coordB = true) (fun i=>xs.length - (intOf i).toNat)
  case atStart=>exact ⟨0,Nat.zero_le _,rfl,by simp⟩
  case round =>
    obtain ⟨k,hk,rfl,hall⟩:=hrel
    have HA:Hid ((xs.take k).all coordB = true):=hall
    clear hall
    by_cases hlt:k < xs.length
    · have hck:=hc k hlt
      have HS:Hid ((xs.take (k + 1)).all coordB = ((xs.take k).all coordB && coordB (xs.getD k 0))):=all_snoc xs k hlt
      have HB:Hid (coordB (xs.getD k 0) = false→ptCode xs.length xs = 3):=ptCode_bad xs _ rfl k hlt
      clear hc
      generalize xs.getD k 0 = x at *
      by_cases h1:x < -1048576
      · go_wp2
        go_ret
        exact ⟨by rw [HB.out (by simp [coordB,inB]; omega)]; rfl,rfl⟩
      · have hd1:decide (x < -1048576) = false:=by simpa using h1
        by_cases h2:1048576 < x
        · go_wp2
          go_ret
          exact ⟨by rw [HB.out (by simp [coordB,inB]; omega)]; rfl,rfl⟩
        · go_wp2
          go_round
          case rel=>exact ⟨k + 1,by omega,by go_num,by rw [HS.out,HA.out]; simp [coordB,inB]; omega⟩
          case measure=>simp [intOf]; omega
    · have he:k = xs.length:=by omega
      have HB:Hid (ptCode xs.length xs = 0):=ptCode_ok xs _ rfl (by rw [← he]; exact HA.out)
      clear he hc
      go_wp2
      go_ret
      exact ⟨by rw [HB.out]; rfl,rfl⟩

set_option maxHeartbeats 1000000 in
theorem point59_nil (a:Option Addr) (cap rb:Nat) (w:World) (hr:w.cell? ⟨rb,0,none⟩ = some (.int .i64 0)) :
    Calls Tryz.prog 122 #[.pointer (some ⟨rb,0,none⟩),.slice a 0 cap] w fun e w'=>e = .returned (.int .i64 (ptCode 0 []))∧w = w':=by
  go_enter Tryz.func122,Tryz.ntmps122
  go_wp2
  refine wp_loop_rounds 1 ?_
  rw [rounds_succ]
  go_wp2
  go_ret
  exact ⟨rfl,rfl⟩

set_option maxHeartbeats 1000000 in
theorem point59_dim (xs:List Int) (a:Option Addr) (cap rb:Nat) (dim:Int) (w:World) (hd:¬ (xs.length:Int) = dim) (hr:w.cell? ⟨rb,0,none⟩ = some (.int .i64 dim)) :
    Calls Tryz.prog 122 #[.pointer (some ⟨rb,0,none⟩),.slice a xs.length cap] w fun e w'=>e = .returned (.int .i64 (ptCode dim xs))∧w = w':=by
  have HB:Hid (ptCode dim xs = 2):=ptCode_dim xs dim hd
  have hne:((xs.length:Int) != dim) = true:=by simpa using hd
  clear hd
  go_enter Tryz.func122,Tryz.ntmps122
  go_wp2
  go_ret
  exact ⟨by rw [HB.out]; rfl,rfl⟩

theorem point59_any (xs:List Int) (v:Value) (dim:Int) (rb:Nat) (w:World) (h:IntsAt w v xs) (hr:w.cell? ⟨rb,0,none⟩ = some (.int .i64 dim)) :
    Calls Tryz.prog 122 #[.pointer (some ⟨rb,0,none⟩),v] w fun e w'=>e = .returned (.int .i64 (ptCode dim xs))∧w = w':=by
  obtain ⟨a,cap,rfl,hcap,hm,hx⟩:=h
  by_cases hd:(xs.length:Int) = dim
  · subst hd
    rcases hx with rfl | ⟨b,off,rfl,hc⟩
    · exact point59_nil a cap rb w hr
    · exact point59_long xs b off cap rb w hm hr hc hcap
  · exact point59_dim xs a cap rb dim w hd hr
end
section
open Go.RowKit

structure Cfg where
  dim:Int
  cap:Int
  links:Int
  metric:Int
  beam:Int
  top:Int

def Cfg.val (c:Cfg):Value:=.agg #[.int .i64 c.dim,.int .i64 c.cap,.int .i64 c.links,.int .i64 c.metric,.int .i64 c.beam,.int .i64 c.top]

def cfgB (d c l m b t:Int):Bool:=inB d 1 8 && inB c 1 60 && inB l 2 8 && inB m 0 2 && inB b 1 100 && inB t 0 5

set_option maxHeartbeats 1000000 in
theorem config17_any (d c l m b t:Int) (w:World) :
    Calls Tryz.prog 34 #[.agg #[.int .i64 d,.int .i64 c,.int .i64 l,.int .i64 m,.int .i64 b,.int .i64 t]] w fun e w'=>e = .returned (.bool (cfgB d c l m b t))∧Below w.heap.size w w':=by
  cases h1:inB d 1 8
  · have HB:Hid (cfgB d c l m b t = false):=by simp [Hid,cfgB,h1]
    go_enter Tryz.func34,Tryz.ntmps34
    go_wp2_with (go_at_call 67; refine (in_any _ _ _ _).mono ?_; rintro e w' ⟨rfl,rfl⟩)
    go_ret
    exact ⟨by rw [HB.out]; rfl,(Below.refl _ _).alloc (Nat.le_refl _) _⟩
  cases h2:inB c 1 60
  · have HB:Hid (cfgB d c l m b t = false):=by simp [Hid,cfgB,h2]
    go_enter Tryz.func34,Tryz.ntmps34
    go_wp2_with (go_at_call 67; refine (in_any _ _ _ _).mono ?_; rintro e w' ⟨rfl,rfl⟩)
    go_ret
    exact ⟨by rw [HB.out]; rfl,(Below.refl _ _).alloc (Nat.le_refl _) _⟩
  cases h3:inB l 2 8
  · have HB:Hid (cfgB d c l m b t = false):=by simp [Hid,cfgB,h3]
    go_enter Tryz.func34,Tryz.ntmps34
    go_wp2_with (go_at_call 67; refine (in_any _ _ _ _).mono ?_; rintro e w' ⟨rfl,rfl⟩)
    go_ret
    exact ⟨by rw [HB.out]; rfl,(Below.refl _ _).alloc (Nat.le_refl _) _⟩
  cases h4:inB m 0 2
  · have HB:Hid (cfgB d c l m b t = false):=by simp [Hid,cfgB,h4]
    go_enter Tryz.func34,Tryz.ntmps34
    go_wp2_with (go_at_call 67; refine (in_any _ _ _ _).mono ?_; rintro e w' ⟨rfl,rfl⟩)
    go_ret
    exact ⟨by rw [HB.out]; rfl,(Below.refl _ _).alloc (Nat.le_refl _) _⟩
  cases h5:inB b 1 100
  · have HB:Hid (cfgB d c l m b t = false):=by simp [Hid,cfgB,h5]
    go_enter Tryz.func34,Tryz.ntmps34
    go_wp2_with (go_at_call 67; refine (in_any _ _ _ _).mono ?_; rintro e w' ⟨rfl,rfl⟩)
    go_ret
    exact ⟨by rw [HB.out]; rfl,(Below.refl _ _).alloc (Nat.le_refl _) _⟩
  have HB:Hid (cfgB d c l m b t = inB t 0 5):=by simp [Hid,cfgB,h1,h2,h3,h4,h5]
  go_enter Tryz.func34,Tryz.ntmps34
  go_wp2_with (go_at_call 67; refine (in_any _ _ _ _).mono ?_; rintro e w' ⟨rfl,rfl⟩)
  go_ret
  exact ⟨by rw [HB.out]; rfl,(Below.refl _ _).alloc (Nat.le_refl _) _⟩

end
section
open Go.RowKit

def cfgCode (d c l m b t:Int):Int:=if cfgB d c l m b t = true then 0 else 1

set_option maxHeartbeats 4000000 in
theorem config24_0 (d c l m b t:Int) (w:World) (h1:inB d 1 8 = false) :
    Calls Tryz.prog 64 #[.agg #[.int .i64 d,.int .i64 c,.int .i64 l,.int .i64 m,.int .i64 b,.int .i64 t]] w fun e w'=>(∃ v,e = .returned v∧IsErr 1 v)∧Below w.heap.size w w':=by
  go_enter Tryz.func64,Tryz.ntmps64
  go_wp2
  refine wp_loop_rounds 1 ?_
  rw [rounds_succ]
  go_wp2_with (go_at_call 86; refine (within_any _ _ _ _).mono ?_; rintro e w' ⟨rfl,rfl⟩)
  go_ret
  exact ⟨⟨_,rfl,.inr ⟨by decide,.inl ⟨_,_,rfl⟩⟩⟩,by repeat (first | exact Below.refl _ _ | refine Below.alloc ?_ (by simp <;> omega) _)⟩

set_option maxHeartbeats 4000000 in
theorem config24_1 (d c l m b t:Int) (w:World) (h1:inB d 1 8 = true) (h2:inB c 1 60 = false) :
    Calls Tryz.prog 64 #[.agg #[.int .i64 d,.int .i64 c,.int .i64 l,.int .i64 m,.int .i64 b,.int .i64 t]] w fun e w'=>(∃ v,e = .returned v∧IsErr 1 v)∧Below w.heap.size w w':=by
  go_enter Tryz.func64,Tryz.ntmps64
  go_wp2
  refine wp_loop_rounds 2 ?_
  rw [rounds_succ]
  go_wp2_with (go_at_call 86; refine (within_any _ _ _ _).mono ?_; rintro e w' ⟨rfl,rfl⟩)
  rw [rounds_succ]
  go_wp2_with (go_at_call 86; refine (within_any _ _ _ _).mono ?_; rintro e w' ⟨rfl,rfl⟩)
  go_ret
  exact ⟨⟨_,rfl,.inr ⟨by decide,.inl ⟨_,_,rfl⟩⟩⟩,by repeat (first | exact Below.refl _ _ | refine Below.alloc ?_ (by simp <;> omega) _)⟩

set_option maxHeartbeats 4000000 in
theorem config24_2 (d c l m b t:Int) (w:World) (h1:inB d 1 8 = true) (h2:inB c 1 60 = true) (h3:inB l 2 8 = false) :
    Calls Tryz.prog 64 #[.agg #[.int .i64 d,.int .i64 c,.int .i64 l,.int .i64 m,.int .i64 b,.int .i64 t]] w fun e w'=>(∃ v,e = .returned v∧IsErr 1 v)∧Below w.heap.size w w':=by
  go_enter Tryz.func64,Tryz.ntmps64
  go_wp2
  refine wp_loop_rounds 3 ?_
  rw [rounds_succ]
  go_wp2_with (go_at_call 86; refine (within_any _ _ _ _).mono ?_; rintro e w' ⟨rfl,rfl⟩)
  rw [rounds_succ]
  go_wp2_with (go_at_call 86; refine (within_any _ _ _ _).mono ?_; rintro e w' ⟨rfl,rfl⟩)
  rw [rounds_succ]
  go_wp2_with (go_at_call 86; refine (within_any _ _ _ _).mono ?_; rintro e w' ⟨rfl,rfl⟩)
  go_ret
  exact ⟨⟨_,rfl,.inr ⟨by decide,.inl ⟨_,_,rfl⟩⟩⟩,by repeat (first | exact Below.refl _ _ | refine Below.alloc ?_ (by simp <;> omega) _)⟩

set_option maxHeartbeats 4000000 in
theorem config24_3 (d c l m b t:Int) (w:World) (h1:inB d 1 8 = true) (h2:inB c 1 60 = true) (h3:inB l 2 8 = true) (h4:inB m 0 2 = false) :
    Calls Tryz.prog 64 #[.agg #[.int .i64 d,.int .i64 c,.int .i64 l,.int .i64 m,.int .i64 b,.int .i64 t]] w fun e w'=>(∃ v,e = .returned v∧IsErr 1 v)∧Below w.heap.size w w':=by
  go_enter Tryz.func64,Tryz.ntmps64
  go_wp2
  refine wp_loop_rounds 4 ?_
  rw [rounds_succ]
  go_wp2_with (go_at_call 86; refine (within_any _ _ _ _).mono ?_; rintro e w' ⟨rfl,rfl⟩)
  rw [rounds_succ]
  go_wp2_with (go_at_call 86; refine (within_any _ _ _ _).mono ?_; rintro e w' ⟨rfl,rfl⟩)
  rw [rounds_succ]
  go_wp2_with (go_at_call 86; refine (within_any _ _ _ _).mono ?_; rintro e w' ⟨rfl,rfl⟩)
  rw [rounds_succ]
  go_wp2_with (go_at_call 86; refine (within_any _ _ _ _).mono ?_; rintro e w' ⟨rfl,rfl⟩)
  go_ret
  exact ⟨⟨_,rfl,.inr ⟨by decide,.inl ⟨_,_,rfl⟩⟩⟩,by repeat (first | exact Below.refl _ _ | refine Below.alloc ?_ (by simp <;> omega) _)⟩

set_option maxHeartbeats 4000000 in
theorem config24_4 (d c l m b t:Int) (w:World) (h1:inB d 1 8 = true) (h2:inB c 1 60 = true) (h3:inB l 2 8 = true) (h4:inB m 0 2 = true) (h5:inB b 1 100 = false) :
    Calls Tryz.prog 64 #[.agg #[.int .i64 d,.int .i64 c,.int .i64 l,.int .i64 m,.int .i64 b,.int .i64 t]] w fun e w'=>(∃ v,e = .returned v∧IsErr 1 v)∧Below w.heap.size w w':=by
  go_enter Tryz.func64,Tryz.ntmps64
  go_wp2
  refine wp_loop_rounds 5 ?_
  rw [rounds_succ]
  go_wp2_with (go_at_call 86; refine (within_any _ _ _ _).mono ?_; rintro e w' ⟨rfl,rfl⟩)
  rw [rounds_succ]
  go_wp2_with (go_at_call 86; refine (within_any _ _ _ _).mono ?_; rintro e w' ⟨rfl,rfl⟩)
  rw [rounds_succ]
  go_wp2_with (go_at_call 86; refine (within_any _ _ _ _).mono ?_; rintro e w' ⟨rfl,rfl⟩)
  rw [rounds_succ]
  go_wp2_with (go_at_call 86; refine (within_any _ _ _ _).mono ?_; rintro e w' ⟨rfl,rfl⟩)
  rw [rounds_succ]
  go_wp2_with (go_at_call 86; refine (within_any _ _ _ _).mono ?_; rintro e w' ⟨rfl,rfl⟩)
  go_ret
  exact ⟨⟨_,rfl,.inr ⟨by decide,.inl ⟨_,_,rfl⟩⟩⟩,by repeat (first | exact Below.refl _ _ | refine Below.alloc ?_ (by simp <;> omega) _)⟩

set_option maxHeartbeats 4000000 in
theorem config24_5 (d c l m b t:Int) (w:World) (h1:inB d 1 8 = true) (h2:inB c 1 60 = true) (h3:inB l 2 8 = true) (h4:inB m 0 2 = true) (h5:inB b 1 100 = true) (h6:inB t 0 5 = false) :
    Calls Tryz.prog 64 #[.agg #[.int .i64 d,.int .i64 c,.int .i64 l,.int .i64 m,.int .i64 b,.int .i64 t]] w fun e w'=>(∃ v,e = .returned v∧IsErr 1 v)∧Below w.heap.size w w':=by
  go_enter Tryz.func64,Tryz.ntmps64
  go_wp2
  refine wp_loop_rounds 6 ?_
  rw [rounds_succ]
  go_wp2_with (go_at_call 86; refine (within_any _ _ _ _).mono ?_; rintro e w' ⟨rfl,rfl⟩)
  rw [rounds_succ]
  go_wp2_with (go_at_call 86; refine (within_any _ _ _ _).mono ?_; rintro e w' ⟨rfl,rfl⟩)
  rw [rounds_succ]
  go_wp2_with (go_at_call 86; refine (within_any _ _ _ _).mono ?_; rintro e w' ⟨rfl,rfl⟩)
  rw [rounds_succ]
  go_wp2_with (go_at_call 86; refine (within_any _ _ _ _).mono ?_; rintro e w' ⟨rfl,rfl⟩)
  rw [rounds_succ]
  go_wp2_with (go_at_call 86; refine (within_any _ _ _ _).mono ?_; rintro e w' ⟨rfl,rfl⟩)
  rw [rounds_succ]
  go_wp2_with (go_at_call 86; refine (within_any _ _ _ _).mono ?_; rintro e w' ⟨rfl,rfl⟩)
  go_ret
  exact ⟨⟨_,rfl,.inr ⟨by decide,.inl ⟨_,_,rfl⟩⟩⟩,by repeat (first | exact Below.refl _ _ | refine Below.alloc ?_ (by simp <;> omega) _)⟩

set_option maxHeartbeats 4000000 in
theorem config24_6 (d c l m b t:Int) (w:World) (h1:inB d 1 8 = true) (h2:inB c 1 60 = true) (h3:inB l 2 8 = true) (h4:inB m 0 2 = true) (h5:inB b 1 100 = true) (h6:inB t 0 5 = true) :
    Calls Tryz.prog 64 #[.agg #[.int .i64 d,.int .i64 c,.int .i64 l,.int .i64 m,.int .i64 b,.int .i64 t]] w fun e w'=>(∃ v,e = .returned v∧IsErr 0 v)∧Below w.heap.size w w':=by
  go_enter Tryz.func64,Tryz.ntmps64
  go_wp2
  refine wp_loop_rounds 7 ?_
  rw [rounds_succ]
  go_wp2_with (go_at_call 86; refine (within_any _ _ _ _).mono ?_; rintro e w' ⟨rfl,rfl⟩)
  rw [rounds_succ]
  go_wp2_with (go_at_call 86; refine (within_any _ _ _ _).mono ?_; rintro e w' ⟨rfl,rfl⟩)
  rw [rounds_succ]
  go_wp2_with (go_at_call 86; refine (within_any _ _ _ _).mono ?_; rintro e w' ⟨rfl,rfl⟩)
  rw [rounds_succ]
  go_wp2_with (go_at_call 86; refine (within_any _ _ _ _).mono ?_; rintro e w' ⟨rfl,rfl⟩)
  rw [rounds_succ]
  go_wp2_with (go_at_call 86; refine (within_any _ _ _ _).mono ?_; rintro e w' ⟨rfl,rfl⟩)
  rw [rounds_succ]
  go_wp2_with (go_at_call 86; refine (within_any _ _ _ _).mono ?_; rintro e w' ⟨rfl,rfl⟩)
  rw [rounds_succ]
  go_wp2_with (go_at_call 86; refine (within_any _ _ _ _).mono ?_; rintro e w' ⟨rfl,rfl⟩)
  go_ret
  exact ⟨⟨_,rfl,.inl ⟨rfl,rfl⟩⟩,by repeat (first | exact Below.refl _ _ | refine Below.alloc ?_ (by simp <;> omega) _)⟩

theorem config24_any (d c l m b t:Int) (w:World) :
    Calls Tryz.prog 64 #[.agg #[.int .i64 d,.int .i64 c,.int .i64 l,.int .i64 m,.int .i64 b,.int .i64 t]] w fun e w'=>(∃ v,e = .returned v∧IsErr (cfgCode d c l m b t) v)∧Below w.heap.size w w':=by
  cases h1:inB d 1 8
  · have e0:cfgCode d c l m b t = 1:=by simp [cfgCode,cfgB,h1]
    rw [e0]; exact config24_0 d c l m b t w h1
  cases h2:inB c 1 60
  · have e0:cfgCode d c l m b t = 1:=by simp [cfgCode,cfgB,h2]
    rw [e0]; exact config24_1 d c l m b t w h1 h2
  cases h3:inB l 2 8
  · have e0:cfgCode d c l m b t = 1:=by simp [cfgCode,cfgB,h3]
    rw [e0]; exact config24_2 d c l m b t w h1 h2 h3
  cases h4:inB m 0 2
  · have e0:cfgCode d c l m b t = 1:=by simp [cfgCode,cfgB,h4]
    rw [e0]; exact config24_3 d c l m b t w h1 h2 h3 h4
  cases h5:inB b 1 100
  · have e0:cfgCode d c l m b t = 1:=by simp [cfgCode,cfgB,h5]
    rw [e0]; exact config24_4 d c l m b t w h1 h2 h3 h4 h5
  cases h6:inB t 0 5
  · have e0:cfgCode d c l m b t = 1:=by simp [cfgCode,cfgB,h6]
    rw [e0]; exact config24_5 d c l m b t w h1 h2 h3 h4 h5 h6
  have e0:cfgCode d c l m b t = 0:=by simp [cfgCode,cfgB,h1,h2,h3,h4,h5,h6]
  rw [e0]; exact config24_6 d c l m b t w h1 h2 h3 h4 h5 h6
end
end Go.Proofs.YtpkiefjanmfgfaaGreatDoor
