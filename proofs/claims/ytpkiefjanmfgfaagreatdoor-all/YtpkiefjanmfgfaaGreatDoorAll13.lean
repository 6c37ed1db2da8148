import Derived.Test.YtpkiefjanmfgfaaGreatDoorAll12
namespace Go.Proofs.YtpkiefjanmfgfaaGreatDoor
section
open Go.RowKit Go.Maps

structure CfOk (cf:Cf):Prop where
  d1:1≤cf.dim
  d8:cf.dim≤8
  c60:cf.cap≤60
  m0:0≤cf.metric
  m2:cf.metric≤2
  l2:2≤cf.links
  l8:cf.links≤8
  b1:1≤cf.beam
  b100:cf.beam≤100
  t0:0≤cf.top
  t5:cf.top≤5
structure Net where
  bg:Nat
  F:Nat→Prop
  lev:List (Int × Int)
  lk:Int × Int→List Int
  ch:List Int
  looks:Int
  ex:Bks
  lows:Int
  lst:Int
  pt:Bool
def Net.like (gn gn':Net):Prop:=gn'.looks = gn.looks∧gn'.ex = gn.ex∧gn'.lows = gn.lows∧gn'.lst = gn.lst∧gn'.pt = gn.pt
def lvlOf (cf:Cf) (d:Int):Int:=(lvlR cf.links.toNat cf.top.toNat d.toNat:Int)
theorem lvlOf_le {cf:Cf} (h:CfOk cf) (d:Int):0≤lvlOf cf d∧lvlOf cf d≤5:=by
  unfold lvlOf
  have:=lvlR_le cf.links.toNat cf.top.toNat d.toNat
  have:=h.t5
  have:=h.t0
  omega

structure BaseAt (w:World) (bb bs bm:Nat) (cf:Cf) (gn:Net) (L:List Ent):Prop where
  b0:w.cell? ⟨bb,0,none⟩ = some (.int .i64 cf.dim)
  b2:w.cell? ⟨bb,2,none⟩ = some (.int .i64 cf.links)
  b3:w.cell? ⟨bb,3,none⟩ = some (.int .i64 cf.metric)
  b4:w.cell? ⟨bb,4,none⟩ = some (.int .i64 cf.beam)
  b5:w.cell? ⟨bb,5,none⟩ = some (.int .i64 cf.top)
  b6:w.cell? ⟨bb,6,none⟩ = some (.pointer (some ⟨bs,0,none⟩))
  b7:w.cell? ⟨bb,7,none⟩ = some (.pointer (some ⟨gn.bg,0,none⟩))
  b8:w.cell? ⟨bb,8,none⟩ = some (.int .i64 gn.looks)
  s0:w.cell? ⟨bs,0,none⟩ = some (.int .i64 cf.cap)
  s1:w.cell? ⟨bs,1,none⟩ = some (.map (some bm))
  map:MapAt w bm L
  hdl:Handle w
  g:GAt w gn.bg gn.F gn.lev gn.lk gn.ch
  ok:NOk cf.links gn.lev gn.lk gn.ch
  lv:∀ i,levOf gn.lev i = (findE i L).map fun e=>lvlOf cf e.draw
  few:L.length≤60
  ints:∀ e ∈ L,I64 e.id
  len:∀ e ∈ L,(e.pt.length:Int) = cf.dim
  crd:∀ e ∈ L,∀ x ∈ e.pt,Crd x
  drw:∀ e ∈ L,0≤e.draw∧e.draw < 18446744073709551616
  foot:∀ k,gn.F k→k < w.heap.size∧k ≠ 0∧k ≠ bb∧k ≠ bs∧k ≠ bm∧∀ e ∈ L,k ≠ e.mb
  cfok:CfOk cf

theorem Handle.below {w w':World} (h:Handle w) (hb:Below w.heap.size w w'):Handle w':=Below.at hb h h.lt
theorem Handle.kept {S:Nat→Prop} {w w':World} (h:Handle w) (hk:Kept S w w') (hn:¬ S 0):Handle w':=hk.cell h hn
theorem MapAt.keptS {S:Nat→Prop} {w w':World} {bm:Nat} {L:List Ent} (h:MapAt w bm L) (hk:Kept S w w') (h1:¬ S bm) (h2:∀ e ∈ L,¬ S e.mb):MapAt w' bm L :=
  h.block (hk.block _ h.lt h1) fun e he=>hk.block _ (h.plt e he) (h2 e he)

section
variable {w w':World} {bb bs bm:Nat} {cf:Cf} {gn:Net} {L:List Ent}
theorem BaseAt.keptS {S:Nat→Prop} (h:BaseAt w bb bs bm cf gn L) (hk:Kept S w w') (h1:¬ S bb) (h2:¬ S bs) (h3:¬ S bm) (h4:¬ S 0) (h5:∀ e ∈ L,¬ S e.mb) (h6:∀ k,gn.F k→¬ S k):BaseAt w' bb bs bm cf gn L :=
  ⟨hk.cell h.b0 h1,hk.cell h.b2 h1,hk.cell h.b3 h1,hk.cell h.b4 h1,hk.cell h.b5 h1,hk.cell h.b6 h1,hk.cell h.b7 h1,hk.cell h.b8 h1,hk.cell h.s0 h2,hk.cell h.s1 h2,h.map.keptS hk h3 h5,h.hdl.kept hk h4,h.g.kept hk h6,h.ok,h.lv,h.few,h.ints,h.len,h.crd,h.drw,fun k hf=>⟨Nat.lt_of_lt_of_le (h.foot k hf).1 hk.size,(h.foot k hf).2⟩,h.cfok⟩
theorem BaseAt.below (h:BaseAt w bb bs bm cf gn L) (hb:Below w.heap.size w w'):BaseAt w' bb bs bm cf gn L :=
  h.keptS (Kept.of_below (fun _=>False) hb) id id id id (fun _ _=>id) (fun _ _=>id)
theorem BaseAt.alloc (h:BaseAt w bb bs bm cf gn L) (o:Obj):BaseAt (w.alloc o) bb bs bm cf gn L:=h.below ((Below.refl _ _).alloc (Nat.le_refl _) o)
theorem BaseAt.pts (h:BaseAt w bb bs bm cf gn L):PtsAt w bb bs bm cf.metric cf.dim.toNat L :=
  ⟨h.b3,h.b6,h.s1,h.map,fun e he=>by have:=h.len e he; omega,h.crd⟩
theorem BaseAt.ids (h:BaseAt w bb bs bm cf gn L) {i:Int}:i ∈ gn.lev.map (·.1) ↔ (findE i L).isSome = true:=by
  constructor
  · intro hm
    obtain ⟨t,ht,_⟩:=h.ok.ok.has hm
    rw [h.lv i] at ht
    cases hf:findE i L with
    | none=>rw [hf] at ht; cases ht
    | some e=>rfl
  · intro hs
    obtain ⟨e,he⟩:=Option.isSome_iff_exists.1 hs
    have:=h.lv i
    rw [he] at this
    exact levOf_map this
theorem BaseAt.idsLen (h:BaseAt w bb bs bm cf gn L):gn.lev.length≤60:=by
  have h1:gn.lev.map (·.1) ⊆ L.map (·.id):=fun x hx=>by
    obtain ⟨e,he⟩:=Option.isSome_iff_exists.1 (h.ids.1 hx)
    exact List.mem_map.2 ⟨e,(findE_mem he).1,(findE_mem he).2⟩
  have h2:=List.Nodup.length_le_of_subset h.ok.ok.nod h1
  have:=h.few
  simp at h2
  omega
theorem BaseAt.chLen (h:BaseAt w bb bs bm cf gn L):gn.ch.length≤60:=by
  have h2:=List.Nodup.length_le_of_subset h.ok.ok.chn (fun x hx=>(h.ok.ok.chm x).1 hx)
  have:=h.idsLen
  simp at h2
  omega
end

theorem findE_ins {x:Ent}:∀ {L:List Ent} {i:Int},i ≠ x.id→findE i (insE x L) = findE i L
  | [],i,h=>by
    have h2:¬ x.id = i:=fun e=>h e.symm
    simp [insE,findE,h2]
  | y :: r,i,h=>by
    have h2:¬ x.id = i:=fun e=>h e.symm
    unfold insE
    split
    · simp [findE,h2]
    · split
      · rename_i e
        have h3:¬ y.id = i:=fun e'=>h2 (e.trans e')
        simp [findE,h2,h3]
      · have ih:=findE_ins (x:=x) (L:=r) h
        unfold findE at ih ⊢
        rw [List.find?_cons,List.find?_cons,ih]
theorem findE_ins_self {x:Ent}:∀ {L:List Ent},findE x.id (insE x L) = some x
  | []=>by simp [insE,findE]
  | y :: r=>by
    unfold insE
    split
    · simp [findE]
    · split
      · simp [findE]
      · rename_i h1 h2
        have ih:=findE_ins_self (x:=x) (L:=r)
        have h3:¬ y.id = x.id:=fun e=>h2 e.symm
        unfold findE at ih ⊢
        rw [List.find?_cons]
        simp [h3,ih]
theorem findE_del {id i:Int} (h:i ≠ id):∀ {L:List Ent},findE i (delE id L) = findE i L:=by
  intro L
  unfold findE delE
  rw [List.find?_filter]
  congr 1
  funext e
  by_cases e1:e.id = i
  · simp [e1,h]
  · simp [e1]
theorem findE_del_self {id:Int} {L:List Ent}:findE id (delE id L) = none:=by
  unfold findE delE
  rw [List.find?_filter]
  simp

set_option maxHeartbeats 1000000 in
theorem count15_any (bb bs bm:Nat) (cf:Cf) (gn:Net) (L:List Ent) (w:World) (h:BaseAt w bb bs bm cf gn L) :
    Calls Tryz.prog 19 #[.pointer (some ⟨bb,0,none⟩)] w fun ev w'=>ev = .returned (.int .i64 L.length)∧w = w':=by
  have b6:=h.b6
  go_enter Tryz.func19,Tryz.ntmps19
  go_wp2_with (go_at_call 41; refine (count30_any bs bm L _ h.s1 h.map).mono ?_; rintro ev w' ⟨rfl,rfl⟩)
  go_ret
  exact ⟨rfl,rfl⟩

theorem netDel {w:World} {bb bs bm bc:Nat} {cf:Cf} {gn:Net} {L':List Ent} (hg:GAt w gn.bg gn.F gn.lev gn.lk gn.ch) (hok:NOk cf.links gn.lev gn.lk gn.ch) (hF:∀ k,gn.F k→k < w.heap.size∧k ≠ bb∧k ≠ bs∧k ≠ bm∧k ≠ bc∧∀ e ∈ L',k ≠ e.mb) (hp:PtsAt w bb bs bm cf.metric cf.dim.toNat L') (hc:w.cell? ⟨bc,0,none⟩ = some (.pointer (some ⟨bb,0,none⟩))) (hcf:CfOk cf)
    (id:Int) (hid:I64 id) (hI:∀ x ∈ gn.lev.map (·.1),I64 x) (hll:gn.lev.length≤60) (hin:∀ x ∈ gn.lev.map (·.1),x ≠ id→(findE x L').isSome = true) :
    Calls Tryz.prog 46 #[.agg #[.pointer (some ⟨gn.bg,0,none⟩),.int .i64 cf.links,.int .i64 cf.beam,.func (.func 90) #[] #[.pointer (some ⟨bc,0,none⟩)]],.int .i64 id] w fun ev w'=>ev = .returned (.tuple #[]) ∧
      ∃ F' lk',GAt w' gn.bg F' (levDel id gn.lev) lk' (keepP (fun x=>decide (x = id)) gn.ch)∧NOk cf.links (levDel id gn.lev) lk' (keepP (fun x=>decide (x = id)) gn.ch)∧Kept gn.F w w'∧∀ k,F' k→gn.F k ∨ w.heap.size≤k:=by
  obtain ⟨top,htop⟩:∃ top:Nat,(levOf gn.lev id).getD (-1) + 1 = (top:Int):=by
    cases hv:levOf gn.lev id with
    | none=>exact ⟨0,rfl⟩
    | some t =>
      have:=(hok.ok.lev5 _ (levOf_mem hv)).1
      exact ⟨(t + 1).toNat,by simp only [Option.getD_some]; simp only at this; omega⟩
  have h10:top≤10:=by
    cases hv:levOf gn.lev id with
    | none=>rw [hv] at htop; simp at htop; omega
    | some t =>
      have:=(hok.ok.lev5 _ (levOf_mem hv)).2
      rw [hv] at htop
      simp only [Option.getD_some] at htop
      simp only at this
      omega
  have hnok:=hok.del (ddE cf.metric L') htop
  have hleave:=hok.ok.lg.leave htop
  have h5':∀ p ∈ levDel id gn.lev,0≤p.2∧p.2≤5:=fun p hp=>hok.ok.lev5 p (List.mem_filter.1 hp).1
  have hchl:gn.ch.length≤1000:=by
    have h2:=List.Nodup.length_le_of_subset hok.ok.chn (fun x hx=>(hok.ok.chm x).1 hx)
    simp at h2
    omega
  have hdl:((levDel id gn.lev).map (·.1)).length≤300:=by
    have:(levDel id gn.lev).length≤gn.lev.length:=List.length_filter_le _ _
    simp; omega
  have hd8:=hcf.d8
  refine (del43 gn.bg cf.links cf.beam 90 #[.pointer (some ⟨bc,0,none⟩)] (ddE cf.metric L') gn.F gn.lev gn.lk gn.ch (gn.lev.map (·.1)) ((levDel id gn.lev).map (·.1)) id top w hg (fun k hk=>(hF k hk).1) (hok.ok.lg.inn hok.ok.lev5) (by simp; omega) hI hid hchl htop h10 ⟨by have:=hcf.l2; omega,by have:=hcf.l8; omega⟩ (hleave.inn h5') hdl (fun x hx=>hI x (mem_levDel.1 hx).1) (fun n x hx=>?_) enter86 (fun a ha b hb W hW=>?_)).mono ?_
  · obtain ⟨_,_,t,ht,_⟩:=hok.ok.lg.on hx
    exact mem_levDel.2 ⟨levOf_map ht,fun e=>hok.ok.lg.irr id n (e ▸ hx)⟩
  · have ha':=mem_levDel.1 ha
    have hb':=mem_levDel.1 hb
    have hn:∀ {k:Nat},(k = bb ∨ k = bs ∨ k = bm ∨ k = bc)→¬ gn.F k:=fun {k} e hf=>by have:=hF k hf; omega
    refine weave86 bc bb bs bm cf.metric cf.dim.toNat a b L' W ⟨hW.cell hp.b3 (hn (by omega)),hW.cell hp.b6 (hn (by omega)),hW.cell hp.s1 (hn (by omega)),hp.map.keptS hW (hn (by omega)) (fun e he hf=>(hF _ hf).2.2.2.2.2 e he rfl),hp.len,hp.crd⟩ (hW.cell hc (hn (by omega))) (hI a ha'.1) (hI b hb'.1) (hin a ha'.1 ha'.2) (hin b hb'.1 hb'.2) (by omega)
  · rintro ev w' ⟨rfl,F',hg',hk',hf'⟩
    exact ⟨rfl,F',_,hg',hnok,hk',hf'⟩

theorem netPut {w:World} {bb bs bm bc bg:Nat} {cf:Cf} {F:Nat→Prop} {lev:List (Int × Int)} {lk:Int × Int→List Int} {ch:List Int} {L':List Ent} (hg:GAt w bg F lev lk ch) (hok:NOk cf.links lev lk ch) (hF:∀ k,F k→k < w.heap.size∧k ≠ bb∧k ≠ bs∧k ≠ bm∧k ≠ bc∧∀ e ∈ L',k ≠ e.mb) (hp:PtsAt w bb bs bm cf.metric cf.dim.toNat L') (hc:w.cell? ⟨bc,0,none⟩ = some (.pointer (some ⟨bb,0,none⟩))) (hcf:CfOk cf)
    (id level:Int) (hid:I64 id) (hI:∀ x ∈ lev.map (·.1),I64 x) (hll:lev.length≤60) (hno:levOf lev id = none) (hl:0≤level∧level≤5) (hin:∀ x ∈ lev.map (·.1),(findE x L').isSome = true) (hi2:(findE id L').isSome = true) :
    Calls Tryz.prog 47 #[.agg #[.pointer (some ⟨bg,0,none⟩),.int .i64 cf.links,.int .i64 cf.beam,.func (.func 90) #[] #[.pointer (some ⟨bc,0,none⟩)]],.int .i64 id,.int .i64 level] w fun ev w'=>ev = .returned (.tuple #[]) ∧
      ∃ F' lk',GAt w' bg F' ((id,level) :: lev) lk' (ch ++ [id])∧(NOk cf.links ((id,level) :: lev) lk' (ch ++ [id])∧(lev ≠ []→lk' (id,0) ≠ []))∧Kept F w w'∧∀ k,F' k→F k ∨ w.heap.size≤k:=by
  have hchl:ch.length≤1000:=by
    have h2:=List.Nodup.length_le_of_subset hok.ok.chn (fun x hx=>(hok.ok.chm x).1 hx)
    simp at h2
    omega
  have hd8:=hcf.d8
  have hnok:=hok.put (by have:=hcf.l2; omega) (ddE cf.metric L') (id:=id) (t:=level) (beam:=cf.beam) (N:=(lev.map (·.1)).length) hl hno
  refine (put44 bg cf.links cf.beam 90 #[.pointer (some ⟨bc,0,none⟩)] (ddE cf.metric L') F lev lk ch (lev.map (·.1)) id level w hg (fun k hk=>(hF k hk).1) (hok.ok.lg.inn hok.ok.lev5) (by simp; omega) hI hid hno hok.ok.nb hchl (fun p hp=>⟨(hok.ok.lev5 p hp).1,by have:=(hok.ok.lev5 p hp).2; omega,List.mem_map.2 ⟨p,hp,rfl⟩⟩) (by omega) ⟨hl.1,by omega⟩ (by have:=hcf.b1; omega) ⟨by have:=hcf.l2; omega,by have:=hcf.l8; omega⟩ enter86 (fun a ha b hb W hW=>?_)).mono ?_
  · have hn:∀ {k:Nat},(k = bb ∨ k = bs ∨ k = bm ∨ k = bc)→¬ F k:=fun {k} e hf=>by have:=hF k hf; omega
    have hh:∀ x ∈ id :: lev.map (·.1),I64 x∧(findE x L').isSome = true:=fun x hx=>by
      rcases List.mem_cons.1 hx with rfl | hx
      · exact ⟨hid,hi2⟩
      · exact ⟨hI x hx,hin x hx⟩
    exact weave86 bc bb bs bm cf.metric cf.dim.toNat a b L' W ⟨hW.cell hp.b3 (hn (by omega)),hW.cell hp.b6 (hn (by omega)),hW.cell hp.s1 (hn (by omega)),hp.map.keptS hW (hn (by omega)) (fun e he hf=>(hF _ hf).2.2.2.2.2 e he rfl),hp.len,hp.crd⟩ (hW.cell hc (hn (by omega))) (hh a ha).1 (hh b hb).1 (hh a ha).2 (hh b hb).2 (by omega)
  · rintro ev w' ⟨rfl,F',hg',hk',hf'⟩
    refine ⟨rfl,F',_,hg',⟨hnok,fun hne=>?_⟩,hk',hf'⟩
    have hs:=nearF_some (dd:=ddE cf.metric L' id) (beam:=cf.beam) (by have:=hcf.b1; omega) (lk:=lk) (ch:=ch) (N:=(lev.map (·.1)).length) hl.1 (fun p hp=>(hok.ok.lev5 p hp).1) hne
    exact putM_has (by have:=hcf.l2; omega) _ hs.2 _ hs.1
end
section
open Go.RowKit Go.Maps

set_option maxHeartbeats 1000000 in
theorem delete16_no (bb bs bm:Nat) (cf:Cf) (gn:Net) (id:Int) (L:List Ent) (w:World) (hid:I64 id) (h:BaseAt w bb bs bm cf gn L) (he:findE id L = none) :
    Calls Tryz.prog 24 #[.pointer (some ⟨bb,0,none⟩),.int .i64 id] w fun ev w'=>ev = .returned (.int .i64 5)∧Below w.heap.size w w':=by
  have b6:=h.b6
  have H:=hide h
  clear h
  go_enter Tryz.func24,Tryz.ntmps24
  go_wp2_with fail
  refine (delete31_no bs bm id L _ hid H.out.s1 H.out.map he).mono ?_
  rintro ev w1 ⟨⟨s,rfl⟩,hb⟩
  go_wp2_with fail
  refine (errno_one s id 5 _ (H.out.hdl.below hb)).mono ?_
  rintro ev w2 ⟨rfl,hb2⟩
  go_wp2
  go_ret
  exact ⟨rfl,hb.trans (hb2.mono hb.size)⟩

theorem BaseAt.mapTurned {w w':World} {bb bs bm:Nat} {cf:Cf} {gn:Net} {L:List Ent} (h:BaseAt w bb bs bm cf gn L) (hk:Kept (fun k=>k = bm) w w') :
    (w'.cell? ⟨bb,2,none⟩ = some (.int .i64 cf.links)∧w'.cell? ⟨bb,4,none⟩ = some (.int .i64 cf.beam)∧w'.cell? ⟨bb,7,none⟩ = some (.pointer (some ⟨gn.bg,0,none⟩)))∧GAt w' gn.bg gn.F gn.lev gn.lk gn.ch :=
  ⟨⟨hk.cell h.b2 (h.map.cell_ne h.b2),hk.cell h.b4 (h.map.cell_ne h.b4),hk.cell h.b7 (h.map.cell_ne h.b7)⟩,h.g.kept hk (fun k hf e=>(h.foot k hf).2.2.2.2.1 e)⟩

theorem BaseAt.again {w w':World} {bb bs bm:Nat} {cf:Cf} {gn gn':Net} {L L':List Ent} (h:BaseAt w bb bs bm cf gn L) (hk:Kept (fun k=>k = bm ∨ gn.F k) w w') (hm:MapAt w' bm L') (hg:GAt w' gn'.bg gn'.F gn'.lev gn'.lk gn'.ch) (hok:NOk cf.links gn'.lev gn'.lk gn'.ch)
    (hbg:gn'.bg = gn.bg) (hlo:gn'.looks = gn.looks) (hlv:∀ i,levOf gn'.lev i = (findE i L').map fun e=>lvlOf cf e.draw) (hfew:L'.length≤60) (hx:∀ e ∈ L',I64 e.id∧(e.pt.length:Int) = cf.dim∧∀ x ∈ e.pt,Crd x) (hdw:∀ e ∈ L',0≤e.draw∧e.draw < 18446744073709551616) (hf:∀ k,gn'.F k→k < w'.heap.size∧(gn.F k ∨ w.heap.size≤k)∧∀ e ∈ L',k ≠ e.mb):BaseAt w' bb bs bm cf gn' L':=by
  have n1:¬ (bb = bm ∨ gn.F bb):=fun e=>e.elim (h.map.cell_ne h.b0) (fun e=>(h.foot _ e).2.2.1 rfl)
  have n2:¬ (bs = bm ∨ gn.F bs):=fun e=>e.elim (h.map.cell_ne h.s0) (fun e=>(h.foot _ e).2.2.2.1 rfl)
  have n3:¬ (0 = bm ∨ gn.F 0):=fun e=>e.elim (h.map.cell_ne h.hdl) (fun e=>(h.foot _ e).2.1 rfl)
  have l1:=block_lt_of_cell h.b0
  have l2:=block_lt_of_cell h.s0
  have l3:=h.hdl.lt
  have l4:=h.map.lt
  simp only at l1 l2
  refine ⟨hk.cell h.b0 n1,hk.cell h.b2 n1,hk.cell h.b3 n1,hk.cell h.b4 n1,hk.cell h.b5 n1,hk.cell h.b6 n1,by rw [hbg]; exact hk.cell h.b7 n1,by rw [hlo]; exact hk.cell h.b8 n1,hk.cell h.s0 n2,hk.cell h.s1 n2,hm,h.hdl.kept hk n3,hg,hok,hlv,hfew,fun e he=>(hx e he).1,fun e he=>(hx e he).2.1,fun e he=>(hx e he).2.2,hdw,fun k hk'=>?_,h.cfok⟩
  obtain ⟨h1,h2,h3⟩:=hf k hk'
  rcases h2 with h2 | h2
  · obtain ⟨_,q1,q2,q3,q4,_⟩:=h.foot k h2
    exact ⟨h1,q1,q2,q3,q4,h3⟩
  · exact ⟨h1,by omega,by omega,by omega,by omega,h3⟩

set_option maxHeartbeats 2000000 in
theorem delete16_yes (bb bs bm:Nat) (cf:Cf) (gn:Net) (id:Int) (L:List Ent) (e:Ent) (w:World) (hid:I64 id) (h:BaseAt w bb bs bm cf gn L) (he:findE id L = some e) :
    Calls Tryz.prog 24 #[.pointer (some ⟨bb,0,none⟩),.int .i64 id] w fun ev w'=>ev = .returned (.int .i64 0)∧∃ gn',BaseAt w' bb bs bm cf gn' (delE id L)∧Kept (fun k=>k = bm ∨ gn.F k) w w'∧(∀ k,gn'.F k→gn.F k ∨ w.heap.size≤k)∧gn.like gn':=by
  have b6:=h.b6
  have H:=hide h
  have hst:=delete31_yes bs bm id L e w hid h.s1 h.map he
  have HST:=hide hst
  clear h hst
  go_enter Tryz.func24,Tryz.ntmps24
  go_wp2_with fail
  refine HST.out.mono ?_
  rintro ev w1 ⟨rfl,hm1,hk1⟩
  obtain ⟨⟨c2,c4,c7⟩,hg1⟩:=H.out.mapTurned hk1
  have hwv:=weave42 bb gn.bg cf.links cf.beam w1 c2 c4 c7
  have HWV:=hide hwv
  have HM1:=hide hm1
  have HK1:=hide hk1
  have HG1:=hide hg1
  clear hwv hm1 hk1 hg1 c2 c4 c7 HST b6
  go_wp2_with fail
  refine HWV.out.mono ?_
  rintro ev w2 ⟨rfl,hc2,hb2⟩
  have hF:∀ k,gn.F k→k < w2.heap.size∧k ≠ bb∧k ≠ bs∧k ≠ bm∧k ≠ w1.heap.size∧∀ e ∈ delE id L,k ≠ e.mb:=fun k hf=>by
    obtain ⟨q0,_,q2,q3,q4,q5⟩:=H.out.foot k hf
    have:=HK1.out.size
    have:=hb2.size
    exact ⟨by omega,q2,q3,q4,by omega,fun e he=>q5 e (mem_delE he)⟩
  have hp2:PtsAt w2 bb bs bm cf.metric cf.dim.toNat (delE id L):=by
    have hp:PtsAt w1 bb bs bm cf.metric cf.dim.toNat (delE id L):=⟨HK1.out.cell H.out.b3 (H.out.map.cell_ne H.out.b3),HK1.out.cell H.out.b6 (H.out.map.cell_ne H.out.b6),HK1.out.cell H.out.s1 (H.out.map.cell_ne H.out.s1),HM1.out,fun e he=>H.out.pts.len e (mem_delE he),fun e he=>H.out.crd e (mem_delE he)⟩
    exact hp.below hb2
  have hdel:=netDel (w:=w2) (bb:=bb) (bs:=bs) (bm:=bm) (bc:=w1.heap.size) (cf:=cf) (gn:=gn) (L':=delE id L) (HG1.out.below hb2) H.out.ok hF hp2 hc2 H.out.cfok id hid (fun x hx=>by
      obtain ⟨e,he⟩:=Option.isSome_iff_exists.1 (H.out.ids.1 hx)
      rw [← (findE_mem he).2]
      exact H.out.ints e (findE_mem he).1) H.out.idsLen (fun x hx hne=>by rw [findE_del hne]; exact H.out.ids.1 hx)
  have HDEL:=hide hdel
  have HB2:=hide hb2
  clear hdel hp2 hF hb2 hc2 HWV
  go_wp2_with fail
  refine HDEL.out.mono ?_
  rintro ev w3 ⟨rfl,F',lk',hg3,hok3,hk3,hf3⟩
  have H3:=hide hg3
  have HO3:=hide hok3
  have HK3:=hide hk3
  have HF3:=hide hf3
  clear hg3 hok3 hk3 hf3 HDEL
  go_wp2
  go_ret
  have hsz1:=HK1.out.size
  have hsz2:=HB2.out.size
  have hk13:Kept (fun k=>k = bm ∨ gn.F k) w w3:=(((HK1.out.mono (fun _ _ e=>.inl e)).below HB2.out).trans HK3.out (fun _ _ e=>.inr e))
  have hm3:MapAt w3 bm (delE id L):=(HM1.out.below HB2.out).keptS HK3.out (fun e=>(H.out.foot _ e).2.2.2.2.1 rfl) (fun e he hf=>(H.out.foot _ hf).2.2.2.2.2 e (mem_delE he) rfl)
  refine ⟨rfl,⟨gn.bg,fun k=>F' k∧k < w3.heap.size,levDel id gn.lev,lk',keepP (fun x=>decide (x = id)) gn.ch,gn.looks,gn.ex,gn.lows,gn.lst,gn.pt⟩,H.out.again hk13 hm3 H3.out.tight HO3.out rfl rfl (fun i=>?_) ?_ (fun e he=>⟨H.out.ints e (mem_delE he),H.out.len e (mem_delE he),H.out.crd e (mem_delE he)⟩) (fun e he=>H.out.drw e (mem_delE he)) (fun k hk=>⟨hk.2,(HF3.out k hk.1).imp (fun e=>e) (fun e=>by omega),fun e he=>?_⟩),hk13,fun k hk=>(HF3.out k hk.1).imp (fun e=>e) (fun e=>by omega),rfl,rfl,rfl,rfl,rfl⟩
  · by_cases hi:i = id
    · subst hi
      rw [levOf_levDel_self,findE_del_self]; rfl
    · rw [levOf_levDel_ne hi,findE_del hi]; exact H.out.lv i
  · have:(delE id L).length≤L.length:=List.length_filter_le _ _
    have:=H.out.few
    omega
  · rcases HF3.out k hk.1 with e1 | e1
    · exact (H.out.foot k e1).2.2.2.2.2 e (mem_delE he)
    · have:=H.out.map.plt e (mem_delE he)
      omega
end
section
open Go.RowKit Go.Maps

set_option maxHeartbeats 1000000 in
theorem put13_bad (bb bs bm:Nat) (cf:Cf) (gn:Net) (id t0 t1 draw:Int) (xs:List Int) (v:Value) (L:List Ent) (w:World) (h:BaseAt w bb bs bm cf gn L) (r:Int) (hr:ptCode cf.dim xs = r) (hbad:r ≠ 0) (hvl:∀ o,IntsAt (w.alloc o) v xs) :
    Calls Tryz.prog 21 #[.pointer (some ⟨bb,0,none⟩),.int .i64 id,v,.agg #[.int .i64 t0,.int .i64 t1],.int .u64 draw] w fun ev w'=>ev = .returned (.int .i64 r)∧Below w.heap.size w w':=by
  have b0:=h.b0
  have hbb:=block_lt_of_cell b0
  have HR:=hide hr
  have H:=hide h
  clear hr h
  go_enter Tryz.func21,Tryz.ntmps21
  go_wp2_with fail
  refine (point27_any xs v cf.dim _ (hvl _)).mono ?_
  rintro ev w1 ⟨⟨x,rfl,hx⟩,hb1⟩
  rw [HR.out] at hx
  have hbw:Below w.heap.size w w1:=((Below.refl _ _).alloc (Nat.le_refl _) _).trans (hb1.mono (by simp))
  rcases hx with ⟨h0,_⟩ | ⟨_,⟨s,n,rfl⟩ | ⟨s,n,s2,n2,rfl⟩⟩
  · exact absurd h0 hbad
  · go_wp2_with fail
    refine (errno_one s n r _ (H.out.hdl.below hbw)).mono ?_
    rintro ev w2 ⟨rfl,hb2⟩
    go_wp2
    go_ret
    exact ⟨rfl,hbw.trans (hb2.mono hbw.size)⟩
  · go_wp2_with fail
    refine (errno_two s s2 n n2 r _ (H.out.hdl.below hbw)).mono ?_
    rintro ev w2 ⟨rfl,hb2⟩
    go_wp2
    go_ret
    exact ⟨rfl,hbw.trans (hb2.mono hbw.size)⟩

set_option maxHeartbeats 2000000 in
theorem put13_full (bb bs bm:Nat) (cf:Cf) (gn:Net) (id t0 t1 draw:Int) (xs:List Int) (a:Option Addr) (pn pc:Nat) (L:List Ent) (w:World) (hid:I64 id) (h:BaseAt w bb bs bm cf gn L) (hr:ptCode cf.dim xs = 0) (hvl:∀ o,IntsAt (w.alloc o) (.slice a pn pc) xs)
    (he:findE id L = none) (hfull:cf.cap≤L.length) :
    Calls Tryz.prog 21 #[.pointer (some ⟨bb,0,none⟩),.int .i64 id,.slice a pn pc,.agg #[.int .i64 t0,.int .i64 t1],.int .u64 draw] w fun ev w'=>ev = .returned (.int .i64 4)∧Below w.heap.size w w':=by
  have b0:=h.b0
  have hbb:=block_lt_of_cell b0
  have HR:=hide hr
  have H:=hide h
  clear hr h
  go_enter Tryz.func21,Tryz.ntmps21
  go_wp2_with fail
  refine (point27_any xs (.slice a pn pc) cf.dim _ (hvl _)).mono ?_
  rintro ev w1 ⟨⟨x,rfl,hx⟩,hb1⟩
  rw [HR.out] at hx
  have hbw:Below w.heap.size w w1:=((Below.refl _ _).alloc (Nat.le_refl _) _).trans (hb1.mono (by simp))
  rcases hx with ⟨_,rfl⟩ | ⟨h0,_⟩
  · have k0:w1.cell? ⟨w.heap.size,0,none⟩ = some (.int .i64 t0):=Below.at hb1 (by simp) (by simp)
    have k1:w1.cell? ⟨w.heap.size,1,none⟩ = some (.int .i64 t1):=Below.at hb1 (by simp) (by simp)
    have h1:=H.out.below hbw
    have b6:=h1.b6
    have HB:=hide hbw
    have H1:=hide h1
    clear b0 hbw hb1 h1
    go_wp2
    go_region_held3 (fun wx=>wx.cell? ⟨bb,6,none⟩ = some (.pointer (some ⟨bs,0,none⟩))∧wx.cell? ⟨w.heap.size,0,none⟩ = some (.int .i64 t0)∧wx.cell? ⟨w.heap.size,1,none⟩ = some (.int .i64 t1))
      (first | (exact ⟨b6,k0,k1⟩) | (exact ⟨Below.at hb2 b6 (block_lt_of_cell b6),Below.at hb2 k0 (block_lt_of_cell k0),Below.at hb2 k1 (block_lt_of_cell k1)⟩))
      (first
        | (go_at_call 44; refine (put28_full bs bm id t0 t1 _ a pn pc rfl L _ hid cf.cap ?_ ?_ ?_ he hfull).mono ?_; (exact H1.out.s0); (exact H1.out.s1); (exact H1.out.map.below (Below.refl _ _).drew); rintro ev2 w2 ⟨⟨s,rfl⟩,hb2d⟩; have hb2:=Below.undrew hb2d))
    go_wp2_with fail
    refine (errno_one s id 4 _ (H1.out.hdl.below hb2)).mono ?_
    rintro ev3 w3 ⟨rfl,hb3⟩
    go_wp2
    go_ret
    have hb23:=hb2.trans (hb3.mono hb2.size)
    exact ⟨rfl,HB.out.trans (hb23.mono HB.out.size)⟩
  · exact absurd rfl h0

theorem ptCode_crd {dim:Int} {xs:List Int} (h:ptCode dim xs = 0):(xs.length:Int) = dim∧∀ x ∈ xs,Crd x:=by
  unfold ptCode at h
  split at h
  · rename_i e
    split at h
    · rename_i ha
      refine ⟨e,fun x hx=>?_⟩
      have:=List.all_eq_true.1 ha x hx
      simp only [coordB,inB,Bool.and_eq_true,decide_eq_true_eq] at this
      exact ⟨by omega,by omega⟩
    · cases h
  · cases h

set_option maxHeartbeats 4000000 in
set_option maxRecDepth 20000 in
theorem put13_ok (bb bs bm:Nat) (cf:Cf) (gn:Net) (id t0 t1:Int) (draw:Nat) (xs:List Int) (b off pc:Nat) (L:List Ent) (w:World) (hid:I64 id) (hdr:draw < 18446744073709551616) (h:BaseAt w bb bs bm cf gn L) (hr:ptCode cf.dim xs = 0) (hvl:∀ o,IntsAt (w.alloc o) (.slice (some ⟨b,off,none⟩) xs.length pc) xs)
    (hroom:Room cf.cap id L) (h0:0 < xs.length) (h8:xs.length≤8) (hc:∀ i,i < xs.length→w.cell? ⟨b,off + i,none⟩ = some (.int .i64 (xs.getD i 0))) :
    Calls Tryz.prog 21 #[.pointer (some ⟨bb,0,none⟩),.int .i64 id,.slice (some ⟨b,off,none⟩) xs.length pc,.agg #[.int .i64 t0,.int .i64 t1],.int .u64 draw] w fun ev w'=>ev = .returned (.int .i64 0) ∧
      ∃ g gc gn',w.heap.size≤g∧(∀ rb rc,BaseAt w' bb bs bm cf gn' (insE ⟨id,xs,t0,t1,draw,g,gc,rb,rc⟩ L))∧Kept (fun k=>k = bm ∨ gn.F k) w w'∧(∀ k,gn'.F k→gn.F k ∨ w.heap.size≤k)∧gn.like gn'∧(1 < gn'.lev.length→gn'.lk (id,0) ≠ []):=by
  have b0:=h.b0
  have hbb:=block_lt_of_cell b0
  have hbx:=block_lt_of_cell (hc 0 h0)
  have HR:=hide hr
  have HC:=hide hc
  have HDW:Hid ((0:Int)≤(draw:Int)∧(draw:Int) < 18446744073709551616):=by show _∧_; omega
  have H:=hide h
  have hL:=h.few
  clear hr hc h
  go_enter Tryz.func21,Tryz.ntmps21
  go_wp2_with fail
  refine (point27_any xs (.slice (some ⟨b,off,none⟩) xs.length pc) cf.dim _ (hvl _)).mono ?_
  rintro ev w1 ⟨⟨x,rfl,hx⟩,hb1⟩
  rw [HR.out] at hx
  have hbw:Below w.heap.size w w1:=((Below.refl _ _).alloc (Nat.le_refl _) _).trans (hb1.mono (by simp))
  rcases hx with ⟨_,rfl⟩ | ⟨h0,_⟩
  rotate_left
  · exact absurd rfl h0
  have k0:w1.cell? ⟨w.heap.size,0,none⟩ = some (.int .i64 t0):=Below.at hb1 (by simp) (by simp)
  have k1:w1.cell? ⟨w.heap.size,1,none⟩ = some (.int .i64 t1):=Below.at hb1 (by simp) (by simp)
  have h1:=H.out.below hbw
  have b6:=h1.b6
  have HC1:Hid (∀ i,i < xs.length→w1.cell? ⟨b,off + i,none⟩ = some (.int .i64 (xs.getD i 0))):=fun i hi=>Below.at hbw (HC.out i hi) hbx
  have HB:=hide hbw
  have H1:=hide h1
  clear b0 hbw hb1 h1 HC
  go_wp2
  go_region_held3 (fun wx=>wx.cell? ⟨bb,6,none⟩ = some (.pointer (some ⟨bs,0,none⟩))∧wx.cell? ⟨w.heap.size,0,none⟩ = some (.int .i64 t0)∧wx.cell? ⟨w.heap.size,1,none⟩ = some (.int .i64 t1))
    (first | (exact ⟨b6,k0,k1⟩) | (exact ⟨hk2.cell b6 (H1.out.map.cell_ne b6),hk2.cell k0 (H1.out.map.cell_ne k0),hk2.cell k1 (H1.out.map.cell_ne k1)⟩))
    (first
      | (go_at_call 44; refine (put28_ok bs bm id t0 t1 xs b off pc L _ hid cf.cap ?_ ?_ ?_ hroom hL h0 h8 ?_).mono ?_; (exact H1.out.s0); (exact H1.out.s1); (exact H1.out.map.below (Below.refl _ _).drew); (exact HC1.out); rintro ev2 w2 ⟨rfl,g,gc,hg,hm2,hk2d⟩; have hk2:Kept (fun k=>k = bm) w1 w2:=(Kept.refl _ w1).drew.trans hk2d (fun _ _ h=>h)))
  obtain ⟨⟨c2,c4,c7⟩,hg2⟩:=H1.out.mapTurned hk2
  have hwv:=weave42 bb gn.bg cf.links cf.beam w2 c2 c4 c7
  have HWV:=hide hwv
  have HM2:=hide hm2
  have HK2:=hide hk2
  have HG2:=hide hg2
  have HG:=hide hg
  clear hwv hm2 hk2 hk2d hg2 c2 c4 c7 b6 k0 k1 hg
  go_wp2_with fail
  refine HWV.out.mono ?_
  rintro ev w3 ⟨rfl,hc3,hb3⟩
  have hsz1:=HB.out.size
  have hsz2:=HK2.out.size
  have hsz3:=hb3.size
  have hgw:w1.heap.size≤g:=HG.out
  have hbx4:Below w3.heap.size w3 (w3.alloc (.cells #[.pointer (some ⟨gn.bg,0,none⟩),.int .i64 cf.links,.int .i64 cf.beam,.func (.func 90) #[] #[.pointer (some ⟨w2.heap.size,0,none⟩)]] 109)):=(Below.refl _ _).alloc (Nat.le_refl _) _
  have hb4:Below w2.heap.size w2 (w3.alloc (.cells #[.pointer (some ⟨gn.bg,0,none⟩),.int .i64 cf.links,.int .i64 cf.beam,.func (.func 90) #[] #[.pointer (some ⟨w2.heap.size,0,none⟩)]] 109)):=hb3.trans (hbx4.mono hsz3)
  have hx4:(w3.alloc (.cells #[.pointer (some ⟨gn.bg,0,none⟩),.int .i64 cf.links,.int .i64 cf.beam,.func (.func 90) #[] #[.pointer (some ⟨w2.heap.size,0,none⟩)]] 109)).heap[w3.heap.size]? = some (.cells #[.pointer (some ⟨gn.bg,0,none⟩),.int .i64 cf.links,.int .i64 cf.beam,.func (.func 90) #[] #[.pointer (some ⟨w2.heap.size,0,none⟩)]] 109 (0,0)):=heap_alloc_new _ _
  have hc4:=cell_below hc3 hbx4
  have hcr:=ptCode_crd HR.out
  have hmem:∀ e ∈ insE ⟨id,xs,t0,t1,draw,g,gc,0,0⟩ L,(e.mb = g ∨ e ∈ L)∧I64 e.id∧(e.pt.length:Int) = cf.dim∧∀ x ∈ e.pt,Crd x:=fun e he=>by
    rcases mem_insE he with rfl | he
    · exact ⟨.inl rfl,hid,hcr.1,hcr.2⟩
    · exact ⟨.inr he,H.out.ints e he,H.out.len e he,H.out.crd e he⟩
  have hp4:PtsAt (w3.alloc (.cells #[.pointer (some ⟨gn.bg,0,none⟩),.int .i64 cf.links,.int .i64 cf.beam,.func (.func 90) #[] #[.pointer (some ⟨w2.heap.size,0,none⟩)]] 109)) bb bs bm cf.metric cf.dim.toNat (insE ⟨id,xs,t0,t1,draw,g,gc,0,0⟩ L):=by
    have hp:PtsAt w2 bb bs bm cf.metric cf.dim.toNat (insE ⟨id,xs,t0,t1,draw,g,gc,0,0⟩ L):=⟨HK2.out.cell H1.out.b3 (H1.out.map.cell_ne H1.out.b3),HK2.out.cell H1.out.b6 (H1.out.map.cell_ne H1.out.b6),HK2.out.cell H1.out.s1 (H1.out.map.cell_ne H1.out.s1),HM2.out draw 0 0,fun e he=>by have:=(hmem e he).2.2.1; omega,fun e he=>(hmem e he).2.2.2⟩
    exact hp.below hb4
  have hF4:∀ k,gn.F k→k < (w3.alloc (.cells #[.pointer (some ⟨gn.bg,0,none⟩),.int .i64 cf.links,.int .i64 cf.beam,.func (.func 90) #[] #[.pointer (some ⟨w2.heap.size,0,none⟩)]] 109)).heap.size∧k ≠ bb∧k ≠ bs∧k ≠ bm∧k ≠ w2.heap.size∧∀ e ∈ insE ⟨id,xs,t0,t1,draw,g,gc,0,0⟩ L,k ≠ e.mb:=fun k hf=>by
    obtain ⟨q0,_,q2,q3,q4,q5⟩:=H.out.foot k hf
    have:=hb4.size
    refine ⟨by omega,q2,q3,q4,by omega,fun e he=>?_⟩
    rcases (hmem e he).1 with e1 | e1
    · omega
    · exact q5 e e1
  have hII:∀ x ∈ gn.lev.map (·.1),I64 x:=fun x hx=>by
    obtain ⟨e,he⟩:=Option.isSome_iff_exists.1 (H.out.ids.1 hx)
    rw [← (findE_mem he).2]
    exact H.out.ints e (findE_mem he).1
  have hin4:∀ x ∈ gn.lev.map (·.1),x ≠ id→(findE x (insE ⟨id,xs,t0,t1,draw,g,gc,0,0⟩ L)).isSome = true:=fun x hx hne=>by rw [findE_ins hne]; exact H.out.ids.1 hx
  have hdel:=netDel (bb:=bb) (bs:=bs) (bm:=bm) (bc:=w2.heap.size) (cf:=cf) (gn:=gn) (HG2.out.below hb4) H.out.ok hF4 hp4 hc4 H.out.cfok id hid hII H.out.idsLen hin4
  have HDEL:=hide hdel
  have HP4:=hide hp4
  have HF4:=hide hF4
  have HII:=hide hII
  have HIN4:=hide hin4
  have HMEM:=hide hmem
  have HB4:=hide hb4
  have HX4:=hide hx4
  have HC4:=hide hc4
  clear hdel hp4 hF4 hII hin4 hmem hb4 hx4 hc4 hbx4 hb3 hc3 HWV hcr
  go_wp2_with fail
  generalize hwe:w3.alloc (.cells #[.pointer (some ⟨gn.bg,0,none⟩),.int .i64 cf.links,.int .i64 cf.beam,.func (.func 90) #[] #[.pointer (some ⟨w2.heap.size,0,none⟩)]] 109) = w4 at HDEL HP4 HF4 HB4 HX4 HC4 ⊢
  clear hwe
  refine HDEL.out.mono ?_
  rintro ev w5 ⟨rfl,F5,lk5,hg5,hok5,hk5,hf5⟩
  have hn4:∀ k,w.heap.size≤k→¬ gn.F k:=fun k h1 h2=>by have:=(H.out.foot k h2).1; omega
  have hnb:∀ k,k = bb ∨ k = bs ∨ k = bm→¬ gn.F k:=fun k h1 h2=>by have:=HF4.out k h2; omega
  have hx5:=(hk5.block _ (heap_lt HX4.out) (hn4 _ (by omega))).trans HX4.out
  have hz4:=HB4.out.size
  have hz5:=hk5.size
  have hp5:PtsAt w5 bb bs bm cf.metric cf.dim.toNat (insE ⟨id,xs,t0,t1,draw,g,gc,0,0⟩ L):=⟨hk5.cell HP4.out.b3 (hnb _ (.inl rfl)),hk5.cell HP4.out.b6 (hnb _ (.inl rfl)),hk5.cell HP4.out.s1 (hnb _ (.inr (.inl rfl))),HP4.out.map.keptS hk5 (hnb _ (.inr (.inr rfl))) (fun e he hf=>(HF4.out _ hf).2.2.2.2.2 e he rfl),HP4.out.len,HP4.out.crd⟩
  have hc5:=hk5.cell HC4.out (hn4 _ (by omega))
  have hF5:∀ k,F5 k∧k < w5.heap.size→k < w5.heap.size∧k ≠ bb∧k ≠ bs∧k ≠ bm∧k ≠ w2.heap.size∧∀ e ∈ insE ⟨id,xs,t0,t1,draw,g,gc,0,0⟩ L,k ≠ e.mb:=fun k hk=>by
    have l1:=block_lt_of_cell HP4.out.b3
    have l2:=block_lt_of_cell HP4.out.s1
    have l3:=HP4.out.map.lt
    have l4:=block_lt_of_cell HC4.out
    simp only at l1 l2 l4
    rcases hf5 k hk.1 with e | e
    · exact ⟨hk.2,(HF4.out k e).2⟩
    · exact ⟨hk.2,by omega,by omega,by omega,by omega,fun e' he'=>by have:=HP4.out.map.plt e' he'; omega⟩
  have hlv0:=lvlOf_le H.out.cfok (draw:Int)
  have hlvl:Calls Tryz.prog 48 #[.int .u64 draw,.int .i64 cf.links,.int .i64 cf.top] w5.drew fun e w'=>e = .returned (.int .i64 (lvlOf cf draw))∧w5.drew = w':=by
    have:=levelOf45 draw cf.links.toNat cf.top.toNat hdr (by have:=H.out.cfok.l8; omega) (by have:=H.out.cfok.t5; omega) w5.drew
    rw [Int.toNat_of_nonneg (by have:=H.out.cfok.l2; omega),Int.toNat_of_nonneg H.out.cfok.t0] at this
    exact this
  have hput:=netPut (w:=w5.drew) (bb:=bb) (bs:=bs) (bm:=bm) (bc:=w2.heap.size) (bg:=gn.bg) (cf:=cf) (F:=fun k=>F5 k∧k < w5.heap.size) (lk:=lk5) (hg5.tight.below (Below.refl _ _).drew) hok5 hF5 (hp5.drew) hc5 H.out.cfok id (lvlOf cf draw) hid (fun x hx=>HII.out x (mem_levDel.1 hx).1) (by have:(levDel id gn.lev).length≤gn.lev.length:=List.length_filter_le _ _; have:=H.out.idsLen; omega) levOf_levDel_self hlv0 (fun x hx=>HIN4.out x (mem_levDel.1 hx).1 (mem_levDel.1 hx).2) (by rw [show id = (⟨id,xs,t0,t1,draw,g,gc,0,0⟩:Ent).id from rfl,findE_ins_self]; rfl)
  have hb25:w5.cell? ⟨bb,2,none⟩ = some (.int .i64 cf.links):=hk5.cell (cell_below (HK2.out.cell H1.out.b2 (H1.out.map.cell_ne H1.out.b2)) HB4.out) (hnb _ (.inl rfl))
  have hb55:w5.cell? ⟨bb,5,none⟩ = some (.int .i64 cf.top):=hk5.cell (cell_below (HK2.out.cell H1.out.b5 (H1.out.map.cell_ne H1.out.b5)) HB4.out) (hnb _ (.inl rfl))
  have hS:w5.cell? ⟨w3.heap.size,0,none⟩ = some (.pointer (some ⟨gn.bg,0,none⟩))∧w5.cell? ⟨w3.heap.size,1,none⟩ = some (.int .i64 cf.links)∧w5.cell? ⟨w3.heap.size,2,none⟩ = some (.int .i64 cf.beam)∧w5.cell? ⟨w3.heap.size,3,none⟩ = some (.func (.func 90) #[] #[.pointer (some ⟨w2.heap.size,0,none⟩)])∧w5.cell? ⟨bb,2,none⟩ = some (.int .i64 cf.links)∧w5.cell? ⟨bb,5,none⟩ = some (.int .i64 cf.top):=⟨cells_at hx5 0 rfl,cells_at hx5 1 rfl,cells_at hx5 2 rfl,cells_at hx5 3 rfl,hb25,hb55⟩
  have HS:=hide hS
  have HLVL:=hide hlvl
  have HPUT:=hide hput
  have HF5:=hide hf5
  have HF5':=hide hF5
  have HK5:=hide hk5
  have HP5:=hide hp5
  have HX5:=hide hx5
  clear hS hlvl hput hf5 hF5 hk5 hp5 hx5 hg5 hok5 hb25 hb55 hc5 hlv0 HDEL hn4 hnb
  have HSD:Hid (w5.drew.cell? ⟨w3.heap.size,0,none⟩ = some (.pointer (some ⟨gn.bg,0,none⟩))∧w5.drew.cell? ⟨w3.heap.size,1,none⟩ = some (.int .i64 cf.links)∧w5.drew.cell? ⟨w3.heap.size,2,none⟩ = some (.int .i64 cf.beam)∧w5.drew.cell? ⟨w3.heap.size,3,none⟩ = some (.func (.func 90) #[] #[.pointer (some ⟨w2.heap.size,0,none⟩)])∧w5.drew.cell? ⟨bb,2,none⟩ = some (.int .i64 cf.links)∧w5.drew.cell? ⟨bb,5,none⟩ = some (.int .i64 cf.top)):=HS.out
  have HN6:Hid (¬ (F5 w3.heap.size∧w3.heap.size < w5.heap.size)∧¬ (F5 bb∧bb < w5.heap.size)):=⟨fun e=>(HF5.out _ e.1).elim (fun e=>by have:=(H.out.foot _ e).1; omega) (fun e=>by have:=heap_lt HX4.out; omega),fun e=>(HF5'.out _ e).2.1 rfl⟩
  go_wp2
  go_region_held3 (fun wx=>wx.cell? ⟨w3.heap.size,0,none⟩ = some (.pointer (some ⟨gn.bg,0,none⟩))∧wx.cell? ⟨w3.heap.size,1,none⟩ = some (.int .i64 cf.links)∧wx.cell? ⟨w3.heap.size,2,none⟩ = some (.int .i64 cf.beam)∧wx.cell? ⟨w3.heap.size,3,none⟩ = some (.func (.func 90) #[] #[.pointer (some ⟨w2.heap.size,0,none⟩)])∧wx.cell? ⟨bb,2,none⟩ = some (.int .i64 cf.links)∧wx.cell? ⟨bb,5,none⟩ = some (.int .i64 cf.top))
    ((first | with_reducible exact HS6.out | with_reducible exact HSD.out))
    (first
      | (go_at_call 48; refine HLVL.out.mono ?_; rintro e6 w6 ⟨rfl,rfl⟩)
      | (go_at_call 47; refine HPUT.out.mono ?_; rintro e7 w7 ⟨rfl,F7,lk7,hg7,hok7,hk7,hf7⟩; have HS6:=hide (And.intro (hk7.cell HSD.out.1 HN6.out.1) (And.intro (hk7.cell HSD.out.2.1 HN6.out.1) (And.intro (hk7.cell HSD.out.2.2.1 HN6.out.1) (And.intro (hk7.cell HSD.out.2.2.2.1 HN6.out.1) (And.intro (hk7.cell HSD.out.2.2.2.2.1 HN6.out.2) (hk7.cell HSD.out.2.2.2.2.2 HN6.out.2))))))))
  have HG7:=hide hg7
  have HO7:=hide hok7
  have HK7:=hide hk7
  have HF7:=hide hf7
  clear hg7 hok7 hk7 hf7 HS6 HSD HPUT HLVL HS
  go_wp2
  go_ret
  have hz7:w5.heap.size≤w7.heap.size:=HK7.out.size
  have hn5:∀ k,k < w.heap.size→F5 k∧k < w5.heap.size→gn.F k:=fun k h1 h2=>(HF5.out k h2.1).elim (fun e=>e) (fun e=>by omega)
  have hk57:Kept (fun k=>F5 k∧k < w5.heap.size) w5 w7:=(Kept.refl _ w5).drew.trans HK7.out (fun _ _ e=>e)
  have hkw4:Kept (fun k=>k = bm ∨ gn.F k) w w4:=((Kept.of_below _ HB.out).trans (HK2.out.mono (T:=fun k=>k = bm ∨ gn.F k) (fun _ _ e=>.inl e)) (fun _ _ e=>e)).below HB4.out
  have hkw7:Kept (fun k=>k = bm ∨ gn.F k) w w7:=(hkw4.trans HK5.out (fun _ _ e=>.inr e)).trans hk57 (fun k h1 h2=>.inr (hn5 k h1 h2))
  have hbnd:∀ k,F7 k→gn.F k ∨ w.heap.size≤k:=fun k hk=>(HF7.out k hk).elim (fun e=>(HF5.out k e.1).imp (fun e=>e) (fun e=>by omega)) (fun e=>.inr (by have:w5.heap.size≤k:=e; omega))
  have hm7:∀ rb rc,MapAt w7 bm (insE ⟨id,xs,t0,t1,draw,g,gc,rb,rc⟩ L):=fun rb rc=>by
    have hmm:∀ e ∈ insE ⟨id,xs,t0,t1,draw,g,gc,rb,rc⟩ L,e.mb = g ∨ e ∈ L:=fun e he=>by
      rcases mem_insE he with rfl | he
      · exact .inl rfl
      · exact .inr he
    have hnm:∀ e ∈ insE ⟨id,xs,t0,t1,draw,g,gc,rb,rc⟩ L,¬ gn.F e.mb:=fun e he hf=>by
      rcases hmm e he with e1 | e1
      · have:=(H.out.foot _ hf).1; omega
      · exact (H.out.foot _ hf).2.2.2.2.2 e e1 rfl
    have hlt:∀ e ∈ insE ⟨id,xs,t0,t1,draw,g,gc,rb,rc⟩ L,e.mb < w2.heap.size:=fun e he=>(HM2.out draw rb rc).plt e he
    refine (((HM2.out draw rb rc).below HB4.out).keptS HK5.out (fun e=>(H.out.foot _ e).2.2.2.2.1 rfl) hnm).keptS hk57 (fun e=>(HF5'.out _ e).2.2.2.1 rfl) (fun e he e2=>?_)
    rcases HF5.out _ e2.1 with e3 | e3
    · exact hnm e he e3
    · have:=hlt e he; omega
  refine ⟨rfl,g,gc,⟨gn.bg,fun k=>F7 k∧k < w7.heap.size,(id,lvlOf cf draw) :: levDel id gn.lev,lk7,keepP (fun x=>decide (x = id)) gn.ch ++ [id],gn.looks,gn.ex,gn.lows,gn.lst,gn.pt⟩,by omega,fun rb rc=>?_,hkw7,fun k hk=>hbnd k hk.1,⟨rfl,rfl,rfl,rfl,rfl⟩,fun hl=>HO7.out.2 (fun e=>by rw [e] at hl; simp at hl)⟩
  refine H.out.again hkw7 (hm7 rb rc) HG7.out.tight HO7.out.1 rfl rfl (fun i=>?_) ?_ (fun e he=>?_) (fun e he=>?_) (fun k hk=>⟨hk.2,hbnd k hk.1,fun e he e1=>?_⟩)
  · show levOf ((id,lvlOf cf draw) :: levDel id gn.lev) i = _
    rw [levOf_cons]
    by_cases hi:id = i
    · subst hi
      rw [if_pos rfl,show id = (⟨id,xs,t0,t1,draw,g,gc,rb,rc⟩:Ent).id from rfl,findE_ins_self]; rfl
    · rw [if_neg hi,levOf_levDel_ne (fun e=>hi e.symm),findE_ins (fun e=>hi e.symm)]
      exact H.out.lv i
  · have hc:=H.out.cfok.c60
    rcases hroom with hr | hr
    · obtain ⟨e,he⟩:=Option.isSome_iff_exists.1 hr
      rw [length_insE_some ⟨id,xs,t0,t1,draw,g,gc,rb,rc⟩ H.out.map.rising he]
      exact hL
    · cases hfi:findE id L with
      | some e =>
        rw [length_insE_some ⟨id,xs,t0,t1,draw,g,gc,rb,rc⟩ H.out.map.rising hfi]
        exact hL
      | none =>
        rw [length_insE_none ⟨id,xs,t0,t1,draw,g,gc,rb,rc⟩ hfi]
        omega
  · have hcr:=ptCode_crd HR.out
    rcases mem_insE he with rfl | he
    · exact ⟨hid,hcr.1,hcr.2⟩
    · exact ⟨H.out.ints e he,H.out.len e he,H.out.crd e he⟩
  · rcases mem_insE he with rfl | he
    · exact HDW.out
    · exact H.out.drw e he
  · have hlt:=(HM2.out draw rb rc).plt e he
    rw [← e1] at hlt
    rcases HF7.out k hk.1 with e2 | e2
    · rcases HF5.out k e2.1 with e3 | e3
      · rcases mem_insE he with rfl | he
        · have:=(H.out.foot k e3).1
          simp only at e1
          omega
        · exact (H.out.foot k e3).2.2.2.2.2 e he e1
      · omega
    · have:w5.heap.size≤k:=e2
      omega
end
section
open Go.RowKit Go.Maps

set_option maxHeartbeats 2000000 in
theorem get14_no (bb bs bm:Nat) (cf:Cf) (gn:Net) (id:Int) (L:List Ent) (w:World) (hid:I64 id) (h:BaseAt w bb bs bm cf gn L) (he:findE id L = none) :
    Calls Tryz.prog 29 #[.pointer (some ⟨bb,0,none⟩),.int .i64 id] w fun ev w'=>ev = .returned (.tuple #[.agg #[.int .i64 0,.slice none 0 0,.int .i64 0,.int .i64 0],.int .i64 5])∧Below w.heap.size w w':=by
  have b6:=h.b6
  have hbb:=block_lt_of_cell b6
  go_enter Tryz.func29,Tryz.ntmps29
  go_wp2_with fail
  refine (get29_no bs bm id L _ hid (h.alloc _).s1 (h.alloc _).map he).mono ?_
  rintro ev w1 ⟨⟨s,rfl⟩,hb1⟩
  have hz:w.heap.size < w1.heap.size:=by have:=hb1.size; simp at this; omega
  have hne:w.heap.size ≠ w1.heap.size:=by omega
  have HH:=hide ((h.alloc _).hdl.below hb1)
  have l0:w1.cell? ⟨w.heap.size,0,none⟩ = some (.int .i64 0):=Below.at hb1 (by simp) (by simp)
  have l1:w1.cell? ⟨w.heap.size,1,none⟩ = some (.slice none 0 0):=Below.at hb1 (by simp) (by simp)
  have l2:w1.cell? ⟨w.heap.size,2,none⟩ = some (.int .i64 0):=Below.at hb1 (by simp) (by simp)
  have l3:w1.cell? ⟨w.heap.size,3,none⟩ = some (.int .i64 0):=Below.at hb1 (by simp) (by simp)
  have fl:∀ o,w1.frozen? ⟨w.heap.size,o,none⟩ = false:=fun o=>(hb1.frozen (p:=⟨_,o,none⟩) (by simp)).trans (by simp)
  have HB:=hide hb1
  clear hb1 h b6
  go_wp2
  go_region_held3 (fun wx=>wx.cell? ⟨w1.heap.size,0,none⟩ = some (.int .i64 0)∧wx.cell? ⟨w1.heap.size,1,none⟩ = some (.slice none 0 0)∧wx.cell? ⟨w1.heap.size,2,none⟩ = some (.int .i64 0)∧wx.cell? ⟨w1.heap.size,3,none⟩ = some (.int .i64 0))
    (first | (refine ⟨?_,?_,?_,?_⟩ <;> (simp; done)) | (exact ⟨n0,n1,n2,n3⟩) | (refine ⟨?_,?_,?_,?_⟩ <;> (repeat rw [World.cell?_setCell_far _ _ _ _ (by exact hne)]) <;> assumption))
    (first
      | (go_at_call 43; refine (errno_one s id 5 _ ?_).mono ?_; (exact HH.out.alloc _); rintro ev3 w3 ⟨rfl,hb3⟩; have n0:w3.cell? ⟨w1.heap.size,0,none⟩ = some (.int .i64 0):=Below.at hb3 (by simp) (by simp); have n1:w3.cell? ⟨w1.heap.size,1,none⟩ = some (.slice none 0 0):=Below.at hb3 (by simp) (by simp); have n2:w3.cell? ⟨w1.heap.size,2,none⟩ = some (.int .i64 0):=Below.at hb3 (by simp) (by simp); have n3:w3.cell? ⟨w1.heap.size,3,none⟩ = some (.int .i64 0):=Below.at hb3 (by simp) (by simp); have p0:w3.cell? ⟨w.heap.size,0,none⟩ = some (.int .i64 0):=Below.at hb3 (by simp [World.cell?_alloc_past,hz,l0]) (by simp; omega); have p1:w3.cell? ⟨w.heap.size,1,none⟩ = some (.slice none 0 0):=Below.at hb3 (by simp [World.cell?_alloc_past,hz,l1]) (by simp; omega); have p2:w3.cell? ⟨w.heap.size,2,none⟩ = some (.int .i64 0):=Below.at hb3 (by simp [World.cell?_alloc_past,hz,l2]) (by simp; omega); have p3:w3.cell? ⟨w.heap.size,3,none⟩ = some (.int .i64 0):=Below.at hb3 (by simp [World.cell?_alloc_past,hz,l3]) (by simp; omega); have fp:∀ o,w3.frozen? ⟨w.heap.size,o,none⟩ = false:=fun o=>(hb3.frozen (p:=⟨_,o,none⟩) (by simp; omega)).trans ((World.frozen?_alloc_old _ _ _ (by simp; omega)).trans (fl o))))
  go_wp2
  refine bodyPost_ret (v:=.tuple #[.agg #[.int .i64 0,.slice none 0 0,.int .i64 0,.int .i64 0],.int .i64 5]) (by simp [results,Tryz.results29,go_sem,p0,p1,p2,p3]) rfl ⟨rfl,?_⟩
  have hb2:Below w.heap.size w w1:=((Below.refl _ _).alloc (Nat.le_refl _) _).trans (HB.out.mono (by simp))
  have hb4:Below w.heap.size w w3:=((hb2.alloc (by omega) _).drew).trans (hb3.mono (by simp; omega))
  repeat (first | exact hb4 | refine Below.setCell ?_ (by first | omega | (simp; done) | (simp; omega)) _ | refine Below.alloc ?_ (by first | omega | (simp; done) | (simp; omega)) _)
end
section
open Go.RowKit Go.Maps

set_option maxHeartbeats 2000000 in
theorem get14_yes (bb bs bm:Nat) (cf:Cf) (gn:Net) (id:Int) (L:List Ent) (e:Ent) (w:World) (hid:I64 id) (h:BaseAt w bb bs bm cf gn L) (he:findE id L = some e) :
    Calls Tryz.prog 29 #[.pointer (some ⟨bb,0,none⟩),.int .i64 id] w fun ev w'=>∃ g gc,ev = .returned (.tuple #[.agg #[.int .i64 e.id,.slice (some ⟨g,0,none⟩) e.pt.length gc,.int .i64 e.t0,.int .i64 e.t1],.int .i64 0])∧w.heap.size≤g∧Pts w' g gc e.pt∧Below w.heap.size w w':=by
  have b6:=h.b6
  have hbb:=block_lt_of_cell b6
  go_enter Tryz.func29,Tryz.ntmps29
  go_wp2_with fail
  refine (get29_yes bs bm id L e _ hid (h.alloc _).s1 (h.alloc _).map he).mono ?_
  rintro ev w1 ⟨g,gc,rfl,hg,hp,hb1⟩
  have hz:w.heap.size < w1.heap.size:=by have:=hb1.size; simp at this; omega
  have hne:w.heap.size ≠ w1.heap.size:=by omega
  have HH:=hide ((h.alloc _).hdl.below hb1)
  have l0:w1.cell? ⟨w.heap.size,0,none⟩ = some (.int .i64 0):=Below.at hb1 (by simp) (by simp)
  have l1:w1.cell? ⟨w.heap.size,1,none⟩ = some (.slice none 0 0):=Below.at hb1 (by simp) (by simp)
  have l2:w1.cell? ⟨w.heap.size,2,none⟩ = some (.int .i64 0):=Below.at hb1 (by simp) (by simp)
  have l3:w1.cell? ⟨w.heap.size,3,none⟩ = some (.int .i64 0):=Below.at hb1 (by simp) (by simp)
  have fl:∀ o,w1.frozen? ⟨w.heap.size,o,none⟩ = false:=fun o=>(hb1.frozen (p:=⟨_,o,none⟩) (by simp)).trans (by simp)
  have HB:=hide hb1
  have HG:=hide hg
  have HP:=hide hp
  clear hb1 h b6 hg hp
  go_wp2
  go_region_held3 (fun wx=>wx.cell? ⟨w1.heap.size,0,none⟩ = some (.int .i64 e.id)∧wx.cell? ⟨w1.heap.size,1,none⟩ = some (.slice (some ⟨g,0,none⟩) e.pt.length gc)∧wx.cell? ⟨w1.heap.size,2,none⟩ = some (.int .i64 e.t0)∧wx.cell? ⟨w1.heap.size,3,none⟩ = some (.int .i64 e.t1))
    (first | (refine ⟨?_,?_,?_,?_⟩ <;> (simp; done)) | (exact ⟨n0,n1,n2,n3⟩) | (refine ⟨?_,?_,?_,?_⟩ <;> (repeat rw [World.cell?_setCell_far _ _ _ _ (by exact hne)]) <;> assumption))
    (first
      | (go_at_call 43; refine (errno_nil _).mono ?_; rintro ev3 w3 ⟨rfl,hb3⟩; have n0:w3.cell? ⟨w1.heap.size,0,none⟩ = some (.int .i64 e.id):=Below.at hb3 (by simp) (by simp); have n1:w3.cell? ⟨w1.heap.size,1,none⟩ = some (.slice (some ⟨g,0,none⟩) e.pt.length gc):=Below.at hb3 (by simp) (by simp); have n2:w3.cell? ⟨w1.heap.size,2,none⟩ = some (.int .i64 e.t0):=Below.at hb3 (by simp) (by simp); have n3:w3.cell? ⟨w1.heap.size,3,none⟩ = some (.int .i64 e.t1):=Below.at hb3 (by simp) (by simp); have p0:w3.cell? ⟨w.heap.size,0,none⟩ = some (.int .i64 0):=Below.at hb3 (by simp [World.cell?_alloc_past,hz,l0]) (by simp; omega); have p1:w3.cell? ⟨w.heap.size,1,none⟩ = some (.slice none 0 0):=Below.at hb3 (by simp [World.cell?_alloc_past,hz,l1]) (by simp; omega); have p2:w3.cell? ⟨w.heap.size,2,none⟩ = some (.int .i64 0):=Below.at hb3 (by simp [World.cell?_alloc_past,hz,l2]) (by simp; omega); have p3:w3.cell? ⟨w.heap.size,3,none⟩ = some (.int .i64 0):=Below.at hb3 (by simp [World.cell?_alloc_past,hz,l3]) (by simp; omega); have fp:∀ o,w3.frozen? ⟨w.heap.size,o,none⟩ = false:=fun o=>(hb3.frozen (p:=⟨_,o,none⟩) (by simp; omega)).trans ((World.frozen?_alloc_old _ _ _ (by simp; omega)).trans (fl o))))
  go_wp2
  refine bodyPost_ret (v:=.tuple #[.agg #[.int .i64 e.id,.slice (some ⟨g,0,none⟩) e.pt.length gc,.int .i64 e.t0,.int .i64 e.t1],.int .i64 0]) (by simp [results,Tryz.results29,go_sem,p0,p1,p2,p3]) rfl ⟨g,gc,rfl,?_,?_,?_⟩
  · have:=HG.out; simp at this; omega
  · have hg:=HG.out
    simp at hg
    have hlt:=(HP.out.lt g rfl).2
    refine ownsRow_of_block HP.out fun g' e'=>?_
    obtain rfl:g = g':=by simpa [Value.ownBlock] using e'
    repeat rw [Below.heap_setCell _ _ _ _ (by simp; omega)]
    rw [hb3.block g (by simp; omega)]
    exact Below.heap_alloc _ _ _ hlt
  · have hb2:Below w.heap.size w w1:=((Below.refl _ _).alloc (Nat.le_refl _) _).trans (HB.out.mono (by simp))
    have hb4:Below w.heap.size w w3:=((hb2.alloc (by omega) _).drew).trans (hb3.mono (by simp; omega))
    repeat (first | exact hb4 | refine Below.setCell ?_ (by first | omega | (simp; done) | (simp; omega)) _ | refine Below.alloc ?_ (by first | omega | (simp; done) | (simp; omega)) _)

set_option maxHeartbeats 2000000 in
theorem new12_bad (d c l m b t:Int) (w:World) (hg:Handle w) (hb:cfgB d c l m b t = false) :
    Calls Tryz.prog 33 #[.agg #[.int .i64 d,.int .i64 c,.int .i64 l,.int .i64 m,.int .i64 b,.int .i64 t]] w fun ev w'=>ev = .returned (.tuple #[.pointer none,.int .i64 1])∧Below w.heap.size w w':=by
  have HC:Hid (cfgCode d c l m b t = 1):=by simp [Hid,cfgCode,hb]
  clear hb
  go_enter Tryz.func33,Tryz.ntmps33
  go_wp2_with fail
  refine (config24_any d c l m b t _).mono ?_
  rintro ev w1 ⟨⟨x,rfl,hx⟩,hb1⟩
  rw [HC.out] at hx
  have hbw:Below w.heap.size w w1:=((Below.refl _ _).alloc (Nat.le_refl _) _).trans (hb1.mono (by simp))
  rcases hx with ⟨h0,_⟩ | ⟨_,⟨s,n,rfl⟩ | ⟨s,n,s2,n2,rfl⟩⟩
  · cases h0
  · go_wp2_with fail
    refine (errno_one s n 1 _ (hg.below hbw)).mono ?_
    rintro ev w2 ⟨rfl,hb2⟩
    go_wp2
    go_ret2
    exact ⟨rfl,hbw.trans (hb2.mono hbw.size)⟩
  · go_wp2_with fail
    refine (errno_two s s2 n n2 1 _ (hg.below hbw)).mono ?_
    rintro ev w2 ⟨rfl,hb2⟩
    go_wp2
    go_ret2
    exact ⟨rfl,hbw.trans (hb2.mono hbw.size)⟩

theorem mapAt_new (w:World):MapAt (w.alloc (.map #[] 0)) w.heap.size [] :=
  ⟨World.ownsMap_made w Tryz.prog 3 asIs,fun e he=>(by simp at he),fun e he=>(by simp at he),by simp [Rising]⟩
theorem new26' (c:Int) (w:World):Calls Tryz.prog 65 #[.int .i64 c] w fun ev w'=>ev = .returned (.pointer (some ⟨w.heap.size + 1,0,none⟩))∧MapAt w' w.heap.size []∧w'.heap[w.heap.size + 1]? = some (.cells #[.int .i64 c,.map (some w.heap.size)] 155 (0,0))∧Below w.heap.size w w':=by
  refine (new26_any c w).mono ?_
  rintro ev w' ⟨rfl,rfl⟩
  exact ⟨rfl,(mapAt_new w).alloc _,heap_alloc2_new _ _ _,((Below.refl _ _).alloc (Nat.le_refl _) _).alloc (by simp) _⟩

theorem NOk.empty (links:Int) (h:0≤links):NOk links [] (fun _=>[]) [] :=
  ⟨⟨⟨fun _=>List.Pairwise.nil,fun _ _ _ hm=>absurd hm List.not_mem_nil,fun _ _ hm=>absurd hm List.not_mem_nil,fun _ _ _ hm=>absurd hm List.not_mem_nil⟩,fun _ hp=>absurd hp List.not_mem_nil,List.nodup_nil,List.nodup_nil,fun x=>by simp⟩,fun a l=>by
    unfold mostL
    simp
    split <;> omega⟩

set_option maxHeartbeats 2000000 in
set_option maxRecDepth 20000 in
theorem new12_ok (d c l m b t:Int) (w:World) (hh:Handle w) (hb:cfgB d c l m b t = true) :
    Calls Tryz.prog 33 #[.agg #[.int .i64 d,.int .i64 c,.int .i64 l,.int .i64 m,.int .i64 b,.int .i64 t]] w fun ev w'=>∃ bb bs bm gn cs ct,ev = .returned (.tuple #[.pointer (some ⟨bb,0,none⟩),.int .i64 0])∧BaseAt w' bb bs bm ⟨d,c,l,m,b,t⟩ gn [] ∧
      w'.heap[bs]? = some (.cells cs 155 (0,0))∧w'.heap[bb]? = some (.cells ct 102 (0,0))∧Below w.heap.size w w'∧w.heap.size≤bb∧w.heap.size≤bs∧w.heap.size≤bm∧(∀ k,gn.F k→w.heap.size≤k)∧gn.looks = 0∧gn.ex = Bks.nil∧(gn.lows = 0∧gn.lst = 0∧gn.pt = false):=by
  have HC:Hid (cfgCode d c l m b t = 0):=by simp [Hid,cfgCode,hb]
  have hcf:CfOk ⟨d,c,l,m,b,t⟩:=by
    simp only [cfgB,inB,Bool.and_eq_true,decide_eq_true_eq] at hb
    constructor <;> simp only <;> omega
  have HCF:=hide hcf
  have HH:=hide hh
  clear hb hcf hh
  go_enter Tryz.func33,Tryz.ntmps33
  go_wp2_with fail
  refine (config24_any d c l m b t _).mono ?_
  rintro ev w1 ⟨⟨x,rfl,hx⟩,hb1⟩
  rw [HC.out] at hx
  have hbw:Below w.heap.size w w1:=((Below.refl _ _).alloc (Nat.le_refl _) _).trans (hb1.mono (by simp))
  have hz:w.heap.size < w1.heap.size:=by have:=hb1.size; simp at this; omega
  rcases hx with ⟨_,rfl⟩ | ⟨h0,_⟩
  · have k0:w1.cell? ⟨w.heap.size,0,none⟩ = some (.int .i64 d):=Below.at hb1 (by simp) (by simp)
    have k1:w1.cell? ⟨w.heap.size,1,none⟩ = some (.int .i64 c):=Below.at hb1 (by simp) (by simp)
    have k2:w1.cell? ⟨w.heap.size,2,none⟩ = some (.int .i64 l):=Below.at hb1 (by simp) (by simp)
    have k3:w1.cell? ⟨w.heap.size,3,none⟩ = some (.int .i64 m):=Below.at hb1 (by simp) (by simp)
    have k4:w1.cell? ⟨w.heap.size,4,none⟩ = some (.int .i64 b):=Below.at hb1 (by simp) (by simp)
    have k5:w1.cell? ⟨w.heap.size,5,none⟩ = some (.int .i64 t):=Below.at hb1 (by simp) (by simp)
    have HSB:Hid (∀ W,Below w1.heap.size w1 W→W.cell? ⟨w.heap.size,0,none⟩ = some (.int .i64 d)∧W.cell? ⟨w.heap.size,1,none⟩ = some (.int .i64 c)∧W.cell? ⟨w.heap.size,2,none⟩ = some (.int .i64 l)∧W.cell? ⟨w.heap.size,3,none⟩ = some (.int .i64 m)∧W.cell? ⟨w.heap.size,4,none⟩ = some (.int .i64 b)∧W.cell? ⟨w.heap.size,5,none⟩ = some (.int .i64 t)):=fun W hW=>⟨cell_below k0 hW,cell_below k1 hW,cell_below k2 hW,cell_below k3 hW,cell_below k4 hW,cell_below k5 hW⟩
    have HBW:=hide hbw
    clear hb1 hbw k0 k1 k2 k3 k4 k5
    go_wp2
    go_region_held3 (fun wx=>wx.cell? ⟨w.heap.size,0,none⟩ = some (.int .i64 d)∧wx.cell? ⟨w.heap.size,1,none⟩ = some (.int .i64 c)∧wx.cell? ⟨w.heap.size,2,none⟩ = some (.int .i64 l)∧wx.cell? ⟨w.heap.size,3,none⟩ = some (.int .i64 m)∧wx.cell? ⟨w.heap.size,4,none⟩ = some (.int .i64 b)∧wx.cell? ⟨w.heap.size,5,none⟩ = some (.int .i64 t))
      ((refine HSB.out _ ?_; repeat (first | with_reducible exact hb3 | with_reducible exact hb2 | exact Below.refl _ _ | refine Below.drew ?_ | refine Below.alloc ?_ (by first | exact hb3.size | exact hb2.size | exact Nat.le_refl _) _)))
      (first
        | (go_at_call 65; refine (new26' c w1.drew).mono ?_; rintro ev2 w2 ⟨rfl,hm2,hs2,hb2d⟩; have hb2:=Below.undrew hb2d)
        | (go_at_call 66; refine (new61 w2).mono ?_; rintro ev3 w3 ⟨rfl,hg3,hb3d⟩; have hb3:=hb2.trans (hb3d.mono hb2.size)))
    have HM2:=hide hm2
    have HS2:=hide hs2
    have HG3:=hide hg3
    have HB2:=hide hb2
    have HB3:=hide hb3
    have HB3D:=hide hb3d
    clear hm2 hs2 hg3 hb2 hb3 hb2d hb3d HSB
    go_wp2
    go_ret2
    have hal:Below w3.heap.size w3 (w3.alloc (.cells #[.int .i64 d,.int .i64 c,.int .i64 l,.int .i64 m,.int .i64 b,.int .i64 t,.pointer (some ⟨w1.heap.size + 1,0,none⟩),.pointer (some ⟨w2.heap.size + 2,0,none⟩),.int .i64 0] 102)):=(Below.refl _ _).alloc (Nat.le_refl _) _
    have hbk:(w3.alloc (.cells #[.int .i64 d,.int .i64 c,.int .i64 l,.int .i64 m,.int .i64 b,.int .i64 t,.pointer (some ⟨w1.heap.size + 1,0,none⟩),.pointer (some ⟨w2.heap.size + 2,0,none⟩),.int .i64 0] 102)).heap[w3.heap.size]? = some (.cells #[.int .i64 d,.int .i64 c,.int .i64 l,.int .i64 m,.int .i64 b,.int .i64 t,.pointer (some ⟨w1.heap.size + 1,0,none⟩),.pointer (some ⟨w2.heap.size + 2,0,none⟩),.int .i64 0] 102 (0,0)):=heap_alloc_new _ _
    have hs2:w2.heap[w1.heap.size + 1]? = some (.cells #[.int .i64 c,.map (some w1.heap.size)] 155 (0,0)):=HS2.out
    have hm2:MapAt w2 w1.heap.size []:=HM2.out
    have hs3:=(HB3D.out.block _ (heap_lt hs2)).trans hs2
    have hs4:=(hal.block _ (heap_lt hs3)).trans hs3
    have hlt:=heap_lt hs2
    have hlt3:=HB3D.out.size
    have hm4:=(hm2.below HB3D.out).below hal
    have hg4:=HG3.out.tight.below hal
    have hbw1:=HBW.out.size
    have hba:Below w.heap.size w (w3.alloc (.cells #[.int .i64 d,.int .i64 c,.int .i64 l,.int .i64 m,.int .i64 b,.int .i64 t,.pointer (some ⟨w1.heap.size + 1,0,none⟩),.pointer (some ⟨w2.heap.size + 2,0,none⟩),.int .i64 0] 102)):=(HBW.out.trans (HB3.out.mono hbw1)).trans (hal.mono (by omega))
    refine ⟨w3.heap.size,w1.heap.size + 1,w1.heap.size,⟨w2.heap.size + 2,fun k=>w2.heap.size≤k∧k < w3.heap.size,[],fun _=>[],[],0,Bks.nil,0,0,false⟩,_,_,rfl,⟨cells_at hbk 0 rfl,cells_at hbk 2 rfl,cells_at hbk 3 rfl,cells_at hbk 4 rfl,cells_at hbk 5 rfl,cells_at hbk 6 rfl,cells_at hbk 7 rfl,cells_at hbk 8 rfl,cells_at hs4 0 rfl,cells_at hs4 1 rfl,hm4,HH.out.below hba,hg4,NOk.empty l (by have:=HCF.out.l2; simp only at this; omega),fun i=>rfl,Nat.zero_le _,fun e he=>absurd he List.not_mem_nil,fun e he=>absurd he List.not_mem_nil,fun e he=>absurd he List.not_mem_nil,fun e he=>absurd he List.not_mem_nil,fun k hk=>?_,HCF.out⟩,hs4,hbk,hba,by omega,by omega,by omega,fun k hk=>?_,rfl,rfl,rfl,rfl,rfl⟩
    · have h1:w2.heap.size≤k∧k < w3.heap.size:=hk
      exact ⟨Nat.lt_of_lt_of_le h1.2 hal.size,by omega,by omega,by omega,by omega,fun e he=>absurd he List.not_mem_nil⟩
    · have h1:w2.heap.size≤k∧k < w3.heap.size:=hk
      omega
  · exact absurd rfl h0
end
end Go.Proofs.YtpkiefjanmfgfaaGreatDoor
