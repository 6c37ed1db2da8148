import Derived.Shelf.SlIterI.Nil
import Derived.Shelf.SortM.Plain
import Derived.Shelf.SortM.SortNone
import Derived.Ground.GgzProg
import Derived.Ground.SlgmProg
import Derived.Test.YtpkiefjanmfgfaaGreatDoorAll09
import Derived.Test.YtpkiefjanmfgfaaGreatDoorAll15
import Derived.Test.YtpkiefjanmfgfaaGreatDoorAll21
import Derived.Test.YtpkiefjanmfgfaaGreatDoorAll24
import Derived.Test.YtpkiefjanmfgfaaGreatDoorAll25
namespace Go.Proofs
open Go.RowKit Go.Maps Go.Sort Go.Shelf


theorem Tryz.sortsA (m:Nat):AnyZI.SortsIn Tryz.prog Tryz.sortedA_ren Fence.wide m :=
  ⟨fun blk off cap ss W hH hblk hsz=>callsIn_wide.2 (AnyM.slices_Sort_int Tryz.sortA blk off cap ss W hH hblk hsz),
   fun p cap W=>callsIn_wide.2 (AnyM.slices_Sort_int_none Tryz.sortA p cap W)⟩

theorem Tryz.keys119 (mb:Option Nat) (W:World):Calls Tryz.prog 119 #[.map mb] W fun e w'=>e = .returned (.func (.func 156) #[] #[.pointer (some ⟨W.heap.size,0,none⟩)])∧w' = W.alloc (.cells #[.map mb] 169) :=
  (callsIn_wide (n:=5)).1 (AnyZI.keys_in Tryz.keysA Fence.wide 5 trivial rfl mb W)

set_option maxHeartbeats 1000000 in
theorem Tryz.sorted118 {H:Type} (b nn:Nat) (D0:DataW H) (R:Value→Option (DataW H × List MemPlace)) (w:World) (hown:w.ownsMap Tryz.prog 3 R b nn D0) (hmax:Maps.size D0≤maxLen) (hbytes:Maps.size D0 * 8≤140737488355328) :
    Calls Tryz.prog 118 #[.func (.func 156) #[] #[.pointer (some ⟨w.heap.size,0,none⟩)]] (w.alloc (.cells #[.map (some b)] 169)) fun e w'=>∃ (v:Value) (ss:List Int),e = .returned v∧ss.Perm (intKeys D0) ∧
      w'.ownsRow (w.alloc (.cells #[.map (some b)] 169)).heap.size 3 1 v ss.length ((ss.mergeSort (fun x y=>decide (x≤y))).map encZ)∧(v = .slice none 0 0 ↔ ss = [])∧Below (w.alloc (.cells #[.map (some b)] 169)).heap.size (w.alloc (.cells #[.map (some b)] 169)) w':=by
  have hbl:=hown.lt
  have hseq:SeqGives Fence.wide 2 Tryz.prog 156 #[.pointer (some ⟨w.heap.size,0,none⟩)] encZ (fun ss=>ss.Perm (intKeys D0)) (Maps.size D0) (w.alloc (.cells #[.map (some b)] 169)) :=
    AnyZI.keys_gives (ρ:=Tryz.keysA_ren) { Tryz.keysA with } Fence.wide _ trivial rfl (by omega) w.heap.size b nn D0 _ (by simp) (by simp) (by
      obtain ⟨es,clock,hb,Ft,hs,hD⟩:=hown
      exact ⟨es,clock,(Below.heap_alloc _ _ b hbl).trans hb,Ft,hs,hD⟩)
  have cS:=AnyZI.sorted_in Tryz.sortedA Fence.wide 5 trivial trivial trivial trivial rfl (by omega) (Tryz.sortsA _) (enters_of Tryz.func155 (by kernel_rfl) rfl) 156 #[.pointer (some ⟨w.heap.size,0,none⟩)] trivial (enters_of Tryz.func156 (by kernel_rfl) rfl) _ _ hmax hbytes _ hseq
  exact (callsIn_wide (n:=5)).1 cS
end Go.Proofs
namespace Go.Proofs.YtpkiefjanmfgfaaGreatDoor
section
open Go.RowKit Go.Maps Go.Sort

theorem keys_ok {w:World} {bg bl bk:Nat} {cv:Value} {lev:List (Int × Int)} {Ls:List LEnt} {ch:List Int} (h:GRaw w bg bl bk cv lev Ls ch) (hid:∀ p ∈ lev,I64 p.1) (hln:lev.length≤60):KeysOk w bl lev:=by
  obtain ⟨D,hown,hsz,htidy,hat⟩:=h.lev.own
  have hnod:(lev.map (·.1)).Nodup:=by
    have:=h.lev.nodup
    unfold keysA levV at this
    rw [List.map_map] at this
    exact this
  have hsz2:Maps.size D≤60:=by
    rw [hsz]
    simpa [levV] using hln
  have hhas:∀ i,I64 i→Maps.has D (.int .i64 i) = (levOf lev i).isSome:=fun i hi=>by
    have h5:=has_of_at (hat i hi)
    rw [getA_levV] at h5
    have h6:(Option.map (Value.int .i64) (levOf lev i)).isSome = (levOf lev i).isSome:=by simp
    rw [h6] at h5
    exact h5
  have hback:∀ x,Maps.has D (.int .i64 x) = true→I64 x:=fun x hx=>by
    obtain ⟨es,rfl,hko⟩:=hown.keysOf
    rw [has_eq,List.any_eq_true] at hx
    obtain ⟨p,hp,hs⟩:=hx
    obtain ⟨v,hv⟩:=hko p hp
    obtain ⟨y,_,hy,hl⟩:=Maps.keyOf_i64 Tryz.underlying3 hv
    rw [hy] at hs
    have e:y = x:=by simpa [Lit.sameKey] using hs
    subst e
    exact hl
  have hcol:CollectedI D (fun _=>false) (lev.map (·.1)):=⟨hnod,fun x=>by
    constructor
    · intro hx
      obtain ⟨p,hp,rfl⟩:=List.mem_map.1 hx
      refine ⟨?_,rfl⟩
      rw [hhas p.1 (hid p hp),levOf_of_mem hnod hp]
      rfl
    · rintro ⟨hx,_⟩
      have:=hhas x (hback x hx)
      rw [hx] at this
      obtain ⟨t,ht⟩:=Option.isSome_iff_exists.1 this.symm
      exact levOf_map ht⟩
  have hperm:=hcol.perm hown key3 Tryz.underlying3 (fun _=>rfl)
  refine ⟨fun W=>Tryz.keys119 (some bl) W,fun W hW=>?_⟩
  have hownW:W.ownsMap Tryz.prog 3 asIs bl (levV lev).length D:=by
    obtain ⟨es,clock,h1,h2⟩:=hown
    exact ⟨es,clock,(hW.block _ (heap_lt h1)).trans h1,h2⟩
  refine (Tryz.sorted118 bl _ D asIs W hownW (by unfold maxLen; omega) (by omega)).mono ?_
  rintro e w' ⟨v,ss,rfl,hp,hrow,_,hb⟩
  have hss:ss.mergeSort (fun x y=>decide (x≤y)) = idsL lev:=mergeSort_of_perm_i (hp.trans hperm.symm)
  have hlen:ss.length = (idsL lev).length:=by rw [← hss]; simp
  refine ⟨v,rfl,?_,fun g hg=>?_,((Below.refl _ _).alloc (Nat.le_refl _) _).trans (hb.mono (by simp))⟩
  · rw [hss,hlen] at hrow
    exact ownsRow_zero hrow
  · have:=(hrow.lt g hg).1
    simp at this
    omega
end
section
open Go.RowKit Go.Maps

set_option maxHeartbeats 2000000 in
set_option maxRecDepth 20000 in
theorem graph30 (bb bs bm:Nat) (cf:Cf) (gn:Net) (L:List Ent) (w:World) (h:BaseAt w bb bs bm cf gn L) (hs:∀ p,(gn.lk p).length≤1000) :
    Calls Tryz.prog 30 #[.pointer (some ⟨bb,0,none⟩)] w fun ev w'=>∃ chv nv ns,ev = .returned (.agg #[.bool (decide (0≤(entrL gn.lev).2)),.int .i64 (entrL gn.lev).1,chv,nv])∧IRow w' chv gn.ch∧NodesAt w' gn.lk nv ns ∧
      (ns.map (·.id) = idsL gn.lev∧∀ n ∈ ns,levOf gn.lev n.id = some (n.t:Int))∧(∀ g,chv.ownBlock = some g→w.heap.size≤g)∧((∀ g,nv.ownBlock = some g→w.heap.size≤g)∧Frs w.heap.size chv ns)∧Below w.heap.size w w':=by
  have hidI:∀ p ∈ gn.lev,I64 p.1:=fun p hp=>by
    obtain ⟨e,he⟩:=Option.isSome_iff_exists.1 (h.ids.1 (List.mem_map.2 ⟨p,hp,rfl⟩))
    have:=h.ints e (findE_mem he).1
    rw [(findE_mem he).2] at this
    exact this
  have b7:=h.b7
  have hbb:=block_lt_of_cell b7
  have HT:=hide (fun W (hW:Below w.heap.size w W)=>tell62 gn.bg gn.F gn.lev gn.lk gn.ch W (h.g.below hW) (fun bl hbl=>by
    obtain ⟨bl',bk,cv,Ls,hraw,_⟩:=h.g.below hW
    have e:=hraw.c0.symm.trans hbl
    simp at e
    subst e
    exact keys_ok hraw hidI h.idsLen) (fun p hp=>⟨hidI p hp,h.ok.ok.lev5 p hp⟩) h.ok.ok.nod h.idsLen h.chLen hs)
  clear h hs hidI
  go_enter Tryz.func30,Tryz.ntmps30
  go_wp2_with fail
  go_fit (HT.out _ ((Below.refl _ _).alloc (Nat.le_refl _) _))
  rintro ev w1 ⟨chv,nv,ns,rfl,hc,hn,hx,hf1,hf2,hb⟩
  obtain ⟨a1,c1,rfl,_⟩:=IRow_slice hc
  obtain ⟨na,nc,hnv⟩:∃ na nc,nv = .slice na ns.length nc:=by
    rcases hn.row.2 with ⟨e,e2⟩ | ⟨_,cp,_,e,_⟩
    · exact ⟨none,0,by rw [e,e2]⟩
    · exact ⟨_,cp,e⟩
  subst hnv
  have hr:w1.heap[w.heap.size]? = some (.cells #[.bool false,.int .i64 0,.slice none 0 0,.slice none 0 0] 83 (0,0)):=(hb.block _ (by simp)).trans (heap_alloc_new _ _)
  have y0:w1.cell? ⟨w.heap.size,0,none⟩ = some (.bool false):=cells_at hr 0 rfl
  have y1:w1.cell? ⟨w.heap.size,1,none⟩ = some (.int .i64 0):=cells_at hr 1 rfl
  have y2:w1.cell? ⟨w.heap.size,2,none⟩ = some (.slice none 0 0):=cells_at hr 2 rfl
  have y3:w1.cell? ⟨w.heap.size,3,none⟩ = some (.slice none 0 0):=cells_at hr 3 rfl
  have fz:=cells_frozen hr
  generalize hhas:decide (0≤(entrL gn.lev).2) = has
  generalize hent:(entrL gn.lev).1 = ent
  have HHE:=hide (And.intro hhas hent)
  clear hhas hent
  have HR:=hide hr
  have HC:=hide hc
  have HN:=hide hn
  have HX:=hide hx
  have HF:=hide (And.intro hf1 hf2)
  have HB:=hide hb
  clear hr hc hn hx hf1 hf2 hb
  go_wp2
  generalize hwf:(((w1.setCell ⟨w.heap.size,0,none⟩ (.bool has)).setCell ⟨w.heap.size,1,none⟩ (.int .i64 ent)).setCell ⟨w.heap.size,2,none⟩ (.slice a1 gn.ch.length c1)).setCell ⟨w.heap.size,3,none⟩ (.slice na ns.length nc) = wf
  have hres:wf.heap[w.heap.size]? = some (.cells #[.bool has,.int .i64 ent,.slice a1 gn.ch.length c1,.slice na ns.length nc] 83 (0,0)):=by
    rw [← hwf,heap_setCell_same _ _ _ _ _ _ (heap_setCell_same _ _ _ _ _ _ (heap_setCell_same _ _ _ _ _ _ (heap_setCell_same _ _ _ _ _ _ HR.out)))]
    rfl
  have hk:Kept (fun k=>k = w.heap.size) w1 wf:=by
    rw [← hwf]
    exact ((((Kept.refl (fun k=>k = w.heap.size) w1).setCell (p:=⟨w.heap.size,0,none⟩) (fun _=>rfl) _).setCell (p:=⟨w.heap.size,1,none⟩) (fun _=>rfl) _).setCell (p:=⟨w.heap.size,2,none⟩) (fun _=>rfl) _).setCell (p:=⟨w.heap.size,3,none⟩) (fun _=>rfl) _
  have q0:=cells_at hres 0 rfl
  have q1:=cells_at hres 1 rfl
  have q2:=cells_at hres 2 rfl
  have q3:=cells_at hres 3 rfl
  simp only [List.getElem_toArray,List.getElem_cons_zero,List.getElem_cons_succ] at q0 q1 q2 q3
  have ne:∀ {b:Nat} {c:Array Value} {e:TypeId},w1.heap[b]? = some (.cells c e (0,0))→e ≠ 83→¬ b = w.heap.size:=fun hb h1 e=>ne_of_elem hb HR.out h1 e
  have hbw:Below w.heap.size w w1:=((Below.refl _ _).alloc (Nat.le_refl _) _).trans (HB.out.mono (by simp))
  refine bodyPost_ret (v:=.agg #[.bool has,.int .i64 ent,.slice a1 gn.ch.length c1,.slice na ns.length nc]) (by simp [results,Tryz.results30,go_sem,q0,q1,q2,q3]) rfl ?_
  refine ⟨_,_,ns,by rw [HHE.out.1,HHE.out.2],ownsRow_kept HC.out hk (fun g hg=>?_),⟨ownsRow_kept HN.out.row hk (fun g hg=>?_),fun n hn=>(HN.out.lks n hn).kept hk (ne (HN.out.lks n hn).blk (by decide)) (fun k c hc=>ne hc (by decide))⟩,HX.out,fun g hg=>?_,⟨fun g hg=>?_,HF.out.2.2.old (by simp)⟩,hbw.trans (hk.toBelow hbw.size (fun k e=>by omega))⟩
  · obtain ⟨c,hc⟩:=ownsRow_obj HC.out hg
    exact ne hc (by decide)
  · obtain ⟨c,hc⟩:=ownsRow_obj HN.out.row hg
    exact ne hc (by decide)
  · have:=HF.out.1 g hg
    simp at this
    omega
  · have:=HF.out.2.1 g hg
    simp at this
    omega
end
section
open Go.RowKit Go.Maps

theorem ncells_get:∀ (ns:List TNode) (k j:Nat) (hk:k < ns.length),j < 3→(ncells ns)[k * 3 + j]? = (ncell ns[k])[j]?
  | n :: ns,0,j,_,hj=>by
    unfold ncells
    rw [List.flatMap_cons,List.getElem?_append_left (by simp [ncell]; omega)]
    simp
  | n :: ns,k + 1,j,hk,hj=>by
    have ih:=ncells_get ns k j (by simpa using hk) hj
    unfold ncells at ih ⊢
    rw [List.flatMap_cons,List.getElem?_append_right (by simp [ncell]; omega)]
    have e1:(k + 1) * 3 + j - (ncell n).length = k * 3 + j:=by simp [ncell]; omega
    rw [e1,ih]
    simp
theorem NodesAt.at {w:World} {lk:Int × Int→List Int} {g c:Nat} {ns:List TNode} (h:NodesAt w lk (.slice (some ⟨g,0,none⟩) ns.length c) ns) {k:Nat} (hk:k < ns.length) :
    w.cell? ⟨g,k * 3,none⟩ = some (.int .i64 ns[k].id)∧w.cell? ⟨g,k * 3 + 1,none⟩ = some (.int .i64 ns[k].t)∧w.cell? ⟨g,k * 3 + 2,none⟩ = some (.slice (some ⟨ns[k].A,0,none⟩) (ns[k].t + 1) (ns[k].t + 1)) :=
  ⟨ownsRow_cell h.row (by have:=ncells_get ns k 0 hk (by omega); simpa [ncell] using this),ownsRow_cell h.row (by have:=ncells_get ns k 1 hk (by omega); simpa [ncell] using this),ownsRow_cell h.row (by have:=ncells_get ns k 2 hk (by omega); simpa [ncell] using this)⟩
theorem NodesAt.slice {w:World} {lk:Int × Int→List Int} {nv:Value} {ns:List TNode} (h:NodesAt w lk nv ns):∃ a c,nv = .slice a ns.length c∧(0 < ns.length→∃ g,a = some ⟨g,0,none⟩):=by
  rcases h.row.2 with ⟨e,e2⟩ | ⟨g,cp,_,e,_⟩
  · exact ⟨none,0,by rw [e,e2],fun h=>by omega⟩
  · exact ⟨_,cp,e,fun _=>⟨g,rfl⟩⟩
theorem LksAt.at {w:World} {A:Nat} {us:List Value} {ls:List (List Int)} (h:LksAt w A us ls) {i:Nat} (hi:i < ls.length):w.cell? ⟨A,i,none⟩ = some (us.getD i (.slice none 0 0)):=by
  rw [cell_of_row w _ _ _ _ _ h.blk]
  have hl:=h.len
  simp [List.getD_eq_getElem?_getD,show i < us.length by omega]
section
variable {w:World} {bb bs bm:Nat} {cf:Cf} {gn:Net} {L:List Ent}
theorem BaseAt.levLen (h:BaseAt w bb bs bm cf gn L):gn.lev.length = L.length:=by
  have h1:gn.lev.map (·.1) ⊆ L.map (·.id):=fun x hx=>by
    obtain ⟨e,he⟩:=Option.isSome_iff_exists.1 (h.ids.1 hx)
    exact List.mem_map.2 ⟨e,(findE_mem he).1,(findE_mem he).2⟩
  have h2:L.map (·.id) ⊆ gn.lev.map (·.1):=fun x hx=>by
    obtain ⟨e,he,rfl⟩:=List.mem_map.1 hx
    refine h.ids.2 ?_
    cases hf:findE e.id L with
    | none =>
      have:=List.find?_eq_none.1 hf e he
      simp at this
    | some y=>rfl
  have n2:(L.map (·.id)).Nodup:=List.pairwise_map.2 (h.map.rising.imp fun {a b} hab=>by omega)
  have a:=List.Nodup.length_le_of_subset h.ok.ok.nod h1
  have b:=List.Nodup.length_le_of_subset n2 h2
  simp at a b
  omega
theorem BaseAt.chainLen (h:BaseAt w bb bs bm cf gn L):gn.ch.length = L.length:=by
  have a:=List.Nodup.length_le_of_subset h.ok.ok.chn (fun x hx=>(h.ok.ok.chm x).1 hx)
  have b:=List.Nodup.length_le_of_subset h.ok.ok.nod (fun x hx=>(h.ok.ok.chm x).2 hx)
  have:=h.levLen
  simp at a b
  omega
theorem BaseAt.short (h:BaseAt w bb bs bm cf gn L):∀ p,(gn.lk p).length≤1000:=fun p=>by
  have h1:=h.ok.few p.1 p.2
  have h2:=h.cfok.l8
  unfold mostL at h1
  have h3:gn.lk (p.1,p.2) = gn.lk p:=rfl
  rw [h3] at h1
  split at h1 <;> omega
theorem BaseAt.hasE (h:BaseAt w bb bs bm cf gn L):decide (0≤(entrL gn.lev).2) = decide (0 < L.length):=by
  have hl:=h.levLen
  cases hc:gn.lev with
  | nil =>
    have he:EntrOf ([]:List (Int × Int)) (fun _=>true) 0 (-1):=.inl ⟨fun p hp=>absurd hp List.not_mem_nil,rfl,rfl⟩
    rw [he.eq]
    rw [hc] at hl
    simp only [List.length_nil] at hl
    rw [← hl]
    decide
  | cons p r =>
    have hm:=entrL_mem (lev:=gn.lev) (fun p hp=>(h.ok.ok.lev5 p hp).1) (by rw [hc]; exact List.cons_ne_nil _ _)
    have h5:=(h.ok.ok.lev5 _ hm).1
    rw [hc] at h5 hl
    simp only [List.length_cons] at hl
    rw [decide_eq_true h5,decide_eq_true (by omega)]
theorem told_len {ns:List TNode} {lev:List (Int × Int)} (h:ns.map (·.id) = idsL lev):ns.length = lev.length:=by
  have e:=congrArg List.length h
  have p:=(idsL_perm lev).length_eq
  simp only [List.length_map] at e p
  omega
theorem told_lev (h:BaseAt w bb bs bm cf gn L) {ns:List TNode} (hn:∀ n ∈ ns,levOf gn.lev n.id = some (n.t:Int)):∀ n ∈ ns,n.t≤10:=fun n hm=>by
  have:=(h.ok.ok.lev5 _ (levOf_mem (hn n hm))).2
  simp only at this
  omega
end
structure QS (w:World) (bG:Nat) (has:Bool) (ent:Int) (chv nv:Value) (ch:List Int) (lk:Int × Int→List Int) (ns:List TNode):Prop where
  blk:w.heap[bG]? = some (.cells #[.bool has,.int .i64 ent,chv,nv] 83 (0,0))
  chr:IRow w chv ch
  nds:NodesAt w lk nv ns
section
variable {w w':World} {bG:Nat} {has:Bool} {ent:Int} {chv nv:Value} {ch:List Int} {lk:Int × Int→List Int} {ns:List TNode}
theorem QS.below (h:QS w bG has ent chv nv ch lk ns) (hb:Below w.heap.size w w'):QS w' bG has ent chv nv ch lk ns :=
  ⟨(hb.block _ (heap_lt h.blk)).trans h.blk,ownsRow_below h.chr hb,h.nds.below hb⟩
end
end
section
open Go.RowKit Go.Maps

theorem sorted_eq:∀ {a b:List Int},a.Pairwise (· < ·)→b.Pairwise (· < ·)→(∀ x,x ∈ a ↔ x ∈ b)→a = b
  | [],[],_,_,_=>rfl
  | [],y :: b,_,_,h=>absurd ((h y).2 List.mem_cons_self) List.not_mem_nil
  | x :: a,[],_,_,h=>absurd ((h x).1 List.mem_cons_self) List.not_mem_nil
  | x :: a,y :: b,h1,h2,h=>by
    obtain ⟨p1,q1⟩:=List.pairwise_cons.1 h1
    obtain ⟨p2,q2⟩:=List.pairwise_cons.1 h2
    have hxy:x = y:=by
      rcases List.mem_cons.1 ((h x).1 List.mem_cons_self) with e | e
      · exact e
      · rcases List.mem_cons.1 ((h y).2 List.mem_cons_self) with e2 | e2
        · exact e2.symm
        · have:=p1 y e2
          have:=p2 x e
          omega
    subst hxy
    congr 1
    refine sorted_eq q1 q2 fun z=>?_
    constructor
    · intro hz
      rcases List.mem_cons.1 ((h z).1 (List.mem_cons_of_mem _ hz)) with e | e
      · have:=p1 z hz; omega
      · exact e
    · intro hz
      rcases List.mem_cons.1 ((h z).2 (List.mem_cons_of_mem _ hz)) with e | e
      · have:=p2 z hz; omega
      · exact e
theorem idsL_sorted {lev:List (Int × Int)} (hn:(lev.map (·.1)).Nodup):(idsL lev).Pairwise (· < ·):=by
  have hs:(idsL lev).Pairwise (fun x y=>decide (x≤y) = true):=List.pairwise_mergeSort (fun a b c h1 h2=>by simp at *; omega) (fun a b=>by simp; omega) _
  have hd:(idsL lev).Nodup:=(idsL_perm lev).nodup_iff.2 hn
  exact List.Pairwise.imp₂ (fun a b h1 h2=>(by have h3:a≤b:=(by simpa using h1); have h4:a ≠ b:=h2; omega)) hs hd
section
variable {w:World} {bb bs bm:Nat} {cf:Cf} {gn:Net} {L:List Ent}
theorem BaseAt.idsEq (h:BaseAt w bb bs bm cf gn L):idsL gn.lev = L.map (·.id):=by
  refine sorted_eq (idsL_sorted h.ok.ok.nod) (List.pairwise_map.2 (h.map.rising.imp fun {a b} hab=>hab)) fun x=>?_
  rw [(idsL_perm gn.lev).mem_iff,h.ids]
  constructor
  · intro hs
    obtain ⟨e,he⟩:=Option.isSome_iff_exists.1 hs
    exact List.mem_map.2 ⟨e,(findE_mem he).1,(findE_mem he).2⟩
  · intro hm
    obtain ⟨e,he,rfl⟩:=List.mem_map.1 hm
    rw [findE_of_mem h.map.rising he]
    rfl
theorem told_at (h:BaseAt w bb bs bm cf gn L) {ns:List TNode} (h1:ns.map (·.id) = idsL gn.lev∧∀ n ∈ ns,levOf gn.lev n.id = some (n.t:Int)):ns.length = L.length∧∀ k (hk:k < ns.length) (hl:k < L.length),ns[k].id = L[k].id∧(ns[k].t:Int) = lvlOf cf L[k].draw:=by
  have e:ns.map (·.id) = L.map (·.id):=h1.1.trans h.idsEq
  have hl:ns.length = L.length:=by simpa using congrArg List.length e
  refine ⟨hl,fun k hk hl=>?_⟩
  have e1:(ns.map (·.id))[k]? = (L.map (·.id))[k]?:=by rw [e]
  rw [List.getElem?_map,List.getElem?_map,List.getElem?_eq_getElem hk,List.getElem?_eq_getElem hl] at e1
  have e2:ns[k].id = L[k].id:=by simpa using e1
  refine ⟨e2,?_⟩
  have a:=h1.2 _ (List.getElem_mem hk)
  rw [h.lv,e2,findE_of_mem h.map.rising (List.getElem_mem hl)] at a
  simpa using a.symm
end
structure TOk (links:Int) (lk:Int × Int→List Int) (ns:List TNode):Prop where
  nod:(ns.map (·.id)).Nodup
  few:∀ p,((lk p).length:Int)≤mostL links p.2
  ris:∀ p,(lk p).Pairwise (· < ·)
  lnk:∀ n ∈ ns,∀ k:Nat,k≤n.t→∀ x ∈ lk (n.id,(k:Int)),∃ o,∃ ho:o < ns.length,ns[o].id = x∧x ≠ n.id∧k≤ns[o].t∧n.id ∈ lk (x,(k:Int))
theorem told_ok {w:World} {bb bs bm:Nat} {cf:Cf} {gn:Net} {L:List Ent} (h:BaseAt w bb bs bm cf gn L) {ns:List TNode} (h1:ns.map (·.id) = idsL gn.lev∧∀ n ∈ ns,levOf gn.lev n.id = some (n.t:Int)):TOk cf.links gn.lk ns:=by
  refine ⟨?_,fun p=>h.ok.few p.1 p.2,fun p=>h.ok.ok.lg.ris p,fun n hn k hk x hx=>?_⟩
  · rw [h1.1]
    exact (idsL_perm gn.lev).nodup_iff.2 h.ok.ok.nod
  · obtain ⟨_,t,ht,hl⟩:=(h.ok.ok.lg.on hx).2
    have hm:x ∈ ns.map (·.id):=by rw [h1.1,(idsL_perm gn.lev).mem_iff]; exact levOf_map ht
    obtain ⟨y,hy,rfl⟩:=List.mem_map.1 hm
    obtain ⟨o,ho,rfl⟩:=List.mem_iff_getElem.1 hy
    have hyt:=h1.2 _ hy
    rw [ht] at hyt
    have e:t = (ns[o].t:Int):=by simpa using hyt
    refine ⟨o,ho,rfl,fun e=>?_,by omega,h.ok.ok.lg.sym _ _ _ hx⟩
    rw [e] at hx
    exact h.ok.ok.lg.irr _ _ hx
def bestTo (ns:List TNode) (i:Nat):Int:=(ns.take i).foldl (fun b n=>max b (n.t:Int)) (-1)
theorem bestTo_succ (ns:List TNode) {i:Nat} (hi:i < ns.length):bestTo ns (i + 1) = max (bestTo ns i) (ns[i].t:Int):=by
  unfold bestTo
  rw [List.take_succ_eq_append_getElem hi,List.foldl_append]
  rfl
theorem fold_le:∀ (ns:List TNode) (b:Int),b≤ns.foldl (fun b n=>max b (n.t:Int)) b∧∀ n ∈ ns,(n.t:Int)≤ns.foldl (fun b n=>max b (n.t:Int)) b
  | [],_=>⟨Int.le_refl _,fun _ h=>absurd h List.not_mem_nil⟩
  | x :: ns,b=>by
    obtain ⟨h1,h2⟩:=fold_le ns (max b (x.t:Int))
    simp only [List.foldl_cons]
    refine ⟨by omega,fun n hn=>?_⟩
    rcases List.mem_cons.1 hn with rfl | hn
    · omega
    · exact h2 n hn
theorem fold_mem:∀ (ns:List TNode) (b:Int),ns.foldl (fun b n=>max b (n.t:Int)) b = b ∨ ∃ n ∈ ns,ns.foldl (fun b n=>max b (n.t:Int)) b = (n.t:Int)
  | [],_=>.inl rfl
  | x :: ns,b=>by
    simp only [List.foldl_cons]
    rcases fold_mem ns (max b (x.t:Int)) with h | ⟨n,hn,h⟩
    · rw [h]
      by_cases hb:b≤(x.t:Int)
      · exact .inr ⟨x,List.mem_cons_self,by omega⟩
      · exact .inl (by omega)
    · exact .inr ⟨n,List.mem_cons_of_mem _ hn,h⟩
theorem bestTo_bounds (ns:List TNode) (i:Nat) (ht:∀ n ∈ ns,n.t≤10):-1≤bestTo ns i∧bestTo ns i≤10:=by
  unfold bestTo
  refine ⟨(fold_le _ _).1,?_⟩
  rcases fold_mem (ns.take i) (-1) with h | ⟨n,hn,h⟩
  · rw [h]; omega
  · rw [h]
    have:=ht n (List.mem_of_mem_take hn)
    omega
theorem best_at {w:World} {bb bs bm:Nat} {cf:Cf} {gn:Net} {L:List Ent} (h:BaseAt w bb bs bm cf gn L) {ns:List TNode} (h1:ns.map (·.id) = idsL gn.lev∧∀ n ∈ ns,levOf gn.lev n.id = some (n.t:Int)) (hne:0 < ns.length) :
    ∃ j,∃ hj:j < ns.length,(ns[j].t:Int) = bestTo ns ns.length∧ns[j].id = (entrL gn.lev).1∧∀ i (hi:i < ns.length),i < j→(ns[i].t:Int) ≠ bestTo ns ns.length:=by
  have hln:gn.lev ≠ []:=fun e=>by
    have:=told_len h1.1
    rw [e,List.length_nil] at this
    omega
  have hs:=idsL_sorted h.ok.ok.nod
  rw [← h1.1] at hs
  have h0:∀ p ∈ gn.lev,0≤p.2:=fun p hp=>(h.ok.ok.lev5 p hp).1
  obtain ⟨e,t,he⟩:=entr_ex gn.lev h0
  have heq:=he.eq
  rcases he with ⟨hx,_,_⟩ | ⟨hm,_,hmax⟩
  · cases hc:gn.lev with
    | nil=>exact absurd hc hln
    | cons p r=>have:=hx p (by rw [hc]; exact List.mem_cons_self); cases this
  have hmem:e ∈ ns.map (·.id):=by rw [h1.1,(idsL_perm gn.lev).mem_iff]; exact List.mem_map.2 ⟨(e,t),hm,rfl⟩
  obtain ⟨y,hy,rfl⟩:=List.mem_map.1 hmem
  obtain ⟨j,hj,rfl⟩:=List.mem_iff_getElem.1 hy
  have htj:(ns[j].t:Int) = t:=by
    have a:=h1.2 _ (List.getElem_mem hj)
    rw [levOf_of_mem h.ok.ok.nod hm] at a
    simpa using a.symm
  have hle:∀ n ∈ ns,(n.t:Int) < t ∨ ((n.t:Int) = t∧ns[j].id≤n.id):=fun n hn=>hmax (n.id,(n.t:Int)) (levOf_mem (h1.2 n hn)) rfl
  have hbest:bestTo ns ns.length = t:=by
    unfold bestTo
    rw [List.take_length]
    have g1:=(fold_le ns (-1)).2 _ (List.getElem_mem hj)
    have h0t:=h0 _ hm
    simp only at h0t
    rcases fold_mem ns (-1) with g2 | ⟨n,hn,g2⟩
    · rw [g2] at g1 ⊢; omega
    · rw [g2] at g1 ⊢
      have:=hle n hn
      omega
  refine ⟨j,hj,by rw [hbest,htj],by rw [heq],fun i hi hij e1=>?_⟩
  rw [hbest] at e1
  have g1:=hle _ (List.getElem_mem hi)
  have g2:=(List.pairwise_iff_getElem.1 hs) i j (by simpa using hi) (by simpa using hj) hij
  simp only [List.getElem_map] at g2
  omega
end
section
open Go.RowKit Go.Maps

set_option maxHeartbeats 1000000 in
set_option maxRecDepth 20000 in
theorem has127 (v:Value) (l:List Int) (n:Int) (w:World) (h:IRow w v l) (hm:n ∈ l) (hl:l.length≤1000):Calls Tryz.prog 127 #[v,.int .i64 n] w fun ev w'=>ev = .returned (.bool true)∧w = w':=by
  obtain ⟨a,c,rfl,ha⟩:=IRow_slice h
  obtain ⟨j,hj,hjn⟩:=List.mem_iff_getElem.1 hm
  obtain ⟨g,rfl⟩:=ha (by omega)
  have HJ:Hid (l.getD j 0 = n):=by show _ = _; rw [List.getD_eq_getElem?_getD,List.getElem?_eq_getElem hj]; exact hjn
  have H:=hide h
  clear h ha hm hjn
  go_enter Tryz.func127,Tryz.ntmps127
  go_wp2
  go_loop [5] (fun i=>∃ k:Nat,i = .int .i64 k∧k≤j) (fun i=>l.length - (intOf i).toNat)
  case atStart=>exact ⟨0,rfl,Nat.zero_le _⟩
  case round =>
    obtain ⟨k,rfl,hk⟩:=hrel
    have x0:w.cell? ⟨g,k,none⟩ = some (.int .i64 (l.getD k 0)):=Pts.at H.out (by omega)
    by_cases he:l.getD k 0 = n
    · rw [he] at x0
      go_wp2
      go_ret
      exact ⟨rfl,rfl⟩
    · have hkj:k < j:=by
        rcases Nat.lt_or_ge k j with h1 | h1
        · exact h1
        · exact absurd ((by rw [show k = j by omega]; exact HJ.out):l.getD k 0 = n) he
      generalize l.getD k 0 = y at x0 he
      have hd:(y == n) = false:=by simpa using he
      go_wp2
      exact ⟨⟨k + 1,by go_num,by omega⟩,by simp [intOf]; omega⟩

set_option maxHeartbeats 1000000 in
set_option maxRecDepth 20000 in
theorem place84 (has:Bool) (ent:Int) (ca:Option Addr) (cn cc:Nat) (na:Option Addr) (nc:Nat) (lk:Int × Int→List Int) (ns:List TNode) (o:Nat) (ho:o < ns.length) (w:World) (h:NodesAt w lk (.slice na ns.length nc) ns) (hn:(ns.map (·.id)).Nodup) (hl:ns.length≤60) :
    Calls Tryz.prog 84 #[.agg #[.bool has,.int .i64 ent,.slice ca cn cc,.slice na ns.length nc],.int .i64 ns[o].id] w fun ev w'=>ev = .returned (.int .i64 o)∧Below w.heap.size w w':=by
  obtain ⟨a',c',e,ha⟩:=h.slice
  simp only [Value.slice.injEq] at e
  obtain ⟨rfl,_,rfl⟩:=e
  obtain ⟨g,rfl⟩:=ha (by omega)
  obtain ⟨w1,hw1⟩:∃ w1,w1 = w.alloc (.cells #[.bool has,.int .i64 ent,.slice ca cn cc,.slice (some ⟨g,0,none⟩) ns.length nc] 83):=⟨_,rfl⟩
  have hb1:Below w.heap.size w w1:=hw1 ▸ (Below.refl _ _).alloc (Nat.le_refl _) _
  have hx1:w1.heap[w.heap.size]? = some (.cells #[.bool has,.int .i64 ent,.slice ca cn cc,.slice (some ⟨g,0,none⟩) ns.length nc] 83 (0,0)):=by rw [hw1]; exact heap_alloc_new _ _
  have x3:w1.cell? ⟨w.heap.size,3,none⟩ = some (.slice (some ⟨g,0,none⟩) ns.length nc):=cells_at hx1 3 rfl
  have H1:=hide (h.below hb1)
  have HB1:=hide hb1
  have HNE:Hid (∀ k (hk:k < o),ns[k].id ≠ ns[o].id):=fun k hk e=>by
    have:=(List.pairwise_iff_getElem.1 hn) k o (by simp; omega) (by simpa using ho) hk
    simp at this
    exact this e
  obtain ⟨id,hid⟩:∃ id,id = ns[o].id:=⟨_,rfl⟩
  have HID:=hide hid
  rw [← hid]
  clear hid h ha hx1 hb1 hn
  go_enter Tryz.func84,Tryz.ntmps84
  go_wp2_with fail
  rw [← hw1]
  clear hw1
  go_wp2
  go_loop [5] (fun i=>∃ k:Nat,i = .int .i64 k∧k≤o) (fun i=>ns.length - (intOf i).toNat)
  case atStart=>exact ⟨0,rfl,Nat.zero_le _⟩
  case round =>
    obtain ⟨k,rfl,hk⟩:=hrel
    have hkl:k < ns.length:=by omega
    have y0:=(H1.out.at hkl).1
    by_cases hko:k < o
    · have he:=HNE.out k hko
      rw [← HID.out] at he
      generalize ns[k].id = y at y0 he
      have hd:(y == id) = false:=by simpa using he
      go_wp2
      exact ⟨⟨k + 1,by go_num,by omega⟩,by simp [intOf]; omega⟩
    · obtain rfl:k = o:=by omega
      rw [← HID.out] at y0
      go_wp2
      go_ret
      exact ⟨rfl,HB1.out⟩

set_option maxHeartbeats 2000000 in
set_option maxRecDepth 20000 in
theorem chained83 (has:Bool) (ent:Int) (ca:Option Addr) (cc:Nat) (na:Option Addr) (nc:Nat) (ch:List Int) (lk:Int × Int→List Int) (ns:List TNode) (w:World) (hc:IRow w (.slice ca ns.length cc) ch) (h:NodesAt w lk (.slice na ns.length nc) ns) (hm:∀ n ∈ ns,n.id ∈ ch) (hcl:ch.length = ns.length) (hl:ns.length≤60) :
    Calls Tryz.prog 83 #[.agg #[.bool has,.int .i64 ent,.slice ca ns.length cc,.slice na ns.length nc]] w fun ev w'=>ev = .returned (.bool true)∧Below w.heap.size w w':=by
  obtain ⟨a',c',e,ha⟩:=h.slice
  simp only [Value.slice.injEq] at e
  obtain ⟨rfl,_,rfl⟩:=e
  obtain ⟨w1,hw1⟩:∃ w1,w1 = w.alloc (.cells #[.bool has,.int .i64 ent,.slice ca ns.length cc,.slice na ns.length nc] 83):=⟨_,rfl⟩
  have hb1:Below w.heap.size w w1:=hw1 ▸ (Below.refl _ _).alloc (Nat.le_refl _) _
  have hx1:w1.heap[w.heap.size]? = some (.cells #[.bool has,.int .i64 ent,.slice ca ns.length cc,.slice na ns.length nc] 83 (0,0)):=by rw [hw1]; exact heap_alloc_new _ _
  have HX1:=hide (fun W (hW:Below w1.heap.size w1 W)=>(hW.block _ (heap_lt hx1)).trans hx1)
  have H1:=hide (fun W (hW:Below w1.heap.size w1 W)=>(h.below hb1).below hW)
  have HC1:=hide (fun W (hW:Below w1.heap.size w1 W) x (hx:x ∈ ch)=>has127 _ ch x W (ownsRow_below (ownsRow_below hc hb1) hW) hx (by omega))
  have HB1:=hide hb1
  have HM:=hide hm
  have x2:w1.cell? ⟨w.heap.size,2,none⟩ = some (.slice ca ns.length cc):=cells_at hx1 2 rfl
  have x3:w1.cell? ⟨w.heap.size,3,none⟩ = some (.slice na ns.length nc):=cells_at hx1 3 rfl
  clear hc h hx1 hb1 hm hcl
  go_enter Tryz.func83,Tryz.ntmps83
  go_wp2_with fail
  rw [← hw1]
  clear hw1
  go_wp2
  clear x2 x3
  go_loopw [3,4] (fun i _ wr=>∃ k:Nat,i = .int .i64 k∧k≤ns.length∧Hid (Below w1.heap.size w1 wr)) (fun i _ _=>ns.length - (intOf i).toNat)
  case atStart=>exact ⟨0,rfl,Nat.zero_le _,Below.refl _ _⟩
  case round =>
    obtain ⟨k,rfl,hk,HB⟩:=hrel
    have x2:wr.cell? ⟨w.heap.size,2,none⟩ = some (.slice ca ns.length cc):=cells_at (HX1.out wr HB.out) 2 rfl
    have x3:wr.cell? ⟨w.heap.size,3,none⟩ = some (.slice na ns.length nc):=cells_at (HX1.out wr HB.out) 3 rfl
    by_cases hlt:k < ns.length
    · obtain ⟨g,rfl⟩:=ha (by omega)
      have y0:=((H1.out wr HB.out).at hlt).1
      have hmm:=HM.out _ (List.getElem_mem hlt)
      generalize ns[k].id = id at y0 hmm
      have HH:=hide (fun W (hW:Below w1.heap.size w1 W)=>HC1.out W hW id hmm)
      have HZ:=hide (fun W (hW:Below wr.heap.size wr W)=>And.intro (cell_below x2 hW) (And.intro (cell_below x3 hW) (cell_below y0 hW)))
      go_wp2
      go_region_held3 (fun wx=>wx.cell? ⟨w.heap.size,2,none⟩ = some (.slice ca ns.length cc)∧wx.cell? ⟨w.heap.size,3,none⟩ = some (.slice (some ⟨g,0,none⟩) ns.length nc)∧wx.cell? ⟨g,k * 3,none⟩ = some (.int .i64 id))
        ((refine HZ.out _ ?_; repeat (first | exact Below.refl _ _ | refine Below.drew ?_)))
        (first | (go_at_call 127; refine (HH.out _ ?_).mono ?_; (repeat (first | exact HB.out | refine Below.drew ?_)); rintro e7 w7 ⟨rfl,rfl⟩))
      go_wp2
      exact ⟨⟨k + 1,by go_num,by omega,by repeat (first | exact HB.out | refine Below.drew ?_)⟩,by simp [intOf]; omega⟩
    · go_wp2
      go_ret
      exact ⟨rfl,HB1.out.trans (HB.out.mono HB1.out.size)⟩
end
section
open Go.RowKit Go.Maps

theorem nodeL_at (lk:Int × Int→List Int) (id:Int) {n k:Nat} (hk:k < n):(nodeL lk id n).getD k [] = lk (id,(k:Int)):=by
  unfold nodeL
  rw [List.getD_eq_getElem?_getD,List.getElem?_eq_getElem (by simpa using hk)]
  simp

set_option maxHeartbeats 8000000 in
set_option maxRecDepth 20000 in
theorem linked82 (has:Bool) (ent:Int) (ca:Option Addr) (cn cc:Nat) (na:Option Addr) (nc:Nat) (links:Int) (lk:Int × Int→List Int) (ns:List TNode) (w:World) (h:NodesAt w lk (.slice na ns.length nc) ns) (hk:TOk links lk ns) (hl:ns.length≤60) (ht:∀ n ∈ ns,n.t≤10) (hls:0≤links∧links≤100) :
    Calls Tryz.prog 82 #[.agg #[.bool has,.int .i64 ent,.slice ca cn cc,.slice na ns.length nc],.int .i64 links] w fun ev w'=>ev = .returned (.bool true)∧Below w.heap.size w w':=by
  obtain ⟨a',c',e,ha⟩:=h.slice
  simp only [Value.slice.injEq] at e
  obtain ⟨rfl,_,rfl⟩:=e
  obtain ⟨w1,hw1⟩:∃ w1,w1 = w.alloc (.cells #[.bool has,.int .i64 ent,.slice ca cn cc,.slice na ns.length nc] 83):=⟨_,rfl⟩
  have hb1:Below w.heap.size w w1:=hw1 ▸ (Below.refl _ _).alloc (Nat.le_refl _) _
  have hx1:w1.heap[w.heap.size]? = some (.cells #[.bool has,.int .i64 ent,.slice ca cn cc,.slice na ns.length nc] 83 (0,0)):=by rw [hw1]; exact heap_alloc_new _ _
  have HX1:=hide (fun W (hW:Below w1.heap.size w1 W)=>(hW.block _ (heap_lt hx1)).trans hx1)
  have H1:=hide (fun W (hW:Below w1.heap.size w1 W)=>(h.below hb1).below hW)
  have HPL:=hide (fun W (hW:Below w1.heap.size w1 W) o (ho:o < ns.length)=>place84 has ent ca cn cc na nc lk ns o ho W ((h.below hb1).below hW) hk.nod hl)
  have HB1:=hide hb1
  have HK:=hide hk
  have HTT:=hide ht
  clear h hx1 hb1 hk ht
  go_enter Tryz.func82,Tryz.ntmps82
  go_wp2_with fail
  rw [← hw1]
  clear hw1
  go_wp2
  go_loopw [5,6,7,8,9,10,11,12] (fun iv _ _ _ _ _ _ _ wr=>∃ i:Nat,iv = .int .i64 i∧i≤ns.length∧Hid (Below w1.heap.size w1 wr)) (fun iv _ _ _ _ _ _ _ _=>ns.length - (intOf iv).toNat)
  case atStart=>exact ⟨0,rfl,Nat.zero_le _,Below.refl _ _⟩
  case round =>
    obtain ⟨i,rfl,hi,HB⟩:=hrel
    have x3:wr.cell? ⟨w.heap.size,3,none⟩ = some (.slice na ns.length nc):=cells_at (HX1.out wr HB.out) 3 rfl
    by_cases hlt:i < ns.length
    · obtain ⟨g,rfl⟩:=ha (by omega)
      obtain ⟨q0,q1,q2⟩:=(H1.out wr HB.out).at hlt
      have hl1:=(H1.out wr HB.out).lks _ (List.getElem_mem hlt)
      have ht1:=HTT.out _ (List.getElem_mem hlt)
      have hto:=HK.out.lnk _ (List.getElem_mem hlt)
      have HIO:Hid (∀ o (ho:o < ns.length),ns[o].id ≠ ns[i].id→o ≠ i):=fun o ho h1 h2=>by subst h2; exact h1 rfl
      generalize ns[i].id = id at *
      generalize ns[i].t = t at *
      generalize ns[i].A = A at *
      generalize ns[i].us = us at *
      have HL1:=hide hl1
      have HTO:=hide hto
      clear hl1 hto
      go_upto_region 5 with fail
      obtain ⟨w5,hw5⟩:∃ w5,w5 = wr.alloc (.cells #[.int .i64 id,.int .i64 t,.slice (some ⟨A,0,none⟩) (t + 1) (t + 1)] 95):=⟨_,rfl⟩
      have hb5:Below wr.heap.size wr w5:=hw5 ▸ (Below.refl _ _).alloc (Nat.le_refl _) _
      have s1:w5.heap[wr.heap.size]? = some (.cells #[.int .i64 id,.int .i64 t,.slice (some ⟨A,0,none⟩) (t + 1) (t + 1)] 95 (0,0)):=by rw [hw5]; exact heap_alloc_new _ _
      rw [← hw5]
      clear hw5
      have HS1:=hide (fun W (hW:Below w5.heap.size w5 W)=>(hW.block _ (heap_lt s1)).trans s1)
      have HW5:=hide (fun W (hW:Below w5.heap.size w5 W)=>HB.out.trans ((hb5.trans (hW.mono hb5.size)).mono HB.out.size))
      have HL5:=hide (fun W (hW:Below w5.heap.size w5 W)=>(HL1.out.below hb5).below hW)
      clear s1 hb5 q0 q1 q2 x3
      go_wp2
      go_loopw [7,8,9,10,11,12] (fun kv _ _ _ _ _ wi=>∃ k:Nat,kv = .int .i64 k∧k≤t + 1∧Hid (Below w5.heap.size w5 wi)) (fun kv _ _ _ _ _ _=>t + 1 - (intOf kv).toNat)
      case atStart=>exact ⟨0,rfl,Nat.zero_le _,Below.refl _ _⟩
      case round =>
        rename World=>wi
        obtain ⟨k,rfl,hkt,HI⟩:=hrel
        have z1:wi.cell? ⟨wr.heap.size,2,none⟩ = some (.slice (some ⟨A,0,none⟩) (t + 1) (t + 1)):=cells_at (HS1.out wi HI.out) 2 rfl
        by_cases hjt:k < t + 1
        · have jl:k < (nodeL lk id (t + 1)).length:=by rw [nodeL_len]; exact hjt
          have v1:=(HL5.out wi HI.out).at jl
          have y1:=(HL5.out wi HI.out).row k jl
          rw [nodeL_at lk id hjt] at y1
          have hfew:=HK.out.few (id,(k:Int))
          have hris:=HK.out.ris (id,(k:Int))
          have htk:=HTO.out k (by omega)
          simp only at hfew
          generalize us.getD k (.slice none 0 0) = o1 at v1 y1
          generalize lk (id,(k:Int)) = ln at *
          obtain ⟨a6,c6,rfl,ha6⟩:=IRow_slice y1
          have HLN:=hide (fun W (hW:Below wi.heap.size wi W)=>ownsRow_below y1 hW)
          have HA6:=hide ha6
          have HTK:=hide htk
          have HRS:=hide hris
          have hm100:mostL links (k:Int)≤200:=by unfold mostL; split <;> omega
          clear y1 ha6 htk hris jl
          go_upto_if 34 with fail
          go_cut [8] (fun mv wx=>mv = .int .i64 (mostL links (k:Int))∧wi = wx)
          case first =>
            by_cases hk0:k = 0
            · subst hk0
              have HML:Hid (mostL links ((0:Nat):Int) = 2 * links):=by show _ = _; unfold mostL; simp
              have hwr:wrap64 (2 * links) = 2 * links:=by unfold wrap64; omega
              go_wp2_with fail
              go_meet
              exact ⟨by rw [HML.out],rfl⟩
            · have HML:Hid (mostL links (k:Int) = links):=by show _ = _; unfold mostL; rw [if_neg (by omega)]
              have hd:((k:Int) == 0) = false:=by simp; omega
              go_wp2_with fail
              go_meet
              exact ⟨by rw [HML.out],rfl⟩
          case rest =>
            obtain ⟨rfl,rfl⟩:=hcut
            generalize mostL links (k:Int) = most at *
            have hd1:decide (most < (ln.length:Int)) = false:=decide_eq_false (by omega)
            go_wp2
            clear v1 z1
            go_loopw [10,11,12] (fun jv _ _ wj=>∃ j:Nat,jv = .int .i64 j∧j≤ln.length∧Hid (Below wi.heap.size wi wj)) (fun jv _ _ _=>ln.length - (intOf jv).toNat)
            case atStart=>exact ⟨0,rfl,Nat.zero_le _,Below.refl _ _⟩
            case round =>
              rename World=>wj
              obtain ⟨j,rfl,hj,HJ⟩:=hrel
              have HWJ:Hid (Below w5.heap.size w5 wj):=HI.out.trans (HJ.out.mono HI.out.size)
              by_cases hjl:j < ln.length
              · obtain ⟨ga,rfl⟩:=HA6.out (by omega)
                have hx0:wj.cell? ⟨ga,j,none⟩ = some (.int .i64 (ln.getD j 0)):=Pts.at (HLN.out wj HJ.out) hjl
                obtain ⟨o,ho,hox,hne,hot,hback⟩:=HTK.out (ln.getD j 0) (by rw [List.getD_eq_getElem?_getD,List.getElem?_eq_getElem hjl]; exact List.getElem_mem hjl)
                have hoi:=HIO.out o ho (by rw [hox]; exact hne)
                have HPR:Hid (0 < j→∃ y,wj.cell? ⟨ga,j - 1,none⟩ = some (.int .i64 y)∧y < ln.getD j 0):=fun h0=>by
                  refine ⟨ln.getD (j - 1) 0,Pts.at (HLN.out wj HJ.out) (by omega),?_⟩
                  have:=(List.pairwise_iff_getElem.1 HRS.out) (j - 1) j (by omega) hjl (by omega)
                  rw [List.getD_eq_getElem?_getD,List.getElem?_eq_getElem (show j - 1 < ln.length by omega),List.getD_eq_getElem?_getD,List.getElem?_eq_getElem hjl]
                  exact this
                have hw1:=HW5.out wj HWJ.out
                have hxb:=HX1.out wj hw1
                have u0:wj.cell? ⟨w.heap.size,0,none⟩ = some (.bool has):=cells_at hxb 0 rfl
                have u1:wj.cell? ⟨w.heap.size,1,none⟩ = some (.int .i64 ent):=cells_at hxb 1 rfl
                have u2:wj.cell? ⟨w.heap.size,2,none⟩ = some (.slice ca cn cc):=cells_at hxb 2 rfl
                have u3:wj.cell? ⟨w.heap.size,3,none⟩ = some (.slice (some ⟨g,0,none⟩) ns.length nc):=cells_at hxb 3 rfl
                have hpl:=fun W (hW:Below wj.heap.size wj W)=>HPL.out W (hw1.trans (hW.mono hw1.size)) o ho
                obtain ⟨n0,_,n2⟩:=(H1.out wj hw1).at ho
                have hlo:=(H1.out wj hw1).lks _ (List.getElem_mem ho)
                rw [hox] at hlo hpl
                have jl2:k < (nodeL lk (ln.getD j 0) (ns[o].t + 1)).length:=by rw [nodeL_len]; omega
                have b1:=hlo.at jl2
                have b2:=hlo.row k jl2
                rw [nodeL_at lk _ (show k < ns[o].t + 1 by omega)] at b2
                have hfo:=HK.out.few (ln.getD j 0,(k:Int))
                simp only at hfo
                have hmo:mostL links (k:Int)≤200:=by unfold mostL; split <;> omega
                generalize ln.getD j 0 = x at *
                generalize ns[o].t = ot at *
                generalize ns[o].A = oA at *
                generalize ns[o].us.getD k (.slice none 0 0) = ov at b1 b2
                generalize lk (x,(k:Int)) = lo at b2 hback hfo
                obtain ⟨ob,oc,rfl,_⟩:=IRow_slice b2
                have HHS:=hide (fun W (hW:Below wj.heap.size wj W)=>has127 _ lo id W (ownsRow_below b2 hW) hback (by omega))
                have HPLJ:=hide hpl
                have y0:wj.cell? ⟨wr.heap.size,0,none⟩ = some (.int .i64 id):=cells_at (HS1.out wj HWJ.out) 0 rfl
                have HZ:=hide (fun W (hW:Below wj.heap.size wj W)=>And.intro (cell_below u0 hW) (And.intro (cell_below u1 hW) (And.intro (cell_below u2 hW) (And.intro (cell_below u3 hW) (cell_below hx0 hW)))))
                have HZ2:=hide (fun W (hW:Below wj.heap.size wj W)=>And.intro (cell_below u3 hW) (And.intro (cell_below hx0 hW) (And.intro (cell_below n2 hW) (And.intro (cell_below b1 hW) (cell_below y0 hW)))))
                have HPR2:=hide (fun W (hW:Below wj.heap.size wj W) (h0:0 < j)=>(by obtain ⟨y,h1,h2⟩:=HPR.out h0; exact ⟨y,cell_below h1 hW,h2⟩:∃ y,W.cell? ⟨ga,j - 1,none⟩ = some (.int .i64 y)∧y < x))
                clear hlo hpl b2 jl2 hxb HPR n0 hfo hback
                go_upto_region 17 with fail
                go_region_held3 (fun wx=>wx.cell? ⟨w.heap.size,0,none⟩ = some (.bool has)∧wx.cell? ⟨w.heap.size,1,none⟩ = some (.int .i64 ent)∧wx.cell? ⟨w.heap.size,2,none⟩ = some (.slice ca cn cc)∧wx.cell? ⟨w.heap.size,3,none⟩ = some (.slice (some ⟨g,0,none⟩) ns.length nc)∧wx.cell? ⟨ga,j,none⟩ = some (.int .i64 x))
                  ((refine HZ.out _ ?_; repeat (first | with_reducible exact hb7 | exact Below.refl _ _ | refine Below.drew ?_)))
                  (first | (go_at_call 84; refine (HPLJ.out _ ?_).mono ?_; (repeat (first | exact Below.refl _ _ | refine Below.drew ?_)); rintro e7 w7 ⟨rfl,hb7d⟩; have hb7:Below wj.heap.size wj w7:=(by first | exact hb7d | exact Below.undrew hb7d)))
                clear u0 u1 u2 u3 hx0 n2 b1 y0
                have HB7:=hide hb7
                clear hb7d hb7
                go_upto_region 18 with fail
                go_cut [91] (fun c wx=>c = .bool false∧Below wj.heap.size wj wx)
                case first =>
                  obtain ⟨z3,zx,z2,_,_⟩:=HZ2.out w7 HB7.out
                  have d1:decide ((o:Int) < 0) = false:=decide_eq_false (by omega)
                  have d2:((o:Int) == (i:Int)) = false:=by simp; omega
                  have d3:decide ((ot:Int) + 1≤(k:Int)) = false:=decide_eq_false (by omega)
                  by_cases hj0:0 < j
                  · obtain ⟨y,hy,hyx⟩:=HPR2.out w7 HB7.out hj0
                    have d4:decide ((0:Int) < (j:Int)) = true:=decide_eq_true (by omega)
                    have d5:decide (x≤y) = false:=decide_eq_false (by omega)
                    go_quiet (fail)
                    go_wp2_with fail
                    go_meet
                    exact ⟨rfl,below_drewN HB7.out _⟩
                  · obtain rfl:j = 0:=by omega
                    go_quiet (fail)
                    go_wp2_with fail
                    go_meet
                    exact ⟨rfl,below_drewN HB7.out _⟩
                case rest =>
                  rename World=>w8
                  obtain ⟨rfl,hb8⟩:=hcut
                  obtain ⟨z3,_,z2,zb,zy⟩:=HZ2.out w8 hb8
                  have HZ8:=hide (fun W (hW:Below w8.heap.size w8 W)=>And.intro (cell_below z3 hW) (And.intro (cell_below z2 hW) (And.intro (cell_below zb hW) (cell_below zy hW))))
                  have HB8:=hide hb8
                  clear hb8
                  have hk1:(k:Int) < (ot:Int) + 1:=by omega
                  have hk2:k < ot + 1:=by omega
                  have hk3:decide ((k:Int) < (ot:Int) + 1) = true:=decide_eq_true hk1
                  go_upto_region 20 with fail
                  go_region_held3 (fun wx=>wx.cell? ⟨w.heap.size,3,none⟩ = some (.slice (some ⟨g,0,none⟩) ns.length nc)∧wx.cell? ⟨g,o * 3 + 2,none⟩ = some (.slice (some ⟨oA,0,none⟩) (ot + 1) (ot + 1))∧wx.cell? ⟨oA,k,none⟩ = some (.slice ob lo.length oc)∧wx.cell? ⟨wr.heap.size,0,none⟩ = some (.int .i64 id))
                    ((refine HZ8.out _ ?_; repeat (first | exact Below.refl _ _ | refine Below.drew ?_)))
                    (first | (go_at_call 127; refine (HHS.out _ ?_).mono ?_; (repeat (first | exact HB8.out | refine Below.drew ?_)); rintro e9 w9 ⟨rfl,rfl⟩))
                  go_wp2
                  exact ⟨⟨j + 1,by go_num,by omega,HJ.out.trans (Below.mono (by repeat (first | exact HB8.out | refine Below.drew ?_)) HJ.out.size)⟩,by simp [intOf]; omega⟩
              · go_wp2
                exact ⟨⟨k + 1,by go_num,by omega,HWJ.out⟩,by simp [intOf]; omega⟩
        · go_wp2
          exact ⟨⟨i + 1,by go_num,by omega,HW5.out wi HI.out⟩,by simp [intOf]; omega⟩
    · go_wp2
      go_ret
      exact ⟨rfl,HB1.out.trans (HB.out.mono HB1.out.size)⟩
end
section
open Go.RowKit Go.Maps

section
variable {W0 w w':World} {bp bb bs bm br:Nat} {cf:Cf} {gn:Net} {la:Option Addr} {lc:Nat} {nsv:BV} {nmv:Value} {nn:Nat} {L M:List Ent}
theorem PairAt.mark67 (h:PairAt W0 w bp bb bs bm br cf gn la lc nsv nmv nn L M) (f:Nat) (hf:f = 6 ∨ f = 7) (nx:Int) (nq:Nat):PairAt W0 ((w.setCell ⟨bp,f,none⟩ (.int .i64 nx)).drewN nq) bp bb bs bm br cf gn la lc nsv nmv nn L M:=by
  obtain ⟨cp,hcp⟩:=h.book.typ
  obtain ⟨b6,h6⟩:=h.book.c6
  obtain ⟨b7,h7⟩:=h.book.c7
  have hk:Kept (fun k=>k = bp) w ((w.setCell ⟨bp,f,none⟩ (.int .i64 nx)).drewN nq):=((Kept.refl (fun k=>k = bp) w).setCell (p:=⟨bp,f,none⟩) (fun _=>rfl) _).drewN nq
  have far:∀ k v,k ≠ f→w.cell? ⟨bp,k,none⟩ = some v→((w.setCell ⟨bp,f,none⟩ (.int .i64 nx)).drewN nq).cell? ⟨bp,k,none⟩ = some v:=fun k v hk hv=>(World.cell?_setCell_other w ⟨bp,f,none⟩ ⟨bp,k,none⟩ _ (by simp <;> omega)).trans hv
  have c67:∀ k b,w.cell? ⟨bp,k,none⟩ = some (.int .i64 b)→∃ b,((w.setCell ⟨bp,f,none⟩ (.int .i64 nx)).drewN nq).cell? ⟨bp,k,none⟩ = some (.int .i64 b):=fun k b hv=>by
    by_cases e:k = f
    · subst e
      exact ⟨nx,World.cell?_setCell_same w ⟨bp,k,none⟩ _ hv⟩
    · exact ⟨b,far k _ e hv⟩
  have hst:∀ k,Frz nsv gn.ex k→((w.setCell ⟨bp,f,none⟩ (.int .i64 nx)).drewN nq).heap[k]? = w.heap[k]?:=fun k hf2=>hk.block k (h.o.a k hf2).1 (h.o.a k hf2).2.p
  exact h.exTurned (ex':=gn.ex) (B:=fun _=>False) hk (fun k e _=>.inl e) ⟨_,by rw [heap_drewN]; exact heap_setCell_same _ _ _ _ _ _ hcp⟩ (fun o v _ h6 h7 hv=>far o v (by omega) hv) (c67 6 b6 h6) (c67 7 b7 h7) (h.x.rows hk (fun k hx e=>(h.xa k hx).p e) (fun o v ho hv=>far o v (by omega) hv)) (fun k hx=>.inl hx) h.xn (SameZ.refl _) (fun k=>by simp) (fun k hO=>((hst k (.inr (.inl hO))).trans (h.o.o k hO)).symm) (fun k e=>e.elim) (fun _=>⟨h.o.rh,h.o.rg,h.o.rl⟩)
theorem PairAt.mark (h:PairAt W0 w bp bb bs bm br cf gn la lc nsv nmv nn L M) (nx:Int) (nq:Nat):PairAt W0 ((w.setCell ⟨bp,7,none⟩ (.int .i64 nx)).drewN nq) bp bb bs bm br cf gn la lc nsv nmv nn L M:=h.mark67 7 (.inr rfl) nx nq

def Stays (W0 w w':World) (bp bb bs bm br:Nat) (gn gn':Net) (la:Option Addr) (lc:Nat) (nsv:BV) (nmv:Value) (nsv':BV) (nmv':Value) (L M:List Ent) (P R:Nat→Prop):Prop :=
  w.heap.size≤w'.heap.size∧∀ k,k < w.heap.size→Apart W0 k bp bb bs bm br gn la lc nsv nmv L M→¬ R k→Apart W0 k bp bb bs bm br gn' la lc nsv' nmv' L M∧(¬ P k→w'.heap[k]? = w.heap[k]?)
theorem Stays.refl (W0 w:World) (bp bb bs bm br:Nat) (gn:Net) (la:Option Addr) (lc:Nat) (nsv:BV) (nmv:Value) (L M:List Ent) (P R:Nat→Prop):Stays W0 w w bp bb bs bm br gn gn la lc nsv nmv nsv nmv L M P R :=
  ⟨Nat.le_refl _,fun _ _ h _=>⟨h,fun _=>rfl⟩⟩
theorem Stays.trans {w1:World} {gn1 gn2:Net} {nsv1 nsv2:BV} {nmv1 nmv2:Value} {P Q T R1 R2 R:Nat→Prop} (h1:Stays W0 w w1 bp bb bs bm br gn gn1 la lc nsv nmv nsv1 nmv1 L M P R1) (h2:Stays W0 w1 w' bp bb bs bm br gn1 gn2 la lc nsv1 nmv1 nsv2 nmv2 L M Q R2) (hp:∀ k,k < w.heap.size→P k→T k) (hq:∀ k,k < w.heap.size→Q k→T k) (r1:∀ k,k < w.heap.size→R1 k→R k) (r2:∀ k,k < w.heap.size→R2 k→R k):Stays W0 w w' bp bb bs bm br gn gn2 la lc nsv nmv nsv2 nmv2 L M T R :=
  ⟨Nat.le_trans h1.1 h2.1,fun k hk ha hr=>by
    obtain ⟨a1,e1⟩:=h1.2 k hk ha (fun e=>hr (r1 k hk e))
    obtain ⟨a2,e2⟩:=h2.2 k (Nat.lt_of_lt_of_le hk h1.1) a1 (fun e=>hr (r2 k hk e))
    exact ⟨a2,fun hr=>(e2 (fun e=>hr (hq k hk e))).trans (e1 (fun e=>hr (hp k hk e)))⟩⟩
theorem Stays.below {P R:Nat→Prop} (hb:Below w.heap.size w w'):Stays W0 w w' bp bb bs bm br gn gn la lc nsv nmv nsv nmv L M P R :=
  ⟨hb.size,fun k hk h _=>⟨h,fun _=>hb.block k hk⟩⟩
theorem Stays.kept {ex':Bks} {S P R B:Nat→Prop} (hk:Kept S w w') (hS:∀ k,S k→k < w.heap.size→P k ∨ ¬ Apart W0 k bp bb bs bm br gn la lc nsv nmv L M) (hxa:∀ k,ex'.own k→gn.ex.own k ∨ w.heap.size≤k) (hZ:SameZ gn.ex ex') (hO:∀ k,ex'.O k→gn.ex.O k ∨ B k) (hB:∀ k,B k→R k ∨ w.heap.size≤k):Stays W0 w w' bp bb bs bm br gn { gn with ex:=ex' } la lc nsv nmv nsv nmv L M P R :=
  ⟨hk.size,fun k hlt h hr=>⟨⟨⟨h.old,h.p,h.b,h.s,h.m,h.r,h.ns,h.nm,h.l,h.mb,h.rb,h.f,fun hf=>by
    rcases hf with e | e | e
    · exact h.o (.inl e)
    · rcases hO k e with e | e
      · exact h.o (.inr (.inl e))
      · exact (hB k e).elim hr (fun e=>by omega)
    · have e2:ex'.Z k:=e
      rw [hZ.z] at e2
      exact h.o (.inr (.inr e2))⟩,fun e=>(hxa k e).elim h.x (fun e=>by omega)⟩,fun hp=>hk.block k hlt (fun e=>(hS k e hlt).elim hp (fun e=>e h))⟩⟩
theorem Stays.mark (nx:Int) (nq:Nat) {P R:Nat→Prop}:Stays W0 w ((w.setCell ⟨bp,7,none⟩ (.int .i64 nx)).drewN nq) bp bb bs bm br gn gn la lc nsv nmv nsv nmv L M P R :=
  Stays.kept (ex':=gn.ex) (B:=fun _=>False) (((Kept.refl (fun k=>k = bp) w).setCell (p:=⟨bp,7,none⟩) (fun _=>rfl) _).drewN nq) (fun _k e _=>.inr (fun h=>h.p e)) (fun _k e=>.inl e) (SameZ.refl _) (fun _ e=>.inl e) (fun _ e=>e.elim)
theorem Stays.one {A:Nat} {P R:Nat→Prop} (hk:Kept (fun k=>k = A) w w') (hA:P A):Stays W0 w w' bp bb bs bm br gn gn la lc nsv nmv nsv nmv L M P R :=
  Stays.kept (ex':=gn.ex) (B:=fun _=>False) hk (fun k e _=>.inl (by rw [e]; exact hA)) (fun k e=>.inl e) (SameZ.refl _) (fun _ e=>.inl e) (fun _ e=>e.elim)
theorem Stays.ints {nsv':BV} {lv lv' nmv':Value} {n' ns' nm':Nat} (hs:InB w bp lv nsv nmv w' lv' n' nsv' ns' nmv' nm'):Stays W0 w w' bp bb bs bm br gn gn la lc nsv nmv nsv' nmv' L M (fun k=>lv.ownBlock = some k) (fun k=>lv.ownBlock = some k) :=
  ⟨hs.kept.size,fun k hlt h hr=>⟨⟨⟨h.old,h.p,h.b,h.s,h.m,h.r,fun e=>(hs.ls k e).elim h.ns (fun e=>by omega),fun e=>(hs.lm k e).elim h.nm (fun e=>by omega),h.l,h.mb,h.rb,h.f,fun hf=>by
    obtain ⟨rs,_,_,eO,_,eR⟩:=hs.ext
    rcases hf with e | e
    · rcases (eO k).1 e with e | ⟨r,hr2,e⟩
      · exact h.o (.inl e)
      · exact (eR r hr2 k e).2.2.2.2.elim hr (fun e=>by omega)
    · exact h.o (.inr e)⟩,h.x⟩,fun hp=>hs.kept.block k hlt (fun e=>by
    rcases e with e | e | e | e
    · exact h.p e
    · exact hp e
    · exact h.ns e
    · exact h.nm e)⟩⟩
theorem PairAt.intsA {nsv':BV} {lv lv' nmv':Value} {n':Nat} (h:PairAt W0 w bp bb bs bm br cf gn la lc nsv nmv nn L M) (hA:∀ g,lv.ownBlock = some g→Apart W0 g bp bb bs bm br gn la lc nsv nmv L M) (hs:InB w bp lv nsv nmv w' lv' n' nsv' (nn + 4) nmv' (nn + 4)):PairAt W0 w' bp bb bs bm br cf gn la lc nsv' nmv' (nn + 4) L M :=
  h.ints (fun g hg=>by
    have q:=hA g hg
    exact ⟨q.old,q.b,q.s,q.m,q.r,q.mb,q.rb,fun b hb e=>q.l (by rw [hb,e]),q.f,q.x,q.o⟩) hs
end
end
end Go.Proofs.YtpkiefjanmfgfaaGreatDoor
