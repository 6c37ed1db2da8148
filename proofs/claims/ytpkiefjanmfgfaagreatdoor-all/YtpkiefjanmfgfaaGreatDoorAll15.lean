import Derived.Deep.Cut
import Derived.Deep.DeepMust
import Derived.Test.YtpkiefjanmfgfaaGreatDoorAll06
import Derived.Test.YtpkiefjanmfgfaaGreatDoorAll14
namespace Go.Proofs.YtpkiefjanmfgfaaGreatDoor
section
open Go.RowKit

theorem rcells_set (x:Ent):∀ (L:List Ent) (k:Nat),k < L.length →
    (((((rcells L).set (k * 5) (.int .i64 x.id)).set (k * 5 + 1) (.slice (some ⟨x.rb,0,none⟩) x.pt.length x.rc)).set (k * 5 + 2) (.int .i64 x.t0)).set (k * 5 + 3) (.int .i64 x.t1)).set (k * 5 + 4) (.int .u64 x.draw) = rcells (L.set k x)
  | e :: L,0,_=>by simp [rcell,rcells]
  | e :: L,k + 1,h=>by
    have hl:(rcell e).length = 5:=rfl
    rw [rcells_cons,List.set_cons_succ,rcells_cons,← rcells_set x L k (by simpa using h)]
    have e0:(k + 1) * 5 = 5 + k * 5:=by omega
    rw [e0]
    simp only [Nat.add_assoc]
    rw [List.set_append_right _ _ (by omega),List.set_append_right _ _ (by omega),List.set_append_right _ _ (by omega),List.set_append_right _ _ (by omega),List.set_append_right _ _ (by omega),hl]
    congr 1
    congr 1
    · congr 1
      · congr 1
        · congr 1
          · congr 1
            omega
          · omega
        · omega
      · omega
    · omega

set_option maxHeartbeats 1000000 in
theorem put36_bad (br:Nat) (cf:Cf) (la:Option Addr) (lc:Nat) (L:List Ent) (id t0 t1 draw:Int) (xs:List Int) (v:Value) (w:World) (h:RefAt w br cf la lc L) (r:Int) (hr:ptCode cf.dim xs = r) (hbad:(r != 0) = true) (hvl:∀ o,IntsAt (w.alloc o) v xs) :
    Calls Tryz.prog 71 #[.pointer (some ⟨br,0,none⟩),.int .i64 id,v,.agg #[.int .i64 t0,.int .i64 t1],.int .u64 draw] w fun ev w'=>ev = .returned (.int .i64 r)∧Below w.heap.size w w':=by
  have HR:=hide hr
  clear hr
  go_enter Tryz.func71,Tryz.ntmps71
  go_wp2_with fail
  refine (point59_any xs v cf.dim br _ (hvl _) (h.alloc _).r0).mono ?_
  rintro ev w1 ⟨rfl,rfl⟩
  rw [HR.out]
  go_wp2
  go_ret
  exact ⟨rfl,(Below.refl _ _).alloc (Nat.le_refl _) _⟩

set_option maxHeartbeats 1000000 in
theorem put36_full (br:Nat) (cf:Cf) (la:Option Addr) (lc:Nat) (L:List Ent) (id t0 t1 draw:Int) (xs:List Int) (v:Value) (w:World) (h:RefAt w br cf la lc L) (hr:ptCode cf.dim xs = 0) (hvl:∀ o,IntsAt (w.alloc o) v xs)
    (he:findE id L = none) (hfull:cf.cap≤L.length) :
    Calls Tryz.prog 71 #[.pointer (some ⟨br,0,none⟩),.int .i64 id,v,.agg #[.int .i64 t0,.int .i64 t1],.int .u64 draw] w fun ev w'=>ev = .returned (.int .i64 4)∧Below w.heap.size w w':=by
  have HR:=hide hr
  have HE:Hid ((findE id L).isSome = false):=by rw [he]; rfl
  have hd:decide (cf.cap≤(L.length:Int)) = true:=by simpa using hfull
  have r1:=h.r1
  have r6:=h.r6
  have hbr:=h.lt
  clear hr he hfull
  go_enter Tryz.func71,Tryz.ntmps71
  go_wp2_with fail
  refine (point59_any xs v cf.dim br _ (hvl _) (h.alloc _).r0).mono ?_
  rintro ev w1 ⟨rfl,rfl⟩
  rw [HR.out]
  go_wp2_with fail
  refine (find38_any br cf la lc L id _ (h.alloc _)).mono ?_
  rintro ev w1 ⟨rfl,nq,rfl⟩
  rw [HE.out]
  clear h
  go_wp2
  go_quiet (fail)
  go_wp2
  go_ret
  refine ⟨rfl,?_⟩
  repeat (first | exact Below.refl _ _ | refine below_drewN ?_ _ | refine Below.alloc ?_ (by first | omega | (simp; done) | (simp; omega)) _)

theorem small_bytes8 (m:Nat) (h:m≤200):m * 8≤140737488355328:=Nat.le_trans (Nat.mul_le_mul_right 8 h) (by decide)
theorem put36_src {w:World} {b off np nq:Nat} {xs:List Int} {T:Obj} (hc:∀ i,i < xs.length→w.cell? ⟨b,off + i,none⟩ = some (.int .i64 (xs.getD i 0))) (hbb:b < w.heap.size) :
    ∀ j u,(vals xs)[j]? = some u→(((w.alloc T).drewN np).drewN nq).cell? ((⟨b,off,none⟩:Addr).add j) = some u:=by
  intro j u hj
  obtain ⟨hlt,rfl⟩:=vals_get hj
  rw [addr_add]
  exact (World.cell?_alloc_lt _ _ _ (by exact hbb)).trans (hc j hlt)
theorem put36_own {w w2:World} {g gc np nq:Nat} {xs:List Int} {T:Obj} (ho:w2.ownsRow 0 3 1 (.slice (some ⟨g,0,none⟩) (0 + xs.length) gc) (0 + xs.length) ([] ++ vals xs)) (hg:(((w.alloc T).drewN np).drewN nq).grownBy w2 (Value.slice none 0 0).ownBlock)
    (hl:(Value.slice none 0 0).ownBlock = some g ∨ g = w.heap.size + 1):Pts w2 g gc xs∧Below w.heap.size w w2∧Below (w.heap.size + 1) (w.alloc T) w2∧g = w.heap.size + 1:=by
  rw [Nat.zero_add,List.nil_append] at ho
  refine ⟨ho,?_,(below_drewN (below_drewN (Below.refl _ _) np) nq).grown hg (by simp) (fun k e=>by cases e),?_⟩
  · exact (below_drewN (below_drewN ((Below.refl _ _).alloc (Nat.le_refl _) T) np) nq).grown hg (by simp) (fun k e=>by cases e)
  · rcases hl with e | e
    · cases e
    · exact e

theorem keep5 {W:World} {g0 b o:Nat} {x:Value} (h:W.cell? ⟨b,o,none⟩ = some x) (hne:g0 ≠ b) (o0 o1 o2 o3 o4:Nat) (v0 v1 v2 v3 v4:Value) :
    (((((W.setCell ⟨g0,o0,none⟩ v0).setCell ⟨g0,o1,none⟩ v1).setCell ⟨g0,o2,none⟩ v2).setCell ⟨g0,o3,none⟩ v3).setCell ⟨g0,o4,none⟩ v4).cell? ⟨b,o,none⟩ = some x:=by
  rw [World.cell?_setCell_far _ _ _ _ (by exact hne),World.cell?_setCell_far _ _ _ _ (by exact hne),World.cell?_setCell_far _ _ _ _ (by exact hne),World.cell?_setCell_far _ _ _ _ (by exact hne),World.cell?_setCell_far _ _ _ _ (by exact hne)]
  exact h

theorem put36_S {w2:World} {g0 br:Nat} {x:Value} (h:w2.cell? ⟨br,6,none⟩ = some x) (hne:g0 ≠ br) (o0 o1 o2 o3 o4:Nat) (v0 v1 v2 v3 v4 b0 b1 b2 b3 b4:Value) :
    ((((((w2.setCell ⟨g0,o0,none⟩ v0).setCell ⟨g0,o1,none⟩ v1).setCell ⟨g0,o2,none⟩ v2).setCell ⟨g0,o3,none⟩ v3).setCell ⟨g0,o4,none⟩ v4).alloc (.cells #[b0,b1,b2,b3,b4] 135)).drew.cell? ⟨br,6,none⟩ = some x ∧
    ((((((w2.setCell ⟨g0,o0,none⟩ v0).setCell ⟨g0,o1,none⟩ v1).setCell ⟨g0,o2,none⟩ v2).setCell ⟨g0,o3,none⟩ v3).setCell ⟨g0,o4,none⟩ v4).alloc (.cells #[b0,b1,b2,b3,b4] 135)).drew.cell? ⟨w2.heap.size,0,none⟩ = some b0 ∧
    ((((((w2.setCell ⟨g0,o0,none⟩ v0).setCell ⟨g0,o1,none⟩ v1).setCell ⟨g0,o2,none⟩ v2).setCell ⟨g0,o3,none⟩ v3).setCell ⟨g0,o4,none⟩ v4).alloc (.cells #[b0,b1,b2,b3,b4] 135)).drew.cell? ⟨w2.heap.size,1,none⟩ = some b1 ∧
    ((((((w2.setCell ⟨g0,o0,none⟩ v0).setCell ⟨g0,o1,none⟩ v1).setCell ⟨g0,o2,none⟩ v2).setCell ⟨g0,o3,none⟩ v3).setCell ⟨g0,o4,none⟩ v4).alloc (.cells #[b0,b1,b2,b3,b4] 135)).drew.cell? ⟨w2.heap.size,2,none⟩ = some b2 ∧
    ((((((w2.setCell ⟨g0,o0,none⟩ v0).setCell ⟨g0,o1,none⟩ v1).setCell ⟨g0,o2,none⟩ v2).setCell ⟨g0,o3,none⟩ v3).setCell ⟨g0,o4,none⟩ v4).alloc (.cells #[b0,b1,b2,b3,b4] 135)).drew.cell? ⟨w2.heap.size,3,none⟩ = some b3 ∧
    ((((((w2.setCell ⟨g0,o0,none⟩ v0).setCell ⟨g0,o1,none⟩ v1).setCell ⟨g0,o2,none⟩ v2).setCell ⟨g0,o3,none⟩ v3).setCell ⟨g0,o4,none⟩ v4).alloc (.cells #[b0,b1,b2,b3,b4] 135)).drew.cell? ⟨w2.heap.size,4,none⟩ = some b4:=by
  have hk:=keep5 h hne o0 o1 o2 o3 o4 v0 v1 v2 v3 v4
  have hs:(((((w2.setCell ⟨g0,o0,none⟩ v0).setCell ⟨g0,o1,none⟩ v1).setCell ⟨g0,o2,none⟩ v2).setCell ⟨g0,o3,none⟩ v3).setCell ⟨g0,o4,none⟩ v4).heap.size = w2.heap.size:=by simp
  generalize ((((w2.setCell ⟨g0,o0,none⟩ v0).setCell ⟨g0,o1,none⟩ v1).setCell ⟨g0,o2,none⟩ v2).setCell ⟨g0,o3,none⟩ v3).setCell ⟨g0,o4,none⟩ v4 = W at *
  have hc:∀ a,(W.alloc (.cells #[b0,b1,b2,b3,b4] 135)).drew.cell? a = (W.alloc (.cells #[b0,b1,b2,b3,b4] 135)).cell? a:=fun _=>rfl
  rw [← hs]
  refine ⟨?_,?_,?_,?_,?_,?_⟩ <;> rw [hc]
  · rw [World.cell?_alloc_lt _ _ _ (by exact block_lt_of_cell hk)]; exact hk
  all_goals simp

def RefPut (w:World) (br:Nat) (cf:Cf) (la:Option Addr) (lc:Nat) (L:List Ent) (id t0 t1 draw:Int) (xs:List Int) (w':World):Prop :=
  ∃ g gc la' lc',w.heap.size≤g∧(∀ mb mc,RefAt w' br cf la' lc' (insE ⟨id,xs,t0,t1,draw,mb,mc,g,gc⟩ L)) ∧
    Kept (fun k=>k = br ∨ (Value.slice la L.length lc).ownBlock = some k) w w'∧∀ n b,(Value.slice la' n lc').ownBlock = some b→(Value.slice la L.length lc).ownBlock = some b ∨ w.heap.size≤b

theorem setCell_chain {w:World} {g0 b:Nat} (hne:b ≠ g0) (o0 o1 o2 o3 o4:Nat) (v0 v1 v2 v3 v4:Value) :
    (((((w.setCell ⟨g0,o0,none⟩ v0).setCell ⟨g0,o1,none⟩ v1).setCell ⟨g0,o2,none⟩ v2).setCell ⟨g0,o3,none⟩ v3).setCell ⟨g0,o4,none⟩ v4).heap[b]? = w.heap[b]?:=by
  rw [Below.heap_setCell _ _ _ _ hne,Below.heap_setCell _ _ _ _ hne,Below.heap_setCell _ _ _ _ hne,Below.heap_setCell _ _ _ _ hne,Below.heap_setCell _ _ _ _ hne]

theorem put36_set {w w2:World} {br g0 lc k g gc:Nat} {cf:Cf} {id t0 t1 draw:Int} {L:List Ent} {xs:List Int} {e:Ent} (h:RefAt w br cf (some ⟨g0,0,none⟩) lc L) (hb:Below w.heap.size w w2) (hk:k < L.length) (hkk:posE id L = k) (he:findE id L = some e) (hp:Pts w2 g gc xs) (hg:w.heap.size≤g) (B:Obj) :
    RefPut w br cf (some ⟨g0,0,none⟩) lc L id t0 t1 draw xs ((((((w2.setCell ⟨g0,k * 5,none⟩ (.int .i64 id)).setCell ⟨g0,k * 5 + 1,none⟩ (.slice (some ⟨g,0,none⟩) xs.length gc)).setCell ⟨g0,k * 5 + 2,none⟩ (.int .i64 t0)).setCell ⟨g0,k * 5 + 3,none⟩ (.int .i64 t1)).setCell ⟨g0,k * 5 + 4,none⟩ (.int .u64 draw)).alloc B).drew:=by
  have h2:=h.below hb
  obtain ⟨cs,hc⟩:=h2.typ
  obtain ⟨cg,hcg⟩:=ownsRow_obj h2.row (g:=g0) rfl
  have hne:g0 ≠ br:=ne_of_elem hcg hc (by decide)
  refine ⟨g,gc,some ⟨g0,0,none⟩,lc,hg,fun mb mc=>?_,?_,fun _ _ e=>.inl e⟩
  · refine RefAt.below (w:=((((w2.setCell ⟨g0,k * 5,none⟩ (.int .i64 id)).setCell ⟨g0,k * 5 + 1,none⟩ (.slice (some ⟨g,0,none⟩) xs.length gc)).setCell ⟨g0,k * 5 + 2,none⟩ (.int .i64 t0)).setCell ⟨g0,k * 5 + 3,none⟩ (.int .i64 t1)).setCell ⟨g0,k * 5 + 4,none⟩ (.int .u64 draw)) ?_ (((Below.refl _ _).alloc (Nat.le_refl _) B).drew)
    have hins:=insE_set (x:=⟨id,xs,t0,t1,draw,mb,mc,g,gc⟩) h.rising he
    rw [show posE (Ent.mk id xs t0 t1 draw mb mc g gc).id L = k from hkk] at hins
    rw [hins]
    have hrow:=ownsRow_set (ownsRow_set (ownsRow_set (ownsRow_set (ownsRow_set h2.row (k * 5) (.int .i64 id)) (k * 5 + 1) (.slice (some ⟨g,0,none⟩) xs.length gc)) (k * 5 + 2) (.int .i64 t0)) (k * 5 + 3) (.int .i64 t1)) (k * 5 + 4) (.int .u64 draw)
    rw [rcells_set ⟨id,xs,t0,t1,draw,mb,mc,g,gc⟩ L k hk] at hrow
    refine ⟨⟨cs,(setCell_chain hne.symm _ _ _ _ _ _ _ _ _ _).trans hc⟩,keep5 h2.r0 hne _ _ _ _ _ _ _ _ _ _,keep5 h2.r1 hne _ _ _ _ _ _ _ _ _ _,keep5 h2.r2 hne _ _ _ _ _ _ _ _ _ _,keep5 h2.r3 hne _ _ _ _ _ _ _ _ _ _,keep5 h2.r5 hne _ _ _ _ _ _ _ _ _ _,?_,?_,?_,?_,?_⟩
    · rw [List.length_set]; exact keep5 h2.r6 hne _ _ _ _ _ _ _ _ _ _
    · rw [List.length_set]; exact hrow
    · intro y hy
      have hpy:Pts w2 y.rb y.rc y.pt:=by
        rcases List.mem_or_eq_of_mem_set hy with hy | rfl
        · exact h2.pts y hy
        · exact hp
      refine ownsRow_of_block hpy fun b hv=>setCell_chain ?_ _ _ _ _ _ _ _ _ _ _
      obtain ⟨cb,hcb⟩:=ownsRow_obj hpy hv
      exact ne_of_elem hcb hcg (by decide)
    · rw [← hins]; exact rising_insE _ h.rising
    · rw [List.length_set]; exact h.small
  · refine Kept.drew (Kept.alloc ?_ B)
    repeat (refine Kept.setCell ?_ (fun _=>.inr rfl) _)
    exact Kept.of_below _ hb

set_option maxHeartbeats 1000000 in
set_option maxRecDepth 20000 in
theorem put36_there (br:Nat) (cf:Cf) (la:Option Addr) (lc:Nat) (L:List Ent) (id t0 t1 draw:Int) (xs:List Int) (b off pc:Nat) (w:World) (h:RefAt w br cf la lc L) (hr:ptCode cf.dim xs = 0) (hvl:∀ o,IntsAt (w.alloc o) (.slice (some ⟨b,off,none⟩) xs.length pc) xs) (e:Ent)
    (he:findE id L = some e) (h0:0 < xs.length) (h8:xs.length≤8) (hc:∀ i,i < xs.length→w.cell? ⟨b,off + i,none⟩ = some (.int .i64 (xs.getD i 0))) :
    Calls Tryz.prog 71 #[.pointer (some ⟨br,0,none⟩),.int .i64 id,.slice (some ⟨b,off,none⟩) xs.length pc,.agg #[.int .i64 t0,.int .i64 t1],.int .u64 draw] w fun ev w'=>ev = .returned (.int .i64 0)∧RefPut w br cf la lc L id t0 t1 draw xs w':=by
  have HR:=hide hr
  have HE:Hid ((findE id L).isSome = true):=by rw [he]; rfl
  obtain ⟨hk,hke⟩:=pos_found h.rising he
  have HFE:=hide he
  obtain ⟨g0,rfl⟩:=h.addr (by omega)
  obtain ⟨i3,hi3,hz30,hz31,hz32⟩:=info_parts info3
  have r1:=h.r1
  have r6:=h.r6
  have hbr:=h.lt
  have hbb:=block_lt_of_cell (hc 0 h0)
  have HC:=hide hc
  have H:=hide h
  clear hr he hc hke
  go_enter Tryz.func71,Tryz.ntmps71
  go_wp2_with fail
  refine (point59_any xs _ cf.dim br _ (hvl _) (h.alloc _).r0).mono ?_
  rintro ev w1 ⟨rfl,rfl⟩
  rw [HR.out]
  go_wp2_with fail
  refine (find38_any br cf _ lc L id _ (h.alloc _)).mono ?_
  rintro ev w1 ⟨rfl,np,rfl⟩
  rw [HE.out]
  clear h
  generalize hkk:posE id L = k at *
  have HKK:=hide hkk
  clear hkk
  go_wp2
  go_quiet (fail)
  have HN:=hide (put36_src (T:=.cells #[.int .i64 t0,.int .i64 t1] 43) (np:=np) (nq:=nq) HC.out hbb)
  go_upto_region 9 with (at_builtin; go_must (refine wpList_append_lies _ rfl _ _ 32 rfl 0 3 i3 (.int .i64 0) 1 8 Tryz.underlying32 hi3 hz30 hz31 hz32 rfl (by decide) (.slice none 0 0) 0 [] rfl (World.ownsRow_nil _ _ _ _) ⟨b,off,none⟩ xs.length pc (vals xs) rfl (by simp [vals]) HN.out (vals_one xs) h0 (small_len _ (by omega)) (small_bytes8 _ (by omega)) (Nat.zero_le _) (w.heap.size + 1) (by simp) ?_); intro g gc w2 ho hg hl hlt; obtain ⟨hp,hb2,hbT,rfl⟩:=put36_own ho hg hl; have HP:=hide hp; have HB2:=hide hb2; have u0:w2.cell? ⟨w.heap.size,0,none⟩ = some (.int .i64 t0):=Below.at hbT (by simp) (by simp); have u1:w2.cell? ⟨w.heap.size,1,none⟩ = some (.int .i64 t1):=Below.at hbT (by simp) (by simp); have hzw:w.heap.size < w2.heap.size:=(by have:=hbT.size; simp at this; omega); clear hp hbT ho hg hl)
  have H2:=hide (H.out.below HB2.out)
  have s6:w2.cell? ⟨br,6,none⟩ = some (.slice (some ⟨g0,0,none⟩) L.length lc):=H2.out.r6
  have hbr2:br < w2.heap.size:=H2.out.lt
  have hbg:g0 < w2.heap.size:=(H2.out.row.lt g0 rfl).2
  have hne:g0 ≠ br:=by
    obtain ⟨c1,h1⟩:=H2.out.typ
    obtain ⟨c2,h2⟩:=ownsRow_obj H2.out.row (g:=g0) rfl
    exact ne_of_elem h2 h1 (by decide)
  obtain ⟨z0,q0⟩:∃ z,w2.cell? ⟨g0,k * 5,none⟩ = some z:=⟨_,ref_cell H2.out.row hk (j:=0) (by omega) rfl⟩
  obtain ⟨z1,q1⟩:∃ z,w2.cell? ⟨g0,k * 5 + 1,none⟩ = some z:=⟨_,ref_cell H2.out.row hk (j:=1) (by omega) rfl⟩
  obtain ⟨z2,q2⟩:∃ z,w2.cell? ⟨g0,k * 5 + 2,none⟩ = some z:=⟨_,ref_cell H2.out.row hk (j:=2) (by omega) rfl⟩
  obtain ⟨z3,q3⟩:∃ z,w2.cell? ⟨g0,k * 5 + 3,none⟩ = some z:=⟨_,ref_cell H2.out.row hk (j:=3) (by omega) rfl⟩
  obtain ⟨z4,q4⟩:∃ z,w2.cell? ⟨g0,k * 5 + 4,none⟩ = some z:=⟨_,ref_cell H2.out.row hk (j:=4) (by omega) rfl⟩
  have fq:∀ o,w2.frozen? ⟨g0,o,none⟩ = false:=fun o=>ownsRow_frozen H2.out.row o
  clear r1 r6 hvl HC
  have hne2:g0 ≠ w2.heap.size:=by omega
  go_wp2
  go_region_held3 (fun wx=>wx.cell? ⟨br,6,none⟩ = some (.slice (some ⟨g0,0,none⟩) L.length lc)∧wx.cell? ⟨w2.heap.size,0,none⟩ = some (.int .i64 id)∧wx.cell? ⟨w2.heap.size,1,none⟩ = some (.slice (some ⟨w.heap.size + 1,0,none⟩) xs.length gc)∧wx.cell? ⟨w2.heap.size,2,none⟩ = some (.int .i64 t0)∧wx.cell? ⟨w2.heap.size,3,none⟩ = some (.int .i64 t1)∧wx.cell? ⟨w2.heap.size,4,none⟩ = some (.int .u64 draw))
    (first | (refine ⟨?_,?_,?_,?_,?_,?_⟩ <;> (simp [World.cell?_alloc_past,hbr2,s6]; done)) | (exact put36_S s6 hne _ _ _ _ _ _ _ _ _ _ _ _ _ _ _))
    (fail)
  go_wp2
  go_ret
  exact ⟨rfl,put36_set H.out HB2.out hk HKK.out HFE.out HP.out (by omega) _⟩
end
section
open Go.RowKit

theorem row_cap {w:World} {base e size n c:Nat} {a:Option Addr} {xs:List Value} (h:w.ownsRow base e size (.slice a n c) n xs):n≤c:=by
  rcases h.2 with ⟨hv,hn⟩ | ⟨g,cap,cur,hv,_,_,hc,_⟩
  · omega
  · simp only [Value.slice.injEq] at hv
    omega
theorem src_take {w:World} {la:Option Addr} {n lc k:Nat} {L:List Ent} (h:w.ownsRow 0 135 5 (.slice la n lc) n (rcells L)) (hk:k≤L.length):∀ o,0 < k→∃ a,la = some a∧∀ j u,(rcells (L.take k))[j]? = some u→(w.alloc o).cell? (a.add j) = some u:=by
  intro o h0
  rcases h.2 with ⟨hv,hn⟩ | ⟨g,cap,cur,hv,_⟩
  · have:=h.1
    rw [rcells_length] at this
    omega
  · simp only [Value.slice.injEq] at hv
    obtain ⟨rfl,_,rfl⟩:=hv
    refine ⟨_,rfl,fun j u hj=>?_⟩
    rw [addr_add,Nat.zero_add,World.cell?_alloc_lt _ _ _ (by exact (h.lt g rfl).2)]
    exact ownsRow_cell h (rcells_take L k hk hj)

theorem cell_five (w:World) (b0 b1 b2 b3 b4:Value):∀ j u,[b0,b1,b2,b3,b4][j]? = some u→(w.alloc (.cells #[b0,b1,b2,b3,b4] 135)).cell? ((⟨w.heap.size,0,none⟩:Addr).add j) = some u:=by
  intro j u hj
  rw [addr_add,Nat.zero_add,World.cell?_alloc_new]
  simpa using hj
theorem one_five (id:Int) (v:Value) (t0 t1 draw:Int) (h:v.oneCell' = true:=by rfl):∀ u ∈ [Value.int .i64 id,v,Value.int .i64 t0,Value.int .i64 t1,Value.int .u64 draw],u.oneCell' = true:=by
  intro u hu
  simp at hu
  rcases hu with rfl | rfl | rfl | rfl | rfl
  · rfl
  · exact h
  all_goals rfl
theorem new_first {w2 w3:World} {b0 b1 b2 b3 b4:Value} (hg:(w2.alloc (.cells #[b0,b1,b2,b3,b4] 135)).grownBy w3 (Value.slice none 0 0).ownBlock) :
    Below w2.heap.size w2 w3∧w3.cell? ⟨w2.heap.size,0,none⟩ = some b0∧w3.cell? ⟨w2.heap.size,1,none⟩ = some b1∧w3.cell? ⟨w2.heap.size,2,none⟩ = some b2∧w3.cell? ⟨w2.heap.size,3,none⟩ = some b3∧w3.cell? ⟨w2.heap.size,4,none⟩ = some b4 :=
  ⟨((Below.refl _ _).alloc (Nat.le_refl _) _).grown hg (by simp) (fun k e=>by cases e),hg.cell (by simp) (by intro e; cases e),hg.cell (by simp) (by intro e; cases e),hg.cell (by simp) (by intro e; cases e),hg.cell (by simp) (by intro e; cases e),hg.cell (by simp) (by intro e; cases e)⟩
theorem new_second {w2 w3 w4:World} {a1:Option Addr} {k c1 g2 H:Nat} {o:Obj} (hz:w2.heap.size < w3.heap.size) (hl1:(Value.slice a1 k c1).ownBlock = (Value.slice none 0 0).ownBlock ∨ (Value.slice a1 k c1).ownBlock = some H) (hH:w2.heap.size≤H) (hg:(w3.alloc o).grownBy w4 (Value.slice a1 k c1).ownBlock)
    (hl2:(Value.slice a1 k c1).ownBlock = some g2 ∨ g2 = w3.heap.size + 1):Below w2.heap.size w3 w4∧w2.heap.size≤g2:=by
  have h1:∀ g,(Value.slice a1 k c1).ownBlock = some g→w2.heap.size≤g:=by
    intro g e
    rcases hl1 with h | h
    · rw [e] at h; cases h
    · rw [e] at h; have:=Option.some.inj h; omega
  refine ⟨((Below.refl _ _).alloc (by omega) _).grown hg (by simp; omega) h1,?_⟩
  rcases hl2 with h | h
  · exact h1 _ h
  · omega

theorem src_drop {w:World} {la:Option Addr} {n lc k:Nat} {L:List Ent} (h:w.ownsRow 0 135 5 (.slice la n lc) n (rcells L)) (hk:k≤L.length) (h0:0 < L.length - k):∃ g,la = some ⟨g,0,none⟩∧∀ j u,(rcells (L.drop k))[j]? = some u→w.cell? (((⟨g,0,none⟩:Addr).add (k * 5)).add j) = some u:=by
  rcases h.2 with ⟨hv,hn⟩ | ⟨g,cap,cur,hv,_⟩
  · have:=h.1
    rw [rcells_length] at this
    omega
  · simp only [Value.slice.injEq] at hv
    obtain ⟨rfl,_,rfl⟩:=hv
    refine ⟨g,rfl,fun j u hj=>?_⟩
    rw [addr_add,addr_add,Nat.zero_add]
    exact ownsRow_cell h (rcells_drop L k hk hj)

theorem put_fin {w w2 w4 w5:World} {br k g2 gc c2 c3 lc mb mc:Nat} {cf:Cf} {id t0 t1 draw:Int} {la a3:Option Addr} {L:List Ent} {xs:List Int} (h:RefAt w br cf la lc L) (hb2:Below w.heap.size w w2) (hb24:Below w2.heap.size w2 w4) (hp:Pts w2 (w.heap.size + 1) gc xs) (hg2:w2.heap.size≤g2) (hcap:L.length < 60)
    (hk:k≤L.length) (hkk:posE id L = k) (he:findE id L = none)
    (ho:w5.ownsRow 0 135 5 (.slice a3 (k + 1 + (L.length - k)) c3) (k + 1 + (L.length - k)) (rcells (L.take k) ++ [.int .i64 id,.slice (some ⟨w.heap.size + 1,0,none⟩) xs.length gc,.int .i64 t0,.int .i64 t1,.int .u64 draw] ++ rcells (L.drop k)))
    (hg:w4.grownBy w5 (Value.slice (some ⟨g2,0,none⟩) (k + 1) c2).ownBlock) (hl:(Value.slice a3 (k + 1 + (L.length - k)) c3).ownBlock = (Value.slice (some ⟨g2,0,none⟩) (k + 1) c2).ownBlock ∨ (Value.slice a3 (k + 1 + (L.length - k)) c3).ownBlock = some w4.heap.size) (hz:w.heap.size < w2.heap.size) (_hm:mb = mc) :
    w5.cell? ⟨br,6,none⟩ = some (.slice la L.length lc)∧w5.frozen? ⟨br,6,none⟩ = false∧RefPut w br cf la lc L id t0 t1 draw xs (w5.setCell ⟨br,6,none⟩ (.slice a3 (k + 1 + (L.length - k)) c3)):=by
  have hb4:Below w.heap.size w w4:=hb2.trans (hb24.mono hb2.size)
  have hrow:∀ g,(Value.slice (some ⟨g2,0,none⟩) (k + 1) c2).ownBlock = some g→w2.heap.size≤g:=by
    intro g e
    have:g2 = g:=by simpa [Value.ownBlock] using e
    omega
  have hnew:∀ g,(Value.slice a3 (k + 1 + (L.length - k)) c3).ownBlock = some g→w.heap.size≤g:=by
    intro g e
    rcases hl with h | h
    · have:=hrow g (h ▸ e); omega
    · rw [e] at h; have:=Option.some.inj h; have:=hb4.size; omega
  have hb25:Below w2.heap.size w2 w5:=hb24.grown hg hb24.size hrow
  have hp5:Pts w5 (w.heap.size + 1) gc xs:=ownsRow_below hp hb25
  have key:∀ mb mc,_:=fun mb mc=>ref_new (M:=insE ⟨id,xs,t0,t1,draw,mb,mc,w.heap.size + 1,gc⟩ L) h hb4 (n2:=k + 1 + (L.length - k)) (a2:=a3) (c2:=c3) (w3:=w5)
    (by rw [length_insE_none _ (by exact he)]; omega) (fun g e=>by have:=hrow g e; omega)
    (by
      rw [insE_new h.rising (by exact he)]
      rw [show posE (Ent.mk id xs t0 t1 draw mb mc (w.heap.size + 1) gc).id L = k from hkk,rcells_append,rcells_cons]
      simpa [rcell] using ho) hg hnew
    (by
      intro e he'
      rcases mem_insE he' with rfl | he'
      · exact hp5
      · exact ownsRow_below ((h.below hb2).pts e he') hb25) (rising_insE _ h.rising) (by rw [length_insE_none _ (by exact he)]; omega)
  obtain ⟨_,hk0,h6,hf,_⟩:=key 0 0
  refine ⟨h6,hf,w.heap.size + 1,gc,a3,c3,by omega,fun mb mc=>(key mb mc).2.2.2.2,hk0.mono (fun k _ hk=>.inl hk),fun n b e=>.inr (hnew b (by cases a3 <;> exact e))⟩

set_option maxHeartbeats 1000000 in
set_option maxRecDepth 20000 in
theorem put36_new (br:Nat) (cf:Cf) (la:Option Addr) (lc:Nat) (L:List Ent) (id t0 t1 draw:Int) (xs:List Int) (b off pc:Nat) (w:World) (h:RefAt w br cf la lc L) (hr:ptCode cf.dim xs = 0) (hvl:∀ o,IntsAt (w.alloc o) (.slice (some ⟨b,off,none⟩) xs.length pc) xs)
    (he:findE id L = none) (hroom:¬ cf.cap≤L.length) (h60:cf.cap≤60) (h0:0 < xs.length) (h8:xs.length≤8) (hc:∀ i,i < xs.length→w.cell? ⟨b,off + i,none⟩ = some (.int .i64 (xs.getD i 0))) :
    Calls Tryz.prog 71 #[.pointer (some ⟨br,0,none⟩),.int .i64 id,.slice (some ⟨b,off,none⟩) xs.length pc,.agg #[.int .i64 t0,.int .i64 t1],.int .u64 draw] w fun ev w'=>ev = .returned (.int .i64 0)∧RefPut w br cf la lc L id t0 t1 draw xs w':=by
  have HR:=hide hr
  have HE:Hid ((findE id L).isSome = false):=by rw [he]; rfl
  have hk:=posE_le id L
  have hd:decide (cf.cap≤(L.length:Int)) = false:=by simpa using hroom
  have hlt60:L.length < 60:=by omega
  have HFE:=hide he
  obtain ⟨i90,hi,hz0,hz1,hz2⟩:=info_parts info90
  have hsm:=h.small
  have hcap:=row_cap h.row
  obtain ⟨i3,hi3,hz30,hz31,hz32⟩:=info_parts info3
  have r1:=h.r1
  have r6:=h.r6
  have hbr:=h.lt
  have hbb:=block_lt_of_cell (hc 0 h0)
  have HC:=hide hc
  have H:=hide h
  clear hr he hc hroom
  go_enter Tryz.func71,Tryz.ntmps71
  go_wp2_with fail
  refine (point59_any xs _ cf.dim br _ (hvl _) (h.alloc _).r0).mono ?_
  rintro ev w1 ⟨rfl,rfl⟩
  rw [HR.out]
  go_wp2_with fail
  refine (find38_any br cf _ lc L id _ (h.alloc _)).mono ?_
  rintro ev w1 ⟨rfl,np,rfl⟩
  rw [HE.out]
  clear h
  generalize hkk:posE id L = k at *
  have HKK:=hide hkk
  clear hkk
  go_wp2
  go_quiet (fail)
  have HN:=hide (put36_src (T:=.cells #[.int .i64 t0,.int .i64 t1] 43) (np:=np) (nq:=nq) HC.out hbb)
  go_upto_region 9 with (at_builtin; go_must (refine wpList_append_lies _ rfl _ _ 32 rfl 0 3 i3 (.int .i64 0) 1 8 Tryz.underlying32 hi3 hz30 hz31 hz32 rfl (by decide) (.slice none 0 0) 0 [] rfl (World.ownsRow_nil _ _ _ _) ⟨b,off,none⟩ xs.length pc (vals xs) rfl (by simp [vals]) HN.out (vals_one xs) h0 (small_len _ (by omega)) (small_bytes8 _ (by omega)) (Nat.zero_le _) (w.heap.size + 1) (by simp) ?_); intro g gc w2 ho hg hl hlt; obtain ⟨hp,hb2,hbT,rfl⟩:=put36_own ho hg hl; have HP:=hide hp; have HB2:=hide hb2; have u0:w2.cell? ⟨w.heap.size,0,none⟩ = some (.int .i64 t0):=Below.at hbT (by simp) (by simp); have u1:w2.cell? ⟨w.heap.size,1,none⟩ = some (.int .i64 t1):=Below.at hbT (by simp) (by simp); have hzw:w.heap.size < w2.heap.size:=(by have:=hbT.size; simp at this; omega); clear hp hbT ho hg hl)
  have H2:=hide (H.out.below HB2.out)
  have s6:w2.cell? ⟨br,6,none⟩ = some (.slice la L.length lc):=H2.out.r6
  have hbr2:br < w2.heap.size:=H2.out.lt
  clear r1 r6 hvl HC
  have X1:=hide (src_take H2.out.row hk)
  go_upto_region 15 with (at_builtin; go_must (refine wpList_append_any _ rfl _ _ 90 rfl 0 135 i90 (.agg #[.int .i64 0,.slice none 0 0,.int .i64 0,.int .i64 0,.int .u64 0]) 5 56 Tryz.underlying90 hi hz0 hz1 hz2 rfl (by decide) (.slice none 0 0) 0 [] rfl (World.ownsRow_nil _ _ _ _) la k _ (rcells (L.take k)) rfl (rcells_take_len L k hk) (X1.out _) (rcells_one _) (small_len _ (by omega)) (small_bytes _ (by omega)) (Nat.zero_le _) ?_); go_must (intro v1 w3 ho1 hg1 hl1; rw [Nat.zero_add,List.nil_append] at ho1; obtain ⟨a1,c1,rfl⟩:=row_form ho1; obtain ⟨hb3,k0,k1,k2,k3,k4⟩:=new_first hg1; have hb3w:=HB2.out.trans (hb3.mono (Nat.le_of_lt hzw)); have y6:=Below.at hb3 s6 hbr2; have HO1:=hide ho1; have HL1:=hide hl1; have HB3:=hide hb3; have HB3W:=hide hb3w; have hz3:w2.heap.size < w3.heap.size:=block_lt_of_cell k0; clear ho1 hg1 hl1 hb3 hb3w))
  go_upto_region 16 with (at_builtin; go_must (refine wpList_append_lies _ rfl _ _ 90 rfl 0 135 i90 (.agg #[.int .i64 0,.slice none 0 0,.int .i64 0,.int .i64 0,.int .u64 0]) 5 56 Tryz.underlying90 hi hz0 hz1 hz2 rfl (by decide) (.slice a1 k c1) k (rcells (L.take k)) rfl (HO1.out.alloc _) ⟨w3.heap.size,0,none⟩ 1 1 [.int .i64 id,.slice (some ⟨w.heap.size + 1,0,none⟩) xs.length gc,.int .i64 t0,.int .i64 t1,.int .u64 draw] rfl rfl (cell_five _ _ _ _ _ _) (one_five _ _ _ _ _) (by decide) (small_len _ (by omega)) (small_bytes _ (by omega)) (Nat.zero_le _) (w3.heap.size + 1) (by simp) ?_); go_must (intro g2 c2 w4 ho2 hg2 hl2 hlt2; obtain ⟨hb4,hg2z⟩:=new_second hz3 HL1.out (by simp) hg2 hl2; have y62:=Below.at hb4 y6 hbr2; have HO2:=hide ho2; have HB4:=hide hb4; have HG2:=hide hg2z; have hz4:w3.heap.size≤w4.heap.size:=hb4.size; clear ho2 hg2 hl2 hb4 hg2z))
  have HB24:=hide (HB3.out.trans HB4.out)
  go_wp2_with (at_builtin; go_must (refine wpList_append_any _ rfl _ _ 90 rfl 0 135 i90 (.agg #[.int .i64 0,.slice none 0 0,.int .i64 0,.int .i64 0,.int .u64 0]) 5 56 Tryz.underlying90 hi hz0 hz1 hz2 rfl (by decide) (.slice (some ⟨g2,0,none⟩) (k + 1) c2) (k + 1) _ rfl HO2.out _ (L.length - k) _ (rcells (L.drop k)) rfl (rcells_drop_len L k) ?_ (rcells_one _) (small_len _ (by omega)) (small_bytes _ (by omega)) (Nat.zero_le _) ?_); go_must ((intro hp; obtain ⟨g0,hg0,hsrc⟩:=src_drop (ownsRow_below H2.out.row HB24.out) hk hp; rw [if_neg (by omega),hg0]; exact ⟨_,rfl,hsrc⟩)); go_must (intro v3 w5 ho3 hg3 hl3; obtain ⟨a3,c3,rfl⟩:=row_form ho3; obtain ⟨z6,z6f,hfin⟩:=put_fin (mb:=0) (mc:=0) H.out HB2.out HB24.out HP.out HG2.out (by omega) hk HKK.out HFE.out ho3 hg3 hl3 hzw (by omega); have HF:=hide hfin; clear hfin ho3 hg3 hl3))
  all_goals go_ret
  all_goals (refine ⟨rfl,?_⟩; first | exact HF.out | (subst_vars; exact HF.out))

theorem put36_ok (br:Nat) (cf:Cf) (la:Option Addr) (lc:Nat) (L:List Ent) (id t0 t1 draw:Int) (xs:List Int) (b off pc:Nat) (w:World) (h:RefAt w br cf la lc L) (hr:ptCode cf.dim xs = 0) (hvl:∀ o,IntsAt (w.alloc o) (.slice (some ⟨b,off,none⟩) xs.length pc) xs)
    (hroom:(findE id L).isSome = true ∨ ¬ cf.cap≤L.length) (h60:cf.cap≤60) (h0:0 < xs.length) (h8:xs.length≤8) (hc:∀ i,i < xs.length→w.cell? ⟨b,off + i,none⟩ = some (.int .i64 (xs.getD i 0))) :
    Calls Tryz.prog 71 #[.pointer (some ⟨br,0,none⟩),.int .i64 id,.slice (some ⟨b,off,none⟩) xs.length pc,.agg #[.int .i64 t0,.int .i64 t1],.int .u64 draw] w fun ev w'=>ev = .returned (.int .i64 0)∧RefPut w br cf la lc L id t0 t1 draw xs w':=by
  cases he:findE id L with
  | some e=>exact put36_there br cf la lc L id t0 t1 draw xs b off pc w h hr hvl e he h0 h8 hc
  | none =>
    rcases hroom with hx | hx
    · rw [he] at hx; cases hx
    · exact put36_new br cf la lc L id t0 t1 draw xs b off pc w h hr hvl he hx h60 h0 h8 hc
end
section
open Go.RowKit

section
variable {w0 w:World} {bp:Nat} {lv0 nsv0 nmv0 lv nsv nmv:Value} {nl ns nm:Nat}
theorem InS.mark (h:InS w0 bp lv0 nsv0 nmv0 w lv nl nsv ns nmv nm) (nx:Int) (nq:Nat):InS w0 bp lv0 nsv0 nmv0 ((w.setCell ⟨bp,7,none⟩ (.int .i64 nx)).drewN nq) lv nl nsv ns nmv nm:=by
  obtain ⟨b6,h6⟩:=h.c6
  obtain ⟨b7,h7⟩:=h.c7
  obtain ⟨ys,hy⟩:=h.hs
  obtain ⟨zs,hz⟩:=h.hm
  obtain ⟨ls,hls⟩:=h.hl
  obtain ⟨cs,hc⟩:=h.typ
  have rs:∀ {e:Nat} {v:Value} {n:Nat} {l:List Value},e ≠ 41→w.ownsRow 0 e 1 v n l→((w.setCell ⟨bp,7,none⟩ (.int .i64 nx)).drewN nq).ownsRow 0 e 1 v n l:=fun {e v n l} he hr=>ownsRow_drewN (ownsRow_of_block hr fun g hv=>Below.heap_setCell _ _ _ _ (by
    obtain ⟨c2,h2⟩:=ownsRow_obj hr hv
    exact (ne_of_elem hc h2 (fun e'=>he e'.symm)).symm)) nq
  refine ⟨⟨_,by rw [heap_drewN]; exact heap_setCell_same _ _ _ _ _ _ hc⟩,fun o v ho hv=>(World.cell?_setCell_other w ⟨bp,7,none⟩ ⟨bp,o,none⟩ _ (by simp <;> omega)).trans (h.low o v ho hv),⟨b6,?_⟩,⟨nx,World.cell?_setCell_same w ⟨bp,7,none⟩ _ h7⟩,?_,?_,⟨ls,rs (by decide) hls⟩,⟨ys,rs (by decide) hy⟩,⟨zs,rs (by decide) hz⟩,h.apart,h.ll,h.ls,h.lm,(h.kept.setCell (fun _=>.inl rfl) _).drewN nq⟩
  · exact (World.cell?_setCell_other w ⟨bp,7,none⟩ ⟨bp,6,none⟩ _ (by simp)).trans h6
  · exact (World.cell?_setCell_other w ⟨bp,7,none⟩ ⟨bp,8,none⟩ _ (by simp)).trans h.c8
  · exact (World.cell?_setCell_other w ⟨bp,7,none⟩ ⟨bp,9,none⟩ _ (by simp)).trans h.c9

theorem InS.setL {g n c:Nat} (h:InS w0 bp lv0 nsv0 nmv0 w (.slice (some ⟨g,0,none⟩) n c) n nsv ns nmv nm) (j:Nat) (u:Value):InS w0 bp lv0 nsv0 nmv0 (w.setCell ⟨g,j,none⟩ u) (.slice (some ⟨g,0,none⟩) n c) n nsv ns nmv nm:=by
  obtain ⟨b6,h6⟩:=h.c6
  obtain ⟨b7,h7⟩:=h.c7
  obtain ⟨ys,hy⟩:=h.hs
  obtain ⟨zs,hz⟩:=h.hm
  obtain ⟨ls,hls⟩:=h.hl
  obtain ⟨cs,hc⟩:=h.typ
  obtain ⟨cl,hcl⟩:=ownsRow_obj hls (g:=g) rfl
  have hne:g ≠ bp:=ne_of_elem hcl hc (by decide)
  have cl:∀ {o:Nat} {v:Value},w.cell? ⟨bp,o,none⟩ = some v→(w.setCell ⟨g,j,none⟩ u).cell? ⟨bp,o,none⟩ = some v:=fun hh=>by
    rw [World.cell?_setCell_far _ _ _ _ (by exact hne)]; exact hh
  refine ⟨⟨cs,(Below.heap_setCell _ _ _ _ hne.symm).trans hc⟩,fun o v ho hv=>cl (h.low o v ho hv),⟨b6,cl h6⟩,⟨b7,cl h7⟩,cl h.c8,cl h.c9,⟨_,ownsRow_set hls j u⟩,⟨ys,ownsRow_of_block hy fun g' hv=>Below.heap_setCell _ _ _ _ ?_⟩,⟨zs,ownsRow_of_block hz fun g' hv=>Below.heap_setCell _ _ _ _ ?_⟩,h.apart,h.ll,h.ls,h.lm,h.kept.setCell (fun hlt=>?_) _⟩
  · obtain ⟨c2,h2⟩:=ownsRow_obj hy hv
    exact ne_of_elem h2 hcl (by decide)
  · intro e
    have e':g' = g:=e
    subst e'
    exact h.apart g' rfl hv
  · rcases h.ll g rfl with e | e
    · exact .inr (.inl e)
    · exact absurd e (by have:g < w0.heap.size:=hlt; omega)
end

theorem bd1 (nn:Nat) (h:(nn + 4) * 24≤140737488355328):∀ q,q < 4→(nn + q + 1) * 24≤140737488355328:=fun q _=>Nat.le_trans (Nat.mul_le_mul_right 24 (by omega)) h
theorem bd2 (nn:Nat) (h:(nn + 4) * 24≤140737488355328):∀ q,q < 4→(nn + q + 1) * 8≤140737488355328:=fun q hq=>Nat.le_trans (Nat.mul_le_mul_left (nn + q + 1) (by decide)) (bd1 nn h q hq)
theorem bd3 (n:Nat) (h:(n + 4) * 8≤140737488355328):∀ q,q < 4→(n + q + 1) * 8≤140737488355328:=fun q _=>Nat.le_trans (Nat.mul_le_mul_right 8 (by omega)) h
theorem md3 (n:Nat) (h:(n + 4) * 8≤140737488355328):∀ q,q < 4→n + q + 1≤maxLen:=by intro q hq; unfold maxLen; omega
theorem md1 (nn:Nat) (h:(nn + 4) * 24≤140737488355328):∀ q,q < 4→nn + q + 1≤maxLen:=md3 nn (Nat.le_trans (Nat.mul_le_mul_left (nn + 4) (by decide)) h)
theorem cell_one_new' (w:World) (x:Value) (t:TypeId) (H0:Nat) (h:H0 = w.heap.size):∀ j u,[x][j]? = some u→(w.alloc (.cells #[x] t)).cell? ((⟨H0,0,none⟩:Addr).add j) = some u:=by
  subst h
  exact cell_one_new w x t
theorem one_of_row {w:World} {base e size n:Nat} {v:Value} {xs:List Value} (h:w.ownsRow base e size v n xs):∀ u ∈ [v],u.oneCell' = true:=by
  intro u hu
  simp at hu
  subst hu
  exact ownsRow_oneCell h

end
section
open Go.RowKit

theorem info58b:(Tryz.prog.info? 58).map (fun i=>(i.zero,i.size,i.bytes)) = some (some (.slice none 0 0),1,24):=by kernel_rfl

structure HiS (w0:World) (bp:Nat) (lv0 nsv0 nmv0:Value) (X:Nat) (m m':Int) (w:World) (lv:Value) (nl:Nat) (nsv:Value) (ns:Nat) (nmv:Value) (nm:Nat):Prop where
  typ:∃ cs,w.heap[bp]? = some (.cells cs 41 (0,0))
  low:∀ o v,o ≠ 7∧o ≠ 10∧o ≠ 11→w0.cell? ⟨bp,o,none⟩ = some v→w.cell? ⟨bp,o,none⟩ = some v
  c7:∃ b,w.cell? ⟨bp,7,none⟩ = some (.int .i64 b)
  c8:w.cell? ⟨bp,10,none⟩ = some nsv
  c9:w.cell? ⟨bp,11,none⟩ = some nmv
  hl:∃ xs,w.ownsRow 0 63 2 lv nl xs
  hs:∃ xs,w.ownsRow 0 58 1 nsv ns xs
  hm:∃ xs,w.ownsRow 0 3 1 nmv nm xs
  bx:w.heap[X]? = some (.cells #[.int .i64 m,.int .i64 m'] 63 (0,0))
  lx:lv.ownBlock ≠ some X
  ll:∀ g,lv.ownBlock = some g→lv0.ownBlock = some g ∨ w0.heap.size≤g
  ls:∀ g,nsv.ownBlock = some g→nsv0.ownBlock = some g ∨ w0.heap.size≤g
  lm:∀ g,nmv.ownBlock = some g→nmv0.ownBlock = some g ∨ w0.heap.size≤g
  kept:Kept (fun k=>k = bp ∨ lv0.ownBlock = some k ∨ nsv0.ownBlock = some k ∨ nmv0.ownBlock = some k) w0 w

theorem row_grownN {w w1:World} {o:Obj} {e sz:Nat} {v:Value} {n:Nat} {xs:List Value} {row:Option Nat} (h:w.ownsRow 0 e sz v n xs) (hg:(w.alloc o).grownBy w1 row) (hne:∀ g,v.ownBlock = some g→row ≠ some g):w1.ownsRow 0 e sz v n xs :=
  ownsRow_of_block (h.alloc o) fun g hv=>hg.block g ((h.alloc o).lt g hv).2 (fun e=>hne g hv e.symm)
theorem blk_grown {w w1:World} {o b:Obj} {X:Nat} {row:Option Nat} (h:w.heap[X]? = some b) (hg:(w.alloc o).grownBy w1 row) (hne:row ≠ some X):w1.heap[X]? = some b:=by
  have hlt:=(Array.getElem?_eq_some_iff.1 h).1
  exact (hg.block X (by simp; omega) (fun e=>hne e.symm)).trans ((Below.heap_alloc _ _ _ hlt).trans h)

section
variable {w0 w w1:World} {bp X:Nat} {m m':Int} {lv0 nsv0 nmv0 lv nsv nmv v2:Value} {nl ns nm:Nat} {o:Obj} {xs:List Value}

theorem HiS.lt (h:HiS w0 bp lv0 nsv0 nmv0 X m m' w lv nl nsv ns nmv nm):bp < w.heap.size:=by
  obtain ⟨cs,hc⟩:=h.typ
  exact (Array.getElem?_eq_some_iff.1 hc).1
theorem HiS.ns_ne (h:HiS w0 bp lv0 nsv0 nmv0 X m m' w lv nl nsv ns nmv nm):some bp ≠ nsv.ownBlock:=by
  intro e
  obtain ⟨cs,hc⟩:=h.typ
  obtain ⟨ys,hy⟩:=h.hs
  obtain ⟨c2,h2⟩:=ownsRow_obj hy e.symm
  exact ne_of_elem hc h2 (by decide) rfl
theorem HiS.nm_ne (h:HiS w0 bp lv0 nsv0 nmv0 X m m' w lv nl nsv ns nmv nm):some bp ≠ nmv.ownBlock:=by
  intro e
  obtain ⟨cs,hc⟩:=h.typ
  obtain ⟨ys,hy⟩:=h.hm
  obtain ⟨c2,h2⟩:=ownsRow_obj hy e.symm
  exact ne_of_elem hc h2 (by decide) rfl
theorem HiS.lv_ne (h:HiS w0 bp lv0 nsv0 nmv0 X m m' w lv nl nsv ns nmv nm):some bp ≠ lv.ownBlock:=by
  intro e
  obtain ⟨cs,hc⟩:=h.typ
  obtain ⟨ys,hy⟩:=h.hl
  obtain ⟨c2,h2⟩:=ownsRow_obj hy e.symm
  exact ne_of_elem hc h2 (by decide) rfl
theorem HiS.ns_x (h:HiS w0 bp lv0 nsv0 nmv0 X m m' w lv nl nsv ns nmv nm):nsv.ownBlock ≠ some X:=by
  intro e
  obtain ⟨ys,hy⟩:=h.hs
  obtain ⟨c2,h2⟩:=ownsRow_obj hy e
  exact ne_of_elem h.bx h2 (by decide) rfl
theorem HiS.nm_x (h:HiS w0 bp lv0 nsv0 nmv0 X m m' w lv nl nsv ns nmv nm):nmv.ownBlock ≠ some X:=by
  intro e
  obtain ⟨ys,hy⟩:=h.hm
  obtain ⟨c2,h2⟩:=ownsRow_obj hy e
  exact ne_of_elem h.bx h2 (by decide) rfl
theorem HiS.bp_x (h:HiS w0 bp lv0 nsv0 nmv0 X m m' w lv nl nsv ns nmv nm):X ≠ bp:=by
  obtain ⟨cs,hc⟩:=h.typ
  exact ne_of_elem h.bx hc (by decide)

theorem HiS.stepL (h:HiS w0 bp lv0 nsv0 nmv0 X m m' w lv nl nsv ns nmv nm) (ho:w1.ownsRow 0 63 2 v2 (nl + 1) xs) (hg:(w.alloc o).grownBy w1 lv.ownBlock) (hl:v2.ownBlock = lv.ownBlock ∨ v2.ownBlock = some (w.heap.size + 1)) :
    HiS w0 bp lv0 nsv0 nmv0 X m m' w1 v2 (nl + 1) nsv ns nmv nm:=by
  obtain ⟨b7,h7⟩:=h.c7
  obtain ⟨ys,hy⟩:=h.hs
  obtain ⟨zs,hz⟩:=h.hm
  obtain ⟨ls,hls⟩:=h.hl
  have hz0:=h.kept.size
  have hXl:=(Array.getElem?_eq_some_iff.1 h.bx).1
  refine ⟨typ_grown h.typ hg h.lv_ne,fun o v ho hv=>cell_grown (h.low o v ho hv) hg h.lv_ne,⟨b7,cell_grown h7 hg h.lv_ne⟩,cell_grown h.c8 hg h.lv_ne,cell_grown h.c9 hg h.lv_ne,⟨_,ho⟩,⟨ys,row_grown hy hg ?_⟩,⟨zs,row_grown hz hg ?_⟩,blk_grown h.bx hg h.lx,?_,?_,h.ls,h.lm,?_⟩
  · intro g hn e
    obtain ⟨c1,h1⟩:=ownsRow_obj hy hn
    obtain ⟨c2,h2⟩:=ownsRow_obj hls e
    exact ne_of_elem h1 h2 (by decide) rfl
  · intro g hn e
    obtain ⟨c1,h1⟩:=ownsRow_obj hz hn
    obtain ⟨c2,h2⟩:=ownsRow_obj hls e
    exact ne_of_elem h1 h2 (by decide) rfl
  · intro hv
    rcases hl with e | e
    · exact h.lx (e ▸ hv)
    · rw [hv] at e
      have:=Option.some.inj e
      omega
  · intro g hv
    rcases hl with e | e
    · exact h.ll g (e ▸ hv)
    · rw [hv] at e
      have:=Option.some.inj e
      right; omega
  · exact (h.kept.alloc o).grown hg fun k hk hlt=>by
      rcases h.ll k hk with e | e
      · exact .inr (.inl e)
      · omega

theorem HiS.stepM (h:HiS w0 bp lv0 nsv0 nmv0 X m m' w lv nl nsv ns nmv nm) (ho:w1.ownsRow 0 3 1 v2 (nm + 1) xs) (hg:(w.alloc o).grownBy w1 nmv.ownBlock) (hl:v2.ownBlock = nmv.ownBlock ∨ v2.ownBlock = some (w.heap.size + 1)) :
    HiS w0 bp lv0 nsv0 nmv0 X m m' (w1.setCell ⟨bp,11,none⟩ v2) lv nl nsv ns v2 (nm + 1)∧w1.cell? ⟨bp,11,none⟩ = some nmv∧w1.frozen? ⟨bp,11,none⟩ = false:=by
  obtain ⟨b7,h7⟩:=h.c7
  obtain ⟨ys,hy⟩:=h.hs
  obtain ⟨zs,hz⟩:=h.hm
  obtain ⟨ls,hls⟩:=h.hl
  have hz0:=h.kept.size
  obtain ⟨cs,hc⟩:=typ_grown h.typ hg h.nm_ne
  have k9:=cell_grown h.c9 hg h.nm_ne
  have rs:∀ {e sz:Nat} {v:Value} {n:Nat} {l:List Value},e ≠ 41→w1.ownsRow 0 e sz v n l→(w1.setCell ⟨bp,11,none⟩ v2).ownsRow 0 e sz v n l:=fun {e sz v n l} he hr=>ownsRow_of_block hr fun g hv=>Below.heap_setCell _ _ _ _ (by
    obtain ⟨c2,h2⟩:=ownsRow_obj hr hv
    exact (ne_of_elem hc h2 (fun e'=>he e'.symm)).symm)
  refine ⟨⟨⟨_,heap_setCell_same _ _ _ _ _ _ hc⟩,fun o v ho hv=>(World.cell?_setCell_other _ _ _ _ (by simp <;> omega)).trans (cell_grown (h.low o v ho hv) hg h.nm_ne),⟨b7,?_⟩,?_,World.cell?_setCell_same _ _ _ k9,⟨ls,rs (by decide) (row_grownN hls hg ?_)⟩,⟨ys,rs (by decide) (row_grown hy hg ?_)⟩,⟨_,rs (by decide) ho⟩,?_,h.lx,h.ll,h.ls,?_,?_⟩,k9,by simp [World.frozen?,hc]⟩
  · rw [World.cell?_setCell_other _ _ _ _ (by simp)]; exact cell_grown h7 hg h.nm_ne
  · rw [World.cell?_setCell_other _ _ _ _ (by simp)]; exact cell_grown h.c8 hg h.nm_ne
  · intro g hn e
    obtain ⟨c1,h1⟩:=ownsRow_obj hls hn
    obtain ⟨c2,h2⟩:=ownsRow_obj hz e
    exact ne_of_elem h1 h2 (by decide) rfl
  · intro g hn e
    obtain ⟨c1,h1⟩:=ownsRow_obj hy hn
    obtain ⟨c2,h2⟩:=ownsRow_obj hz e
    exact ne_of_elem h1 h2 (by decide) rfl
  · exact (Below.heap_setCell _ _ _ _ h.bp_x).trans (blk_grown h.bx hg h.nm_x)
  · intro g hv
    rcases hl with e | e
    · exact h.lm g (e ▸ hv)
    · rw [hv] at e
      have:=Option.some.inj e
      right; omega
  · refine Kept.setCell ((h.kept.alloc o).grown hg fun k hk hlt=>?_) (fun _=>.inl rfl) _
    rcases h.lm k hk with e | e
    · exact .inr (.inr (.inr e))
    · omega

theorem HiS.stepN (h:HiS w0 bp lv0 nsv0 nmv0 X m m' w lv nl nsv ns nmv nm) (ho:w1.ownsRow 0 58 1 v2 (ns + 1) xs) (hg:(w.alloc o).grownBy w1 nsv.ownBlock) (hl:v2.ownBlock = nsv.ownBlock ∨ v2.ownBlock = some (w.heap.size + 1)) :
    HiS w0 bp lv0 nsv0 nmv0 X m m' (w1.setCell ⟨bp,10,none⟩ v2) lv nl v2 (ns + 1) nmv nm∧w1.cell? ⟨bp,10,none⟩ = some nsv∧w1.cell? ⟨bp,11,none⟩ = some nmv∧w1.frozen? ⟨bp,10,none⟩ = false:=by
  obtain ⟨b7,h7⟩:=h.c7
  obtain ⟨ys,hy⟩:=h.hs
  obtain ⟨zs,hz⟩:=h.hm
  obtain ⟨ls,hls⟩:=h.hl
  have hz0:=h.kept.size
  obtain ⟨cs,hc⟩:=typ_grown h.typ hg h.ns_ne
  have k8:=cell_grown h.c8 hg h.ns_ne
  have rs:∀ {e sz:Nat} {v:Value} {n:Nat} {l:List Value},e ≠ 41→w1.ownsRow 0 e sz v n l→(w1.setCell ⟨bp,10,none⟩ v2).ownsRow 0 e sz v n l:=fun {e sz v n l} he hr=>ownsRow_of_block hr fun g hv=>Below.heap_setCell _ _ _ _ (by
    obtain ⟨c2,h2⟩:=ownsRow_obj hr hv
    exact (ne_of_elem hc h2 (fun e'=>he e'.symm)).symm)
  refine ⟨⟨⟨_,heap_setCell_same _ _ _ _ _ _ hc⟩,fun o v ho hv=>(World.cell?_setCell_other _ _ _ _ (by simp <;> omega)).trans (cell_grown (h.low o v ho hv) hg h.ns_ne),⟨b7,?_⟩,World.cell?_setCell_same _ _ _ k8,?_,⟨ls,rs (by decide) (row_grownN hls hg ?_)⟩,⟨_,rs (by decide) ho⟩,⟨zs,rs (by decide) (row_grown hz hg ?_)⟩,?_,h.lx,h.ll,?_,h.lm,?_⟩,k8,cell_grown h.c9 hg h.ns_ne,by simp [World.frozen?,hc]⟩
  · rw [World.cell?_setCell_other _ _ _ _ (by simp)]; exact cell_grown h7 hg h.ns_ne
  · rw [World.cell?_setCell_other _ _ _ _ (by simp)]; exact cell_grown h.c9 hg h.ns_ne
  · intro g hn e
    obtain ⟨c1,h1⟩:=ownsRow_obj hls hn
    obtain ⟨c2,h2⟩:=ownsRow_obj hy e
    exact ne_of_elem h1 h2 (by decide) rfl
  · intro g hn e
    obtain ⟨c1,h1⟩:=ownsRow_obj hz hn
    obtain ⟨c2,h2⟩:=ownsRow_obj hy e
    exact ne_of_elem h1 h2 (by decide) rfl
  · exact (Below.heap_setCell _ _ _ _ h.bp_x).trans (blk_grown h.bx hg h.ns_x)
  · intro g hv
    rcases hl with e | e
    · exact h.ls g (e ▸ hv)
    · rw [hv] at e
      have:=Option.some.inj e
      right; omega
  · refine Kept.setCell ((h.kept.alloc o).grown hg fun k hk hlt=>?_) (fun _=>.inl rfl) _
    rcases h.ls k hk with e | e
    · exact .inr (.inr (.inl e))
    · omega

theorem HiS.setL {g n c:Nat} (h:HiS w0 bp lv0 nsv0 nmv0 X m m' w (.slice (some ⟨g,0,none⟩) n c) n nsv ns nmv nm) (j:Nat) (u:Value):HiS w0 bp lv0 nsv0 nmv0 X m m' (w.setCell ⟨g,j,none⟩ u) (.slice (some ⟨g,0,none⟩) n c) n nsv ns nmv nm:=by
  obtain ⟨b7,h7⟩:=h.c7
  obtain ⟨ys,hy⟩:=h.hs
  obtain ⟨zs,hz⟩:=h.hm
  obtain ⟨ls,hls⟩:=h.hl
  obtain ⟨cs,hc⟩:=h.typ
  obtain ⟨cl,hcl⟩:=ownsRow_obj hls (g:=g) rfl
  have hne:g ≠ bp:=ne_of_elem hcl hc (by decide)
  have cl:∀ {o:Nat} {v:Value},w.cell? ⟨bp,o,none⟩ = some v→(w.setCell ⟨g,j,none⟩ u).cell? ⟨bp,o,none⟩ = some v:=fun hh=>by
    rw [World.cell?_setCell_far _ _ _ _ (by exact hne)]; exact hh
  have hgx:X ≠ g:=fun e=>h.lx (by rw [e]; rfl)
  refine ⟨⟨cs,(Below.heap_setCell _ _ _ _ hne.symm).trans hc⟩,fun o v ho hv=>cl (h.low o v ho hv),⟨b7,cl h7⟩,cl h.c8,cl h.c9,⟨_,ownsRow_set hls j u⟩,⟨ys,ownsRow_of_block hy fun g' hv=>Below.heap_setCell _ _ _ _ ?_⟩,⟨zs,ownsRow_of_block hz fun g' hv=>Below.heap_setCell _ _ _ _ ?_⟩,(Below.heap_setCell _ _ _ _ hgx).trans h.bx,h.lx,h.ll,h.ls,h.lm,h.kept.setCell (fun hlt=>?_) _⟩
  · obtain ⟨c2,h2⟩:=ownsRow_obj hy hv
    exact ne_of_elem h2 hcl (by decide)
  · obtain ⟨c2,h2⟩:=ownsRow_obj hz hv
    exact ne_of_elem h2 hcl (by decide)
  · rcases h.ll g rfl with e | e
    · exact .inr (.inl e)
    · exact absurd e (by have:g < w0.heap.size:=hlt; omega)
end
end
section
open Go.RowKit

theorem HiS.start {w:World} {bp:Nat} {lv nsv nmv:Value} {n nn:Nat} (typ:∃ cs,w.heap[bp]? = some (.cells cs 41 (0,0))) (c7:∃ b,w.cell? ⟨bp,7,none⟩ = some (.int .i64 b)) (c8:w.cell? ⟨bp,10,none⟩ = some nsv) (c9:w.cell? ⟨bp,11,none⟩ = some nmv) (hl:∃ xs,w.ownsRow 0 63 2 lv n xs) (hs:∃ xs,w.ownsRow 0 58 1 nsv nn xs) (hm:∃ xs,w.ownsRow 0 3 1 nmv nn xs) (nx m m':Int) (nq:Nat) :
    HiS w bp lv nsv nmv w.heap.size m m' (((w.setCell ⟨bp,7,none⟩ (.int .i64 nx)).drewN nq).alloc (.cells #[.int .i64 m,.int .i64 m'] 63)) lv n nsv nn nmv nn:=by
  obtain ⟨cs,hc⟩:=typ
  obtain ⟨b7,h7⟩:=c7
  obtain ⟨ys,hy⟩:=hs
  obtain ⟨zs,hz⟩:=hm
  obtain ⟨ls,hls⟩:=hl
  have hlt:=(Array.getElem?_eq_some_iff.1 hc).1
  have hsz:((w.setCell ⟨bp,7,none⟩ (.int .i64 nx)).drewN nq).heap.size = w.heap.size:=by simp
  have rs:∀ {e sz:Nat} {v:Value} {n:Nat} {l:List Value},e ≠ 41→w.ownsRow 0 e sz v n l→(((w.setCell ⟨bp,7,none⟩ (.int .i64 nx)).drewN nq).alloc (.cells #[.int .i64 m,.int .i64 m'] 63)).ownsRow 0 e sz v n l:=fun {e sz v n l} he hr=>(ownsRow_drewN (ownsRow_of_block hr fun g hv=>Below.heap_setCell _ _ _ _ (by
    obtain ⟨c2,h2⟩:=ownsRow_obj hr hv
    exact (ne_of_elem hc h2 (fun e'=>he e'.symm)).symm)) nq).alloc _
  have cl:∀ {k:Nat} {v:Value},(w.setCell ⟨bp,7,none⟩ (.int .i64 nx)).cell? ⟨bp,k,none⟩ = some v→(((w.setCell ⟨bp,7,none⟩ (.int .i64 nx)).drewN nq).alloc (.cells #[.int .i64 m,.int .i64 m'] 63)).cell? ⟨bp,k,none⟩ = some v:=fun {k v} hv=>by
    have h1:((w.setCell ⟨bp,7,none⟩ (.int .i64 nx)).drewN nq).cell? ⟨bp,k,none⟩ = some v:=hv
    rw [World.cell?_alloc_lt _ _ _ (by rw [hsz]; exact hlt)]; exact h1
  refine ⟨⟨_,(Below.heap_alloc _ _ _ (by rw [hsz]; exact hlt)).trans (by rw [heap_drewN]; exact heap_setCell_same _ _ _ _ _ _ hc)⟩,fun o v ho hv=>cl ((World.cell?_setCell_other w ⟨bp,7,none⟩ ⟨bp,o,none⟩ _ (by simp <;> omega)).trans hv),⟨nx,cl (World.cell?_setCell_same w ⟨bp,7,none⟩ _ h7)⟩,cl ((World.cell?_setCell_other w ⟨bp,7,none⟩ ⟨bp,10,none⟩ _ (by simp)).trans c8),cl ((World.cell?_setCell_other w ⟨bp,7,none⟩ ⟨bp,11,none⟩ _ (by simp)).trans c9),⟨ls,rs (by decide) hls⟩,⟨ys,rs (by decide) hy⟩,⟨zs,rs (by decide) hz⟩,?_,fun e=>?_,fun _ hg=>.inl hg,fun _ hg=>.inl hg,fun _ hg=>.inl hg,?_⟩
  · have:=heap_alloc_new ((w.setCell ⟨bp,7,none⟩ (.int .i64 nx)).drewN nq) (.cells #[.int .i64 m,.int .i64 m'] 63)
    rwa [hsz] at this
  · have:=(hls.lt _ e).2; omega
  · exact (((Kept.refl _ w).setCell (p:=⟨bp,7,none⟩) (fun _=>.inl rfl) _).drewN nq).alloc _

theorem news_two (w:World) (x y:Value) (t:TypeId) (H0:Nat) (h:H0 = w.heap.size):∀ j u,[x,y][j]? = some u→(w.alloc (.cells #[x,y] t)).cell? ((⟨H0,0,none⟩:Addr).add j) = some u:=by
  subst h
  exact World.news_of_block (cs:=#[x,y]) (t:=t) (fr:=(0,0)) (heap_alloc_new _ _)
theorem hd16 (n:Nat) (h:n≤1000):∀ q,q < 4→n + q + 1≤maxLen∧(n + q + 1) * 16≤140737488355328:=by
  intro q hq
  unfold maxLen
  omega

end
section
open Go.RowKit Go.Maps

structure ApS (o E e sz:Nat) (w0:World) (bp:Nat) (lv0 nsv0 nmv0:Value) (w:World) (lv:Value) (nl:Nat) (nsv:Value) (ns:Nat) (nmv:Value) (nm:Nat):Prop where
  typ:∃ cs,w.heap[bp]? = some (.cells cs 41 (0,0))
  low:∀ k v,k ≠ o∧k ≠ o + 1→w0.cell? ⟨bp,k,none⟩ = some v→w.cell? ⟨bp,k,none⟩ = some v
  c8:w.cell? ⟨bp,o,none⟩ = some nsv
  c9:w.cell? ⟨bp,o + 1,none⟩ = some nmv
  hl:∃ xs,w.ownsRow 0 e sz lv nl xs
  hs:∃ xs,w.ownsRow 0 E 1 nsv ns xs
  hm:∃ xs,w.ownsRow 0 3 1 nmv nm xs
  tys:e ≠ 41∧e ≠ 3∧e ≠ E∧E ≠ 41∧E ≠ 3
  ll:∀ g,lv.ownBlock = some g→lv0.ownBlock = some g ∨ w0.heap.size≤g
  ls:∀ g,nsv.ownBlock = some g→nsv0.ownBlock = some g ∨ w0.heap.size≤g
  lm:∀ g,nmv.ownBlock = some g→nmv0.ownBlock = some g ∨ w0.heap.size≤g
  kept:Kept (fun k=>k = bp ∨ lv0.ownBlock = some k ∨ nsv0.ownBlock = some k ∨ nmv0.ownBlock = some k) w0 w
section
variable {o E e sz:Nat} {w0 w w1:World} {bp:Nat} {lv0 nsv0 nmv0 lv nsv nmv v2:Value} {nl ns nm:Nat} {xs:List Value} {N1:Nat} {wa:World}
theorem ApS.lt (h:ApS o E e sz w0 bp lv0 nsv0 nmv0 w lv nl nsv ns nmv nm):bp < w.heap.size:=by
  obtain ⟨cs,hc⟩:=h.typ
  exact (Array.getElem?_eq_some_iff.1 hc).1
theorem ApS.below (h:ApS o E e sz w0 bp lv0 nsv0 nmv0 w lv nl nsv ns nmv nm) (hb:Below w.heap.size w w1):ApS o E e sz w0 bp lv0 nsv0 nmv0 w1 lv nl nsv ns nmv nm:=by
  obtain ⟨cs,hc⟩:=h.typ
  obtain ⟨x1,h1⟩:=h.hl
  obtain ⟨x2,h2⟩:=h.hs
  obtain ⟨x3,h3⟩:=h.hm
  exact ⟨⟨cs,(hb.block _ h.lt).trans hc⟩,fun k v hk hv=>Below.at hb (h.low k v hk hv) h.lt,Below.at hb h.c8 h.lt,Below.at hb h.c9 h.lt,⟨x1,ownsRow_below h1 hb⟩,⟨x2,ownsRow_below h2 hb⟩,⟨x3,ownsRow_below h3 hb⟩,h.tys,h.ll,h.ls,h.lm,h.kept.below hb⟩
theorem ApS.ns_ne (h:ApS o E e sz w0 bp lv0 nsv0 nmv0 w lv nl nsv ns nmv nm):nsv.ownBlock ≠ some bp:=by
  intro e'
  obtain ⟨cs,hc⟩:=h.typ
  obtain ⟨ys,hy⟩:=h.hs
  obtain ⟨c2,h2⟩:=ownsRow_obj hy e'
  exact ne_of_elem hc h2 (Ne.symm h.tys.2.2.2.1) rfl
theorem ApS.nm_ne (h:ApS o E e sz w0 bp lv0 nsv0 nmv0 w lv nl nsv ns nmv nm):nmv.ownBlock ≠ some bp:=by
  intro e'
  obtain ⟨cs,hc⟩:=h.typ
  obtain ⟨ys,hy⟩:=h.hm
  obtain ⟨c2,h2⟩:=ownsRow_obj hy e'
  exact ne_of_elem hc h2 (by decide) rfl
theorem ApS.lv_ne (h:ApS o E e sz w0 bp lv0 nsv0 nmv0 w lv nl nsv ns nmv nm):lv.ownBlock ≠ some bp:=by
  intro e'
  obtain ⟨cs,hc⟩:=h.typ
  obtain ⟨ys,hy⟩:=h.hl
  obtain ⟨c2,h2⟩:=ownsRow_obj hy e'
  exact ne_of_elem hc h2 (Ne.symm h.tys.1) rfl
theorem ty_ne {w:World} {e1 e2 sz1 sz2 n1 n2:Nat} {v1 v2:Value} {x1 x2:List Value} (h1:w.ownsRow 0 e1 sz1 v1 n1 x1) (h2:w.ownsRow 0 e2 sz2 v2 n2 x2) (hne:e1 ≠ e2):∀ g,v1.ownBlock = some g→v2.ownBlock ≠ some g:=fun g a b=>by
  obtain ⟨c1,k1⟩:=ownsRow_obj h1 a
  obtain ⟨c2,k2⟩:=ownsRow_obj h2 b
  exact ne_of_elem k1 k2 hne rfl
theorem row_g {w w1:World} {e sz:Nat} {v:Value} {n:Nat} {xs:List Value} {row:Option Nat} (h:w.ownsRow 0 e sz v n xs) (hg:w.grownBy w1 row) (hne:∀ g,v.ownBlock = some g→row ≠ some g):w1.ownsRow 0 e sz v n xs :=
  ownsRow_of_block h fun g hv=>hg.block g (h.lt g hv).2 (fun e=>hne g hv e.symm)
theorem cell_g {w w1:World} {b k:Nat} {v:Value} {row:Option Nat} (h:w.cell? ⟨b,k,none⟩ = some v) (hg:w.grownBy w1 row) (hne:row ≠ some b):w1.cell? ⟨b,k,none⟩ = some v :=
  hg.cell h (fun e=>hne e.symm)
theorem typ_g {w w1:World} {b:Nat} {row:Option Nat} (h:∃ cs,w.heap[b]? = some (.cells cs 41 (0,0))) (hg:w.grownBy w1 row) (hne:row ≠ some b):∃ cs,w1.heap[b]? = some (.cells cs 41 (0,0)):=by
  obtain ⟨cs,hc⟩:=h
  exact ⟨cs,(hg.block b (heap_lt hc) (fun e=>hne e.symm)).trans hc⟩

theorem ApS.stepL (h:ApS o E e sz w0 bp lv0 nsv0 nmv0 w lv nl nsv ns nmv nm) (ho:w1.ownsRow 0 e sz v2 (nl + 1) xs) (hg:w.grownBy w1 lv.ownBlock) (hl:v2.ownBlock = lv.ownBlock ∨ v2.ownBlock = some w.heap.size) :
    ApS o E e sz w0 bp lv0 nsv0 nmv0 w1 v2 (nl + 1) nsv ns nmv nm:=by
  obtain ⟨ys,hy⟩:=h.hs
  obtain ⟨zs,hz⟩:=h.hm
  obtain ⟨ls,hls⟩:=h.hl
  have hz0:=h.kept.size
  refine ⟨typ_g h.typ hg h.lv_ne,fun k v hk hv=>cell_g (h.low k v hk hv) hg h.lv_ne,cell_g h.c8 hg h.lv_ne,cell_g h.c9 hg h.lv_ne,⟨_,ho⟩,⟨ys,row_g hy hg ?_⟩,⟨zs,row_g hz hg ?_⟩,h.tys,?_,h.ls,h.lm,?_⟩
  · intro g hn e'
    obtain ⟨c1,h1⟩:=ownsRow_obj hy hn
    obtain ⟨c2,h2⟩:=ownsRow_obj hls e'
    exact ne_of_elem h2 h1 h.tys.2.2.1 rfl
  · intro g hn e'
    obtain ⟨c1,h1⟩:=ownsRow_obj hz hn
    obtain ⟨c2,h2⟩:=ownsRow_obj hls e'
    exact ne_of_elem h2 h1 h.tys.2.1 rfl
  · intro g hv
    rcases hl with e' | e'
    · exact h.ll g (e' ▸ hv)
    · rw [hv] at e'
      have:=Option.some.inj e'
      right; omega
  · exact h.kept.grown hg fun k hk hlt=>by
      rcases h.ll k hk with e' | e'
      · exact .inr (.inl e')
      · omega

theorem ApS.stepM (h:ApS o E e sz w0 bp lv0 nsv0 nmv0 w lv nl nsv ns nmv nm) (ho:w1.ownsRow 0 3 1 v2 (nm + 1) xs) (hg:w.grownBy w1 nmv.ownBlock) (hl:v2.ownBlock = nmv.ownBlock ∨ v2.ownBlock = some w.heap.size) :
    ApS o E e sz w0 bp lv0 nsv0 nmv0 (w1.setCell ⟨bp,o + 1,none⟩ v2) lv nl nsv ns v2 (nm + 1)∧w1.cell? ⟨bp,o + 1,none⟩ = some nmv∧w1.frozen? ⟨bp,o + 1,none⟩ = false:=by
  obtain ⟨ys,hy⟩:=h.hs
  obtain ⟨zs,hz⟩:=h.hm
  obtain ⟨ls,hls⟩:=h.hl
  have hz0:=h.kept.size
  obtain ⟨cs,hc⟩:=typ_g h.typ hg h.nm_ne
  have k9:=cell_g h.c9 hg h.nm_ne
  have rs:∀ {e sz:Nat} {v:Value} {n:Nat} {l:List Value},e ≠ 41→w1.ownsRow 0 e sz v n l→(w1.setCell ⟨bp,o + 1,none⟩ v2).ownsRow 0 e sz v n l:=fun {e sz v n l} he hr=>ownsRow_of_block hr fun g hv=>Below.heap_setCell _ _ _ _ (by
    obtain ⟨c2,h2⟩:=ownsRow_obj hr hv
    exact (ne_of_elem hc h2 (fun e'=>he e'.symm)).symm)
  refine ⟨⟨⟨_,heap_setCell_same _ _ _ _ _ _ hc⟩,fun k v hk hv=>(World.cell?_setCell_other _ _ _ _ (by simp <;> omega)).trans (cell_g (h.low k v hk hv) hg h.nm_ne),?_,World.cell?_setCell_same _ _ _ k9,⟨ls,rs h.tys.1 (row_g hls hg ?_)⟩,⟨ys,rs h.tys.2.2.2.1 (row_g hy hg ?_)⟩,⟨_,rs (by decide) ho⟩,h.tys,h.ll,h.ls,?_,?_⟩,k9,by simp [World.frozen?,hc]⟩
  · rw [World.cell?_setCell_other _ _ _ _ (by simp)]; exact cell_g h.c8 hg h.nm_ne
  · intro g hn e'
    obtain ⟨c1,h1⟩:=ownsRow_obj hls hn
    obtain ⟨c2,h2⟩:=ownsRow_obj hz e'
    exact ne_of_elem h1 h2 h.tys.2.1 rfl
  · intro g hn e'
    obtain ⟨c1,h1⟩:=ownsRow_obj hy hn
    obtain ⟨c2,h2⟩:=ownsRow_obj hz e'
    exact ne_of_elem h1 h2 h.tys.2.2.2.2 rfl
  · intro g hv
    rcases hl with e' | e'
    · exact h.lm g (e' ▸ hv)
    · rw [hv] at e'
      have:=Option.some.inj e'
      right; omega
  · refine Kept.setCell (h.kept.grown hg fun k hk hlt=>?_) (fun _=>.inl rfl) _
    rcases h.lm k hk with e' | e'
    · exact .inr (.inr (.inr e'))
    · omega

theorem ApS.stepN (h:ApS o E e sz w0 bp lv0 nsv0 nmv0 w lv nl nsv ns nmv nm) (ho:w1.ownsRow 0 E 1 v2 (ns + 1) xs) (hg:w.grownBy w1 nsv.ownBlock) (hl:v2.ownBlock = nsv.ownBlock ∨ v2.ownBlock = some w.heap.size) :
    ApS o E e sz w0 bp lv0 nsv0 nmv0 (w1.setCell ⟨bp,o,none⟩ v2) lv nl v2 (ns + 1) nmv nm∧w1.cell? ⟨bp,o,none⟩ = some nsv∧w1.cell? ⟨bp,o + 1,none⟩ = some nmv∧w1.frozen? ⟨bp,o,none⟩ = false:=by
  obtain ⟨ys,hy⟩:=h.hs
  obtain ⟨zs,hz⟩:=h.hm
  obtain ⟨ls,hls⟩:=h.hl
  have hz0:=h.kept.size
  obtain ⟨cs,hc⟩:=typ_g h.typ hg h.ns_ne
  have k8:=cell_g h.c8 hg h.ns_ne
  have rs:∀ {e sz:Nat} {v:Value} {n:Nat} {l:List Value},e ≠ 41→w1.ownsRow 0 e sz v n l→(w1.setCell ⟨bp,o,none⟩ v2).ownsRow 0 e sz v n l:=fun {e sz v n l} he hr=>ownsRow_of_block hr fun g hv=>Below.heap_setCell _ _ _ _ (by
    obtain ⟨c2,h2⟩:=ownsRow_obj hr hv
    exact (ne_of_elem hc h2 (fun e'=>he e'.symm)).symm)
  refine ⟨⟨⟨_,heap_setCell_same _ _ _ _ _ _ hc⟩,fun k v hk hv=>(World.cell?_setCell_other _ _ _ _ (by simp <;> omega)).trans (cell_g (h.low k v hk hv) hg h.ns_ne),World.cell?_setCell_same _ _ _ k8,?_,⟨ls,rs h.tys.1 (row_g hls hg ?_)⟩,⟨_,rs h.tys.2.2.2.1 ho⟩,⟨zs,rs (by decide) (row_g hz hg ?_)⟩,h.tys,h.ll,?_,h.lm,?_⟩,k8,cell_g h.c9 hg h.ns_ne,by simp [World.frozen?,hc]⟩
  · rw [World.cell?_setCell_other _ _ _ _ (by simp)]; exact cell_g h.c9 hg h.ns_ne
  · intro g hn e'
    obtain ⟨c1,h1⟩:=ownsRow_obj hls hn
    obtain ⟨c2,h2⟩:=ownsRow_obj hy e'
    exact ne_of_elem h1 h2 h.tys.2.2.1 rfl
  · intro g hn e'
    obtain ⟨c1,h1⟩:=ownsRow_obj hz hn
    obtain ⟨c2,h2⟩:=ownsRow_obj hy e'
    exact ne_of_elem h2 h1 h.tys.2.2.2.2 rfl
  · intro g hv
    rcases hl with e' | e'
    · exact h.ls g (e' ▸ hv)
    · rw [hv] at e'
      have:=Option.some.inj e'
      right; omega
  · refine Kept.setCell (h.kept.grown hg fun k hk hlt=>?_) (fun _=>.inl rfl) _
    rcases h.ls k hk with e' | e'
    · exact .inr (.inr (.inl e'))
    · omega
end
end
end Go.Proofs.YtpkiefjanmfgfaaGreatDoor
