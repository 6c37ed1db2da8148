import Derived.Test.YtpkiefjanmfgfaaGreatDoorAll05
import Derived.Test.YtpkiefjanmfgfaaGreatDoorAll06
namespace Go.Proofs.YtpkiefjanmfgfaaGreatDoor
section
open Go.RowKit Go.Maps

structure WalkAt (w:World) (bw bg mk:Nat) (caps:Array Value) (bn:Nat) (kn:List (Int × Int)):Prop where
  blk:w.heap[bw]? = some (.cells #[.pointer (some ⟨bg,0,none⟩),.func (.func mk) #[] caps,.map (some bn)] 171 (0,0))
  map:AMap intKey w bn (levV kn)
section
variable {w w':World} {bw bg mk:Nat} {caps:Array Value} {bn:Nat} {kn:List (Int × Int)}
theorem WalkAt.below (h:WalkAt w bw bg mk caps bn kn) (hk:Below w.heap.size w w'):WalkAt w' bw bg mk caps bn kn:=⟨(hk.block _ (heap_lt h.blk)).trans h.blk,h.map.below hk⟩
theorem WalkAt.kept {S:Nat→Prop} (h:WalkAt w bw bg mk caps bn kn) (hk:Kept S w w') (h1:¬ S bw) (h2:¬ S bn):WalkAt w' bw bg mk caps bn kn:=⟨(hk.block _ (heap_lt h.blk) h1).trans h.blk,h.map.kept hk h2⟩
end

def knowL (dd:Int→Int) (kn:List (Int × Int)) (id:Int):List (Int × Int):=if levOf kn id = none then (id,dd id) :: kn else kn

set_option maxHeartbeats 2000000 in
set_option maxRecDepth 20000 in
theorem hit103 (bw bg mk:Nat) (caps:Array Value) (bn:Nat) (kn:List (Int × Int)) (dd:Int→Int) (id:Int) (w:World) (h:WalkAt w bw bg mk caps bn kn) (hid:I64 id) (hn:kn.length≤1000) (hkn:∀ p ∈ kn,p.2 = dd p.1)
    (eg:∀ args w,(callFunc mk args).run Tryz.prog w = .ok (.enter mk args) w)
    (hm:∀ W,Below w.heap.size w W→Calls Tryz.prog mk (#[.int .i64 id] ++ caps) W fun e W'=>e = .returned (.int .i64 (dd id))∧Below W.heap.size W W') :
    Calls Tryz.prog 107 #[.pointer (some ⟨bw,0,none⟩),.int .i64 id] w fun ev w'=>ev = .returned (.agg #[.int .i64 id,.int .i64 (dd id)])∧WalkAt w' bw bg mk caps bn (knowL dd kn id)∧Kept (fun k=>k = bn) w w':=by
  have hA:=h.below ((Below.refl _ _).alloc (Nat.le_refl _) (.cells #[.int .i64 0,.int .i64 0] 63))
  have hbA:Below w.heap.size w (w.alloc (.cells #[.int .i64 0,.int .i64 0] 63)):=(Below.refl _ _).alloc (Nat.le_refl _) _
  have hzA:(w.alloc (.cells #[.int .i64 0,.int .i64 0] 63)).heap[w.heap.size]? = some (.cells #[.int .i64 0,.int .i64 0] 63 (0,0)):=heap_alloc_new _ _
  have hlk:(Instr.lookup 169 (.map (some bn)) (.int .i64 id) true).run Tryz.prog (w.alloc (.cells #[.int .i64 0,.int .i64 0] 63)) = _:=hA.map.look_ok Tryz.underlying169 (zero3 _) id hid
  rw [getA_levV] at hlk
  have hmW:=hm _ hbA
  have c0:=cells_at h.blk 0 rfl
  have c1:=cells_at h.blk 1 rfl
  have c2:=cells_at h.blk 2 rfl
  have hbw:=heap_lt h.blk
  have HW:=hide h
  have HA:=hide hA
  have HB:=hide hbA
  have HZ:=hide hzA
  have HMW:=hide hmW
  have HKN:=hide hkn
  have HN:=hide hn
  clear h hm hA hbA hzA hmW hkn hn
  cases hv:levOf kn id with
  | some d =>
    have hd:d = dd id:=HKN.out _ (levOf_mem hv)
    subst hd
    have hkl:knowL dd kn id = kn:=by rw [knowL,if_neg (by rw [hv]; simp)]
    rw [hkl]
    rw [hv] at hlk
    simp only [Option.map_some,Option.getD_some,Option.isSome_some] at hlk
    clear hv hkl
    go_enter Tryz.func107,Tryz.ntmps107
    go_wp2
    refine bodyPost_ret (v:=.agg #[.int .i64 id,.int .i64 (dd id)]) (by simp [results,Tryz.results107,go_sem]) rfl ⟨rfl,?_,?_⟩
    · exact HW.out.below ((Below.refl _ _).alloc (Nat.le_refl _) _)
    · exact Kept.of_below _ ((Below.refl _ _).alloc (Nat.le_refl _) _)
  | none =>
    have hkl:knowL dd kn id = (id,dd id) :: kn:=by rw [knowL,if_pos hv]
    rw [hkl]
    rw [hv] at hlk
    simp only [Option.map_none,Option.getD_none,Option.isSome_none] at hlk
    have HV:=hide hv
    clear hv hkl
    go_enter Tryz.func107,Tryz.ntmps107
    go_wp2_with fail
    refine HMW.out.mono ?_
    rintro e2 w2 ⟨rfl,hb2⟩
    have hA2:=HA.out.below hb2
    obtain ⟨w3,hrun,ham,hk3⟩:=hA2.map.put Tryz.underlying169 (by unfold levV maxLen; rw [List.length_map]; have:=HN.out; omega) id hid (.int .i64 (dd id))
    rw [putA_new (by rw [getA_levV,HV.out]; rfl)] at ham
    have hrun':(Instr.mapUpdate 169 (.map (some bn)) (.int .i64 id) (.int .i64 (dd id))).run Tryz.prog w2 = .ok () w3:=hrun
    have d2:=cells_at hA2.blk 2 rfl
    have hz2:w2.heap[w.heap.size]? = some (.cells #[.int .i64 0,.int .i64 0] 63 (0,0)):=(hb2.block _ (heap_lt HZ.out)).trans HZ.out
    have hz3:w3.heap[w.heap.size]? = some (.cells #[.int .i64 0,.int .i64 0] 63 (0,0)):=(hk3.block _ (heap_lt hz2) (hA2.map.not_cells hz2)).trans hz2
    have hw3:WalkAt w3 bw bg mk caps bn ((id,dd id) :: kn):=⟨(hk3.block _ (heap_lt hA2.blk) (hA2.map.not_cells hA2.blk)).trans hA2.blk,ham⟩
    have z0:=cells_at hz3 0 rfl
    have z1:=cells_at hz3 1 rfl
    have zf:=cells_frozen hz3
    have HW3:=hide hw3
    have HK3:=hide hk3
    have HB2:=hide hb2
    have HNM:Hid (bn ≠ w.heap.size):=fun e=>hA2.map.not_cells hz2 e.symm
    clear hA2 hrun ham hz2 hz3 hw3 hk3 hb2 HMW hlk
    go_wp2
    refine bodyPost_ret (v:=.agg #[.int .i64 id,.int .i64 (dd id)]) (by simp [results,Tryz.results107,go_sem,z0,z1]) rfl ⟨rfl,?_,?_⟩
    · refine HW3.out.kept (S:=fun k=>k = w.heap.size) (((Kept.refl _ w3).setG 0 _).setG 1 _) (by omega) HNM.out
    · refine (((Kept.of_below (fun k=>k = bn) HB.out).below HB2.out).trans HK3.out (fun _ _ e=>e)).setCell (fun e=>absurd e (Nat.lt_irrefl _)) _ |>.setCell (fun e=>absurd e (Nat.lt_irrefl _)) _
end
section
open Go.RowKit Go.Maps

structure AS where
  met:List Int
  kn:List (Int × Int)
  C:List Hit
  Fd:List Hit
def metV (met:List Int):List (Int × Value):=met.map fun i=>(i,.agg #[])
def meetL (dd:Int→Int) (want:Int→Bool) (width:Int) (s:AS) (id:Int):AS :=
  if id ∈ s.met then s else ⟨id :: s.met,knowL dd s.kn id,pushL 104 s.C (id,dd id),if want id = true then addL width s.Fd (id,dd id) else s.Fd⟩

theorem getA_metV (id:Int):∀ met:List Int,getA id (metV met) = if id ∈ met then some (.agg #[]) else none
  | []=>rfl
  | i :: met=>by
    unfold metV
    rw [List.map_cons,getA_cons]
    by_cases h:i = id
    · simp [h]
    · rw [if_neg h]
      have:=getA_metV id met
      unfold metV at this
      rw [this]
      have h2:¬ id = i:=fun e=>h e.symm
      simp [h2]

structure Lay where
  (b1 b2 b3 b4 b5 bm bw bg ms:Nat)
  caps:Array Value
  (bn bq bf bq2 wk:Nat)
  wcaps:Array Value
  N0:Nat

structure MeetAt (L:Lay) (w:World) (v1 v2:Value) (width:Int) (s:AS):Prop where
  h1:w.heap[L.b1]? = some (.cells #[.map (some L.bm)] 179 (0,0))
  h2:w.heap[L.b2]? = some (.cells #[.pointer (some ⟨L.bw,0,none⟩)] 116 (0,0))
  h3:w.heap[L.b3]? = some (.cells #[.pointer (some ⟨L.bq,0,none⟩)] 174 (0,0))
  h4:w.heap[L.b4]? = some (.cells #[.func (.func L.wk) #[] L.wcaps] 121 (0,0))
  h5:w.heap[L.b5]? = some (.cells #[.pointer (some ⟨L.bf,0,none⟩)] 177 (0,0))
  met:AMap intKey w L.bm (metV s.met)
  walk:WalkAt w L.bw L.bg L.ms L.caps L.bn s.kn
  cand:QAt w L.bq 104 v1 s.C
  fnd:BeamAt w L.bf L.bq2 v2 width s.Fd
  mn:L.bm ≠ L.bn
  qq:L.bq ≠ L.bq2
  rr:∀ g,v1.ownBlock = some g→v2.ownBlock ≠ some g
  n1:L.N0≤L.bm
  n3:L.N0≤L.bq
  n4:L.N0≤L.bq2
  n5:∀ g,v1.ownBlock = some g→L.N0≤g
  n6:∀ g,v2.ownBlock = some g→L.N0≤g

section
variable {L:Lay} {w w':World} {v1 v2:Value} {width:Int} {s:AS}
def MeetAt.own (L:Lay) (v1 v2:Value) (k:Nat):Prop:=k = L.bm ∨ k = L.bn ∨ k = L.bq ∨ k = L.bq2 ∨ v1.ownBlock = some k ∨ v2.ownBlock = some k
theorem MeetAt.kept {S:Nat→Prop} (h:MeetAt L w v1 v2 width s) (hk:Kept S w w') (hs:∀ k,S k→(∀ cs t f,w.heap[k]? = some (.cells cs t f)→t ≠ 179∧t ≠ 116∧t ≠ 174∧t ≠ 121∧t ≠ 177∧t ≠ 171∧t ≠ 233)∧¬ MeetAt.own L v1 v2 k):MeetAt L w' v1 v2 width s:=by
  have hb:∀ {b:Nat} {cs:Array Value} {t:TypeId},w.heap[b]? = some (.cells cs t (0,0))→(t = 179 ∨ t = 116 ∨ t = 174 ∨ t = 121 ∨ t = 177 ∨ t = 171 ∨ t = 233)→¬ S b:=fun {b cs t} hh ht hS=>by
    obtain ⟨a1,a2,a3,a4,a5,a6,a7⟩:=(hs b hS).1 _ _ _ hh
    rcases ht with e | e | e | e | e | e | e
    · exact a1 e
    · exact a2 e
    · exact a3 e
    · exact a4 e
    · exact a5 e
    · exact a6 e
    · exact a7 e
  have ho:∀ {k:Nat},MeetAt.own L v1 v2 k→¬ S k:=fun hk hS=>(hs _ hS).2 hk
  exact ⟨(hk.block _ (heap_lt h.h1) (hb h.h1 (by decide))).trans h.h1,(hk.block _ (heap_lt h.h2) (hb h.h2 (by decide))).trans h.h2,(hk.block _ (heap_lt h.h3) (hb h.h3 (by decide))).trans h.h3,(hk.block _ (heap_lt h.h4) (hb h.h4 (by decide))).trans h.h4,(hk.block _ (heap_lt h.h5) (hb h.h5 (by decide))).trans h.h5,
    h.met.kept hk (ho (.inl rfl)),h.walk.kept hk (hb h.walk.blk (by decide)) (ho (.inr (.inl rfl))),h.cand.kept hk (ho (.inr (.inr (.inl rfl)))) (fun g e=>ho (.inr (.inr (.inr (.inr (.inl e)))))),
    h.fnd.kept hk (hb h.fnd.blk (by decide)) (ho (.inr (.inr (.inr (.inl rfl))))) (fun g e=>ho (.inr (.inr (.inr (.inr (.inr e)))))),h.mn,h.qq,h.rr,h.n1,h.n3,h.n4,h.n5,h.n6⟩
theorem MeetAt.below (h:MeetAt L w v1 v2 width s) (hk:Below w.heap.size w w'):MeetAt L w' v1 v2 width s :=
  h.kept (Kept.of_below (fun _=>False) hk) (fun _ e=>e.elim)
end
section
variable {L:Lay} {w w':World} {v1 v2 v1' v2':Value} {width:Int} {s:AS}
theorem MeetAt.setWalk (h:MeetAt L w v1 v2 width s) {kn':List (Int × Int)} (hw:WalkAt w' L.bw L.bg L.ms L.caps L.bn kn') (hk:Kept (fun k=>k = L.bn) w w'):MeetAt L w' v1 v2 width { s with kn:=kn' }:=by
  have hb:∀ {b:Nat} {cs:Array Value} {t:TypeId},w.heap[b]? = some (.cells cs t (0,0))→w'.heap[b]? = some (.cells cs t (0,0)):=fun {b cs t} hh=>(hk.block _ (heap_lt hh) (h.walk.map.not_cells hh)).trans hh
  have hr:∀ {v:Value} {l:List Hit},HRow w v l→∀ g,v.ownBlock = some g→w'.heap[g]? = w.heap[g]?:=fun {v l} hh g e=>hk.block g (hh.lt g e).2 (by
    obtain ⟨cur,hc⟩:=ownsRow_obj hh e
    exact h.walk.map.not_cells hc)
  exact ⟨hb h.h1,hb h.h2,hb h.h3,hb h.h4,hb h.h5,h.met.kept hk h.mn,hw,h.cand.of_block ((hb h.cand.blk).trans h.cand.blk.symm) (hr h.cand.row),⟨hb h.fnd.blk,h.fnd.q.of_block ((hb h.fnd.q.blk).trans h.fnd.q.blk.symm) (hr h.fnd.q.row)⟩,h.mn,h.qq,h.rr,h.n1,h.n3,h.n4,h.n5,h.n6⟩
theorem row_ne {w:World} {v:Value} {l:List Hit} (hr:HRow w v l) {b:Nat} {cs:Array Value} {t:TypeId} {f:Nat × Nat} (hb:w.heap[b]? = some (.cells cs t f)) (ht:t ≠ 63):¬ v.ownBlock = some b:=fun e=>by
  obtain ⟨cur,hc⟩:=ownsRow_obj hr e
  rw [hb] at hc
  simp at hc
  exact ht hc.2.1
theorem MeetAt.setCand (h:MeetAt L w v1 v2 width s) {C':List Hit} (hq:QAt w' L.bq 104 v1' C') (hk:Kept (fun k=>k = L.bq ∨ v1.ownBlock = some k) w w') (hv:v1'.ownBlock = v1.ownBlock ∨ ∀ g,v1'.ownBlock = some g→w.heap.size≤g) (hN:L.N0≤w.heap.size):MeetAt L w' v1' v2 width { s with C:=C' }:=by
  have hb:∀ {b:Nat} {cs:Array Value} {t:TypeId},w.heap[b]? = some (.cells cs t (0,0))→t ≠ 63→b ≠ L.bq→w'.heap[b]? = some (.cells cs t (0,0)):=fun {b cs t} hh ht hne=>(hk.block _ (heap_lt hh) (fun e=>e.elim hne (row_ne h.cand.row hh ht))).trans hh
  have hne:∀ {b:Nat} {cs:Array Value} {t:TypeId},w.heap[b]? = some (.cells cs t (0,0))→t ≠ 230→b ≠ L.bq:=fun {b cs t} hh ht e=>by
    subst e
    have:=hh.symm.trans h.cand.blk
    simp at this
    exact ht this.2
  have hmap:∀ {E:KeyT 3 Int} {b:Nat} {M:List (Int × Value)},AMap E w b M→¬ (b = L.bq ∨ v1.ownBlock = some b):=fun {E b M} hm e=>e.elim (fun e=>hm.not_cells h.cand.blk e.symm) (fun e=>by
    obtain ⟨cur,hc⟩:=ownsRow_obj h.cand.row e
    exact hm.not_cells hc rfl)
  have hq2:L.bq2 ≠ L.bq:=fun e=>h.qq e.symm
  refine ⟨hb h.h1 (by decide) (hne h.h1 (by decide)),hb h.h2 (by decide) (hne h.h2 (by decide)),hb h.h3 (by decide) (hne h.h3 (by decide)),hb h.h4 (by decide) (hne h.h4 (by decide)),hb h.h5 (by decide) (hne h.h5 (by decide)),
    h.met.kept hk (hmap h.met),⟨hb h.walk.blk (by decide) (hne h.walk.blk (by decide)),h.walk.map.kept hk (hmap h.walk.map)⟩,hq,
    ⟨hb h.fnd.blk (by decide) (hne h.fnd.blk (by decide)),h.fnd.q.of_block ((hb h.fnd.q.blk (by decide) hq2).trans h.fnd.q.blk.symm) (fun g e=>hk.block g (h.fnd.q.row.lt g e).2 (fun e'=>e'.elim (fun e'=>row_ne h.fnd.q.row h.cand.blk (by decide) (by rw [← e']; exact e)) (fun e'=>h.rr g e' e)))⟩,
    h.mn,h.qq,?_,h.n1,h.n3,h.n4,?_,h.n6⟩
  · intro g e e2
    rcases hv with hv | hv
    · exact h.rr g (by rw [← hv]; exact e) e2
    · have:=hv g e
      have:=(h.fnd.q.row.lt g e2).2
      omega
  · intro g e
    rcases hv with hv | hv
    · exact h.n5 g (by rw [← hv]; exact e)
    · have:=hv g e; omega
theorem MeetAt.setFnd (h:MeetAt L w v1 v2 width s) {F':List Hit} (hq:BeamAt w' L.bf L.bq2 v2' width F') (hk:Kept (fun k=>k = L.bq2 ∨ v2.ownBlock = some k) w w') (hv:v2'.ownBlock = v2.ownBlock ∨ ∀ g,v2'.ownBlock = some g→w.heap.size≤g) (hN:L.N0≤w.heap.size):MeetAt L w' v1 v2' width { s with Fd:=F' }:=by
  have hb:∀ {b:Nat} {cs:Array Value} {t:TypeId},w.heap[b]? = some (.cells cs t (0,0))→t ≠ 63→b ≠ L.bq2→w'.heap[b]? = some (.cells cs t (0,0)):=fun {b cs t} hh ht hne=>(hk.block _ (heap_lt hh) (fun e=>e.elim hne (row_ne h.fnd.q.row hh ht))).trans hh
  have hne:∀ {b:Nat} {cs:Array Value} {t:TypeId},w.heap[b]? = some (.cells cs t (0,0))→t ≠ 230→b ≠ L.bq2:=fun {b cs t} hh ht e=>by
    subst e
    have:=hh.symm.trans h.fnd.q.blk
    simp at this
    exact ht this.2
  have hmap:∀ {E:KeyT 3 Int} {b:Nat} {M:List (Int × Value)},AMap E w b M→¬ (b = L.bq2 ∨ v2.ownBlock = some b):=fun {E b M} hm e=>e.elim (fun e=>hm.not_cells h.fnd.q.blk e.symm) (fun e=>by
    obtain ⟨cur,hc⟩:=ownsRow_obj h.fnd.q.row e
    exact hm.not_cells hc rfl)
  refine ⟨hb h.h1 (by decide) (hne h.h1 (by decide)),hb h.h2 (by decide) (hne h.h2 (by decide)),hb h.h3 (by decide) (hne h.h3 (by decide)),hb h.h4 (by decide) (hne h.h4 (by decide)),hb h.h5 (by decide) (hne h.h5 (by decide)),
    h.met.kept hk (hmap h.met),⟨hb h.walk.blk (by decide) (hne h.walk.blk (by decide)),h.walk.map.kept hk (hmap h.walk.map)⟩,
    h.cand.of_block ((hb h.cand.blk (by decide) h.qq).trans h.cand.blk.symm) (fun g e=>hk.block g (h.cand.row.lt g e).2 (fun e'=>e'.elim (fun e'=>row_ne h.cand.row h.fnd.q.blk (by decide) (by rw [← e']; exact e)) (fun e'=>h.rr g e e'))),hq,
    h.mn,h.qq,?_,h.n1,h.n3,h.n4,h.n5,?_⟩
  · intro g e e2
    rcases hv with hv | hv
    · exact h.rr g e (by rw [← hv]; exact e2)
    · have:=hv g e2
      have:=(h.cand.row.lt g e).2
      omega
  · intro g e
    rcases hv with hv | hv
    · exact h.n6 g (by rw [← hv]; exact e)
    · have:=hv g e; omega
end
theorem zero178 (w:World):(zeroValue 180).run Tryz.prog w = .ok (.agg #[]) w:=by kernel_rfl

set_option maxHeartbeats 4000000 in
set_option maxRecDepth 20000 in
theorem meet102_again (L:Lay) (v1 v2:Value) (width:Int) (s:AS) (id:Int) (w:World) (h:MeetAt L w v1 v2 width s) (hid:I64 id) (hm:id ∈ s.met) :
    Calls Tryz.prog 106 #[.int .i64 id,.pointer (some ⟨L.b1,0,none⟩),.pointer (some ⟨L.b2,0,none⟩),.pointer (some ⟨L.b3,0,none⟩),.pointer (some ⟨L.b4,0,none⟩),.pointer (some ⟨L.b5,0,none⟩)] w fun ev w'=>ev = .returned (.tuple #[])∧Below w.heap.size w w':=by
  have c1:=cells_at h.h1 0 rfl
  have hl:(Instr.lookup 179 (.map (some L.bm)) (.int .i64 id) true).run Tryz.prog w = _:=h.met.look_ok Tryz.underlying179 (zero178 w) id hid
  rw [getA_metV,if_pos hm] at hl
  simp only [Option.getD_some,Option.isSome_some] at hl
  clear h hm
  go_enter Tryz.func106,Tryz.ntmps106
  go_wp2
  (try simp only [Exit.inBlock,Exit.then]); refine bodyPost_ret (results_none rfl _ _ _) rfl ?_
  exact ⟨rfl,(Below.refl _ _).alloc (Nat.le_refl _) _⟩

set_option maxHeartbeats 4000000 in
set_option maxRecDepth 20000 in
theorem meet102_new (L:Lay) (v1 v2:Value) (width:Int) (s:AS) (dd:Int→Int) (want:Int→Bool) (id:Int) (w:World) (h:MeetAt L w v1 v2 width s) (hid:I64 id) (hm:id ∉ s.met) (hml:s.met.length≤900) (hkl:s.kn.length≤900) (hkn:∀ p ∈ s.kn,p.2 = dd p.1) (hC:s.C.length≤900) (hF:s.Fd.length≤900)
    (eg:∀ args w,(callFunc L.ms args).run Tryz.prog w = .ok (.enter L.ms args) w) (ew:∀ args w,(callFunc L.wk args).run Tryz.prog w = .ok (.enter L.wk args) w)
    (hms:∀ W,Kept (fun k=>k = L.bn ∨ L.N0≤k) w W→Calls Tryz.prog L.ms (#[.int .i64 id] ++ L.caps) W fun e W'=>e = .returned (.int .i64 (dd id))∧Below W.heap.size W W')
    (hwk:∀ W,Kept (fun k=>k = L.bn ∨ L.N0≤k) w W→Calls Tryz.prog L.wk (#[.int .i64 id] ++ L.wcaps) W fun e W'=>e = .returned (.bool (want id))∧Below W.heap.size W W') :
    Calls Tryz.prog 106 #[.int .i64 id,.pointer (some ⟨L.b1,0,none⟩),.pointer (some ⟨L.b2,0,none⟩),.pointer (some ⟨L.b3,0,none⟩),.pointer (some ⟨L.b4,0,none⟩),.pointer (some ⟨L.b5,0,none⟩)] w fun ev w'=>ev = .returned (.tuple #[]) ∧
      ∃ v1' v2',MeetAt L w' v1' v2' width (meetL dd want width s id)∧Kept (fun k=>k = L.bn ∨ L.N0≤k) w w'∧Kept (MeetAt.own L v1 v2) w w':=by
  have c1:=cells_at h.h1 0 rfl
  have hl:(Instr.lookup 179 (.map (some L.bm)) (.int .i64 id) true).run Tryz.prog w = _:=h.met.look_ok Tryz.underlying179 (zero178 w) id hid
  rw [getA_metV,if_neg hm] at hl
  simp only [Option.getD_none,Option.isSome_none] at hl
  -- the world behind the mark
  have hA:=h.below ((Below.refl _ _).alloc (Nat.le_refl _) (.cells #[] 180))
  obtain ⟨w2,hrun,ham,hk2⟩:=hA.met.put Tryz.underlying179 (by unfold metV maxLen; rw [List.length_map]; omega) id hid (.agg #[])
  rw [putA_new (by rw [getA_metV,if_neg hm])] at ham
  have hrun':(Instr.mapUpdate 179 (.map (some L.bm)) (.int .i64 id) (.agg #[])).run Tryz.prog (w.alloc (.cells #[] 180)) = .ok () w2:=hrun
  have HK2:Hid (Kept (fun k=>k = L.bn ∨ L.N0≤k) w w2):=(Kept.of_below _ ((Below.refl _ _).alloc (Nat.le_refl _) _)).trans hk2 (fun k _ e=>by subst e; exact .inr h.n1)
  have HO2:Hid (Kept (MeetAt.own L v1 v2) w w2):=(Kept.of_below _ ((Below.refl _ _).alloc (Nat.le_refl _) _)).trans hk2 (fun k _ e=>.inl e)
  have hw2:WalkAt w2 L.bw L.bg L.ms L.caps L.bn s.kn:=hA.walk.kept hk2 (hA.met.not_cells hA.walk.blk) (fun e=>h.mn e.symm)
  have hb2:∀ {b:Nat} {cs:Array Value} {t:TypeId},(w.alloc (.cells #[] 180)).heap[b]? = some (.cells cs t (0,0))→w2.heap[b]? = some (.cells cs t (0,0)):=fun {b cs t} hh=>(hk2.block _ (heap_lt hh) (hA.met.not_cells hh)).trans hh
  have hq2:QAt w2 L.bq 104 v1 s.C:=hA.cand.of_block ((hk2.block _ hA.cand.lt (hA.met.not_cells hA.cand.blk))) (fun g e=>hk2.block g (hA.cand.row.lt g e).2 (by
    obtain ⟨cur,hc⟩:=ownsRow_obj hA.cand.row e
    exact hA.met.not_cells hc))
  have hf2:BeamAt w2 L.bf L.bq2 v2 width s.Fd:=⟨hb2 hA.fnd.blk,hA.fnd.q.of_block ((hk2.block _ hA.fnd.q.lt (hA.met.not_cells hA.fnd.q.blk))) (fun g e=>hk2.block g (hA.fnd.q.row.lt g e).2 (by
    obtain ⟨cur,hc⟩:=ownsRow_obj hA.fnd.q.row e
    exact hA.met.not_cells hc))⟩
  have hM2:MeetAt L w2 v1 v2 width { s with met:=id :: s.met }:=⟨hb2 hA.h1,hb2 hA.h2,hb2 hA.h3,hb2 hA.h4,hb2 hA.h5,ham,hw2,hq2,hf2,h.mn,h.qq,h.rr,h.n1,h.n3,h.n4,h.n5,h.n6⟩
  have hhit:=hit103 L.bw L.bg L.ms L.caps L.bn s.kn dd id w2 hM2.walk hid (by omega) hkn eg (fun W hb=>hms W (HK2.out.below hb))
  have HHIT:=hide hhit
  have HM2:=hide hM2
  have HWK:=hide hwk
  have HC:=hide hC
  have HFL:=hide hF
  have HNM:=hide hm
  have d2:=cells_at hM2.h2 0 rfl
  have hN2:L.N0≤w2.heap.size:=Nat.le_trans hM2.n1 (Nat.le_of_lt hM2.met.lt)
  have HN2:=hide hN2
  have hb1:=heap_lt h.h1
  clear h hA hrun ham hk2 hw2 hb2 hq2 hf2 hM2 hhit hwk hms hkn hC hF hm hml hkl hN2
  go_enter Tryz.func106,Tryz.ntmps106
  go_wp2_with fail
  refine HHIT.out.mono ?_
  rintro e3 w3 ⟨rfl,hw3,hk3⟩
  have hM3:=HM2.out.setWalk hw3 hk3
  have HK3:Hid (Kept (fun k=>k = L.bn ∨ L.N0≤k) w w3):=HK2.out.trans hk3 (fun k _ e=>by subst e; exact .inl rfl)
  have HO3:Hid (Kept (MeetAt.own L v1 v2) w w3):=HO2.out.trans hk3 (fun k _ e=>.inr (.inl e))
  have hM4:=hM3.below ((Below.refl _ _).alloc (Nat.le_refl _) (.cells #[.int .i64 id,.int .i64 (dd id)] 63))
  have hx4:(w3.alloc (.cells #[.int .i64 id,.int .i64 (dd id)] 63)).heap[w3.heap.size]? = some (.cells #[.int .i64 id,.int .i64 (dd id)] 63 (0,0)):=heap_alloc_new _ _
  have HK4:Hid (Kept (fun k=>k = L.bn ∨ L.N0≤k) w (w3.alloc (.cells #[.int .i64 id,.int .i64 (dd id)] 63))):=HK3.out.alloc _
  have HO4:Hid (Kept (MeetAt.own L v1 v2) w (w3.alloc (.cells #[.int .i64 id,.int .i64 (dd id)] 63))):=HO3.out.alloc _
  have hlt1:L.bq < w3.heap.size:=hM3.cand.lt
  have hlt2:∀ g,v1.ownBlock = some g→g < w3.heap.size:=fun g e=>(hM3.cand.row.lt g e).2
  have HN4:Hid (L.N0≤(w3.alloc (.cells #[.int .i64 id,.int .i64 (dd id)] 63)).heap.size):=Nat.le_trans HN2.out (Nat.le_trans hk3.size (by simp))
  have hpsh:=push104 L.bq 104 (.inl rfl) v1 s.C (id,dd id) _ hM4.cand (by have:=HC.out; omega)
  have d3:=cells_at hM3.h3 0 rfl
  have hb3:=heap_lt hM3.h3
  have HPSH:=hide hpsh
  have HM4:=hide hM4
  have HX4:=hide hx4
  have HL1:=hide hlt1
  have HL2:=hide hlt2
  clear hw3 hk3 hM3 hM4 hx4 hpsh HHIT hlt1 hlt2
  go_wp2_with fail
  refine HPSH.out.mono ?_
  rintro e5 w5 ⟨rfl,v1',hq5,hk5,hv5⟩
  have hM5:=HM4.out.setCand hq5 hk5 hv5 HN4.out
  have HK5:Hid (Kept (fun k=>k = L.bn ∨ L.N0≤k) w w5):=HK4.out.trans hk5 (fun k _ e=>e.elim (fun e=>by subst e; exact .inr HM4.out.n3) (fun e=>.inr (HM4.out.n5 k e)))
  have HO5:Hid (Kept (MeetAt.own L v1 v2) w w5):=HO4.out.trans hk5 (fun k _ e=>e.elim (fun e=>.inr (.inr (.inl e))) (fun e=>.inr (.inr (.inr (.inr (.inl e))))))
  have hx5:w5.heap[w3.heap.size]? = some (.cells #[.int .i64 id,.int .i64 (dd id)] 63 (0,0)):=(hk5.block _ (heap_lt HX4.out) (fun e=>e.elim (fun e=>by have:=HL1.out; omega) (fun e=>by have:=HL2.out _ e; omega))).trans HX4.out
  have HN5:Hid (L.N0≤w5.heap.size):=Nat.le_trans HN4.out hk5.size
  have hwk5:=HWK.out w5 HK5.out
  have d4:=cells_at hM5.h4 0 rfl
  have HWK5:=hide hwk5
  have HM5:=hide hM5
  have HX5:=hide hx5
  clear hq5 hk5 hv5 hM5 hx5 hwk5 HPSH HWK
  go_wp2_with fail
  refine HWK5.out.mono ?_
  rintro e6 w6 ⟨rfl,hb6⟩
  have hM6:=HM5.out.below hb6
  have HK6:=hide (HK5.out.below hb6)
  have HO6:=hide (HO5.out.below hb6)
  have hx6:w6.heap[w3.heap.size]? = some (.cells #[.int .i64 id,.int .i64 (dd id)] 63 (0,0)):=(hb6.block _ (heap_lt HX5.out)).trans HX5.out
  have HN6:Hid (L.N0≤w6.heap.size):=Nat.le_trans HN5.out hb6.size
  have HM6:=hide hM6
  have d5:=cells_at hM6.h5 0 rfl
  have x0:=cells_at hx6 0 rfl
  have x1:=cells_at hx6 1 rfl
  clear hM6 hx6 hb6 HWK5
  cases hw:want id with
  | true =>
    have hadd:=add105 L.bf L.bq2 v2 width s.Fd (id,dd id) w6 HM6.out.fnd (by have:=HFL.out; omega)
    have HADD:=hide hadd
    clear hadd
    go_wp2_with fail
    refine HADD.out.mono ?_
    rintro e7 w7 ⟨rfl,v2',hb7,hk7,hv7⟩
    have hM7:=HM6.out.setFnd hb7 hk7 hv7 HN6.out
    have HK7:Hid (Kept (fun k=>k = L.bn ∨ L.N0≤k) w w7):=HK6.out.trans hk7 (fun k _ e=>e.elim (fun e=>by subst e; exact .inr HM6.out.n4) (fun e=>.inr (HM6.out.n6 k e)))
    have HO7:Hid (Kept (MeetAt.own L v1 v2) w w7):=HO6.out.trans hk7 (fun k _ e=>e.elim (fun e=>.inr (.inr (.inr (.inl e)))) (fun e=>.inr (.inr (.inr (.inr (.inr e))))))
    have HM7:=hide hM7
    clear hb7 hk7 hv7 hM7 HADD
    go_wp2
    go_end0
    refine ⟨rfl,v1',v2',?_,HK7.out,HO7.out⟩
    rw [meetL,if_neg HNM.out,hw,if_pos rfl]
    exact HM7.out
  | false =>
    go_wp2
    go_end0
    refine ⟨rfl,v1',v2,?_,HK6.out,HO6.out⟩
    rw [meetL,if_neg HNM.out,hw,if_neg (by simp)]
    exact HM6.out
end
section
open Go.RowKit Go.Maps

theorem nth_mem {l:List Hit} {k:Nat} (h:k < l.length):nth l k ∈ l:=by
  unfold nth
  rw [List.getD_eq_getElem?_getD,List.getElem?_eq_getElem h]
  exact List.getElem_mem h
theorem mem_swapL {l:List Hit} {a b:Nat} {x:Hit} (ha:a < l.length) (hb:b < l.length) (h:x ∈ swapL l a b):x ∈ l:=by
  unfold swapL at h
  rcases List.mem_or_eq_of_mem_set h with h | h
  · rcases List.mem_or_eq_of_mem_set h with h | h
    · exact h
    · rw [h]; exact nth_mem hb
  · rw [h]; exact nth_mem ha
theorem mem_upL {fk:Nat} {x:Hit}:∀ {n:Nat} {l:List Hit} {a:Nat},a < l.length→x ∈ upL fk n l a→x ∈ l
  | 0,_,_,_,h=>h
  | n + 1,l,a,ha,h=>by
    unfold upL at h
    split at h
    · exact h
    · split at h
      · exact mem_swapL ha (by omega) (mem_upL (by rw [swapL_length]; omega) h)
      · exact h
theorem mem_downL {fk:Nat} {x:Hit}:∀ {n:Nat} {l:List Hit} {a:Nat},a < l.length→x ∈ downL fk n l a→x ∈ l
  | 0,_,_,_,h=>h
  | n + 1,l,a,ha,h=>by
    unfold downL at h
    split at h
    · exact h
    · exact mem_swapL ha (pickL_lt (pickL_lt ha)) (mem_downL (by rw [swapL_length]; exact pickL_lt (pickL_lt ha)) h)
theorem mem_pushL {fk:Nat} {l:List Hit} {y x:Hit} (h:x ∈ pushL fk l y):x = y ∨ x ∈ l:=by
  unfold pushL at h
  have:=mem_upL (by simp) h
  rcases List.mem_append.1 this with h | h
  · exact .inr h
  · exact .inl (by simpa using h)
theorem mem_popL {fk:Nat} {l:List Hit} {x:Hit} (h:x ∈ popL fk l):x ∈ l:=by
  unfold popL at h
  rcases Nat.eq_zero_or_pos (l.length - 1) with h0 | h0
  · rw [h0] at h
    simp [downL] at h
  · have h1:=mem_downL (a:=0) (by simp; omega) h
    have h2:=List.mem_of_mem_take h1
    rcases List.mem_or_eq_of_mem_set h2 with h | h
    · exact h
    · rw [h]; exact nth_mem (by omega)
theorem mem_addL {width:Int} {l:List Hit} {y x:Hit} (h:x ∈ addL width l y):x = y ∨ x ∈ l:=by
  unfold addL at h
  split at h
  · exact mem_pushL (mem_popL h)
  · exact mem_pushL h
theorem mem_drainL {x:Hit}:∀ {n:Nat} {l:List Hit},n≤l.length→x ∈ drainL n l→x ∈ l
  | 0,_,_,h=>by cases h
  | n + 1,l,hn,h=>by
    unfold drainL at h
    rcases List.mem_append.1 h with h | h
    · exact mem_popL (mem_drainL (by rw [popL_length]; omega) h)
    · rw [List.mem_singleton.1 h]; exact nth_mem (by omega)

structure ASOk (ids:List Int) (dd:Int→Int) (s:AS):Prop where
  nod:s.met.Nodup
  sub:∀ x ∈ s.met,x ∈ ids
  knn:(s.kn.map (·.1)).Nodup
  kns:∀ p ∈ s.kn,p.1 ∈ ids
  knd:∀ p ∈ s.kn,p.2 = dd p.1
  cm:∀ h ∈ s.C,h.1 ∈ s.met∧h.2 = dd h.1
  fm:∀ h ∈ s.Fd,h.1 ∈ s.met∧h.2 = dd h.1
  cl:s.C.length≤s.met.length
  fl:s.Fd.length≤s.met.length

theorem levOf_none {kn:List (Int × Int)} {id:Int} (h:levOf kn id = none):∀ p ∈ kn,p.1 ≠ id:=by
  unfold levOf at h
  intro p hp
  simpa using List.find?_eq_none.1 (Option.map_eq_none_iff.1 h) p hp

theorem ASOk.lens {ids:List Int} {dd:Int→Int} {s:AS} (h:ASOk ids dd s):s.met.length≤ids.length∧s.kn.length≤ids.length:=by
  refine ⟨List.Nodup.length_le_of_subset h.nod h.sub,?_⟩
  have:=List.Nodup.length_le_of_subset (l₁:=s.kn.map (·.1)) h.knn (l₂:=ids) (fun x hx=>by
    obtain ⟨p,hp,rfl⟩:=List.mem_map.1 hx
    exact h.kns p hp)
  simpa using this
theorem ASOk.meet {ids:List Int} {dd:Int→Int} {s:AS} (h:ASOk ids dd s) (want:Int→Bool) (width:Int) {id:Int} (hid:id ∈ ids):ASOk ids dd (meetL dd want width s id):=by
  unfold meetL
  split
  · exact h
  · rename_i hm
    have hk:∀ p ∈ knowL dd s.kn id,p.1 ∈ ids∧p.2 = dd p.1:=fun p hp=>by
      unfold knowL at hp
      split at hp
      · rcases List.mem_cons.1 hp with rfl | hp
        · exact ⟨hid,rfl⟩
        · exact ⟨h.kns p hp,h.knd p hp⟩
      · exact ⟨h.kns p hp,h.knd p hp⟩
    refine ⟨List.nodup_cons.2 ⟨hm,h.nod⟩,fun x hx=>?_,?_,fun p hp=>(hk p hp).1,fun p hp=>(hk p hp).2,fun x hx=>?_,fun x hx=>?_,?_,?_⟩
    · rcases List.mem_cons.1 hx with rfl | hx
      · exact hid
      · exact h.sub x hx
    · unfold knowL
      split
      · rename_i hl
        rw [List.map_cons,List.nodup_cons]
        refine ⟨fun hx=>?_,h.knn⟩
        obtain ⟨p,hp,e⟩:=List.mem_map.1 hx
        exact levOf_none hl p hp e
      · exact h.knn
    · rcases mem_pushL hx with rfl | hx
      · exact ⟨List.mem_cons_self,rfl⟩
      · exact ⟨List.mem_cons_of_mem _ (h.cm x hx).1,(h.cm x hx).2⟩
    · simp only at hx
      split at hx
      · rcases mem_addL hx with rfl | hx
        · exact ⟨List.mem_cons_self,rfl⟩
        · exact ⟨List.mem_cons_of_mem _ (h.fm x hx).1,(h.fm x hx).2⟩
      · exact ⟨List.mem_cons_of_mem _ (h.fm x hx).1,(h.fm x hx).2⟩
    · have:=h.cl
      simp only [List.length_cons]
      rw [pushL_length]; omega
    · have:=h.fl
      simp only [List.length_cons]
      split
      · have:=addL_length width s.Fd (id,dd id); omega
      · omega

def AS.mu (N:Nat) (s:AS):Nat:=2 * (N - s.met.length) + s.C.length
theorem mu_meet {ids:List Int} {dd:Int→Int} {s:AS} (h:ASOk ids dd s) (want:Int→Bool) (width:Int) {id:Int} (hid:id ∈ ids):(meetL dd want width s id).mu ids.length≤s.mu ids.length:=by
  have h2:=(h.meet want width hid).lens.1
  unfold AS.mu
  unfold meetL at h2 ⊢
  split
  · omega
  · rename_i hm
    rw [if_neg hm] at h2
    simp only [List.length_cons] at h2 ⊢
    rw [pushL_length]
    omega
def meetAll (dd:Int→Int) (want:Int→Bool) (width:Int) (s:AS) (l:List Int):AS:=l.foldl (meetL dd want width) s
theorem meetAll_snoc (dd:Int→Int) (want:Int→Bool) (width:Int) (s:AS) (l:List Int) (x:Int):meetAll dd want width s (l ++ [x]) = meetL dd want width (meetAll dd want width s l) x:=by simp [meetAll]
theorem ASOk.meetAll {ids:List Int} {dd:Int→Int} (want:Int→Bool) (width:Int):∀ {l:List Int} {s:AS},ASOk ids dd s→(∀ x ∈ l,x ∈ ids)→ASOk ids dd (meetAll dd want width s l)∧(Go.Proofs.YtpkiefjanmfgfaaGreatDoor.meetAll dd want width s l).mu ids.length≤s.mu ids.length
  | [],s,h,_=>⟨h,Nat.le_refl _⟩
  | x :: l,s,h,hl=>by
    have hx:=hl x List.mem_cons_self
    obtain ⟨a,b⟩:=ASOk.meetAll want width (l:=l) (h.meet want width hx) (fun y hy=>hl y (List.mem_cons_of_mem _ hy))
    exact ⟨a,Nat.le_trans b (mu_meet h want width hx)⟩

def popS (s:AS):AS:={ s with C:=popL 104 s.C }
theorem ASOk.pop {ids:List Int} {dd:Int→Int} {s:AS} (h:ASOk ids dd s):ASOk ids dd (popS s) :=
  ⟨h.nod,h.sub,h.knn,h.kns,h.knd,fun x hx=>h.cm x (mem_popL hx),h.fm,by unfold popS; simp only; rw [popL_length]; have:=h.cl; omega,h.fl⟩
def onward (width:Int) (s:AS):Bool:=decide (0 < s.C.length) && leadsL width s.Fd (nth s.C 0)
def stepS (dd:Int→Int) (want:Int→Bool) (width:Int) (nb:Int→List Int) (s:AS):AS:=meetAll dd want width (popS s) (nb (nth s.C 0).1)
def runS (dd:Int→Int) (want:Int→Bool) (width:Int) (nb:Int→List Int):Nat→AS→AS
  | 0,s=>s
  | n + 1,s=>if onward width s = true then runS dd want width nb n (stepS dd want width nb s) else s
theorem ASOk.step {ids:List Int} {dd:Int→Int} {s:AS} (h:ASOk ids dd s) (want:Int→Bool) (width:Int) {nb:Int→List Int} (hnb:∀ i ∈ ids,∀ x ∈ nb i,x ∈ ids) (ho:onward width s = true):ASOk ids dd (stepS dd want width nb s)∧(stepS dd want width nb s).mu ids.length < s.mu ids.length:=by
  unfold onward at ho
  simp at ho
  have hi:(nth s.C 0).1 ∈ ids:=h.sub _ (h.cm _ (nth_mem ho.1)).1
  obtain ⟨a,b⟩:=ASOk.meetAll want width h.pop (hnb _ hi)
  refine ⟨a,Nat.lt_of_le_of_lt b ?_⟩
  unfold AS.mu popS
  simp only
  rw [popL_length]
  omega
theorem runS_stop {dd:Int→Int} {want:Int→Bool} {width:Int} {nb:Int→List Int} {s:AS} (h:onward width s = false):∀ n,runS dd want width nb n s = s
  | 0=>rfl
  | n + 1=>by unfold runS; rw [h]; rfl
end
section
open Go.RowKit Go.Maps

theorem MeetAt.begin {w w1 w2 w3:World} {bw bg ms:Nat} {caps:Array Value} {bn:Nat} {kn:List (Int × Int)} {wk:Nat} {wcaps:Array Value} {width:Int} (h:WalkAt w bw bg ms caps bn kn)
    (hw1:w1 = (w.alloc (.cells #[.pointer (some ⟨bw,0,none⟩)] 116)).alloc (.cells #[.func (.func wk) #[] wcaps] 121)) (hq:QAt w2 w1.heap.size 104 (.slice none 0 0) []) (hb2:Below w1.heap.size w1 w2) (hf:BeamAt w3 (w2.heap.size + 1) w2.heap.size (.slice none 0 0) width []) (hb3:Below w2.heap.size w2 w3) :
    MeetAt ⟨w3.heap.size + 1 + 1 + 1,w.heap.size,w3.heap.size,w.heap.size + 1,w3.heap.size + 1,w3.heap.size + 1 + 1,bw,bg,ms,caps,bn,w1.heap.size,w2.heap.size + 1,w2.heap.size,wk,wcaps,w.heap.size⟩
      ((((w3.alloc (.cells #[.pointer (some ⟨w1.heap.size,0,none⟩)] 174)).alloc (.cells #[.pointer (some ⟨w2.heap.size + 1,0,none⟩)] 177)).alloc (.map #[] 0)).alloc (.cells #[.map (some (w3.heap.size + 1 + 1))] 179)) (.slice none 0 0) (.slice none 0 0) width ⟨[],kn,[],[]⟩ ∧
    Below w.heap.size w ((((w3.alloc (.cells #[.pointer (some ⟨w1.heap.size,0,none⟩)] 174)).alloc (.cells #[.pointer (some ⟨w2.heap.size + 1,0,none⟩)] 177)).alloc (.map #[] 0)).alloc (.cells #[.map (some (w3.heap.size + 1 + 1))] 179)):=by
  have b1:Below w.heap.size w w1:=by rw [hw1]; exact ((Below.refl _ _).alloc (Nat.le_refl _) _).alloc (by simp) _
  have s1:w1.heap.size = w.heap.size + 2:=by rw [hw1]; simp
  have x2:w1.heap[w.heap.size]? = some (.cells #[.pointer (some ⟨bw,0,none⟩)] 116 (0,0)):=by
    rw [hw1]
    exact (Below.heap_alloc _ _ _ (by simp)).trans (heap_alloc_new _ _)
  have x4:w1.heap[w.heap.size + 1]? = some (.cells #[.func (.func wk) #[] wcaps] 121 (0,0)):=by
    rw [hw1]
    have:=heap_alloc_new (w.alloc (.cells #[.pointer (some ⟨bw,0,none⟩)] 116)) (.cells #[.func (.func wk) #[] wcaps] 121)
    simpa using this
  have b12:=b1.trans (hb2.mono b1.size)
  have b13:=b12.trans (hb3.mono b12.size)
  have y2:=(hb3.block _ (heap_lt ((hb2.block _ (heap_lt x2)).trans x2))).trans ((hb2.block _ (heap_lt x2)).trans x2)
  have y4:=(hb3.block _ (heap_lt ((hb2.block _ (heap_lt x4)).trans x4))).trans ((hb2.block _ (heap_lt x4)).trans x4)
  have q3:=hq.below hb3
  have hs1:=hb2.size
  have hs2:=hb3.size
  have hl1:=hq.lt
  have hl2:=hf.lt
  have hl3:=hf.q.lt
  obtain ⟨w4,hw4⟩:∃ w4,w4 = w3.alloc (.cells #[.pointer (some ⟨w1.heap.size,0,none⟩)] 174):=⟨_,rfl⟩
  obtain ⟨w5,hw5⟩:∃ w5,w5 = w4.alloc (.cells #[.pointer (some ⟨w2.heap.size + 1,0,none⟩)] 177):=⟨_,rfl⟩
  obtain ⟨w6,hw6⟩:∃ w6,w6 = w5.alloc (.map #[] 0):=⟨_,rfl⟩
  obtain ⟨w7,hw7⟩:∃ w7,w7 = w6.alloc (.cells #[.map (some (w3.heap.size + 1 + 1))] 179):=⟨_,rfl⟩
  rw [← hw4,← hw5,← hw6,← hw7]
  have e4:w4.heap.size = w3.heap.size + 1:=by rw [hw4]; simp
  have e5:w5.heap.size = w3.heap.size + 2:=by rw [hw5]; simp [e4]
  have e6:w6.heap.size = w3.heap.size + 3:=by rw [hw6]; simp [e5]
  have z4:w4.heap[w3.heap.size]? = some (.cells #[.pointer (some ⟨w1.heap.size,0,none⟩)] 174 (0,0)):=by rw [hw4]; exact heap_alloc_new _ _
  have z5:w5.heap[w3.heap.size + 1]? = some (.cells #[.pointer (some ⟨w2.heap.size + 1,0,none⟩)] 177 (0,0)):=by rw [hw5,← e4]; exact heap_alloc_new _ _
  have z6:AMap intKey w6 (w3.heap.size + 2) []:=by rw [hw6,← e5]; exact AMap.made _
  have z7:w7.heap[w3.heap.size + 3]? = some (.cells #[.map (some (w3.heap.size + 2))] 179 (0,0)):=by rw [hw7,← e6]; exact heap_alloc_new _ _
  have c34:Below w3.heap.size w3 w4:=by rw [hw4]; exact (Below.refl _ _).alloc (Nat.le_refl _) _
  have c45:Below w4.heap.size w4 w5:=by rw [hw5]; exact (Below.refl _ _).alloc (Nat.le_refl _) _
  have c56:Below w5.heap.size w5 w6:=by rw [hw6]; exact (Below.refl _ _).alloc (Nat.le_refl _) _
  have c67:Below w6.heap.size w6 w7:=by rw [hw7]; exact (Below.refl _ _).alloc (Nat.le_refl _) _
  have c57:=c56.trans (c67.mono c56.size)
  have c47:=c45.trans (c57.mono c45.size)
  have c37:=c34.trans (c47.mono c34.size)
  have cw7:=b13.trans (c37.mono b13.size)
  have hwlt:=heap_lt h.blk
  have hnlt:=h.map.lt
  refine ⟨⟨z7,(c37.block _ (heap_lt y2)).trans y2,(c47.block _ (heap_lt z4)).trans z4,(c37.block _ (heap_lt y4)).trans y4,(c57.block _ (heap_lt z5)).trans z5,z6.below c67,h.below cw7,q3.below c37,hf.below c37,?_,?_,?_,?_,?_,?_,?_,?_⟩,cw7⟩
  · show w3.heap.size + 2 ≠ bn; omega
  · show w1.heap.size ≠ w2.heap.size; omega
  · intro g e; simp [Value.ownBlock] at e
  · show w.heap.size≤w3.heap.size + 2; omega
  · show w.heap.size≤w1.heap.size; omega
  · show w.heap.size≤w2.heap.size; omega
  · intro g e; simp [Value.ownBlock] at e
  · intro g e; simp [Value.ownBlock] at e

def mapSize (w:World) (b:Nat):Nat:=match w.heap[b]? with | some (.map es _)=>es.size | _=>0
def qLen (w:World) (b:Nat):Nat:=match w.cell? ⟨b,1,none⟩ with | some (.slice _ n _)=>n | _=>0
theorem AMap.mapSize {K:TypeId} {α:Type} [DecidableEq α] {E:KeyT K α} {w:World} {b:Nat} {L:List (α × Value)} (h:AMap E w b L):mapSize w b = L.length:=by
  obtain ⟨D,⟨es,clock,h1,_,_,h4⟩,h2,_⟩:=h.own
  unfold Go.Proofs.YtpkiefjanmfgfaaGreatDoor.mapSize
  rw [h1]
  rw [← h2,h4]
  simp [Maps.size,length_sorted]
theorem QAt.qLen {w:World} {bq fk:Nat} {v:Value} {l:List Hit} (h:QAt w bq fk v l):qLen w bq = l.length:=by
  unfold Go.Proofs.YtpkiefjanmfgfaaGreatDoor.qLen
  rw [h.c1]
  obtain ⟨a,cap,rfl⟩:=h.slice
  rfl
theorem MeetAt.mu {L:Lay} {w:World} {v1 v2:Value} {width:Int} {s:AS} (h:MeetAt L w v1 v2 width s) (N:Nat):2 * (N - Go.Proofs.YtpkiefjanmfgfaaGreatDoor.mapSize w L.bm) + Go.Proofs.YtpkiefjanmfgfaaGreatDoor.qLen w L.bq = s.mu N:=by
  rw [h.met.mapSize,h.cand.qLen]
  unfold AS.mu metV
  rw [List.length_map]
end
end Go.Proofs.YtpkiefjanmfgfaaGreatDoor
