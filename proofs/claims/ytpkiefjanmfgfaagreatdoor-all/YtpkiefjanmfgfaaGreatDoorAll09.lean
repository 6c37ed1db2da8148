import Derived.Test.YtpkiefjanmfgfaaGreatDoorAll04
import Derived.Test.YtpkiefjanmfgfaaGreatDoorAll05
import Derived.Test.YtpkiefjanmfgfaaGreatDoorAll06
import Derived.Test.YtpkiefjanmfgfaaGreatDoorAll08
namespace Go.Proofs.YtpkiefjanmfgfaaGreatDoor
section
open Go.RowKit Go.Maps

def minTo (l:List Hit):Nat→Hit
  | 0=>nth l 0
  | n + 1=>if cmpH (nth l (n + 1)) (minTo l n) < 0 then nth l (n + 1) else minTo l n
def maxTo (l:List Hit):Nat→Hit
  | 0=>nth l 0
  | n + 1=>if 0 < cmpH (nth l (n + 1)) (maxTo l n) then nth l (n + 1) else maxTo l n
theorem minTo_mem {l:List Hit}:∀ {n:Nat},n < l.length→minTo l n ∈ l
  | 0,h=>by
    unfold minTo nth
    rw [List.getD_eq_getElem?_getD,List.getElem?_eq_getElem h]
    exact List.getElem_mem h
  | n + 1,h=>by
    unfold minTo
    split
    · unfold nth
      rw [List.getD_eq_getElem?_getD,List.getElem?_eq_getElem h]
      exact List.getElem_mem h
    · exact minTo_mem (by omega)
theorem maxTo_mem {l:List Hit}:∀ {n:Nat},n < l.length→maxTo l n ∈ l
  | 0,h=>by
    unfold maxTo nth
    rw [List.getD_eq_getElem?_getD,List.getElem?_eq_getElem h]
    exact List.getElem_mem h
  | n + 1,h=>by
    unfold maxTo
    split
    · unfold nth
      rw [List.getD_eq_getElem?_getD,List.getElem?_eq_getElem h]
      exact List.getElem_mem h
    · exact maxTo_mem (by omega)

theorem HRow_slice {w:World} {v:Value} {l:List Hit} (h:HRow w v l):∃ a cap,v = .slice a l.length cap∧(0 < l.length→∃ g,a = some ⟨g,0,none⟩):=by
  rcases h.2 with ⟨rfl,hz⟩ | ⟨g,cap',cur,hv,_,_,hn,_⟩
  · exact ⟨none,0,by rw [hz],fun h=>by omega⟩
  · exact ⟨_,cap',hv,fun _=>⟨g,rfl⟩⟩

structure MnAt (w:World) (B:Nat) (x:Hit) (wr:World):Prop where
  c0:wr.cell? ⟨B + 1,0,none⟩ = some (.int .i64 x.1)
  c1:wr.cell? ⟨B + 1,1,none⟩ = some (.int .i64 x.2)
  fz:∀ o,wr.frozen? ⟨B + 1,o,none⟩ = false
  d0:wr.cell? ⟨B,0,none⟩ = some (.int .i64 0)
  d1:wr.cell? ⟨B,1,none⟩ = some (.int .i64 0)
  fb:∀ o,wr.frozen? ⟨B,o,none⟩ = false
  bel:Below w.heap.size w wr
theorem MnAt.below {w wr wy:World} {B:Nat} {x:Hit} (h:MnAt w B x wr) (hb:Below wr.heap.size wr wy):MnAt w B x wy :=
  ⟨cell_below h.c0 hb,cell_below h.c1 hb,fun o=>(hb.frozen (p:=⟨_,o,none⟩) (by show B + 1 < _; exact block_lt_of_cell (a:=⟨B + 1,0,none⟩) h.c0)).trans (h.fz o),cell_below h.d0 hb,cell_below h.d1 hb,fun o=>(hb.frozen (p:=⟨_,o,none⟩) (by show B < _; exact block_lt_of_cell (a:=⟨B,0,none⟩) h.d0)).trans (h.fb o),h.bel.trans (hb.mono h.bel.size)⟩
theorem MnAt.set {w wr:World} {B:Nat} {x:Hit} (h:MnAt w B x wr) (hB:w.heap.size≤B) (y:Hit):MnAt w B y ((wr.setCell ⟨B + 1,0,none⟩ (.int .i64 y.1)).setCell ⟨B + 1,1,none⟩ (.int .i64 y.2)):=by
  refine ⟨?_,?_,fun o=>?_,?_,?_,fun o=>?_,?_⟩
  · rw [World.cell?_setCell_other _ _ _ _ (by simp)]; exact World.cell?_setCell_same _ _ _ h.c0
  · exact World.cell?_setCell_same _ _ _ ((World.cell?_setCell_other _ _ _ _ (by simp)).trans h.c1)
  · rw [World.frozen?_setCell,World.frozen?_setCell]; exact h.fz o
  · rw [World.cell?_setCell_other _ _ _ _ (by simp),World.cell?_setCell_other _ _ _ _ (by simp)]; exact h.d0
  · rw [World.cell?_setCell_other _ _ _ _ (by simp),World.cell?_setCell_other _ _ _ _ (by simp)]; exact h.d1
  · rw [World.frozen?_setCell,World.frozen?_setCell]; exact h.fb o
  · exact (h.bel.setCell (by show _≤B + 1; omega) _).setCell (by show _≤B + 1; omega) _
theorem MnAt.first (w:World) (x:Hit):MnAt w w.heap.size x ((w.alloc (.cells #[.int .i64 0,.int .i64 0] 63)).alloc (.cells #[.int .i64 x.1,.int .i64 x.2] 63)) :=
  ⟨by simp,by simp,fun o=>by simp,by simp,by simp,fun o=>by simp,((Below.refl _ _).alloc (Nat.le_refl _) _).alloc (by simp) _⟩

set_option maxHeartbeats 2000000 in
set_option maxRecDepth 20000 in
theorem minFunc156 (v:Value) (l:List Hit) (w:World) (h:HRow w v l) (h0:0 < l.length) (hl:l.length≤1000) :
    Calls Tryz.prog 166 #[v,.func (.func 149) #[] #[]] w fun e w'=>e = .returned (.agg #[.int .i64 (minTo l (l.length - 1)).1,.int .i64 (minTo l (l.length - 1)).2])∧Below w.heap.size w w':=by
  obtain ⟨a,cap,rfl,ha⟩:=HRow_slice h
  obtain ⟨g,rfl⟩:=ha h0
  clear ha
  have hlt:=((h.lt g rfl).2:g < w.heap.size)
  have x0:=HRow.at0 h h0
  have x1:=HRow.at1 h h0
  have H:=hide h
  clear h
  have hfirst:=MnAt.first w (nth l 0)
  have HF:=hide hfirst
  clear hfirst
  go_enter Tryz.func166,Tryz.ntmps166
  go_wp2
  go_loopw [6] (fun i wr=>∃ k:Nat,i = .int .i64 (k + 1:Nat)∧k < l.length∧Hid (MnAt w w.heap.size (minTo l k) wr)) (fun i _=>l.length - (intOf i).toNat)
  case atStart=>exact ⟨0,rfl,h0,HF.out⟩
  case round =>
    obtain ⟨k,rfl,hk,HM⟩:=hrel
    by_cases hlt1:k + 1 < l.length
    · have hr:=ownsRow_below H.out HM.out.bel
      have y0:=HRow.at0 hr hlt1
      have y1:=HRow.at1 hr hlt1
      have c0:=HM.out.c0
      have c1:=HM.out.c1
      have hnext:minTo l (k + 1) = if cmpH (nth l (k + 1)) (minTo l k) < 0 then nth l (k + 1) else minTo l k:=rfl
      have hcmp:=compare142 (nth l (k + 1)) (minTo l k)
      generalize hk1:k + 1 = k1 at y0 y1 hlt1 hnext hcmp
      have HK1:=hide hk1
      generalize nth l k1 = x at y0 y1 hnext hcmp
      generalize hmt:minTo l k = mt at c0 c1 hnext hcmp
      rw [hmt] at HM
      generalize hcv:cmpH x mt = cv at hnext hcmp
      have HNX:=hide hnext
      have HCM:=hide hcmp
      clear hr hnext hcmp hmt hcv hk1 x0 x1
      have HSA:Hid (wr.drew.cell? ⟨g,k1 * 2,none⟩ = some (.int .i64 x.1)∧wr.drew.cell? ⟨g,k1 * 2 + 1,none⟩ = some (.int .i64 x.2)∧wr.drew.cell? ⟨w.heap.size + 1,0,none⟩ = some (.int .i64 mt.1)∧wr.drew.cell? ⟨w.heap.size + 1,1,none⟩ = some (.int .i64 mt.2)):=⟨y0,y1,c0,c1⟩
      go_wp2
      go_region_held3 (fun wx=>wx.cell? ⟨g,k1 * 2,none⟩ = some (.int .i64 x.1)∧wx.cell? ⟨g,k1 * 2 + 1,none⟩ = some (.int .i64 x.2)∧wx.cell? ⟨w.heap.size + 1,0,none⟩ = some (.int .i64 mt.1)∧wx.cell? ⟨w.heap.size + 1,1,none⟩ = some (.int .i64 mt.2))
        ((first | with_reducible exact HSA.out | with_reducible exact HSB.out))
        (first
          | (go_at_call 149; refine (HCM.out _).mono ?_; rintro e2 w2 ⟨rfl,hb2⟩; have HSB:=hide (And.intro (cell_below HSA.out.1 hb2) (And.intro (cell_below HSA.out.2.1 hb2) (And.intro (cell_below HSA.out.2.2.1 hb2) (cell_below HSA.out.2.2.2 hb2))))))
      have HM2:=hide (HM.out.below (Below.undrew hb2))
      have z0:=HSB.out.1
      have z1:=HSB.out.2.1
      have z2:=HM2.out.c0
      have z3:=HM2.out.c1
      have fz:=HM2.out.fz
      clear hb2 y0 y1 c0 c1 HSA HSB HCM
      by_cases hn:cv < 0
      · go_wp2
        refine ⟨⟨k1,by go_num,by omega,?_⟩,by simp [intOf]; have:=HK1.out; omega⟩
        rw [HNX.out,if_pos hn]
        exact HM2.out.set (Nat.le_refl _) x
      · go_wp2
        refine ⟨⟨k1,by go_num,by omega,?_⟩,by simp [intOf]; have:=HK1.out; omega⟩
        rw [HNX.out,if_neg hn]
        exact HM2.out
    · have hkl:k = l.length - 1:=by omega
      generalize hmt:minTo l k = mt at HM
      have HE:Hid (minTo l (l.length - 1) = mt):=by rw [← hkl]; exact hmt
      clear hmt
      have c0:=HM.out.c0
      have c1:=HM.out.c1
      have d0:=HM.out.d0
      have d1:=HM.out.d1
      have fb:=HM.out.fb
      have HB:=hide HM.out.bel
      clear hkl HM x0 x1
      go_wp2
      refine bodyPost_ret (v:=.agg #[.int .i64 mt.1,.int .i64 mt.2]) (by simp [results,Tryz.results166,go_sem,d0,d1]) rfl ⟨by rw [HE.out],?_⟩
      repeat (first | exact HB.out | refine Below.setCell ?_ (by first | omega | (simp; done) | (simp; omega)) _)
set_option maxHeartbeats 2000000 in
set_option maxRecDepth 20000 in
theorem maxFunc158 (v:Value) (l:List Hit) (w:World) (h:HRow w v l) (h0:0 < l.length) (hl:l.length≤1000) :
    Calls Tryz.prog 168 #[v,.func (.func 149) #[] #[]] w fun e w'=>e = .returned (.agg #[.int .i64 (maxTo l (l.length - 1)).1,.int .i64 (maxTo l (l.length - 1)).2])∧Below w.heap.size w w':=by
  obtain ⟨a,cap,rfl,ha⟩:=HRow_slice h
  obtain ⟨g,rfl⟩:=ha h0
  clear ha
  have hlt:=((h.lt g rfl).2:g < w.heap.size)
  have x0:=HRow.at0 h h0
  have x1:=HRow.at1 h h0
  have H:=hide h
  clear h
  have hfirst:=MnAt.first w (nth l 0)
  have HF:=hide hfirst
  clear hfirst
  go_enter Tryz.func168,Tryz.ntmps168
  go_wp2
  go_loopw [6] (fun i wr=>∃ k:Nat,i = .int .i64 (k + 1:Nat)∧k < l.length∧Hid (MnAt w w.heap.size (maxTo l k) wr)) (fun i _=>l.length - (intOf i).toNat)
  case atStart=>exact ⟨0,rfl,h0,HF.out⟩
  case round =>
    obtain ⟨k,rfl,hk,HM⟩:=hrel
    by_cases hlt1:k + 1 < l.length
    · have hr:=ownsRow_below H.out HM.out.bel
      have y0:=HRow.at0 hr hlt1
      have y1:=HRow.at1 hr hlt1
      have c0:=HM.out.c0
      have c1:=HM.out.c1
      have hnext:maxTo l (k + 1) = if 0 < cmpH (nth l (k + 1)) (maxTo l k) then nth l (k + 1) else maxTo l k:=rfl
      have hcmp:=compare142 (nth l (k + 1)) (maxTo l k)
      generalize hk1:k + 1 = k1 at y0 y1 hlt1 hnext hcmp
      have HK1:=hide hk1
      generalize nth l k1 = x at y0 y1 hnext hcmp
      generalize hmt:maxTo l k = mt at c0 c1 hnext hcmp
      rw [hmt] at HM
      generalize hcv:cmpH x mt = cv at hnext hcmp
      have HNX:=hide hnext
      have HCM:=hide hcmp
      clear hr hnext hcmp hmt hcv hk1 x0 x1
      have HSA:Hid (wr.drew.cell? ⟨g,k1 * 2,none⟩ = some (.int .i64 x.1)∧wr.drew.cell? ⟨g,k1 * 2 + 1,none⟩ = some (.int .i64 x.2)∧wr.drew.cell? ⟨w.heap.size + 1,0,none⟩ = some (.int .i64 mt.1)∧wr.drew.cell? ⟨w.heap.size + 1,1,none⟩ = some (.int .i64 mt.2)):=⟨y0,y1,c0,c1⟩
      go_wp2
      go_region_held3 (fun wx=>wx.cell? ⟨g,k1 * 2,none⟩ = some (.int .i64 x.1)∧wx.cell? ⟨g,k1 * 2 + 1,none⟩ = some (.int .i64 x.2)∧wx.cell? ⟨w.heap.size + 1,0,none⟩ = some (.int .i64 mt.1)∧wx.cell? ⟨w.heap.size + 1,1,none⟩ = some (.int .i64 mt.2))
        ((first | with_reducible exact HSA.out | with_reducible exact HSB.out))
        (first
          | (go_at_call 149; refine (HCM.out _).mono ?_; rintro e2 w2 ⟨rfl,hb2⟩; have HSB:=hide (And.intro (cell_below HSA.out.1 hb2) (And.intro (cell_below HSA.out.2.1 hb2) (And.intro (cell_below HSA.out.2.2.1 hb2) (cell_below HSA.out.2.2.2 hb2))))))
      have HM2:=hide (HM.out.below (Below.undrew hb2))
      have z0:=HSB.out.1
      have z1:=HSB.out.2.1
      have z2:=HM2.out.c0
      have z3:=HM2.out.c1
      have fz:=HM2.out.fz
      clear hb2 y0 y1 c0 c1 HSA HSB HCM
      by_cases hn:0 < cv
      · go_wp2
        refine ⟨⟨k1,by go_num,by omega,?_⟩,by simp [intOf]; have:=HK1.out; omega⟩
        rw [HNX.out,if_pos hn]
        exact HM2.out.set (Nat.le_refl _) x
      · go_wp2
        refine ⟨⟨k1,by go_num,by omega,?_⟩,by simp [intOf]; have:=HK1.out; omega⟩
        rw [HNX.out,if_neg hn]
        exact HM2.out
    · have hkl:k = l.length - 1:=by omega
      generalize hmt:maxTo l k = mt at HM
      have HE:Hid (maxTo l (l.length - 1) = mt):=by rw [← hkl]; exact hmt
      clear hmt
      have c0:=HM.out.c0
      have c1:=HM.out.c1
      have d0:=HM.out.d0
      have d1:=HM.out.d1
      have fb:=HM.out.fb
      have HB:=hide HM.out.bel
      clear hkl HM x0 x1
      go_wp2
      refine bodyPost_ret (v:=.agg #[.int .i64 mt.1,.int .i64 mt.2]) (by simp [results,Tryz.results168,go_sem,d0,d1]) rfl ⟨by rw [HE.out],?_⟩
      repeat (first | exact HB.out | refine Below.setCell ?_ (by first | omega | (simp; done) | (simp; omega)) _)
end
section
open Go.RowKit Go.Maps

def hitsOf (dd:Int→Int→Int) (id:Int) (xs:List Int):List Hit:=xs.map fun x=>(x,dd id x)

theorem madeHRow (w:World) (n:Nat) (hn:n≤1000):HRow (w.alloc (.cells (madeCells (Value.cells (.agg #[.int .i64 0,.int .i64 0])) (n * 2)) 63)) (.slice (some ⟨w.heap.size,0,none⟩) n n) (List.replicate n (0,0)):=by
  have e1:(List.replicate n ((0,0):Hit)).length = n:=by simp
  unfold HRow
  rw [e1]
  refine ⟨by rw [hcells_length,e1],.inr ⟨w.heap.size,n,_,rfl,Nat.zero_le _,heap_alloc_new _ _,Nat.le_refl _,by unfold maxLen; omega,by rw [size_madeCells],?_⟩⟩
  rw [← madeHits,List.take_of_length_le (by simp [size_madeCells])]

theorem take_set_next {α:Type} (o:List α) (k:Nat) (x:α) (hk:k < o.length):(o.set k x).take (k + 1) = o.take k ++ [x]:=by
  rw [List.take_succ_eq_append_getElem (by simpa using hk)]
  simp [List.take_set_of_le]

set_option maxHeartbeats 2000000 in
set_option maxRecDepth 20000 in
theorem hits157 (gv:Value) (links beam:Int) (mk:Nat) (caps:Array Value) (dd:Int→Int→Int) (id:Int) (v:Value) (xs:List Int) (w:World) (ha:IRow w v xs) (hl:xs.length≤1000)
    (eg:∀ args w,(callFunc mk args).run Tryz.prog w = .ok (.enter mk args) w)
    (hm:∀ o ∈ xs,∀ W,Below w.heap.size w W→Calls Tryz.prog mk (#[.int .i64 id,.int .i64 o] ++ caps) W fun e W'=>e = .returned (.int .i64 (dd id o))∧Below W.heap.size W W') :
    Calls Tryz.prog 167 #[.agg #[gv,.int .i64 links,.int .i64 beam,.func (.func mk) #[] caps],.int .i64 id,v] w fun ev w'=>∃ v',ev = .returned v'∧HRow w' v' (hitsOf dd id xs)∧(∀ g,v'.ownBlock = some g→w.heap.size≤g)∧Below w.heap.size w w':=by
  obtain ⟨a,cap,rfl,hsa⟩:=IRow_slice ha
  obtain ⟨i0,hi,hz0,hz1,hz2⟩:=info_parts info63
  have hmk:=run_make (P:=Tryz.prog) (w.alloc (.cells #[gv,.int .i64 links,.int .i64 beam,.func (.func mk) #[] caps] 109)) 58 63 i0 (.agg #[.int .i64 0,.int .i64 0]) Tryz.underlying58 hi hz0 .i64 .i64 (xs.length:Int) (xs.length:Int) (by omega) (Int.le_refl _) (by rw [hz2]; omega) (by omega)
  simp only [Int.toNat_natCast,hz1] at hmk
  have hrow:=madeHRow (w.alloc (.cells #[gv,.int .i64 links,.int .i64 beam,.func (.func mk) #[] caps] 109)) xs.length hl
  generalize madeCells (Value.cells (.agg #[.int .i64 0,.int .i64 0])) (xs.length * 2) = M at hmk hrow
  have hw1:Below w.heap.size w ((w.alloc (.cells #[gv,.int .i64 links,.int .i64 beam,.func (.func mk) #[] caps] 109)).alloc (.cells M 63)):=((Below.refl _ _).alloc (Nat.le_refl _) _).alloc (by simp) _
  have e1:(w.alloc (.cells #[gv,.int .i64 links,.int .i64 beam,.func (.func mk) #[] caps] 109)).heap.size = w.heap.size + 1:=by simp
  rw [e1] at hrow hmk
  have hblk:((w.alloc (.cells #[gv,.int .i64 links,.int .i64 beam,.func (.func mk) #[] caps] 109)).alloc (.cells M 63)).heap[w.heap.size]? = some (.cells #[gv,.int .i64 links,.int .i64 beam,.func (.func mk) #[] caps] 109 (0,0)):=(Below.heap_alloc _ _ _ (by simp)).trans (heap_alloc_new _ _)
  have HR:=hide hrow
  have HW1:=hide hw1
  have HBK:=hide hblk
  have HA:=hide ha
  have HSA:=hide hsa
  have HMS:=hide hm
  clear hrow hw1 hblk ha hsa hm e1
  go_enter Tryz.func167,Tryz.ntmps167
  go_wp2
  generalize hwe:(w.alloc (.cells #[gv,.int .i64 links,.int .i64 beam,.func (.func mk) #[] caps] 109)).alloc (.cells M 63) = w1 at HR HW1 HBK ⊢
  clear hwe hmk
  go_loopw [8,9,15] (fun _ _ i wr=>∃ (k:Nat) (o:List Hit),i = .int .i64 k∧k≤xs.length∧Hid (o.length = xs.length)∧Hid (o.take k = hitsOf dd id (xs.take k))∧Hid (HRow wr (.slice (some ⟨w.heap.size + 1,0,none⟩) o.length o.length) o)∧Hid (wr.heap[w.heap.size]? = some (.cells #[gv,.int .i64 links,.int .i64 beam,.func (.func mk) #[] caps] 109 (0,0)))∧Hid (Below w.heap.size w wr)) (fun _ _ i _=>xs.length - (intOf i).toNat)
  case atStart=>exact ⟨0,List.replicate xs.length (0,0),rfl,Nat.zero_le _,List.length_replicate,rfl,by rw [List.length_replicate]; exact HR.out,HBK.out,HW1.out⟩
  case round =>
    obtain ⟨k,o,rfl,hk,HO,HT,HRW,HBL,HBE⟩:=hrel
    by_cases hlt:k < xs.length
    · obtain ⟨g,rfl⟩:=HSA.out (by omega)
      have hrw:=ownsRow_below HA.out HBE.out
      have y0:wr.cell? ⟨g,k,none⟩ = some (.int .i64 (xs.getD k 0)):=ownsRow_cell hrw (by simp [vals,List.getD_eq_getElem?_getD,hlt])
      have hin:xs.getD k 0 ∈ xs:=by rw [List.getD_eq_getElem?_getD,List.getElem?_eq_getElem hlt]; exact List.getElem_mem hlt
      have htk:xs.take (k + 1) = xs.take k ++ [xs.getD k 0]:=by rw [List.take_succ_eq_append_getElem hlt,List.getD_eq_getElem?_getD,List.getElem?_eq_getElem hlt]; rfl
      have hht:=hit138 gv links beam mk caps dd id (xs.getD k 0) wr eg (fun W hW=>HMS.out _ hin W (HBE.out.trans (hW.mono HBE.out.size)))
      generalize xs.getD k 0 = x at y0 htk hht
      have c0:=cells_at HBL.out 0 rfl
      have c1:=cells_at HBL.out 1 rfl
      have c2:=cells_at HBL.out 2 rfl
      have c3:=cells_at HBL.out 3 rfl
      have hko:k < o.length:=by rw [HO.out]; exact hlt
      have HHT:=hide hht
      have HTK:=hide htk
      clear hrw hin hht htk
      go_wp2_with (go_at_call 145; refine HHT.out.mono ?_; rintro e3 w3 ⟨rfl,hb3⟩; have hrw3:=ownsRow_below HRW.out hb3; have x0:=HRow.at0 hrw3 hko; have x1:=HRow.at1 hrw3 hko; have hfz:=ownsRow_frozen hrw3; have HRW3:=hide hrw3; have HB3:=hide hb3; clear hrw3 hb3)
      have hB:=HBE.out.trans (HB3.out.mono HBE.out.size)
      refine ⟨⟨k + 1,o.set k (x,dd id x),by go_num,by omega,?_,?_,?_,?_,?_⟩,by simp [intOf]; omega⟩
      · show (o.set k _).length = _
        rw [List.length_set]; exact HO.out
      · show (o.set k _).take _ = _
        rw [take_set_next _ _ _ hko,HT.out,HTK.out]
        simp [hitsOf]
      · show HRow _ _ _
        unfold HRow
        rw [List.length_set]
        exact HRow.set HRW3.out k (x,dd id x)
      · show _ = _
        rw [Below.heap_setCell _ _ _ _ (by show w.heap.size ≠ w.heap.size + 1; omega),Below.heap_setCell _ _ _ _ (by show w.heap.size ≠ w.heap.size + 1; omega)]
        exact (HB3.out.block _ (heap_lt HBL.out)).trans HBL.out
      · exact (hB.setCell (by show _≤w.heap.size + 1; omega) _).setCell (by show _≤w.heap.size + 1; omega) _
    · go_wp2
      go_ret
      obtain rfl:k = xs.length:=by omega
      refine ⟨_,rfl,?_,?_,HBE.out⟩
      · have h1:=HT.out
        rw [List.take_of_length_le (by rw [HO.out]; exact Nat.le_refl _),List.take_of_length_le (Nat.le_refl _)] at h1
        rw [← h1,← HO.out]
        exact HRW.out
      · intro g e
        obtain rfl:w.heap.size + 1 = g:=by simpa [Value.ownBlock] using e
        omega

def nearL (dd:Int→Int→Int) (id:Int) (xs:List Int):Hit:=minTo (hitsOf dd id xs) ((hitsOf dd id xs).length - 1)
def farL (dd:Int→Int→Int) (id:Int) (xs:List Int):Hit:=maxTo (hitsOf dd id xs) ((hitsOf dd id xs).length - 1)
theorem nearL_mem {dd:Int→Int→Int} {id:Int} {xs:List Int} (h:0 < xs.length):(nearL dd id xs).1 ∈ xs:=by
  have:=minTo_mem (l:=hitsOf dd id xs) (n:=(hitsOf dd id xs).length - 1) (by simp [hitsOf]; omega)
  obtain ⟨x,hx,e⟩:=List.mem_map.1 this
  unfold nearL
  rw [← e]; exact hx
theorem farL_mem {dd:Int→Int→Int} {id:Int} {xs:List Int} (h:0 < xs.length):(farL dd id xs).1 ∈ xs:=by
  have:=maxTo_mem (l:=hitsOf dd id xs) (n:=(hitsOf dd id xs).length - 1) (by simp [hitsOf]; omega)
  obtain ⟨x,hx,e⟩:=List.mem_map.1 this
  unfold farL
  rw [← e]; exact hx

set_option maxHeartbeats 2000000 in
set_option maxRecDepth 20000 in
theorem nearest135 (gv:Value) (links beam:Int) (mk:Nat) (caps:Array Value) (dd:Int→Int→Int) (id:Int) (v:Value) (xs:List Int) (w:World) (ha:IRow w v xs) (h0:0 < xs.length) (hl:xs.length≤1000)
    (eg:∀ args w,(callFunc mk args).run Tryz.prog w = .ok (.enter mk args) w)
    (hm:∀ o ∈ xs,∀ W,Below w.heap.size w W→Calls Tryz.prog mk (#[.int .i64 id,.int .i64 o] ++ caps) W fun e W'=>e = .returned (.int .i64 (dd id o))∧Below W.heap.size W W') :
    Calls Tryz.prog 142 #[.agg #[gv,.int .i64 links,.int .i64 beam,.func (.func mk) #[] caps],.int .i64 id,v] w fun ev w'=>ev = .returned (.agg #[.int .i64 (nearL dd id xs).1,.int .i64 (nearL dd id xs).2])∧Below w.heap.size w w':=by
  have hal:=((Below.refl w.heap.size w).alloc (Nat.le_refl _) (.cells #[gv,.int .i64 links,.int .i64 beam,.func (.func mk) #[] caps] 109)).alloc (by simp) (.cells #[.int .i64 0,.int .i64 0] 63)
  have hhs:=hits157 gv links beam mk caps dd id v xs ((w.alloc (.cells #[gv,.int .i64 links,.int .i64 beam,.func (.func mk) #[] caps] 109)).alloc (.cells #[.int .i64 0,.int .i64 0] 63)) (ownsRow_below ha hal) hl eg (fun o ho W hW=>hm o ho W (hal.trans (hW.mono hal.size)))
  obtain ⟨a,cap,rfl,hsa⟩:=IRow_slice ha
  have hlen:(hitsOf dd id xs).length = xs.length:=by simp [hitsOf]
  have HLEN:=hide hlen
  have HH:=hide hhs
  have HAL:=hide hal
  clear hhs hal hsa ha hm eg hlen
  go_enter Tryz.func142,Tryz.ntmps142
  go_wp2_with fail
  refine HH.out.mono ?_
  rintro e1 w1 ⟨v1,rfl,hr1,hf1,hb1⟩
  have l0:w1.cell? ⟨w.heap.size + 1,0,none⟩ = some (.int .i64 0):=Below.at hb1 (by simp) (by simp)
  have l1:w1.cell? ⟨w.heap.size + 1,1,none⟩ = some (.int .i64 0):=Below.at hb1 (by simp) (by simp)
  have fl:∀ o,w1.frozen? ⟨w.heap.size + 1,o,none⟩ = false:=fun o=>(hb1.frozen (p:=⟨_,o,none⟩) (by simp)).trans (by simp)
  have hz:w.heap.size + 1 < w1.heap.size:=by have:=hb1.size; simp at this; omega
  have HB1:=hide (HAL.out.trans (hb1.mono HAL.out.size))
  have hmn:=minFunc156 v1 (hitsOf dd id xs) w1 hr1 (by rw [HLEN.out]; exact h0) (by rw [HLEN.out]; exact hl)
  have HMN:=hide hmn
  generalize hmt:minTo (hitsOf dd id xs) ((hitsOf dd id xs).length - 1) = mt at HMN
  have HNL:Hid (nearL dd id xs = mt):=hmt
  clear hmt
  obtain ⟨a1,cap1,hv1,_⟩:=HRow_slice hr1
  subst hv1
  clear hb1 hmn hr1 hf1 HH HAL
  go_wp2_with fail
  refine HMN.out.mono ?_
  rintro e2 w2 ⟨rfl,hb2⟩
  have m0:=cell_below l0 hb2
  have m1:=cell_below l1 hb2
  have fm:∀ o,w2.frozen? ⟨w.heap.size + 1,o,none⟩ = false:=fun o=>(hb2.frozen (p:=⟨_,o,none⟩) (by exact hz)).trans (fl o)
  have HB2:=hide (HB1.out.trans (hb2.mono HB1.out.size))
  clear l0 l1 fl hb2 HB1 HMN
  go_wp2
  refine bodyPost_ret (v:=.agg #[.int .i64 mt.1,.int .i64 mt.2]) (by simp [results,Tryz.results142,go_sem,m0,m1]) rfl ⟨by rw [HNL.out],?_⟩
  repeat (first | exact HB2.out | refine Below.setCell ?_ (by first | omega | (simp; done) | (simp; omega)) _)

set_option maxHeartbeats 2000000 in
set_option maxRecDepth 20000 in
theorem farthest137 (gv:Value) (links beam:Int) (mk:Nat) (caps:Array Value) (dd:Int→Int→Int) (id:Int) (v:Value) (xs:List Int) (w:World) (ha:IRow w v xs) (h0:0 < xs.length) (hl:xs.length≤1000)
    (eg:∀ args w,(callFunc mk args).run Tryz.prog w = .ok (.enter mk args) w)
    (hm:∀ o ∈ xs,∀ W,Below w.heap.size w W→Calls Tryz.prog mk (#[.int .i64 id,.int .i64 o] ++ caps) W fun e W'=>e = .returned (.int .i64 (dd id o))∧Below W.heap.size W W') :
    Calls Tryz.prog 144 #[.agg #[gv,.int .i64 links,.int .i64 beam,.func (.func mk) #[] caps],.int .i64 id,v] w fun ev w'=>ev = .returned (.agg #[.int .i64 (farL dd id xs).1,.int .i64 (farL dd id xs).2])∧Below w.heap.size w w':=by
  have hal:=((Below.refl w.heap.size w).alloc (Nat.le_refl _) (.cells #[gv,.int .i64 links,.int .i64 beam,.func (.func mk) #[] caps] 109)).alloc (by simp) (.cells #[.int .i64 0,.int .i64 0] 63)
  have hhs:=hits157 gv links beam mk caps dd id v xs ((w.alloc (.cells #[gv,.int .i64 links,.int .i64 beam,.func (.func mk) #[] caps] 109)).alloc (.cells #[.int .i64 0,.int .i64 0] 63)) (ownsRow_below ha hal) hl eg (fun o ho W hW=>hm o ho W (hal.trans (hW.mono hal.size)))
  obtain ⟨a,cap,rfl,hsa⟩:=IRow_slice ha
  have hlen:(hitsOf dd id xs).length = xs.length:=by simp [hitsOf]
  have HLEN:=hide hlen
  have HH:=hide hhs
  have HAL:=hide hal
  clear hhs hal hsa ha hm eg hlen
  go_enter Tryz.func144,Tryz.ntmps144
  go_wp2_with fail
  refine HH.out.mono ?_
  rintro e1 w1 ⟨v1,rfl,hr1,hf1,hb1⟩
  have l0:w1.cell? ⟨w.heap.size + 1,0,none⟩ = some (.int .i64 0):=Below.at hb1 (by simp) (by simp)
  have l1:w1.cell? ⟨w.heap.size + 1,1,none⟩ = some (.int .i64 0):=Below.at hb1 (by simp) (by simp)
  have fl:∀ o,w1.frozen? ⟨w.heap.size + 1,o,none⟩ = false:=fun o=>(hb1.frozen (p:=⟨_,o,none⟩) (by simp)).trans (by simp)
  have hz:w.heap.size + 1 < w1.heap.size:=by have:=hb1.size; simp at this; omega
  have HB1:=hide (HAL.out.trans (hb1.mono HAL.out.size))
  have hmn:=maxFunc158 v1 (hitsOf dd id xs) w1 hr1 (by rw [HLEN.out]; exact h0) (by rw [HLEN.out]; exact hl)
  have HMN:=hide hmn
  generalize hmt:maxTo (hitsOf dd id xs) ((hitsOf dd id xs).length - 1) = mt at HMN
  have HNL:Hid (farL dd id xs = mt):=hmt
  clear hmt
  obtain ⟨a1,cap1,hv1,_⟩:=HRow_slice hr1
  subst hv1
  clear hb1 hmn hr1 hf1 HH HAL
  go_wp2_with fail
  refine HMN.out.mono ?_
  rintro e2 w2 ⟨rfl,hb2⟩
  have m0:=cell_below l0 hb2
  have m1:=cell_below l1 hb2
  have fm:∀ o,w2.frozen? ⟨w.heap.size + 1,o,none⟩ = false:=fun o=>(hb2.frozen (p:=⟨_,o,none⟩) (by exact hz)).trans (fl o)
  have HB2:=hide (HB1.out.trans (hb2.mono HB1.out.size))
  clear l0 l1 fl hb2 HB1 HMN
  go_wp2
  refine bodyPost_ret (v:=.agg #[.int .i64 mt.1,.int .i64 mt.2]) (by simp [results,Tryz.results144,go_sem,m0,m1]) rfl ⟨by rw [HNL.out],?_⟩
  repeat (first | exact HB2.out | refine Below.setCell ?_ (by first | omega | (simp; done) | (simp; omega)) _)
end
section
open Go.RowKit Go.Maps

def outB (links:Int) (lk:Int × Int→List Int) (id l:Int) (x:Int):Bool:=decide (x = id) || decide (x ∈ lk (id,l)) || !roomL links lk x l

set_option maxHeartbeats 2000000 in
set_option maxRecDepth 20000 in
theorem mend131 (b1 b2 b3 b4 bg:Nat) (links beam:Int) (fv:Value) (v2:Value) (F:Nat→Prop) (lev:List (Int × Int)) (lk:Int × Int→List Int) (ch:List Int) (id l x:Int) (w:World) (h:GAt w bg F lev lk ch) (hx:I64 x) (hl:I64 l) (hs:∀ p,(lk p).length≤1000) (hk:0≤links∧links≤1000)
    (c1:w.cell? ⟨b1,0,none⟩ = some (.int .i64 id)) (c2:w.cell? ⟨b2,0,none⟩ = some v2) (r2:IRow w v2 (lk (id,l))) (c4:w.cell? ⟨b4,0,none⟩ = some (.int .i64 l))
    (c3:w.heap[b3]? = some (.cells #[.pointer (some ⟨bg,0,none⟩),.int .i64 links,.int .i64 beam,fv] 109 (0,0))) :
    Calls Tryz.prog 138 #[.int .i64 x,.pointer (some ⟨b1,0,none⟩),.pointer (some ⟨b2,0,none⟩),.pointer (some ⟨b3,0,none⟩),.pointer (some ⟨b4,0,none⟩)] w fun e w'=>e = .returned (.bool (outB links lk id l x))∧Below w.heap.size w w':=by
  obtain ⟨a2,cap2,rfl,_⟩:=IRow_slice r2
  have d0:=cells_at c3 0 rfl
  have d1:=cells_at c3 1 rfl
  have d2:=cells_at c3 2 rfl
  have d3:=cells_at c3 3 rfl
  have hct:=contains132 _ (lk (id,l)) x w r2 (hs _)
  have hrm:=room133 bg links beam fv F lev lk ch x l w h hx hl (hs _) hk
  have HO:Hid (outB links lk id l x = (decide (x = id) || decide (x ∈ lk (id,l)) || !roomL links lk x l)):=rfl
  generalize outB links lk id l x = ov at HO
  generalize decide (x ∈ lk (id,l)) = cv at hct HO
  generalize roomL links lk x l = rv at hrm HO
  generalize lk (id,l) = lv at *
  have HC:=hide hct
  have HR:=hide hrm
  clear hct hrm h r2 c3 hs
  by_cases h1:x = id
  · subst h1
    go_enter Tryz.func138,Tryz.ntmps138
    go_wp2
    go_ret
    exact ⟨by rw [HO.out]; simp,Below.refl _ _⟩
  · have h1d:decide (x = id) = false:=by simpa using h1
    cases cv with
    | true =>
      go_enter Tryz.func138,Tryz.ntmps138
      go_wp2_with (go_at_call 139; refine HC.out.mono ?_; rintro e2 w2 ⟨rfl,rfl⟩)
      go_ret
      exact ⟨by rw [HO.out]; simp,Below.refl _ _⟩
    | false =>
      go_enter Tryz.func138,Tryz.ntmps138
      go_wp2_with (first | (go_at_call 139; refine HC.out.mono ?_; rintro e2 w2 ⟨rfl,rfl⟩) | (go_at_call 140; refine HR.out.mono ?_; rintro e3 w3 ⟨rfl,hb3⟩))
      go_ret
      exact ⟨by rw [HO.out]; simp [h1],hb3⟩
end
section
open Go.RowKit Go.Maps

structure LkIn (ids:List Int) (lk:Int × Int→List Int):Prop where
  ris:∀ p,Ris (lk p)
  sub:∀ p,∀ x ∈ lk p,x ∈ ids
  key:∀ p,lk p ≠ []→p.1 ∈ ids∧0≤p.2∧p.2≤10

theorem Ris.nodup {xs:List Int} (h:Ris xs):xs.Nodup:=h.imp (fun h=>Int.ne_of_lt h)
theorem LkIn.len {ids:List Int} {lk:Int × Int→List Int} (h:LkIn ids lk) (p:Int × Int):(lk p).length≤ids.length :=
  List.Nodup.length_le_of_subset (h.ris p).nodup (fun x hx=>h.sub p x hx)

def allP (ids:List Int):List (Int × Int):=ids.flatMap fun i=>(List.range 11).map fun k:Nat=>(i,(k:Int))
theorem allP_length:∀ ids:List Int,(allP ids).length = 11 * ids.length
  | []=>rfl
  | i :: ids=>by
    have e:allP (i :: ids) = (List.range 11).map (fun k:Nat=>(i,(k:Int))) ++ allP ids:=rfl
    rw [e,List.length_append,allP_length ids,List.length_map,List.length_range,List.length_cons]
    omega
theorem LkIn.inAll {ids:List Int} {lk:Int × Int→List Int} (h:LkIn ids lk) (p:Int × Int) (hp:lk p ≠ []):p ∈ allP ids:=by
  obtain ⟨h1,h2,h3⟩:=h.key p hp
  refine List.mem_flatMap.2 ⟨p.1,h1,List.mem_map.2 ⟨p.2.toNat,List.mem_range.2 (by omega),?_⟩⟩
  obtain ⟨a,b⟩:=p
  simp only at h2 ⊢
  rw [Int.toNat_of_nonneg h2]

theorem LkIn.upd {ids:List Int} {lk:Int × Int→List Int} (h:LkIn ids lk) {p:Int × Int} {xs:List Int} (hr:Ris xs) (hs:∀ x ∈ xs,x ∈ ids) (hp:p.1 ∈ ids∧0≤p.2∧p.2≤10):LkIn ids (upd lk p xs):=by
  refine ⟨fun q=>?_,fun q=>?_,fun q hq=>?_⟩
  · unfold Proofs.YtpkiefjanmfgfaaGreatDoor.upd
    split
    · exact hr
    · exact h.ris q
  · unfold Proofs.YtpkiefjanmfgfaaGreatDoor.upd
    split
    · exact hs
    · exact h.sub q
  · unfold Proofs.YtpkiefjanmfgfaaGreatDoor.upd at hq
    split at hq
    · rename_i e
      rw [e]; exact hp
    · exact h.key q hq
theorem LkIn.tie {ids:List Int} {lk:Int × Int→List Int} (h:LkIn ids lk) {a b l:Int} (ha:a ∈ ids) (hb:b ∈ ids) (hl:0≤l∧l≤10):LkIn ids (tieL lk a b l):=by
  have h1:LkIn ids (Proofs.YtpkiefjanmfgfaaGreatDoor.upd lk (a,l) (insS (lk (a,l)) b)):=h.upd (ris_insS (h.ris _)) (fun x hx=>(mem_insS.1 hx).elim (fun e=>e ▸ hb) (h.sub _ x)) ⟨ha,hl⟩
  exact h1.upd (ris_insS (h1.ris _)) (fun x hx=>(mem_insS.1 hx).elim (fun e=>e ▸ ha) (h1.sub _ x)) ⟨hb,hl⟩
theorem LkIn.cut {ids:List Int} {lk:Int × Int→List Int} (h:LkIn ids lk) (a b l:Int):LkIn ids (cutL lk a b l):=by
  refine ⟨fun p=>(cutL_sub h.ris a b l p).2.1,fun p x hx=>h.sub p x ((cutL_sub h.ris a b l p).1 x hx),fun p hp=>h.key p (fun e=>hp ?_)⟩
  have:=(cutL_sub h.ris a b l p).2.2
  rw [e] at this
  exact List.eq_nil_of_length_eq_zero (Nat.le_zero.1 this)

def mendOne (links:Int) (dd:Int→Int→Int) (l:Int) (left:List Int) (lk:Int × Int→List Int) (id:Int):Int × Int→List Int :=
  if 0 < (keepP (outB links lk id l) left).length∧roomL links lk id l = true then tieL lk id (nearL dd id (keepP (outB links lk id l) left)).1 l else lk
def mendAll (links:Int) (dd:Int→Int→Int) (l:Int) (left:List Int) (lk:Int × Int→List Int) (xs:List Int):Int × Int→List Int:=xs.foldl (mendOne links dd l left) lk
theorem mem_keepP {p:Int→Bool} {xs:List Int} {x:Int} (h:x ∈ keepP p xs):x ∈ xs:=by
  unfold keepP at h
  exact (List.mem_filter.1 h).1
theorem LkIn.mendOne {ids:List Int} {lk:Int × Int→List Int} (h:LkIn ids lk) (links:Int) (dd:Int→Int→Int) {l id:Int} {left:List Int} (hl:0≤l∧l≤10) (hid:id ∈ ids) (hs:∀ x ∈ left,x ∈ ids):LkIn ids (mendOne links dd l left lk id):=by
  unfold Proofs.YtpkiefjanmfgfaaGreatDoor.mendOne
  split
  · rename_i h1
    exact h.tie hid (hs _ (mem_keepP (nearL_mem h1.1))) hl
  · exact h
theorem LkIn.mendAll {ids:List Int} (links:Int) (dd:Int→Int→Int) {l:Int} {left:List Int} (hl:0≤l∧l≤10) (hs:∀ x ∈ left,x ∈ ids):∀ {xs:List Int} {lk:Int × Int→List Int},LkIn ids lk→(∀ x ∈ xs,x ∈ ids)→LkIn ids (mendAll links dd l left lk xs)
  | [],_,h,_=>h
  | x :: xs,_,h,hx=>LkIn.mendAll (xs:=xs) links dd hl hs (h.mendOne links dd hl (hx x List.mem_cons_self) hs) (fun y hy=>hx y (List.mem_cons_of_mem _ hy))
end
section
open Go.RowKit Go.Maps

theorem entr_ex:∀ lev:List (Int × Int),(∀ p ∈ lev,0≤p.2)→∃ e t,EntrOf lev (fun _=>true) e t
  | [],_=>⟨0,-1,.inl ⟨fun _ hp=>absurd hp List.not_mem_nil,rfl,rfl⟩⟩
  | (x,l) :: r,h=>by
    obtain ⟨e,t,he⟩:=entr_ex r (fun p hp=>h p (List.mem_cons_of_mem _ hp))
    rcases he with ⟨h1,rfl,rfl⟩ | ⟨h1,_,h3⟩
    · have hr:r = []:=by
        cases r with
        | nil=>rfl
        | cons p r=>have:=h1 p List.mem_cons_self; simp at this
      subst hr
      exact ⟨x,l,.inr ⟨List.mem_cons_self,rfl,fun p hp _=>by
        rcases List.mem_cons.1 hp with rfl | hp
        · exact .inr ⟨rfl,Int.le_refl _⟩
        · cases hp⟩⟩
    · by_cases hb:t < l ∨ (l = t∧x < e)
      · refine ⟨x,l,.inr ⟨List.mem_cons_self,rfl,fun p hp _=>?_⟩⟩
        rcases List.mem_cons.1 hp with rfl | hp
        · exact .inr ⟨rfl,Int.le_refl _⟩
        · have:=h3 p hp rfl
          omega
      · refine ⟨e,t,.inr ⟨List.mem_cons_of_mem _ h1,rfl,fun p hp _=>?_⟩⟩
        rcases List.mem_cons.1 hp with rfl | hp
        · show l < t ∨ l = t∧e≤x
          omega
        · exact h3 p hp rfl
theorem entrL_nil:entrL [] = (0,-1):=EntrOf.eq (.inl ⟨fun _ hp=>absurd hp List.not_mem_nil,rfl,rfl⟩)
theorem entrL_mem {lev:List (Int × Int)} (h:∀ p ∈ lev,0≤p.2) (hn:lev ≠ []):entrL lev ∈ lev:=by
  obtain ⟨e,t,he⟩:=entr_ex lev h
  rw [he.eq]
  rcases he with ⟨h1,_,_⟩ | ⟨h1,_,_⟩
  · cases lev with
    | nil=>exact absurd rfl hn
    | cons p r=>have:=h1 p List.mem_cons_self; simp at this
  · exact h1

noncomputable def downR (dd:Int→Int) (lev:List (Int × Int)) (lk:Int × Int→List Int) (ch:List Int) (N:Nat) (kn:List (Int × Int)) (to:Int):List (Int × Int) × List Hit :=
  if lev = [] then (kn,[]) else dnR dd lk ch N ((entrL lev).2 - to).toNat (entrL lev).2 (knowL dd kn (entrL lev).1,[((entrL lev).1,dd (entrL lev).1)])

theorem I64_of (n:Int) (h:-1000000≤n) (h2:n≤1000000):I64 n:=by
  unfold I64
  have h1:IntKind.i64.min = -9223372036854775808:=by decide
  have h2:IntKind.i64.max = 9223372036854775807:=by decide
  simp [Lit.wf,h1,h2]
  omega

theorem GAt.levNodup {w:World} {bg:Nat} {F:Nat→Prop} {lev:List (Int × Int)} {lk:Int × Int→List Int} {ch:List Int} (h:GAt w bg F lev lk ch):(lev.map (·.1)).Nodup:=by
  obtain ⟨bl,bk,cv,Ls,h1,_⟩:=h
  have:=h1.lev.nodup
  unfold keysA levV at this
  rw [List.map_map] at this
  exact this

set_option maxHeartbeats 4000000 in
set_option maxRecDepth 20000 in
theorem down55 (bw bg ms:Nat) (caps:Array Value) (bn:Nat) (kn:List (Int × Int)) (to:Int) (ids:List Int) (dd:Int→Int) (F:Nat→Prop) (lev:List (Int × Int)) (lk:Int × Int→List Int) (ch:List Int) (w:World)
    (h:WalkAt w bw bg ms caps bn kn) (env:WayEnv w bg ms caps bn ids dd F lev lk ch) (hto:0≤to∧to≤10) (hkn:KnOk ids dd kn) (hlev:∀ p ∈ lev,0≤p.2∧p.2≤10∧p.1 ∈ ids) :
    Calls Tryz.prog 58 #[.pointer (some ⟨bw,0,none⟩),.int .i64 to] w fun ev w' =>
      ∃ v',ev = .returned v'∧HRow w' v' (downR dd lev lk ch ids.length kn to).2∧(∀ g,v'.ownBlock = some g→w.heap.size≤g)∧WalkAt w' bw bg ms caps bn (downR dd lev lk ch ids.length kn to).1 ∧
        KnOk ids dd (downR dd lev lk ch ids.length kn to).1∧(∀ x ∈ (downR dd lev lk ch ids.length kn to).2,x.1 ∈ ids∧x.2 = dd x.1)∧(downR dd lev lk ch ids.length kn to).2.length≤300∧Kept (fun k=>k = bn) w w':=by
  have hen:=entrance112 bg F lev lk ch w env.graph (fun p hp=>⟨env.ints _ (hlev p hp).2.2,(hlev p hp).1⟩)
  have c0:=cells_at h.blk 0 rfl
  have hbw:=heap_lt h.blk
  have HEN:=hide hen
  have HW:=hide h
  have HENV:=hide env
  have HKN:=hide hkn
  have HLEV:=hide hlev
  clear hen h env hkn hlev
  by_cases hl:lev = []
  · subst hl
    rw [entrL_nil] at HEN
    have e:downR dd [] lk ch ids.length kn to = (kn,[]):=by rw [downR,if_pos rfl]
    rw [e]
    have hfalse:decide ((0:Int)≤(-1:Int)) = false:=by decide
    simp only [hfalse] at HEN
    clear e
    go_enter Tryz.func58,Tryz.ntmps58
    go_wp2_with fail
    refine HEN.out.mono ?_
    rintro e2 w2 ⟨rfl,hb2⟩
    have HB2:=hide hb2
    clear hb2
    go_wp2
    go_ret
    exact ⟨_,rfl,⟨rfl,.inl ⟨rfl,rfl⟩⟩,fun g e=>by simp [Value.ownBlock] at e,HW.out.below HB2.out,HKN.out,fun _ hx=>absurd hx List.not_mem_nil,Nat.zero_le _,Kept.of_below _ HB2.out⟩
  · have hmem:=entrL_mem (fun p hp=>(HLEV.out p hp).1) hl
    have e:downR dd lev lk ch ids.length kn to = dnR dd lk ch ids.length ((entrL lev).2 - to).toNat (entrL lev).2 (knowL dd kn (entrL lev).1,[((entrL lev).1,dd (entrL lev).1)]):=by rw [downR,if_neg hl]
    rw [e]
    have hlv:levOf lev (entrL lev).1 = some (entrL lev).2:=levOf_of_mem HENV.out.graph.levNodup hmem
    have hfa:=HLEV.out _ hmem
    generalize (entrL lev) = et at HEN hmem hlv hfa
    obtain ⟨en,T⟩:=et
    simp only at HEN hlv hfa ⊢
    have htrue:decide ((0:Int)≤T) = true:=by simpa using hfa.1
    rw [htrue] at HEN
    have HLV:=hide hlv
    have HT:=hide hfa
    clear e hmem hlv hfa htrue hl
    go_enter Tryz.func58,Tryz.ntmps58
    go_wp2_with fail
    refine HEN.out.mono ?_
    rintro e2 w2 ⟨rfl,hb2⟩
    have hW2:=HW.out.below hb2
    have hE2:=HENV.out.later (Kept.of_below _ hb2)
    have hin:en ∈ ids:=HT.out.2.2
    have hh:=hit103 bw bg ms caps bn kn dd en w2 hW2 (HENV.out.ints _ hin) (by have:=HKN.out.len; have:=HENV.out.few; omega) HKN.out.val HENV.out.eg (fun W hb=>hE2.ms en hin W (Kept.of_below _ hb))
    have HH:=hide hh
    have HE2:=hide hE2
    have HB2:=hide hb2
    clear hh hW2 hE2 hb2
    go_wp2_with fail
    refine HH.out.mono ?_
    rintro e3 w3 ⟨rfl,hw3,hk3⟩
    have hE3:=HE2.out.later hk3
    have hlv3:=level87 bg F lev lk ch en (w3.alloc (.cells #[.int .i64 en,.int .i64 (dd en)] 63)) (hE3.graph.below ((Below.refl _ _).alloc (Nat.le_refl _) _)) (HENV.out.ints _ hin)
    rw [HLV.out] at hlv3
    simp only [Option.getD_some] at hlv3
    have c3:=cells_at hw3.blk 0 rfl
    have hb3:=heap_lt hw3.blk
    have HLV3:=hide hlv3
    have HW3:=hide hw3
    have HE3:=hide hE3
    have HK3:Hid (Kept (fun k=>k = bn) w w3):=(Kept.of_below _ HB2.out).trans hk3 (fun _ _ e=>e)
    have HKN3:=hide (HKN.out.hit hin)
    have HIN:=hide hin
    clear hlv3 hw3 hE3 hk3 HH hin
    go_wp2_with fail
    refine HLV3.out.mono ?_
    rintro e4 w4 ⟨rfl,rfl⟩
    have hal:Below w3.heap.size w3 (w3.alloc (.cells #[.int .i64 en,.int .i64 (dd en)] 63)):=(Below.refl _ _).alloc (Nat.le_refl _) _
    have hrow0:HRow (w3.alloc (.cells #[.int .i64 en,.int .i64 (dd en)] 63)) (.slice (some ⟨w3.heap.size,0,none⟩) 1 1) [(en,dd en)] :=
      ⟨rfl,.inr ⟨w3.heap.size,1,_,rfl,Nat.zero_le _,heap_alloc_new _ _,Nat.le_refl _,by unfold maxLen; omega,rfl,rfl⟩⟩
    have HW4:=hide (HW3.out.below hal)
    have HE4:=hide (HE3.out.later (Kept.of_below _ hal))
    have HK4:=hide (HK3.out.below hal)
    have HR4:=hide hrow0
    have hs34:w.heap.size≤w3.heap.size:=HK3.out.size
    clear hal hrow0 HW3 HE3 c3
    generalize w3.alloc (.cells #[.int .i64 en,.int .i64 (dd en)] 63) = w4 at HW4 HE4 HK4 HR4 ⊢
    go_wp2
    go_loopw [7,8] (fun sv lv wr=>∃ (n:Nat) (l:Int) (v':Value) (p:List (Int × Int) × List Hit),sv = v'∧lv = .int .i64 l∧-1≤l∧l≤10∧n = (l - to).toNat∧Hid (dnR dd lk ch ids.length (T - to).toNat T (knowL dd kn en,[(en,dd en)]) = dnR dd lk ch ids.length n l p)∧Hid (HRow wr v' p.2)∧Hid (∀ g,v'.ownBlock = some g→w.heap.size≤g) ∧
        Hid (WalkAt wr bw bg ms caps bn p.1)∧Hid (KnOk ids dd p.1)∧Hid (∀ x ∈ p.2,x.1 ∈ ids∧x.2 = dd x.1)∧Hid (p.2.length≤300)∧Hid (Kept (fun k=>k = bn) w wr)∧Hid (WayEnv wr bg ms caps bn ids dd F lev lk ch)) (fun _ lv _=>((intOf lv) - to).toNat)
    case atStart =>
      refine ⟨_,T,_,(knowL dd kn en,[(en,dd en)]),rfl,rfl,by have:=HT.out.1; omega,HT.out.2.1,rfl,rfl,HR4.out,fun g e=>?_,HW4.out,HKN3.out,fun x hx=>?_,(show (1:Nat)≤300 by omega),HK4.out,HE4.out⟩
      · obtain rfl:w3.heap.size = g:=by simpa [Value.ownBlock] using e
        exact hs34
      · rw [List.mem_singleton.1 hx]
        exact ⟨HIN.out,rfl⟩
    case round =>
      obtain ⟨n,l,v',p,rfl,rfl,hl1,hl2,hn,HD,HR,HFr,HWr,HKr,HXr,HLr,HKp,HEr⟩:=hrel
      by_cases hlt:to < l
      · obtain ⟨n',rfl⟩:∃ n',n = n' + 1:=⟨n - 1,by omega⟩
        have hal:=along54' bw bg ms caps bn p.1 l u7 p.2 1 117 #[] ids dd (fun _=>true) F lev lk ch wr HWr.out HEr.out HR.out HLr.out (fun x hx=>(HXr.out x hx).1) (I64_of l (by omega) (by omega)) HKr.out (by omega) (enters_of Tryz.func117 (by kernel_rfl) rfl) (fun id _ W _=>by
          have:=anyone113 id W
          simpa using this)
        generalize hpp:alongR dd (fun _=>true) 1 (fun i=>reachedL lk ch i l) ids.length p.1 p.2 = pp at hal
        have HPP:=hide hpp
        have HAL:=hide hal
        have HN':=hide hn
        clear hal hpp hn

        go_wp2_with (go_at_call 57; refine HAL.out.mono ?_; rintro e5 w5 ⟨v5,rfl,q1,q2,q3,q4,q5,q6,q7⟩)
        refine ⟨⟨n',l - 1,v5,pp,rfl,?_,by omega,by omega,by have:=HN'.out; omega,?_,q1,fun g e=>Nat.le_trans HKp.out.size (q2 g e),q3,q4,q5,q6,HKp.out.trans q7 (fun _ _ e=>e),HEr.out.later q7⟩,by simp [intOf]; omega⟩
        · rfl
        show dnR dd lk ch ids.length (T - to).toNat T (knowL dd kn en,[(en,dd en)]) = _
        rw [HD.out,dnR,HPP.out]
      · obtain rfl:n = 0:=by omega
        go_wp2
        go_ret
        have h9:=HD.out
        rw [h9]
        exact ⟨_,rfl,HR.out,HFr.out,HWr.out,HKr.out,by intro a b hx; exact HXr.out (a,b) hx,HLr.out,HKp.out⟩
end
end Go.Proofs.YtpkiefjanmfgfaaGreatDoor
