import Derived.ProofKit
import Derived.OpenShut
import Derived.Deep.Slices
import Derived.SizedLaws
import Derived.Carry
import Derived.Test.YtpkiefjanmfgfaaGreatDoorCards
import Derived.Test.YtpkiefjanmfgfaaGreatDoorTie
import Derived.Deep.DeepHandedRow
import Derived.Lib.LaidTab
import Derived.LaidHandle
import Derived.Test.YtpkiefjanmfgfaaGreatDoorAll01
import Derived.Test.YtpkiefjanmfgfaaGreatDoorAll08
import Derived.Test.YtpkiefjanmfgfaaGreatDoorAll12
import Derived.Test.YtpkiefjanmfgfaaGreatDoorAll18
namespace Go.Proofs.YtpkiefjanmfgfaaGreatDoor
section
open Go.RowKit Go.Maps

set_option maxHeartbeats 2000000 in
set_option maxRecDepth 20000 in
theorem step10_delY (W0 w:World) (bp bb bs bm br:Nat) (cf:Cf) (gn:Net) (la:Option Addr) (lc:Nat) (nsv:BV) (nmv:Value) (nn:Nat) (L:List Ent) (id kk be t0 t1 draw:Int) (pn:Nat) (pa:Option Addr) (pc:Nat) (fa:Option Addr) (fn fc:Nat) (e:Ent)
    (h:PairAt W0 w bp bb bs bm br cf gn la lc nsv nmv nn L L) (hlk:Lk gn nn) (hid:I64 id) (he:findE id L = some e) :
    Calls Tryz.prog 15 #[.pointer (some ⟨bp,0,none⟩),.agg #[.int .i64 3,.int .i64 id,.int .i64 kk,.int .i64 be,.slice pa pn pc,.int .i64 t0,.int .i64 t1,.int .u64 draw,.slice fa fn fc]] w fun ev w'=>ev = .returned (.bool true)∧StepOk W0 bp bb bs bm br cf gn.ex nn w':=by
  have H:=hide h
  have HE:=hide he
  have HXF:Hid (¬ gn.F w.heap.size):=(h.apart (Nat.le_refl _)).f
  clear h he
  go_enter Tryz.func15,Tryz.ntmps15
  go_upto_region 7 with fail
  obtain ⟨w1,hw1⟩:∃ w1,w1 = w.alloc (.cells #[.int .i64 3,.int .i64 id,.int .i64 kk,.int .i64 be,.slice pa pn pc,.int .i64 t0,.int .i64 t1,.int .u64 draw,.slice fa fn fc] 49):=⟨_,rfl⟩
  have h1:PairAt W0 w1 bp bb bs bm br cf gn la lc nsv nmv nn L L:=hw1 ▸ H.out.alloc _
  have hX1:w1.heap[w.heap.size]? = some (.cells #[.int .i64 3,.int .i64 id,.int .i64 kk,.int .i64 be,.slice pa pn pc,.int .i64 t0,.int .i64 t1,.int .u64 draw,.slice fa fn fc] 49 (0,0)):=by rw [hw1]; exact heap_alloc_new w _
  rw [← hw1]
  clear hw1
  have H1:=hide h1
  have HX1:=hide hX1
  have hS1:=opS hX1 h1.p0
  clear h1 hX1
  go_region_held3 (fun wx=>wx.cell? ⟨bp,0,none⟩ = some (.pointer (some ⟨bb,0,none⟩))∧wx.cell? ⟨w.heap.size,1,none⟩ = some (.int .i64 id)∧wx.cell? ⟨w.heap.size,4,none⟩ = some (.slice pa pn pc)∧wx.cell? ⟨w.heap.size,5,none⟩ = some (.int .i64 t0)∧wx.cell? ⟨w.heap.size,6,none⟩ = some (.int .i64 t1)∧wx.cell? ⟨w.heap.size,7,none⟩ = some (.int .u64 draw))
    (first | (with_reducible exact hS1) | (with_reducible exact hS2) | (exact hS1))
    (first
      | (go_at_call 24; refine (delete16_yes bb bs bm cf gn id L e _ hid ?_ HE.out).mono ?_; (exact H1.out.base.below (Below.refl _ _).drew); rintro ev2 w2 ⟨rfl,gn',hB2,hk2,hf2,hlk2⟩; obtain ⟨h2,hX2⟩:=del_base H1.out HX1.out hk2 hB2 hf2 HXF.out hlk2; have hS2:=opS hX2 h2.p0))
  have H2:=hide h2
  have HX2:=hide hX2
  have hT1:=opS hX2 h2.p1
  clear h2 hX2 hB2 hk2 hf2 hS1 hS2
  go_upto_region 8 with fail
  go_region_held3 (fun wx=>wx.cell? ⟨bp,1,none⟩ = some (.pointer (some ⟨br,0,none⟩))∧wx.cell? ⟨w.heap.size,1,none⟩ = some (.int .i64 id)∧wx.cell? ⟨w.heap.size,4,none⟩ = some (.slice pa pn pc)∧wx.cell? ⟨w.heap.size,5,none⟩ = some (.int .i64 t0)∧wx.cell? ⟨w.heap.size,6,none⟩ = some (.int .i64 t1)∧wx.cell? ⟨w.heap.size,7,none⟩ = some (.int .u64 draw))
    (first | (with_reducible exact hT1) | (with_reducible exact hT2) | (exact hT1))
    (first
      | (go_at_call 37; refine (delete20_yes br cf la lc L id e _ ?_ HE.out).mono ?_; (exact H2.out.ref.below (Below.refl _ _).drew); rintro ev3 w3 ⟨rfl,la3,lc3,hR3,hl3,hk3⟩; obtain ⟨h3,hX3⟩:=del_ref H2.out HX2.out hR3 hl3 hk3; have hT2:=opS hX3 h3.p1))
  have H3:=hide h3
  obtain ⟨⟨y5,hye⟩,hy5⟩:=h3.p5
  have hfz:=h3.book.frozen
  simp only at hy5
  have HYE:=hide hye
  clear hye h3 hX3 hR3 hl3 hk3 hT1 hT2
  cases y5
  · go_wp2
    go_ret
    exact ⟨rfl,_,_,_,_,_,_,_,Nat.le_add_right _ _,H3.out.field5 false,hlk.gone hlk2,hlk2.z⟩
  · go_wp2
    go_ret
    exact ⟨rfl,_,_,_,_,_,_,_,Nat.le_add_right _ _,H3.out.field5 false,hlk.gone hlk2,hlk2.z⟩

set_option maxHeartbeats 2000000 in
set_option maxRecDepth 20000 in
theorem step10_delN (W0 w:World) (bp bb bs bm br:Nat) (cf:Cf) (gn:Net) (la:Option Addr) (lc:Nat) (nsv:BV) (nmv:Value) (nn:Nat) (L:List Ent) (id kk be t0 t1 draw:Int) (pn:Nat) (pa:Option Addr) (pc:Nat) (fa:Option Addr) (fn fc:Nat)
    (h:PairAt W0 w bp bb bs bm br cf gn la lc nsv nmv nn L L) (hlk:Lk gn nn) (hid:I64 id) (he:findE id L = none) :
    Calls Tryz.prog 15 #[.pointer (some ⟨bp,0,none⟩),.agg #[.int .i64 3,.int .i64 id,.int .i64 kk,.int .i64 be,.slice pa pn pc,.int .i64 t0,.int .i64 t1,.int .u64 draw,.slice fa fn fc]] w fun ev w'=>ev = .returned (.bool true)∧StepOk W0 bp bb bs bm br cf gn.ex nn w':=by
  have H:=hide h
  have HE:=hide he
  clear h he
  go_enter Tryz.func15,Tryz.ntmps15
  go_upto_region 7 with fail
  obtain ⟨w1,hw1⟩:∃ w1,w1 = w.alloc (.cells #[.int .i64 3,.int .i64 id,.int .i64 kk,.int .i64 be,.slice pa pn pc,.int .i64 t0,.int .i64 t1,.int .u64 draw,.slice fa fn fc] 49):=⟨_,rfl⟩
  have h1:PairAt W0 w1 bp bb bs bm br cf gn la lc nsv nmv nn L L:=hw1 ▸ H.out.alloc _
  have hX1:w1.heap[w.heap.size]? = some (.cells #[.int .i64 3,.int .i64 id,.int .i64 kk,.int .i64 be,.slice pa pn pc,.int .i64 t0,.int .i64 t1,.int .u64 draw,.slice fa fn fc] 49 (0,0)):=by rw [hw1]; exact heap_alloc_new w _
  rw [← hw1]
  clear hw1
  have H1:=hide h1
  have HX1:=hide hX1
  have hS1:=opS hX1 h1.p0
  clear h1 hX1
  go_region_held3 (fun wx=>wx.cell? ⟨bp,0,none⟩ = some (.pointer (some ⟨bb,0,none⟩))∧wx.cell? ⟨w.heap.size,1,none⟩ = some (.int .i64 id)∧wx.cell? ⟨w.heap.size,4,none⟩ = some (.slice pa pn pc)∧wx.cell? ⟨w.heap.size,5,none⟩ = some (.int .i64 t0)∧wx.cell? ⟨w.heap.size,6,none⟩ = some (.int .i64 t1)∧wx.cell? ⟨w.heap.size,7,none⟩ = some (.int .u64 draw))
    (first | (with_reducible exact hS1) | (with_reducible exact hS2) | (exact hS1))
    (first
      | (go_at_call 24; refine (delete16_no bb bs bm cf gn id L _ hid ?_ HE.out).mono ?_; (exact H1.out.base.below (Below.refl _ _).drew); rintro ev2 w2 ⟨rfl,hb2⟩; have hb2:=Below.undrew hb2; have h2:=H1.out.below hb2; have hX2:=(hb2.block _ (Array.getElem?_eq_some_iff.1 HX1.out).1).trans HX1.out; have hS2:=opS hX2 h2.p0))
  have H2:=hide h2
  have HX2:=hide hX2
  have hT1:=opS hX2 h2.p1
  clear h2 hX2 hb2 hS1 hS2
  go_upto_region 8 with fail
  go_region_held3 (fun wx=>wx.cell? ⟨bp,1,none⟩ = some (.pointer (some ⟨br,0,none⟩))∧wx.cell? ⟨w.heap.size,1,none⟩ = some (.int .i64 id)∧wx.cell? ⟨w.heap.size,4,none⟩ = some (.slice pa pn pc)∧wx.cell? ⟨w.heap.size,5,none⟩ = some (.int .i64 t0)∧wx.cell? ⟨w.heap.size,6,none⟩ = some (.int .i64 t1)∧wx.cell? ⟨w.heap.size,7,none⟩ = some (.int .u64 draw))
    (first | (with_reducible exact hT1) | (with_reducible exact hT2) | (exact hT1))
    (first
      | (go_at_call 37; refine (delete20_no br cf la lc L id _ ?_ HE.out).mono ?_; (exact H2.out.ref.below (Below.refl _ _).drew); rintro ev3 w3 ⟨rfl,hb3⟩; have hb3:=Below.undrew hb3; have h3:=H2.out.below hb3; have hX3:=(hb3.block _ (Array.getElem?_eq_some_iff.1 HX2.out).1).trans HX2.out; have hT2:=opS hX3 h3.p1))
  have H3:=hide h3
  obtain ⟨⟨y5,hye⟩,hy5⟩:=h3.p5
  have hfz:=h3.book.frozen
  simp only at hy5
  have HYE:=hide hye
  clear hye h3 hX3 hb3 hT1 hT2
  cases y5
  · go_wp2
    go_ret
    exact ⟨rfl,_,_,_,_,_,_,_,Nat.le_add_right _ _,H3.out.field5 false,by rw [Net.pt_eq HYE.out]; exact hlk,SameZ.refl _⟩
  · go_wp2
    go_ret
    exact ⟨rfl,_,_,_,_,_,_,_,Nat.le_add_right _ _,H3.out.field5 true,by rw [Net.pt_eq HYE.out]; exact hlk,SameZ.refl _⟩

theorem step10_any (W0 w:World) (bp bb bs bm br:Nat) (cf:Cf) (gn:Net) (la:Option Addr) (lc:Nat) (nsv:BV) (nmv:Value) (nn:Nat) (L:List Ent) (kd id kk be t0 t1 draw:Int) (xs:List Int) (pa:Option Addr) (pc:Nat) (fa:Option Addr) (fn fc:Nat)
    (h:PairAt W0 w bp bb bs bm br cf gn la lc nsv nmv nn L L) (hlk:Lk gn nn) (hv:IntsAt W0 (.slice pa xs.length pc) xs) (hid:I64 id) (hn:(xs.length + 6) * 8≤140737488355328) (hnn:(nn + 4) * 24≤140737488355328) (hdr:0≤draw∧draw < 18446744073709551616) (hkd:kd≤4) :
    Calls Tryz.prog 15 #[.pointer (some ⟨bp,0,none⟩),.agg #[.int .i64 kd,.int .i64 id,.int .i64 kk,.int .i64 be,.slice pa xs.length pc,.int .i64 t0,.int .i64 t1,.int .u64 draw,.slice fa fn fc]] w fun ev w'=>ev = .returned (.bool true)∧StepOk W0 bp bb bs bm br cf gn.ex nn w':=by
  by_cases h1:kd = 1
  · subst h1; exact step10_put W0 w bp bb bs bm br cf gn la lc nsv nmv nn L id kk be t0 t1 draw xs pa pc fa fn fc h hlk hv hid hn hnn hdr
  by_cases h2:kd = 2
  · subst h2; exact step10_get W0 w bp bb bs bm br cf gn la lc nsv nmv nn L id kk be t0 t1 draw xs.length pa pc fa fn fc h hlk hid hnn
  by_cases h3:kd = 3
  · subst h3
    cases he:findE id L with
    | none=>exact step10_delN W0 w bp bb bs bm br cf gn la lc nsv nmv nn L id kk be t0 t1 draw xs.length pa pc fa fn fc h hlk hid he
    | some e=>exact step10_delY W0 w bp bb bs bm br cf gn la lc nsv nmv nn L id kk be t0 t1 draw xs.length pa pc fa fn fc e h hlk hid he
  by_cases h4:kd = 4
  · subst h4; exact step10_count W0 w bp bb bs bm br cf gn la lc nsv nmv nn L id kk be t0 t1 draw xs.length pa pc fa fn fc h hlk
  exact step10_else W0 w bp bb bs bm br cf gn la lc nsv nmv nn L kd id kk be t0 t1 draw xs.length pa pc fa fn fc h hlk (by simp [h1]) (by simp [h2]) (by simp [h3]) (by simp [h4]) (by simp; omega) (by simp; omega) (by simp; omega)
end
section
open Go.RowKit Go.Maps

set_option maxHeartbeats 2000000 in
set_option maxRecDepth 20000 in
theorem begun9_no (d c l m b t:Int) (w:World) (hg:Handle w) (hc:cfgB d c l m b t = false) :
    Calls Tryz.prog 14 #[.agg #[.int .i64 d,.int .i64 c,.int .i64 l,.int .i64 m,.int .i64 b,.int .i64 t]] w fun ev w'=>ev = .returned (.tuple #[.pointer none,.bool true])∧Below w.heap.size w w':=by
  have HC:=hide hc
  clear hc
  go_enter Tryz.func14,Tryz.ntmps14
  go_wp2_with fail
  refine (new12_bad d c l m b t _ (hg.alloc _) HC.out).mono ?_
  rintro ev w1 ⟨rfl,hb1⟩
  have k0:w1.cell? ⟨w.heap.size,0,none⟩ = some (.int .i64 d):=Below.at hb1 (by simp) (by simp)
  have k1:w1.cell? ⟨w.heap.size,1,none⟩ = some (.int .i64 c):=Below.at hb1 (by simp) (by simp)
  have k2:w1.cell? ⟨w.heap.size,2,none⟩ = some (.int .i64 l):=Below.at hb1 (by simp) (by simp)
  have k3:w1.cell? ⟨w.heap.size,3,none⟩ = some (.int .i64 m):=Below.at hb1 (by simp) (by simp)
  have k4:w1.cell? ⟨w.heap.size,4,none⟩ = some (.int .i64 b):=Below.at hb1 (by simp) (by simp)
  have k5:w1.cell? ⟨w.heap.size,5,none⟩ = some (.int .i64 t):=Below.at hb1 (by simp) (by simp)
  have hbw:Below w.heap.size w w1:=((Below.refl _ _).alloc (Nat.le_refl _) _).trans (hb1.mono (by simp))
  have HBW:=hide hbw
  clear hb1 hbw
  go_wp2_with fail
  refine (config17_any d c l m b t _).mono ?_
  rintro ev w2 ⟨rfl,hb2⟩
  rw [HC.out]
  have HB2:=hide hb2
  clear hb2
  go_wp2
  go_ret2
  exact ⟨rfl,HBW.out.trans (HB2.out.mono HBW.out.size)⟩

theorem pair_new {W0 w2 w3:World} {d c l m b t:Int} {bb bs bm:Nat} {gn:Net} {cs ct:Array Value} (h0:0 < W0.heap.size) (hold:Below W0.heap.size W0 w2) (hb3:Below w2.heap.size w2 w3) (hB:BaseAt w2 bb bs bm ⟨d,c,l,m,b,t⟩ gn [])
    (hts:w2.heap[bs]? = some (.cells cs 155 (0,0))) (htb:w2.heap[bb]? = some (.cells ct 102 (0,0))) (hbb:W0.heap.size≤bb) (hbm:W0.heap.size≤bm) (hF:∀ k,gn.F k→W0.heap.size≤k) (_hlo:gn.looks = 0) (hex:gn.ex = Bks.nil) (hlw:gn.lows = 0∧gn.lst = 0∧gn.pt = false) :
    PairAt W0 ((w3.alloc (.cells #[.int .i64 d,.int .i64 c,.int .i64 l,.int .i64 m,.int .i64 b,.int .i64 t,.slice none 0 0] 92)).alloc (.cells #[.pointer (some ⟨bb,0,none⟩),.pointer (some ⟨w3.heap.size,0,none⟩),.int .i64 0,.int .i64 0,.int .i64 0,.bool false,.int .i64 0,.int .i64 0,.slice none 0 0,.slice none 0 0,.slice none 0 0,.slice none 0 0,.slice none 0 0,.slice none 0 0,.slice none 0 0,.slice none 0 0] 41))
      (w3.heap.size + 1) bb bs bm w3.heap.size ⟨d,c,l,m,b,t⟩ gn none 0 BV.nil (.slice none 0 0) 0 [] []:=by
  have hz2:=(Array.getElem?_eq_some_iff.1 htb).1
  have hzs:=(Array.getElem?_eq_some_iff.1 hts).1
  have hz3:=hb3.size
  have hz1:=hold.size
  obtain ⟨w4,hw4⟩:∃ w4,w4 = w3.alloc (.cells #[.int .i64 d,.int .i64 c,.int .i64 l,.int .i64 m,.int .i64 b,.int .i64 t,.slice none 0 0] 92):=⟨_,rfl⟩
  rw [← hw4]
  have hz4:w4.heap.size = w3.heap.size + 1:=by rw [hw4]; simp
  obtain ⟨w5,hw5⟩:∃ w5,w5 = w4.alloc (.cells #[.pointer (some ⟨bb,0,none⟩),.pointer (some ⟨w3.heap.size,0,none⟩),.int .i64 0,.int .i64 0,.int .i64 0,.bool false,.int .i64 0,.int .i64 0,.slice none 0 0,.slice none 0 0,.slice none 0 0,.slice none 0 0,.slice none 0 0,.slice none 0 0,.slice none 0 0,.slice none 0 0] 41):=⟨_,rfl⟩
  rw [← hw5]
  have hp:w5.heap[w3.heap.size + 1]? = some (.cells #[.pointer (some ⟨bb,0,none⟩),.pointer (some ⟨w3.heap.size,0,none⟩),.int .i64 0,.int .i64 0,.int .i64 0,.bool false,.int .i64 0,.int .i64 0,.slice none 0 0,.slice none 0 0,.slice none 0 0,.slice none 0 0,.slice none 0 0,.slice none 0 0,.slice none 0 0,.slice none 0 0] 41 (0,0)):=by
    rw [hw5,← hz4]; exact heap_alloc_new _ _
  have hr:w5.heap[w3.heap.size]? = some (.cells #[.int .i64 d,.int .i64 c,.int .i64 l,.int .i64 m,.int .i64 b,.int .i64 t,.slice none 0 0] 92 (0,0)):=by
    rw [hw5,Below.heap_alloc _ _ _ (by omega),hw4]; exact heap_alloc_new _ _
  have hb5:Below w3.heap.size w3 w5:=by
    rw [hw5,hw4]
    exact ((Below.refl _ _).alloc (Nat.le_refl _) _).alloc (by simp) _
  have hb25:Below w2.heap.size w2 w5:=hb3.trans (hb5.mono hz3)
  clear hw4 hw5
  have nil32:∀ e,w5.ownsRow 0 e 1 (.slice none 0 0) 0 []:=fun e=>⟨rfl,.inl ⟨rfl,rfl⟩⟩
  refine ⟨?_,?_,?_,?_,⟨⟨0,hlw.2.1.symm⟩,?_⟩,⟨⟨false,hlw.2.2.symm⟩,?_⟩,⟨⟨_,hp⟩,⟨0,?_⟩,⟨0,?_⟩,?_,?_,⟨⟨[],rfl⟩,nil32 32⟩,⟨⟨[],rfl⟩,nil32 3⟩⟩,hB.below hb25,⟨⟨_,hr⟩,?_,?_,?_,?_,?_,?_,⟨rfl,.inl ⟨rfl,rfl⟩⟩,fun e he=>(by simp at he),by simp [Rising],by simp⟩,
    ⟨_,(hb25.block _ hz2).trans htb⟩,⟨_,(hb25.block _ hzs).trans hts⟩,⟨fun e he=>(by simp at he),fun e he=>by simp at he⟩,hold.trans (hb25.mono hz1),h0,by omega,hbb,hbm,by omega,fun g hg=>(by cases hg),fun g hg=>(by cases hg),fun g hg=>(by cases hg),fun k hf=>⟨hF k hf,by have:=(hB.foot k hf).1; omega,by have:=(hB.foot k hf).1; omega,fun e=>(by cases e),fun e=>(by cases e),fun e=>(by cases e),fun e he=>absurd he List.not_mem_nil⟩,hex ▸ ⟨?_,?_,?_,?_,?_,?_,⟨⟨[],rfl⟩,nil32 58⟩,⟨⟨[],rfl⟩,nil32 3⟩,⟨⟨[],rfl⟩,nil32 81⟩,⟨⟨[],rfl⟩,nil32 3⟩,⟨⟨[],rfl⟩,nil32 31⟩,⟨⟨[],rfl⟩,nil32 3⟩,fun g e=>(by cases e),fun g e=>(by cases e)⟩,fun k hk=>absurd (hex ▸ hk) (Bks.own_nil k),by rw [hex]; decide,hex ▸ ⟨fun k hf=>absurd hf (by rintro (e | e | e) <;> exact e),fun _ hf=>False.elim hf,fun _ hf=>False.elim hf,fun _ hf=>False.elim hf,fun _ _ hf=>False.elim hf,Nat.zero_le _,fun _ _ _ hr=>absurd hr List.not_mem_nil,fun _ _ _ hr=>absurd hr List.not_mem_nil,fun _ _ _ hr=>absurd hr List.not_mem_nil,fun _ _ _ hr=>absurd hr List.not_mem_nil⟩⟩ <;> (try rw [hlw.1]) <;>
    first
      | (simp only [World.cell?,hp]; rfl)
      | (simp only [World.cell?,hr]; rfl)

set_option maxHeartbeats 2000000 in
set_option maxRecDepth 20000 in
theorem begun9_yes (W0:World) (d c l m b t:Int) (w:World) (hg:Handle w) (hW:Below W0.heap.size W0 w) (h0:0 < W0.heap.size) (hc:cfgB d c l m b t = true) :
    Calls Tryz.prog 14 #[.agg #[.int .i64 d,.int .i64 c,.int .i64 l,.int .i64 m,.int .i64 b,.int .i64 t]] w fun ev w'=>∃ bp bb bs bm br gn,ev = .returned (.tuple #[.pointer (some ⟨bp,0,none⟩),.bool true])∧PairAt W0 w' bp bb bs bm br ⟨d,c,l,m,b,t⟩ gn none 0 BV.nil (.slice none 0 0) 0 [] []∧Lk gn 0∧gn.ex = Bks.nil∧W0.heap.size≤bs:=by
  have HC:=hide hc
  clear hc
  go_enter Tryz.func14,Tryz.ntmps14
  go_wp2_with fail
  refine (new12_ok d c l m b t _ (hg.alloc _) HC.out).mono ?_
  rintro ev w2 ⟨bb,bs,bm,gn,cs,ct,rfl,hB,hts,htb,hb1,hbb,hbs,hbm,hF,hlo,hex,hlw⟩
  have hbw:Below w.heap.size w w2:=((Below.refl _ _).alloc (Nat.le_refl _) _).trans (hb1.mono (by simp))
  have hz:w.heap.size < w2.heap.size:=by have:=hb1.size; simp at this; omega
  have k0:w2.cell? ⟨w.heap.size,0,none⟩ = some (.int .i64 d):=Below.at hb1 (by simp) (by simp)
  have k1:w2.cell? ⟨w.heap.size,1,none⟩ = some (.int .i64 c):=Below.at hb1 (by simp) (by simp)
  have k2:w2.cell? ⟨w.heap.size,2,none⟩ = some (.int .i64 l):=Below.at hb1 (by simp) (by simp)
  have k3:w2.cell? ⟨w.heap.size,3,none⟩ = some (.int .i64 m):=Below.at hb1 (by simp) (by simp)
  have k4:w2.cell? ⟨w.heap.size,4,none⟩ = some (.int .i64 b):=Below.at hb1 (by simp) (by simp)
  have k5:w2.cell? ⟨w.heap.size,5,none⟩ = some (.int .i64 t):=Below.at hb1 (by simp) (by simp)
  have HB:=hide hB
  have HOLD:Hid (Below W0.heap.size W0 w2):=hW.trans (hbw.mono hW.size)
  have HBB:Hid (W0.heap.size≤bb):=by have:=hW.size; simp at hbb; show _≤_; omega
  have HBM:Hid (W0.heap.size≤bm):=by have:=hW.size; simp at hbm; show _≤_; omega
  have HFF:Hid (∀ k,gn.F k→W0.heap.size≤k):=fun k hk=>by have:=hF k hk; have:=hW.size; simp at *; omega
  have HBS:Hid (W0.heap.size≤bs):=by have:=hW.size; simp at hbs; show _≤_; omega
  have HLO:=hide hlo
  have HEX:=hide hex
  have HLW:=hide hlw
  have HTS:=hide hts
  have HTB:=hide htb
  have hz2:w.heap.size < w2.heap.size:=hz
  clear hb1 hbw hB hts htb hW hbb hbs hbm hF hz hlo hex hlw
  go_wp2_with fail
  refine (config17_any d c l m b t _).mono ?_
  rintro ev w3 ⟨rfl,hb3⟩
  rw [HC.out]
  have q0:=Below.at hb3 k0 hz2
  have q1:=Below.at hb3 k1 hz2
  have q2:=Below.at hb3 k2 hz2
  have q3:=Below.at hb3 k3 hz2
  have q4:=Below.at hb3 k4 hz2
  have q5:=Below.at hb3 k5 hz2
  have HB3:=hide hb3
  clear hb3 k0 k1 k2 k3 k4 k5
  go_wp2
  go_ret2
  exact ⟨w3.heap.size + 1,bb,bs,bm,w3.heap.size,gn,rfl,pair_new h0 HOLD.out HB3.out HB.out HTS.out HTB.out HBB.out HBM.out HFF.out HLO.out HEX.out HLW.out,⟨by rw [HLW.out.1,HLO.out],by rw [HLO.out]; omega,by rw [HLO.out]; omega,fun e=>by rw [HLW.out.2.2] at e; cases e⟩,HEX.out,HBS.out⟩
end
section
open Go.RowKit Go.Maps

theorem ints_seven {w:World} {A:Nat} {o:Obj} (h:w.cell? ⟨A,0,none⟩ = some (.int .i64 7)):IntsAt (w.alloc o) (.slice (some ⟨A,0,none⟩) ([7]:List Int).length 1) [7]:=by
  refine ⟨_,_,rfl,by simp,by simp,.inr ⟨A,0,rfl,fun i hi=>?_⟩⟩
  obtain rfl:i = 0:=by simp at hi; omega
  exact (World.cell?_alloc_lt _ _ _ (block_lt_of_cell (a:=⟨A,0,none⟩) h)).trans h

theorem i64_five:I64 5:=by unfold I64; decide
theorem find_five (g gc:Nat):findE 5 (insE ⟨5,[7],1,2,((0:Nat):Int),g,gc,0,0⟩ []) = some ⟨5,[7],1,2,((0:Nat):Int),g,gc,0,0⟩:=by simp [insE,findE]
theorem del_five (g gc:Nat):delE 5 (insE ⟨5,[7],1,2,((0:Nat):Int),g,gc,0,0⟩ []) = []:=by simp [insE,delE]

set_option maxHeartbeats 2000000 in
set_option maxRecDepth 20000 in
theorem awake8_any (w:World) (hg:Handle w) :
    Calls Tryz.prog 13 #[] w fun ev w'=>ev = .returned (.bool true)∧Below w.heap.size w w':=by
  go_enter Tryz.func13,Tryz.ntmps13
  go_wp2_with fail
  refine (new12_ok 1 2 2 0 1 0 _ hg (by decide)).mono ?_
  rintro ev w2 ⟨bb,bs,bm,gn,_,_,rfl,hB,_,_,hb2,_,_,hzm,hgF,_⟩
  have HB:=hide hB
  have HB2:=hide hb2
  have HGF:=hide hgF
  clear hB hb2 hgF
  go_wp2_with fail
  obtain ⟨w3,hw3⟩:∃ w3,w3 = w2.alloc (.cells #[.int .i64 7] 3):=⟨_,rfl⟩
  have h7:w3.cell? ⟨w2.heap.size,0,none⟩ = some (.int .i64 7):=by rw [hw3]; simp
  have hB3:BaseAt w3 bb bs bm ⟨1,2,2,0,1,0⟩ gn []:=hw3 ▸ HB.out.alloc _
  have hb3:Below w.heap.size w w3:=hw3 ▸ HB2.out.alloc HB2.out.size _
  rw [← hw3]
  clear hw3
  refine (put13_ok bb bs bm ⟨1,2,2,0,1,0⟩ gn 5 1 2 0 [7] w2.heap.size 0 1 [] w3 i64_five (by decide) hB3 (by decide) (fun _=>ints_seven h7) (.inr (by decide)) (by decide) (by decide) ?_).mono ?_
  · intro i hi
    obtain rfl:i = 0:=by simp at hi; omega
    exact h7
  rintro ev w4 ⟨rfl,g,gc,gn4,hg4,hB4,hk4,hf4,_⟩
  have hB4:=hB4 0 0
  have hb4:Below w.heap.size w w4:=hb3.trans (hk4.toBelow hb3.size (fun k e=>e.elim (fun e=>by rw [e]; exact hzm) (HGF.out k)))
  have HGF4:Hid (∀ k,gn4.F k→w.heap.size≤k):=fun k hk=>(hf4 k hk).elim (HGF.out k) (fun e=>Nat.le_trans hb3.size e)
  have HB4:=hide hB4
  have HBL4:=hide hb4
  clear hB4 hb4 hk4 hg4 hB3 hb3 h7 hf4
  go_wp2_with fail
  refine (get14_yes bb bs bm _ _ 5 _ ⟨5,[7],1,2,((0:Nat):Int),g,gc,0,0⟩ w4 i64_five HB4.out (find_five g gc)).mono ?_
  rintro ev w5 ⟨g5,gc5,rfl,hg5,hp5,hb5⟩
  have hB5:=HB4.out.below hb5
  have hb5w:Below w.heap.size w w5:=HBL4.out.trans (hb5.mono HBL4.out.size)
  have hlen5:1≤gc5:=ownsRow_len hp5
  have HGF5:Hid (¬ gn4.F g5):=fun e=>by have:=(HB4.out.foot _ e).1; omega
  have HXF:Hid (¬ gn4.F w5.heap.size):=fun e=>by have:=(hB5.foot _ e).1; omega
  have HP5:Hid (Pts w5 g5 gc5 [7]):=hp5
  have HB5:=hide hB5
  have HBL5:=hide hb5w
  have hgl:g5 < w5.heap.size:=(hp5.lt g5 rfl).2
  clear hB5 hb5w hp5 hb5 hg5
  go_wp2_with fail
  obtain ⟨w6,hw6⟩:∃ w6,w6 = w5.alloc (.cells #[.int .i64 5,.slice (some ⟨g5,0,none⟩) 1 gc5,.int .i64 1,.int .i64 2] 77):=⟨_,rfl⟩
  rw [← hw6]
  have hz6:w6.heap.size = w5.heap.size + 1:=by rw [hw6]; simp
  have hb56:Below w5.heap.size w5 w6:=hw6 ▸ (Below.refl _ _).alloc (Nat.le_refl _) _
  have hx6:w6.heap[w5.heap.size]? = some (.cells #[.int .i64 5,.slice (some ⟨g5,0,none⟩) 1 gc5,.int .i64 1,.int .i64 2] 77 (0,0)):=by rw [hw6]; exact heap_alloc_new _ _
  clear hw6
  have HB6:=hide (HB5.out.below hb56)
  have HP6:=hide (ownsRow_below HP5.out hb56)
  have HBL6:Hid (Below w.heap.size w w6):=HBL5.out.trans (hb56.mono HBL5.out.size)
  have HX6:=hide hx6
  clear hx6 hb56
  refine (count15_any bb bs bm _ _ _ w6 HB6.out).mono ?_
  rintro ev w7 ⟨rfl,rfl⟩
  go_wp2_with fail
  refine (delete16_yes bb bs bm _ _ 5 _ _ w6 i64_five HB6.out (find_five g gc)).mono ?_
  rintro ev w8 ⟨rfl,gn8,hB8,hk8,_⟩
  rw [del_five] at hB8
  have hx8:=(hk8.block w5.heap.size (by omega) (fun e=>e.elim (HB6.out.map.mb_ne HX6.out) HXF.out)).trans HX6.out
  have hp8:Pts w8 g5 gc5 [7]:=ownsRow_kept HP6.out hk8 fun g' hg'=>by
    obtain ⟨cu,hcu⟩:=ownsRow_obj HP6.out hg'
    obtain rfl:g5 = g':=by simpa [Value.ownBlock] using hg'
    exact fun e=>e.elim (HB6.out.map.mb_ne hcu) HGF5.out
  have hb8:Below w.heap.size w w8:=HBL6.out.trans (hk8.toBelow HBL6.out.size (fun k e=>e.elim (fun e=>by rw [e]; exact hzm) (HGF4.out k)))
  have hz8:w5.heap.size < w8.heap.size:=by have:=hk8.size; omega
  have HB8:=hide hB8
  have HX8:=hide hx8
  have HP8:=hide hp8
  have HBL8:=hide hb8
  clear hB8 hx8 hp8 hb8 hk8
  go_wp2_with fail
  refine (get14_no bb bs bm _ _ 5 [] w8 i64_five HB8.out rfl).mono ?_
  rintro ev w9 ⟨rfl,hb9⟩
  have hx9:=(hb9.block _ hz8).trans HX8.out
  have hp9:=ownsRow_below HP8.out hb9
  have HBL9:Hid (Below w.heap.size w w9):=HBL8.out.trans (hb9.mono HBL8.out.size)
  have hz9:w5.heap.size < w9.heap.size:=Nat.lt_of_lt_of_le hz8 hb9.size
  have hg9:g5 < w9.heap.size:=(hp9.lt g5 rfl).2
  have c1:w9.cell? ⟨w5.heap.size,1,none⟩ = some (.slice (some ⟨g5,0,none⟩) 1 gc5):=by simp only [World.cell?,hx9]; rfl
  have c3:w9.cell? ⟨w5.heap.size,3,none⟩ = some (.int .i64 2):=by simp only [World.cell?,hx9]; rfl
  have c7:w9.cell? ⟨g5,0,none⟩ = some (.int .i64 7):=Pts.at (xs:=[7]) hp9 (i:=0) (by simp)
  clear hx9 hp9 hb9 hz6
  go_wp2
  go_ret
  exact ⟨rfl,HBL9.out.alloc HBL9.out.size _⟩
end
section
open Go.RowKit Go.Maps

structure OpAt (w:World) (b o:Nat) (kd id kk be t0 t1 draw:Int) (xs:List Int) (pa:Option Addr) (pc:Nat) (fa:Option Addr) (fn fc:Nat):Prop where
  c0:w.cell? ⟨b,o,none⟩ = some (.int .i64 kd)
  c1:w.cell? ⟨b,o + 1,none⟩ = some (.int .i64 id)
  c2:w.cell? ⟨b,o + 2,none⟩ = some (.int .i64 kk)
  c3:w.cell? ⟨b,o + 3,none⟩ = some (.int .i64 be)
  c4:w.cell? ⟨b,o + 4,none⟩ = some (.slice pa xs.length pc)
  c5:w.cell? ⟨b,o + 5,none⟩ = some (.int .i64 t0)
  c6:w.cell? ⟨b,o + 6,none⟩ = some (.int .i64 t1)
  c7:w.cell? ⟨b,o + 7,none⟩ = some (.int .u64 draw)
  c8:w.cell? ⟨b,o + 8,none⟩ = some (.slice fa fn fc)
  pt:IntsAt w (.slice pa xs.length pc) xs
  wf:I64 id
  dr:0≤draw∧draw < 18446744073709551616
  sz:(xs.length + 6) * 8≤140737488355328
structure ScriptAt (w:World) (a:Option Addr) (len:Nat):Prop where
  sz:len * 104≤140737488355328
  op:∀ i,i < len→∃ b off,a = some ⟨b,off,none⟩∧∃ kd id kk be t0 t1 draw xs pa pc fa fn fc,OpAt w b (off + i * 9) kd id kk be t0 t1 draw xs pa pc fa fn fc
theorem OpAt.below {w w':World} {b o:Nat} {kd id kk be t0 t1 draw:Int} {xs:List Int} {pa:Option Addr} {pc:Nat} {fa:Option Addr} {fn fc:Nat} (h:OpAt w b o kd id kk be t0 t1 draw xs pa pc fa fn fc) (hb:Below w.heap.size w w'):OpAt w' b o kd id kk be t0 t1 draw xs pa pc fa fn fc :=
  have hl:=block_lt_of_cell h.c0
  ⟨Below.at hb h.c0 hl,Below.at hb h.c1 hl,Below.at hb h.c2 hl,Below.at hb h.c3 hl,Below.at hb h.c4 hl,Below.at hb h.c5 hl,Below.at hb h.c6 hl,Below.at hb h.c7 hl,Below.at hb h.c8 hl,h.pt.below hb,h.wf,h.dr,h.sz⟩
end
section
open Go.RowKit Go.Maps

end
section
open Go.ChangeShapes Go.WideShapes Go.RowKit

theorem cells23:Tryz.prog.cellsOf 23 = 6:=by kernel_rfl
theorem cells32:Tryz.prog.cellsOf 32 = 1:=by kernel_rfl
theorem cells43:Tryz.prog.cellsOf 43 = 2:=by kernel_rfl
theorem cells44:Tryz.prog.cellsOf 44 = 1:=by kernel_rfl
theorem cells45:Tryz.prog.cellsOf 45 = 1:=by kernel_rfl
theorem cells47:Tryz.prog.cellsOf 47 = 1:=by kernel_rfl
theorem cells49:Tryz.prog.cellsOf 49 = 9:=by kernel_rfl
theorem bytes3:Tryz.prog.bytesOf 3 = 8:=by kernel_rfl
theorem bytes49:Tryz.prog.bytesOf 49 = 104:=by kernel_rfl

theorem addr_plain {w:World} {a:Addr} {v:Value} (h:w.cell? a = some v):a = ⟨a.block,a.off,none⟩:=by
  obtain ⟨b,o,s⟩:=a
  cases s with
  | none=>rfl
  | some x =>
    simp only [World.cell?] at h
    split at h <;> simp at h
theorem addr_at (b o i:Nat):(⟨b,o,none⟩:Addr).add i = ⟨b,o + i,none⟩:=by
  unfold Addr.add
  split
  · subst_vars; rfl
  · rfl

section
variable {H:Type} {enc:TypeId × Value→H} {W:World} {sp:Nat→Bool} {hd:Bool}

set_option maxRecDepth 100000 in
theorem cfg_open {b0:Nat} {r:Reach} {v:Value} {d:DataW H} {p:List MemPlace} (hv:Value.okWide Tryz.prog W r b0 23 v) (h:DataW.Trod enc Tryz.prog W 0 sp hd 23 v d p) :
    ∃ a0 a1 a2 a3 a4 a5:Int,v = .agg #[.int .i64 a0,.int .i64 a1,.int .i64 a2,.int .i64 a3,.int .i64 a4,.int .i64 a5]:=by
  obtain ⟨cs,rfl,hsz⟩:=okWide_struct Tryz.underlying23 hv
  rw [cells23] at hsz
  obtain ⟨l⟩:=cs
  match l,hsz with
  | [c0,c1,c2,c3,c4,c5],_ =>
    obtain ⟨fuel,hf⟩:=h
    obtain ⟨xs,n,_,_,_,hlen,hx⟩:=DataW.trod_struct Tryz.underlying23 hf
    match xs,hlen with
    | [y0,y1,y2,y3,y4,y5],_ =>
      have g0:=hx 0 _ rfl
      have g1:=hx 1 _ rfl
      have g2:=hx 2 _ rfl
      have g3:=hx 3 _ rfl
      have g4:=hx 4 _ rfl
      have g5:=hx 5 _ rfl
      simp [Value.cells,cells3] at g0 g1 g2 g3 g4 g5
      obtain ⟨a0,e0,_⟩:=DataW.trod_int Tryz.underlying3 g0
      obtain ⟨a1,e1,_⟩:=DataW.trod_int Tryz.underlying3 g1
      obtain ⟨a2,e2,_⟩:=DataW.trod_int Tryz.underlying3 g2
      obtain ⟨a3,e3,_⟩:=DataW.trod_int Tryz.underlying3 g3
      obtain ⟨a4,e4,_⟩:=DataW.trod_int Tryz.underlying3 g4
      obtain ⟨a5,e5,_⟩:=DataW.trod_int Tryz.underlying3 g5
      simp at e0 e1 e2 e3 e4 e5
      subst e0; subst e1; subst e2; subst e3; subst e4; subst e5
      exact ⟨a0,a1,a2,a3,a4,a5,rfl⟩

theorem point_open {n:Nat} {c:Value} {x:DataW H × List MemPlace} (h:DataW.trod enc Tryz.prog W 0 (fun _=>true) hd n 32 [c] = some x) (hw:∀ k ∈ x.1.weights Tryz.prog 32,k≤reachBytes) :
    ∃ (xs:List Int) (pa:Option Addr) (pc:Nat),c = .slice pa xs.length pc∧IntsAt W (.slice pa xs.length pc) xs∧(xs.length + 6) * 8≤140737488355328:=by
  rcases open_ints Tryz.underlying32 Tryz.underlying3 cells3 h with ⟨e,_⟩ | ⟨a,len,cap,zs,e,_,hl,hm,hz,rfl,hc,_⟩
  · simp at e
    subst e
    exact ⟨[],none,0,rfl,⟨none,0,rfl,Nat.le_refl _,by simp,.inl rfl⟩,by simp⟩
  · simp at e hz
    subst e
    have hlen:(zs.take len).length = len:=by simp; omega
    have hb:((lits (H:=H) .i64 (zs.take len)).length + (lits (H:=H) .i64 (zs.drop len)).length) * Tryz.prog.bytesOf 3≤reachBytes:=hw _ (by simp only [DataW.weights,Tryz.underlying32]; exact List.mem_cons_self)
    simp [lits,bytes3,reachBytes] at hb
    have hb2:len * 8≤140737488351232:=by omega
    refine ⟨zs.take len,some a,cap,by rw [hlen],⟨some a,cap,rfl,by omega,by omega,?_⟩,by rw [hlen]; omega⟩
    by_cases h0:len = 0
    · left; subst h0; simp
    · right
      have e0:=hc 0 (by omega)
      have ea:a = ⟨a.block,a.off,none⟩:=addr_plain (a:=a) (by simpa [Addr.add] using e0)
      refine ⟨a.block,a.off,by rw [← ea],fun i hi=>?_⟩
      rw [hlen] at hi
      have:=hc i (by omega)
      rw [ea,addr_at] at this
      rw [this]
      simp [List.getD_eq_getElem?_getD,hi]
end
end
section
open Go.ChangeShapes Go.WideShapes Go.RowKit

section
variable {H:Type} {enc:TypeId × Value→H} {W:World} {hd:Bool}

theorem weights_all {P:Program} {e:TypeId}:∀ {l:List (DataW H)} {d:DataW H},d ∈ l→∀ k ∈ d.weights P e,k ∈ DataW.weightsAll P e l
  | x :: r,d,hm,k,hk=>by
    simp only [DataW.weightsAll,List.mem_append]
    rcases List.mem_cons.1 hm with rfl | hm
    · exact .inl hk
    · exact .inr (weights_all hm k hk)
  | [],_,hm,_,_=>by cases hm

theorem u64_wf {n:Int} (h:(Lit.int .u64 n).wf = true):0≤n∧n < 18446744073709551616:=by
  have h1:IntKind.u64.min = 0:=by decide
  have h2:IntKind.u64.max = 18446744073709551615:=by decide
  simp [Lit.wf,h1,h2] at h
  omega

structure OpCells (W:World) (cs:List Value) (kd id kk be t0 t1 draw:Int) (xs:List Int) (pa:Option Addr) (pc:Nat) (fa:Option Addr) (fn fc:Nat):Prop where
  all:cs = [.int .i64 kd,.int .i64 id,.int .i64 kk,.int .i64 be,.slice pa xs.length pc,.int .i64 t0,.int .i64 t1,.int .u64 draw,.slice fa fn fc]
  pt:IntsAt W (.slice pa xs.length pc) xs
  wf:I64 id
  dr:0≤draw∧draw < 18446744073709551616
  sz:(xs.length + 6) * 8≤140737488355328

end
end
section
open Go.ChangeShapes Go.WideShapes Go.ChangeAt Go.RowKit

theorem knob:ownKnob Tryz.prog.godebug = none:=by kernel_rfl
theorem errVar : Tryz.prog.globalNamed "errors.errorType" = some 0 := by kernel_rfl
theorem rtypeRow : (Tryz.prog.cutTypes.find? (·.1 == "internal/reflectlite.rtype")).map (·.2) = some 237 := by kernel_rfl
theorem errRow:((List.range 313).filter fun t=>Tryz.prog.rowNamed t [101,114,114,111,114]) = [104]:=by kernel_rfl
theorem typesSize:Tryz.prog.types.size = 313:=by kernel_rfl
theorem read23:Tryz.prog.readableRec 23 = true:=by kernel_rfl
theorem read24:Tryz.prog.readableRec 24 = true:=by kernel_rfl

noncomputable def laidWorld (os:Os):World :=
  let w0:=World.holding Tryz.prog os ⟨#[],#[],[]⟩
  { w0 with heap:=w0.heap.modify 0 fun
      | .cells _ t frozen=>.cells #[.iface 237 (.agg #[.pointer (some ⟨1,104,none⟩)])] t frozen
      | o=>o }
end
section
open Go.RowKit Go.Extern.Stop Go.Stop Go.Extern

set_option maxHeartbeats 8000000 in
set_option maxRecDepth 10000 in
theorem as69_three (s s2 s3:ByteArray) (n n2 n3 r:Int) (t a:Addr) (old:Value) (w:World) (ha:w.cell? a = some (.pointer (some t))) (ht0:w.cell? t = some old) (hf0:w.frozen? t = false) :
    Calls Tryz.prog 132 #[.iface 158 (.agg #[.string s,.int .i64 n,.iface 158 (.agg #[.string s2,.int .i64 n2,.iface 158 (.agg #[.string s3,.int .i64 n3,.iface 156 (.int .i64 r)])])]),.iface 160 (.pointer (some t)),.agg #[.pointer (some ⟨1,160,none⟩),.pointer (some a),.int .u64 150],.iface 237 (.agg #[.pointer (some ⟨1,156,none⟩)])] w
      fun ev w'=>ev = .returned (.bool true)∧∃ o1 o2 o3 o4 o5,w' = (((((w.alloc o1).alloc o2).alloc o3).alloc o4).alloc o5).setCell t (.int .i64 r):=by
  have h66:=@run_callFunc_extern Tryz.prog 129 _ (fun args=>ReflectliteValue.unpack (args.getD 0 (.tuple #[]))) Tryz.func129 (by kernel_rfl) (by kernel_rfl) (by kernel_rfl) (by kernel_rfl)
  have h73:=@run_callFunc_extern Tryz.prog 158 _ ReflectliteType.typeOf Tryz.func158 (by kernel_rfl) (by kernel_rfl) (by kernel_rfl) (by kernel_rfl)
  have h101 := @run_callFunc_extern Tryz.prog 226 _ (ReflectliteType.relation "AssignableTo" ReflectliteType.assignableTo) Tryz.func226 (by kernel_rfl) (by kernel_rfl) (by kernel_rfl) (by kernel_rfl)
  have h74 := @run_callFunc_extern Tryz.prog 159 _ (ReflectliteValue.method (ReflectliteValue.valueError "reflectlite.Value.Elem" 0) ReflectliteValue.elem) Tryz.func159 (by kernel_rfl) (by kernel_rfl) (by kernel_rfl) (by kernel_rfl)
  have h75:=@run_callFunc_extern Tryz.prog 160 _ ReflectliteValue.set Tryz.func160 (by kernel_rfl) (by kernel_rfl) (by kernel_rfl) (by kernel_rfl)
  have f1:=typeOf115
  have f2:=typeOf117
  have f3:=methodAssignableTo
  have f4:=assignable115
  have f5:=assignable117
  have f6:=valueOf115
  have f16:=noAs117
  have f17:=hasUnwrap117
  have f18:=methodUnwrap
  have hal:=block_lt_of_cell ha
  have htl:=block_lt_of_cell ht0
  have ca:∀ o1 o2 o3 o4,((((w.alloc o1).alloc o2).alloc o3).alloc o4).cell? a = some (.pointer (some t)):=fun o1 o2 o3 o4=>by
    rw [World.cell?_alloc_lt _ _ a (by simp; omega),World.cell?_alloc_lt _ _ a (by simp; omega),World.cell?_alloc_lt _ _ a (by simp; omega),World.cell?_alloc_lt _ _ a hal]; exact ha
  have el:=fun o1 o2 o3 o4=>elemV119 a t _ (ca o1 o2 o3 o4)
  have st:=fun o1 o2 o3 o4=>set115 t ⟨w.heap.size + 1 + 1 + 1 + 1,0,none⟩ r old (((((w.alloc o1).alloc o2).alloc o3).alloc o4).alloc (.cells #[.int .i64 r] 156))
    (by rw [World.cell?_alloc_at _ _ _ _ (by simp)]; rfl)
    (by rw [World.cell?_alloc_lt _ _ t (by simp; omega),World.cell?_alloc_lt _ _ t (by simp; omega),World.cell?_alloc_lt _ _ t (by simp; omega),World.cell?_alloc_lt _ _ t (by simp; omega),World.cell?_alloc_lt _ _ t htl]; exact ht0)
    (by rw [World.frozen?_alloc_old _ _ t (by simp; omega),World.frozen?_alloc_old _ _ t (by simp; omega),World.frozen?_alloc_old _ _ t (by simp; omega),World.frozen?_alloc_old _ _ t (by simp; omega),World.frozen?_alloc_old _ _ t (by omega)]; exact hf0)
  clear ca
  go_enter Tryz.func132,Tryz.ntmps132
  go_wp2
  refine wp_loop_rounds 4 ?_
  rw [rounds_succ]
  go_wp2
  rw [rounds_succ]
  go_wp2
  rw [rounds_succ]
  go_wp2
  rw [rounds_succ]
  go_wp2
  go_ret
  exact ⟨rfl,_,_,_,_,_,rfl⟩

set_option maxHeartbeats 8000000 in
set_option maxRecDepth 10000 in
theorem as_three (s s2 s3:ByteArray) (n n2 n3 r:Int) (t:Addr) (old:Value) (w:World) (hg:w.cell? ⟨0,0,none⟩ = some (.iface 237 (.agg #[.pointer (some ⟨1,104,none⟩)]))) (ht0:w.cell? t = some old) (hf0:w.frozen? t = false) :
    Calls Tryz.prog 87 #[.iface 158 (.agg #[.string s,.int .i64 n,.iface 158 (.agg #[.string s2,.int .i64 n2,.iface 158 (.agg #[.string s3,.int .i64 n3,.iface 156 (.int .i64 r)])])]),.iface 160 (.pointer (some t))] w fun ev w'=>ev = .returned (.bool true)∧w'.cell? t = some (.int .i64 r)∧Below t.block w w':=by
  have h66:=@run_callFunc_extern Tryz.prog 129 _ (fun args=>ReflectliteValue.unpack (args.getD 0 (.tuple #[]))) Tryz.func129 (by kernel_rfl) (by kernel_rfl) (by kernel_rfl) (by kernel_rfl)
  have h67 := @run_callFunc_extern Tryz.prog 130 _ (ReflectliteValue.methodAny (ReflectliteValue.valueError "reflectlite.Value.Type" 0) (fun t _ _ _ => ReflectliteType.toType t)) Tryz.func130 (by kernel_rfl) (by kernel_rfl) (by kernel_rfl) (by kernel_rfl)
  have h68 := @run_callFunc_extern Tryz.prog 131 _ (ReflectliteValue.method (ReflectliteValue.valueError "reflectlite.Value.IsNil" 0) ReflectliteValue.isNil) Tryz.func131 (by kernel_rfl) (by kernel_rfl) (by kernel_rfl) (by kernel_rfl)
  have h91:=@run_callFunc_extern Tryz.prog 216 _ (ReflectliteType.abiMethod fun t=>do pure (.int .u8 (← Rtype.kind t))) Tryz.func216 (by kernel_rfl) (by kernel_rfl) (by kernel_rfl) (by kernel_rfl)
  have h103:=@run_callFunc_extern Tryz.prog 228 _ (ReflectliteType.method ReflectliteType.elem) Tryz.func228 (by kernel_rfl) (by kernel_rfl) (by kernel_rfl) (by kernel_rfl)
  have h104 := @run_callFunc_extern Tryz.prog 229 _ (ReflectliteType.relation "Implements" ReflectliteType.implements_) Tryz.func229 (by kernel_rfl) (by kernel_rfl) (by kernel_rfl) (by kernel_rfl)
  have f7:=valueOf119
  have f8:=type119
  have f9:=methodKind
  have f10:=methodElem
  have f11:=methodImplements
  have f12:=kind119
  have f13:=kind115
  have f14:=elem119
  have f15:=implements115
  have hlt:=block_lt_of_cell hg
  have htl:=block_lt_of_cell ht0
  have n8:=isNil119 ⟨w.heap.size,0,none⟩ t ((w.alloc (.cells #[.pointer (some t)] 160)).alloc (.cells #[.pointer (some ⟨1,160,none⟩),.pointer (some ⟨w.heap.size,0,none⟩),.int .u64 150] 207)) (by simp)
  have hg2:((w.alloc (.cells #[.pointer (some t)] 160)).alloc (.cells #[.pointer (some ⟨1,160,none⟩),.pointer (some ⟨w.heap.size,0,none⟩),.int .u64 150] 207)).cell? ⟨0,0,none⟩ = some (.iface 237 (.agg #[.pointer (some ⟨1,104,none⟩)])):=by
    rw [World.cell?_alloc_lt _ _ ⟨0,0,none⟩ (by simp),World.cell?_alloc_lt _ _ ⟨0,0,none⟩ hlt]; exact hg
  go_enter Tryz.func87,Tryz.ntmps87
  go_wp2_with fail
  refine (as69_three s s2 s3 n n2 n3 r t ⟨w.heap.size,0,none⟩ old _ ?c1 ?c2 ?c3).mono ?_
  case c1=>simp
  case c2=>rw [World.cell?_alloc_lt _ _ t (by first | omega | (simp; omega)),World.cell?_alloc_lt _ _ t htl]; exact ht0
  case c3=>rw [World.frozen?_alloc_old _ _ t (by first | omega | (simp; omega)),World.frozen?_alloc_old _ _ t (by omega)]; exact hf0
  rintro e w' ⟨rfl,o1,o2,o3,o4,o5,rfl⟩
  go_wp2
  go_ret
  refine ⟨rfl,World.cell?_setCell_same _ _ _ (u:=old) ?_,?_⟩
  · rw [World.cell?_alloc_lt _ _ t (by first | omega | (simp; omega)),World.cell?_alloc_lt _ _ t (by first | omega | (simp; omega)),World.cell?_alloc_lt _ _ t (by first | omega | (simp; omega)),World.cell?_alloc_lt _ _ t (by first | omega | (simp; omega)),World.cell?_alloc_lt _ _ t (by first | omega | (simp; omega)),World.cell?_alloc_lt _ _ t (by first | omega | (simp; omega)),World.cell?_alloc_lt _ _ t htl]; exact ht0
  · refine Below.setCell ?_ (Nat.le_refl _) _
    exact Below.alloc (Below.alloc (Below.alloc (Below.alloc (Below.alloc (Below.alloc (Below.alloc (Below.refl _ _) (by first | omega | (simp; omega)) _) (by first | omega | (simp; omega)) _) (by first | omega | (simp; omega)) _) (by first | omega | (simp; omega)) _) (by first | omega | (simp; omega)) _) (by first | omega | (simp; omega)) _) (by first | omega | (simp; omega)) _

set_option maxHeartbeats 1000000 in
theorem errno_three (s s2 s3:ByteArray) (n n2 n3 r:Int) (w:World) (hg:Handle w) :
    Calls Tryz.prog 43 #[.iface 158 (.agg #[.string s,.int .i64 n,.iface 158 (.agg #[.string s2,.int .i64 n2,.iface 158 (.agg #[.string s3,.int .i64 n3,.iface 156 (.int .i64 r)])])])] w fun e w'=>e = .returned (.int .i64 r)∧Below w.heap.size w w':=by
  go_enter Tryz.func43,Tryz.ntmps43
  go_wp2_with fail
  refine (as_three s s2 s3 n n2 n3 r ⟨w.heap.size,0,none⟩ (.int .i64 0) _ (hg.alloc _) ?c2 ?c3).mono ?_
  case c2=>simp
  case c3=>simp
  rintro e w1 ⟨rfl,hc,hb⟩
  go_wp2
  go_ret
  exact ⟨rfl,((Below.refl _ _).alloc (Nat.le_refl _) _).trans hb⟩
end
section
open Go.RowKit Go.Maps

def ErrN:Nat→Int→Value→Prop
  | 0,r,v=>v = .iface 156 (.int .i64 r)
  | n + 1,r,v=>∃ s m u,v = .iface 158 (.agg #[.string s,.int .i64 m,u])∧ErrN n r u
def ErrD (d:Nat) (r:Int) (v:Value):Prop:=(r = 0∧v = .nilIface) ∨ (r ≠ 0∧∃ k,1≤k∧k≤d∧ErrN k r v)
theorem ErrD.mono {d d':Nat} {r:Int} {v:Value} (h:ErrD d r v) (hd:d≤d'):ErrD d' r v:=h.imp id fun ⟨h1,k,h2,h3,h4⟩=>⟨h1,k,h2,Nat.le_trans h3 hd,h4⟩
theorem ErrD.one {r:Int} (h:r ≠ 0) (s:ByteArray) (m:Int):ErrD 1 r (.iface 158 (.agg #[.string s,.int .i64 m,.iface 156 (.int .i64 r)])):=.inr ⟨h,1,Nat.le_refl _,Nat.le_refl _,s,m,_,rfl,rfl⟩
theorem ErrD.of_isErr {r:Int} {v:Value} (h:IsErr r v):ErrD 2 r v:=by
  rcases h with ⟨h0,rfl⟩ | ⟨h0,⟨s,n,rfl⟩ | ⟨s,n,s2,n2,rfl⟩⟩
  · exact .inl ⟨h0,rfl⟩
  · exact .inr ⟨h0,1,by omega,by omega,s,n,_,rfl,rfl⟩
  · exact .inr ⟨h0,2,by omega,by omega,s,n,_,rfl,s2,n2,_,rfl,rfl⟩
theorem errno_deep (r:Int) (v:Value) (w:World) (hv:ErrD 3 r v) (hg:Handle w) :
    Calls Tryz.prog 43 #[v] w fun e w'=>e = .returned (.int .i64 r)∧Below w.heap.size w w':=by
  rcases hv with ⟨rfl,rfl⟩ | ⟨_,k,h1,h3,hk⟩
  · exact errno_nil w
  · match k,h1,h3,hk with
    | 1,_,_,⟨s,m,u,e,e2⟩ =>
      subst e; obtain rfl:u = _:=e2
      exact errno_one s m r w hg
    | 2,_,_,⟨s,m,u,e,s2,m2,u2,e2,e3⟩ =>
      subst e; subst e2; obtain rfl:u2 = _:=e3
      exact errno_two s s2 m m2 r w hg
    | 3,_,_,⟨s,m,u,e,s2,m2,u2,e2,s3,m3,u3,e3,e4⟩ =>
      subst e; subst e2; subst e3; obtain rfl:u3 = _:=e4
      exact errno_three s s2 s3 m m2 m3 r w hg

abbrev Cnd:=Int × Int × Int
def okCode (b:Bool):Int:=if b = true then 0 else 7
theorem okCode_true:okCode true = 0:=rfl
theorem okCode_false:okCode false = 7:=rfl
def condB (c:Cnd):Bool:=inB c.1 0 1 && inB c.2.1 0 3
def clauseB (cs:List Cnd):Bool:=decide (cs.length≤6) && cs.all condB
def filtB (F:List (List Cnd)):Bool:=decide (F.length≤6) && F.all clauseB
def CondsAt (w:World) (v:Value) (cs:List Cnd):Prop :=
  ∃ a cap,v = .slice a cs.length cap∧cs.length≤cap∧cs.length≤17592186044416 ∧
    (cs = [] ∨ ∃ b off,a = some ⟨b,off,none⟩∧∀ i,i < cs.length→w.cell? ⟨b,off + i * 3,none⟩ = some (.int .i64 (cs.getD i (0,0,0)).1)∧w.cell? ⟨b,off + i * 3 + 1,none⟩ = some (.int .i64 (cs.getD i (0,0,0)).2.1)∧w.cell? ⟨b,off + i * 3 + 2,none⟩ = some (.int .i64 (cs.getD i (0,0,0)).2.2))
def FiltAt (w:World) (v:Value) (F:List (List Cnd)):Prop :=
  ∃ a cap,v = .slice a F.length cap∧F.length≤cap∧F.length≤17592186044416 ∧
    (F = [] ∨ ∃ b off,a = some ⟨b,off,none⟩∧∀ i,i < F.length→∃ u,w.cell? ⟨b,off + i,none⟩ = some u∧CondsAt w u (F.getD i []))
theorem CondsAt.below {w w':World} {v:Value} {cs:List Cnd} (h:CondsAt w v cs) (hb:Below w.heap.size w w'):CondsAt w' v cs:=by
  obtain ⟨a,cap,rfl,h1,h2,h3⟩:=h
  refine ⟨a,cap,rfl,h1,h2,h3.imp id ?_⟩
  rintro ⟨b,off,rfl,hc⟩
  exact ⟨b,off,rfl,fun i hi=>⟨cell_below (hc i hi).1 hb,cell_below (hc i hi).2.1 hb,cell_below (hc i hi).2.2 hb⟩⟩
theorem FiltAt.below {w w':World} {v:Value} {F:List (List Cnd)} (h:FiltAt w v F) (hb:Below w.heap.size w w'):FiltAt w' v F:=by
  obtain ⟨a,cap,rfl,h1,h2,h3⟩:=h
  refine ⟨a,cap,rfl,h1,h2,h3.imp id ?_⟩
  rintro ⟨b,off,rfl,hc⟩
  refine ⟨b,off,rfl,fun i hi=>?_⟩
  obtain ⟨u,hu,hcu⟩:=hc i hi
  exact ⟨u,cell_below hu hb,hcu.below hb⟩

set_option maxHeartbeats 1000000 in
theorem condition159 (t o v:Int) (w:World):Calls Tryz.prog 169 #[.agg #[.int .i64 t,.int .i64 o,.int .i64 v]] w fun e w'=>(∃ u,e = .returned u∧ErrD 1 (okCode (condB (t,o,v))) u)∧Below w.heap.size w w':=by
  have hc:condB (t,o,v) = (inB t 0 1 && inB o 0 3):=rfl
  rw [hc]
  clear hc
  have hB:∀ ob,Below w.heap.size w (w.alloc ob):=fun ob=>(Below.refl _ _).alloc (Nat.le_refl _) _
  cases h1:inB t 0 1
  · go_enter Tryz.func169,Tryz.ntmps169
    go_wp2_with (go_at_call 86; refine (within_any _ _ _ _).mono ?_; rintro e w' ⟨rfl,rfl⟩)
    go_ret
    exact ⟨⟨_,rfl,by rw [Bool.false_and,okCode_false]; exact ErrD.one (by decide) _ _⟩,hB _⟩
  · cases h2:inB o 0 3
    · go_enter Tryz.func169,Tryz.ntmps169
      go_wp2_with (go_at_call 86; refine (within_any _ _ _ _).mono ?_; rintro e w' ⟨rfl,rfl⟩)
      go_ret
      exact ⟨⟨_,rfl,ErrD.one (by decide) _ _⟩,hB _⟩
    · go_enter Tryz.func169,Tryz.ntmps169
      go_wp2_with (go_at_call 86; refine (within_any _ _ _ _).mono ?_; rintro e w' ⟨rfl,rfl⟩)
      go_ret
      exact ⟨⟨_,rfl,.inl ⟨rfl,rfl⟩⟩,hB _⟩

theorem ErrD.up {d:Nat} {r:Int} {u:Value} (h:ErrD d r u) (hr:r ≠ 0) (s:ByteArray) (m:Int):ErrD (d + 1) r (.iface 158 (.agg #[.string s,.int .i64 m,u])):=by
  rcases h with ⟨h0,_⟩ | ⟨h0,k,h1,h2,h3⟩
  · exact absurd h0 hr
  · exact .inr ⟨h0,k + 1,by omega,by omega,s,m,u,rfl,h3⟩
theorem ErrD.shape {d:Nat} {r:Int} {u:Value} (h:ErrD d r u) (hr:r ≠ 0):∃ x,u = .iface 158 x:=by
  rcases h with ⟨h0,_⟩ | ⟨h0,k,h1,h2,h3⟩
  · exact absurd h0 hr
  · match k,h1,h3 with
    | n + 1,_,⟨s,m,u',e,_⟩=>exact ⟨_,e⟩
theorem all_take_succ {α:Type} (p:α→Bool) (xs:List α) (k:Nat) (d:α) (h:k < xs.length):(xs.take (k + 1)).all p = ((xs.take k).all p && p (xs.getD k d)):=by
  rw [List.take_succ_eq_append_getElem h,List.all_append]
  simp [List.getD_eq_getElem?_getD,h]
theorem all_bad {α:Type} {p:α→Bool} {xs:List α} {k:Nat} {d:α} (h:k < xs.length) (hb:p (xs.getD k d) = false):xs.all p = false:=by
  rw [List.all_eq_false]
  refine ⟨xs.getD k d,?_,by rw [hb]; decide⟩
  simp [List.getD_eq_getElem?_getD,h]

set_option maxHeartbeats 2000000 in
set_option maxRecDepth 20000 in
theorem clause139 (v:Value) (cs:List Cnd) (w:World) (h:CondsAt w v cs):Calls Tryz.prog 146 #[v] w fun e w'=>(∃ u,e = .returned u∧ErrD 2 (okCode (clauseB cs)) u)∧Below w.heap.size w w':=by
  obtain ⟨a,cap,rfl,hcap,hm,hx⟩:=h
  by_cases h6:cs.length≤6
  · have hd:decide (6 < (cs.length:Int)) = false:=decide_eq_false (by omega)
    have HCB:Hid (clauseB cs = cs.all condB):=by
      show _ = _
      unfold clauseB
      simp [h6]
    have HX:=hide hx
    clear hx
    go_enter Tryz.func146,Tryz.ntmps146
    go_wp2
    go_loopw [3,4,5,16] (fun _ _ _ i wr=>∃ k:Nat,i = .int .i64 k∧k≤cs.length∧Hid ((cs.take k).all condB = true)∧Hid (Below w.heap.size w wr)) (fun _ _ _ i _=>cs.length - (intOf i).toNat)
    case atStart=>exact ⟨0,rfl,Nat.zero_le _,rfl,Below.refl _ _⟩
    case round =>
      obtain ⟨k,rfl,hk,HA,HB⟩:=hrel
      by_cases hlt:k < cs.length
      · obtain ⟨b,off,rfl,hc⟩:∃ b off,a = some ⟨b,off,none⟩∧∀ i,i < cs.length→w.cell? ⟨b,off + i * 3,none⟩ = some (.int .i64 (cs.getD i (0,0,0)).1)∧w.cell? ⟨b,off + i * 3 + 1,none⟩ = some (.int .i64 (cs.getD i (0,0,0)).2.1)∧w.cell? ⟨b,off + i * 3 + 2,none⟩ = some (.int .i64 (cs.getD i (0,0,0)).2.2):=by
          rcases HX.out with rfl | h
          · exact absurd hlt (Nat.not_lt_zero _)
          · exact h
        obtain ⟨c0,c1,c2⟩:=hc k hlt
        have y0:=cell_below c0 HB.out
        have y1:=cell_below c1 HB.out
        have y2:=cell_below c2 HB.out
        have HS:Hid ((cs.take (k + 1)).all condB = ((cs.take k).all condB && condB (cs.getD k (0,0,0)))):=all_take_succ condB cs k _ hlt
        have HBD:Hid (condB (cs.getD k (0,0,0)) = false→cs.all condB = false):=fun h=>all_bad hlt h
        generalize cs.getD k (0,0,0) = c at y0 y1 y2 HS HBD
        obtain ⟨t,o,x⟩:=c
        simp only at y0 y1 y2
        have hcd:=condition159 t o x (wr.alloc (.cells #[.int .i64 t,.int .i64 o,.int .i64 x] 72))
        have HCD:=hide hcd
        clear hcd hc c0 c1 c2
        cases hcb:condB (t,o,x)
        · rw [hcb,okCode_false] at HCD
          go_wp2_with fail
          refine HCD.out.mono ?_
          rintro e3 w3 ⟨⟨u,rfl,he⟩,hb3⟩
          obtain ⟨ux,rfl⟩:=he.shape (by decide)
          have HE:=hide he
          have hB3:=HB.out.trans ((((Below.refl _ _).alloc (Nat.le_refl _) _).trans (hb3.mono (by simp))).mono HB.out.size)
          clear y0 y1 y2 hb3 he
          go_wp2
          go_ret
          refine ⟨⟨_,rfl,?_⟩,hB3⟩
          rw [HCB.out,HBD.out hcb,okCode_false]
          exact HE.out.up (by decide) _ _
        · rw [hcb,okCode_true] at HCD
          go_wp2_with fail
          refine HCD.out.mono ?_
          rintro e3 w3 ⟨⟨u,rfl,he⟩,hb3⟩
          obtain rfl:u = .nilIface:=by
            rcases he with ⟨_,h⟩ | ⟨h,_⟩
            · exact h
            · exact absurd rfl h
          have hB3:=HB.out.trans ((((Below.refl _ _).alloc (Nat.le_refl _) _).trans (hb3.mono (by simp))).mono HB.out.size)
          clear y0 y1 y2 hb3 he
          go_wp2
          refine ⟨⟨k + 1,by go_num,by omega,?_,hB3⟩,by simp [intOf]; omega⟩
          show _ = _
          rw [HS.out,HA.out,hcb]; rfl
      · go_wp2
        go_ret
        obtain rfl:k = cs.length:=by omega
        have:=HA.out
        rw [List.take_length] at this
        exact ⟨⟨_,rfl,.inl ⟨by rw [HCB.out,this]; rfl,rfl⟩⟩,HB.out⟩
  · have hd:decide (6 < (cs.length:Int)) = true:=decide_eq_true (by omega)
    have hcb:clauseB cs = false:=by
      unfold clauseB
      simp [h6]
    go_enter Tryz.func146,Tryz.ntmps146
    go_wp2
    go_ret
    refine ⟨⟨_,rfl,?_⟩,Below.refl _ _⟩
    rw [hcb]
    exact (ErrD.one (by decide) _ _).mono (by omega)

set_option maxHeartbeats 2000000 in
set_option maxRecDepth 20000 in
theorem filter96 (v:Value) (F:List (List Cnd)) (w:World) (h:FiltAt w v F):Calls Tryz.prog 100 #[.agg #[v]] w fun e w'=>(∃ u,e = .returned u∧ErrD 3 (okCode (filtB F)) u)∧Below w.heap.size w w':=by
  obtain ⟨a,cap,rfl,hcap,hm,hx⟩:=h
  have hB0:Below w.heap.size w (w.alloc (.cells #[.slice a F.length cap] 47)):=(Below.refl _ _).alloc (Nat.le_refl _) _
  by_cases h6:F.length≤6
  · have hd:decide (6 < (F.length:Int)) = false:=decide_eq_false (by omega)
    have HCB:Hid (filtB F = F.all clauseB):=by
      show _ = _
      unfold filtB
      simp [h6]
    have HX:=hide hx
    have HB0:=hide hB0
    clear hx hB0
    go_enter Tryz.func100,Tryz.ntmps100
    go_wp2
    generalize hwe:w.alloc (.cells #[.slice a F.length cap] 47) = w1 at HB0 ⊢
    clear hwe
    go_loopw [3,4,5,19] (fun _ _ _ i wr=>∃ k:Nat,i = .int .i64 k∧k≤F.length∧Hid ((F.take k).all clauseB = true)∧Hid (Below w.heap.size w wr)) (fun _ _ _ i _=>F.length - (intOf i).toNat)
    case atStart=>exact ⟨0,rfl,Nat.zero_le _,rfl,HB0.out⟩
    case round =>
      obtain ⟨k,rfl,hk,HA,HB⟩:=hrel
      by_cases hlt:k < F.length
      · obtain ⟨b,off,rfl,hc⟩:∃ b off,a = some ⟨b,off,none⟩∧∀ i,i < F.length→∃ u,w.cell? ⟨b,off + i,none⟩ = some u∧CondsAt w u (F.getD i []):=by
          rcases HX.out with rfl | h
          · exact absurd hlt (Nat.not_lt_zero _)
          · exact h
        obtain ⟨u,hu,hcu⟩:=hc k hlt
        have y0:=cell_below hu HB.out
        have hcr:=hcu.below HB.out
        have HS:Hid ((F.take (k + 1)).all clauseB = ((F.take k).all clauseB && clauseB (F.getD k []))):=all_take_succ clauseB F k _ hlt
        have HBD:Hid (clauseB (F.getD k []) = false→F.all clauseB = false):=fun h=>all_bad hlt h
        generalize F.getD k [] = cs at hcr HS HBD
        have hcl:=clause139 u cs wr hcr
        obtain ⟨ua,uc,rfl,_⟩:=hcr
        have HCL:=hide hcl
        clear hcl hc hu hcu
        cases hcb:clauseB cs
        · rw [hcb,okCode_false] at HCL
          go_wp2_with fail
          refine HCL.out.mono ?_
          rintro e3 w3 ⟨⟨u,rfl,he⟩,hb3⟩
          obtain ⟨ux,rfl⟩:=he.shape (by decide)
          have HE:=hide he
          have hB3:=HB.out.trans (hb3.mono HB.out.size)
          clear y0 hb3 he
          go_wp2
          go_ret
          refine ⟨⟨_,rfl,?_⟩,hB3⟩
          rw [HCB.out,HBD.out hcb,okCode_false]
          exact HE.out.up (by decide) _ _
        · rw [hcb,okCode_true] at HCL
          go_wp2_with fail
          refine HCL.out.mono ?_
          rintro e3 w3 ⟨⟨u,rfl,he⟩,hb3⟩
          obtain rfl:u = .nilIface:=by
            rcases he with ⟨_,h⟩ | ⟨h,_⟩
            · exact h
            · exact absurd rfl h
          have hB3:=HB.out.trans (hb3.mono HB.out.size)
          clear y0 hb3 he
          go_wp2
          refine ⟨⟨k + 1,by go_num,by omega,?_,hB3⟩,by simp [intOf]; omega⟩
          show _ = _
          rw [HS.out,HA.out,hcb]; rfl
      · go_wp2
        go_ret
        obtain rfl:k = F.length:=by omega
        have:=HA.out
        rw [List.take_length] at this
        exact ⟨⟨_,rfl,.inl ⟨by rw [HCB.out,this]; rfl,rfl⟩⟩,HB.out⟩
  · have hd:decide (6 < (F.length:Int)) = true:=decide_eq_true (by omega)
    have hcb:filtB F = false:=by
      unfold filtB
      simp [h6]
    go_enter Tryz.func100,Tryz.ntmps100
    go_wp2
    go_ret
    refine ⟨⟨_,rfl,?_⟩,hB0⟩
    rw [hcb]
    exact (ErrD.one (by decide) _ _).mono (by omega)

def schCode (dim:Int) (xs:List Int) (k beam:Int) (F:List (List Cnd)):Int :=
  if ptCode dim xs ≠ 0 then ptCode dim xs else if inB k 1 60 = true∧inB beam 1 100 = true then okCode (filtB F) else 6

set_option maxHeartbeats 2000000 in
set_option maxRecDepth 20000 in
theorem search47 (dim:Int) (pv:Value) (xs:List Int) (k beam:Int) (fv:Value) (F:List (List Cnd)) (w:World) (hp:IntsAt w pv xs) (hf:FiltAt w fv F) :
    Calls Tryz.prog 50 #[pv,.int .i64 dim,.int .i64 k,.int .i64 beam,.agg #[fv]] w fun e w'=>(∃ u,e = .returned u∧ErrD 3 (schCode dim xs k beam F) u)∧Below w.heap.size w w':=by
  have hB0:Below w.heap.size w (w.alloc (.cells #[fv] 47)):=(Below.refl _ _).alloc (Nat.le_refl _) _
  have hpt:=point27_any xs pv dim (w.alloc (.cells #[fv] 47)) (by
    obtain ⟨a,cap,rfl,h1,h2,h3⟩:=hp
    refine ⟨a,cap,rfl,h1,h2,h3.imp id ?_⟩
    rintro ⟨b,off,rfl,hc⟩
    exact ⟨b,off,rfl,fun i hi=>cell_below (hc i hi) hB0⟩)
  obtain ⟨pa,pcap,rfl,_⟩:=hp
  obtain ⟨fa,fcap,rfl,_⟩:=id hf
  have HPT:=hide hpt
  have HF:=hide hf
  have HB0:=hide hB0
  have HSC:Hid (schCode dim xs k beam F = if ptCode dim xs ≠ 0 then ptCode dim xs else if inB k 1 60 = true∧inB beam 1 100 = true then okCode (filtB F) else 6):=rfl
  clear hpt hf hB0
  generalize schCode dim xs k beam F = sc at HSC
  by_cases hpc:ptCode dim xs = 0
  · rw [hpc] at HPT
    have HSC2:Hid (sc = if inB k 1 60 = true∧inB beam 1 100 = true then okCode (filtB F) else 6):=by
      have:=HSC.out
      rw [hpc] at this
      show sc = _
      simpa using this
    go_enter Tryz.func50,Tryz.ntmps50
    go_wp2_with fail
    refine HPT.out.mono ?_
    rintro e1 w1 ⟨⟨u,rfl,hu⟩,hb1⟩
    obtain rfl:u = .nilIface:=by
      rcases hu with ⟨_,h⟩ | ⟨h,_⟩
      · exact h
      · exact absurd rfl h
    have hB1:=HB0.out.trans (hb1.mono HB0.out.size)
    have hz:w1.cell? ⟨w.heap.size,0,none⟩ = some (.slice fa F.length fcap):=Below.at hb1 (by simp) (by simp)
    have HB1:=hide hB1
    have hft:=fun W (hW:Below w1.heap.size w1 W)=>filter96 _ F W ((HF.out.below hB1).below hW)
    have HFT:=hide hft
    clear hb1 hu hB1 hft HPT
    cases hk:inB k 1 60
    · go_wp2_with (go_at_call 86; refine (within_any _ _ _ _).mono ?_; rintro e w' ⟨rfl,rfl⟩)
      go_ret
      refine ⟨⟨_,rfl,?_⟩,HB1.out⟩
      rw [HSC2.out,hk,if_neg (by simp)]
      exact (ErrD.one (by decide) _ _).mono (by omega)
    · cases hb:inB beam 1 100
      · go_wp2_with (go_at_call 86; refine (within_any _ _ _ _).mono ?_; rintro e w' ⟨rfl,rfl⟩)
        go_ret
        refine ⟨⟨_,rfl,?_⟩,HB1.out⟩
        rw [HSC2.out,hb,if_neg (by simp)]
        exact (ErrD.one (by decide) _ _).mono (by omega)
      · go_wp2_with (first | (go_at_call 86; refine (within_any _ _ _ _).mono ?_; rintro e w' ⟨rfl,rfl⟩) | (go_at_call 100; refine (HFT.out w1 (Below.refl _ _)).mono ?_; rintro e2 w2 ⟨⟨u2,rfl,hu2⟩,hb2⟩))
        go_ret
        refine ⟨⟨_,rfl,?_⟩,HB1.out.trans (hb2.mono HB1.out.size)⟩
        rw [HSC2.out,hk,hb,if_pos ⟨rfl,rfl⟩]
        exact hu2
  · have HSC2:Hid (sc = ptCode dim xs):=by
      have:=HSC.out
      rw [if_pos hpc] at this
      exact this
    go_enter Tryz.func50,Tryz.ntmps50
    go_wp2_with fail
    refine HPT.out.mono ?_
    rintro e1 w1 ⟨⟨u,rfl,hu⟩,hb1⟩
    have hB1:=HB0.out.trans (hb1.mono HB0.out.size)
    have hE:=ErrD.of_isErr hu
    obtain ⟨ux,rfl⟩:=hE.shape hpc
    have HE:=hide hE
    clear hE hu hb1
    go_wp2
    go_ret
    refine ⟨⟨_,rfl,?_⟩,hB1⟩
    rw [HSC2.out]
    exact HE.out.mono (by omega)
end
end Go.Proofs.YtpkiefjanmfgfaaGreatDoor
