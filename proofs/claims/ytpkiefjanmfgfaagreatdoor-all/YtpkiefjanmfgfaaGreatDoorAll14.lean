import Derived.Deep.Cut
import Derived.Deep.DeepMust
import Derived.Test.YtpkiefjanmfgfaaGreatDoorAll01
import Derived.Test.YtpkiefjanmfgfaaGreatDoorAll02
import Derived.Test.YtpkiefjanmfgfaaGreatDoorAll12
namespace Go.Proofs.YtpkiefjanmfgfaaGreatDoor
section
open Go.RowKit

theorem size3:(Tryz.prog.info? 3).map (·.size) = some 1:=by kernel_rfl

theorem ownsRow_whole {w:World} {g N:Nat} {l:List Value} (h:w.heap[g]? = some (.cells l.toArray 3 (0,0))) (hl:l.length = N) (hN:N≤maxLen):w.ownsRow 0 3 1 (.slice (some ⟨g,0,none⟩) N N) N l :=
  by subst hl; exact ⟨by simp,.inr ⟨g,_,_,rfl,Nat.zero_le _,h,Nat.le_refl _,hN,by simp,by simp⟩⟩

theorem splice_ends (M:List Value) (xs:List Int) (hM:M.length = xs.length + 2) (a b:Value) :
    ((splice M 0 (vals xs)).set xs.length a).set (xs.length + 1) b = vals xs ++ [a,b]:=by
  have hv:(vals xs).length = xs.length:=vals_length xs
  obtain ⟨p,q,hd⟩:∃ p q,M.drop xs.length = [p,q]:=by
    have:(M.drop xs.length).length = 2:=by simp; omega
    match h:M.drop xs.length,this with
    | [p,q],_=>exact ⟨p,q,rfl⟩
  unfold splice
  simp only [List.take_zero,List.nil_append,Nat.zero_add,hv,hd]
  rw [List.set_append_right _ _ (by omega),hv]
  simp only [Nat.sub_self,List.set_cons_zero]
  rw [List.set_append_right _ _ (by omega),hv]
  simp

set_option maxHeartbeats 1000000 in
set_option maxRecDepth 4000 in
theorem copied33_any (xs:List Int) (v:Value) (w:World) (hv:IntsAt w v xs) (hm:(xs.length + 2) * 8≤140737488355328) :
    Calls Tryz.prog 68 #[v] w fun ev w'=>ev = .returned (.slice (some ⟨w.heap.size,0,none⟩) (xs.length + 2) (xs.length + 2))∧Pts w' w.heap.size (xs.length + 2) (xs ++ [77,78])∧Below w.heap.size w w':=by
  obtain ⟨a,cap,rfl,hcap,hlen,hx⟩:=hv
  obtain ⟨i0,hi,hz0,hz1,hz2⟩:=info_parts info3
  have hmk:=run_make (P:=Tryz.prog) w 32 3 i0 (.int .i64 0) Tryz.underlying32 hi hz0 .i64 .i64 ((xs.length:Int) + 2) ((xs.length:Int) + 2) (by omega) (Int.le_refl _) (by rw [hz2]; omega) (by omega)
  have e1:((xs.length:Int) + 2).toNat = xs.length + 2:=by omega
  rw [e1,hz1] at hmk
  simp only [Nat.mul_one] at hmk
  obtain ⟨M,hM⟩:∃ M:Array Value,M = madeCells (Value.cells (.int .i64 0)) (xs.length + 2):=⟨_,rfl⟩
  have hMs:M.toList.length = xs.length + 2:=by rw [hM]; simp [size_madeCells]
  rw [← hM] at hmk
  have HM:=hide hM
  have HX:=hide hx
  have HMs:=hide hMs
  clear hM hx hMs e1
  have hal:(w.alloc (.cells M 3)).heap[w.heap.size]? = some (.cells M.toList.toArray 3 (0,0)):=by simpa using heap_alloc_new w (.cells M 3)
  have hbl:Below w.heap.size w (w.alloc (.cells M 3)):=(Below.refl _ _).alloc (Nat.le_refl _) _
  have HAL:=hide hal
  have HBL:=hide hbl
  have hlen2:xs.length + 2≤17592186044416:=by omega
  clear hal hbl hm hlen
  go_enter Tryz.func68,Tryz.ntmps68
  go_wp2_with (refine wpList_copy_splice rfl _ _ 32 32 rfl 3 Tryz.underlying32 size3 (some ⟨w.heap.size,0,none⟩) a (xs.length + 2) (xs.length + 2) xs.length cap rfl rfl w.heap.size 0 M.toList 3 HAL.out (vals xs) ?c1 ?c2 ?c3 (vals_one xs) w.heap.size w HBL.out (Nat.le_refl _) ?_)
  case c1=>rw [vals_length]; exact (Nat.min_eq_left (by omega)).symm
  case c2 =>
    intro hpos
    rw [vals_length] at hpos
    rcases HX.out with rfl | ⟨b,off,rfl,hc⟩
    · simp at hpos
    · refine ⟨_,rfl,fun j u hj=>?_⟩
      obtain ⟨hlt,rfl⟩:=vals_get hj
      rw [addr_add,World.cell?_alloc_lt _ _ _ (by exact block_lt_of_cell (hc j hlt))]
      exact hc j hlt
  case c3=>rw [vals_length]; simp [HMs.out]
  intro w2 HG2 hB2
  have hln:(splice M.toList 0 (vals xs)).length = xs.length + 2:=by
    rw [length_splice _ _ _ (by rw [vals_length]; simp [HMs.out])]; exact HMs.out
  obtain ⟨u1,hu1⟩:∃ u1,w2.cell? ⟨w.heap.size,xs.length,none⟩ = some u1:=by
    rw [cell_of_row w2 _ _ _ _ _ HG2.out]
    exact ⟨_,Array.getElem?_eq_getElem (by simp; omega)⟩
  obtain ⟨u2,hu2⟩:∃ u2,w2.cell? ⟨w.heap.size,xs.length + 1,none⟩ = some u2:=by
    rw [cell_of_row w2 _ _ _ _ _ HG2.out]
    exact ⟨_,Array.getElem?_eq_getElem (by simp; omega)⟩
  have hfz:∀ o,w2.frozen? ⟨w.heap.size,o,none⟩ = false:=fun o=>by simp [World.frozen?,HG2.out]
  have HL:=hide hln
  have HB:=hide hB2
  clear hln hB2 hmk
  go_wp2
  go_ret
  refine ⟨rfl,?_,?_⟩
  · have hr:=ownsRow_set (ownsRow_set (ownsRow_whole HG2.out HL.out (by unfold maxLen; omega)) xs.length (.int .i64 77)) (xs.length + 1) (.int .i64 78)
    rw [splice_ends M.toList xs HMs.out] at hr
    have e2:(xs ++ [77,78]).map (Value.int .i64) = vals xs ++ [.int .i64 77,.int .i64 78]:=by simp [vals]
    have e3:(xs ++ [77,78]).length = xs.length + 2:=by simp
    unfold Pts
    rw [e2,e3]
    exact hr
  · repeat (first | exact HB.out | refine Below.setCell ?_ (by first | omega | (simp; done) | (simp; omega)) _)

set_option maxHeartbeats 2000000 in
theorem whole34_any (xs:List Int) (v:Value) (g cap:Nat) (w:World) (hp:Pts w g cap (xs ++ [77,78])) (hv:IntsAt w v xs) (hg:∀ b off n c,v = .slice (some ⟨b,off,none⟩) n c→0 < xs.length→b ≠ g) :
    Calls Tryz.prog 69 #[.slice (some ⟨g,0,none⟩) (xs.length + 2) cap,v] w fun ev w'=>ev = .returned (.bool true)∧(∃ ys,ys.length = xs.length + 2∧Pts w' g cap ys)∧Kept (fun k=>k = g) w w':=by
  obtain ⟨a,pc,rfl,hpc,hlen,hx⟩:=hv
  have hcl:=ownsRow_len hp
  have c77:w.cell? ⟨g,xs.length,none⟩ = some (.int .i64 77):=by
    have:=hp.at (i:=xs.length) (by simp)
    simpa using this
  have c78:w.cell? ⟨g,xs.length + 1,none⟩ = some (.int .i64 78):=by
    have:=hp.at (i:=xs.length + 1) (by simp)
    simpa using this
  simp at hcl
  have HP:=hide hp
  have HX:=hide hx
  have HG:=hide hg
  clear hp hx hg
  go_enter Tryz.func69,Tryz.ntmps69
  go_wp2
  go_loopw [6,7] (fun ok i wr=>∃ (k:Nat) (ys:List Int),k≤xs.length∧i = .int .i64 k∧ok = .bool true∧ys.length = xs.length + 2∧Pts wr g cap ys∧(∀ j,k≤j→j < xs.length→ys.getD j 0 = xs.getD j 0)∧Kept (fun k=>k = g) w wr) (fun _ i _=>xs.length - (intOf i).toNat)
  case atStart =>
    refine ⟨0,xs ++ [77,78],Nat.zero_le _,rfl,rfl,by simp,HP.out,fun j _ hj=>?_,Kept.refl _ _⟩
    simp [List.getD_eq_getElem?_getD,List.getElem?_append_left hj]
  case round =>
    obtain ⟨k,ys,hk,rfl,rfl,hyl,hpy,heq,hkp⟩:=hrel
    by_cases hlt:k < xs.length
    · rcases HX.out with rfl | ⟨b,off,rfl,hc⟩
      · simp at hlt
      have hck:=hc k hlt
      have hbg:=HG.out b off _ _ rfl (by omega)
      have hcx:wr.cell? ⟨b,off + k,none⟩ = some (.int .i64 (xs.getD k 0)):=hkp.cell hck hbg
      have hcy:wr.cell? ⟨g,k,none⟩ = some (.int .i64 (ys.getD k 0)):=hpy.at (by omega)
      have hfz:wr.frozen? ⟨g,k,none⟩ = false:=ownsRow_frozen hpy k
      rw [heq k (Nat.le_refl _) hlt] at hcy
      have HPY:=hide hpy
      have HEQ:=hide heq
      have HK:=hide hkp
      have HYL:=hide hyl
      clear hc hck hpy heq hkp hyl c77 c78
      generalize xs.getD k 0 = x at *
      go_wp2
      go_quiet (fail)
      go_wp2
      refine ⟨⟨k + 1,ys.set k 1099511627776,by omega,by go_num,rfl,by rw [List.length_set]; exact HYL.out,Pts.set (ownsRow_drewN HPY.out _) k _,fun j hj hj2=>?_,(HK.out.drewN _).setCell (fun _=>rfl) _⟩,by simp [intOf]; omega⟩
      rw [← HEQ.out j (by omega) hj2]
      simp only [List.getD_eq_getElem?_getD]
      rw [List.getElem?_set_ne (by omega)]
    · go_wp2
      go_ret
      exact ⟨rfl,⟨ys,hyl,hpy⟩,hkp⟩
end
section
open Go.RowKit

theorem info32:(Tryz.prog.info? 32).map (fun i=>(i.zero,i.size,i.bytes)) = some (some (.slice none 0 0),1,24):=by kernel_rfl

theorem ownsRow_oneCell {w:World} {base e size n:Nat} {v:Value} {xs:List Value} (h:w.ownsRow base e size v n xs):v.oneCell' = true:=by
  rcases h.2 with ⟨rfl,_⟩ | ⟨g,cap,cur,rfl,_⟩ <;> rfl

set_option maxHeartbeats 1000000 in
theorem mark58_any (bp:Nat) (b x:Int) (w:World) (c6:w.cell? ⟨bp,6,none⟩ = some (.int .i64 b)) (c7:w.cell? ⟨bp,7,none⟩ = some (.int .i64 x)) (hf:w.frozen? ⟨bp,7,none⟩ = false) :
    Calls Tryz.prog 121 #[.pointer (some ⟨bp,6,none⟩)] w fun ev w'=>∃ m nx nq,ev = .returned (.int .i64 m)∧w' = (w.setCell ⟨bp,7,none⟩ (.int .i64 nx)).drewN nq:=by
  go_enter Tryz.func121,Tryz.ntmps121
  go_wp2
  go_quiet (fail)
  go_wp2
  go_ret
  exact ⟨_,_,_,rfl,rfl⟩

structure InS (w0:World) (bp:Nat) (lv0 nsv0 nmv0:Value) (w:World) (lv:Value) (nl:Nat) (nsv:Value) (ns:Nat) (nmv:Value) (nm:Nat):Prop where
  typ:∃ cs,w.heap[bp]? = some (.cells cs 41 (0,0))
  low:∀ o v,o < 6 ∨ 9 < o→w0.cell? ⟨bp,o,none⟩ = some v→w.cell? ⟨bp,o,none⟩ = some v
  c6:∃ b,w.cell? ⟨bp,6,none⟩ = some (.int .i64 b)
  c7:∃ b,w.cell? ⟨bp,7,none⟩ = some (.int .i64 b)
  c8:w.cell? ⟨bp,8,none⟩ = some nsv
  c9:w.cell? ⟨bp,9,none⟩ = some nmv
  hl:∃ xs,w.ownsRow 0 3 1 lv nl xs
  hs:∃ xs,w.ownsRow 0 32 1 nsv ns xs
  hm:∃ xs,w.ownsRow 0 3 1 nmv nm xs
  apart:∀ g,lv.ownBlock = some g→nmv.ownBlock ≠ some g
  ll:∀ g,lv.ownBlock = some g→lv0.ownBlock = some g ∨ w0.heap.size≤g
  ls:∀ g,nsv.ownBlock = some g→nsv0.ownBlock = some g ∨ w0.heap.size≤g
  lm:∀ g,nmv.ownBlock = some g→nmv0.ownBlock = some g ∨ w0.heap.size≤g
  kept:Kept (fun k=>k = bp ∨ lv0.ownBlock = some k ∨ nsv0.ownBlock = some k ∨ nmv0.ownBlock = some k) w0 w

section
variable {w0 w w1:World} {bp:Nat} {lv0 nsv0 nmv0 lv nsv nmv v2:Value} {nl ns nm:Nat} {o:Obj} {xs:List Value}

theorem InS.frozen (h:InS w0 bp lv0 nsv0 nmv0 w lv nl nsv ns nmv nm) (k:Nat):w.frozen? ⟨bp,k,none⟩ = false:=by
  obtain ⟨cs,hc⟩:=h.typ
  simp [World.frozen?,hc]
theorem InS.lt (h:InS w0 bp lv0 nsv0 nmv0 w lv nl nsv ns nmv nm):bp < w.heap.size:=by
  obtain ⟨cs,hc⟩:=h.typ
  exact (Array.getElem?_eq_some_iff.1 hc).1
theorem ne_of_elem {w:World} {a b:Nat} {c1 c2:Array Value} {e1 e2:TypeId} {f1 f2:Nat × Nat} (h1:w.heap[a]? = some (.cells c1 e1 f1)) (h2:w.heap[b]? = some (.cells c2 e2 f2)) (hne:e1 ≠ e2):a ≠ b:=by
  intro e; subst e; rw [h1] at h2; simp at h2; exact hne h2.2.1
theorem InS.ns_ne (h:InS w0 bp lv0 nsv0 nmv0 w lv nl nsv ns nmv nm):some bp ≠ nsv.ownBlock:=by
  intro e
  obtain ⟨cs,hc⟩:=h.typ
  obtain ⟨ys,hy⟩:=h.hs
  obtain ⟨c2,h2⟩:=ownsRow_obj hy e.symm
  exact ne_of_elem hc h2 (by decide) rfl
theorem InS.nm_ne (h:InS w0 bp lv0 nsv0 nmv0 w lv nl nsv ns nmv nm):some bp ≠ nmv.ownBlock:=by
  intro e
  obtain ⟨cs,hc⟩:=h.typ
  obtain ⟨ys,hy⟩:=h.hm
  obtain ⟨c2,h2⟩:=ownsRow_obj hy e.symm
  exact ne_of_elem hc h2 (by decide) rfl
theorem InS.lv_ne (h:InS w0 bp lv0 nsv0 nmv0 w lv nl nsv ns nmv nm):some bp ≠ lv.ownBlock:=by
  intro e
  obtain ⟨cs,hc⟩:=h.typ
  obtain ⟨ys,hy⟩:=h.hl
  obtain ⟨c2,h2⟩:=ownsRow_obj hy e.symm
  exact ne_of_elem hc h2 (by decide) rfl

theorem row_grown {e:Nat} {v:Value} {n:Nat} {row:Option Nat} (h:w.ownsRow 0 e 1 v n xs) (hg:(w.alloc o).grownBy w1 row) (hne:∀ g,v.ownBlock = some g→row ≠ some g):w1.ownsRow 0 e 1 v n xs :=
  ownsRow_of_block (h.alloc o) fun g hv=>hg.block g ((h.alloc o).lt g hv).2 (fun e=>hne g hv e.symm)
theorem cell_grown {b k:Nat} {v:Value} {row:Option Nat} (h:w.cell? ⟨b,k,none⟩ = some v) (hg:(w.alloc o).grownBy w1 row) (hne:some b ≠ row):w1.cell? ⟨b,k,none⟩ = some v :=
  hg.cell (by rw [World.cell?_alloc_lt _ _ _ (by exact block_lt_of_cell h)]; exact h) hne
theorem typ_grown {b:Nat} {row:Option Nat} (h:∃ cs,w.heap[b]? = some (.cells cs 41 (0,0))) (hg:(w.alloc o).grownBy w1 row) (hne:some b ≠ row):∃ cs,w1.heap[b]? = some (.cells cs 41 (0,0)):=by
  obtain ⟨cs,hc⟩:=h
  have hlt:=(Array.getElem?_eq_some_iff.1 hc).1
  exact ⟨cs,(hg.block b (by simp; omega) hne).trans ((Below.heap_alloc _ _ _ hlt).trans hc)⟩

theorem InS.stepL (h:InS w0 bp lv0 nsv0 nmv0 w lv nl nsv ns nmv nm) (ho:w1.ownsRow 0 3 1 v2 (nl + 1) xs) (hg:(w.alloc o).grownBy w1 lv.ownBlock) (hl:v2.ownBlock = lv.ownBlock ∨ v2.ownBlock = some (w.heap.size + 1)) :
    InS w0 bp lv0 nsv0 nmv0 w1 v2 (nl + 1) nsv ns nmv nm:=by
  obtain ⟨b6,h6⟩:=h.c6
  obtain ⟨b7,h7⟩:=h.c7
  obtain ⟨ys,hy⟩:=h.hs
  obtain ⟨zs,hz⟩:=h.hm
  obtain ⟨ls,hls⟩:=h.hl
  have hz0:=h.kept.size
  refine ⟨typ_grown h.typ hg h.lv_ne,fun o v ho hv=>cell_grown (h.low o v ho hv) hg h.lv_ne,⟨b6,cell_grown h6 hg h.lv_ne⟩,⟨b7,cell_grown h7 hg h.lv_ne⟩,cell_grown h.c8 hg h.lv_ne,cell_grown h.c9 hg h.lv_ne,⟨_,ho⟩,⟨ys,row_grown hy hg ?_⟩,⟨zs,row_grown hz hg ?_⟩,?_,?_,h.ls,h.lm,?_⟩
  · intro g hn e
    obtain ⟨c1,h1⟩:=ownsRow_obj hy hn
    obtain ⟨c2,h2⟩:=ownsRow_obj hls e
    exact ne_of_elem h1 h2 (by decide) rfl
  · intro g hn e
    exact h.apart g e hn
  · intro g hv hn
    rcases hl with e | e
    · exact h.apart g (e ▸ hv) hn
    · rw [hv] at e
      have:=(hz.lt g hn).2
      have:=Option.some.inj e
      omega
  · intro g hv
    rcases hl with e | e
    · exact h.ll g (e ▸ hv)
    · rw [hv] at e
      have:=Option.some.inj e
      right; omega
  · exact (h.kept.alloc o).grown hg fun k hk hlt=>by
      rcases h.ll k hk with e | e
      · exact .inr (.inl e)
      · omega

theorem InS.stepM (h:InS w0 bp lv0 nsv0 nmv0 w lv nl nsv ns nmv nm) (ho:w1.ownsRow 0 3 1 v2 (nm + 1) xs) (hg:(w.alloc o).grownBy w1 nmv.ownBlock) (hl:v2.ownBlock = nmv.ownBlock ∨ v2.ownBlock = some (w.heap.size + 1)) :
    InS w0 bp lv0 nsv0 nmv0 (w1.setCell ⟨bp,9,none⟩ v2) lv nl nsv ns v2 (nm + 1)∧w1.cell? ⟨bp,9,none⟩ = some nmv∧w1.frozen? ⟨bp,9,none⟩ = false:=by
  obtain ⟨b6,h6⟩:=h.c6
  obtain ⟨b7,h7⟩:=h.c7
  obtain ⟨ys,hy⟩:=h.hs
  obtain ⟨zs,hz⟩:=h.hm
  obtain ⟨ls,hls⟩:=h.hl
  have hz0:=h.kept.size
  obtain ⟨cs,hc⟩:=typ_grown h.typ hg h.nm_ne
  have k9:=cell_grown h.c9 hg h.nm_ne
  have ho2:(w1.setCell ⟨bp,9,none⟩ v2).ownsRow 0 3 1 v2 (nm + 1) xs:=ownsRow_of_block ho fun g hv=>Below.heap_setCell _ _ _ _ (by
    obtain ⟨c2,h2⟩:=ownsRow_obj ho hv
    exact (ne_of_elem hc h2 (by decide)).symm)
  have rs:∀ {e:Nat} {v:Value} {n:Nat} {l:List Value},e ≠ 41→w1.ownsRow 0 e 1 v n l→(w1.setCell ⟨bp,9,none⟩ v2).ownsRow 0 e 1 v n l:=fun {e v n l} he hr=>ownsRow_of_block hr fun g hv=>Below.heap_setCell _ _ _ _ (by
    obtain ⟨c2,h2⟩:=ownsRow_obj hr hv
    exact (ne_of_elem hc h2 (fun e'=>he e'.symm)).symm)
  refine ⟨⟨⟨_,heap_setCell_same _ _ _ _ _ _ hc⟩,fun o v ho hv=>(World.cell?_setCell_other _ _ _ _ (by simp <;> omega)).trans (cell_grown (h.low o v ho hv) hg h.nm_ne),⟨b6,?_⟩,⟨b7,?_⟩,?_,World.cell?_setCell_same _ _ _ k9,⟨ls,rs (by decide) (row_grown hls hg fun g hv e=>h.apart g hv e)⟩,⟨ys,rs (by decide) (row_grown hy hg ?_)⟩,⟨_,ho2⟩,?_,h.ll,h.ls,?_,?_⟩,k9,by simp [World.frozen?,hc]⟩
  · rw [World.cell?_setCell_other _ _ _ _ (by simp)]; exact cell_grown h6 hg h.nm_ne
  · rw [World.cell?_setCell_other _ _ _ _ (by simp)]; exact cell_grown h7 hg h.nm_ne
  · rw [World.cell?_setCell_other _ _ _ _ (by simp)]; exact cell_grown h.c8 hg h.nm_ne
  · intro g hn e
    obtain ⟨c1,h1⟩:=ownsRow_obj hy hn
    obtain ⟨c2,h2⟩:=ownsRow_obj hz e
    exact ne_of_elem h1 h2 (by decide) rfl
  · intro g hv hn
    rcases hl with e | e
    · exact h.apart g hv (e ▸ hn)
    · rw [hn] at e
      have:=(hls.lt g hv).2
      have:=Option.some.inj e
      omega
  · intro g hv
    rcases hl with e | e
    · exact h.lm g (e ▸ hv)
    · rw [hv] at e
      have:=Option.some.inj e
      right; omega
  · refine Kept.setCell ((h.kept.alloc o).grown hg fun k hk hlt=>?_) (fun _=>.inl rfl) _
    rcases h.lm k hk with e | e
    · exact .inr (.inr (.inr e))
    · omega

theorem InS.stepN (h:InS w0 bp lv0 nsv0 nmv0 w lv nl nsv ns nmv nm) (ho:w1.ownsRow 0 32 1 v2 (ns + 1) xs) (hg:(w.alloc o).grownBy w1 nsv.ownBlock) (hl:v2.ownBlock = nsv.ownBlock ∨ v2.ownBlock = some (w.heap.size + 1)) :
    InS w0 bp lv0 nsv0 nmv0 (w1.setCell ⟨bp,8,none⟩ v2) lv nl v2 (ns + 1) nmv nm∧w1.cell? ⟨bp,8,none⟩ = some nsv∧w1.cell? ⟨bp,9,none⟩ = some nmv∧w1.frozen? ⟨bp,8,none⟩ = false:=by
  obtain ⟨b6,h6⟩:=h.c6
  obtain ⟨b7,h7⟩:=h.c7
  obtain ⟨ys,hy⟩:=h.hs
  obtain ⟨zs,hz⟩:=h.hm
  obtain ⟨ls,hls⟩:=h.hl
  have hz0:=h.kept.size
  obtain ⟨cs,hc⟩:=typ_grown h.typ hg h.ns_ne
  have k8:=cell_grown h.c8 hg h.ns_ne
  have rs:∀ {e:Nat} {v:Value} {n:Nat} {l:List Value},e ≠ 41→w1.ownsRow 0 e 1 v n l→(w1.setCell ⟨bp,8,none⟩ v2).ownsRow 0 e 1 v n l:=fun {e v n l} he hr=>ownsRow_of_block hr fun g hv=>Below.heap_setCell _ _ _ _ (by
    obtain ⟨c2,h2⟩:=ownsRow_obj hr hv
    exact (ne_of_elem hc h2 (fun e'=>he e'.symm)).symm)
  refine ⟨⟨⟨_,heap_setCell_same _ _ _ _ _ _ hc⟩,fun o v ho hv=>(World.cell?_setCell_other _ _ _ _ (by simp <;> omega)).trans (cell_grown (h.low o v ho hv) hg h.ns_ne),⟨b6,?_⟩,⟨b7,?_⟩,World.cell?_setCell_same _ _ _ k8,?_,⟨ls,rs (by decide) (row_grown hls hg ?_)⟩,⟨_,rs (by decide) ho⟩,⟨zs,rs (by decide) (row_grown hz hg ?_)⟩,h.apart,h.ll,?_,h.lm,?_⟩,k8,cell_grown h.c9 hg h.ns_ne,by simp [World.frozen?,hc]⟩
  · rw [World.cell?_setCell_other _ _ _ _ (by simp)]; exact cell_grown h6 hg h.ns_ne
  · rw [World.cell?_setCell_other _ _ _ _ (by simp)]; exact cell_grown h7 hg h.ns_ne
  · rw [World.cell?_setCell_other _ _ _ _ (by simp)]; exact cell_grown h.c9 hg h.ns_ne
  · intro g hn e
    obtain ⟨c1,h1⟩:=ownsRow_obj hls hn
    obtain ⟨c2,h2⟩:=ownsRow_obj hy e
    exact ne_of_elem h1 h2 (by decide) rfl
  · intro g hn e
    obtain ⟨c1,h1⟩:=ownsRow_obj hz hn
    obtain ⟨c2,h2⟩:=ownsRow_obj hy e
    exact ne_of_elem h1 h2 (by decide) rfl
  · intro g hv
    rcases hl with e | e
    · exact h.ls g (e ▸ hv)
    · rw [hv] at e
      have:=Option.some.inj e
      right; omega
  · refine Kept.setCell ((h.kept.alloc o).grown hg fun k hk hlt=>?_) (fun _=>.inl rfl) _
    rcases h.ls k hk with e | e
    · exact .inr (.inr (.inl e))
    · omega
end
end
section
open Go.RowKit

def rcell (e:Ent):List Value:=[.int .i64 e.id,.slice (some ⟨e.rb,0,none⟩) e.pt.length e.rc,.int .i64 e.t0,.int .i64 e.t1,.int .u64 e.draw]
def rcells (L:List Ent):List Value:=L.flatMap rcell

theorem rcells_cons (e:Ent) (L:List Ent):rcells (e :: L) = rcell e ++ rcells L:=rfl
theorem rcells_append (L M:List Ent):rcells (L ++ M) = rcells L ++ rcells M:=by simp [rcells]
theorem rcells_length:∀ L:List Ent,(rcells L).length = L.length * 5
  | []=>rfl
  | e :: L=>by rw [rcells_cons,List.length_append,rcells_length L]; simp [rcell]; omega
theorem rcells_get:∀ (L:List Ent) (k j:Nat) (hk:k < L.length),j < 5→(rcells L)[k * 5 + j]? = (rcell L[k])[j]?
  | e :: L,0,j,_,hj=>by
    rw [rcells_cons,List.getElem?_append_left (by simp [rcell]; omega)]
    simp
  | e :: L,k + 1,j,hk,hj=>by
    rw [rcells_cons,List.getElem?_append_right (by simp [rcell]; omega)]
    have e1:(k + 1) * 5 + j - (rcell e).length = k * 5 + j:=by simp [rcell]; omega
    rw [e1,rcells_get L k j (by simpa using hk) hj]
    simp

def posE (id:Int) (L:List Ent):Nat:=(L.takeWhile fun e=>decide (e.id < id)).length

theorem posE_le (id:Int) (L:List Ent):posE id L≤L.length:=by
  unfold posE
  exact (List.takeWhile_prefix _).length_le

theorem posE_eq {id:Int} {L:List Ent} {k:Nat} (hk:k≤L.length) (h1:∀ j (hj:j < k),(L[j]'(by omega)).id < id) (h2:∀ (h:k < L.length),¬ L[k].id < id):posE id L = k:=by
  unfold posE
  induction L generalizing k with
  | nil=>simp at hk; simp [hk]
  | cons e L ih =>
    cases k with
    | zero =>
      have:=h2 (by simp)
      simp at this
      simp [List.takeWhile_cons]
      omega
    | succ k =>
      have h0:=h1 0 (by omega)
      simp at h0
      simp only [List.takeWhile_cons,h0,decide_true,if_true,List.length_cons,Nat.add_right_cancel_iff]
      refine ih (by simpa using hk) (fun j hj=>?_) (fun h=>?_)
      · have:=h1 (j + 1) (by omega); simpa using this
      · have:=h2 (by simpa using h); simpa using this

theorem there_eq {id:Int} {L:List Ent} {k:Nat} (hr:Rising L) (hk:k≤L.length) (h1:∀ j (hj:j < k),(L[j]'(by omega)).id < id) (h2:∀ (h:k < L.length),¬ L[k].id < id) :
    (∀ h:k < L.length,L[k].id = id→findE id L = some L[k])∧((∀ h:k < L.length,L[k].id ≠ id)→findE id L = none):=by
  constructor
  · intro h he
    unfold findE
    rw [List.find?_eq_some_iff_getElem]
    refine ⟨by simpa using he,k,h,rfl,fun j hj=>?_⟩
    have:=h1 j hj
    simp; omega
  · intro hne
    unfold findE
    rw [List.find?_eq_none]
    intro e he
    obtain ⟨j,hj,rfl⟩:=List.getElem_of_mem he
    rcases Nat.lt_trichotomy j k with h | h | h
    · have:=h1 j h; simp; omega
    · subst h; simpa using hne hj
    · have hk':k < L.length:=by omega
      have h3:=h2 hk'
      have h4:L[k].id < L[j].id:=List.pairwise_iff_getElem.1 hr k j hk' hj h
      simp; omega

structure RefAt (w:World) (br:Nat) (cf:Cf) (la:Option Addr) (lc:Nat) (L:List Ent):Prop where
  typ:∃ cs,w.heap[br]? = some (.cells cs 92 (0,0))
  r0:w.cell? ⟨br,0,none⟩ = some (.int .i64 cf.dim)
  r1:w.cell? ⟨br,1,none⟩ = some (.int .i64 cf.cap)
  r2:w.cell? ⟨br,2,none⟩ = some (.int .i64 cf.links)
  r3:w.cell? ⟨br,3,none⟩ = some (.int .i64 cf.metric)
  r5:w.cell? ⟨br,5,none⟩ = some (.int .i64 cf.top)
  r6:w.cell? ⟨br,6,none⟩ = some (.slice la L.length lc)
  row:w.ownsRow 0 135 5 (.slice la L.length lc) L.length (rcells L)
  pts:∀ e ∈ L,Pts w e.rb e.rc e.pt
  rising:Rising L
  small:L.length≤60

theorem RefAt.addr {w:World} {br:Nat} {cf:Cf} {la:Option Addr} {lc:Nat} {L:List Ent} (h:RefAt w br cf la lc L) (h0:0 < L.length):∃ g,la = some ⟨g,0,none⟩:=by
  rcases h.row.2 with ⟨_,hz⟩ | ⟨g,cap',cur,hv,_⟩
  · omega
  · simp only [Value.slice.injEq] at hv
    exact ⟨g,hv.1⟩

theorem ref_cell {w:World} {g n lc:Nat} {L:List Ent} (h:w.ownsRow 0 135 5 (.slice (some ⟨g,0,none⟩) n lc) n (rcells L)) {k j:Nat} (hk:k < L.length) (hj:j < 5) {v:Value} (hv:(rcell L[k])[j]? = some v):w.cell? ⟨g,k * 5 + j,none⟩ = some v :=
  ownsRow_cell h (by rw [rcells_get L k j hk hj]; exact hv)

set_option maxHeartbeats 1000000 in
theorem find38_any (br:Nat) (cf:Cf) (la:Option Addr) (lc:Nat) (L:List Ent) (id:Int) (w:World) (h:RefAt w br cf la lc L) :
    Calls Tryz.prog 73 #[.pointer (some ⟨br,0,none⟩),.int .i64 id] w fun ev w'=>ev = .returned (.tuple #[.int .i64 (posE id L),.bool (findE id L).isSome])∧∃ nq,w' = w.drewN nq:=by
  have r6:=h.r6
  have hsm:=h.small
  have H:=hide h
  clear h
  go_enter Tryz.func73,Tryz.ntmps73
  go_wp2
  go_loop [6] (fun i=>∃ k:Nat,i = .int .i64 k∧k≤L.length∧Hid (∀ j (hj:j < k) (hl:j < L.length),L[j].id < id)) (fun i=>L.length - (intOf i).toNat)
  case atStart=>exact ⟨0,rfl,Nat.zero_le _,fun j hj=>absurd hj (Nat.not_lt_zero _)⟩
  case round =>
    obtain ⟨k,rfl,hk,hall⟩:=hrel
    by_cases hlt:k < L.length
    · obtain ⟨g,rfl⟩:=H.out.addr (by omega)
      have hc:=ref_cell H.out.row hlt (j:=0) (by omega) rfl
      simp only [Nat.add_zero] at hc
      by_cases hi:L[k].id < id
      · have HI:=hide hi
        generalize hx:L[k].id = x at hc hi
        have HX:=hide hx
        clear hx
        go_wp2
        go_round
        case rel=>exact ⟨k + 1,by go_num,by omega,fun j hj hl=>by
          rcases Nat.lt_or_ge j k with h | h
          · exact hall.out j h hl
          · obtain rfl:j = k:=by omega
            exact HI.out⟩
        case measure=>simp [intOf]; omega
      · have HI:=hide hi
        have HT:=hide (there_eq H.out.rising hk (fun j hj=>hall.out j hj (by omega)) (fun _=>hi))
        have HP:=hide (posE_eq hk (fun j hj=>hall.out j hj (by omega)) (fun _=>hi))
        have hi2:decide (L[k].id < id) = false:=by simpa using hi
        generalize hx:L[k].id = x at hc hi hi2
        have HX:=hide hx
        clear hx
        by_cases he:x = id
        · have hb:(x == id) = true:=by simpa using he
          have HE:=hide he
          clear he hi
          go_wp2
          go_quiet (fail)
          go_wp2
          go_ret2
          refine ⟨?_,_,rfl⟩
          rw [HP.out,HT.out.1 hlt (HX.out.trans HE.out)]
          rfl
        · have hb:(x == id) = false:=by simpa using he
          have HE:=hide he
          clear he hi
          go_wp2
          go_quiet (fail)
          go_wp2
          go_ret2
          refine ⟨?_,_,rfl⟩
          rw [HP.out,HT.out.2 (fun h e=>HE.out (HX.out.symm.trans e))]
          rfl
    · have HT:=hide (there_eq H.out.rising hk (fun j hj=>hall.out j hj (by omega)) (fun h=>absurd h hlt))
      have HP:=hide (posE_eq hk (fun j hj=>hall.out j hj (by omega)) (fun h=>absurd h hlt))
      have hd:decide ((k:Int) < (L.length:Int)) = false:=by simp; omega
      have HK:=hide hlt
      clear hlt
      go_wp2
      go_quiet (fail)
      go_wp2
      go_ret2
      refine ⟨?_,_,rfl⟩
      rw [HP.out,HT.out.2 (fun h=>absurd h HK.out)]
      rfl
end
section
open Go.RowKit

theorem info90:(Tryz.prog.info? 135).map (fun i=>(i.zero,i.size,i.bytes)) = some (some (.agg #[.int .i64 0,.slice none 0 0,.int .i64 0,.int .i64 0,.int .u64 0]),5,56):=by kernel_rfl

theorem row_form {w:World} {base e size n:Nat} {v:Value} {xs:List Value} (h:w.ownsRow base e size v n xs):∃ a c,v = .slice a n c:=by
  rcases h.2 with ⟨rfl,rfl⟩ | ⟨g,cap,cur,rfl,_⟩
  · exact ⟨_,_,rfl⟩
  · exact ⟨_,_,rfl⟩

theorem RefAt.below {w w':World} {br:Nat} {cf:Cf} {la:Option Addr} {lc:Nat} {L:List Ent} (h:RefAt w br cf la lc L) (hb:Below w.heap.size w w'):RefAt w' br cf la lc L:=by
  obtain ⟨cs,hc⟩:=h.typ
  have hlt:=(Array.getElem?_eq_some_iff.1 hc).1
  exact ⟨⟨cs,(hb.block br hlt).trans hc⟩,Below.at hb h.r0 hlt,Below.at hb h.r1 hlt,Below.at hb h.r2 hlt,Below.at hb h.r3 hlt,Below.at hb h.r5 hlt,Below.at hb h.r6 hlt,ownsRow_below h.row hb,fun e he=>ownsRow_below (h.pts e he) hb,h.rising,h.small⟩
theorem RefAt.alloc {w:World} {br:Nat} {cf:Cf} {la:Option Addr} {lc:Nat} {L:List Ent} (h:RefAt w br cf la lc L) (o:Obj):RefAt (w.alloc o) br cf la lc L:=h.below ((Below.refl _ _).alloc (Nat.le_refl _) o)
theorem RefAt.drewN {w:World} {br:Nat} {cf:Cf} {la:Option Addr} {lc:Nat} {L:List Ent} (h:RefAt w br cf la lc L) (n:Nat):RefAt (w.drewN n) br cf la lc L:=h.below (below_drewN (Below.refl _ _) n)
theorem RefAt.lt {w:World} {br:Nat} {cf:Cf} {la:Option Addr} {lc:Nat} {L:List Ent} (h:RefAt w br cf la lc L):br < w.heap.size:=by
  obtain ⟨cs,hc⟩:=h.typ
  exact (Array.getElem?_eq_some_iff.1 hc).1
theorem RefAt.frozen {w:World} {br:Nat} {cf:Cf} {la:Option Addr} {lc:Nat} {L:List Ent} (h:RefAt w br cf la lc L) (o:Nat):w.frozen? ⟨br,o,none⟩ = false:=by
  obtain ⟨cs,hc⟩:=h.typ
  simp [World.frozen?,hc]

theorem pos_found {id:Int}:∀ {L:List Ent} {e:Ent},Rising L→findE id L = some e→∃ h:posE id L < L.length,L[posE id L] = e
  | [],e,_,h=>by cases h
  | y :: r,e,hs,h=>by
    obtain ⟨h1,h2⟩:=List.pairwise_cons.1 hs
    by_cases hy:y.id = id
    · have he:y = e:=by simpa [findE,List.find?_cons,hy] using h
      have h0:posE id (y :: r) = 0:=by simp [posE,hy]
      simp only [h0]
      exact ⟨by simp,by simpa using he⟩
    · have hr:findE id r = some e:=by
        unfold findE at h ⊢
        rw [List.find?_cons] at h
        simpa [hy] using h
      have h3:=h1 e (findE_mem hr).1
      have h4:=(findE_mem hr).2
      have h0:posE id (y :: r) = posE id r + 1:=by simp [posE,show y.id < id by omega]
      obtain ⟨h5,h6⟩:=pos_found h2 hr
      simp only [h0]
      exact ⟨by simpa using h5,by simpa using h6⟩

set_option maxHeartbeats 1000000 in
theorem get37_no (br:Nat) (cf:Cf) (la:Option Addr) (lc:Nat) (L:List Ent) (id:Int) (w:World) (h:RefAt w br cf la lc L) (he:findE id L = none) :
    Calls Tryz.prog 72 #[.pointer (some ⟨br,0,none⟩),.int .i64 id] w fun ev w'=>ev = .returned (.tuple #[.agg #[.int .i64 0,.slice none 0 0,.int .i64 0,.int .i64 0,.int .u64 0],.int .i64 5])∧Below w.heap.size w w':=by
  have HE:Hid ((findE id L).isSome = false):=by rw [he]; rfl
  go_enter Tryz.func72,Tryz.ntmps72
  go_wp2_with fail
  refine (find38_any br cf la lc L id _ (h.alloc _)).mono ?_
  rintro ev w1 ⟨rfl,nq,rfl⟩
  rw [HE.out]
  clear he h
  go_wp2
  refine bodyPost_ret (v:=.tuple #[.agg #[.int .i64 0,.slice none 0 0,.int .i64 0,.int .i64 0,.int .u64 0],.int .i64 5]) (by simp [results,Tryz.results72,go_sem]) rfl ⟨rfl,?_⟩
  repeat (first | exact Below.refl _ _ | refine below_drewN ?_ _ | refine Below.setCell ?_ (by first | omega | (simp; done) | (simp; omega)) _ | refine Below.alloc ?_ (by first | omega | (simp; done) | (simp; omega)) _)

set_option maxHeartbeats 1000000 in
theorem get37_yes (br:Nat) (cf:Cf) (la:Option Addr) (lc:Nat) (L:List Ent) (id:Int) (e:Ent) (w:World) (h:RefAt w br cf la lc L) (he:findE id L = some e) :
    Calls Tryz.prog 72 #[.pointer (some ⟨br,0,none⟩),.int .i64 id] w fun ev w'=>ev = .returned (.tuple #[.agg #[.int .i64 e.id,.slice (some ⟨e.rb,0,none⟩) e.pt.length e.rc,.int .i64 e.t0,.int .i64 e.t1,.int .u64 e.draw],.int .i64 0])∧Below w.heap.size w w':=by
  have HE:Hid ((findE id L).isSome = true):=by rw [he]; rfl
  obtain ⟨hk,hke⟩:=pos_found h.rising he
  obtain ⟨g,rfl⟩:=h.addr (by omega)
  have hrow:=h.row
  have hr6:=h.r6
  have hbr:=h.lt
  have hbg:g < w.heap.size:=(hrow.lt g rfl).2
  have q0:w.cell? ⟨g,posE id L * 5,none⟩ = some (.int .i64 e.id):=by have:=ref_cell hrow hk (j:=0) (by omega) rfl; simpa [hke] using this
  have q1:w.cell? ⟨g,posE id L * 5 + 1,none⟩ = some (.slice (some ⟨e.rb,0,none⟩) e.pt.length e.rc):=by have:=ref_cell hrow hk (j:=1) (by omega) rfl; simpa [hke] using this
  have q2:w.cell? ⟨g,posE id L * 5 + 2,none⟩ = some (.int .i64 e.t0):=by have:=ref_cell hrow hk (j:=2) (by omega) rfl; simpa [hke] using this
  have q3:w.cell? ⟨g,posE id L * 5 + 3,none⟩ = some (.int .i64 e.t1):=by have:=ref_cell hrow hk (j:=3) (by omega) rfl; simpa [hke] using this
  have q4:w.cell? ⟨g,posE id L * 5 + 4,none⟩ = some (.int .u64 e.draw):=by have:=ref_cell hrow hk (j:=4) (by omega) rfl; simpa [hke] using this
  have hsm:=h.small
  clear hrow
  go_enter Tryz.func72,Tryz.ntmps72
  go_wp2_with fail
  refine (find38_any br cf _ lc L id _ (h.alloc _)).mono ?_
  rintro ev w1 ⟨rfl,nq,rfl⟩
  rw [HE.out]
  clear he h hke
  generalize posE id L = k at *
  go_wp2
  refine bodyPost_ret (v:=.tuple #[.agg #[.int .i64 e.id,.slice (some ⟨e.rb,0,none⟩) e.pt.length e.rc,.int .i64 e.t0,.int .i64 e.t1,.int .u64 e.draw],.int .i64 0]) (by simp [results,Tryz.results72,go_sem]) rfl ⟨rfl,?_⟩
  repeat (first | exact Below.refl _ _ | refine below_drewN ?_ _ | refine Below.setCell ?_ (by first | omega | (simp; done) | (simp; omega)) _ | refine Below.alloc ?_ (by first | omega | (simp; done) | (simp; omega)) _)
end
section
open Go.RowKit

theorem delE_cut {id:Int}:∀ {L:List Ent} {e:Ent},Rising L→findE id L = some e→delE id L = L.take (posE id L) ++ L.drop (posE id L + 1)
  | [],e,_,h=>by cases h
  | y :: r,e,hs,h=>by
    obtain ⟨h1,h2⟩:=List.pairwise_cons.1 hs
    by_cases hy:y.id = id
    · have h0:posE id (y :: r) = 0:=by simp [posE,hy]
      rw [h0]
      simp only [List.take_zero,List.nil_append,Nat.zero_add,List.drop_succ_cons,List.drop_zero]
      unfold delE
      rw [List.filter_cons]
      simp only [hy,ne_eq,not_true_eq_false,decide_false,Bool.false_eq_true,if_false]
      refine List.filter_eq_self.2 fun e he=>?_
      have:=h1 e he
      simp; omega
    · have hr:findE id r = some e:=by
        unfold findE at h ⊢
        rw [List.find?_cons] at h
        simpa [hy] using h
      have h3:=h1 e (findE_mem hr).1
      have h4:=(findE_mem hr).2
      have h0:posE id (y :: r) = posE id r + 1:=by simp [posE,show y.id < id by omega]
      rw [h0]
      have ih:=delE_cut h2 hr
      unfold delE at ih ⊢
      rw [List.filter_cons]
      simp only [ne_eq,hy,not_false_eq_true,decide_true,if_true,List.take_succ_cons,List.drop_succ_cons,List.cons_append]
      rw [ih]

theorem insE_new {x:Ent}:∀ {L:List Ent},Rising L→findE x.id L = none→insE x L = L.take (posE x.id L) ++ x :: L.drop (posE x.id L)
  | [],_,_=>rfl
  | y :: r,hs,h=>by
    obtain ⟨h1,h2⟩:=List.pairwise_cons.1 hs
    have hy:y.id ≠ x.id:=findE_none h y (by simp)
    have hr:findE x.id r = none:=by
      unfold findE at h ⊢
      rw [List.find?_cons] at h
      simpa [hy] using h
    by_cases hlt:x.id < y.id
    · have h0:posE x.id (y :: r) = 0:=by
        simp [posE,List.takeWhile_cons]; omega
      rw [h0]
      simp [insE,hlt]
    · have h0:posE x.id (y :: r) = posE x.id r + 1:=by simp [posE,show y.id < x.id by omega]
      rw [h0]
      unfold insE
      rw [if_neg hlt,if_neg (fun e=>hy e.symm),insE_new h2 hr]
      simp

theorem insE_set {x:Ent}:∀ {L:List Ent} {e:Ent},Rising L→findE x.id L = some e→insE x L = L.set (posE x.id L) x
  | [],e,_,h=>by cases h
  | y :: r,e,hs,h=>by
    obtain ⟨h1,h2⟩:=List.pairwise_cons.1 hs
    by_cases hy:y.id = x.id
    · have h0:posE x.id (y :: r) = 0:=by simp [posE,hy]
      rw [h0]
      simp [insE,hy]
    · have hr:findE x.id r = some e:=by
        unfold findE at h ⊢
        rw [List.find?_cons] at h
        simpa [hy] using h
      have h3:=h1 e (findE_mem hr).1
      have h4:=(findE_mem hr).2
      have h0:posE x.id (y :: r) = posE x.id r + 1:=by simp [posE,show y.id < x.id by omega]
      rw [h0]
      unfold insE
      rw [if_neg (by omega),if_neg (fun e=>hy e.symm),insE_set h2 hr]
      rfl

theorem rcells_one (L:List Ent):∀ u ∈ rcells L,u.oneCell' = true:=by
  intro u hu
  obtain ⟨e,_,he⟩:=List.mem_flatMap.1 hu
  simp [rcell] at he
  rcases he with rfl | rfl | rfl | rfl | rfl <;> rfl

theorem rcells_take (L:List Ent) (k:Nat) (_hk:k≤L.length) {j:Nat} {u:Value} (h:(rcells (L.take k))[j]? = some u):(rcells L)[j]? = some u:=by
  have:rcells L = rcells (L.take k) ++ rcells (L.drop k):=by rw [← rcells_append,List.take_append_drop]
  rw [this,List.getElem?_append_left (List.getElem?_eq_some_iff.1 h).1]
  exact h
theorem rcells_drop (L:List Ent) (k:Nat) (hk:k≤L.length) {j:Nat} {u:Value} (h:(rcells (L.drop k))[j]? = some u):(rcells L)[k * 5 + j]? = some u:=by
  have h1:rcells L = rcells (L.take k) ++ rcells (L.drop k):=by rw [← rcells_append,List.take_append_drop]
  have h2:(rcells (L.take k)).length = k * 5:=by rw [rcells_length]; simp; omega
  rw [h1,List.getElem?_append_right (by omega),h2]
  simpa using h

theorem small_len (m:Nat) (h:m≤200):m≤maxLen:=by unfold maxLen; omega
theorem small_bytes (m:Nat) (h:m≤200):m * 56≤140737488355328:=Nat.le_trans (Nat.mul_le_mul_right 56 h) (by decide)
theorem rcells_take_len (L:List Ent) (k:Nat) (h:k≤L.length):(rcells (L.take k)).length = k * 5:=by rw [rcells_length]; simp; omega
theorem rcells_src1 {w:World} {g n lc k:Nat} {L:List Ent} (h:w.ownsRow 0 135 5 (.slice (some ⟨g,0,none⟩) n lc) n (rcells L)) (hk:k≤L.length):0 < k→∃ a,some (⟨g,0,none⟩:Addr) = some a∧∀ j u,(rcells (L.take k))[j]? = some u→w.cell? (a.add j) = some u :=
  fun _=>⟨_,rfl,fun j u hj=>by rw [addr_add,Nat.zero_add]; exact ownsRow_cell h (rcells_take L k hk hj)⟩
theorem rcells_src2 {w:World} {g n lc k:Nat} {L:List Ent} (h:w.ownsRow 0 135 5 (.slice (some ⟨g,0,none⟩) n lc) n (rcells L)) (hk:k≤L.length):∀ j u,(rcells (L.drop k))[j]? = some u→w.cell? ((⟨g,k * 5,none⟩:Addr).add j) = some u :=
  fun j u hj=>by rw [addr_add]; exact ownsRow_cell h (rcells_drop L k hk hj)

set_option maxHeartbeats 1000000 in
theorem delete20_no (br:Nat) (cf:Cf) (la:Option Addr) (lc:Nat) (L:List Ent) (id:Int) (w:World) (h:RefAt w br cf la lc L) (he:findE id L = none) :
    Calls Tryz.prog 37 #[.pointer (some ⟨br,0,none⟩),.int .i64 id] w fun ev w'=>ev = .returned (.int .i64 5)∧Below w.heap.size w w':=by
  have HE:Hid ((findE id L).isSome = false):=by rw [he]; rfl
  go_enter Tryz.func37,Tryz.ntmps37
  go_wp2_with fail
  refine (find38_any br cf la lc L id _ h).mono ?_
  rintro ev w1 ⟨rfl,nq,rfl⟩
  rw [HE.out]
  clear he h
  go_wp2
  go_ret
  exact ⟨rfl,below_drewN (Below.refl _ _) _⟩

theorem rcells_drop_len (L:List Ent) (k:Nat):(rcells (L.drop k)).length = (L.length - k) * 5:=by rw [rcells_length]; simp

theorem ref_new {w w3:World} {br:Nat} {cf:Cf} {la a2:Option Addr} {lc c2 n2:Nat} {L M:List Ent} {row:Option Nat} {w2:World} (h:RefAt w br cf la lc L) (hb2:Below w.heap.size w w2)
    (hn:n2 = M.length) (hrow:∀ g,row = some g→w.heap.size≤g) (ho:w3.ownsRow 0 135 5 (.slice a2 n2 c2) n2 (rcells M)) (hg:w2.grownBy w3 row) (hl:∀ g,(Value.slice a2 n2 c2).ownBlock = some g→w.heap.size≤g)
    (hsub:∀ e ∈ M,Pts w3 e.rb e.rc e.pt) (hris:Rising M) (hsm:M.length≤60) :
    (∀ g,(Value.slice a2 M.length c2).ownBlock = some g→w.heap.size≤g)∧Kept (fun k=>k = br) w (w3.setCell ⟨br,6,none⟩ (.slice a2 n2 c2))∧w3.cell? ⟨br,6,none⟩ = some (.slice la L.length lc)∧w3.frozen? ⟨br,6,none⟩ = false ∧
      RefAt (w3.setCell ⟨br,6,none⟩ (.slice a2 n2 c2)) br cf a2 c2 M:=by
  subst hn
  have hbr:=h.lt
  have hk:Below w.heap.size w w3:=hb2.grown hg hb2.size hrow
  have h3:=h.below hk
  obtain ⟨cs,hc⟩:=h3.typ
  have hgne:∀ g,w.heap.size≤g→g ≠ br:=fun g hg=>by omega
  refine ⟨hl,(Kept.of_below (fun k=>k = br) hk).setCell (p:=⟨br,6,none⟩) (fun _=>rfl) _,h3.r6,h3.frozen 6,⟨⟨_,heap_setCell_same _ _ _ _ _ _ hc⟩,?_,?_,?_,?_,?_,World.cell?_setCell_same _ _ _ h3.r6,?_,?_,hris,hsm⟩⟩
  · rw [World.cell?_setCell_other _ _ _ _ (by simp)]; exact h3.r0
  · rw [World.cell?_setCell_other _ _ _ _ (by simp)]; exact h3.r1
  · rw [World.cell?_setCell_other _ _ _ _ (by simp)]; exact h3.r2
  · rw [World.cell?_setCell_other _ _ _ _ (by simp)]; exact h3.r3
  · rw [World.cell?_setCell_other _ _ _ _ (by simp)]; exact h3.r5
  · exact ownsRow_of_block ho fun g hv=>Below.heap_setCell _ _ _ _ (hgne g (hl g hv))
  · intro e he
    have hp:=hsub e he
    refine ownsRow_of_block hp fun g hv=>Below.heap_setCell _ _ _ _ ?_
    obtain ⟨cu,hcu⟩:=ownsRow_obj hp hv
    exact ne_of_elem hcu hc (by decide)

theorem ref_del {w w2 w3:World} {br k:Nat} {cf:Cf} {g lc c1 c2:Nat} {a1 a2:Option Addr} {L:List Ent} {id:Int} {nq:Nat} (h:RefAt w br cf (some ⟨g,0,none⟩) lc L) (hb2:Below w.heap.size w w2) (hn:k + (L.length - (k + 1)) + 1 = L.length)
    (hd:delE id L = L.take k ++ L.drop (k + 1)) (hl1:(Value.slice a1 k c1).ownBlock = (Value.slice none 0 0).ownBlock ∨ (Value.slice a1 k c1).ownBlock = some (w.drewN nq).heap.size)
    (ho:w3.ownsRow 0 135 5 (.slice a2 (k + (L.length - (k + 1))) c2) (k + (L.length - (k + 1))) (rcells (L.take k) ++ rcells (L.drop (k + 1)))) (hg:w2.grownBy w3 (Value.slice a1 k c1).ownBlock) (hl2:(Value.slice a2 (k + (L.length - (k + 1))) c2).ownBlock = (Value.slice a1 k c1).ownBlock ∨ (Value.slice a2 (k + (L.length - (k + 1))) c2).ownBlock = some w2.heap.size) :
    (∀ g,(Value.slice a2 (delE id L).length c2).ownBlock = some g→w.heap.size≤g)∧Kept (fun k=>k = br) w (w3.setCell ⟨br,6,none⟩ (.slice a2 (k + (L.length - (k + 1))) c2))∧w3.cell? ⟨br,6,none⟩ = some (.slice (some ⟨g,0,none⟩) L.length lc)∧w3.frozen? ⟨br,6,none⟩ = false ∧
      RefAt (w3.setCell ⟨br,6,none⟩ (.slice a2 (k + (L.length - (k + 1))) c2)) br cf a2 c2 (delE id L):=by
  have e1:∀ g,(Value.slice a1 k c1).ownBlock = some g→w.heap.size≤g:=by
    intro g' e'
    rcases hl1 with e | e
    · rw [e'] at e; cases e
    · rw [e',heap_drewN] at e; exact Nat.le_of_eq (Option.some.inj e).symm
  have e2:∀ g,(Value.slice a2 (k + (L.length - (k + 1))) c2).ownBlock = some g→w.heap.size≤g:=by
    intro g' e'
    rcases hl2 with e | e
    · exact e1 g' (e ▸ e')
    · rw [e'] at e; have:=Option.some.inj e; have:=hb2.size; omega
  have hk:Below w.heap.size w w3:=hb2.grown hg hb2.size e1
  refine ref_new h hb2 ?_ e1 ?_ hg e2 ?_ (rising_delE id h.rising) ?_
  · rw [hd]; simp; omega
  · rw [hd,rcells_append]; exact ho
  · intro e he
    exact (h.below hk).pts e (mem_delE he)
  · have:=List.length_filter_le (fun e:Ent=>decide (e.id ≠ id)) L
    exact Nat.le_trans this h.small

set_option maxHeartbeats 1000000 in
set_option maxRecDepth 20000 in
theorem delete20_yes (br:Nat) (cf:Cf) (la:Option Addr) (lc:Nat) (L:List Ent) (id:Int) (e:Ent) (w:World) (h:RefAt w br cf la lc L) (he:findE id L = some e) :
    Calls Tryz.prog 37 #[.pointer (some ⟨br,0,none⟩),.int .i64 id] w fun ev w'=>ev = .returned (.int .i64 0)∧∃ la' lc',RefAt w' br cf la' lc' (delE id L)∧(∀ g,(Value.slice la' (delE id L).length lc').ownBlock = some g→w.heap.size≤g)∧Kept (fun k=>k = br) w w':=by
  have HE:Hid ((findE id L).isSome = true):=by rw [he]; rfl
  have HD:=hide (delE_cut h.rising he)
  obtain ⟨hk,hke⟩:=pos_found h.rising he
  obtain ⟨g,rfl⟩:=h.addr (by omega)
  have hr6:=h.r6
  have hbr:=h.lt
  have hsm:=h.small
  have hcap:=ownsRow_len h.row
  obtain ⟨i90,hi,hz0,hz1,hz2⟩:=info_parts info90
  go_enter Tryz.func37,Tryz.ntmps37
  go_wp2_with fail
  refine (find38_any br cf _ lc L id _ h).mono ?_
  rintro ev w1 ⟨rfl,nq,rfl⟩
  rw [HE.out]
  have HR:=hide (h.drewN nq)
  have H:=hide h
  clear he h hke HE
  generalize posE id L = k at *
  go_upto_region 6 with (at_builtin; go_must (refine wpList_append_any _ rfl _ _ 90 rfl 0 135 i90 (.agg #[.int .i64 0,.slice none 0 0,.int .i64 0,.int .i64 0,.int .u64 0]) 5 56 Tryz.underlying90 hi hz0 hz1 hz2 rfl (by decide) (.slice none 0 0) 0 [] rfl (World.ownsRow_nil _ _ _ _) (some ⟨g,0,none⟩) k _ (rcells (L.take k)) rfl (rcells_take_len L k (by omega)) (rcells_src1 HR.out.row (by omega)) (rcells_one _) (small_len _ (by omega)) (small_bytes _ (by omega)) (Nat.zero_le _) ?_); intro v1 w2 ho1 hg1 hl1; rw [Nat.zero_add,List.nil_append] at ho1; obtain ⟨a1,c1,rfl⟩:=row_form ho1; have hb2:Below w.heap.size w w2:=(below_drewN (Below.refl _ _) nq).grown hg1 (by simp) (fun k e=>by cases e); have hr6':=Below.at hb2 hr6 hbr; have HO1:=hide ho1; have HG1:=hide hg1; have HB2:=hide hb2; have HL1:=hide hl1; have hzw:w.heap.size≤w2.heap.size:=hb2.size; clear ho1 hg1 hb2 hl1)
  go_wp2_with (at_builtin; go_must (refine wpList_append_any _ rfl _ _ 90 rfl 0 135 i90 (.agg #[.int .i64 0,.slice none 0 0,.int .i64 0,.int .i64 0,.int .u64 0]) 5 56 Tryz.underlying90 hi hz0 hz1 hz2 rfl (by decide) (.slice a1 k c1) k (rcells (L.take k)) rfl HO1.out _ (L.length - (k + 1)) _ (rcells (L.drop (k + 1))) rfl (rcells_drop_len L (k + 1)) ?_ (rcells_one _) (small_len _ (by omega)) (small_bytes _ (by omega)) (Nat.zero_le _) ?_); go_must ((intro hp; rw [if_neg (by omega)]; exact ⟨_,rfl,rcells_src2 (ownsRow_below H.out.row HB2.out) (by omega)⟩)); go_must (intro v2 w3 ho2 hg2 hl2); obtain ⟨a2,c2,rfl⟩:=row_form ho2; go_must (obtain ⟨hfr,hk3,r6c,r6f,hfin⟩:=ref_del H.out HB2.out (by omega) HD.out HL1.out ho2 hg2 hl2); have HF:=hide hfin; have HFR:=hide hfr; have HK3:=hide hk3; clear hfr hk3 hfin ho2 hg2 hl2)
  all_goals go_ret
  all_goals exact ⟨rfl,_,_,HF.out,HFR.out,HK3.out⟩
end
end Go.Proofs.YtpkiefjanmfgfaaGreatDoor
