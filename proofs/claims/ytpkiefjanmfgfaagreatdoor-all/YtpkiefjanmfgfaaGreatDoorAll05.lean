import Derived.Deep.Cut
import Derived.Deep.DeepMust
import Derived.Maps.RangeWalk
import Derived.Lib.SliceRun
import Derived.Test.YtpkiefjanmfgfaaGreatDoorAll04
namespace Go.Proofs.YtpkiefjanmfgfaaGreatDoor
section
open Go.RowKit Go.Maps

def ahead1 (ch:List Int) (k:Nat):List Int:=if 0 < k then [ch.getD (k - 1) 0] else []
def behind1 (ch:List Int) (k:Nat):List Int:=if k + 1 < ch.length then [ch.getD (k + 1) 0] else []
def besideL (ch:List Int) (id:Int):List Int:=if id ∈ ch then ahead1 ch (ch.idxOf id) ++ behind1 ch (ch.idxOf id) else []

theorem besideL_length (ch:List Int) (id:Int):(besideL ch id).length≤2:=by
  unfold besideL ahead1 behind1
  split
  · split <;> split <;> simp
  · simp

theorem nil_row (w:World):w.ownsRow 0 3 1 (.slice none 0 0) 0 []:=⟨rfl,.inl ⟨rfl,rfl⟩⟩
theorem bel_first {w w1:World} {o:Obj} (hg:(w.alloc o).grownBy w1 (Value.slice none 0 0).ownBlock):Below w.heap.size w w1 :=
  ((Below.refl _ _).alloc (Nat.le_refl _) _).grown hg (by simp) (fun k e=>by simp [Value.ownBlock] at e)
theorem bel_second {w w1 w2:World} {o:Obj} {g cap:Nat} (hb:Below w.heap.size w w1) (hle:w.heap.size≤g) (hg:(w1.alloc o).grownBy w2 (Value.slice (some ⟨g,0,none⟩) 1 cap).ownBlock):Below w.heap.size w w2 :=
  (hb.alloc hb.size _).grown hg (by have:=hb.size; simp; omega) (fun k e=>by obtain rfl:g = k:=by { simpa [Value.ownBlock] using e }; exact hle)
theorem row_alloc {w:World} {v:Value} {n:Nat} {xs:List Value} (h:w.ownsRow 0 3 1 v n xs) (o:Obj):(w.alloc o).ownsRow 0 3 1 v n xs:=ownsRow_below h ((Below.refl _ _).alloc (Nat.le_refl _) o)

set_option maxHeartbeats 2000000 in
set_option maxRecDepth 20000 in
theorem beside145 (bg:Nat) (F:Nat→Prop) (lev:List (Int × Int)) (lk:Int × Int→List Int) (ch:List Int) (id:Int) (w:World) (h:GAt w bg F lev lk ch) (hc:ch.length≤1000) :
    Calls Tryz.prog 152 #[.pointer (some ⟨bg,0,none⟩),.int .i64 id] w fun ev w'=>∃ v',ev = .returned v'∧IRow w' v' (besideL ch id)∧(∀ g,v'.ownBlock = some g→w.heap.size≤g)∧Below w.heap.size w w':=by
  obtain ⟨bl,bk,cv,Ls,h1,h2,h3,h4⟩:=h
  obtain ⟨i0,hi,hz0,hz1,hz2⟩:=info_parts info3
  have c2:=h1.c2
  have hidx:=index154 cv ch id w h1.chr hc
  obtain ⟨ca,ccap,rfl,hca⟩:=IRow_slice h1.chr
  have HCH:=hide h1.chr
  have hbg:=heap_lt h1.blk
  have HBLK:=hide h1.blk
  clear h1 h2 h3 h4
  by_cases hm:id ∈ ch
  · have hk:ch.idxOf id < ch.length:=List.idxOf_lt_length_iff.2 hm
    have e1:idxI ch id = ((ch.idxOf id:Nat):Int):=by rw [idxI,if_pos hm]
    have e2:besideL ch id = ahead1 ch (ch.idxOf id) ++ behind1 ch (ch.idxOf id):=by rw [besideL,if_pos hm]
    rw [e1] at hidx
    rw [e2]
    obtain ⟨g0,rfl⟩:=hca (by omega)
    generalize ch.idxOf id = k at hk hidx
    have HIX:=hide hidx
    have hcell:∀ j,j < ch.length→w.cell? ⟨g0,j,none⟩ = some (.int .i64 (ch.getD j 0)):=fun j hj=>ownsRow_cell HCH.out (by simp [vals,List.getD_eq_getElem?_getD,hj])
    have hg0:g0 < w.heap.size:=block_lt_of_cell (hcell k hk)
    clear hidx e1 e2 hm
    by_cases ha:0 < k
    · have ca:=hcell (k - 1) (by omega)
      have ea:((k:Int) - 1) = ((k - 1:Nat):Int):=by omega
      have eA:ahead1 ch k = [ch.getD (k - 1) 0]:=by rw [ahead1,if_pos ha]
      rw [eA]
      by_cases hb:k + 1 < ch.length
      · have eB:behind1 ch k = [ch.getD (k + 1) 0]:=by rw [behind1,if_pos hb]
        have cb:=hcell (k + 1) hb
        rw [eB]
        clear hcell
        generalize ch.getD (k - 1) 0 = x at ca
        generalize ch.getD (k + 1) 0 = y at cb
        go_enter Tryz.func152,Tryz.ntmps152
        go_upto_region 5 with (first | (go_at_call 164; refine HIX.out.mono ?_; rintro e2 w2 ⟨rfl,rfl⟩) | (at_builtin; go_must (refine wpList_append_lies _ rfl _ _ 32 rfl 0 3 i0 (.int .i64 0) 1 8 Tryz.underlying32 hi hz0 hz1 hz2 rfl (by decide) (.slice none 0 0) 0 [] rfl (nil_row _) ⟨w.heap.size,0,none⟩ 1 1 [.int .i64 x] rfl rfl (World.news_of_block (cs:=#[.int .i64 x]) (t:=3) (fr:=(0,0)) (heap_alloc_new _ _)) (by simp [Value.oneCell']) (by decide) (by decide) (by decide) (Nat.zero_le _) (w.heap.size + 1) (by simp) ?_); intro g1 cap1 w1 ho1 hg1 hat1 hlt1; have hB1:=bel_first hg1; have HG1:Hid (w.heap.size≤g1):=by { show w.heap.size≤g1; rcases hat1 with e | e; (simp [Value.ownBlock] at e); omega }; have d2:=cell_below c2 hB1; have d3:=cell_below cb hB1; have HB1:=hide hB1; have HO1:=hide ho1; clear ho1 hg1 hat1 hB1))
        go_wp2_with (at_builtin; go_must (refine wpList_append_lies _ rfl _ _ 32 rfl 0 3 i0 (.int .i64 0) 1 8 Tryz.underlying32 hi hz0 hz1 hz2 rfl (by decide) (.slice (some ⟨g1,0,none⟩) 1 cap1) 1 [.int .i64 x] rfl (row_alloc HO1.out _) ⟨w1.heap.size,0,none⟩ 1 1 [.int .i64 y] rfl rfl (World.news_of_block (cs:=#[.int .i64 y]) (t:=3) (fr:=(0,0)) (heap_alloc_new _ _)) (by simp [Value.oneCell']) (by decide) (by decide) (by decide) (Nat.zero_le _) (w1.heap.size + 1) (by simp) ?_); intro g2 cap2 w2 ho2 hg2 hat2 hlt2; have HB2:=hide (bel_second HB1.out HG1.out hg2); have HG2:Hid (w.heap.size≤g2):=by { show w.heap.size≤g2; rcases hat2 with e | e; (have e3:g1 = g2:=by { simpa [Value.ownBlock] using e }; exact e3 ▸ HG1.out); (have:=HB1.out.size; omega) }; have HO2:=hide ho2; clear ho2 hg2 hat2)
        go_ret
        refine ⟨_,rfl,HO2.out,fun g e=>?_,HB2.out⟩
        obtain rfl:g2 = g:=by simpa [Value.ownBlock] using e
        exact HG2.out
      · have eB:behind1 ch k = []:=by rw [behind1,if_neg hb]
        rw [eB]
        clear hcell
        generalize ch.getD (k - 1) 0 = x at ca
        have hb':¬ ((k:Int) + 1 < (ch.length:Int)):=by omega
        go_enter Tryz.func152,Tryz.ntmps152
        go_wp2_with (first | (go_at_call 164; refine HIX.out.mono ?_; rintro e2 w2 ⟨rfl,rfl⟩) | (at_builtin; go_must (refine wpList_append_lies _ rfl _ _ 32 rfl 0 3 i0 (.int .i64 0) 1 8 Tryz.underlying32 hi hz0 hz1 hz2 rfl (by decide) (.slice none 0 0) 0 [] rfl (nil_row _) ⟨w.heap.size,0,none⟩ 1 1 [.int .i64 x] rfl rfl (World.news_of_block (cs:=#[.int .i64 x]) (t:=3) (fr:=(0,0)) (heap_alloc_new _ _)) (by simp [Value.oneCell']) (by decide) (by decide) (by decide) (Nat.zero_le _) (w.heap.size + 1) (by simp) ?_); intro g1 cap1 w1 ho1 hg1 hat1 hlt1; have hB1:=bel_first hg1; have HG1:Hid (w.heap.size≤g1):=by { show w.heap.size≤g1; rcases hat1 with e | e; (simp [Value.ownBlock] at e); omega }; have d2:=cell_below c2 hB1; have hq0:=0; have HB1:=hide hB1; have HO1:=hide ho1; clear ho1 hg1 hat1 hB1))
        go_ret
        refine ⟨_,rfl,HO1.out,fun g e=>?_,HB1.out⟩
        obtain rfl:g1 = g:=by simpa [Value.ownBlock] using e
        exact HG1.out
    · obtain rfl:k = 0:=by omega
      have eA:ahead1 ch 0 = []:=rfl
      rw [eA]
      by_cases hb:0 + 1 < ch.length
      · have eB:behind1 ch 0 = [ch.getD 1 0]:=by rw [behind1,if_pos hb]
        have cb:=hcell 1 hb
        rw [eB]
        clear hcell
        generalize ch.getD 1 0 = y at cb
        have hb':(1:Int) < (ch.length:Int):=by omega
        go_enter Tryz.func152,Tryz.ntmps152
        go_wp2_with (first | (go_at_call 164; refine HIX.out.mono ?_; rintro e2 w2 ⟨rfl,rfl⟩) | (at_builtin; go_must (refine wpList_append_lies _ rfl _ _ 32 rfl 0 3 i0 (.int .i64 0) 1 8 Tryz.underlying32 hi hz0 hz1 hz2 rfl (by decide) (.slice none 0 0) 0 [] rfl (nil_row _) ⟨w.heap.size,0,none⟩ 1 1 [.int .i64 y] rfl rfl (World.news_of_block (cs:=#[.int .i64 y]) (t:=3) (fr:=(0,0)) (heap_alloc_new _ _)) (by simp [Value.oneCell']) (by decide) (by decide) (by decide) (Nat.zero_le _) (w.heap.size + 1) (by simp) ?_); intro g1 cap1 w1 ho1 hg1 hat1 hlt1; have hB1:=bel_first hg1; have HG1:Hid (w.heap.size≤g1):=by { show w.heap.size≤g1; rcases hat1 with e | e; (simp [Value.ownBlock] at e); omega }; have d2:=cell_below c2 hB1; have hq0:=0; have HB1:=hide hB1; have HO1:=hide ho1; clear ho1 hg1 hat1 hB1))
        go_ret
        refine ⟨_,rfl,HO1.out,fun g e=>?_,HB1.out⟩
        obtain rfl:g1 = g:=by simpa [Value.ownBlock] using e
        exact HG1.out
      · have eB:behind1 ch 0 = []:=by rw [behind1,if_neg hb]
        rw [eB]
        clear hcell
        have hb':¬ ((1:Int) < (ch.length:Int)):=by omega
        go_enter Tryz.func152,Tryz.ntmps152
        go_wp2_with (go_at_call 164; refine HIX.out.mono ?_; rintro e2 w2 ⟨rfl,rfl⟩)
        go_ret
        exact ⟨_,rfl,⟨rfl,.inl ⟨rfl,rfl⟩⟩,fun g e=>by simp [Value.ownBlock] at e,Below.refl _ _⟩
  · have e1:idxI ch id = -1:=by rw [idxI,if_neg hm]
    have e2:besideL ch id = []:=by rw [besideL,if_neg hm]
    rw [e1] at hidx
    rw [e2]
    have HIX:=hide hidx
    clear hidx e1 e2 hm
    go_enter Tryz.func152,Tryz.ntmps152
    go_wp2_with (go_at_call 164; refine HIX.out.mono ?_; rintro e2 w2 ⟨rfl,rfl⟩)
    go_ret
    exact ⟨_,rfl,⟨rfl,.inl ⟨rfl,rfl⟩⟩,fun g e=>by simp [Value.ownBlock] at e,Below.refl _ _⟩
end
section
open Go.RowKit Go.Maps

def reachedL (lk:Int × Int→List Int) (ch:List Int) (id l:Int):List Int:=if l = 0 then lk (id,l) ++ besideL ch id else lk (id,l)

theorem IRow_src {w:World} {v:Value} {xs:List Int} (h:IRow w v xs):∃ sa cap,v = .slice sa xs.length cap∧(0 < xs.length→∃ a,sa = some a∧∀ j u,(vals xs)[j]? = some u→w.cell? (a.add j) = some u):=by
  rcases h.2 with ⟨rfl,hz⟩ | ⟨g,cap',cur,rfl,r⟩
  · exact ⟨none,0,by rw [hz],fun h=>by omega⟩
  · exact ⟨_,cap',rfl,fun _=>⟨_,rfl,fun j u hu=>by rw [addr_add,Nat.zero_add]; exact ownsRow_cell (n:=xs.length) (cap:=cap') h hu⟩⟩

set_option maxHeartbeats 2000000 in
set_option maxRecDepth 20000 in
theorem reached109 (bg:Nat) (F:Nat→Prop) (lev:List (Int × Int)) (lk:Int × Int→List Int) (ch:List Int) (id l:Int) (w:World) (h:GAt w bg F lev lk ch) (hid:I64 id) (hl:I64 l) (hs:(lk (id,l)).length≤900) (hc:ch.length≤1000) :
    Calls Tryz.prog 113 #[.pointer (some ⟨bg,0,none⟩),.int .i64 id,.int .i64 l] w fun ev w'=>∃ v',ev = .returned v'∧IRow w' v' (reachedL lk ch id l)∧(∀ g,v'.ownBlock = some g→w.heap.size≤g)∧Below w.heap.size w w':=by
  obtain ⟨i0,hi,hz0,hz1,hz2⟩:=info_parts info3
  have hlk:=linked88 bg F lev lk ch id l w h hid hl (by omega)
  have HLK:=hide hlk
  have H:=hide h
  clear hlk h
  have hb2:=besideL_length ch id
  by_cases h0:l = 0
  · subst h0
    have e1:reachedL lk ch id 0 = lk (id,0) ++ besideL ch id:=by rw [reachedL,if_pos rfl]
    rw [e1]
    clear e1
    go_enter Tryz.func113,Tryz.ntmps113
    go_wp2_with fail
    refine HLK.out.mono ?_
    rintro e1 w1 ⟨v1,rfl,r1,f1,b1,_⟩
    have hbs:=beside145 bg F lev lk ch id w1 (H.out.below b1) hc
    have HBS:=hide hbs
    have R1:=hide r1
    have F1:=hide f1
    have B1:=hide b1
    clear hbs r1 f1 b1
    go_wp2_with fail
    refine HBS.out.mono ?_
    rintro e2 w2 ⟨v2,rfl,r2,f2,b2⟩
    obtain ⟨sa,cap2,rfl,hsrc⟩:=IRow_src r2
    have hfit:(lk (id,0)).length + (besideL ch id).length≤maxLen∧((lk (id,0)).length + (besideL ch id).length) * 8≤140737488355328:=by unfold maxLen; omega
    have hr12:w2.ownsRow 0 3 1 v1 (lk (id,0)).length (vals (lk (id,0))):=ownsRow_below R1.out b2
    have R12:=hide hr12
    have HSRC:=hide hsrc
    have B2:=hide b2
    clear hr12 hsrc r2 f2 b2
    go_wp2_with (at_builtin; go_must (refine wpList_append_any _ rfl _ _ 32 rfl 0 3 i0 (.int .i64 0) 1 8 Tryz.underlying32 hi hz0 hz1 hz2 rfl (by decide) v1 _ _ rfl R12.out sa _ cap2 (vals (besideL ch id)) rfl (by rw [vals_length,Nat.mul_one]) HSRC.out (vals_one _) hfit.1 hfit.2 (Nat.zero_le _) ?_); intro v3 w3 ho3 hg3 hat3)
    go_ret
    have hrow:IRow w3 v3 (lk (id,0) ++ besideL ch id):=by
      unfold IRow
      rw [vals_append,List.length_append]
      exact ho3
    refine ⟨v3,rfl,hrow,fun g e=>?_,?_⟩
    · rcases hat3 with e2 | e2
      · exact F1.out g (by rw [← e2]; exact e)
      · have:=B1.out.size
        have:=B2.out.size
        rw [e2] at e
        have e3:w2.heap.size = g:=Option.some.inj e
        omega
    · exact (B1.out.trans (B2.out.mono B1.out.size)).grown hg3 (Nat.le_trans B1.out.size B2.out.size) (fun k e=>F1.out k e)
  · have e1:reachedL lk ch id l = lk (id,l):=by rw [reachedL,if_neg h0]
    rw [e1]
    clear e1
    go_enter Tryz.func113,Tryz.ntmps113
    go_wp2_with fail
    refine HLK.out.mono ?_
    rintro e1 w1 ⟨v1,rfl,r1,f1,b1,_⟩
    have R1:=hide r1
    have F1:=hide f1
    have B1:=hide b1
    clear r1 f1 b1
    go_wp2
    go_ret
    exact ⟨v1,rfl,R1.out,F1.out,B1.out⟩
end
section
open Go.RowKit Go.Maps

def EntrOf (lev:List (Int × Int)) (gone:Int→Bool) (e t:Int):Prop :=
  ((∀ p ∈ lev,gone p.1 = false)∧e = 0∧t = -1) ∨ ((e,t) ∈ lev∧gone e = true∧∀ p ∈ lev,gone p.1 = true→p.2 < t ∨ (p.2 = t∧e≤p.1))
def better (e t x l:Int):Bool:=decide (t < l) || (decide (l = t) && decide (x < e))

theorem EntrOf.step {lev:List (Int × Int)} {gone:Int→Bool} {e t x l:Int} (h:EntrOf lev gone e t) (hx:(x,l) ∈ lev) (hl:0≤l) (hn:(lev.map (·.1)).Nodup) {gone':Int→Bool} (hg:∀ i,gone' i = (gone i || decide (i = x))) :
    if better e t x l = true then EntrOf lev gone' x l else EntrOf lev gone' e t:=by
  have huniq:∀ p ∈ lev,p.1 = x→p.2 = l:=fun p hp e1=>by
    have:=nodup_map_inj hn hp hx e1
    rw [this]
  rcases h with ⟨h1,rfl,rfl⟩ | ⟨h1,h2,h3⟩
  · have hb:better 0 (-1) x l = true:=by unfold better; simp; omega
    rw [if_pos hb]
    refine .inr ⟨hx,by rw [hg]; simp,fun p hp hgp=>?_⟩
    rw [hg,h1 p hp] at hgp
    have e1:p.1 = x:=by simpa using hgp
    exact .inr ⟨huniq p hp e1,by omega⟩
  · by_cases hb:better e t x l = true
    · rw [if_pos hb]
      unfold better at hb
      simp at hb
      refine .inr ⟨hx,by rw [hg]; simp,fun p hp hgp=>?_⟩
      rw [hg] at hgp
      by_cases e1:p.1 = x
      · exact .inr ⟨huniq p hp e1,by omega⟩
      · have hgp':gone p.1 = true:=by simpa [e1] using hgp
        have:=h3 p hp hgp'
        omega
    · rw [if_neg hb]
      unfold better at hb
      simp at hb
      refine .inr ⟨h1,by rw [hg,h2]; rfl,fun p hp hgp=>?_⟩
      rw [hg] at hgp
      by_cases e1:p.1 = x
      · have:=huniq p hp e1
        have h4:=hb.1
        have h5:=hb.2
        omega
      · have hgp':gone p.1 = true:=by simpa [e1] using hgp
        exact h3 p hp hgp'

noncomputable def entrL (lev:List (Int × Int)):Int × Int:=Classical.epsilon fun p=>EntrOf lev (fun _=>true) p.1 p.2
theorem EntrOf.eq {lev:List (Int × Int)} {e t:Int} (h:EntrOf lev (fun _=>true) e t):entrL lev = (e,t):=by
  have hs:EntrOf lev (fun _=>true) (entrL lev).1 (entrL lev).2:=Classical.epsilon_spec (p:=fun p:Int × Int=>EntrOf lev (fun _=>true) p.1 p.2) ⟨(e,t),h⟩
  generalize entrL lev = q at hs
  obtain ⟨a,b⟩:=q
  simp only at hs
  rcases h with ⟨h1,rfl,rfl⟩ | ⟨h1,_,h3⟩
  · rcases hs with ⟨_,rfl,rfl⟩ | ⟨g1,_,_⟩
    · rfl
    · have:=h1 _ g1; simp at this
  · rcases hs with ⟨g1,_,_⟩ | ⟨g1,_,g3⟩
    · have:=g1 _ h1; simp at this
    · have a1:=h3 _ g1 rfl
      have a2:=g3 _ h1 rfl
      simp at a1 a2
      have:a = e:=by omega
      have:b = t:=by omega
      simp_all

theorem asIs_inv (v:Value) (y:DataW Value × List MemPlace) (_h:asIs v = some y):∃ c,v = (fun c:Value=>c) c:=⟨v,rfl⟩

theorem levOf_mem {lev:List (Int × Int)} {i l:Int} (h:levOf lev i = some l):(i,l) ∈ lev:=by
  unfold levOf at h
  obtain ⟨p,hp,rfl⟩:=Option.map_eq_some_iff.1 h
  have h1:=List.find?_some hp
  simp at h1
  rw [← h1]
  exact List.mem_of_find?_eq_some hp
theorem levOf_of_mem {lev:List (Int × Int)} (hn:(lev.map (·.1)).Nodup) {i l:Int} (h:(i,l) ∈ lev):levOf lev i = some l:=by
  cases hv:levOf lev i with
  | none =>
    unfold levOf at hv
    have:=List.find?_eq_none.1 (Option.map_eq_none_iff.1 hv) _ h
    simp at this
  | some m =>
    have:=nodup_map_inj hn (levOf_mem hv) h rfl
    simp at this
    rw [this]
theorem lev_came {lev:List (Int × Int)} {D:DataW Value} (hat:∀ a,intKey.ok a→∀ z,D.atKey (intKey.lit a) z = ((getA a (levV lev)).map DataW.held).getD z) {x:Int} {c:Value} {kl:Lit} {y:DataW Value × List MemPlace}
    (hkey:keyOf Tryz.prog 3 (.int .i64 x) = some kl) (hv:asIs c = some y) (h:∀ zd,D.atKey kl zd = y.1):∃ l,c = .int .i64 l∧(x,l) ∈ lev∧kl = .int .i64 x:=by
  obtain ⟨x',e1,rfl,hw⟩:=Maps.keyOf_int_inv Tryz.underlying3 hkey
  cases e1
  have hy:y.1 = .held c:=by cases hv; rfl
  have h1:=hat x hw
  rw [getA_levV] at h1
  cases hl:levOf lev x with
  | none =>
    have h2:=(h1 .nil).symm.trans (h .nil)
    rw [hl,hy] at h2
    cases h2
  | some l =>
    have h2:=(h1 .nil).symm.trans (h .nil)
    rw [hl,hy] at h2
    exact ⟨l,(DataW.held.inj h2).symm,levOf_mem hl,rfl⟩
theorem intk_inv (key:Value) (kl:Lit) (h:keyOf Tryz.prog 3 key = some kl):∃ x:Int,key = Value.int .i64 x:=by
  obtain ⟨x,e,_⟩:=Maps.keyOf_int_inv Tryz.underlying3 h
  exact ⟨x,e⟩

set_option maxHeartbeats 4000000 in
set_option maxRecDepth 20000 in
theorem entrance112 (bg:Nat) (F:Nat→Prop) (lev:List (Int × Int)) (lk:Int × Int→List Int) (ch:List Int) (w:World) (h:GAt w bg F lev lk ch) (hid:∀ p ∈ lev,I64 p.1∧0≤p.2) :
    Calls Tryz.prog 116 #[.pointer (some ⟨bg,0,none⟩)] w fun ev w'=>ev = .returned (.tuple #[.int .i64 (entrL lev).1,.bool (decide (0≤(entrL lev).2))])∧Below w.heap.size w w':=by
  obtain ⟨bl,bk,cv,Ls,h1,h2,h3,h4⟩:=h
  obtain ⟨D,hown,hsz,htidy,hat⟩:=h1.lev.own
  have hnod:(lev.map (·.1)).Nodup:=by
    have:=h1.lev.nodup
    unfold keysA levV at this
    rw [List.map_map] at this
    exact this
  have c0:=h1.c0
  have hhas:∀ i,I64 i→Maps.has D (.int .i64 i) = (levOf lev i).isSome:=fun i hi=>by
    have h5:=has_of_at (hat i hi)
    rw [getA_levV] at h5
    have h6:(Option.map (Value.int .i64) (levOf lev i)).isSome = (levOf lev i).isSome:=by simp
    rw [h6] at h5
    exact h5
  have HOWN:=hide hown
  have HAT:=hide hat
  have HNOD:=hide hnod
  have HID:=hide hid
  have HHAS:=hide hhas
  clear h1 h2 h3 h4 hown hat hnod hid hhas hsz htidy
  go_enter Tryz.func116,Tryz.ntmps116
  go_wp2_with (first | (at_range; refine wpList_range_own _ rfl _ 169 rfl 3 3 key3 Tryz.underlying169 _ bl _ D rfl HOWN.out ?_; intro w0 hrg0 hg0 hs0) | go_in)
  go_frame
  have HRG0:=hide hrg0
  have HB0:Hid (Below w.heap.size w w0):=(Below.refl _ _).grown hg0 (Nat.le_refl _) (fun k e=>by cases e)
  clear hrg0 hg0 hs0
  go_loopw [4,5,6,7] (fun e t _ _ wr=>∃ (left:Lit→Bool) (cnt:Nat) (e' t':Int),e = .int .i64 e'∧t = .int .i64 t'∧Hid (wr.ranges Tryz.prog 3 asIs bl w.heap.size (levV lev).length D left cnt)∧Hid (EntrOf lev (fun i=>!left (.int .i64 i)) e' t')∧Hid (Below w.heap.size w wr)) (fun _ _ _ _ wr=>wr.rangeLeft bl w.heap.size)
  case atStart =>
    refine ⟨Maps.has D,_,0,-1,rfl,rfl,HRG0.out,.inl ⟨fun p hp=>?_,rfl,rfl⟩,HB0.out⟩
    show (!Maps.has D (.int .i64 p.1)) = false
    rw [HHAS.out p.1 (HID.out p hp).1,levOf_of_mem HNOD.out hp]
    rfl
  case round =>
    obtain ⟨left,cnt,e',t',rfl,rfl,hrg,hen,hbl⟩:=hrel
    go_wp2_with (first | (at_next; refine wpList_next_ranges _ rfl _ rfl 3 key3 asIs (fun x:Int=>Value.int .i64 x) (fun c:Value=>c) intk_inv asIs_inv bl w.heap.size _ D left cnt rfl hrg.out ?_ ?_) | go_in)
    · intro _ hl0
      have hfin:EntrOf lev (fun _=>true) e' t':=by
        have:=hen.out
        simp only [hl0] at this
        exact this
      have HE:=hide hfin.eq
      clear hfin
      go_wp2
      go_ret2
      refine ⟨?_,hbl.out⟩
      rw [HE.out]
      rfl
    · intro x c kl y1 y2 w1 cnt1 hkey hlx hv hat2 hrg1 hlt hg1 hs1 hent
      obtain ⟨l,rfl,hm,rfl⟩:=lev_came (y:=(y1,y2)) HAT.out hkey hv hat2
      have hstep:=EntrOf.step hen.out hm (HID.out _ hm).2 HNOD.out (gone':=fun i=>!(left (.int .i64 i) && !(Lit.int .i64 i).sameKey (.int .i64 x))) (fun i=>by
        rw [sameKey_int]
        cases left (.int .i64 i) <;> simp)
      have HB1:Hid (Below w.heap.size w w1):=hbl.out.grown hg1 hbl.out.size (fun k e=>Nat.le_of_eq (Option.some.inj e))
      have HRG1:=hide hrg1
      have HM:Hid (w1.rangeLeft bl w.heap.size < wr.rangeLeft bl w.heap.size):=by
        show _ < _
        rw [hrg1.left_eq,hrg.out.left_eq]; exact hlt
      have HST:=hide hstep
      clear hkey hlx hv hat2 hrg1 hlt hg1 hs1 hstep hm
      by_cases hA:t' < l
      · have hb:better e' t' x l = true:=by unfold better; simp [hA]
        rw [hb,if_pos rfl] at HST
        go_wp2
        exact ⟨⟨_,_,x,l,rfl,rfl,HRG1.out,HST.out,HB1.out⟩,HM.out⟩
      · have hA':decide (t' < l) = false:=by simpa using hA
        by_cases hB:l = t'
        · by_cases hC:x < e'
          · have hb:better e' t' x l = true:=by unfold better; simp [hB,hC]
            rw [hb,if_pos rfl] at HST
            subst hB
            go_wp2
            exact ⟨⟨_,_,x,l,rfl,rfl,HRG1.out,HST.out,HB1.out⟩,HM.out⟩
          · have hb:better e' t' x l = false:=by unfold better; simp [hB]; omega
            rw [hb] at HST
            simp only [Bool.false_eq_true,if_false] at HST
            subst hB
            go_wp2
            exact ⟨⟨_,_,e',l,rfl,rfl,HRG1.out,HST.out,HB1.out⟩,HM.out⟩
        · have hb:better e' t' x l = false:=by unfold better; simp [hB]; omega
          rw [hb] at HST
          simp only [Bool.false_eq_true,if_false] at HST
          go_wp2
          exact ⟨⟨_,_,e',t',rfl,rfl,HRG1.out,HST.out,HB1.out⟩,HM.out⟩
end
section
open Go.RowKit Go.Maps

def idxP (p:Int→Bool) (xs:List Int):Int:=match xs.findIdx? p with | some k=>(k:Int) | none=>-1
theorem idxP_at {p:Int→Bool} {xs:List Int} {k:Nat} (hk:k < xs.length) (h1:∀ j (_:j < k) (hl:j < xs.length),p xs[j] = false) (h2:p xs[k] = true):idxP p xs = k:=by
  unfold idxP
  have:xs.findIdx? p = some k:=by
    rw [List.findIdx?_eq_some_iff_getElem]
    exact ⟨hk,h2,fun j hj=>by simpa using h1 j hj (by omega)⟩
  rw [this]
theorem idxP_none {p:Int→Bool} {xs:List Int} (h1:∀ j (hl:j < xs.length),p xs[j] = false):idxP p xs = -1:=by
  unfold idxP
  have:xs.findIdx? p = none:=by
    rw [List.findIdx?_eq_none_iff]
    intro x hx
    obtain ⟨j,hj,rfl⟩:=List.getElem_of_mem hx
    exact h1 j hj
  rw [this]

set_option maxHeartbeats 2000000 in
theorem indexFunc153_130 (c1:Value) (p:Int→Bool) (v:Value) (xs:List Int) (w:World) (hr:IRow w v xs) (hl:xs.length≤1000)
    (hp:∀ W x,Below w.heap.size w W→Calls Tryz.prog 137 #[.int .i64 x,c1] W fun e W'=>e = .returned (.bool (p x))∧Below W.heap.size W W') :
    Calls Tryz.prog 163 #[v,.func (.func 137) #[] #[c1]] w fun ev w'=>ev = .returned (.int .i64 (idxP p xs))∧Below w.heap.size w w':=by
  obtain ⟨a,cap,rfl,ha⟩:=IRow_slice hr
  have HR:=hide hr
  have HA:=hide ha
  have HP:=hide hp
  clear hr ha hp
  go_enter Tryz.func163,Tryz.ntmps163
  go_wp2
  go_loopw [5,8] (fun _ i wr=>∃ k:Nat,i = .int .i64 k∧k≤xs.length∧Hid (∀ j (_:j < k) (hl:j < xs.length),p xs[j] = false)∧Hid (Below w.heap.size w wr)) (fun _ i _=>xs.length - (intOf i).toNat)
  case atStart=>exact ⟨0,rfl,Nat.zero_le _,fun j hj=>absurd hj (Nat.not_lt_zero _),Below.refl _ _⟩
  case round =>
    obtain ⟨k,rfl,hk,hall,hb⟩:=hrel
    by_cases hlt:k < xs.length
    · obtain ⟨g,rfl⟩:=HA.out (by omega)
      have hc:wr.cell? ⟨g,k,none⟩ = some (.int .i64 xs[k]):=ownsRow_cell (ownsRow_of_block HR.out (fun g' e=>hb.out.block _ (HR.out.lt g' e).2)) (by simp [vals,hlt])
      generalize hy:xs[k] = y at hc
      have HY:=hide hy
      clear hy
      have hcall:=HP.out wr y hb.out
      cases hpy:p y with
      | true =>
        rw [hpy] at hcall
        have HC:=hide hcall
        clear hcall
        go_wp2_with (go_at_call 137; refine HC.out.mono ?_; rintro e2 w2 ⟨rfl,hb2⟩)
        go_ret
        exact ⟨by rw [idxP_at hlt hall.out (by rw [HY.out]; exact hpy)]; rfl,hb.out.trans (hb2.mono hb.out.size)⟩
      | false =>
        rw [hpy] at hcall
        have HC:=hide hcall
        clear hcall
        go_wp2_with (go_at_call 137; refine HC.out.mono ?_; rintro e2 w2 ⟨rfl,hb2⟩)
        refine ⟨⟨k + 1,by go_num,by omega,fun j hj hl=>?_,hb.out.trans (hb2.mono hb.out.size)⟩,by simp [intOf]; omega⟩
        rcases Nat.lt_or_ge j k with h | h
        · exact hall.out j h hl
        · obtain rfl:j = k:=by omega
          rw [HY.out]; exact hpy
    · go_wp2
      go_ret
      exact ⟨by rw [idxP_none (fun j hl=>hall.out j (by omega) hl)]; rfl,hb.out⟩

set_option maxHeartbeats 2000000 in
theorem indexFunc153_131 (c1 c2 c3 c4:Value) (p:Int→Bool) (v:Value) (xs:List Int) (w:World) (hr:IRow w v xs) (hl:xs.length≤1000)
    (hp:∀ W,∀ x ∈ xs,Below w.heap.size w W→Calls Tryz.prog 138 #[.int .i64 x,c1,c2,c3,c4] W fun e W'=>e = .returned (.bool (p x))∧Below W.heap.size W W') :
    Calls Tryz.prog 163 #[v,.func (.func 138) #[] #[c1,c2,c3,c4]] w fun ev w'=>ev = .returned (.int .i64 (idxP p xs))∧Below w.heap.size w w':=by
  obtain ⟨a,cap,rfl,ha⟩:=IRow_slice hr
  have HR:=hide hr
  have HA:=hide ha
  have HP:=hide hp
  clear hr ha hp
  go_enter Tryz.func163,Tryz.ntmps163
  go_wp2
  go_loopw [5,8] (fun _ i wr=>∃ k:Nat,i = .int .i64 k∧k≤xs.length∧Hid (∀ j (_:j < k) (hl:j < xs.length),p xs[j] = false)∧Hid (Below w.heap.size w wr)) (fun _ i _=>xs.length - (intOf i).toNat)
  case atStart=>exact ⟨0,rfl,Nat.zero_le _,fun j hj=>absurd hj (Nat.not_lt_zero _),Below.refl _ _⟩
  case round =>
    obtain ⟨k,rfl,hk,hall,hb⟩:=hrel
    by_cases hlt:k < xs.length
    · obtain ⟨g,rfl⟩:=HA.out (by omega)
      have hc:wr.cell? ⟨g,k,none⟩ = some (.int .i64 xs[k]):=ownsRow_cell (ownsRow_of_block HR.out (fun g' e=>hb.out.block _ (HR.out.lt g' e).2)) (by simp [vals,hlt])
      have hymem:xs[k] ∈ xs:=List.getElem_mem hlt
      generalize hy:xs[k] = y at hc hymem
      have HY:=hide hy
      clear hy
      have hcall:=HP.out wr y hymem hb.out
      clear hymem
      cases hpy:p y with
      | true =>
        rw [hpy] at hcall
        have HC:=hide hcall
        clear hcall
        go_wp2_with (go_at_call 138; refine HC.out.mono ?_; rintro e2 w2 ⟨rfl,hb2⟩)
        go_ret
        exact ⟨by rw [idxP_at hlt hall.out (by rw [HY.out]; exact hpy)]; rfl,hb.out.trans (hb2.mono hb.out.size)⟩
      | false =>
        rw [hpy] at hcall
        have HC:=hide hcall
        clear hcall
        go_wp2_with (go_at_call 138; refine HC.out.mono ?_; rintro e2 w2 ⟨rfl,hb2⟩)
        refine ⟨⟨k + 1,by go_num,by omega,fun j hj hl=>?_,hb.out.trans (hb2.mono hb.out.size)⟩,by simp [intOf]; omega⟩
        rcases Nat.lt_or_ge j k with h | h
        · exact hall.out j h hl
        · obtain rfl:j = k:=by omega
          rw [HY.out]; exact hpy
    · go_wp2
      go_ret
      exact ⟨by rw [idxP_none (fun j hl=>hall.out j (by omega) hl)]; rfl,hb.out⟩
end
section
open Go.RowKit Go.Maps

def keepP (p:Int→Bool) (xs:List Int):List Int:=xs.filter fun x=>!p x

theorem keepP_snoc {p:Int→Bool} {xs:List Int} {j:Nat} (hj:j < xs.length):keepP p (xs.take (j + 1)) = keepP p (xs.take j) ++ (if p xs[j] = true then [] else [xs[j]]):=by
  unfold keepP
  rw [List.take_succ_eq_append_getElem hj,List.filter_append]
  cases h:p xs[j] <;> simp [h]
theorem idxP_some {p:Int→Bool} {xs:List Int} (h:idxP p xs ≠ -1):∃ k,k < xs.length∧idxP p xs = (k:Int)∧keepP p (xs.take (k + 1)) = xs.take k∧∃ x ∈ xs,p x = true:=by
  unfold idxP at h ⊢
  cases hf:xs.findIdx? p with
  | none=>rw [hf] at h; exact absurd rfl h
  | some k =>
    obtain ⟨hk,h2,h1⟩:=List.findIdx?_eq_some_iff_getElem.1 hf
    refine ⟨k,hk,rfl,?_,xs[k],List.getElem_mem hk,h2⟩
    rw [keepP_snoc hk,if_pos h2,List.append_nil]
    unfold keepP
    rw [List.filter_eq_self]
    intro x hx
    obtain ⟨j,hj,rfl⟩:=List.getElem_of_mem hx
    have hj2:j < k:=by simp at hj; omega
    have:=h1 j hj2
    simp at this
    simp [this]
theorem idxP_minus {p:Int→Bool} {xs:List Int} (h:idxP p xs = -1):keepP p xs = xs:=by
  unfold idxP at h
  cases hf:xs.findIdx? p with
  | none =>
    rw [List.findIdx?_eq_none_iff] at hf
    unfold keepP
    rw [List.filter_eq_self]
    intro x hx
    simp [hf x hx]
  | some k =>
    rw [hf] at h
    have h2:(k:Int) = -1:=h
    omega

structure DelAt (p:Int→Bool) (xs R:List Int) (i j:Nat):Prop where
  le:i < j
  len:R.length = xs.length
  bound:j≤xs.length
  kept:R.take i = keepP p (xs.take j)
  rest:R.drop j = xs.drop j
theorem DelAt.keep {p:Int→Bool} {xs R:List Int} {i j:Nat} (h:DelAt p xs R i j) (hj:j < xs.length) (hp:p xs[j] = false):DelAt p xs (R.set i xs[j]) (i + 1) (j + 1):=by
  refine ⟨by have:=h.le; omega,by rw [List.length_set]; exact h.len,hj,?_,?_⟩
  · rw [keepP_snoc hj,hp,if_neg (by simp),← h.kept,List.take_set,List.take_succ_eq_append_getElem (by rw [h.len]; have:=h.le; omega),List.set_append_right _ _ (by rw [List.length_take]; exact Nat.min_le_left _ _)]
    have:i - (R.take i).length = 0:=by
      rw [List.length_take,h.len]
      have:=h.le
      omega
    rw [this]
    rfl
  · rw [List.drop_set_of_lt (by have:=h.le; omega)]
    have e1:R.drop (j + 1) = (R.drop j).drop 1:=by rw [List.drop_drop]
    have e2:xs.drop (j + 1) = (xs.drop j).drop 1:=by rw [List.drop_drop]
    rw [e1,e2,h.rest]
theorem DelAt.skip {p:Int→Bool} {xs R:List Int} {i j:Nat} (h:DelAt p xs R i j) (hj:j < xs.length) (hp:p xs[j] = true):DelAt p xs R i (j + 1):=by
  refine ⟨by have:=h.le; omega,h.len,hj,?_,?_⟩
  · rw [keepP_snoc hj,if_pos hp,List.append_nil]; exact h.kept
  · have e1:R.drop (j + 1) = (R.drop j).drop 1:=by rw [List.drop_drop]
    have e2:xs.drop (j + 1) = (xs.drop j).drop 1:=by rw [List.drop_drop]
    rw [e1,e2,h.rest]
theorem DelAt.get {p:Int→Bool} {xs R:List Int} {i j:Nat} (h:DelAt p xs R i j) (hj:j < xs.length):R.getD j 0 = xs[j]:=by
  have h1:(R.drop j)[0]? = (xs.drop j)[0]?:=by rw [h.rest]
  rw [List.getElem?_drop,List.getElem?_drop] at h1
  simp only [Nat.add_zero] at h1
  rw [List.getD_eq_getElem?_getD,h1]
  simp [hj]
theorem DelAt.fin {p:Int→Bool} {xs R:List Int} {i:Nat} (h:DelAt p xs R i xs.length):R.take i = keepP p xs∧(keepP p xs).length = i∧i < xs.length:=by
  have h1:=h.kept
  rw [List.take_length] at h1
  have h2:=h.le
  refine ⟨h1,?_,h2⟩
  rw [← h1,List.length_take,h.len]
  omega

theorem Pts.cut {w:World} {g cap:Nat} {R:List Int} (h:Pts w g cap R) {i:Nat} (hi:i < R.length):Pts (w.setCells g i (List.replicate (R.length - i) (.int .i64 0))) g cap (R.take i):=by
  obtain ⟨cur,h1,h2,h3,h4,h5⟩:=h.parts
  refine IRow.of_cells (heap_setCells _ w g i cur 3 h1) (by simp; omega) h3 (by simp [setL_length]; exact h4) ?_
  simp only
  have hl:cur.toList.length = cap:=by simpa using h4
  rw [setL_eq _ _ _ (by simp; omega)]
  have el:(R.take i).length = i:=by simp; omega
  rw [el,List.append_assoc,List.take_append_of_le_length (by simp; omega),List.take_take,Nat.min_self,vals_take,← h5,List.take_take,Nat.min_eq_left (by omega)]

set_option maxHeartbeats 4000000 in
set_option maxRecDepth 20000 in
theorem deleteFunc129_130 (c1:Value) (p:Int→Bool) (v:Value) (xs:List Int) (w:World) (hr:IRow w v xs) (hl:xs.length≤1000)
    (hp:∀ W x,Kept (fun k=>v.ownBlock = some k) w W→Calls Tryz.prog 137 #[.int .i64 x,c1] W fun e W'=>e = .returned (.bool (p x))∧Below W.heap.size W W') :
    Calls Tryz.prog 136 #[v,.func (.func 137) #[] #[c1]] w fun ev w'=>∃ v',ev = .returned v'∧IRow w' v' (keepP p xs)∧v'.ownBlock = v.ownBlock∧Kept (fun k=>v.ownBlock = some k) w w':=by
  obtain ⟨a,cap,rfl,ha⟩:=IRow_slice hr
  have hix:=indexFunc153_130 c1 p _ xs w hr hl (fun W x hb=>hp W x (Kept.of_below _ hb))
  have HR:=hide hr
  have HP:=hide hp
  clear hr hp
  by_cases hm:idxP p xs = -1
  · rw [hm] at hix
    have HM:=hide (idxP_minus hm)
    have HIX:=hide hix
    clear hix hm ha
    go_enter Tryz.func136,Tryz.ntmps136
    go_wp2_with (go_at_call 163; refine HIX.out.mono ?_; rintro e2 w2 ⟨rfl,hb2⟩)
    go_ret
    refine ⟨_,rfl,?_,rfl,Kept.of_below _ hb2⟩
    rw [HM.out]
    exact ownsRow_below HR.out hb2
  · obtain ⟨k,hk,ek,hkeep,_⟩:=idxP_some hm
    rw [ek] at hix
    obtain ⟨g,rfl⟩:=ha (by omega)
    have hneg:¬ ((k:Int) = -1):=by omega
    have HIX:=hide hix
    have HK:=hide hkeep
    have hcap:=ownsRow_len HR.out
    clear hix hm ha ek hkeep
    go_enter Tryz.func136,Tryz.ntmps136
    go_wp2_with (go_at_call 163; refine HIX.out.mono ?_; rintro e2 w2 ⟨rfl,hb2⟩; have HB2:=hide hb2; clear hb2)
    go_loopw [5,6,7] (fun i j _ wr=>∃ (i' j':Nat) (R:List Int),i = .int .i64 i'∧j = .int .i64 j'∧Hid (DelAt p xs R i' j')∧Hid (Pts wr g cap R)∧Hid (Kept (fun k=>k = g) w wr)) (fun _ j _ _=>xs.length - (intOf j).toNat)
    case atStart =>
      refine ⟨k,k + 1,xs,rfl,by go_num,⟨by omega,rfl,hk,HK.out.symm,rfl⟩,?_,Kept.of_below _ HB2.out⟩
      exact ownsRow_below HR.out HB2.out
    case round =>
      obtain ⟨i,j,R,rfl,rfl,HD,HPT,HKP⟩:=hrel
      have hRl:R.length = xs.length:=HD.out.len
      have hij:i < j:=HD.out.le
      have hjn:j≤xs.length:=HD.out.bound
      have HRl:=hide hRl
      by_cases hj:j < xs.length
      · have hc:wr.cell? ⟨g,j,none⟩ = some (.int .i64 xs[j]):=by
          have h1:=HPT.out.at (i:=j) (by rw [HRl.out]; exact hj)
          rw [HD.out.get hj] at h1
          exact h1
        have hci:wr.cell? ⟨g,i,none⟩ = some (.int .i64 (R.getD i 0)):=HPT.out.at (i:=i) (by rw [HRl.out]; omega)
        have hstep1:=fun h=>HD.out.keep hj h
        have hstep2:=fun h=>HD.out.skip hj h
        have hcall:=HP.out wr xs[j] (HKP.out.mono (fun k _ e=>by rw [e]; rfl))
        generalize xs[j] = y at hc hstep1 hstep2 hcall
        have HS1:=hide hstep1
        have HS2:=hide hstep2
        clear hstep1 hstep2 hRl
        cases hpy:p y with
        | true =>
          rw [hpy] at hcall
          have HC:=hide hcall
          clear hcall
          go_wp2_with (go_at_call 137; refine HC.out.mono ?_; rintro e3 w3 ⟨rfl,hb3⟩)
          refine ⟨⟨_,_,_,_,_,_,_,_,_,_,_,_,_,_,_,_,_,_,_,_,_,_,_,?_,rfl⟩,by simp [intOf]; omega⟩
          exact ⟨i,j + 1,R,rfl,by go_num,HS2.out hpy,ownsRow_below HPT.out hb3,HKP.out.below hb3⟩
        | false =>
          rw [hpy] at hcall
          have HC:=hide hcall
          clear hcall
          go_wp2_with (go_at_call 137; refine HC.out.mono ?_; rintro e3 w3 ⟨rfl,hb3⟩; have hp3:=ownsRow_below HPT.out hb3; have hci3:=cell_below hci hb3; have hf3:=ownsRow_frozen hp3; have HP3:=hide hp3; have HB3:=hide hb3; clear hp3 hb3)
          refine ⟨⟨_,_,_,_,_,_,_,_,_,_,_,_,_,_,_,_,_,_,_,_,_,_,_,?_,rfl⟩,by simp [intOf]; omega⟩
          exact ⟨i + 1,j + 1,R.set i y,by go_num,by go_num,HS1.out hpy,Pts.set HP3.out i y,(HKP.out.below HB3.out).setG i _⟩
      · obtain rfl:j = xs.length:=by omega
        obtain ⟨f1,f2,f3⟩:=HD.out.fin
        have hiR:i < R.length:=by rw [HRl.out]; exact f3
        have hcut:=Pts.cut HPT.out hiR
        obtain ⟨cur,q1,q2,q3,q4,q5⟩:=HPT.out.parts
        have hclr:=fun ty=>Go.Lib.run_clear_slice (P:=Tryz.prog) wr 32 3 ty (.int .i64 0) Tryz.underlying32 zero3 rfl rfl g i (R.length - i) (cap - i) (by omega) (fun j hj=>by
          rw [cell_of_row wr _ _ _ _ _ q1,Array.getElem?_eq_getElem (by omega)]
          rfl) (fun j _=>cells_frozen q1 _)
        rw [HRl.out] at hclr hcut
        have HF1:=hide f1
        have HF2:=hide f2
        have HCUT:=hide hcut
        have HKC:Hid (Kept (fun k=>k = g) w (wr.setCells g i (List.replicate (xs.length - i) (.int .i64 0)))):=Kept.setCells _ _ _ HKP.out
        clear hRl f1 f2 hcut q1 q2 q3 q4 q5 hiR
        go_wp2
        go_ret
        refine ⟨_,rfl,(?_:IRow _ (.slice (some ⟨g,0,none⟩) i cap) _),rfl,HKC.out.mono (fun k _ e=>by rw [e]; rfl)⟩
        have h9:=HCUT.out
        rw [HF1.out] at h9
        unfold Pts at h9
        rw [HF2.out] at h9
        unfold IRow
        rw [HF2.out]
        exact h9

set_option maxHeartbeats 4000000 in
set_option maxRecDepth 20000 in
theorem deleteFunc129_131 (c1 c2 c3 c4:Value) (p:Int→Bool) (v:Value) (xs:List Int) (w:World) (hr:IRow w v xs) (hl:xs.length≤1000)
    (hp:∀ W,∀ x ∈ xs,Kept (fun k=>v.ownBlock = some k) w W→Calls Tryz.prog 138 #[.int .i64 x,c1,c2,c3,c4] W fun e W'=>e = .returned (.bool (p x))∧Below W.heap.size W W') :
    Calls Tryz.prog 136 #[v,.func (.func 138) #[] #[c1,c2,c3,c4]] w fun ev w'=>∃ v',ev = .returned v'∧IRow w' v' (keepP p xs)∧v'.ownBlock = v.ownBlock∧Kept (fun k=>v.ownBlock = some k) w w':=by
  obtain ⟨a,cap,rfl,ha⟩:=IRow_slice hr
  have hix:=indexFunc153_131 c1 c2 c3 c4 p _ xs w hr hl (fun W x hx hb=>hp W x hx (Kept.of_below _ hb))
  have HR:=hide hr
  have HP:=hide hp
  clear hr hp
  by_cases hm:idxP p xs = -1
  · rw [hm] at hix
    have HM:=hide (idxP_minus hm)
    have HIX:=hide hix
    clear hix hm ha
    go_enter Tryz.func136,Tryz.ntmps136
    go_wp2_with (go_at_call 163; refine HIX.out.mono ?_; rintro e2 w2 ⟨rfl,hb2⟩)
    go_ret
    refine ⟨_,rfl,?_,rfl,Kept.of_below _ hb2⟩
    rw [HM.out]
    exact ownsRow_below HR.out hb2
  · obtain ⟨k,hk,ek,hkeep,_⟩:=idxP_some hm
    rw [ek] at hix
    obtain ⟨g,rfl⟩:=ha (by omega)
    have hneg:¬ ((k:Int) = -1):=by omega
    have HIX:=hide hix
    have HK:=hide hkeep
    have hcap:=ownsRow_len HR.out
    clear hix hm ha ek hkeep
    go_enter Tryz.func136,Tryz.ntmps136
    go_wp2_with (go_at_call 163; refine HIX.out.mono ?_; rintro e2 w2 ⟨rfl,hb2⟩; have HB2:=hide hb2; clear hb2)
    go_loopw [5,6,7] (fun i j _ wr=>∃ (i' j':Nat) (R:List Int),i = .int .i64 i'∧j = .int .i64 j'∧Hid (DelAt p xs R i' j')∧Hid (Pts wr g cap R)∧Hid (Kept (fun k=>k = g) w wr)) (fun _ j _ _=>xs.length - (intOf j).toNat)
    case atStart =>
      refine ⟨k,k + 1,xs,rfl,by go_num,⟨by omega,rfl,hk,HK.out.symm,rfl⟩,?_,Kept.of_below _ HB2.out⟩
      exact ownsRow_below HR.out HB2.out
    case round =>
      obtain ⟨i,j,R,rfl,rfl,HD,HPT,HKP⟩:=hrel
      have hRl:R.length = xs.length:=HD.out.len
      have hij:i < j:=HD.out.le
      have hjn:j≤xs.length:=HD.out.bound
      have HRl:=hide hRl
      by_cases hj:j < xs.length
      · have hc:wr.cell? ⟨g,j,none⟩ = some (.int .i64 xs[j]):=by
          have h1:=HPT.out.at (i:=j) (by rw [HRl.out]; exact hj)
          rw [HD.out.get hj] at h1
          exact h1
        have hci:wr.cell? ⟨g,i,none⟩ = some (.int .i64 (R.getD i 0)):=HPT.out.at (i:=i) (by rw [HRl.out]; omega)
        have hstep1:=fun h=>HD.out.keep hj h
        have hstep2:=fun h=>HD.out.skip hj h
        have hcall:=HP.out wr xs[j] (List.getElem_mem hj) (HKP.out.mono (fun k _ e=>by rw [e]; rfl))
        generalize xs[j] = y at hc hstep1 hstep2 hcall
        have HS1:=hide hstep1
        have HS2:=hide hstep2
        clear hstep1 hstep2 hRl
        cases hpy:p y with
        | true =>
          rw [hpy] at hcall
          have HC:=hide hcall
          clear hcall
          go_wp2_with (go_at_call 138; refine HC.out.mono ?_; rintro e3 w3 ⟨rfl,hb3⟩)
          refine ⟨⟨_,_,_,_,_,_,_,_,_,_,_,_,_,_,_,_,_,_,_,_,_,_,_,?_,rfl⟩,by simp [intOf]; omega⟩
          exact ⟨i,j + 1,R,rfl,by go_num,HS2.out hpy,ownsRow_below HPT.out hb3,HKP.out.below hb3⟩
        | false =>
          rw [hpy] at hcall
          have HC:=hide hcall
          clear hcall
          go_wp2_with (go_at_call 138; refine HC.out.mono ?_; rintro e3 w3 ⟨rfl,hb3⟩; have hp3:=ownsRow_below HPT.out hb3; have hci3:=cell_below hci hb3; have hf3:=ownsRow_frozen hp3; have HP3:=hide hp3; have HB3:=hide hb3; clear hp3 hb3)
          refine ⟨⟨_,_,_,_,_,_,_,_,_,_,_,_,_,_,_,_,_,_,_,_,_,_,_,?_,rfl⟩,by simp [intOf]; omega⟩
          exact ⟨i + 1,j + 1,R.set i y,by go_num,by go_num,HS1.out hpy,Pts.set HP3.out i y,(HKP.out.below HB3.out).setG i _⟩
      · obtain rfl:j = xs.length:=by omega
        obtain ⟨f1,f2,f3⟩:=HD.out.fin
        have hiR:i < R.length:=by rw [HRl.out]; exact f3
        have hcut:=Pts.cut HPT.out hiR
        obtain ⟨cur,q1,q2,q3,q4,q5⟩:=HPT.out.parts
        have hclr:=fun ty=>Go.Lib.run_clear_slice (P:=Tryz.prog) wr 32 3 ty (.int .i64 0) Tryz.underlying32 zero3 rfl rfl g i (R.length - i) (cap - i) (by omega) (fun j hj=>by
          rw [cell_of_row wr _ _ _ _ _ q1,Array.getElem?_eq_getElem (by omega)]
          rfl) (fun j _=>cells_frozen q1 _)
        rw [HRl.out] at hclr hcut
        have HF1:=hide f1
        have HF2:=hide f2
        have HCUT:=hide hcut
        have HKC:Hid (Kept (fun k=>k = g) w (wr.setCells g i (List.replicate (xs.length - i) (.int .i64 0)))):=Kept.setCells _ _ _ HKP.out
        clear hRl f1 f2 hcut q1 q2 q3 q4 q5 hiR
        go_wp2
        go_ret
        refine ⟨_,rfl,(?_:IRow _ (.slice (some ⟨g,0,none⟩) i cap) _),rfl,HKC.out.mono (fun k _ e=>by rw [e]; rfl)⟩
        have h9:=HCUT.out
        rw [HF1.out] at h9
        unfold Pts at h9
        rw [HF2.out] at h9
        unfold IRow
        rw [HF2.out]
        exact h9
end
section
open Go.RowKit Go.Maps

theorem GAt.tight {w:World} {bg:Nat} {F:Nat→Prop} {lev:List (Int × Int)} {lk:Int × Int→List Int} {ch:List Int} (h:GAt w bg F lev lk ch):GAt w bg (fun k=>F k∧k < w.heap.size) lev lk ch:=by
  obtain ⟨bl,bk,cv,Ls,h1,h2,h3,h4⟩:=h
  exact ⟨bl,bk,cv,Ls,h1,h2,fun k hk=>⟨h3 k hk,h1.flt hk⟩,h4⟩
structure LkOk (lk:Int × Int→List Int) (U:List (Int × Int)) (n:Nat):Prop where
  ris:∀ p,Ris (lk p)
  len:∀ p,(lk p).length≤n
  places:∀ p,lk p ≠ []→p ∈ U
  ints:∀ p,∀ x ∈ lk p,I64 x

theorem cutL_sub {lk:Int × Int→List Int} (h:∀ p,Ris (lk p)) (a b l:Int) (p:Int × Int):(∀ x ∈ cutL lk a b l p,x ∈ lk p)∧Ris (cutL lk a b l p)∧(cutL lk a b l p).length≤(lk p).length:=by
  have h1:∀ q,(∀ x ∈ upd lk (a,l) (delS (lk (a,l)) b) q,x ∈ lk q)∧Ris (upd lk (a,l) (delS (lk (a,l)) b) q)∧(upd lk (a,l) (delS (lk (a,l)) b) q).length≤(lk q).length:=fun q=>by
    unfold upd
    split
    · rename_i e
      rw [e]
      exact ⟨fun x hx=>((mem_delS (h _)).1 hx).1,ris_delS (h _),delS_length _ _⟩
    · exact ⟨fun x hx=>hx,h q,Nat.le_refl _⟩
  unfold cutL
  generalize upd lk (a,l) (delS (lk (a,l)) b) = f at h1
  unfold upd
  split
  · rename_i e
    rw [e]
    obtain ⟨q1,q2,q3⟩:=h1 (b,l)
    exact ⟨fun x hx=>q1 x ((mem_delS q2).1 hx).1,ris_delS q2,Nat.le_trans (delS_length _ _) q3⟩
  · exact h1 p
theorem LkOk.cut {lk:Int × Int→List Int} {U:List (Int × Int)} {n:Nat} (h:LkOk lk U n) (a b l:Int):LkOk (cutL lk a b l) U n :=
  ⟨fun p=>(cutL_sub h.ris a b l p).2.1,fun p=>Nat.le_trans (cutL_sub h.ris a b l p).2.2 (h.len p),
    fun p hp=>h.places p (fun e=>hp (by
      have:=(cutL_sub h.ris a b l p).2.2
      rw [e] at this
      exact List.eq_nil_of_length_eq_zero (by simpa using this))),
    fun p x hx=>h.ints p x ((cutL_sub h.ris a b l p).1 x hx)⟩

def cutAll (lk:Int × Int→List Int) (id l:Int) (os:List Int):Int × Int→List Int:=os.foldl (fun f o=>cutL f id o l) lk
theorem LkOk.cutAll {U:List (Int × Int)} {n:Nat} {id l:Int}:∀ {os:List Int} {lk:Int × Int→List Int},LkOk lk U n→LkOk (cutAll lk id l os) U n
  | [],_,h=>h
  | o :: os,_,h=>LkOk.cutAll (os:=os) (h.cut id o l)
theorem cutAll_snoc (lk:Int × Int→List Int) (id l:Int) (os:List Int) (o:Int):cutAll lk id l (os ++ [o]) = cutL (cutAll lk id l os) id o l:=by simp [cutAll]
def leaveF (lk:Int × Int→List Int) (id:Int):Nat→Int × Int→List Int
  | 0=>lk
  | n + 1=>cutAll (leaveF lk id n) id n (leaveF lk id n (id,n))
theorem LkOk.leave {U:List (Int × Int)} {m:Nat} {lk:Int × Int→List Int} {id:Int} (h:LkOk lk U m):∀ n,LkOk (leaveF lk id n) U m
  | 0=>h
  | n + 1=>(LkOk.leave h n).cutAll

theorem I64_small (n:Nat) (h:n≤1000000):I64 (n:Int):=by
  unfold I64
  have h1:IntKind.i64.min = -9223372036854775808:=by decide
  have h2:IntKind.i64.max = 9223372036854775807:=by decide
  simp [Lit.wf,h1,h2]
  omega

set_option maxHeartbeats 1000000 in
theorem leave1_130 (x id:Int) (B:Nat) (w:World) (hc:w.cell? ⟨B,0,none⟩ = some (.int .i64 id)) :
    Calls Tryz.prog 137 #[.int .i64 x,.pointer (some ⟨B,0,none⟩)] w fun e w'=>e = .returned (.bool (decide (x = id)))∧Below w.heap.size w w':=by
  go_enter Tryz.func137,Tryz.ntmps137
  go_wp2
  go_ret
  exact ⟨by simp [BEq.beq],Below.refl _ _⟩

def levDel (id:Int) (lev:List (Int × Int)):List (Int × Int):=lev.filter fun p=>decide (p.1 ≠ id)
theorem delA_levV (id:Int) (lev:List (Int × Int)):delA id (levV lev) = levV (levDel id lev):=by
  unfold delA levV levDel
  rw [List.filter_map]
  rfl

set_option maxHeartbeats 4000000 in
set_option maxRecDepth 20000 in
theorem leave89 (bg:Nat) (F:Nat→Prop) (lev:List (Int × Int)) (lk:Int × Int→List Int) (ch:List Int) (id:Int) (w:World) (h:GAt w bg F lev lk ch) (hid:I64 id) (hch:ch.length≤1000) (U:List (Int × Int)) (hU:U.length≤4000) (hok:LkOk lk U 500)
    (top:Nat) (htop:(levOf lev id).getD (-1) + 1 = (top:Int)) (h10:top≤10) :
    Calls Tryz.prog 93 #[.pointer (some ⟨bg,0,none⟩),.int .i64 id] w fun ev w'=>ev = .returned (.tuple #[]) ∧
      GAt w' bg F (levDel id lev) (leaveF lk id top) (keepP (fun x=>decide (x = id)) ch)∧Kept F w w':=by
  have hA:∀ o,GAt (w.alloc o) bg F lev lk ch:=fun o=>h.below ((Below.refl _ _).alloc (Nat.le_refl _) _)
  have hgA:=(h.tight).below ((Below.refl _ _).alloc (Nat.le_refl _) (.cells #[.int .i64 id] 3))
  have hlv:=level87 bg F lev lk ch id (w.alloc (.cells #[.int .i64 id] 3)) (hA _) hid
  have hmf:∀ (fn:Fn) (first cap:Array Value) (w:World),(Instr.makeFunc fn first cap).run Tryz.prog w = .ok (.func fn first cap) w:=fun _ _ _ _=>rfl
  have hbx:(w.alloc (.cells #[.int .i64 id] 3)).heap[w.heap.size]? = some (.cells #[.int .i64 id] 3 (0,0)):=heap_alloc_new _ _
  have hlt:w.heap.size < (w.alloc (.cells #[.int .i64 id] 3)).heap.size:=by simp
  have hbw:Below w.heap.size w (w.alloc (.cells #[.int .i64 id] 3)):=(Below.refl _ _).alloc (Nat.le_refl _) _
  have hI:∀ n:Nat,n≤10→I64 (n:Int):=fun n hn=>I64_small n (by omega)
  clear h hA
  have HLV:=hide hlv
  have HGA:=hide hgA
  have HOK:=hide hok
  have HBX:=hide hbx
  have HBW:=hide hbw
  have HI:=hide hI
  clear hlv hgA hok hbx hbw hI
  go_enter Tryz.func93,Tryz.ntmps93
  go_wp2_with fail
  generalize w.alloc (.cells #[.int .i64 id] 3) = w1 at HLV HGA HBX HBW hlt ⊢
  refine HLV.out.mono ?_
  rintro e1 w2 ⟨rfl,rfl⟩
  generalize (levOf lev id).getD (-1) = lv at htop
  have cB:=cells_at HBX.out 0 rfl
  have hone:IntKind.i64.wrap (lv + 1) = (top:Int):=by rw [htop,IntKind.wrap_i64]; omega
  have hF0:∀ k,w.heap.size≤k→¬ (F k∧k < w.heap.size):=fun k hk e=>by omega
  have HF0:=hide hF0
  clear HLV hF0
  go_wp2
  go_loopw [4,11] (fun _ i wr=>∃ n:Nat,i = .int .i64 n∧n≤top∧Hid (GAt wr bg (fun k=>F k∧k < w.heap.size) lev (leaveF lk id n) ch)∧Hid (Kept (fun k=>F k∧k < w.heap.size) w1 wr)) (fun _ i _=>top - (intOf i).toNat)
  case atStart=>exact ⟨0,rfl,Nat.zero_le _,HGA.out,Kept.refl _ _⟩
  case round =>
    obtain ⟨n,rfl,hn,HG,HK⟩:=hrel
    have hBr:wr.heap[w.heap.size]? = some (.cells #[.int .i64 id] 3 (0,0)):=(HK.out.block _ hlt (HF0.out _ (Nat.le_refl _))).trans HBX.out
    have cBr:=cells_at hBr 0 rfl
    have HBR:=hide hBr
    clear hBr cB
    by_cases hnt:n < top
    · have hok:=(HOK.out.leave (id:=id) n)
      have hlk:=linked88 bg _ lev (leaveF lk id n) ch id n wr HG.out hid (HI.out n (by omega)) (by have:=hok.len (id,(n:Int)); omega)
      have HOKN:=hide hok
      have HLK:=hide hlk
      clear hok hlk
      go_wp2_with fail
      refine HLK.out.mono ?_
      rintro e3 w3 ⟨v1,rfl,r1,f1,b1,_⟩
      obtain ⟨a1,cap1,rfl,ha1⟩:=IRow_slice r1
      generalize hxs:leaveF lk id n (id,(n:Int)) = xs at r1 ha1 f1 ⊢
      have HXS:=hide hxs
      have hxl:xs.length≤500:=by rw [← hxs]; exact HOKN.out.len _
      have R1:=hide r1
      have F1:Hid (∀ g,(Value.slice a1 xs.length cap1).ownBlock = some g→w.heap.size≤g):=fun g e=>Nat.le_trans (Nat.le_trans (Nat.le_of_lt hlt) HK.out.size) (f1 g e)
      have HA1:=hide ha1
      have HG3:=hide (HG.out.below b1)
      have HK3:=hide (HK.out.below b1)
      have c3:=cell_below cBr b1
      have HZ3:Hid (w.heap.size < w3.heap.size):=Nat.lt_of_lt_of_le hlt HK3.out.size
      have HB3:Hid (w3.heap[w.heap.size]? = some (.cells #[.int .i64 id] 3 (0,0))):=(b1.block _ (heap_lt HBR.out)).trans HBR.out
      clear hxs r1 f1 ha1 b1 HLK cBr
      go_wp2
      go_loopw [6,19] (fun _ j wr2=>∃ m:Nat,j = .int .i64 m∧m≤xs.length∧Hid (GAt wr2 bg (fun k=>F k∧k < w.heap.size) lev (cutAll (leaveF lk id n) id n (xs.take m)) ch)∧Hid (Kept (fun k=>F k∧k < w.heap.size) w3 wr2)) (fun _ j _=>xs.length - (intOf j).toNat)
      case atStart=>exact ⟨0,rfl,Nat.zero_le _,HG3.out,Kept.refl _ _⟩
      case round =>
        obtain ⟨m,rfl,hm,HGm,HKm⟩:=hrel
        have hBm:wr.heap[w.heap.size]? = some (.cells #[.int .i64 id] 3 (0,0)):=(HKm.out.block _ HZ3.out (HF0.out _ (Nat.le_refl _))).trans HB3.out
        have cBm:=cells_at hBm 0 rfl
        clear hBm c3
        by_cases hml:m < xs.length
        · obtain ⟨g,rfl⟩:=HA1.out (by omega)
          have hrm:=ownsRow_kept R1.out HKm.out (fun g' e=>HF0.out g' (F1.out g' e))
          have hc:wr.cell? ⟨g,m,none⟩ = some (.int .i64 xs[m]):=ownsRow_cell hrm (by simp [vals,hml])
          have hio:I64 xs[m]:=HOKN.out.ints (id,(n:Int)) _ (by rw [HXS.out]; exact List.getElem_mem hml)
          have hokm:LkOk (cutAll (leaveF lk id n) id n (xs.take m)) U 500:=HOKN.out.cutAll
          have hcut:=cut128 bg _ lev _ ch id xs[m] n wr HGm.out hid hio (HI.out n (by omega)) U (by omega) hokm.places (fun p=>⟨hokm.ris p,hokm.len p⟩)
          rw [← cutAll_snoc,← List.take_succ_eq_append_getElem hml] at hcut
          generalize xs[m] = o at hc hcut
          have HCUT:=hide hcut
          clear hrm hcut hokm hio
          go_wp2_with (go_at_call 135; refine HCUT.out.mono ?_; rintro e4 w4 ⟨rfl,hg4,hk4⟩)
          exact ⟨⟨m + 1,by go_num,by omega,hg4,HKm.out.trans hk4 (fun _ _ e=>e)⟩,by simp [intOf]; omega⟩
        · go_wp2
          refine ⟨⟨n + 1,by go_num,by omega,?_,HK3.out.trans HKm.out (fun _ _ e=>e)⟩,by simp [intOf]; omega⟩
          have h9:=HGm.out
          rw [List.take_of_length_le (by omega),← HXS.out] at h9
          exact h9
    · obtain rfl:n = top:=by omega
      obtain ⟨bl,bk,cv,Ls,g1,g2,g3,g4⟩:=HG.out
      obtain ⟨w5,hrun,ham,hk5⟩:=(g1.below (Below.refl _ _).drew).lev.drop Tryz.underlying169 id hid
      rw [delA_levV] at ham
      have hrun':(Builtin.delete_ #[169,3] 0 #[.map (some bl),.int .i64 id]).run Tryz.prog wr.drew = .ok (.tuple #[]) w5:=hrun
      have g5:GRaw w5 bg bl bk cv (levDel id lev) Ls ch:=(g1.below (Below.refl _ _).drew).setLev hk5 ham
      have hb5:w5.heap[w.heap.size]? = some (.cells #[.int .i64 id] 3 (0,0)):=(hk5.block _ (heap_lt HBR.out) (g1.lev.not_cells HBR.out)).trans HBR.out
      have HS1:Hid (wr.drew.cell? ⟨bg,0,none⟩ = some (.map (some bl))∧wr.drew.cell? ⟨w.heap.size,0,none⟩ = some (.int .i64 id)):=⟨g1.c0,cBr⟩
      have HS2:Hid (w5.cell? ⟨bg,0,none⟩ = some (.map (some bl))∧w5.cell? ⟨w.heap.size,0,none⟩ = some (.int .i64 id)):=⟨g5.c0,cells_at hb5 0 rfl⟩
      have HFB:Hid (∀ k,k = bl→F k∧k < w.heap.size):=fun k e=>e ▸ g3 _ (.inr (.inl rfl))
      have HK5:Hid (Kept (fun k=>F k∧k < w.heap.size) w1 w5):=HK.out.drew.trans hk5 (fun k _ e=>HFB.out k e)
      have G5:=hide g5
      have G2:=hide g2
      have G3:=hide g3
      have G4:=hide g4
      have HB5:=hide hb5
      clear g1 g2 g3 g4 g5 hb5 ham hrun hk5 cBr
      go_wp2_with fail
      go_region_held3 (fun wx=>wx.cell? ⟨bg,0,none⟩ = some (.map (some bl))∧wx.cell? ⟨w.heap.size,0,none⟩ = some (.int .i64 id)) ((first | with_reducible exact HS1.out | with_reducible exact HS2.out)) (fail)
      have c2:=G5.out.c2
      have hpr:∀ W x,Kept (fun k=>cv.ownBlock = some k) w5 W→Calls Tryz.prog 137 #[.int .i64 x,.pointer (some ⟨w.heap.size,0,none⟩)] W fun e W'=>e = .returned (.bool (decide (x = id)))∧Below W.heap.size W W':=fun W x hk =>
        leave1_130 x id w.heap.size W (cells_at ((hk.block _ (heap_lt HB5.out) (fun e=>HF0.out _ (Nat.le_refl _) (G3.out _ (.inr (.inr (.inr (.inl e))))))).trans HB5.out) 0 rfl)
      have hdf:=deleteFunc129_130 (.pointer (some ⟨w.heap.size,0,none⟩)) (fun x=>decide (x = id)) cv ch w5 G5.out.chr hch hpr
      have HDF:=hide hdf
      clear hdf hpr
      go_wp2_with (go_at_call 136; refine HDF.out.mono ?_; rintro e6 w6 ⟨v6,rfl,r6,o6,k6⟩; obtain ⟨a6,cap6,hv6,_⟩:=IRow_slice r6; subst hv6; have hb6:w6.heap[bg]? = some (.cells #[.map (some bl),.map (some bk),cv] 190 (0,0)):=(k6.block _ (heap_lt G5.out.blk) (fun e=>(G5.out.c_ne e).1 rfl)).trans G5.out.blk; have d2:=cells_at hb6 2 rfl; have d3:=cells_frozen hb6; have R6:=hide r6; have O6:=hide o6; have K6:=hide k6; have HB6:=hide hb6; clear r6 o6 k6 hb6)
      go_end0
      have hk7:Kept (fun k=>k = bg ∨ cv.ownBlock = some k) w5 (w6.setCell ⟨bg,2,none⟩ (.slice a6 (keepP (fun x=>decide (x = id)) ch).length cap6)):=(K6.out.mono (fun _ _ e=>.inr e)).setCell (fun _=>.inl rfl) _
      have g7:GRaw (w6.setCell ⟨bg,2,none⟩ (.slice a6 (keepP (fun x=>decide (x = id)) ch).length cap6)) bg bl bk (.slice a6 (keepP (fun x=>decide (x = id)) ch).length cap6) (levDel id lev) Ls (keepP (fun x=>decide (x = id)) ch):=by
        refine G5.out.setCh hk7 ?_ ?_ ?_
        · rw [heap_setCell_same _ _ _ _ _ _ HB6.out]; simp
        · refine ownsRow_of_block R6.out fun g' e=>?_
          exact Below.heap_setCell _ _ _ _ ((G5.out.c_ne (by rw [← O6.out]; exact e)).1)
        · intro e he e'
          exact G5.out.sepc e he (by rw [← O6.out]; exact e')
      refine ⟨rfl,⟨bl,bk,_,Ls,g7,G2.out,fun k hk=>?_,G4.out⟩,?_⟩
      · refine (G3.out k ?_).1
        rcases hk with h | h | h | h | h
        · exact .inl h
        · exact .inr (.inl h)
        · exact .inr (.inr (.inl h))
        · exact .inr (.inr (.inr (.inl (by rw [← O6.out]; exact h))))
        · exact .inr (.inr (.inr (.inr h)))
      · have hk8:Kept (fun k=>F k∧k < w.heap.size) w1 (w6.setCell ⟨bg,2,none⟩ (.slice a6 (keepP (fun x=>decide (x = id)) ch).length cap6)):=HK5.out.trans hk7 (fun k _ e=>e.elim (fun e=>e ▸ G3.out _ (.inl rfl)) (fun e=>G3.out _ (.inr (.inr (.inr (.inl e))))))
        exact (Kept.of_below F HBW.out).trans hk8 (fun k _ e=>e.1)
end
end Go.Proofs.YtpkiefjanmfgfaaGreatDoor
