import Derived.Maps.Views
import Derived.DeepKeys4
import Derived.Ground.Names2Prog
import Derived.Ground.NamesProg
import Derived.Test.YtpkiefjanmfgfaaGreatDoorRows
import Derived.Shelf.Slices.SearchI
import Derived.Shelf.Slices.Cells
import Derived.Shelf.Slices.Empties
import Derived.Shelf.Bits.Mul64
import Derived.Shelf.Spec.SlicesInsertGrow
import Derived.Deep.RegionLaw
import Derived.Deep.RegionWith
import Derived.BigRegion
import Derived.Test.YtpkiefjanmfgfaaGreatDoorAll01
import Derived.Test.YtpkiefjanmfgfaaGreatDoorAll02
namespace Go.Proofs.YtpkiefjanmfgfaaGreatDoor
open Go.RowKit Go.Maps

structure KeyT (K:TypeId) (α:Type) where
  enc:α→Value
  lit:α→Lit
  ok:α→Prop
  keyed:Keyed Tryz.prog K
  key:∀ {a:α},ok a→keyOf Tryz.prog K (enc a) = some (lit a)
  inj:∀ {a b:α},ok a→ok b→lit a = lit b→a = b

section
variable {α:Type} [DecidableEq α]
def getA (a:α) (L:List (α × Value)):Option Value:=(L.find? fun p=>decide (p.1 = a)).map (·.2)
def delA (a:α) (L:List (α × Value)):List (α × Value):=L.filter fun p=>decide (p.1 ≠ a)
def putA (a:α) (v:Value) (L:List (α × Value)):List (α × Value):=(a,v) :: delA a L
def keysA (L:List (α × Value)):List α:=L.map (·.1)

theorem getA_cons (a b:α) (v:Value) (L:List (α × Value)):getA a ((b,v) :: L) = if b = a then some v else getA a L:=by
  unfold getA
  rw [List.find?_cons]
  by_cases h:b = a <;> simp [h]
theorem getA_delA_same (a:α) (L:List (α × Value)):getA a (delA a L) = none:=by
  unfold getA
  rw [List.find?_eq_none.2]
  · rfl
  · intro p hp
    have:=(List.mem_filter.1 hp).2
    simpa using this
theorem getA_delA_other {a b:α} (h:b ≠ a):∀ L:List (α × Value),getA b (delA a L) = getA b L
  | []=>rfl
  | (c,v) :: L=>by
    unfold delA
    rw [List.filter_cons]
    by_cases hc:c = a
    · subst hc
      simp only [ne_eq,not_true_eq_false,decide_false,Bool.false_eq_true,if_false]
      rw [getA_cons,if_neg (fun e=>h e.symm)]
      exact getA_delA_other h L
    · simp only [ne_eq,hc,not_false_eq_true,decide_true,if_true]
      rw [getA_cons,getA_cons]
      split
      · rfl
      · exact getA_delA_other h L
theorem getA_none_iff {a:α} {L:List (α × Value)}:getA a L = none ↔ a ∉ keysA L:=by
  unfold getA keysA
  simp only [Option.map_eq_none_iff,List.find?_eq_none,List.mem_map,not_exists,not_and]
  exact ⟨fun h p hp e=>by have:=h p hp; simp [e] at this,fun h p hp=>by simpa using h p hp⟩
theorem keysA_delA (a:α) (L:List (α × Value)):keysA (delA a L) = (keysA L).filter fun b=>decide (b ≠ a):=by
  unfold keysA delA
  rw [List.filter_map]
  rfl
theorem nodup_delA {a:α} {L:List (α × Value)} (h:(keysA L).Nodup):(keysA (delA a L)).Nodup:=by rw [keysA_delA]; exact h.filter _
theorem nodup_putA {a:α} {v:Value} {L:List (α × Value)} (h:(keysA L).Nodup):(keysA (putA a v L)).Nodup:=by
  unfold putA
  show (a :: keysA (delA a L)).Nodup
  rw [List.nodup_cons]
  refine ⟨?_,nodup_delA h⟩
  rw [keysA_delA]
  simp
theorem length_delA {a:α}:∀ {L:List (α × Value)},(keysA L).Nodup→(delA a L).length + (if (getA a L).isSome = true then 1 else 0) = L.length
  | [],_=>rfl
  | (b,u) :: L,hn=>by
    unfold keysA at hn
    rw [List.map_cons,List.nodup_cons] at hn
    have ih:=length_delA (a:=a) (L:=L) hn.2
    rw [getA_cons]
    unfold delA at ih ⊢
    rw [List.filter_cons]
    by_cases hb:b = a
    · subst hb
      have:getA b L = none:=getA_none_iff.2 hn.1
      rw [this] at ih
      simp at ih ⊢
      omega
    · simp [hb] at ih ⊢
      omega
end

section
variable {K:TypeId} {α:Type} [DecidableEq α] (E:KeyT K α)

structure AMap (w:World) (b:Nat) (L:List (α × Value)):Prop where
  own:∃ D:DataW Value,w.ownsMap Tryz.prog K asIs b L.length D∧Maps.size D = L.length∧Maps.Tidy D∧∀ a,E.ok a→∀ z,D.atKey (E.lit a) z = ((getA a L).map DataW.held).getD z
  nodup:(keysA L).Nodup

variable {E} {w w':World} {b:Nat} {L:List (α × Value)}

theorem AMap.lt (h:AMap E w b L):b < w.heap.size:=by
  obtain ⟨D,h1,_⟩:=h.own
  exact h1.lt
theorem AMap.obj (h:AMap E w b L):∃ es clock,w.heap[b]? = some (.map es clock):=by
  obtain ⟨D,⟨es,clock,h1,_⟩,_⟩:=h.own
  exact ⟨es,clock,h1⟩
theorem AMap.of_block (h:AMap E w b L) (hb:w'.heap[b]? = w.heap[b]?):AMap E w' b L:=by
  obtain ⟨D,⟨es,clock,h1,h2⟩,h3⟩:=h.own
  exact ⟨⟨D,⟨es,clock,hb.trans h1,h2⟩,h3⟩,h.nodup⟩
theorem AMap.kept {S:Nat→Prop} (h:AMap E w b L) (hk:Kept S w w') (hn:¬ S b):AMap E w' b L:=h.of_block (hk.block _ h.lt hn)
theorem AMap.below (h:AMap E w b L) (hk:Below w.heap.size w w'):AMap E w' b L:=h.of_block (hk.block _ h.lt)
theorem AMap.not_cells (h:AMap E w b L) {g:Nat} {cs:Array Value} {t:TypeId} {f:Nat × Nat} (hg:w.heap[g]? = some (.cells cs t f)):g ≠ b:=by
  intro e; subst e
  obtain ⟨es,c,hb⟩:=h.obj
  rw [hb] at hg
  cases hg

theorem AMap.made (w:World):AMap E (w.alloc (.map #[] 0)) w.heap.size [] :=
  ⟨⟨.map [],World.ownsMap_made w _ _ _,rfl,⟨[],rfl,List.Pairwise.nil⟩,fun _ _ _=>rfl⟩,List.nodup_nil⟩

theorem has_of_at {D:DataW Value} {l:Lit} {o:Option Value} (h:∀ z,D.atKey l z = (o.map DataW.held).getD z):Maps.has D l = o.isSome:=by
  cases o with
  | none=>exact Maps.has_false_of_atKey h
  | some v=>exact Maps.has_true_of_atKey h

theorem AMap.look {t e:TypeId} (h:AMap E w b L) (ht:Tryz.prog.underlying t = some (.map K e)) {z:Value} (hz:(zeroValue e).run Tryz.prog w = .ok z w) (a:α) (ha:E.ok a) :
    (Instr.lookup t (.map (some b)) (E.enc a) false).run Tryz.prog w = .ok ((getA a L).getD z) w:=by
  obtain ⟨D,h1,_,_,h4⟩:=h.own
  obtain ⟨v,ps,hrun,hv⟩:=h1.lookup E.keyed ht hz (zd:=.held z) (zp:=[]) rfl (E.key ha)
  rw [h4 a ha] at hv
  simp only [asIs,Option.some.injEq,Prod.mk.injEq] at hv
  rw [hrun]
  cases hg:getA a L with
  | none=>rw [hg] at hv; rw [DataW.held.inj hv.1]; rfl
  | some u=>rw [hg] at hv; rw [DataW.held.inj hv.1]; rfl

theorem AMap.look_ok {t e:TypeId} (h:AMap E w b L) (ht:Tryz.prog.underlying t = some (.map K e)) {z:Value} (hz:(zeroValue e).run Tryz.prog w = .ok z w) (a:α) (ha:E.ok a) :
    (Instr.lookup t (.map (some b)) (E.enc a) true).run Tryz.prog w = .ok (.tuple #[(getA a L).getD z,.bool (getA a L).isSome]) w:=by
  obtain ⟨D,h1,_,_,h4⟩:=h.own
  obtain ⟨v,ps,hrun,hv⟩:=h1.look_ok E.keyed ht hz (zd:=.held z) (zp:=[]) rfl (E.key ha)
  rw [has_of_at (h4 a ha)] at hrun
  rw [h4 a ha] at hv
  simp only [asIs,Option.some.injEq,Prod.mk.injEq] at hv
  rw [hrun]
  cases hg:getA a L with
  | none=>rw [hg] at hv; rw [DataW.held.inj hv.1]; rfl
  | some u=>rw [hg] at hv; rw [DataW.held.inj hv.1]; rfl

theorem AMap.len {t e:TypeId} (h:AMap E w b L) (ht:Tryz.prog.underlying t = some (.map K e)):(Builtin.len_ #[t] 3 #[.map (some b)]).run Tryz.prog w = .ok (.int .i64 L.length) w:=by
  obtain ⟨D,h1,h2,_⟩:=h.own
  rw [h1.len ht 3,h2]

theorem own_exact {P:Program} {k:TypeId} {R:Value→Option (DataW Value × List MemPlace)} {n:Nat} {D:DataW Value} (h:w.ownsMap P k R b n D) (hT:Maps.Tidy D):w.ownsMap P k R b (Maps.size D) D:=by
  obtain ⟨es,rfl,_⟩:=hT
  exact ownsMap_exact h

theorem AMap.put {t e:TypeId} (h:AMap E w b L) (ht:Tryz.prog.underlying t = some (.map K e)) (hn:L.length < maxLen) (a:α) (ha:E.ok a) (v:Value) :
    ∃ w',(Instr.mapUpdate t (.map (some b)) (E.enc a) v).run Tryz.prog w = .ok () w'∧AMap E w' b (putA a v L)∧Kept (fun k=>k = b) w w':=by
  obtain ⟨D,h1,h2,h3,h4⟩:=h.own
  obtain ⟨w',hrun,hown,hg⟩:=h1.update E.keyed ht hn (d:=.held v) (ps:=[]) (E.key ha) rfl
  have hk:WideAt.IsKeyLit (E.lit a):=E.keyed.key (E.key ha)
  have hT:=h3.put hk (.held v)
  have hsz:Maps.size (D.put (E.lit a) (.held v)) = (putA a v L).length:=by
    rw [Maps.size_put h3,has_of_at (h4 a ha),h2]
    have:=length_delA (a:=a) h.nodup
    unfold putA
    rw [List.length_cons]
    split <;> simp_all <;> omega
  refine ⟨w',hrun,⟨⟨_,?_,hsz,hT,fun c hc z=>?_⟩,nodup_putA h.nodup⟩,(Kept.refl _ w).grown hg (fun k e _=>(Option.some.inj e).symm)⟩
  · rw [← hsz]; exact own_exact hown hT
  · unfold putA
    rw [getA_cons]
    by_cases e:a = c
    · subst e
      rw [Maps.atKey_put_same ⟨_,h3.choose_spec.1⟩ hk]
      simp
    · rw [if_neg e,getA_delA_other (fun e'=>e e'.symm),Maps.atKey_put_other (fun e'=>e (E.inj hc ha e').symm),h4 c hc]

theorem AMap.drop {t e:TypeId} (h:AMap E w b L) (ht:Tryz.prog.underlying t = some (.map K e)) (a:α) (ha:E.ok a) :
    ∃ w',(Builtin.delete_ #[t,K] 0 #[.map (some b),E.enc a]).run Tryz.prog w = .ok (.tuple #[]) w'∧AMap E w' b (delA a L)∧Kept (fun k=>k = b) w w':=by
  obtain ⟨D,h1,h2,h3,h4⟩:=h.own
  obtain ⟨w',hrun,hown,hg⟩:=h1.drop E.keyed ht (E.key ha) 0
  have hT:=h3.del (E.lit a)
  have hsz:Maps.size (D.del (E.lit a)) = (delA a L).length:=by
    have e1:=Maps.size_del (k:=E.lit a) h3
    rw [has_of_at (h4 a ha),h2] at e1
    have e2:=length_delA (a:=a) h.nodup
    omega
  refine ⟨w',hrun,⟨⟨_,?_,hsz,hT,fun c hc z=>?_⟩,nodup_delA h.nodup⟩,(Kept.refl _ w).grown hg.grown (fun k e _=>(Option.some.inj e).symm)⟩
  · rw [← hsz]; exact own_exact hown hT
  · by_cases e:c = a
    · subst e
      rw [getA_delA_same,Maps.atKey_del_same]; rfl
    · rw [getA_delA_other e,Maps.atKey_del_other (fun e'=>e (E.inj hc ha e')),h4 c hc]
end

def intKey:KeyT 3 Int where
  enc:=Value.int .i64
  lit:=Lit.int .i64
  ok:=I64
  keyed:=key3
  key:=fun h=>keyOf_int_mk Tryz.underlying3 h
  inj:=fun _ _ h=>by simpa using h

theorem laidOut:laidOutB Tryz.prog = true:=by kernel_rfl
theorem row211:(218:TypeId) < Tryz.prog.types.size:=of_decide_eq_true (by kernel_rfl)
theorem law211:Go.WideMaps.KeyLaw Tryz.prog 218:=deep_law_laid laidOut (m:=2) (by omega) row211 (by kernel_rfl) (by kernel_rfl)
theorem cells211:Tryz.prog.cellsOf 218 = 2:=by kernel_rfl
theorem keyType211:Tryz.prog.keyType 218 = true:=by kernel_rfl
def placeV (p:Int × Int):Value:=.agg #[.int .i64 p.1,.int .i64 p.2]
theorem cells3:Tryz.prog.cellsOf 3 = 1:=by kernel_rfl
theorem tsize:Tryz.prog.types.size + 1 = 312 + 2:=by kernel_rfl
theorem keyLits211 (n:Nat) (a b:Int) (ha:I64 a) (hb:I64 b):Tryz.prog.keyLits (n + 2) 218 [.int .i64 a,.int .i64 b] = some [.int .i64 a,.int .i64 b]:=by
  unfold I64 at ha hb
  simp [Program.keyLits,Tryz.underlying218,cells211,Tryz.underlying3,cells3,ha,hb]
theorem keyOf211 (p:Int × Int) (h:I64 p.1∧I64 p.2):keyOf Tryz.prog 218 (placeV p) = some (.string (keyBytes [.int .i64 p.1,.int .i64 p.2])):=by
  have hf:(placeV p).formed Tryz.prog 218 = true:=by simp [placeV,Value.formed,Tryz.underlying218,cells211]
  have hl:=keyLits211 312 p.1 p.2 h.1 h.2
  rw [← tsize] at hl
  have hc:(placeV p).cells.toList = [.int .i64 p.1,.int .i64 p.2]:=rfl
  unfold keyOf
  rw [hf,keyType211,hc,hl,Tryz.underlying218]
  rfl
def placeKey:KeyT 218 (Int × Int) where
  enc:=placeV
  lit:=fun p=>.string (keyBytes [.int .i64 p.1,.int .i64 p.2])
  ok:=fun p=>I64 p.1∧I64 p.2
  keyed:=Keyed.of_law law211
  key:=fun h=>keyOf211 _ h
  inj:=fun {a b} ha hb h=>by
    have h1:=keyOf211 a ha
    have h2:=keyOf211 b hb
    rw [← h] at h2
    have:=(Keyed.of_law law211).inj h1 h2
    unfold placeV at this
    simp at this
    exact Prod.ext this.1 this.2
end Go.Proofs.YtpkiefjanmfgfaaGreatDoor
namespace Go.Proofs
open Go.Shelf
def Tryz.lays25_ren:Go.Shelf.Ren:=⟨fun | 25=>176 | 31=>186 | 32=>191 | 37=>179 | n=>n,fun | 22=>32 | 3=>3 | 4=>4 | 40=>224 | 0=>0 | n=>n,fun | n=>n⟩
theorem Tryz.lays25:Go.Proofs.Lays2.n25 Tryz.prog Tryz.lays25_ren:={
  mixed:=by kernel_rfl
  f25:=Tryz.func176.trans (congrArg some (by kernel_rfl))
  f31:=Tryz.func186.trans (congrArg some (by kernel_rfl))
  f32:=Tryz.func191.trans (congrArg some (by kernel_rfl))
  f37:=Tryz.func179.trans (congrArg some (by kernel_rfl))
  t0:=Tryz.underlying0
  a0:=Tryz.isAgg0
  z0:=Tryz.sizeOf0
  v0:=Tryz.zeroValue0
  t3:=Tryz.underlying3
  a3:=Tryz.isAgg3
  z3:=Tryz.sizeOf3
  v3:=Tryz.zeroValue3
  t4:=Tryz.underlying4
  a4:=Tryz.isAgg4
  z4:=Tryz.sizeOf4
  v4:=Tryz.zeroValue4
  t22:=Tryz.underlying32
  a22:=Tryz.isAgg32
  z22:=Tryz.sizeOf32
  v22:=Tryz.zeroValue32
  t40:=Tryz.underlying224
  a40:=Tryz.isAgg224
  z40:=Tryz.sizeOf224
  v40:=Tryz.zeroValue224 }
def Tryz.lays23_ren:Go.Shelf.Ren:=⟨fun | 23=>177 | n=>n,fun | 22=>32 | 3=>3 | 4=>4 | 0=>0 | n=>n,fun | n=>n⟩
theorem Tryz.lays23:Go.Proofs.Lays2.n23 Tryz.prog Tryz.lays23_ren:={
  mixed:=by kernel_rfl
  f23:=Tryz.func177.trans (congrArg some (by kernel_rfl))
  t0:=Tryz.underlying0
  a0:=Tryz.isAgg0
  z0:=Tryz.sizeOf0
  v0:=Tryz.zeroValue0
  t3:=Tryz.underlying3
  a3:=Tryz.isAgg3
  z3:=Tryz.sizeOf3
  v3:=Tryz.zeroValue3
  t4:=Tryz.underlying4
  a4:=Tryz.isAgg4
  z4:=Tryz.sizeOf4
  v4:=Tryz.zeroValue4
  t22:=Tryz.underlying32
  a22:=Tryz.isAgg32
  z22:=Tryz.sizeOf32
  v22:=Tryz.zeroValue32
  i3:=by kernel_rfl }
def Tryz.lays21_ren:Go.Shelf.Ren:=⟨fun | 21=>178 | 27=>192 | 28=>193 | 35=>199 | 39=>201 | n=>n,fun | 22=>32 | 3=>3 | 4=>4 | 0=>0 | n=>n,fun | n=>n⟩
theorem Tryz.lays21:Go.Proofs.Lays2.n21 Tryz.prog Tryz.lays21_ren:={
  mixed:=by kernel_rfl
  f21:=Tryz.func178.trans (congrArg some (by kernel_rfl))
  f27:=Tryz.func192.trans (congrArg some (by kernel_rfl))
  f28:=Tryz.func193.trans (congrArg some (by kernel_rfl))
  f35:=Tryz.func199.trans (congrArg some (by kernel_rfl))
  f39:=Tryz.func201.trans (congrArg some (by kernel_rfl))
  t0:=Tryz.underlying0
  a0:=Tryz.isAgg0
  z0:=Tryz.sizeOf0
  v0:=Tryz.zeroValue0
  t3:=Tryz.underlying3
  a3:=Tryz.isAgg3
  z3:=Tryz.sizeOf3
  v3:=Tryz.zeroValue3
  t4:=Tryz.underlying4
  a4:=Tryz.isAgg4
  z4:=Tryz.sizeOf4
  v4:=Tryz.zeroValue4
  t22:=Tryz.underlying32
  a22:=Tryz.isAgg32
  z22:=Tryz.sizeOf32
  v22:=Tryz.zeroValue32
  i3:=by kernel_rfl }
def Tryz.lays264_ren:Go.Shelf.Ren:=⟨fun | 264=>98 | n=>n,fun | 53=>44 | 46=>224 | n=>n,fun | n=>n⟩
theorem Tryz.lays264:Go.Proofs.Lays.n264 Tryz.prog Tryz.lays264_ren:={
  mixed:=by kernel_rfl
  f264:=Tryz.func98.trans (congrArg some (by kernel_rfl))
  t46:=Tryz.underlying224
  a46:=Tryz.isAgg224
  z46:=Tryz.sizeOf224
  v46:=Tryz.zeroValue224
  t53:=Tryz.underlying44
  a53:=Tryz.isAgg44
  z53:=Tryz.sizeOf44
  v53:=Tryz.zeroValue44 }
end Go.Proofs
namespace Go.Proofs.YtpkiefjanmfgfaaGreatDoor
section
open Go.RowKit Go.Shelf

def setL:List Value→Nat→List Value→List Value
  | cur,_,[]=>cur
  | cur,o,v :: r=>setL (cur.set o v) (o + 1) r
theorem setL_eq:∀ (vs cur:List Value) (o:Nat),o + vs.length≤cur.length→setL cur o vs = cur.take o ++ vs ++ cur.drop (o + vs.length)
  | [],cur,o,_=>by simp [setL]
  | v :: r,cur,o,h=>by
    simp only [List.length_cons] at h
    unfold setL
    rw [setL_eq r (cur.set o v) (o + 1) (by simp; omega)]
    have h1:(cur.set o v).take (o + 1) = cur.take o ++ [v]:=by
      rw [List.take_set,List.take_succ_eq_append_getElem (by omega)]
      rw [List.set_append_right _ _ (by simp; omega)]
      simp [Nat.min_eq_left (show o≤cur.length by omega)]
    have h2:(cur.set o v).drop (o + 1 + r.length) = cur.drop (o + (r.length + 1)):=by
      rw [List.drop_set_of_lt (by omega)]
      congr 1
      omega
    rw [h1,h2]
    simp
theorem setL_length:∀ (vs cur:List Value) (o:Nat),(setL cur o vs).length = cur.length
  | [],_,_=>rfl
  | v :: r,cur,o=>by unfold setL; rw [setL_length]; simp

theorem heap_setCells:∀ (vs:List Value) (w:World) (g o:Nat) (cur:Array Value) (t:TypeId),w.heap[g]? = some (.cells cur t (0,0))→(w.setCells g o vs).heap[g]? = some (.cells (setL cur.toList o vs).toArray t (0,0))
  | [],w,g,o,cur,t,h=>by simpa [World.setCells,setL] using h
  | v :: r,w,g,o,cur,t,h=>by
    have h1:=heap_setCell_same w g o cur t v h
    have h2:=heap_setCells r (w.setCell ⟨g,o,none⟩ v) g (o + 1) _ t h1
    simpa [World.setCells,setL] using h2
theorem Kept.setCells {a:World} {g:Nat}:∀ (vs:List Value) (w:World) (o:Nat),Kept (fun k=>k = g) a w→Kept (fun k=>k = g) a (w.setCells g o vs)
  | [],_,_,h=>h
  | v :: r,_,_,h=>Kept.setCells r _ _ (h.setG _ v)

abbrev IRow (w:World) (v:Value) (xs:List Int):Prop:=w.ownsRow 0 3 1 v xs.length (vals xs)

theorem IRow.of_cells {w:World} {g cap:Nat} {cur:Array Value} {xs:List Int} (h:w.heap[g]? = some (.cells cur 3 (0,0))) (h1:xs.length≤cap) (h2:cap≤maxLen) (h3:cur.size = cap) (h4:cur.toList.take xs.length = vals xs):Pts w g cap xs :=
  ⟨by simp,.inr ⟨g,cap,cur,rfl,Nat.zero_le _,h,h1,h2,by omega,by simpa [vals] using h4⟩⟩
theorem Pts.parts {w:World} {g cap:Nat} {xs:List Int} (h:Pts w g cap xs):∃ cur:Array Value,w.heap[g]? = some (.cells cur 3 (0,0))∧xs.length≤cap∧cap≤maxLen∧cur.size = cap∧cur.toList.take xs.length = vals xs:=by
  obtain ⟨cur,_,h2,h3,h4,h5,h6⟩:=ownsRow_parts h
  exact ⟨cur,h2,h3,h4,by omega,by simpa [vals] using h6⟩
theorem vals_take (xs:List Int) (k:Nat):vals (xs.take k) = (vals xs).take k:=by simp [vals,List.map_take]
theorem vals_drop (xs:List Int) (k:Nat):vals (xs.drop k) = (vals xs).drop k:=by simp [vals,List.map_drop]
theorem vals_append (xs ys:List Int):vals (xs ++ ys) = vals xs ++ vals ys:=by simp [vals]

def insAt (xs:List Int) (i:Nat) (x:Int):List Int:=xs.take i ++ x :: xs.drop i
theorem insAt_length (xs:List Int) (i:Nat) (x:Int):(insAt xs i x).length = xs.length + 1:=by
  unfold insAt
  rw [List.length_append,List.length_cons,← Nat.add_assoc,← List.length_append,List.take_append_drop]

theorem zeros_size (n:Nat):(Builtin.zeroCells (Value.int .i64 0).cells n).size = n:=by rw [size_zeroCells]; simp [Value.cells]

theorem grown_row {w:World} {cap:Nat} {ys:List Int} {zs:Array Value} (h1:ys.length≤cap) (h2:cap≤maxLen) (h3:zs.size = cap - ys.length):Pts (w.alloc (.cells ((vals ys).toArray ++ zs) 3)) w.heap.size cap ys:=by
  refine IRow.of_cells (heap_alloc_new _ _) h1 h2 ?_ ?_
  · simp [vals_length,h3]; omega
  · rw [Array.toList_append,List.take_append_of_le_length (by simp [vals_length])]
    rw [List.take_of_length_le (by simp [vals_length])]

theorem take_setL {xs:List Int} {cur:List Value} {i:Nat} {x:Int} (hi:i≤xs.length) (hc:xs.length + 1≤cur.length) (ht:cur.take xs.length = vals xs) :
    (setL (setL cur (i + 1) ((vals xs).drop i)) i [.int .i64 x]).take (xs.length + 1) = vals (insAt xs i x):=by
  have hl:(vals xs).length = xs.length:=vals_length xs
  rw [setL_eq _ _ _ (by rw [setL_length]; simp; omega),setL_eq _ _ _ (by simp [hl]; omega)]
  have e1:cur.take i = (vals xs).take i:=by rw [← ht,List.take_take,Nat.min_eq_left hi]
  have e0:((cur.take (i + 1) ++ (vals xs).drop i) ++ cur.drop (i + 1 + ((vals xs).drop i).length)).take i = (vals xs).take i:=by
    rw [List.append_assoc,List.take_append_of_le_length (by simp; omega),List.take_take,Nat.min_eq_left (by omega),e1]
  have e2:((cur.take (i + 1) ++ (vals xs).drop i) ++ cur.drop (i + 1 + ((vals xs).drop i).length)).drop (i + 1) = (vals xs).drop i ++ cur.drop (i + 1 + ((vals xs).drop i).length):=by
    rw [List.append_assoc,List.drop_append_of_le_length (by simp; omega),List.drop_of_length_le (by simp; omega),List.nil_append]
  simp only [List.length_singleton]
  rw [e0,e2]
  unfold insAt
  rw [vals_append]
  have e3:vals (x :: xs.drop i) = .int .i64 x :: (vals xs).drop i:=by rw [← vals_drop]; rfl
  rw [e3,vals_take,← List.append_assoc,List.take_append_of_le_length (by simp [hl]; omega),List.take_of_length_le (by simp [hl]; omega)]
  simp

theorem take_setL2 {xs:List Int} {A:List Value} {i:Nat} {x:Int} (hi:i < xs.length) (hc:xs.length + 1≤A.length) (ht:A.take i = (vals xs).take i) :
    (setL (setL A i [.int .i64 x]) (i + 1) ((vals xs).drop i)).take (xs.length + 1) = vals (insAt xs i x):=by
  have hl:(vals xs).length = xs.length:=vals_length xs
  rw [setL_eq _ _ _ (by rw [setL_length]; simp [hl]; omega),setL_eq [.int .i64 x] A i (by simp; omega)]
  have e1:(A.take i ++ [Value.int .i64 x] ++ A.drop (i + [Value.int .i64 x].length)).take (i + 1) = (vals xs).take i ++ [Value.int .i64 x]:=by
    rw [List.take_append_of_le_length (by simp; omega),List.take_of_length_le (by simp; omega),ht]
  rw [e1]
  unfold insAt
  rw [vals_append]
  have e3:vals (x :: xs.drop i) = .int .i64 x :: (vals xs).drop i:=by rw [← vals_drop]; rfl
  rw [e3,vals_take,List.take_append_of_le_length (by simp [hl]; omega),List.take_of_length_le (by simp [hl]; omega)]
  simp

theorem insert165 (v:Value) (xs:List Int) (i:Nat) (x:Int) (vb:Nat) (w:World) (hr:IRow w v xs) (hi:i≤xs.length) (hl:xs.length≤1000) (hvb:w.heap[vb]? = some (.cells #[.int .i64 x] 3 (0,0))) (hne:v.ownBlock ≠ some vb) :
    Calls Tryz.prog 178 #[v,.int .i64 i,.slice (some ⟨vb,0,none⟩) 1 1] w fun ev w'=>∃ g' cap',ev = .returned (.slice (some ⟨g',0,none⟩) (insAt xs i x).length cap')∧Pts w' g' cap' (insAt xs i x) ∧
      Kept (fun k=>v.ownBlock = some k) w w'∧(v.ownBlock = some g' ∨ w.heap.size≤g'):=by
  have hvs:∀ j u,([.int .i64 x]:List Value)[j]? = some u→w.cell? ⟨vb,0 + j,none⟩ = some u:=by
    intro j u hu
    cases j with
    | zero=>simp at hu; subst hu; exact cells_at hvb 0 rfl
    | succ j=>simp at hu
  have h1v:∀ u ∈ ([.int .i64 x]:List Value),u.oneCell' = true:=by simp [Value.oneCell']
  have hbig:(xs.length + 1) * 8≤140737488355328:=by omega
  have hgm:∀ c,grownCap w (xs.length + 1) c 3≤maxLen:=fun c=>grownCap_le_maxLen w _ _ _ (by unfold maxLen; omega)
  have e3:Tryz.lays21_ren.t 3 = 3:=rfl
  have hil:(insAt xs i x).length = xs.length + 1:=insAt_length xs i x
  rw [hil]
  rcases hr.2 with ⟨rfl,hz⟩ | ⟨g,cap,cur,rfl,_,hg,hn,hcm,hcs,htk⟩
  · obtain rfl:=List.eq_nil_of_length_eq_zero hz
    obtain rfl:i = 0:=by simpa using hi
    have h:=Any2.slices_Insert_int_end_grow Tryz.lays21 none 0 0 vb 0 1 1 [] [.int .i64 x] w (by omega) (by omega) (by omega) (by omega) rfl rfl (fun _=>rfl) (fun a e=>by cases e) hvs h1v
    rw [e3] at h
    refine h.mono ?_
    rintro ev w' ⟨rfl,rfl⟩
    refine ⟨w.heap.size,_,rfl,?_,Kept.of_below _ ((Below.refl _ _).drew.alloc (Nat.le_refl _) _),.inr (Nat.le_refl _)⟩
    exact grown_row (w:=w.drew) (ys:=insAt [] 0 x) (grownCap_ge w 1 0 3) (hgm 0) (by rw [zeros_size]; rfl)
  · have hcm2:cap≤9223372036854775807:=by unfold maxLen at hcm; omega
    have hcur:cur.toList.length = cap:=by simpa using hcs
    have hxs:∀ j u,(vals xs)[j]? = some u→w.cell? ⟨g,0 + j,none⟩ = some u:=by
      intro j u hu
      rw [Nat.zero_add]
      exact ownsRow_cell (n:=xs.length) (cap:=cap) hr hu
    have hsome:∀ j,j < cap→(w.cell? ⟨g,j,none⟩).isSome = true:=by
      intro j hj
      rw [cell_of_row w _ _ _ _ _ hg,Array.getElem?_eq_getElem (by omega)]
      rfl
    have hfz:∀ j,w.frozen? ⟨g,j,none⟩ = false:=fun j=>cells_frozen hg j
    have htk':cur.toList.take xs.length = vals xs:=by simpa [vals] using htk
    by_cases hroom:xs.length + 1≤cap
    · by_cases hin:i = xs.length
      · subst hin
        have h:=Any2.slices_Insert_int_end_room Tryz.lays21 g 0 xs.length cap vb 0 1 1 [.int .i64 x] w (by omega) hroom hcm2 rfl (fun j hj=>hsome _ (by omega)) (fun j _=>hfz _) hvs h1v
        refine h.mono ?_
        rintro ev w' ⟨rfl,rfl⟩
        refine ⟨g,cap,rfl,?_,(Kept.setCells _ _ _ (Kept.refl _ w)).mono (fun k _ e=>by rw [e]; rfl),.inl rfl⟩
        refine IRow.of_cells (heap_setCells _ w g _ cur 3 hg) (by rw [hil]; exact hroom) hcm (by simp [setL_length]; exact hcs.trans (by omega)) ?_
        rw [hil,Nat.zero_add]
        simp only
        rw [setL_eq _ _ _ (by simp; omega)]
        have:insAt xs xs.length x = xs ++ [x]:=by simp [insAt]
        rw [this,vals_append,htk',List.take_append_of_le_length (by simp [vals_length]),List.take_of_length_le (by simp [vals_length])]
        rfl
      · have h:=Any2.slices_Insert_int_shift Tryz.lays21 g 0 xs.length cap i vb 0 1 1 (vals xs) [.int .i64 x] w (by omega) (by omega) hroom hcm2 (fun e=>hne (by rw [e]; rfl)) (vals_length xs) rfl hxs
          (fun j hj=>hsome _ (by omega)) (fun j _=>hfz _) hvs (vals_one xs) h1v 3 3 1 cur.size (by simp [World.shape?,hvb]) (by simp [World.shape?,hg]) (by omega) (cells_frozen hvb _) (cells_frozen hvb _)
        refine h.mono ?_
        rintro ev w' ⟨rfl,rfl⟩
        refine ⟨g,cap,rfl,?_,(Kept.setCells _ _ _ (Kept.setCells _ _ _ (Kept.refl _ w).drew)).mono (fun k _ e=>by rw [e]; rfl),.inl rfl⟩
        refine IRow.of_cells (heap_setCells _ _ g _ _ 3 (heap_setCells _ w.drew g _ cur 3 hg)) (by rw [hil]; exact hroom) hcm (by simp [setL_length]; exact hcs.trans (by omega)) ?_
        rw [hil,Nat.zero_add,Nat.zero_add]
        exact take_setL hi (by omega) htk'
    · by_cases hin:i = xs.length
      · subst hin
        have h:=Any2.slices_Insert_int_end_grow Tryz.lays21 (some ⟨g,0,none⟩) xs.length cap vb 0 1 1 (vals xs) [.int .i64 x] w (by omega) hn (by omega) hbig (vals_length xs) rfl (fun e=>by cases e)
          (fun a e j u hu=>by cases e; rw [addr_add]; exact hxs j u hu) hvs h1v
        rw [e3] at h
        refine h.mono ?_
        rintro ev w' ⟨rfl,rfl⟩
        refine ⟨w.heap.size,_,rfl,?_,Kept.of_below _ ((Below.refl _ _).drew.alloc (Nat.le_refl _) _),.inr (Nat.le_refl _)⟩
        have e5:insAt xs xs.length x = xs ++ [x]:=by simp [insAt]
        have:=grown_row (w:=w.drew) (cap:=grownCap w (xs.length + 1) cap 3) (ys:=insAt xs xs.length x) (zs:=Builtin.zeroCells (Value.int .i64 0).cells (grownCap w (xs.length + 1) cap 3 - (xs.length + 1))) (by rw [hil]; exact grownCap_ge w _ _ _) (hgm cap) (by rw [zeros_size,hil])
        rw [e5,vals_append] at this
        rw [e5]
        exact this
      · have h:=Any2.slices_Insert_int_grow Tryz.lays21 g 0 xs.length cap i vb 0 1 1 (vals xs) [.int .i64 x] w (by omega) (by omega) hn (by omega) hbig (vals_length xs) rfl hxs hvs (vals_one xs) h1v
        rw [e3] at h
        refine h.mono ?_
        rintro ev w' ⟨rfl,rfl⟩
        refine ⟨w.heap.size,_,rfl,?_,?_,.inr (Nat.le_refl _)⟩
        · have hge:=grownCap_ge w (xs.length + 1) cap 3
          refine IRow.of_cells (heap_setCells _ _ w.heap.size _ _ 3 (heap_setCells _ _ w.heap.size _ _ 3 (heap_alloc_new _ _))) (by rw [hil]; exact hge) (hgm cap) ?_ ?_
          · simp [setL_length,zeros_size,vals_length]
            omega
          · rw [hil]
            simp only
            refine take_setL2 (by omega) ?_ ?_
            · simp [zeros_size,vals_length]; omega
            · rw [Array.toList_append,Array.toList_append,List.append_assoc,List.take_append_of_le_length (by simp [vals_length]; omega)]
              rw [List.take_of_length_le (by simp; omega)]
        · have hb:Below w.heap.size w (w.alloc (.cells (((vals xs).take i).toArray ++ Builtin.zeroCells (Value.int .i64 0).cells (xs.length + 1 - i) ++ Builtin.zeroCells (Value.int .i64 0).cells (grownCap w (xs.length + 1) cap 3 - (xs.length + 1))) 3)).drew:=((Below.refl _ _).alloc (Nat.le_refl _) _).drew
          exact (Kept.setCells _ _ _ (Kept.setCells _ _ _ (Kept.of_below (fun k=>k = w.heap.size) hb)).drew).mono (fun k hk e=>by omega)
end
section
open Go.RowKit Go.Shelf

def cntI (xs:List Int) (x:Int):Nat:=xs.countP (· < x)
theorem cntI_le (xs:List Int) (x:Int):cntI xs x≤xs.length:=List.countP_le_length

theorem search163 (v:Value) (xs:List Int) (x:Int) (w:World) (hr:IRow w v xs) (hl:xs.length≤1000) (hs:xs.Pairwise (·≤·)) :
    Calls Tryz.prog 176 #[v,.int .i64 x] w fun ev w'=>ev = .returned (.tuple #[.int .i64 (cntI xs x:Nat),.bool (decide (x ∈ xs))])∧∃ q,w' = w.drewN q:=by
  rcases hr.2 with ⟨rfl,hz⟩ | ⟨g,cap,cur,rfl,_,hg,hn,hcm,hcs,htk⟩
  · obtain rfl:=List.eq_nil_of_length_eq_zero hz
    have h:=Any.slices_BinarySearch_int_empty Tryz.lays25 none 0 x w
    refine h.mono ?_
    rintro ev w' ⟨rfl,rfl⟩
    exact ⟨by simp [cntI],0,rfl⟩
  · have hc:∀ j,j < xs.length→w.cell? ⟨g,0 + j,none⟩ = some (.int .i64 (xs.getD j 0)):=fun j hj=>by
      rw [Nat.zero_add]
      exact ownsRow_cell (n:=xs.length) (cap:=cap) hr (by simp [vals,List.getD_eq_getElem?_getD,hj])
    have h:=Any.slices_BinarySearch_int Tryz.lays25 g 0 xs.length cap xs x w (Nat.le_refl _) (by omega) hc (by rw [List.take_length]; exact hs)
    rw [List.take_length] at h
    refine h.mono ?_
    rintro ev w' ⟨rfl,q,rfl⟩
    refine ⟨?_,q,rfl⟩
    rw [List.contains_eq_mem]
    rfl

theorem delete164 (g cap:Nat) (xs:List Int) (i:Nat) (w:World) (hr:Pts w g cap xs) (hi:i < xs.length) (hl:xs.length≤1000) :
    Calls Tryz.prog 177 #[.slice (some ⟨g,0,none⟩) xs.length cap,.int .i64 i,.int .i64 ((i:Int) + 1)] w fun ev w'=>ev = .returned (.slice (some ⟨g,0,none⟩) (xs.eraseIdx i).length cap)∧Pts w' g cap (xs.eraseIdx i)∧Kept (fun k=>k = g) w w':=by
  obtain ⟨cur,hg,hn,hcm,hcs,htk⟩:=hr.parts
  have hcm2:cap≤9223372036854775807:=by unfold maxLen at hcm; omega
  have hc:∀ j,j < xs.length→w.cell? ⟨g,0 + j,none⟩ = some (.int .i64 (xs.getD j 0)):=fun j hj=>hr.cell j hj
  have h:=Any.slices_Delete_int_cells Tryz.lays23 g 0 xs.length cap i (i + 1) xs w (Nat.le_refl _) hn hcm2 (by omega) (by omega) hc (fun j _=>cells_frozen hg _)
  have el:(xs.eraseIdx i).length = xs.length - 1:=List.length_eraseIdx_of_lt hi
  have e1:xs.length - (i + 1 - i) = xs.length - 1:=by omega
  have e2:i + 1 - i = 1:=by omega
  rw [List.take_length,e1,e2] at h
  rw [el]
  have hcast:((i + 1:Nat):Int) = (i:Int) + 1:=by omega
  rw [hcast] at h
  refine h.mono ?_
  rintro ev w' ⟨rfl,q,rfl⟩
  refine ⟨rfl,?_,Kept.setCells _ _ _ ((Kept.refl _ w).drewN q)⟩
  have hgq:(w.drewN q).heap[g]? = some (.cells cur 3 (0,0)):=by rw [heap_drewN]; exact hg
  refine IRow.of_cells (heap_setCells _ _ g _ cur 3 hgq) (by rw [el]; omega) hcm (by simp [setL_length]; exact hcs) ?_
  rw [el]
  simp only
  have hlen:(xs.take i ++ xs.drop (i + 1) ++ List.replicate 1 0).length = xs.length:=by simp; omega
  rw [setL_eq _ _ _ (by rw [List.length_map,hlen]; simp; omega)]
  have e5:xs.eraseIdx i = xs.take i ++ xs.drop (i + 1):=List.eraseIdx_eq_take_drop_succ xs i
  rw [e5]
  simp only [List.take_zero,List.nil_append]
  have e6:(xs.take i ++ xs.drop (i + 1)).length = xs.length - 1:=by rw [← e5]; exact el
  rw [List.map_append,List.append_assoc,List.take_append_of_le_length (by rw [List.length_map]; omega),List.take_of_length_le (by rw [List.length_map]; omega)]
  rfl
end
section
open Go.RowKit Go.Maps

structure LEnt where
  pl:Int × Int
  xs:List Int
  g:Nat
  cap:Nat
def LEnt.val (e:LEnt):Value:=.slice (some ⟨e.g,0,none⟩) e.xs.length e.cap
def lpairs (Ls:List LEnt):List ((Int × Int) × Value):=Ls.map fun e=>(e.pl,e.val)
def lfind (p:Int × Int) (Ls:List LEnt):Option LEnt:=Ls.find? fun e=>decide (e.pl = p)
def lkOf (Ls:List LEnt) (p:Int × Int):List Int:=((lfind p Ls).map (·.xs)).getD []
def ldel (p:Int × Int) (Ls:List LEnt):List LEnt:=Ls.filter fun e=>decide (e.pl ≠ p)
def oldv (Ls:List LEnt) (p:Int × Int):Value:=((lfind p Ls).map LEnt.val).getD (.slice none 0 0)
def upd (f:Int × Int→List Int) (p:Int × Int) (l:List Int):Int × Int→List Int:=fun q=>if q = p then l else f q

theorem getA_lpairs (p:Int × Int):∀ Ls:List LEnt,getA p (lpairs Ls) = (lfind p Ls).map LEnt.val
  | []=>rfl
  | e :: Ls=>by
    unfold lpairs lfind
    rw [List.map_cons,getA_cons,List.find?_cons]
    by_cases h:e.pl = p
    · simp [h]
    · simp only [h,if_false,decide_false]
      exact getA_lpairs p Ls
theorem delA_lpairs (p:Int × Int) (Ls:List LEnt):delA p (lpairs Ls) = lpairs (ldel p Ls):=by
  unfold delA lpairs ldel
  rw [List.filter_map]
  rfl
theorem putA_lpairs (p:Int × Int) (e:LEnt) (he:e.pl = p) (Ls:List LEnt):putA p e.val (lpairs Ls) = lpairs (e :: ldel p Ls):=by
  unfold putA
  rw [delA_lpairs]
  unfold lpairs
  rw [List.map_cons,he]
theorem lfind_mem {p:Int × Int} {Ls:List LEnt} {e:LEnt} (h:lfind p Ls = some e):e ∈ Ls∧e.pl = p:=by
  unfold lfind at h
  exact ⟨List.mem_of_find?_eq_some h,by simpa using List.find?_some h⟩
theorem lfind_none {p:Int × Int} {Ls:List LEnt} (h:lfind p Ls = none):∀ e ∈ Ls,e.pl ≠ p:=by
  intro e he
  simpa using List.find?_eq_none.1 h e he
theorem lfind_cons (p:Int × Int) (e:LEnt) (Ls:List LEnt):lfind p (e :: Ls) = if e.pl = p then some e else lfind p Ls:=by
  unfold lfind
  rw [List.find?_cons]
  by_cases h:e.pl = p <;> simp [h]
theorem lfind_ldel_other {p q:Int × Int} (h:q ≠ p):∀ Ls:List LEnt,lfind q (ldel p Ls) = lfind q Ls
  | []=>rfl
  | e :: Ls=>by
    unfold ldel
    rw [List.filter_cons]
    by_cases he:e.pl = p
    · simp only [he,ne_eq,not_true_eq_false,decide_false,Bool.false_eq_true,if_false]
      rw [lfind_cons,if_neg (by rw [he]; exact fun e=>h e.symm)]
      exact lfind_ldel_other h Ls
    · simp only [ne_eq,he,not_false_eq_true,decide_true,if_true]
      rw [lfind_cons,lfind_cons]
      split
      · rfl
      · exact lfind_ldel_other h Ls
theorem lfind_ldel_same (p:Int × Int) (Ls:List LEnt):lfind p (ldel p Ls) = none:=by
  unfold lfind
  rw [List.find?_eq_none]
  intro e he
  have:=(List.mem_filter.1 he).2
  simpa using this
theorem lkOf_put (e:LEnt) (Ls:List LEnt):lkOf (e :: ldel e.pl Ls) = upd (lkOf Ls) e.pl e.xs:=by
  funext q
  unfold lkOf upd
  rw [lfind_cons]
  by_cases h:q = e.pl
  · subst h; simp
  · rw [if_neg (fun e=>h e.symm),if_neg h,lfind_ldel_other h]
theorem lkOf_del (p:Int × Int) (Ls:List LEnt):lkOf (ldel p Ls) = upd (lkOf Ls) p []:=by
  funext q
  unfold lkOf upd
  by_cases h:q = p
  · subst h; rw [lfind_ldel_same]; simp
  · rw [if_neg h,lfind_ldel_other h]

def levV (lev:List (Int × Int)):List (Int × Value):=lev.map fun p=>(p.1,.int .i64 p.2)

theorem nodup_map_inj {α β:Type} {f:α→β}:∀ {l:List α} {a b:α},(l.map f).Nodup→a ∈ l→b ∈ l→f a = f b→a = b
  | x :: l,a,b,hn,ha,hb,he=>by
    rw [List.map_cons,List.nodup_cons] at hn
    rcases List.mem_cons.1 ha with e1 | ha'
    · rcases List.mem_cons.1 hb with e2 | hb'
      · rw [e1,e2]
      · exact absurd (List.mem_map.2 ⟨b,hb',he.symm⟩) (e1 ▸ hn.1)
    · rcases List.mem_cons.1 hb with e2 | hb'
      · exact absurd (List.mem_map.2 ⟨a,ha',he⟩) (e2 ▸ hn.1)
      · exact nodup_map_inj hn.2 ha' hb' he

structure GRaw (w:World) (bg bl bk:Nat) (cv:Value) (lev:List (Int × Int)) (Ls:List LEnt) (ch:List Int):Prop where
  blk:w.heap[bg]? = some (.cells #[.map (some bl),.map (some bk),cv] 190 (0,0))
  lev:AMap intKey w bl (levV lev)
  lnk:AMap placeKey w bk (lpairs Ls)
  row:∀ e ∈ Ls,Pts w e.g e.cap e.xs
  chr:IRow w cv ch
  sepg:(Ls.map (·.g)).Nodup
  sepc:∀ e ∈ Ls,cv.ownBlock ≠ some e.g
  bb:bl ≠ bk

def FullL (Ls:List LEnt):Prop:=∀ e ∈ Ls,e.xs ≠ []
def foot (bg bl bk:Nat) (cv:Value) (Ls:List LEnt) (k:Nat):Prop:=k = bg ∨ k = bl ∨ k = bk ∨ cv.ownBlock = some k ∨ ∃ e ∈ Ls,e.g = k

section
variable {w w':World} {bg bl bk:Nat} {cv:Value} {lev:List (Int × Int)} {Ls:List LEnt} {ch:List Int}
theorem GRaw.c0 (h:GRaw w bg bl bk cv lev Ls ch):w.cell? ⟨bg,0,none⟩ = some (.map (some bl)):=cells_at h.blk 0 rfl
theorem GRaw.c1 (h:GRaw w bg bl bk cv lev Ls ch):w.cell? ⟨bg,1,none⟩ = some (.map (some bk)):=cells_at h.blk 1 rfl
theorem GRaw.c2 (h:GRaw w bg bl bk cv lev Ls ch):w.cell? ⟨bg,2,none⟩ = some cv:=cells_at h.blk 2 rfl
theorem GRaw.glt (h:GRaw w bg bl bk cv lev Ls ch) {e:LEnt} (he:e ∈ Ls):e.g < w.heap.size:=((h.row e he).lt e.g rfl).2
theorem GRaw.clt (h:GRaw w bg bl bk cv lev Ls ch) {g:Nat} (hg:cv.ownBlock = some g):g < w.heap.size:=(h.chr.lt g hg).2
theorem GRaw.flt (h:GRaw w bg bl bk cv lev Ls ch) {k:Nat} (hk:foot bg bl bk cv Ls k):k < w.heap.size:=by
  rcases hk with rfl | rfl | rfl | hk | ⟨e,he,rfl⟩
  · exact heap_lt h.blk
  · exact h.lev.lt
  · exact h.lnk.lt
  · exact h.clt hk
  · exact h.glt he
theorem GRaw.kept {S:Nat→Prop} (h:GRaw w bg bl bk cv lev Ls ch) (hk:Kept S w w') (hs:∀ k,foot bg bl bk cv Ls k→¬ S k):GRaw w' bg bl bk cv lev Ls ch :=
  ⟨(hk.block _ (heap_lt h.blk) (hs _ (.inl rfl))).trans h.blk,h.lev.kept hk (hs _ (.inr (.inl rfl))),h.lnk.kept hk (hs _ (.inr (.inr (.inl rfl)))),
    fun e he=>ownsRow_kept (h.row e he) hk (fun g e'=>by obtain rfl:e.g = g:=by { simpa [Value.ownBlock] using e' }; exact hs _ (.inr (.inr (.inr (.inr ⟨e,he,rfl⟩))))),
    ownsRow_kept h.chr hk (fun g e'=>hs _ (.inr (.inr (.inr (.inl e'))))),h.sepg,h.sepc,h.bb⟩
theorem GRaw.below (h:GRaw w bg bl bk cv lev Ls ch) (hk:Below w.heap.size w w'):GRaw w' bg bl bk cv lev Ls ch :=
  h.kept (Kept.of_below (fun _=>False) hk) (fun _ _ e=>e)
theorem GRaw.g_ne (h:GRaw w bg bl bk cv lev Ls ch) {e:LEnt} (he:e ∈ Ls):e.g ≠ bg∧e.g ≠ bl∧e.g ≠ bk:=by
  obtain ⟨cur,hc⟩:=ownsRow_obj (h.row e he) (g:=e.g) rfl
  refine ⟨fun e'=>?_,h.lev.not_cells hc,h.lnk.not_cells hc⟩
  rw [e',h.blk] at hc
  simp at hc
theorem GRaw.c_ne (h:GRaw w bg bl bk cv lev Ls ch) {g:Nat} (hg:cv.ownBlock = some g):g ≠ bg∧g ≠ bl∧g ≠ bk:=by
  obtain ⟨cur,hc⟩:=ownsRow_obj h.chr hg
  refine ⟨fun e'=>?_,h.lev.not_cells hc,h.lnk.not_cells hc⟩
  rw [e',h.blk] at hc
  simp at hc
theorem GRaw.b_ne (h:GRaw w bg bl bk cv lev Ls ch):bg ≠ bl∧bg ≠ bk:=⟨h.lev.not_cells h.blk,h.lnk.not_cells h.blk⟩
theorem GRaw.old_row (h:GRaw w bg bl bk cv lev Ls ch) (p:Int × Int):IRow w (oldv Ls p) (lkOf Ls p):=by
  unfold oldv lkOf
  cases hf:lfind p Ls with
  | none=>exact ⟨rfl,.inl ⟨rfl,rfl⟩⟩
  | some e=>exact h.row e (lfind_mem hf).1
theorem GRaw.old_own (_h:GRaw w bg bl bk cv lev Ls ch) {p:Int × Int} {k:Nat} (hk:(oldv Ls p).ownBlock = some k):∃ e ∈ Ls,e.pl = p∧e.g = k:=by
  unfold oldv at hk
  cases hf:lfind p Ls with
  | none=>rw [hf] at hk; simp [Value.ownBlock] at hk
  | some e =>
    rw [hf] at hk
    exact ⟨e,(lfind_mem hf).1,(lfind_mem hf).2,by simpa [LEnt.val,Value.ownBlock] using hk⟩
theorem GRaw.lfind_self (h:GRaw w bg bl bk cv lev Ls ch) {e:LEnt} (he:e ∈ Ls):lfind e.pl Ls = some e:=by
  have hn:=h.lnk.nodup
  unfold keysA lpairs at hn
  rw [List.map_map] at hn
  cases hf:lfind e.pl Ls with
  | none=>exact absurd rfl (lfind_none hf e he)
  | some e1=>rw [nodup_map_inj hn (lfind_mem hf).1 he (lfind_mem hf).2]
theorem zero32 (w:World):(zeroValue 32).run Tryz.prog w = .ok (.slice none 0 0) w:=by kernel_rfl
theorem GRaw.look (h:GRaw w bg bl bk cv lev Ls ch) (i j:Int) (hi:I64 i) (hj:I64 j) :
    (Instr.lookup 188 (.map (some bk)) (.agg #[.int .i64 i,.int .i64 j]) false).run Tryz.prog w = .ok (oldv Ls (i,j)) w:=by
  have:=h.lnk.look Tryz.underlying188 (zero32 w) (i,j) ⟨hi,hj⟩
  rw [getA_lpairs] at this
  exact this
theorem GRaw.set (h:GRaw w bg bl bk cv lev Ls ch) (p:Int × Int) (hp:I64 p.1∧I64 p.2) (hn:Ls.length < 100000) {g' cap':Nat} {ys:List Int} (hr:Pts w' g' cap' ys) (hk:Kept (fun k=>(oldv Ls p).ownBlock = some k) w w') (hg:(oldv Ls p).ownBlock = some g' ∨ w.heap.size≤g') :
    ∃ w'',(Instr.mapUpdate 188 (.map (some bk)) (.agg #[.int .i64 p.1,.int .i64 p.2]) (.slice (some ⟨g',0,none⟩) ys.length cap')).run Tryz.prog w' = .ok () w''∧GRaw w'' bg bl bk cv lev (⟨p,ys,g',cap'⟩ :: ldel p Ls) ch∧Kept (fun k=>k = bk ∨ (oldv Ls p).ownBlock = some k) w w'':=by
  have hno:∀ k,(oldv Ls p).ownBlock = some k→k ≠ bg∧k ≠ bl∧k ≠ bk∧cv.ownBlock ≠ some k:=fun k e=>by
    obtain ⟨e0,he0,_,rfl⟩:=h.old_own e
    exact ⟨(h.g_ne he0).1,(h.g_ne he0).2.1,(h.g_ne he0).2.2,h.sepc e0 he0⟩
  have hbk:¬ (oldv Ls p).ownBlock = some bk:=fun e=>(hno _ e).2.2.1 rfl
  have hm:=h.lnk.kept hk hbk
  obtain ⟨w'',hrun,ham,hk2⟩:=hm.put Tryz.underlying188 (by unfold lpairs maxLen; rw [List.length_map]; omega) p hp (LEnt.val ⟨p,ys,g',cap'⟩)
  rw [putA_lpairs p ⟨p,ys,g',cap'⟩ rfl] at ham
  have hkk:Kept (fun k=>k = bk ∨ (oldv Ls p).ownBlock = some k) w w'':=(hk.mono (fun _ _ e=>.inr e)).trans hk2 (fun _ _ e=>.inl e)
  have hrest:∀ e ∈ ldel p Ls,e ∈ Ls∧e.pl ≠ p:=fun e he=>⟨(List.mem_filter.1 he).1,by simpa using (List.mem_filter.1 he).2⟩
  have hgd:∀ e ∈ ldel p Ls,¬ (oldv Ls p).ownBlock = some e.g:=fun e he e'=>by
    obtain ⟨e0,he0,hp0,hg0⟩:=h.old_own e'
    have:e0 = e:=by
      exact nodup_map_inj h.sepg he0 (hrest e he).1 hg0
    exact (hrest e he).2 (this ▸ hp0)
  have hg'ne:g' ≠ bk:=by
    rcases hg with e | e
    · exact (hno _ e).2.2.1
    · have:=h.lnk.lt; omega
  refine ⟨w'',hrun,⟨?_,?_,ham,?_,?_,?_,?_,h.bb⟩,hkk⟩
  · exact (hkk.block _ (heap_lt h.blk) (fun e=>e.elim h.b_ne.2 (fun e=>(hno _ e).1 rfl))).trans h.blk
  · exact h.lev.kept hkk (fun e=>e.elim h.bb (fun e=>(hno _ e).2.1 rfl))
  · intro e he
    rcases List.mem_cons.1 he with rfl | he
    · exact ownsRow_kept hr hk2 (fun g e=>by obtain rfl:g' = g:=by { simpa [Value.ownBlock] using e }; exact hg'ne)
    · refine ownsRow_kept (h.row e (hrest e he).1) hkk (fun g e'=>?_)
      obtain rfl:e.g = g:=by simpa [Value.ownBlock] using e'
      exact fun e''=>e''.elim (h.g_ne (hrest e he).1).2.2 (hgd e he)
  · exact ownsRow_kept h.chr hkk (fun g e=>fun e'=>e'.elim (h.c_ne e).2.2 (fun e'=>(hno _ e').2.2.2 e))
  · rw [List.map_cons,List.nodup_cons]
    refine ⟨fun hm=>?_,(h.sepg.sublist ((List.filter_sublist).map _))⟩
    obtain ⟨e,he,e'⟩:=List.mem_map.1 hm
    simp only at e'
    rcases hg with e2 | e2
    · exact hgd e he (by rw [e']; exact e2)
    · have:=h.glt (hrest e he).1; omega
  · intro e he
    rcases List.mem_cons.1 he with rfl | he
    · rcases hg with e2 | e2
      · exact (hno _ e2).2.2.2
      · exact fun e3=>absurd (h.clt e3) (by show ¬ g' < _; omega)
    · exact h.sepc e (hrest e he).1
theorem GRaw.unset (h:GRaw w bg bl bk cv lev Ls ch) (p:Int × Int) (hp:I64 p.1∧I64 p.2) :
    ∃ w',(Builtin.delete_ #[188,218] 0 #[.map (some bk),.agg #[.int .i64 p.1,.int .i64 p.2]]).run Tryz.prog w = .ok (.tuple #[]) w'∧GRaw w' bg bl bk cv lev (ldel p Ls) ch∧Kept (fun k=>k = bk) w w':=by
  obtain ⟨w',hrun,ham,hk⟩:=h.lnk.drop Tryz.underlying188 p hp
  rw [delA_lpairs] at ham
  have hrest:∀ e ∈ ldel p Ls,e ∈ Ls:=fun e he=>(List.mem_filter.1 he).1
  refine ⟨w',hrun,⟨(hk.block _ (heap_lt h.blk) h.b_ne.2).trans h.blk,h.lev.kept hk h.bb,ham,fun e he=>?_,?_,h.sepg.sublist ((List.filter_sublist).map _),fun e he=>h.sepc e (hrest e he),h.bb⟩,hk⟩
  · refine ownsRow_kept (h.row e (hrest e he)) hk (fun g e'=>?_)
    obtain rfl:e.g = g:=by simpa [Value.ownBlock] using e'
    exact (h.g_ne (hrest e he)).2.2
  · exact ownsRow_kept h.chr hk (fun g e=>(h.c_ne e).2.2)
end
end
section
open Go.RowKit Go.Maps

def insS (xs:List Int) (x:Int):List Int:=if x ∈ xs then xs else insAt xs (cntI xs x) x
def delS (xs:List Int) (x:Int):List Int:=if x ∈ xs then xs.eraseIdx (cntI xs x) else xs

def PlS (w0:World) (bg bl bk:Nat) (cv:Value) (lev:List (Int × Int)) (Ls:List LEnt) (ch:List Int) (B:Nat) (i j:Int) (wx:World):Prop :=
  GRaw wx bg bl bk cv lev Ls ch∧wx.heap[B]? = some (.cells #[.int .i64 i,.int .i64 j] 218 (0,0))∧Below w0.heap.size w0 wx∧I64 i∧I64 j
section
variable {w0 wx wy:World} {bg bl bk:Nat} {cv:Value} {lev:List (Int × Int)} {Ls:List LEnt} {ch:List Int} {B:Nat} {i j:Int}
theorem PlS.below (h:PlS w0 bg bl bk cv lev Ls ch B i j wx) (hb:Below wx.heap.size wx wy):PlS w0 bg bl bk cv lev Ls ch B i j wy :=
  ⟨h.1.below hb,(hb.block _ (heap_lt h.2.1)).trans h.2.1,h.2.2.1.trans (hb.mono h.2.2.1.size),h.2.2.2⟩
theorem PlS.drew (h:PlS w0 bg bl bk cv lev Ls ch B i j wx):PlS w0 bg bl bk cv lev Ls ch B i j wx.drew:=h.below (Below.refl _ _).drew
theorem PlS.drewN (h:PlS w0 bg bl bk cv lev Ls ch B i j wx) (q:Nat):PlS w0 bg bl bk cv lev Ls ch B i j (wx.drewN q):=h.below (below_drewN (Below.refl _ _) q)
theorem PlS.alloc (h:PlS w0 bg bl bk cv lev Ls ch B i j wx) (o:Obj):PlS w0 bg bl bk cv lev Ls ch B i j (wx.alloc o):=h.below ((Below.refl _ _).alloc (Nat.le_refl _) o)
theorem PlS.reads (h:PlS w0 bg bl bk cv lev Ls ch B i j wx):wx.cell? ⟨bg,1,none⟩ = some (.map (some bk))∧wx.cell? ⟨B,0,none⟩ = some (.int .i64 i)∧wx.cell? ⟨B,1,none⟩ = some (.int .i64 j) ∧
    (Instr.lookup 188 (.map (some bk)) (.agg #[.int .i64 i,.int .i64 j]) false).run Tryz.prog wx = .ok (oldv Ls (i,j)) wx :=
  ⟨h.1.c1,cells_at h.2.1 0 rfl,cells_at h.2.1 1 rfl,h.1.look i j h.2.2.2.1 h.2.2.2.2⟩
noncomputable def lookV (wx:World) (bk:Nat) (i j:Int):Value:=match (Instr.lookup 188 (.map (some bk)) (.agg #[.int .i64 i,.int .i64 j]) false).run Tryz.prog wx with | .ok v _=>v | _=>undef
theorem lookV_eq (h:GRaw wx bg bl bk cv lev Ls ch) (hi:I64 i) (hj:I64 j):lookV wx bk i j = oldv Ls (i,j):=by
  unfold lookV
  rw [h.look i j hi hj]
theorem PlS.readsV (h:PlS w0 bg bl bk cv lev Ls ch B i j wx):wx.cell? ⟨bg,1,none⟩ = some (.map (some bk))∧wx.cell? ⟨B,0,none⟩ = some (.int .i64 i)∧wx.cell? ⟨B,1,none⟩ = some (.int .i64 j) ∧
    (Instr.lookup 188 (.map (some bk)) (.agg #[.int .i64 i,.int .i64 j]) false).run Tryz.prog wx = .ok (lookV wx bk i j) wx:=by
  have h1:=h.reads
  rw [lookV_eq h.1 h.2.2.2.1 h.2.2.2.2]
  exact h1
theorem readsV_am {M:List ((Int × Int) × Value)} (h1:wx.cell? ⟨bg,1,none⟩ = some (.map (some bk))) (hm:AMap placeKey wx bk M) (hB:wx.heap[B]? = some (.cells #[.int .i64 i,.int .i64 j] 218 (0,0))) (hi:I64 i) (hj:I64 j):wx.cell? ⟨bg,1,none⟩ = some (.map (some bk))∧wx.cell? ⟨B,0,none⟩ = some (.int .i64 i)∧wx.cell? ⟨B,1,none⟩ = some (.int .i64 j) ∧
    (Instr.lookup 188 (.map (some bk)) (.agg #[.int .i64 i,.int .i64 j]) false).run Tryz.prog wx = .ok (lookV wx bk i j) wx:=by
  have hl:(Instr.lookup 188 (.map (some bk)) (.agg #[.int .i64 i,.int .i64 j]) false).run Tryz.prog wx = .ok ((getA (i,j) M).getD (.slice none 0 0)) wx:=hm.look Tryz.underlying188 (zero32 wx) (i,j) ⟨hi,hj⟩
  refine ⟨h1,cells_at hB 0 rfl,cells_at hB 1 rfl,?_⟩
  rw [hl]
  unfold lookV
  rw [hl]
theorem PlS.readsK {S:Nat→Prop} (h:PlS w0 bg bl bk cv lev Ls ch B i j wx) (hk:Kept S wx wy) (h1:¬ S bg) (h2:¬ S bk) (h3:¬ S B):wy.cell? ⟨bg,1,none⟩ = some (.map (some bk))∧wy.cell? ⟨B,0,none⟩ = some (.int .i64 i)∧wy.cell? ⟨B,1,none⟩ = some (.int .i64 j) ∧
    (Instr.lookup 188 (.map (some bk)) (.agg #[.int .i64 i,.int .i64 j]) false).run Tryz.prog wy = .ok (lookV wy bk i j) wy :=
  readsV_am (hk.cell h.1.c1 h1) (h.1.lnk.kept hk h2) ((hk.block _ (heap_lt h.2.1) h3).trans h.2.1) h.2.2.2.1 h.2.2.2.2
end

set_option maxHeartbeats 4000000 in
set_option maxRecDepth 20000 in
theorem add155 (bg bl bk:Nat) (cv:Value) (lev:List (Int × Int)) (Ls:List LEnt) (ch:List Int) (i j x:Int) (w:World) (h:GRaw w bg bl bk cv lev Ls ch) (hi:I64 i) (hj:I64 j) (hn:Ls.length < 100000)
    (hl:(lkOf Ls (i,j)).length≤1000) (hs:(lkOf Ls (i,j)).Pairwise (·≤·)) :
    Calls Tryz.prog 165 #[.pointer (some ⟨bg,0,none⟩),.agg #[.int .i64 i,.int .i64 j],.int .i64 x] w fun ev w'=>ev = .returned (.tuple #[]) ∧
      ∃ Ls',GRaw w' bg bl bk cv lev Ls' ch∧lkOf Ls' = upd (lkOf Ls) (i,j) (insS (lkOf Ls (i,j)) x)∧Kept (fun k=>k = bk ∨ (oldv Ls (i,j)).ownBlock = some k) w w'∧(∀ e' ∈ Ls',(∃ e ∈ Ls,e.g = e'.g) ∨ w.heap.size≤e'.g)∧(FullL Ls→FullL Ls'):=by
  have hS:PlS w bg bl bk cv lev Ls ch w.heap.size i j (w.alloc (.cells #[.int .i64 i,.int .i64 j] 218)) :=
    ⟨h.below ((Below.refl _ _).alloc (Nat.le_refl _) _),heap_alloc_new _ _,(Below.refl _ _).alloc (Nat.le_refl _) _,hi,hj⟩
  have HOLD:=hide (fun k (e:(oldv Ls (i,j)).ownBlock = some k)=>h.flt (k:=k) (by obtain ⟨e0,he0,_,hg0⟩:=h.old_own e; exact .inr (.inr (.inr (.inr ⟨e0,he0,hg0⟩)))))
  have HOM:=hide (fun k (e:(oldv Ls (i,j)).ownBlock = some k)=>h.old_own e)
  clear h
  go_enter Tryz.func165,Tryz.ntmps165
  go_wp2_with fail
  generalize w.alloc (.cells #[.int .i64 i,.int .i64 j] 218) = w1 at hS ⊢
  have hsr:=search163 (oldv Ls (i,j)) (lkOf Ls (i,j)) x w1.drew (hS.drew.1.old_row (i,j)) hl hs
  have HSR:=hide hsr
  clear hsr
  have HL:=hide hl
  have HS:=hide hs
  have HI:=hide hi
  have HJ:=hide hj
  clear hl hs hi hj
  go_region_held3 (fun wx=>wx.cell? ⟨bg,1,none⟩ = some (.map (some bk))∧wx.cell? ⟨w.heap.size,0,none⟩ = some (.int .i64 i)∧wx.cell? ⟨w.heap.size,1,none⟩ = some (.int .i64 j) ∧
    (Instr.lookup 188 (.map (some bk)) (.agg #[.int .i64 i,.int .i64 j]) false).run Tryz.prog wx = .ok (oldv Ls (i,j)) wx)
    ((first | with_reducible exact hS.drew.reads | with_reducible exact (PlS.drewN hS (1 + q)).reads))
    (first
      | (go_at_call 176; refine HSR.out.mono ?_; rintro e2 w2 ⟨rfl,q,rfl⟩; have hq0:=0))
  have hS2:=PlS.drewN hS (1 + q)
  generalize w1.drewN (1 + q) = w2 at hS2 ⊢
  clear hS HSR hq0
  by_cases hm:x ∈ lkOf Ls (i,j)
  · rw [show decide (x ∈ lkOf Ls (i,j)) = true by simpa using hm]
    have HM:=hide hm
    have HS2:=hide hS2
    clear hm hS2
    go_wp2
    go_end0
    refine ⟨rfl,Ls,HS2.out.1,?_,Kept.of_below _ HS2.out.2.2.1,fun e he=>.inl ⟨e,he,rfl⟩,id⟩
    funext q'
    unfold upd insS
    rw [if_pos HM.out]
    split
    · rename_i e; rw [e]
    · rfl
  · rw [show decide (x ∈ lkOf Ls (i,j)) = false by simpa using hm]
    have HM:=hide hm
    clear hm
    have hr2:=hS2.1.old_row (i,j)
    have hcnt:=cntI_le (lkOf Ls (i,j)) x
    have HC:=hide hcnt
    clear hcnt hr2
    generalize hcc:cntI (lkOf Ls (i,j)) x = cc at HC
    have HCC:=hide hcc
    clear hcc
    have hS3:=(hS2.alloc (.cells #[.int .i64 x] 3)).drew
    have hvn:∀ {v:Nat},(oldv Ls (i,j)).ownBlock = some v→v ≠ w2.heap.size:=fun {v} e=>by
      obtain ⟨e0,he0,_,rfl⟩:=HOM.out v e
      exact Nat.ne_of_lt (hS2.1.glt he0)
    have hins:=insert165 (oldv Ls (i,j)) (lkOf Ls (i,j)) cc x w2.heap.size (w2.alloc (.cells #[.int .i64 x] 3)).drew (hS3.1.old_row (i,j)) HC.out HL.out (heap_alloc_new _ _) (fun e=>hvn e rfl)
    have hset:∀ (w3:World) (g' cap':Nat),Pts w3 g' cap' (insAt (lkOf Ls (i,j)) cc x)→Kept (fun k=>(oldv Ls (i,j)).ownBlock = some k) (w2.alloc (.cells #[.int .i64 x] 3)).drew w3→((oldv Ls (i,j)).ownBlock = some g' ∨ (w2.alloc (.cells #[.int .i64 x] 3)).drew.heap.size≤g') →
        ∃ w4,(Instr.mapUpdate 188 (.map (some bk)) (.agg #[.int .i64 i,.int .i64 j]) (.slice (some ⟨g',0,none⟩) (insAt (lkOf Ls (i,j)) cc x).length cap')).run Tryz.prog w3 = .ok () w4∧GRaw w4 bg bl bk cv lev (⟨(i,j),insAt (lkOf Ls (i,j)) cc x,g',cap'⟩ :: ldel (i,j) Ls) ch∧Kept (fun k=>k = bk ∨ (oldv Ls (i,j)).ownBlock = some k) (w2.alloc (.cells #[.int .i64 x] 3)).drew w4 :=
      fun w3 g' cap' hr hk hg=>GRaw.set hS3.1 (i,j) ⟨HI.out,HJ.out⟩ hn hr hk hg
    have HSET:=hide hset
    have hinsA:Calls Tryz.prog 178 #[lookV w2.drew bk i j,.int .i64 cc,.slice (some ⟨w2.heap.size,0,none⟩) 1 1] (w2.alloc (.cells #[.int .i64 x] 3)).drew fun ev w'=>∃ g' cap',ev = .returned (.slice (some ⟨g',0,none⟩) (insAt (lkOf Ls (i,j)) cc x).length cap')∧Pts w' g' cap' (insAt (lkOf Ls (i,j)) cc x) ∧
        Kept (fun k=>(oldv Ls (i,j)).ownBlock = some k) (w2.alloc (.cells #[.int .i64 x] 3)).drew w'∧((oldv Ls (i,j)).ownBlock = some g' ∨ (w2.alloc (.cells #[.int .i64 x] 3)).drew.heap.size≤g'):=by
      rw [lookV_eq hS2.drew.1 HI.out HJ.out]; exact hins
    have hinsB:Calls Tryz.prog 178 #[lookV (w2.alloc (.cells #[.int .i64 x] 3)).drew bk i j,.int .i64 cc,.slice (some ⟨w2.heap.size,0,none⟩) 1 1] (w2.alloc (.cells #[.int .i64 x] 3)).drew fun ev w'=>∃ g' cap',ev = .returned (.slice (some ⟨g',0,none⟩) (insAt (lkOf Ls (i,j)) cc x).length cap')∧Pts w' g' cap' (insAt (lkOf Ls (i,j)) cc x) ∧
        Kept (fun k=>(oldv Ls (i,j)).ownBlock = some k) (w2.alloc (.cells #[.int .i64 x] 3)).drew w'∧((oldv Ls (i,j)).ownBlock = some g' ∨ (w2.alloc (.cells #[.int .i64 x] 3)).drew.heap.size≤g'):=by
      rw [lookV_eq hS3.1 HI.out HJ.out]; exact hins
    have HINSB:=hide hinsB
    clear hinsB
    have HNO:Hid (∀ k,(oldv Ls (i,j)).ownBlock = some k→k ≠ bg∧k ≠ bk∧k ≠ w.heap.size):=fun k e=>by
      obtain ⟨e0,he0,_,rfl⟩:=HOM.out k e
      have h1:=HOLD.out _ e
      exact ⟨(hS2.1.g_ne he0).1,(hS2.1.g_ne he0).2.2,by omega⟩
    have HINS:=hide hinsA
    have HBX:Hid (∀ w4,Kept (fun k=>k = bk ∨ (oldv Ls (i,j)).ownBlock = some k) (w2.alloc (.cells #[.int .i64 x] 3)).drew w4→w4.heap[w.heap.size]? = some (.cells #[.int .i64 i,.int .i64 j] 218 (0,0))):=fun w4 hk =>
      (hk.block _ (heap_lt hS3.2.1) (fun e=>e.elim (fun e=>by have h1:=hS3.1.lnk.not_cells hS3.2.1; exact h1 e) (fun e=>by have:=HOLD.out _ e; omega))).trans hS3.2.1
    have HS2:=hide hS2
    have HS3:=hide hS3
    have hA:=hS2.drew.readsV
    have HA:=hide hA
    have HB:=hide hS3.readsV
    have HC':=hide (hS2.alloc (.cells #[.int .i64 x] 3)).readsV
    clear hS2 hS3 hins hset hinsA hA
    go_wp2_with fail
    go_region_held3 (fun wx=>wx.cell? ⟨bg,1,none⟩ = some (.map (some bk))∧wx.cell? ⟨w.heap.size,0,none⟩ = some (.int .i64 i)∧wx.cell? ⟨w.heap.size,1,none⟩ = some (.int .i64 j) ∧
    (Instr.lookup 188 (.map (some bk)) (.agg #[.int .i64 i,.int .i64 j]) false).run Tryz.prog wx = .ok (lookV wx bk i j) wx)
      ((first | with_reducible exact HA.out | with_reducible exact HB.out | with_reducible exact HC'.out | with_reducible exact HR4.out | with_reducible exact HR3.out))
      (first
        | (go_at_call 178; (with_reducible refine HINS.out.mono ?_); rintro e3 w3 ⟨g',cap',rfl,hp3,hk3,hg3⟩; obtain ⟨w4,hrun,hraw,hkk⟩:=HSET.out w3 g' cap' hp3 hk3 hg3; have HR4:=hide (readsV_am hraw.c1 hraw.lnk (HBX.out w4 hkk) HI.out HJ.out); have HR3:=hide (PlS.readsK HS3.out hk3 (fun e=>(HNO.out bg e).1 rfl) (fun e=>(HNO.out bk e).2.1 rfl) (fun e=>(HNO.out w.heap.size e).2.2 rfl)); have HG3:=hide hg3; have HRAW:=hide hraw; have HKK:=hide hkk; clear hp3 hk3 hg3 hraw hkk)
        | (go_at_call 178; (with_reducible refine HINSB.out.mono ?_); rintro e3 w3 ⟨g',cap',rfl,hp3,hk3,hg3⟩; obtain ⟨w4,hrun,hraw,hkk⟩:=HSET.out w3 g' cap' hp3 hk3 hg3; have HR4:=hide (readsV_am hraw.c1 hraw.lnk (HBX.out w4 hkk) HI.out HJ.out); have HR3:=hide (PlS.readsK HS3.out hk3 (fun e=>(HNO.out bg e).1 rfl) (fun e=>(HNO.out bk e).2.1 rfl) (fun e=>(HNO.out w.heap.size e).2.2 rfl)); have HG3:=hide hg3; have HRAW:=hide hraw; have HKK:=hide hkk; clear hp3 hk3 hg3 hraw hkk))
    all_goals (
      go_end0
      refine ⟨rfl,_,HRAW.out,?_,(Kept.of_below _ HS3.out.2.2.1).trans HKK.out (fun _ _ e=>e),?_,?_⟩
      · rw [lkOf_put ⟨(i,j),_,_,_⟩,insS,if_neg HM.out,HCC.out]
      · intro e' he'
        rcases List.mem_cons.1 he' with rfl | he'
        · rcases HG3.out with e | e
          · obtain ⟨e0,he0,_,hg0⟩:=HOM.out _ e
            exact .inl ⟨e0,he0,hg0⟩
          · exact .inr (Nat.le_trans HS3.out.2.2.1.size e)
        · exact .inl ⟨e',(List.mem_filter.1 he').1,rfl⟩
      · intro hf e' he'
        rcases List.mem_cons.1 he' with rfl | he'
        · simp [insAt]
        · exact hf e' (List.mem_filter.1 he').1)
end
end Go.Proofs.YtpkiefjanmfgfaaGreatDoor
