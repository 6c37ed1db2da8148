import Derived.Test.YtpkiefjanmfgfaaGreatDoorRows
import Derived.WalkKit
import Derived.WalkSpells
import Derived.WalkLawsBesides
import Derived.Deep.RegionHeld3
import Derived.Deep.QuietTactic
import Derived.BigQuiet
import Derived.RowKit3
import Derived.Deep.AppendLies
import Derived.Maps.OwnSet
import Derived.LaidEql
import Derived.Stop.Asserts
import Derived.RowKitTokens
import Derived.Lib.LazyBuf
import Derived.Maps.AppendAt
import Derived.Laws.CopyOwn
import Derived.Laws.MakeOwn
namespace Go.Proofs.YtpkiefjanmfgfaaGreatDoor
section
open Go.RowKit

def inB (n lo hi:Int):Bool:=decide (lo≤n) && decide (n≤hi)

set_option maxHeartbeats 400000 in
theorem within_any (n lo hi:Int) (w:World) :
    Calls Tryz.prog 86 #[.int .i64 n,.int .i64 lo,.int .i64 hi] w fun e w'=>e = .returned (.bool (inB n lo hi))∧w = w':=by
  by_cases h1:lo≤n
  · by_cases h2:n≤hi
    · go_enter Tryz.func86,Tryz.ntmps86
      go_wp2
      go_ret
      exact ⟨by simp [inB,h1,h2],rfl⟩
    · go_enter Tryz.func86,Tryz.ntmps86
      go_wp2
      go_ret
      exact ⟨by simp [inB,h1,h2],rfl⟩
  · have hd:decide (lo≤n) = false:=by simpa using h1
    go_enter Tryz.func86,Tryz.ntmps86
    go_wp2
    go_ret
    exact ⟨by simp [inB,hd],rfl⟩

set_option maxHeartbeats 400000 in
theorem in_any (n lo hi:Int) (w:World) :
    Calls Tryz.prog 67 #[.int .i64 n,.int .i64 lo,.int .i64 hi] w fun e w'=>e = .returned (.bool (inB n lo hi))∧w = w':=by
  by_cases h1:lo≤n
  · by_cases h2:n≤hi
    · go_enter Tryz.func67,Tryz.ntmps67
      go_wp2
      go_ret
      exact ⟨by simp [inB,h1,h2],rfl⟩
    · go_enter Tryz.func67,Tryz.ntmps67
      go_wp2
      go_ret
      exact ⟨by simp [inB,h1,h2],rfl⟩
  · have hd:decide (lo≤n) = false:=by simpa using h1
    go_enter Tryz.func67,Tryz.ntmps67
    go_wp2
    go_ret
    exact ⟨by simp [inB,hd],rfl⟩

end
section
open Go.RowKit

theorem hide {p:Prop} (h:p):Hid p:=h

structure Kept (S:Nat→Prop) (w w':World):Prop where
  os:w'.os = w.os
  tape:w'.tape = w.tape
  output:w'.output = w.output
  size:w.heap.size≤w'.heap.size
  block:∀ k,k < w.heap.size→¬ S k→w'.heap[k]? = w.heap[k]?

theorem Kept.refl (S:Nat→Prop) (w:World):Kept S w w:=⟨rfl,rfl,rfl,Nat.le_refl _,fun _ _ _=>rfl⟩
theorem Kept.mono {S T:Nat→Prop} {w w':World} (h:Kept S w w') (hs:∀ k,k < w.heap.size→S k→T k):Kept T w w' :=
  ⟨h.os,h.tape,h.output,h.size,fun k hk hn=>h.block k hk (fun s=>hn (hs k hk s))⟩
theorem Kept.trans {S T:Nat→Prop} {a b c:World} (h:Kept S a b) (k:Kept T b c) (hs:∀ j,j < a.heap.size→T j→S j):Kept S a c :=
  ⟨k.os.trans h.os,k.tape.trans h.tape,k.output.trans h.output,Nat.le_trans h.size k.size,
    fun i hi hn=>(k.block i (Nat.lt_of_lt_of_le hi h.size) (fun t=>hn (hs i hi t))).trans (h.block i hi hn)⟩
theorem Kept.below {S:Nat→Prop} {a b c:World} (h:Kept S a b) (k:Below b.heap.size b c):Kept S a c :=
  ⟨k.os.trans h.os,k.tape.trans h.tape,k.output.trans h.output,Nat.le_trans h.size k.size,fun i hi hn=>(k.block i (Nat.lt_of_lt_of_le hi h.size)).trans (h.block i hi hn)⟩
theorem Kept.of_below {w w':World} (S:Nat→Prop) (h:Below w.heap.size w w'):Kept S w w':=(Kept.refl S w).below h
theorem Kept.toBelow {S:Nat→Prop} {B:Nat} {w w':World} (h:Kept S w w') (hB:B≤w.heap.size) (hs:∀ k,S k→B≤k):Below B w w' :=
  ⟨h.os,h.tape,h.output,h.size,fun k hk=>h.block k (by omega) (fun s=>by have:=hs k s; omega)⟩
theorem Kept.alloc {S:Nat→Prop} {a w:World} (h:Kept S a w) (o:Obj):Kept S a (w.alloc o) :=
  ⟨h.os,h.tape,h.output,Nat.le_trans h.size (by simp),fun k hk hn=>(Below.heap_alloc _ _ _ (Nat.lt_of_lt_of_le hk h.size)).trans (h.block k hk hn)⟩
theorem Kept.drew {S:Nat→Prop} {a w:World} (h:Kept S a w):Kept S a w.drew:=⟨h.os,h.tape,h.output,h.size,h.block⟩
theorem heap_drewN (w:World):∀ n,(w.drewN n).heap = w.heap
  | 0=>rfl
  | _ + 1=>by simp
theorem drewN_os (w:World):∀ n,(w.drewN n).os = w.os∧(w.drewN n).tape = w.tape∧(w.drewN n).output = w.output
  | 0=>⟨rfl,rfl,rfl⟩
  | n + 1=>drewN_os w.drew n
theorem Kept.drewN {S:Nat→Prop} {a w:World} (h:Kept S a w) (n:Nat):Kept S a (w.drewN n) :=
  ⟨(drewN_os w n).1.trans h.os,(drewN_os w n).2.1.trans h.tape,(drewN_os w n).2.2.trans h.output,by rw [heap_drewN]; exact h.size,by rw [heap_drewN]; exact h.block⟩
theorem Kept.setCell {S:Nat→Prop} {a w:World} (h:Kept S a w) {p:Addr} (hp:p.block < a.heap.size→S p.block) (u:Value):Kept S a (w.setCell p u) :=
  ⟨h.os,h.tape,h.output,by simp [World.setCell]; exact h.size,fun k hk hn=>(Below.heap_setCell _ _ _ _ (fun e=>hn (by subst e; exact hp hk))).trans (h.block k hk hn)⟩
theorem Kept.grown {S:Nat→Prop} {a w w':World} {row:Option Nat} (h:Kept S a w) (hg:w.grownBy w' row) (hr:∀ k,row = some k→k < a.heap.size→S k):Kept S a w' :=
  ⟨hg.os.trans h.os,hg.tape.trans h.tape,hg.output.trans h.output,Nat.le_trans h.size hg.size,
    fun k hk hn=>(hg.block k (Nat.lt_of_lt_of_le hk h.size) (fun e=>hn (hr k e.symm hk))).trans (h.block k hk hn)⟩

theorem Kept.cell {S:Nat→Prop} {w w':World} (h:Kept S w w') {b o:Nat} {v:Value} (hc:w.cell? ⟨b,o,none⟩ = some v) (hn:¬ S b):w'.cell? ⟨b,o,none⟩ = some v :=
  (World.cell?_of_block (w:=w) (a:=⟨b,o,none⟩) (h.block b (block_lt_of_cell (a:=⟨b,o,none⟩) hc) hn)).trans hc
theorem Below.undrew {w w':World} (h:Below w.drew.heap.size w.drew w'):Below w.heap.size w w':=⟨h.os,h.tape,h.output,h.size,h.block⟩
theorem Below.at {B:Nat} {w w':World} (h:Below B w w') {b o:Nat} {v:Value} (hc:w.cell? ⟨b,o,none⟩ = some v) (hb:b < B):w'.cell? ⟨b,o,none⟩ = some v:=(h.cell (p:=⟨b,o,none⟩) hb).trans hc

section
variable {w w':World} {base e size:Nat} {v:Value} {n:Nat} {xs:List Value}
theorem ownsRow_of_block (h:w.ownsRow base e size v n xs) (hb:∀ g,v.ownBlock = some g→w'.heap[g]? = w.heap[g]?):w'.ownsRow base e size v n xs:=by
  refine ⟨h.1,?_⟩
  rcases h.2 with hn | ⟨g,cap,cur,rfl,hb1,hg,rest⟩
  · exact .inl hn
  · exact .inr ⟨g,cap,cur,rfl,hb1,(hb g rfl).trans hg,rest⟩
theorem ownsRow_zero (h:w.ownsRow base e size v n xs):w.ownsRow 0 e size v n xs:=by
  refine ⟨h.1,?_⟩
  rcases h.2 with hn | ⟨g,cap,cur,rfl,hb1,rest⟩
  · exact .inl hn
  · exact .inr ⟨g,cap,cur,rfl,Nat.zero_le _,rest⟩
theorem ownsRow_kept {S:Nat→Prop} (h:w.ownsRow base e size v n xs) (hk:Kept S w w') (hs:∀ g,v.ownBlock = some g→¬ S g):w'.ownsRow base e size v n xs :=
  ownsRow_of_block h fun g hg=>hk.block g (h.lt g hg).2 (hs g hg)
theorem ownsRow_below (h:w.ownsRow base e size v n xs) (hk:Below w.heap.size w w'):w'.ownsRow base e size v n xs :=
  ownsRow_of_block h fun g hg=>hk.block g (h.lt g hg).2
theorem ownsRow_drewN (h:w.ownsRow base e size v n xs) (k:Nat):(w.drewN k).ownsRow base e size v n xs:=ownsRow_of_block h fun g _=>by rw [heap_drewN]
theorem ownsRow_obj (h:w.ownsRow base e size v n xs) {g:Nat} (hg:v.ownBlock = some g):∃ cur,w.heap[g]? = some (.cells cur e (0,0)):=by
  rcases h.2 with ⟨rfl,_⟩ | ⟨g',cap,cur,rfl,_,hh,_⟩
  · simp [Value.ownBlock] at hg
  · simp [Value.ownBlock] at hg; subst hg; exact ⟨cur,hh⟩
end

abbrev Pts (w:World) (g cap:Nat) (xs:List Int):Prop:=w.ownsRow 0 3 1 (.slice (some ⟨g,0,none⟩) xs.length cap) xs.length (xs.map (Value.int .i64))

theorem Pts.cell {w:World} {g cap:Nat} {xs:List Int} (h:Pts w g cap xs):∀ i,i < xs.length→w.cell? ⟨g,0 + i,none⟩ = some (.int .i64 (xs.getD i 0)):=by
  intro i hi
  have:=h.cells (g:=g) rfl i (.int .i64 (xs.getD i 0)) (by simp [List.getD_eq_getElem?_getD,hi])
  rw [← this]
  unfold Addr.add
  split
  · subst_vars; rfl
  · rfl
end
section
open Go.RowKit

def cmpI (a b:Int):Int:=if a < b then -1 else if b < a then 1 else 0

set_option maxHeartbeats 400000 in
theorem isNaN166 (a:Int) (w:World):Calls Tryz.prog 179 #[.int .i64 a] w fun e w'=>e = .returned (.bool false)∧w = w':=by
  go_enter Tryz.func179,Tryz.ntmps179
  go_wp2
  go_ret
  exact ⟨by simp,rfl⟩

set_option maxHeartbeats 400000 in
theorem compare161 (a b:Int) (w:World):Calls Tryz.prog 171 #[.int .i64 a,.int .i64 b] w fun e w'=>e = .returned (.int .i64 (cmpI a b))∧w = w':=by
  by_cases h1:a < b
  · go_enter Tryz.func171,Tryz.ntmps171
    go_wp2_with (go_at_call 179; refine (isNaN166 _ _).mono ?_; rintro e w' ⟨rfl,rfl⟩)
    go_ret
    exact ⟨by simp [cmpI,h1],rfl⟩
  · by_cases h2:b < a
    · go_enter Tryz.func171,Tryz.ntmps171
      go_wp2_with (go_at_call 179; refine (isNaN166 _ _).mono ?_; rintro e w' ⟨rfl,rfl⟩)
      go_ret
      exact ⟨by simp [cmpI,h1,h2],rfl⟩
    · go_enter Tryz.func171,Tryz.ntmps171
      go_wp2_with (go_at_call 179; refine (isNaN166 _ _).mono ?_; rintro e w' ⟨rfl,rfl⟩)
      go_ret
      exact ⟨by rw [cmpI,if_neg (by omega),if_neg (by omega)]; rfl,rfl⟩

def orI (a b:Int):Int:=if a = 0 then b else a

set_option maxHeartbeats 400000 in
theorem or160 (a b:Int) (g cap:Nat) (w:World) (h0:w.cell? ⟨g,0,none⟩ = some (.int .i64 a)) (h1:w.cell? ⟨g,1,none⟩ = some (.int .i64 b)) :
    Calls Tryz.prog 170 #[.slice (some ⟨g,0,none⟩) 2 cap] w fun e w'=>e = .returned (.int .i64 (orI a b))∧w = w':=by
  by_cases ha:a = 0
  · subst ha
    by_cases hb:b = 0
    · subst hb
      go_enter Tryz.func170,Tryz.ntmps170
      go_wp2
      refine wp_loop_rounds 3 ?_
      iterate 3 (rw [rounds_succ]; go_wp2)
      go_ret
      exact ⟨by simp [orI],rfl⟩
    · go_enter Tryz.func170,Tryz.ntmps170
      go_wp2
      refine wp_loop_rounds 3 ?_
      iterate 2 (rw [rounds_succ]; go_wp2)
      go_ret
      exact ⟨by simp [orI],rfl⟩
  · go_enter Tryz.func170,Tryz.ntmps170
    go_wp2
    refine wp_loop_rounds 3 ?_
    rw [rounds_succ]; go_wp2
    go_ret
    exact ⟨by simp [orI,ha],rfl⟩

abbrev Hit:=Int × Int
def cmpH (a b:Hit):Int:=orI (cmpI a.2 b.2) (cmpI a.1 b.1)

theorem cell_drew (w:World) (p:Addr):w.drew.cell? p = w.cell? p:=rfl

theorem pair0 (w:World) (x y:Value) (t:TypeId):(w.alloc (.cells #[x,y] t)).drew.cell? ⟨w.heap.size,0,none⟩ = some x:=by rw [cell_drew]; simp
theorem pair1 (w:World) (x y:Value) (t:TypeId):(w.alloc (.cells #[x,y] t)).drew.cell? ⟨w.heap.size,1,none⟩ = some y:=by rw [cell_drew]; simp

def Box2 (w0:World) (B:Nat) (i d j f:Int) (wx:World):Prop :=
  (wx.cell? ⟨B,0,none⟩ = some (.int .i64 i)∧wx.cell? ⟨B,1,none⟩ = some (.int .i64 d)∧wx.cell? ⟨B + 1,0,none⟩ = some (.int .i64 j)∧wx.cell? ⟨B + 1,1,none⟩ = some (.int .i64 f))∧Below w0.heap.size w0 wx
theorem Box2.cells {w0:World} {B:Nat} {i d j f:Int} {wx:World} (h:Box2 w0 B i d j f wx):wx.cell? ⟨B,0,none⟩ = some (.int .i64 i)∧wx.cell? ⟨B,1,none⟩ = some (.int .i64 d)∧wx.cell? ⟨B + 1,0,none⟩ = some (.int .i64 j)∧wx.cell? ⟨B + 1,1,none⟩ = some (.int .i64 f):=h.1
theorem Box2.bel {w0:World} {B:Nat} {i d j f:Int} {wx:World} (h:Box2 w0 B i d j f wx):Below w0.heap.size w0 wx:=h.2
theorem Box2.below {w0:World} {B:Nat} {i d j f:Int} {wx wy:World} (h:Box2 w0 B i d j f wx) (hb:Below wx.heap.size wx wy):Box2 w0 B i d j f wy :=
  ⟨⟨Below.at hb h.1.1 (block_lt_of_cell (a:=⟨B,0,none⟩) h.1.1),Below.at hb h.1.2.1 (block_lt_of_cell (a:=⟨B,1,none⟩) h.1.2.1),Below.at hb h.1.2.2.1 (block_lt_of_cell (a:=⟨B + 1,0,none⟩) h.1.2.2.1),Below.at hb h.1.2.2.2 (block_lt_of_cell (a:=⟨B + 1,1,none⟩) h.1.2.2.2)⟩,h.2.trans (hb.mono h.2.size)⟩
theorem Box2.alloc {w0:World} {B:Nat} {i d j f:Int} {wx:World} (h:Box2 w0 B i d j f wx) (o:Obj):Box2 w0 B i d j f (wx.alloc o):=h.below ((Below.refl _ _).alloc (Nat.le_refl _) o)
theorem Box2.drew {w0:World} {B:Nat} {i d j f:Int} {wx:World} (h:Box2 w0 B i d j f wx):Box2 w0 B i d j f wx.drew:=h.below (Below.refl _ _).drew
theorem Box2.mk {w:World} (i d j f:Int) (t:TypeId):Box2 w w.heap.size i d j f ((w.alloc (.cells #[.int .i64 i,.int .i64 d] t)).alloc (.cells #[.int .i64 j,.int .i64 f] t)) :=
  ⟨⟨by simp,by simp,by simp,by simp⟩,((Below.refl _ _).alloc (Nat.le_refl _) _).alloc (by simp) _⟩

set_option maxHeartbeats 1000000 in
theorem compare142 (a b:Hit) (w:World):Calls Tryz.prog 149 #[.agg #[.int .i64 a.1,.int .i64 a.2],.agg #[.int .i64 b.1,.int .i64 b.2]] w fun e w'=>e = .returned (.int .i64 (cmpH a b))∧Below w.heap.size w w':=by
  obtain ⟨i,d⟩:=a
  obtain ⟨j,f⟩:=b
  simp only [cmpH]
  go_enter Tryz.func149,Tryz.ntmps149
  go_wp2
  have hS:=Box2.mk (w:=w) i d j f 63
  generalize (w.alloc (.cells #[.int .i64 i,.int .i64 d] 63)).alloc (.cells #[.int .i64 j,.int .i64 f] 63) = w1 at hS ⊢
  go_region_held3 (fun wx=>(wx.cell? ⟨w.heap.size,0,none⟩ = some (.int .i64 i)∧wx.cell? ⟨w.heap.size,1,none⟩ = some (.int .i64 d)∧wx.cell? ⟨w.heap.size + 1,0,none⟩ = some (.int .i64 j)∧wx.cell? ⟨w.heap.size + 1,1,none⟩ = some (.int .i64 f))) ((refine Box2.cells (w0:=w) ?_; repeat (first | exact hS | refine Box2.drew ?_ | refine Box2.alloc ?_ _)))
    (first
      | (go_at_call 171; refine (compare161 _ _ _).mono ?_; rintro e w' ⟨rfl,rfl⟩)
      | (go_at_call 170; refine (or160 (cmpI d f) (cmpI i j) _ _ _ ?_ ?_).mono ?_; (exact pair0 _ _ _ _); (exact pair1 _ _ _ _); rintro e w' ⟨rfl,rfl⟩))
  go_wp2
  go_ret
  refine ⟨rfl,Box2.bel (B:=w.heap.size) (i:=i) (d:=d) (j:=j) (f:=f) ?_⟩
  repeat (first | exact hS | refine Box2.drew ?_ | refine Box2.alloc ?_ _)

def nearB (a b:Hit):Bool:=decide (cmpH a b < 0)
def farB (a b:Hit):Bool:=decide (0 < cmpH a b)

set_option maxHeartbeats 1000000 in
theorem nearer100 (a b:Hit) (w:World):Calls Tryz.prog 104 #[.agg #[.int .i64 a.1,.int .i64 a.2],.agg #[.int .i64 b.1,.int .i64 b.2]] w fun e w'=>e = .returned (.bool (nearB a b))∧Below w.heap.size w w':=by
  go_enter Tryz.func104,Tryz.ntmps104
  go_wp2_with (go_at_call 149; refine (compare142 a b _).mono ?_; rintro e w' ⟨rfl,hb⟩)
  go_ret
  exact ⟨rfl,(((Below.refl _ _).alloc (Nat.le_refl _) _).alloc (by simp) _).trans (hb.mono (by simp; omega))⟩

set_option maxHeartbeats 1000000 in
theorem farther143 (a b:Hit) (w:World):Calls Tryz.prog 150 #[.agg #[.int .i64 a.1,.int .i64 a.2],.agg #[.int .i64 b.1,.int .i64 b.2]] w fun e w'=>e = .returned (.bool (farB a b))∧Below w.heap.size w w':=by
  go_enter Tryz.func150,Tryz.ntmps150
  go_wp2_with (go_at_call 149; refine (compare142 a b _).mono ?_; rintro e w' ⟨rfl,hb⟩)
  go_ret
  exact ⟨rfl,(((Below.refl _ _).alloc (Nat.le_refl _) _).alloc (by simp) _).trans (hb.mono (by simp; omega))⟩
end
section
open Go.RowKit Go.Extern.Stop Go.Stop Go.Extern

theorem rlm (z:Sem Value) (f:TypeId→Addr→Nat→Nat→Sem Value) (v:Value) :
    ReflectliteValue.method z f #[v] = (do match ← ReflectliteValue.parts v with | none=>z | some (t,a,fl)=>f t a fl (fl % 32)):=rfl
theorem rls (v x:Value):ReflectliteValue.set #[v,x] = (do
    let (some (dst,a,fl),some (src,b,_)):=(← ReflectliteValue.parts v,← ReflectliteValue.parts x)
      | unsupported (.noEntry "extern/(internal/reflectlite.Value).Set.zeroValue")
    if fl / ReflectliteValue.flagAddr % 2 == 0 then unsupported (.noEntry "extern/(internal/reflectlite.Value).Set.unaddressable")
    let val ← loadVar src b
    if ← Rtype.directlyAssignable dst src then storeVar dst a val
    else if ← Rtype.implements dst src then
      if (← Rtype.kind src) == 20 then
        match val with
        | .nilIface => unsupported (.noEntry "extern/reflectlite: a nil value of one interface type handed on as a value of another")
        | _=>storeVar dst a val
      else storeVar dst a (.iface src val)
    else panicString ("reflectlite.Set: value of type " ++ (← Rtype.spelt src) ++ " is not assignable to type " ++ (← Rtype.spelt dst))
    pure (.tuple #[])):=rfl

theorem valueOf119 (t:Addr) (w:World):(ReflectliteValue.unpack (.iface 160 (.pointer (some t)))).run Tryz.prog w
    = .ok (.agg #[.pointer (some ⟨1,160,none⟩),.pointer (some ⟨w.heap.size,0,none⟩),.int .u64 150]) (w.alloc (.cells #[.pointer (some t)] 160)):=by kernel_rfl
theorem type119 (a : Addr) (w : World) : (ReflectliteValue.methodAny (ReflectliteValue.valueError "reflectlite.Value.Type" 0) (fun t _ _ _ => ReflectliteType.toType t) #[.agg #[.pointer (some ⟨1, 160, none⟩), .pointer (some a), .int .u64 150]]).run Tryz.prog w
    = .ok (.iface 237 (.agg #[.pointer (some ⟨1,160,none⟩)])) w:=by kernel_rfl
theorem methodKind (h : Value) (w : World) : (Go.method 413 237 (.agg #[h]) "Kind").run Tryz.prog w = .ok (216, h) w := by kernel_rfl
theorem kind119 (w:World):((ReflectliteType.abiMethod fun t=>(fun a:Nat=>Value.int IntKind.u8 (a:Int)) <$> Rtype.kind t) #[.pointer (some ⟨1,160,none⟩)]).run Tryz.prog w = .ok (.int .u8 22) w:=by kernel_rfl
theorem kind115 (w:World):((ReflectliteType.abiMethod fun t=>(fun a:Nat=>Value.int IntKind.u8 (a:Int)) <$> Rtype.kind t) #[.pointer (some ⟨1,156,none⟩)]).run Tryz.prog w = .ok (.int .u8 2) w:=by kernel_rfl
theorem parts119 (a:Addr) (w:World):(ReflectliteValue.parts (.agg #[.pointer (some ⟨1,160,none⟩),.pointer (some a),.int .u64 150])).run Tryz.prog w = .ok (some (160,a,150)) w:=by kernel_rfl
theorem isNil119 (a p:Addr) (W:World) (ha:W.cell? a = some (.pointer (some p))) :
    (ReflectliteValue.method (ReflectliteValue.valueError "reflectlite.Value.IsNil" 0) ReflectliteValue.isNil #[.agg #[.pointer (some ⟨1, 160, none⟩), .pointer (some a), .int .u64 150]]).run Tryz.prog W = .ok (.bool false) W := by
  rw [rlm]
  simp only [Sem.run_bind,parts119,Result.andThen]
  simp [ReflectliteValue.isNil,loadVar,isAgg,underlying,Tryz.underlying160,ha,Result.andThen]
theorem methodElem (h : Value) (w : World) : (Go.method 413 237 (.agg #[h]) "Elem").run Tryz.prog w = .ok (228, .agg #[h]) w := by kernel_rfl
theorem methodImplements (h : Value) (w : World) : (Go.method 413 237 (.agg #[h]) "Implements").run Tryz.prog w = .ok (229, .agg #[h]) w := by kernel_rfl
theorem methodAssignableTo (h : Value) (w : World) : (Go.method 413 237 (.agg #[h]) "AssignableTo").run Tryz.prog w = .ok (226, .agg #[h]) w := by kernel_rfl
theorem elem119 (w:World):(ReflectliteType.method ReflectliteType.elem #[.agg #[.pointer (some ⟨1,160,none⟩)]]).run Tryz.prog w = .ok (.iface 237 (.agg #[.pointer (some ⟨1,156,none⟩)])) w:=by kernel_rfl
theorem implements115 (w : World) : (ReflectliteType.relation "Implements" ReflectliteType.implements_ #[.agg #[.pointer (some ⟨1, 156, none⟩)], .iface 237 (.agg #[.pointer (some ⟨1, 104, none⟩)])]).run Tryz.prog w = .ok (.bool true) w := by kernel_rfl
theorem typeOf115 (v:Value) (w:World):(ReflectliteType.typeOf #[.iface 156 v]).run Tryz.prog w = .ok (.iface 237 (.agg #[.pointer (some ⟨1,156,none⟩)])) w:=by kernel_rfl
theorem typeOf117 (v:Value) (w:World):(ReflectliteType.typeOf #[.iface 158 v]).run Tryz.prog w = .ok (.iface 237 (.agg #[.pointer (some ⟨1,158,none⟩)])) w:=by kernel_rfl
theorem assignable115 (w : World) : (ReflectliteType.relation "AssignableTo" ReflectliteType.assignableTo #[.agg #[.pointer (some ⟨1, 156, none⟩)], .iface 237 (.agg #[.pointer (some ⟨1, 156, none⟩)])]).run Tryz.prog w = .ok (.bool true) w := by kernel_rfl
theorem assignable117 (w : World) : (ReflectliteType.relation "AssignableTo" ReflectliteType.assignableTo #[.agg #[.pointer (some ⟨1, 158, none⟩)], .iface 237 (.agg #[.pointer (some ⟨1, 156, none⟩)])]).run Tryz.prog w = .ok (.bool false) w := by kernel_rfl
theorem valueOf115 (r:Int) (w:World):(ReflectliteValue.unpack (.iface 156 (.int .i64 r))).run Tryz.prog w
    = .ok (.agg #[.pointer (some ⟨1,156,none⟩),.pointer (some ⟨w.heap.size,0,none⟩),.int .u64 130]) (w.alloc (.cells #[.int .i64 r] 156)):=by kernel_rfl
theorem elemOf119 (w:World):(Rtype.elem? 160).run Tryz.prog w = .ok (some 156) w:=by kernel_rfl
theorem mk115 (p:Addr) (w:World):(ReflectliteValue.mk 156 p ReflectliteValue.flagAddr).run Tryz.prog w = .ok (.agg #[.pointer (some ⟨1,156,none⟩),.pointer (some p),.int .u64 386]) w:=by kernel_rfl
theorem elemV119 (a p:Addr) (W:World) (ha:W.cell? a = some (.pointer (some p))) :
    (ReflectliteValue.method (ReflectliteValue.valueError "reflectlite.Value.Elem" 0) ReflectliteValue.elem #[.agg #[.pointer (some ⟨1, 160, none⟩), .pointer (some a), .int .u64 150]]).run Tryz.prog W
      = .ok (.agg #[.pointer (some ⟨1,156,none⟩),.pointer (some p),.int .u64 386]) W:=by
  rw [rlm]
  simp only [Sem.run_bind,parts119,Result.andThen]
  simp [ReflectliteValue.elem,loadVar,isAgg,underlying,Tryz.underlying160,ha,Result.andThen,elemOf119,mk115]
theorem parts115a (a:Addr) (w:World):(ReflectliteValue.parts (.agg #[.pointer (some ⟨1,156,none⟩),.pointer (some a),.int .u64 386])).run Tryz.prog w = .ok (some (156,a,386)) w:=by kernel_rfl
theorem parts115 (a:Addr) (w:World):(ReflectliteValue.parts (.agg #[.pointer (some ⟨1,156,none⟩),.pointer (some a),.int .u64 130])).run Tryz.prog w = .ok (some (156,a,130)) w:=by kernel_rfl
theorem direct115 (w:World):(Rtype.directlyAssignable 156 156).run Tryz.prog w = .ok true w:=by kernel_rfl
theorem set115 (ta b:Addr) (r:Int) (old:Value) (W:World) (hb:W.cell? b = some (.int .i64 r)) (ht:W.cell? ta = some old) (hf:W.frozen? ta = false) :
    (ReflectliteValue.set #[.agg #[.pointer (some ⟨1,156,none⟩),.pointer (some ta),.int .u64 386],.agg #[.pointer (some ⟨1,156,none⟩),.pointer (some b),.int .u64 130]]).run Tryz.prog W
      = .ok (.tuple #[]) (W.setCell ta (.int .i64 r)):=by
  rw [rls]
  simp only [Sem.run_bind,parts115a,parts115,Result.andThen]
  simp [ReflectliteValue.flagAddr,loadVar,isAgg,underlying,Tryz.underlying156,hb,Result.andThen,direct115,storeVar,Value.cells,storeCells,Addr.add]
  rw [run_store Tryz.prog W ta _ _ (by rfl)]
  simp [ht,hf]

theorem noAs117 (v:Value) (xT:TypeId) (w:World):(Instr.typeAssert (.iface 158 v) xT 242 true).run Tryz.prog w = .ok (.tuple #[.nilIface,.bool false]) w:=run_typeAssert_lacksB Tryz.underlying242 (by kernel_rfl) (by kernel_rfl) v xT w
theorem noIs117 (v:Value) (xT:TypeId) (w:World):(Instr.typeAssert (.iface 158 v) xT 260 true).run Tryz.prog w = .ok (.tuple #[.nilIface,.bool false]) w:=run_typeAssert_lacksB Tryz.underlying260 (by kernel_rfl) (by kernel_rfl) v xT w
theorem hasUnwrap117 (v:Value) (xT:TypeId) (w:World):(Instr.typeAssert (.iface 158 v) xT 245 true).run Tryz.prog w = .ok (.tuple #[.iface 158 v,.bool true]) w:=run_typeAssert_hasB Tryz.underlying245 (by kernel_rfl) v xT w
theorem methodUnwrap (v : Value) (w : World) : (Go.method 413 158 v "Unwrap").run Tryz.prog w = .ok (221, v) w := by kernel_rfl

end
section
open Go.RowKit Go.Extern.Stop Go.Stop Go.Extern

theorem as_nil (t:Value) (w:World) :
    Calls Tryz.prog 87 #[.nilIface,t] w fun e w'=>e = .returned (.bool false)∧w = w':=by
  go_enter Tryz.func87,Tryz.ntmps87
  go_wp2
  go_ret
  exact ⟨rfl,rfl⟩

theorem block_lt_of_cell {w:World} {a:Addr} {v:Value} (h:w.cell? a = some v):a.block < w.heap.size:=by
  rcases Nat.lt_or_ge a.block w.heap.size with h' | h'
  · exact h'
  · simp [World.cell?,Array.getElem?_eq_none h'] at h

set_option maxHeartbeats 4000000 in
set_option maxRecDepth 10000 in
theorem as69_one (s:ByteArray) (n r:Int) (t a:Addr) (old:Value) (w:World) (ha:w.cell? a = some (.pointer (some t))) (ht0:w.cell? t = some old) (hf0:w.frozen? t = false) :
    Calls Tryz.prog 132 #[.iface 158 (.agg #[.string s,.int .i64 n,.iface 156 (.int .i64 r)]),.iface 160 (.pointer (some t)),.agg #[.pointer (some ⟨1,160,none⟩),.pointer (some a),.int .u64 150],.iface 237 (.agg #[.pointer (some ⟨1,156,none⟩)])] w
      fun ev w'=>ev = .returned (.bool true)∧∃ o1 o2 o3,w' = (((w.alloc o1).alloc o2).alloc o3).setCell t (.int .i64 r):=by
  have h66:=@run_callFunc_extern Tryz.prog 129 _ (fun args=>ReflectliteValue.unpack (args.getD 0 (.tuple #[]))) Tryz.func129 (by kernel_rfl) (by kernel_rfl) (by kernel_rfl) (by kernel_rfl)
  have h73:=@run_callFunc_extern Tryz.prog 158 _ ReflectliteType.typeOf Tryz.func158 (by kernel_rfl) (by kernel_rfl) (by kernel_rfl) (by kernel_rfl)
  have h101 := @run_callFunc_extern Tryz.prog 226 _ (ReflectliteType.relation "AssignableTo" ReflectliteType.assignableTo) Tryz.func226 (by kernel_rfl) (by kernel_rfl) (by kernel_rfl) (by kernel_rfl)
  have h74 := @run_callFunc_extern Tryz.prog 159 _ (ReflectliteValue.method (ReflectliteValue.valueError "reflectlite.Value.Elem" 0) ReflectliteValue.elem) Tryz.func159 (by kernel_rfl) (by kernel_rfl) (by kernel_rfl) (by kernel_rfl)
  have h75:=@run_callFunc_extern Tryz.prog 160 _ ReflectliteValue.set Tryz.func160 (by kernel_rfl) (by kernel_rfl) (by kernel_rfl) (by kernel_rfl)
  have f1:=typeOf115
  have f2:=typeOf117
  have f3:=methodAssignableTo
  have f4:=assignable115
  have f5:=assignable117
  have f6:=valueOf115
  have f16:=noAs117
  have f17:=hasUnwrap117
  have f18:=methodUnwrap
  have hal:=block_lt_of_cell ha
  have htl:=block_lt_of_cell ht0
  have ca:∀ o1 o2,((w.alloc o1).alloc o2).cell? a = some (.pointer (some t)):=fun o1 o2=>by
    rw [World.cell?_alloc_lt _ _ a (by simp; omega),World.cell?_alloc_lt _ _ a hal]; exact ha
  have el:=fun o1 o2=>elemV119 a t _ (ca o1 o2)
  have st:=fun o1 o2=>set115 t ⟨w.heap.size + 1 + 1,0,none⟩ r old (((w.alloc o1).alloc o2).alloc (.cells #[.int .i64 r] 156))
    (by rw [World.cell?_alloc_at _ _ _ _ (by simp)]; rfl)
    (by rw [World.cell?_alloc_lt _ _ t (by simp; omega),World.cell?_alloc_lt _ _ t (by simp; omega),World.cell?_alloc_lt _ _ t htl]; exact ht0)
    (by rw [World.frozen?_alloc_old _ _ t (by simp; omega),World.frozen?_alloc_old _ _ t (by simp; omega),World.frozen?_alloc_old _ _ t (by omega)]; exact hf0)
  clear ca
  go_enter Tryz.func132,Tryz.ntmps132
  go_wp2
  refine wp_loop_rounds 2 ?_
  rw [rounds_succ]
  go_wp2
  rw [rounds_succ]
  go_wp2
  go_ret
  exact ⟨rfl,_,_,_,rfl⟩
set_option maxHeartbeats 4000000 in
set_option maxRecDepth 10000 in
theorem as69_two (s s2:ByteArray) (n n2 r:Int) (t a:Addr) (old:Value) (w:World) (ha:w.cell? a = some (.pointer (some t))) (ht0:w.cell? t = some old) (hf0:w.frozen? t = false) :
    Calls Tryz.prog 132 #[.iface 158 (.agg #[.string s,.int .i64 n,.iface 158 (.agg #[.string s2,.int .i64 n2,.iface 156 (.int .i64 r)])]),.iface 160 (.pointer (some t)),.agg #[.pointer (some ⟨1,160,none⟩),.pointer (some a),.int .u64 150],.iface 237 (.agg #[.pointer (some ⟨1,156,none⟩)])] w
      fun ev w'=>ev = .returned (.bool true)∧∃ o1 o2 o3 o4,w' = ((((w.alloc o1).alloc o2).alloc o3).alloc o4).setCell t (.int .i64 r):=by
  have h66:=@run_callFunc_extern Tryz.prog 129 _ (fun args=>ReflectliteValue.unpack (args.getD 0 (.tuple #[]))) Tryz.func129 (by kernel_rfl) (by kernel_rfl) (by kernel_rfl) (by kernel_rfl)
  have h73:=@run_callFunc_extern Tryz.prog 158 _ ReflectliteType.typeOf Tryz.func158 (by kernel_rfl) (by kernel_rfl) (by kernel_rfl) (by kernel_rfl)
  have h101 := @run_callFunc_extern Tryz.prog 226 _ (ReflectliteType.relation "AssignableTo" ReflectliteType.assignableTo) Tryz.func226 (by kernel_rfl) (by kernel_rfl) (by kernel_rfl) (by kernel_rfl)
  have h74 := @run_callFunc_extern Tryz.prog 159 _ (ReflectliteValue.method (ReflectliteValue.valueError "reflectlite.Value.Elem" 0) ReflectliteValue.elem) Tryz.func159 (by kernel_rfl) (by kernel_rfl) (by kernel_rfl) (by kernel_rfl)
  have h75:=@run_callFunc_extern Tryz.prog 160 _ ReflectliteValue.set Tryz.func160 (by kernel_rfl) (by kernel_rfl) (by kernel_rfl) (by kernel_rfl)
  have f1:=typeOf115
  have f2:=typeOf117
  have f3:=methodAssignableTo
  have f4:=assignable115
  have f5:=assignable117
  have f6:=valueOf115
  have f16:=noAs117
  have f17:=hasUnwrap117
  have f18:=methodUnwrap
  have hal:=block_lt_of_cell ha
  have htl:=block_lt_of_cell ht0
  have ca:∀ o1 o2 o3,(((w.alloc o1).alloc o2).alloc o3).cell? a = some (.pointer (some t)):=fun o1 o2 o3=>by
    rw [World.cell?_alloc_lt _ _ a (by simp; omega),World.cell?_alloc_lt _ _ a (by simp; omega),World.cell?_alloc_lt _ _ a hal]; exact ha
  have el:=fun o1 o2 o3=>elemV119 a t _ (ca o1 o2 o3)
  have st:=fun o1 o2 o3=>set115 t ⟨w.heap.size + 1 + 1 + 1,0,none⟩ r old ((((w.alloc o1).alloc o2).alloc o3).alloc (.cells #[.int .i64 r] 156))
    (by rw [World.cell?_alloc_at _ _ _ _ (by simp)]; rfl)
    (by rw [World.cell?_alloc_lt _ _ t (by simp; omega),World.cell?_alloc_lt _ _ t (by simp; omega),World.cell?_alloc_lt _ _ t (by simp; omega),World.cell?_alloc_lt _ _ t htl]; exact ht0)
    (by rw [World.frozen?_alloc_old _ _ t (by simp; omega),World.frozen?_alloc_old _ _ t (by simp; omega),World.frozen?_alloc_old _ _ t (by simp; omega),World.frozen?_alloc_old _ _ t (by omega)]; exact hf0)
  clear ca
  go_enter Tryz.func132,Tryz.ntmps132
  go_wp2
  refine wp_loop_rounds 3 ?_
  rw [rounds_succ]
  go_wp2
  rw [rounds_succ]
  go_wp2
  rw [rounds_succ]
  go_wp2
  go_ret
  exact ⟨rfl,_,_,_,_,rfl⟩
end
section
open Go.RowKit Go.Extern.Stop Go.Stop Go.Extern

set_option maxHeartbeats 4000000 in
set_option maxRecDepth 10000 in
theorem as_one (s:ByteArray) (n r:Int) (t:Addr) (old:Value) (w:World) (hg:w.cell? ⟨0,0,none⟩ = some (.iface 237 (.agg #[.pointer (some ⟨1,104,none⟩)]))) (ht0:w.cell? t = some old) (hf0:w.frozen? t = false) :
    Calls Tryz.prog 87 #[.iface 158 (.agg #[.string s,.int .i64 n,.iface 156 (.int .i64 r)]),.iface 160 (.pointer (some t))] w fun ev w'=>ev = .returned (.bool true)∧w'.cell? t = some (.int .i64 r)∧Below t.block w w':=by
  have h66:=@run_callFunc_extern Tryz.prog 129 _ (fun args=>ReflectliteValue.unpack (args.getD 0 (.tuple #[]))) Tryz.func129 (by kernel_rfl) (by kernel_rfl) (by kernel_rfl) (by kernel_rfl)
  have h67 := @run_callFunc_extern Tryz.prog 130 _ (ReflectliteValue.methodAny (ReflectliteValue.valueError "reflectlite.Value.Type" 0) (fun t _ _ _ => ReflectliteType.toType t)) Tryz.func130 (by kernel_rfl) (by kernel_rfl) (by kernel_rfl) (by kernel_rfl)
  have h68 := @run_callFunc_extern Tryz.prog 131 _ (ReflectliteValue.method (ReflectliteValue.valueError "reflectlite.Value.IsNil" 0) ReflectliteValue.isNil) Tryz.func131 (by kernel_rfl) (by kernel_rfl) (by kernel_rfl) (by kernel_rfl)
  have h91:=@run_callFunc_extern Tryz.prog 216 _ (ReflectliteType.abiMethod fun t=>do pure (.int .u8 (← Rtype.kind t))) Tryz.func216 (by kernel_rfl) (by kernel_rfl) (by kernel_rfl) (by kernel_rfl)
  have h103:=@run_callFunc_extern Tryz.prog 228 _ (ReflectliteType.method ReflectliteType.elem) Tryz.func228 (by kernel_rfl) (by kernel_rfl) (by kernel_rfl) (by kernel_rfl)
  have h104 := @run_callFunc_extern Tryz.prog 229 _ (ReflectliteType.relation "Implements" ReflectliteType.implements_) Tryz.func229 (by kernel_rfl) (by kernel_rfl) (by kernel_rfl) (by kernel_rfl)
  have f7:=valueOf119
  have f8:=type119
  have f9:=methodKind
  have f10:=methodElem
  have f11:=methodImplements
  have f12:=kind119
  have f13:=kind115
  have f14:=elem119
  have f15:=implements115
  have hlt:=block_lt_of_cell hg
  have htl:=block_lt_of_cell ht0
  have n8:=isNil119 ⟨w.heap.size,0,none⟩ t ((w.alloc (.cells #[.pointer (some t)] 160)).alloc (.cells #[.pointer (some ⟨1,160,none⟩),.pointer (some ⟨w.heap.size,0,none⟩),.int .u64 150] 207)) (by simp)
  have hg2:((w.alloc (.cells #[.pointer (some t)] 160)).alloc (.cells #[.pointer (some ⟨1,160,none⟩),.pointer (some ⟨w.heap.size,0,none⟩),.int .u64 150] 207)).cell? ⟨0,0,none⟩ = some (.iface 237 (.agg #[.pointer (some ⟨1,104,none⟩)])):=by
    rw [World.cell?_alloc_lt _ _ ⟨0,0,none⟩ (by simp),World.cell?_alloc_lt _ _ ⟨0,0,none⟩ hlt]; exact hg
  go_enter Tryz.func87,Tryz.ntmps87
  go_wp2_with fail
  refine (as69_one s n r t ⟨w.heap.size,0,none⟩ old _ ?c1 ?c2 ?c3).mono ?_
  case c1=>simp
  case c2=>rw [World.cell?_alloc_lt _ _ t (by first | omega | (simp; omega)),World.cell?_alloc_lt _ _ t htl]; exact ht0
  case c3=>rw [World.frozen?_alloc_old _ _ t (by first | omega | (simp; omega)),World.frozen?_alloc_old _ _ t (by omega)]; exact hf0
  rintro e w' ⟨rfl,o1,o2,o3,rfl⟩
  go_wp2
  go_ret
  refine ⟨rfl,World.cell?_setCell_same _ _ _ (u:=old) ?_,?_⟩
  · rw [World.cell?_alloc_lt _ _ t (by first | omega | (simp; omega)),World.cell?_alloc_lt _ _ t (by first | omega | (simp; omega)),World.cell?_alloc_lt _ _ t (by first | omega | (simp; omega)),World.cell?_alloc_lt _ _ t (by first | omega | (simp; omega)),World.cell?_alloc_lt _ _ t htl]; exact ht0
  · refine Below.setCell ?_ (Nat.le_refl _) _
    exact Below.alloc (Below.alloc (Below.alloc (Below.alloc (Below.alloc (Below.refl _ _) (by first | omega | (simp; omega)) _) (by first | omega | (simp; omega)) _) (by first | omega | (simp; omega)) _) (by first | omega | (simp; omega)) _) (by first | omega | (simp; omega)) _

set_option maxHeartbeats 4000000 in
set_option maxRecDepth 10000 in
theorem as_two (s s2:ByteArray) (n n2 r:Int) (t:Addr) (old:Value) (w:World) (hg:w.cell? ⟨0,0,none⟩ = some (.iface 237 (.agg #[.pointer (some ⟨1,104,none⟩)]))) (ht0:w.cell? t = some old) (hf0:w.frozen? t = false) :
    Calls Tryz.prog 87 #[.iface 158 (.agg #[.string s,.int .i64 n,.iface 158 (.agg #[.string s2,.int .i64 n2,.iface 156 (.int .i64 r)])]),.iface 160 (.pointer (some t))] w fun ev w'=>ev = .returned (.bool true)∧w'.cell? t = some (.int .i64 r)∧Below t.block w w':=by
  have h66:=@run_callFunc_extern Tryz.prog 129 _ (fun args=>ReflectliteValue.unpack (args.getD 0 (.tuple #[]))) Tryz.func129 (by kernel_rfl) (by kernel_rfl) (by kernel_rfl) (by kernel_rfl)
  have h67 := @run_callFunc_extern Tryz.prog 130 _ (ReflectliteValue.methodAny (ReflectliteValue.valueError "reflectlite.Value.Type" 0) (fun t _ _ _ => ReflectliteType.toType t)) Tryz.func130 (by kernel_rfl) (by kernel_rfl) (by kernel_rfl) (by kernel_rfl)
  have h68 := @run_callFunc_extern Tryz.prog 131 _ (ReflectliteValue.method (ReflectliteValue.valueError "reflectlite.Value.IsNil" 0) ReflectliteValue.isNil) Tryz.func131 (by kernel_rfl) (by kernel_rfl) (by kernel_rfl) (by kernel_rfl)
  have h91:=@run_callFunc_extern Tryz.prog 216 _ (ReflectliteType.abiMethod fun t=>do pure (.int .u8 (← Rtype.kind t))) Tryz.func216 (by kernel_rfl) (by kernel_rfl) (by kernel_rfl) (by kernel_rfl)
  have h103:=@run_callFunc_extern Tryz.prog 228 _ (ReflectliteType.method ReflectliteType.elem) Tryz.func228 (by kernel_rfl) (by kernel_rfl) (by kernel_rfl) (by kernel_rfl)
  have h104 := @run_callFunc_extern Tryz.prog 229 _ (ReflectliteType.relation "Implements" ReflectliteType.implements_) Tryz.func229 (by kernel_rfl) (by kernel_rfl) (by kernel_rfl) (by kernel_rfl)
  have f7:=valueOf119
  have f8:=type119
  have f9:=methodKind
  have f10:=methodElem
  have f11:=methodImplements
  have f12:=kind119
  have f13:=kind115
  have f14:=elem119
  have f15:=implements115
  have hlt:=block_lt_of_cell hg
  have htl:=block_lt_of_cell ht0
  have n8:=isNil119 ⟨w.heap.size,0,none⟩ t ((w.alloc (.cells #[.pointer (some t)] 160)).alloc (.cells #[.pointer (some ⟨1,160,none⟩),.pointer (some ⟨w.heap.size,0,none⟩),.int .u64 150] 207)) (by simp)
  have hg2:((w.alloc (.cells #[.pointer (some t)] 160)).alloc (.cells #[.pointer (some ⟨1,160,none⟩),.pointer (some ⟨w.heap.size,0,none⟩),.int .u64 150] 207)).cell? ⟨0,0,none⟩ = some (.iface 237 (.agg #[.pointer (some ⟨1,104,none⟩)])):=by
    rw [World.cell?_alloc_lt _ _ ⟨0,0,none⟩ (by simp),World.cell?_alloc_lt _ _ ⟨0,0,none⟩ hlt]; exact hg
  go_enter Tryz.func87,Tryz.ntmps87
  go_wp2_with fail
  refine (as69_two s s2 n n2 r t ⟨w.heap.size,0,none⟩ old _ ?c1 ?c2 ?c3).mono ?_
  case c1=>simp
  case c2=>rw [World.cell?_alloc_lt _ _ t (by first | omega | (simp; omega)),World.cell?_alloc_lt _ _ t htl]; exact ht0
  case c3=>rw [World.frozen?_alloc_old _ _ t (by first | omega | (simp; omega)),World.frozen?_alloc_old _ _ t (by omega)]; exact hf0
  rintro e w' ⟨rfl,o1,o2,o3,o4,rfl⟩
  go_wp2
  go_ret
  refine ⟨rfl,World.cell?_setCell_same _ _ _ (u:=old) ?_,?_⟩
  · rw [World.cell?_alloc_lt _ _ t (by first | omega | (simp; omega)),World.cell?_alloc_lt _ _ t (by first | omega | (simp; omega)),World.cell?_alloc_lt _ _ t (by first | omega | (simp; omega)),World.cell?_alloc_lt _ _ t (by first | omega | (simp; omega)),World.cell?_alloc_lt _ _ t (by first | omega | (simp; omega)),World.cell?_alloc_lt _ _ t htl]; exact ht0
  · refine Below.setCell ?_ (Nat.le_refl _) _
    exact Below.alloc (Below.alloc (Below.alloc (Below.alloc (Below.alloc (Below.alloc (Below.refl _ _) (by first | omega | (simp; omega)) _) (by first | omega | (simp; omega)) _) (by first | omega | (simp; omega)) _) (by first | omega | (simp; omega)) _) (by first | omega | (simp; omega)) _) (by first | omega | (simp; omega)) _
end
section
open Go.RowKit

def Handle (w:World):Prop:=w.cell? ⟨0,0,none⟩ = some (.iface 237 (.agg #[.pointer (some ⟨1,104,none⟩)]))

theorem Handle.lt {w:World} (h:Handle w):0 < w.heap.size:=block_lt_of_cell (a:=⟨0,0,none⟩) h
theorem Handle.alloc {w:World} (h:Handle w) (o:Obj):Handle (w.alloc o):=by
  unfold Handle; rw [World.cell?_alloc_lt _ _ ⟨0,0,none⟩ h.lt]; exact h

set_option maxHeartbeats 400000 in
theorem errno_nil (w:World) :
    Calls Tryz.prog 43 #[.nilIface] w fun e w'=>e = .returned (.int .i64 0)∧Below w.heap.size w w':=by
  go_enter Tryz.func43,Tryz.ntmps43
  go_wp2_with (go_at_call 87; refine (as_nil _ _).mono ?_; rintro e w' ⟨rfl,rfl⟩)
  go_ret
  exact ⟨rfl,(Below.refl _ _).alloc (Nat.le_refl _) _⟩

set_option maxHeartbeats 1000000 in
theorem errno_one (s:ByteArray) (n r:Int) (w:World) (hg:Handle w) :
    Calls Tryz.prog 43 #[.iface 158 (.agg #[.string s,.int .i64 n,.iface 156 (.int .i64 r)])] w fun e w'=>e = .returned (.int .i64 r)∧Below w.heap.size w w':=by
  go_enter Tryz.func43,Tryz.ntmps43
  go_wp2_with fail
  refine (as_one s n r ⟨w.heap.size,0,none⟩ (.int .i64 0) _ (hg.alloc _) ?c2 ?c3).mono ?_
  case c2=>simp
  case c3=>simp
  rintro e w1 ⟨rfl,hc,hb⟩
  go_wp2
  go_ret
  exact ⟨rfl,((Below.refl _ _).alloc (Nat.le_refl _) _).trans hb⟩

set_option maxHeartbeats 1000000 in
theorem errno_two (s s2:ByteArray) (n n2 r:Int) (w:World) (hg:Handle w) :
    Calls Tryz.prog 43 #[.iface 158 (.agg #[.string s,.int .i64 n,.iface 158 (.agg #[.string s2,.int .i64 n2,.iface 156 (.int .i64 r)])])] w fun e w'=>e = .returned (.int .i64 r)∧Below w.heap.size w w':=by
  go_enter Tryz.func43,Tryz.ntmps43
  go_wp2_with fail
  refine (as_two s s2 n n2 r ⟨w.heap.size,0,none⟩ (.int .i64 0) _ (hg.alloc _) ?c2 ?c3).mono ?_
  case c2=>simp
  case c3=>simp
  rintro e w1 ⟨rfl,hc,hb⟩
  go_wp2
  go_ret
  exact ⟨rfl,((Below.refl _ _).alloc (Nat.le_refl _) _).trans hb⟩
end
section
open Go.RowKit Go.Extern.Stop Go.Stop Go.Extern

theorem comparable115 (w:World):(callFunc 227 #[.agg #[.pointer (some ⟨1,156,none⟩)]]).run Tryz.prog w = .ok (.value (.bool true)) w:=by kernel_rfl
theorem methodComparable (v : Value) (w : World) : (Go.method 413 237 v "Comparable").run Tryz.prog w = .ok (227, v) w := by kernel_rfl
theorem eql5 (w:World):(binOp .eql 104 (.iface 156 (.int .i64 5)) (.iface 156 (.int .i64 5))).run Tryz.prog w = .ok (.bool true) w:=by kernel_rfl

theorem is_nil (w:World) :
    Calls Tryz.prog 133 #[.nilIface,.iface 156 (.int .i64 5)] w fun e w'=>e = .returned (.bool false)∧w = w':=by
  have hn:=run_eql_iface_nil_left (P:=Tryz.prog) w 156 (.int .i64 5) Tryz.underlying104
  go_enter Tryz.func133,Tryz.ntmps133
  go_wp2
  go_ret
  exact ⟨rfl,rfl⟩

set_option maxHeartbeats 4000000 in
set_option maxRecDepth 10000 in
theorem is_none (s:ByteArray) (n:Int) (w:World) :
    Calls Tryz.prog 133 #[.iface 158 (.agg #[.string s,.int .i64 n,.iface 156 (.int .i64 5)]),.iface 156 (.int .i64 5)] w fun e w'=>e = .returned (.bool true)∧w.alloc (.cells #[.string s,.int .i64 n,.iface 156 (.int .i64 5)] 158) = w':=by
  have h73:=@run_callFunc_extern Tryz.prog 158 _ ReflectliteType.typeOf Tryz.func158 (by kernel_rfl) (by kernel_rfl) (by kernel_rfl) (by kernel_rfl)
  have f1:=typeOf115
  have f2:=comparable115
  have f3:=methodComparable
  have f16:=noIs117
  have f17:=hasUnwrap117
  have f18:=methodUnwrap
  have f19:=eql5
  have hty:=fun v w=>run_eql_iface_types (P:=Tryz.prog) 158 156 v (.int .i64 5) Tryz.underlying104 (by decide) w
  go_enter Tryz.func133,Tryz.ntmps133
  go_wp2
  refine wp_loop_rounds 2 ?_
  rw [rounds_succ]
  go_wp2
  rw [rounds_succ]
  go_wp2
  go_ret
  exact ⟨rfl,rfl⟩
end
section
open Go.RowKit

def IsErr (r:Int) (v:Value):Prop :=
  (r = 0∧v = .nilIface) ∨ (r ≠ 0∧((∃ s n,v = .iface 158 (.agg #[.string s,.int .i64 n,.iface 156 (.int .i64 r)])) ∨
    ∃ s n s2 n2,v = .iface 158 (.agg #[.string s,.int .i64 n,.iface 158 (.agg #[.string s2,.int .i64 n2,.iface 156 (.int .i64 r)])])))

def IntsAt (w:World) (v:Value) (xs:List Int):Prop :=
  ∃ a cap,v = .slice a xs.length cap∧xs.length≤cap∧xs.length≤17592186044416 ∧
    (xs = [] ∨ ∃ b off,a = some ⟨b,off,none⟩∧∀ i,i < xs.length→w.cell? ⟨b,off + i,none⟩ = some (.int .i64 (xs.getD i 0)))

def coordB (x:Int):Bool:=inB x (-1048576) 1048576

def ptCode (dim:Int) (xs:List Int):Int:=if (xs.length:Int) = dim then (if xs.all coordB then 0 else 3) else 2

theorem all_snoc (xs:List Int) (k:Nat) (h:k < xs.length):(xs.take (k + 1)).all coordB = ((xs.take k).all coordB && coordB (xs.getD k 0)):=by
  rw [List.take_succ_eq_append_getElem h,List.all_append]
  simp [List.getD_eq_getElem?_getD,h]

end
section
open Go.RowKit

theorem info3:(Tryz.prog.info? 3).map (fun i=>(i.zero,i.size,i.bytes)) = some (some (.int .i64 0),1,8):=by kernel_rfl

def vals (xs:List Int):List Value:=xs.map (Value.int .i64)
theorem vals_length (xs:List Int):(vals xs).length = xs.length:=by simp [vals]
theorem vals_get {xs:List Int} {j:Nat} {u:Value} (h:(vals xs)[j]? = some u):j < xs.length∧u = .int .i64 (xs.getD j 0):=by
  unfold vals at h
  rw [List.getElem?_map] at h
  obtain ⟨x,hx,rfl⟩:=Option.map_eq_some_iff.1 h
  obtain ⟨hlt,he⟩:=List.getElem?_eq_some_iff.1 hx
  exact ⟨hlt,by simp [List.getD_eq_getElem?_getD,hx]⟩
theorem vals_one (xs:List Int):∀ u ∈ vals xs,u.oneCell' = true:=by
  intro u hu
  obtain ⟨x,_,rfl⟩:=List.mem_map.1 hu
  rfl
theorem addr_add (b off j:Nat):(⟨b,off,none⟩:Addr).add j = ⟨b,off + j,none⟩:=by
  unfold Addr.add
  split
  · subst_vars; rfl
  · rfl

set_option maxHeartbeats 1000000 in
theorem clone_any (xs:List Int) (b off cap:Nat) (w:World) (h0:0 < xs.length) (hm:xs.length≤17592186044416)
    (hc:∀ i,i < xs.length→w.cell? ⟨b,off + i,none⟩ = some (.int .i64 (xs.getD i 0))) :
    Calls Tryz.prog 134 #[.slice (some ⟨b,off,none⟩) xs.length cap] w fun e w'=>∃ g cap',e = .returned (.slice (some ⟨g,0,none⟩) xs.length cap')∧w.heap.size≤g∧Pts w' g cap' xs∧Below w.heap.size w w':=by
  obtain ⟨i0,hi,hz0,hz1,hz2⟩:=info_parts info3
  have hn:=fun w=>Go.run_eql_slice_nil (P:=Tryz.prog) w 32 3 (some ⟨b,off,none⟩) xs.length cap Tryz.underlying32
  have hbl:b < w.heap.size:=by
    have:=hc 0 h0
    exact block_lt_of_cell this
  have hown:=World.ownsRow_made (base:=w.heap.size) (e:=3) (size:=1) w #[] 0 (Nat.le_refl _) (by simp [maxLen]) (by simp)
  have hnews:∀ j u,(vals xs)[j]? = some u→(w.alloc (.cells #[] 3)).cell? ((⟨b,off,none⟩:Addr).add j) = some u:=by
    intro j u hj
    obtain ⟨hlt,rfl⟩:=vals_get hj
    rw [addr_add,World.cell?_alloc_lt _ _ _ (by exact hbl)]
    exact hc j hlt
  have HN:Hid (∀ j u,(vals xs)[j]? = some u→(w.alloc (.cells #[] 3)).cell? ((⟨b,off,none⟩:Addr).add j) = some u):=hnews
  clear hnews hc
  go_enter Tryz.func134,Tryz.ntmps134
  go_wp2_with (at_builtin; refine wpList_append_lies _ rfl _ _ 32 rfl w.heap.size 3 i0 (.int .i64 0) 1 8 Tryz.underlying32 hi hz0 hz1 hz2 rfl (by decide) (.slice (some ⟨w.heap.size,0,none⟩) 0 0) 0 [] rfl hown ⟨b,off,none⟩ xs.length cap (vals xs) rfl (by simp [vals]) HN.out (vals_one xs) h0 (by unfold maxLen; omega) (by omega) (by simp) (w.heap.size + 1) (by simp) ?_; intro g cap' w1 hown1 hgrow hat hlt)
  go_ret
  simp only [Nat.zero_add,List.nil_append] at hown1 ⊢
  refine ⟨g,cap',rfl,?_,ownsRow_zero hown1,?_⟩
  · rcases hat with h | h
    · have:w.heap.size = g:=by simpa [Value.ownBlock] using h
      omega
    · omega
  · exact ((Below.refl w.heap.size w).alloc (Nat.le_refl _) _).grown hgrow (by simp) (fun k hk=>Nat.le_of_eq (by simpa [Value.ownBlock] using hk))

set_option maxHeartbeats 1000000 in
theorem copied56_any (id t0 t1:Int) (xs:List Int) (b off cap:Nat) (w:World) (h0:0 < xs.length) (hm:xs.length≤17592186044416)
    (hc:∀ i,i < xs.length→w.cell? ⟨b,off + i,none⟩ = some (.int .i64 (xs.getD i 0))) :
    Calls Tryz.prog 89 #[.agg #[.int .i64 id,.slice (some ⟨b,off,none⟩) xs.length cap,.int .i64 t0,.int .i64 t1]] w fun e w'=>∃ g cap',e = .returned (.agg #[.int .i64 id,.slice (some ⟨g,0,none⟩) xs.length cap',.int .i64 t0,.int .i64 t1])∧w.heap.size≤g∧Pts w' g cap' xs∧Below w.heap.size w w':=by
  have hbl:b < w.heap.size:=by
    have:=hc 0 h0
    exact block_lt_of_cell this
  have HC:Hid (∀ i,i < xs.length→w.cell? ⟨b,off + i,none⟩ = some (.int .i64 (xs.getD i 0))):=hc
  clear hc
  go_enter Tryz.func89,Tryz.ntmps89
  go_wp2_with fail
  refine (clone_any xs b off cap _ h0 hm ?c1).mono ?_
  case c1 =>
    intro i hi
    rw [World.cell?_alloc_lt _ _ _ (by simp; omega),World.cell?_alloc_lt _ _ _ (by exact hbl)]
    exact HC.out i hi
  rintro e w1 ⟨g,cap',rfl,hg,hown,hb⟩
  have hz:w.heap.size + 1 < w1.heap.size:=by have:=hb.size; simp at this; omega
  have k0:w1.cell? ⟨w.heap.size,0,none⟩ = some (.int .i64 id):=(hb.cell (p:=⟨_,0,none⟩) (by simp <;> omega)).trans (by simp)
  have k1:w1.cell? ⟨w.heap.size,1,none⟩ = some (.slice (some ⟨b,off,none⟩) xs.length cap):=(hb.cell (p:=⟨_,1,none⟩) (by simp <;> omega)).trans (by simp)
  have k2:w1.cell? ⟨w.heap.size,2,none⟩ = some (.int .i64 t0):=(hb.cell (p:=⟨_,2,none⟩) (by simp <;> omega)).trans (by simp)
  have k3:w1.cell? ⟨w.heap.size,3,none⟩ = some (.int .i64 t1):=(hb.cell (p:=⟨_,3,none⟩) (by simp <;> omega)).trans (by simp)
  have l0:w1.cell? ⟨w.heap.size + 1,0,none⟩ = some (.int .i64 0):=(hb.cell (p:=⟨_,0,none⟩) (by simp <;> omega)).trans (by simp)
  have l1:w1.cell? ⟨w.heap.size + 1,1,none⟩ = some (.slice none 0 0):=(hb.cell (p:=⟨_,1,none⟩) (by simp <;> omega)).trans (by simp)
  have l2:w1.cell? ⟨w.heap.size + 1,2,none⟩ = some (.int .i64 0):=(hb.cell (p:=⟨_,2,none⟩) (by simp <;> omega)).trans (by simp)
  have l3:w1.cell? ⟨w.heap.size + 1,3,none⟩ = some (.int .i64 0):=(hb.cell (p:=⟨_,3,none⟩) (by simp <;> omega)).trans (by simp)
  have fk:∀ o,w1.frozen? ⟨w.heap.size,o,none⟩ = false:=fun o=>(hb.frozen (p:=⟨_,o,none⟩) (by simp <;> omega)).trans (by simp)
  have fl:∀ o,w1.frozen? ⟨w.heap.size + 1,o,none⟩ = false:=fun o=>(hb.frozen (p:=⟨_,o,none⟩) (by simp <;> omega)).trans (by simp)
  have HO:=hide hown
  have HG:=hide hg
  have HB:=hide hb
  clear hown hg hb
  go_wp2
  refine bodyPost_ret (v:=.agg #[.int .i64 id,.slice (some ⟨g,0,none⟩) xs.length cap',.int .i64 t0,.int .i64 t1]) (by simp [results,Tryz.results89,go_sem,l0,l1,l2,l3]) rfl ⟨g,cap',rfl,?_,?_,?_⟩
  · have:=HG.out; simp at this; omega
  · have hg:=HG.out
    simp at hg
    refine ownsRow_of_block HO.out fun g' e'=>?_
    obtain rfl:g = g':=by simpa [Value.ownBlock] using e'
    repeat rw [Below.heap_setCell _ _ _ _ (by simp; omega)]
  · repeat refine Below.setCell ?_ (by simp) _
    exact (((Below.refl _ _).alloc (Nat.le_refl _) _).alloc (by simp) _).trans (HB.out.mono (by simp; omega))
end
section
open Go.RowKit

section
variable {w:World} {base e size g n cap:Nat} {xs:List Value}
theorem ownsRow_parts (h:w.ownsRow base e size (.slice (some ⟨g,0,none⟩) n cap) n xs) :
    ∃ cur:Array Value,base≤g∧w.heap[g]? = some (.cells cur e (0,0))∧n≤cap∧cap≤maxLen∧cur.size = cap * size∧cur.toList.take (n * size) = xs:=by
  rcases h.2 with ⟨h,_⟩ | ⟨g',cap',cur,hv,r⟩
  · cases h
  · simp only [Value.slice.injEq,Option.some.injEq,Addr.mk.injEq] at hv
    obtain ⟨⟨rfl,_⟩,_,rfl⟩:=hv
    exact ⟨cur,r⟩
theorem ownsRow_set (h:w.ownsRow base e size (.slice (some ⟨g,0,none⟩) n cap) n xs) (j:Nat) (u:Value):(w.setCell ⟨g,j,none⟩ u).ownsRow base e size (.slice (some ⟨g,0,none⟩) n cap) n (xs.set j u):=by
  obtain ⟨cur,h1,h2,h3,h4,h5,h6⟩:=ownsRow_parts h
  refine ⟨by rw [List.length_set]; exact h.1,.inr ⟨g,cap,cur.setIfInBounds j u,rfl,h1,heap_setCell_same w g j cur e u h2,h3,h4,by simpa using h5,?_⟩⟩
  rw [Array.toList_setIfInBounds,List.take_set,h6]
theorem ownsRow_frozen (h:w.ownsRow base e size (.slice (some ⟨g,0,none⟩) n cap) n xs) (j:Nat):w.frozen? ⟨g,j,none⟩ = false:=by
  obtain ⟨cur,h1,h2,_⟩:=ownsRow_parts h
  simp [World.frozen?,h2]
theorem ownsRow_cell (h:w.ownsRow base e size (.slice (some ⟨g,0,none⟩) n cap) n xs) {j:Nat} {u:Value} (hj:xs[j]? = some u):w.cell? ⟨g,j,none⟩ = some u:=by
  have:=h.cells (g:=g) rfl j u hj
  rw [addr_add] at this
  simpa using this
theorem ownsRow_len (h:w.ownsRow base e size (.slice (some ⟨g,0,none⟩) n cap) n xs):n≤cap:=by
  obtain ⟨cur,_,_,h3,_⟩:=ownsRow_parts h; exact h3
end

theorem Pts.set {w:World} {g cap:Nat} {xs:List Int} (h:Pts w g cap xs) (j:Nat) (x:Int):Pts (w.setCell ⟨g,j,none⟩ (.int .i64 x)) g cap (xs.set j x):=by
  have:=ownsRow_set h j (.int .i64 x)
  unfold Pts
  rw [List.length_set,List.map_set]
  exact this
theorem Pts.at {w:World} {g cap:Nat} {xs:List Int} (h:Pts w g cap xs) {i:Nat} (hi:i < xs.length):w.cell? ⟨g,i,none⟩ = some (.int .i64 (xs.getD i 0)):=by
  have:=h.cell i hi
  simpa using this

section
variable {P:Program} (w:World)
theorem run_append_any (base:Nat) (t ty e:TypeId) (i:TypeInfo) (z:Value) (size bytes:Nat) (ht:P.underlying t = some (.slice e)) (hi:P.info? e = some i) (hz:i.zero = some z)
    (hsize:i.size = size) (hby:i.bytes = bytes) (hzs:z.cells.size = size) (hsz:0 < size)
    (v:Value) (n:Nat) (xs:List Value) (hown:w.ownsRow base e size v n xs)
    (sa:Option Addr) (m c:Nat) (news:List Value) (hl:news.length = m * size) (hnews:0 < m→∃ a,sa = some a∧∀ j u,news[j]? = some u→w.cell? (a.add j) = some u) (h1:∀ u ∈ news,u.oneCell' = true)
    (h63:n + m≤maxLen) (hbytes:(n + m) * bytes≤140737488355328) (hbase:base≤w.heap.size) :
    ∃ v' w',(Builtin.append_ #[t,t] ty #[v,.slice sa m c]).run P w = .ok v' w'∧w'.ownsRow base e size v' (n + m) (xs ++ news)∧w.grownBy w' v.ownBlock ∧
      (v'.ownBlock = v.ownBlock ∨ v'.ownBlock = some w.heap.size):=by
  by_cases hm:0 < m
  · obtain ⟨a,rfl,hn⟩:=hnews hm
    obtain ⟨v',w',hr,h2,h3,_,h5⟩:=run_append_own_at (P:=P) w base t ty e i z size bytes ht hi hz hsize hby hzs hsz v n xs hown a m c news hl hn h1 h63 hbytes hbase
    exact ⟨v',w',hr,h2,h3,h5⟩
  · obtain rfl:m = 0:=by omega
    obtain rfl:news = []:=List.eq_nil_of_length_eq_zero (by simpa using hl)
    refine ⟨v,w,?_,by simpa using hown,⟨rfl,rfl,rfl,Nat.le_refl _,fun _ _ _=>rfl⟩,.inl rfl⟩
    rcases hown.2 with ⟨rfl,rfl⟩ | ⟨g,cap,cur,rfl,_,hg,hnc,_⟩
    · cases sa <;> simp [Builtin.append_,run_underlying ht,sizeOf,typeInfo,hi,Builtin.lenOf,Builtin.firstCells,loadCells,loadCellsFrom]
    · cases sa <;> simp [Builtin.append_,run_underlying ht,sizeOf,typeInfo,hi,Builtin.lenOf,Builtin.firstCells,loadCells,loadCellsFrom,hnc,storeCells]

theorem wpList_append_any {ops:Array Oper} {rest:List Oper} {o:Oper} {a:Act} {Q:Exit→Act→World→Prop} (hgd:o.guard = none) (s x:Operand) (t:TypeId)
    (ho:o.op = .call { callee:=.builtin .append,args:=#[s,x],argTypes:=#[t,t] })
    (base:Nat) (e:TypeId) (i:TypeInfo) (z:Value) (size bytes:Nat) (ht:P.underlying t = some (.slice e)) (hi:P.info? e = some i) (hz:i.zero = some z)
    (hsize:i.size = size) (hby:i.bytes = bytes) (hzs:z.cells.size = size) (hsz:0 < size)
    (v:Value) (n:Nat) (xs:List Value) (hs:a.eval s = v) (hown:w.ownsRow base e size v n xs)
    (sa:Option Addr) (m c:Nat) (news:List Value) (hx:a.eval x = .slice sa m c) (hl:news.length = m * size) (hnews:0 < m→∃ a,sa = some a∧∀ j u,news[j]? = some u→w.cell? (a.add j) = some u) (h1:∀ u ∈ news,u.oneCell' = true)
    (h63:n + m≤maxLen) (hbytes:(n + m) * bytes≤140737488355328) (hbase:base≤w.heap.size)
    (h:∀ v' w',w'.ownsRow base e size v' (n + m) (xs ++ news)→w.grownBy w' v.ownBlock→(v'.ownBlock = v.ownBlock ∨ v'.ownBlock = some w.heap.size)→wpList P ops Q rest (a.put o.dst v') w') :
    wpList P ops Q (o :: rest) a w:=by
  refine wpList_plain hgd fun K hK=>?_
  obtain ⟨v',w',hr,h2,h3,h5⟩:=run_append_any (P:=P) w base t o.type e i z size bytes ht hi hz hsize hby hzs hsz v n xs hown sa m c news hl hnews h1 h63 hbytes hbase
  unfold Oper.wp execOp
  simp only [ho,resolve,invoke,builtin,Sem.run_bind,Sem.run_pure,Result.andThen_ok,List.map_toArray,List.map_cons,List.map_nil,hs,hx,hr]
  exact hK _ _ (h v' w' h2 h3 h5)
end
end
end Go.Proofs.YtpkiefjanmfgfaaGreatDoor
