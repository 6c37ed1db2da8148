import Derived.Laws.CopyOwn
import Derived.Test.YtpkiefjanmfgfaaGreatDoorAll15
import Derived.Test.YtpkiefjanmfgfaaGreatDoorAll22
namespace Go.Proofs.YtpkiefjanmfgfaaGreatDoor
section
open Go.RowKit

theorem info72:(Tryz.prog.info? 72).map (fun i=>(i.zero,i.size,i.bytes)) = some (some (.agg #[.int .i64 0,.int .i64 0,.int .i64 0]),3,24):=by kernel_rfl
theorem info73:(Tryz.prog.info? 73).map (fun i=>(i.zero,i.size,i.bytes)) = some (some (.slice none 0 0),1,24):=by kernel_rfl
theorem size72:(Tryz.prog.info? 72).map (·.size) = some 3:=by kernel_rfl

def ccell (c:Cnd):List Value:=[.int .i64 c.1,.int .i64 c.2.1,.int .i64 c.2.2]
def ccells (cs:List Cnd):List Value:=cs.flatMap ccell
theorem ccells_append (a b:List Cnd):ccells (a ++ b) = ccells a ++ ccells b:=by simp [ccells]
theorem ccells_len:∀ cs:List Cnd,(ccells cs).length = cs.length * 3
  | []=>rfl
  | c :: cs=>by
    have:=ccells_len cs
    unfold ccells at this ⊢
    simp only [List.flatMap_cons,List.length_append,this,List.length_cons]
    simp [ccell]
    omega
theorem ccells_get:∀ (cs:List Cnd) (k j:Nat) (_:k < cs.length),j < 3→(ccells cs)[k * 3 + j]? = (ccell (cs.getD k (0,0,0)))[j]?
  | c :: cs,0,j,_,hj=>by
    unfold ccells
    rw [List.flatMap_cons,List.getElem?_append_left (by simp [ccell]; omega)]
    simp
  | c :: cs,k + 1,j,hk,hj=>by
    have ih:=ccells_get cs k j (by simpa using hk) hj
    unfold ccells at ih ⊢
    rw [List.flatMap_cons,List.getElem?_append_right (by simp [ccell]; omega)]
    have e1:(k + 1) * 3 + j - (ccell c).length = k * 3 + j:=by simp [ccell]; omega
    rw [e1,ih]
    simp
theorem ccells_one (cs:List Cnd):∀ u ∈ ccells cs,u.oneCell' = true:=by
  intro u hu
  obtain ⟨e,_,he⟩:=List.mem_flatMap.1 hu
  simp [ccell] at he
  rcases he with rfl | rfl | rfl <;> rfl

def cutS (k:Nat) (c:List Cnd):Value:=.slice (some ⟨k,0,none⟩) c.length (c.length + 1)
def fullS (k:Nat) (c:List Cnd):Value:=.slice (some ⟨k,0,none⟩) (c.length + 1) (c.length + 1)
def ClsAt (w:World) (k:Nat) (c:List Cnd):Prop:=w.heap[k]? = some (.cells (ccells (c ++ [(77,0,0)])).toArray 72 (0,0))

structure LdS (w0 w:World) (fv:Value) (F:List (List Cnd)) (ks:List Nat) (mv:Value):Prop where
  box:w.heap[w0.heap.size]? = some (.cells #[fv] 47 (0,0))
  res:w.heap[w0.heap.size + 1]? = some (.cells #[.slice none 0 0,.slice none 0 0] 141 (0,0))
  all:w.heap[w0.heap.size + 2]? = some (.cells (List.zipWith cutS ks F ++ List.replicate (F.length + 1 - ks.length) (Value.slice none 0 0)).toArray 73 (0,0))
  g:w.heap[w0.heap.size + 3]? = some (.cells #[.slice (some ⟨w0.heap.size + 2,0,none⟩) (F.length + 1) (F.length + 1),mv] 141 (0,0))
  mine:w.ownsRow 0 73 1 mv ks.length (List.zipWith fullS ks F)
  len:ks.length≤F.length
  cls:∀ i,i < ks.length→ClsAt w (ks.getD i 0) (F.getD i [])
  nod:ks.Nodup
  new:∀ k ∈ ks,w0.heap.size + 4≤k
  mnew:∀ g,mv.ownBlock = some g→w0.heap.size + 4≤g
  below:Below w0.heap.size w0 w

theorem blk_grownL {w w1:World} {o b:Obj} {X:Nat} {row:Option Nat} (h:w.heap[X]? = some b) (hg:(w.alloc o).grownBy w1 row) (hne:row ≠ some X):w1.heap[X]? = some b:=by
  have hlt:=(Array.getElem?_eq_some_iff.1 h).1
  exact (hg.block X (by simp; omega) (fun e=>hne e.symm)).trans ((Below.heap_alloc _ _ _ hlt).trans h)

section
variable {w0 w w':World} {fv mv mv':Value} {F:List (List Cnd)} {ks:List Nat}
theorem LdS.on (h:LdS w0 w fv F ks mv) (hb:Below w.heap.size w w'):LdS w0 w' fv F ks mv:=by
  have st:∀ {k:Nat} {o:Obj},w.heap[k]? = some o→w'.heap[k]? = some o:=fun hk=>(hb.block _ (Array.getElem?_eq_some_iff.1 hk).1).trans hk
  exact ⟨st h.box,st h.res,st h.all,st h.g,ownsRow_below h.mine hb,h.len,fun i hi=>st (h.cls i hi),h.nod,h.new,h.mnew,h.below.trans (hb.mono h.below.size)⟩
theorem zip_snoc {α β γ:Type} (f:α→β→γ):∀ (ks:List α) (F:List β) (k:α) (c:β),F[ks.length]? = some c→List.zipWith f (ks ++ [k]) F = List.zipWith f ks F ++ [f k c]
  | [],c0 :: F,k,c,h=>by simp at h; simp [h]
  | k0 :: ks,c0 :: F,k,c,h=>by
    have ih:=zip_snoc f ks F k c (by simpa using h)
    simp [ih]
  | [],[],_,_,h=>by simp at h
  | _ :: _,[],_,_,h=>by simp at h
theorem LdS.step {K:Nat} {c:List Cnd} {o:Obj} {w5:World} (h:LdS w0 w fv F ks mv) (hc:F[ks.length]? = some c) (hK:ClsAt w K c) (hKn:K ∉ ks) (hK4:w0.heap.size + 4≤K)
    (ho:w5.ownsRow 0 73 1 mv' (ks.length + 1) (List.zipWith fullS ks F ++ [fullS K c])) (hg:(w.alloc o).grownBy w5 mv.ownBlock) (hl:mv'.ownBlock = mv.ownBlock ∨ mv'.ownBlock = some (w.heap.size + 1)) :
    w5.cell? ⟨w0.heap.size + 3,1,none⟩ = some mv∧w5.frozen? ⟨w0.heap.size + 3,1,none⟩ = false ∧
      (w5.setCell ⟨w0.heap.size + 3,1,none⟩ mv').cell? ⟨w0.heap.size + 3,0,none⟩ = some (.slice (some ⟨w0.heap.size + 2,0,none⟩) (F.length + 1) (F.length + 1)) ∧
      (w5.setCell ⟨w0.heap.size + 3,1,none⟩ mv').cell? ⟨w0.heap.size + 2,ks.length,none⟩ = some (.slice none 0 0)∧(w5.setCell ⟨w0.heap.size + 3,1,none⟩ mv').frozen? ⟨w0.heap.size + 2,ks.length,none⟩ = false ∧
      LdS w0 ((w5.setCell ⟨w0.heap.size + 3,1,none⟩ mv').setCell ⟨w0.heap.size + 2,ks.length,none⟩ (cutS K c)) fv F (ks ++ [K]) mv':=by
  have hlt:ks.length < F.length:=by
    rcases Nat.lt_or_ge ks.length F.length with h | h
    · exact h
    · rw [List.getElem?_eq_none h] at hc; cases hc
  have st:∀ {k:Nat} {b:Obj},w.heap[k]? = some b→mv.ownBlock ≠ some k→w5.heap[k]? = some b:=fun hk hne=>blk_grownL hk hg hne
  have mne:∀ k,k < w0.heap.size + 4→mv.ownBlock ≠ some k:=fun k hk e=>by have:=h.mnew k e; omega
  have gK:∀ {k:Nat} {cs:List Cnd},ClsAt w k cs→mv.ownBlock ≠ some k:=fun hk e=>by
    obtain ⟨c2,h2⟩:=ownsRow_obj h.mine e
    exact ne_of_elem hk h2 (by decide) rfl
  have b5:=st h.box (mne _ (by omega))
  have r5:=st h.res (mne _ (by omega))
  have a5:=st h.all (mne _ (by omega))
  have g5:=st h.g (mne _ (by omega))
  have hsz:=h.below.size
  have hz3:=(Array.getElem?_eq_some_iff.1 h.g).1
  have mn':∀ g,mv'.ownBlock = some g→w0.heap.size + 4≤g:=fun g e=>by
    rcases hl with e1 | e1
    · exact h.mnew g (e1 ▸ e)
    · rw [e] at e1; have:=Option.some.inj e1; omega
  obtain ⟨w6,hw6⟩:∃ w6,w6 = w5.setCell ⟨w0.heap.size + 3,1,none⟩ mv':=⟨_,rfl⟩
  have g6:w6.heap[w0.heap.size + 3]? = some (.cells #[.slice (some ⟨w0.heap.size + 2,0,none⟩) (F.length + 1) (F.length + 1),mv'] 141 (0,0)):=by
    rw [hw6,heap_setCell_same _ _ _ _ _ _ g5]; simp
  have far6:∀ {k:Nat},k ≠ w0.heap.size + 3→w6.heap[k]? = w5.heap[k]?:=fun hk=>by rw [hw6]; exact Below.heap_setCell _ _ _ _ hk
  have a6:=(far6 (k:=w0.heap.size + 2) (by omega)).trans a5
  obtain ⟨w7,hw7⟩:∃ w7,w7 = w6.setCell ⟨w0.heap.size + 2,ks.length,none⟩ (cutS K c):=⟨_,rfl⟩
  have far7:∀ {k:Nat},k ≠ w0.heap.size + 2→w7.heap[k]? = w6.heap[k]?:=fun hk=>by rw [hw7]; exact Below.heap_setCell _ _ _ _ hk
  have hzl:(List.zipWith cutS ks F).length = ks.length:=by simp; omega
  have hrep:List.replicate (F.length + 1 - ks.length) (Value.slice none 0 0) = .slice none 0 0 :: List.replicate (F.length + 1 - (ks.length + 1)) (Value.slice none 0 0):=by
    rw [show F.length + 1 - ks.length = (F.length + 1 - (ks.length + 1)) + 1 by omega]; rfl
  have hcell:w6.cell? ⟨w0.heap.size + 2,ks.length,none⟩ = some (.slice none 0 0):=by
    simp only [World.cell?,a6]
    rw [hrep]
    simp [hzl]
  have a7:w7.heap[w0.heap.size + 2]? = some (.cells (List.zipWith cutS (ks ++ [K]) F ++ List.replicate (F.length + 1 - (ks ++ [K]).length) (Value.slice none 0 0)).toArray 73 (0,0)):=by
    rw [hw7,heap_setCell_same _ _ _ _ _ _ a6,zip_snoc cutS ks F K c hc,hrep]
    simp [List.set_append_right,hzl]
  have g7:=(far7 (k:=w0.heap.size + 3) (by omega)).trans g6
  have far:∀ {k:Nat},k ≠ w0.heap.size + 3→k ≠ w0.heap.size + 2→w7.heap[k]? = w5.heap[k]?:=fun h1 h2=>(far7 h2).trans (far6 h1)
  refine ⟨cells_at g5 1 rfl,cells_frozen g5 1,hw6 ▸ cells_at g6 0 rfl,hw6 ▸ hcell,hw6 ▸ cells_frozen a6 _,hw6 ▸ hw7 ▸ ⟨(far (by omega) (by omega)).trans b5,(far (by omega) (by omega)).trans r5,a7,g7,?_,by simp; omega,?_,?_,?_,mn',?_⟩⟩
  · rw [zip_snoc fullS ks F K c hc]
    simp only [List.length_append,List.length_cons,List.length_nil,Nat.zero_add]
    exact ownsRow_of_block ho fun g hv=>far (by have:=mn' g hv; omega) (by have:=mn' g hv; omega)
  · intro i hi
    simp only [List.length_append,List.length_cons,List.length_nil,Nat.zero_add] at hi
    by_cases e:i = ks.length
    · subst e
      have e1:(ks ++ [K]).getD ks.length 0 = K:=by simp [List.getD_eq_getElem?_getD]
      have e2:F.getD ks.length [] = c:=by rw [List.getD_eq_getElem?_getD,hc]; rfl
      rw [e1,e2]
      exact (far (by omega) (by omega)).trans (st hK (gK hK))
    · have hi2:i < ks.length:=by omega
      have e1:(ks ++ [K]).getD i 0 = ks.getD i 0:=by rw [List.getD_eq_getElem?_getD,List.getElem?_append_left hi2,List.getD_eq_getElem?_getD]
      rw [e1]
      have h1:=h.cls i hi2
      have h2:w0.heap.size + 4≤ks.getD i 0:=h.new _ (by rw [List.getD_eq_getElem?_getD,List.getElem?_eq_getElem hi2]; exact List.getElem_mem hi2)
      exact (far (by omega) (by omega)).trans (st h1 (gK h1))
  · rw [List.nodup_append]
    exact ⟨h.nod,by simp,fun a ha b hb=>by rw [List.mem_singleton.1 hb]; exact fun e=>hKn (e ▸ ha)⟩
  · intro k hk
    rcases List.mem_append.1 hk with e | e
    · exact h.new k e
    · rw [List.mem_singleton.1 e]; exact hK4
  · have hb5:Below w0.heap.size w0 w5:=(h.below.alloc h.below.size o).grown hg (by simp; omega) (fun k e=>by have:=h.mnew k e; omega)
    rw [hw7,hw6]
    exact (hb5.setCell (by show _≤w0.heap.size + 3; omega) _).setCell (by show _≤w0.heap.size + 2; omega) _
end
end
section
open Go.RowKit

structure LentAt (w0 w:World) (A:Nat) (mv:Value) (Z:Nat) (F:List (List Cnd)) (ks:List Nat):Prop where
  all:w.heap[A]? = some (.cells (List.zipWith cutS ks F ++ [Value.slice (some ⟨Z,0,none⟩) 1 1]).toArray 73 (0,0))
  mine:w.ownsRow 0 73 1 mv F.length (List.zipWith fullS ks F)
  len:ks.length = F.length
  cls:∀ i,i < F.length→ClsAt w (ks.getD i 0) (F.getD i [])
  nod:ks.Nodup
  z:w.heap[Z]? = some (.cells #[.int .i64 78,.int .i64 0,.int .i64 0] 72 (0,0))
  zk:Z ∉ ks
  new:∀ k ∈ ks,w0.heap.size≤k
  znew:w0.heap.size≤Z
  anew:w0.heap.size≤A
  mnew:∀ g,mv.ownBlock = some g→w0.heap.size≤g

theorem splice_cls (M:List Value) (c:List Cnd) (hM:M.length = (c.length + 1) * 3):(((splice M 0 (ccells c)).set (c.length * 3) (.int .i64 77)).set (c.length * 3 + 1) (.int .i64 0)).set (c.length * 3 + 2) (.int .i64 0) = ccells (c ++ [(77,0,0)]):=by
  have hv:=ccells_len c
  obtain ⟨p,q,r,hd⟩:∃ p q r,M.drop (c.length * 3) = [p,q,r]:=by
    have:(M.drop (c.length * 3)).length = 3:=by simp; omega
    match h:M.drop (c.length * 3),this with
    | [p,q,r],_=>exact ⟨p,q,r,rfl⟩
  unfold splice
  simp only [List.take_zero,List.nil_append,Nat.zero_add,hv,hd]
  rw [List.set_append_right _ _ (by omega),hv]
  simp only [Nat.sub_self,List.set_cons_zero]
  rw [List.set_append_right _ _ (by omega),hv]
  rw [show c.length * 3 + 1 - c.length * 3 = 1 by omega]
  rw [List.set_append_right _ _ (by omega),hv]
  rw [show c.length * 3 + 2 - c.length * 3 = 2 by omega,ccells_append]
  simp [ccells,ccell]

theorem madeNil73 (n:Nat):madeCells (Value.cells (.slice none 0 0)) n = (List.replicate n (.slice none 0 0)).toArray:=by
  rw [← toList_madeCells_one]
  rfl
theorem LdS.start (w:World) (fv:Value) (F:List (List Cnd)) (M:Array Value) (hM:M = (List.replicate (F.length + 1) (Value.slice none 0 0)).toArray) :
    LdS w ((((w.alloc (.cells #[fv] 47)).alloc (.cells #[.slice none 0 0,.slice none 0 0] 141)).alloc (.cells M 73)).alloc (.cells #[.slice (some ⟨w.heap.size + 1 + 1,0,none⟩) (F.length + 1) (F.length + 1),.slice none 0 0] 141)) fv F [] (.slice none 0 0):=by
  have s1:(w.alloc (.cells #[fv] 47)).heap.size = w.heap.size + 1:=by simp
  have s2:((w.alloc (.cells #[fv] 47)).alloc (.cells #[.slice none 0 0,.slice none 0 0] 141)).heap.size = w.heap.size + 2:=by simp
  have s3:(((w.alloc (.cells #[fv] 47)).alloc (.cells #[.slice none 0 0,.slice none 0 0] 141)).alloc (.cells M 73)).heap.size = w.heap.size + 3:=by simp
  refine ⟨?_,?_,?_,?_,⟨rfl,.inl ⟨rfl,rfl⟩⟩,Nat.zero_le _,fun i hi=>absurd hi (Nat.not_lt_zero _),List.nodup_nil,fun k hk=>absurd hk List.not_mem_nil,fun g e=>(by cases e),((((Below.refl _ _).alloc (Nat.le_refl _) _).alloc (by omega) _).alloc (by omega) _).alloc (by omega) _⟩
  · rw [Below.heap_alloc _ _ _ (by omega),Below.heap_alloc _ _ _ (by omega),Below.heap_alloc _ _ _ (by omega)]; exact heap_alloc_new _ _
  · rw [Below.heap_alloc _ _ _ (by omega),Below.heap_alloc _ _ _ (by omega),← s1]; exact heap_alloc_new _ _
  · rw [Below.heap_alloc _ _ _ (by omega),← s2,heap_alloc_new,hM]; simp
  · rw [← s3]; exact heap_alloc_new _ _

theorem CondsAt.src {w:World} {a:Option Addr} {n cap:Nat} {cs:List Cnd} (h:CondsAt w (.slice a n cap) cs) (h0:0 < cs.length):∃ ad,a = some ad∧∀ j v,(ccells cs)[j]? = some v→w.cell? (ad.add j) = some v:=by
  obtain ⟨b,off,rfl,_⟩:=h.cond h0
  refine ⟨_,rfl,fun j v hj=>?_⟩
  have hj2:j < cs.length * 3:=by
    have:=(List.getElem?_eq_some_iff.1 hj).1
    rwa [ccells_len] at this
  obtain ⟨k,r,rfl,hr⟩:∃ k r,j = k * 3 + r∧r < 3:=⟨j / 3,j % 3,by omega,Nat.mod_lt _ (by decide)⟩
  have hk:k < cs.length:=by omega
  rw [ccells_get cs k r hk hr] at hj
  obtain ⟨b',off',e,h1,h2,h3⟩:=h.cond hk
  simp only [Option.some.injEq,Addr.mk.injEq] at e
  obtain ⟨rfl,rfl,_⟩:=e
  rw [addr_add,← Nat.add_assoc]
  rcases (by omega:r = 0 ∨ r = 1 ∨ r = 2) with rfl | rfl | rfl
  · simp only [ccell,List.getElem?_cons_zero,Option.some.injEq] at hj; rw [← hj]; exact h1
  · simp only [ccell,List.getElem?_cons_succ,List.getElem?_cons_zero,Option.some.injEq] at hj; rw [← hj]; exact h2
  · simp only [ccell,List.getElem?_cons_succ,List.getElem?_cons_zero,Option.some.injEq] at hj; rw [← hj]; exact h3

theorem LdS.fin {w wr:World} {fv mv:Value} {F:List (List Cnd)} {ks:List Nat} (h:LdS w wr fv F ks mv) (hl:ks.length = F.length) (u v:Value) :
    LentAt w ((((wr.setCell ⟨w.heap.size + 2,F.length,none⟩ (.slice (some ⟨wr.heap.size,0,none⟩) 1 1)).setCell ⟨w.heap.size + 1,0,none⟩ u).setCell ⟨w.heap.size + 1,1,none⟩ v).alloc (.cells #[.int .i64 78,.int .i64 0,.int .i64 0] 72)) (w.heap.size + 2) mv wr.heap.size F ks ∧
      Below w.heap.size w ((((wr.setCell ⟨w.heap.size + 2,F.length,none⟩ (.slice (some ⟨wr.heap.size,0,none⟩) 1 1)).setCell ⟨w.heap.size + 1,0,none⟩ u).setCell ⟨w.heap.size + 1,1,none⟩ v).alloc (.cells #[.int .i64 78,.int .i64 0,.int .i64 0] 72)) ∧
      ((((wr.setCell ⟨w.heap.size + 2,F.length,none⟩ (.slice (some ⟨wr.heap.size,0,none⟩) 1 1)).setCell ⟨w.heap.size + 1,0,none⟩ u).setCell ⟨w.heap.size + 1,1,none⟩ v).alloc (.cells #[.int .i64 78,.int .i64 0,.int .i64 0] 72)).cell? ⟨w.heap.size + 1,0,none⟩ = some u ∧
      ((((wr.setCell ⟨w.heap.size + 2,F.length,none⟩ (.slice (some ⟨wr.heap.size,0,none⟩) 1 1)).setCell ⟨w.heap.size + 1,0,none⟩ u).setCell ⟨w.heap.size + 1,1,none⟩ v).alloc (.cells #[.int .i64 78,.int .i64 0,.int .i64 0] 72)).cell? ⟨w.heap.size + 1,1,none⟩ = some v:=by
  have hz3:=(Array.getElem?_eq_some_iff.1 h.g).1
  have ha:=h.all
  rw [hl,show F.length + 1 - F.length = 1 by omega] at ha
  have hzl:(List.zipWith cutS ks F).length = F.length:=by simp; omega
  obtain ⟨w3,hw3⟩:∃ w3,w3 = ((wr.setCell ⟨w.heap.size + 2,F.length,none⟩ (.slice (some ⟨wr.heap.size,0,none⟩) 1 1)).setCell ⟨w.heap.size + 1,0,none⟩ u).setCell ⟨w.heap.size + 1,1,none⟩ v:=⟨_,rfl⟩
  have hsz:w3.heap.size = wr.heap.size:=by rw [hw3]; simp
  have far:∀ {k:Nat},k < wr.heap.size→k ≠ w.heap.size + 2→k ≠ w.heap.size + 1→(w3.alloc (.cells #[.int .i64 78,.int .i64 0,.int .i64 0] 72)).heap[k]? = wr.heap[k]?:=fun {k} h0 h1 h2=>by
    rw [Below.heap_alloc _ _ _ (by rw [hsz]; exact h0),hw3,Below.heap_setCell _ _ _ _ h2,Below.heap_setCell _ _ _ _ h2,Below.heap_setCell _ _ _ _ h1]
  have a3:(w3.alloc (.cells #[.int .i64 78,.int .i64 0,.int .i64 0] 72)).heap[w.heap.size + 2]? = some (.cells (List.zipWith cutS ks F ++ [Value.slice (some ⟨wr.heap.size,0,none⟩) 1 1]).toArray 73 (0,0)):=by
    rw [Below.heap_alloc _ _ _ (by rw [hsz]; omega),hw3,Below.heap_setCell _ _ _ _ (by show w.heap.size + 2 ≠ w.heap.size + 1; omega),Below.heap_setCell _ _ _ _ (by show w.heap.size + 2 ≠ w.heap.size + 1; omega),heap_setCell_same _ _ _ _ _ _ ha]
    simp [List.set_append_right,hzl]
  have r1:(wr.setCell ⟨w.heap.size + 2,F.length,none⟩ (.slice (some ⟨wr.heap.size,0,none⟩) 1 1)).heap[w.heap.size + 1]? = some (.cells #[.slice none 0 0,.slice none 0 0] 141 (0,0)):=(Below.heap_setCell _ _ _ _ (by show w.heap.size + 1 ≠ w.heap.size + 2; omega)).trans h.res
  have r3:(w3.alloc (.cells #[.int .i64 78,.int .i64 0,.int .i64 0] 72)).heap[w.heap.size + 1]? = some (.cells #[u,v] 141 (0,0)):=by
    rw [Below.heap_alloc _ _ _ (by rw [hsz]; omega),hw3,heap_setCell_same _ _ _ _ _ _ (heap_setCell_same _ _ _ _ _ _ r1)]
    simp
  have hnew:∀ k ∈ ks,k < wr.heap.size:=fun k hk=>by
    obtain ⟨i,hi,e⟩:=List.mem_iff_getElem.1 hk
    have h2:=(Array.getElem?_eq_some_iff.1 (h.cls i hi)).1
    rw [List.getD_eq_getElem?_getD,List.getElem?_eq_getElem hi] at h2
    simpa [e] using h2
  rw [← hw3]
  refine ⟨⟨a3,?_,hl,fun i hi=>?_,h.nod,?_,fun hk=>by have:=hnew _ hk; omega,fun k hk=>by have:=h.new k hk; omega,by omega,by omega,fun g e=>by have:=h.mnew g e; omega⟩,?_,cells_at r3 0 rfl,cells_at r3 1 rfl⟩
  · have:=h.mine
    rw [hl] at this
    exact ownsRow_of_block this fun g hv=>far (this.lt g hv).2 (by have:=h.mnew g hv; omega) (by have:=h.mnew g hv; omega)
  · have h1:=h.cls i (by omega)
    have h2:w.heap.size + 4≤ks.getD i 0:=h.new _ (by rw [List.getD_eq_getElem?_getD,List.getElem?_eq_getElem (by omega)]; exact List.getElem_mem _)
    exact (far (Array.getElem?_eq_some_iff.1 h1).1 (by omega) (by omega)).trans h1
  · rw [← hsz]; exact heap_alloc_new _ _
  · rw [hw3]
    exact (((h.below.setCell (by show _≤w.heap.size + 2; omega) _).setCell (by show _≤w.heap.size + 1; omega) _).setCell (by show _≤w.heap.size + 1; omega) _).alloc (by simp; omega) _

set_option maxHeartbeats 4000000 in
set_option maxRecDepth 20000 in
theorem lend74 (fv:Value) (F:List (List Cnd)) (w:World) (hf:FiltAt w fv F) (hn:(F.length + 1) * 24≤140737488355328) (hm:∀ c ∈ F,(c.length + 1) * 24≤140737488355328) :
    Calls Tryz.prog 74 #[.agg #[fv]] w fun ev w'=>∃ A mv Z ks,ev = .returned (.agg #[.slice (some ⟨A,0,none⟩) (F.length + 1) (F.length + 1),mv])∧LentAt w w' A mv Z F ks∧Below w.heap.size w w':=by
  obtain ⟨fa,fcap,rfl,_⟩:=id hf
  obtain ⟨i72,hi72,hz720,hz721,hz722⟩:=info_parts info72
  obtain ⟨i73,hi73,hz730,hz731,hz732⟩:=info_parts info73
  have hmk:=fun W=>run_make (P:=Tryz.prog) W 45 73 i73 (.slice none 0 0) Tryz.underlying45 hi73 hz730 .i64 .i64 ((F.length:Int) + 1) ((F.length:Int) + 1) (by omega) (Int.le_refl _) (by rw [hz732]; omega) (by omega)
  have e1:((F.length:Int) + 1).toNat = F.length + 1:=by omega
  rw [e1,hz731] at hmk
  simp only [Nat.mul_one] at hmk
  have hfl:F.length≤17592186044416:=by omega
  obtain ⟨M1,hM1⟩:∃ M1,M1 = madeCells (Value.cells (.slice none 0 0)) (F.length + 1):=⟨_,rfl⟩
  rw [← hM1] at hmk
  have HS0:=hide (LdS.start w (.slice fa F.length fcap) F M1 (hM1.trans (madeNil73 _)))
  have HF:=hide hf
  have HM:=hide hm
  clear hf hm hM1 e1
  go_enter Tryz.func74,Tryz.ntmps74
  go_wp2
  generalize hwe:(((w.alloc (.cells #[.slice fa F.length fcap] 47)).alloc (.cells #[.slice none 0 0,.slice none 0 0] 141)).alloc (.cells M1 73)).alloc (.cells #[.slice (some ⟨w.heap.size + 1 + 1,0,none⟩) (F.length + 1) (F.length + 1),.slice none 0 0] 141) = w1 at HS0 ⊢
  clear hwe hmk
  generalize hG:w.heap.size + 1 + 1 + 1 = G
  generalize hR:w.heap.size + 1 = R
  have HG:Hid (w.heap.size + 3 = G):=hG
  have HR:Hid (w.heap.size + 1 = R):=hR
  obtain ⟨A,hA⟩:∃ A,A = w.heap.size + 2:=⟨_,rfl⟩
  have HA:=hide hA
  obtain ⟨B,hB⟩:∃ B,B = w.heap.size:=⟨_,rfl⟩
  have HB:=hide hB
  rw [← hB]
  clear hG hR hA hB
  go_loopw [5,6,7] (fun i _ _ wr=>∃ (ks:List Nat) (mv:Value),i = .int .i64 ks.length∧Hid (LdS w wr (.slice fa F.length fcap) F ks mv)) (fun i _ _ _=>F.length - (intOf i).toNat)
  case atStart=>exact ⟨[],_,rfl,HS0⟩
  case round =>
    clear HS0
    obtain ⟨ks,mv,rfl,hr⟩:=hrel
    have z0:wr.cell? ⟨B,0,none⟩ = some (.slice fa F.length fcap):=by rw [HB.out]; exact cells_at hr.out.box 0 rfl
    by_cases hlt:ks.length < F.length
    · obtain ⟨b,off,ua,uc,rfl,hu,hcu⟩:=(HF.out.below hr.out.below).clause hlt
      have hc:F[ks.length]? = some (F.getD ks.length []):=by rw [List.getD_eq_getElem?_getD,List.getElem?_eq_getElem hlt]; rfl
      have hcm:=HM.out (F.getD ks.length []) (by rw [List.getD_eq_getElem?_getD,List.getElem?_eq_getElem hlt]; exact List.getElem_mem hlt)
      generalize F.getD ks.length [] = c at hu hcu hc hcm
      have hmk:=fun W=>run_make (P:=Tryz.prog) W 73 72 i72 (.agg #[.int .i64 0,.int .i64 0,.int .i64 0]) Tryz.underlying73 hi72 hz720 .i64 .i64 ((c.length:Int) + 1) ((c.length:Int) + 1) (by omega) (Int.le_refl _) (by rw [hz722]; omega) (by omega)
      have e1:((c.length:Int) + 1).toNat = c.length + 1:=by omega
      rw [e1,hz721] at hmk
      obtain ⟨M2,hM2⟩:∃ M2,M2 = madeCells (Value.cells (.agg #[.int .i64 0,.int .i64 0,.int .i64 0])) ((c.length + 1) * 3):=⟨_,rfl⟩
      have hMs:M2.toList.length = (c.length + 1) * 3:=by rw [hM2]; simp [size_madeCells]
      rw [← hM2] at hmk
      have hcl:c.length≤17592186044416:=by omega
      have HC:=hide hc
      have HMs:=hide hMs
      obtain ⟨C,hC⟩:∃ C,C = ccells c:=⟨_,rfl⟩
      have HCC:=hide hC
      have HAL:Hid ((wr.alloc (.cells M2 72)).heap[wr.heap.size]? = some (.cells M2.toList.toArray 72 (0,0))):=by
        show _ = _
        simpa using heap_alloc_new wr (.cells M2 72)
      have HBL:Hid (Below wr.heap.size wr (wr.alloc (.cells M2 72))):=(Below.refl _ _).alloc (Nat.le_refl _) _
      have HCU:=hide hcu
      have hub:=block_lt_of_cell hu
      have hz0b:=block_lt_of_cell z0
      simp only at hub hz0b
      clear hc hMs hM2 hC e1 hcu hcm
      have C0:Hid (c.length = Nat.min c.length (c.length + 1)):=(Nat.min_eq_left (by omega)).symm
      have C1:Hid (C.length = c.length * 3):=by show _ = _; rw [HCC.out]; exact ccells_len c
      have C2:Hid (0 < c.length→(some (⟨wr.heap.size,0,none⟩:Addr) = some ⟨wr.heap.size,0,none⟩∧∃ ad,ua = some ad∧∀ j v,C[j]? = some v→(wr.alloc (.cells M2 72)).cell? (ad.add j) = some v)):=fun hpos=>by
        obtain ⟨ad,e,hs⟩:=(HCU.out.below HBL.out).src hpos
        exact ⟨rfl,ad,e,by rw [HCC.out]; exact hs⟩
      have C3:Hid (0 + C.length≤M2.toList.length):=by show _≤_; rw [HCC.out,ccells_len,HMs.out]; omega
      have C4:Hid (∀ v ∈ C,v.oneCell' = true):=by show ∀ v ∈ C,_; rw [HCC.out]; exact ccells_one c
      go_upto_region 9 with (refine wpList_copy_wide rfl _ _ 73 73 rfl 72 Tryz.underlying73 3 size72 (some ⟨wr.heap.size,0,none⟩) ua (c.length + 1) (c.length + 1) c.length uc rfl rfl wr.heap.size 0 c.length M2.toList 72 HAL.out C C0.out C1.out C2.out C3.out C4.out wr.heap.size wr HBL.out (Nat.le_refl _) ?_; intro w2 HG2 hB2 _)
      have hln:(splice M2.toList 0 C).length = (c.length + 1) * 3:=by rw [length_splice _ _ _ C3.out]; exact HMs.out
      have hat:∀ r,r < 3→∃ u,w2.cell? ⟨wr.heap.size,c.length * 3 + r,none⟩ = some u:=fun r hr=>by
        rw [cell_of_row w2 _ _ _ _ _ HG2.out]
        exact ⟨_,Array.getElem?_eq_getElem (by simp; omega)⟩
      obtain ⟨u0,hu0⟩:=hat 0 (by omega)
      obtain ⟨u1,hu1⟩:=hat 1 (by omega)
      obtain ⟨u2,hu2⟩:=hat 2 (by omega)
      rw [Nat.add_zero] at hu0
      have hfz:∀ o,w2.frozen? ⟨wr.heap.size,o,none⟩ = false:=fun o=>by simp [World.frozen?,HG2.out]
      have HB2:=hide hB2
      have hKlt:wr.heap.size < w2.heap.size:=(Array.getElem?_eq_some_iff.1 HG2.out).1
      clear hln hat hB2 hmk HAL HBL z0 hu hub hz0b HCU C0 C1 C2 C4
      go_upto_region 10 with (fail)
      have hk3:ClsAt (((w2.setCell ⟨wr.heap.size,c.length * 3,none⟩ (.int .i64 77)).setCell ⟨wr.heap.size,c.length * 3 + 1,none⟩ (.int .i64 0)).setCell ⟨wr.heap.size,c.length * 3 + 2,none⟩ (.int .i64 0)) wr.heap.size c:=by
        unfold ClsAt
        rw [← splice_cls M2.toList c HMs.out,← HCC.out,heap_setCell_same _ _ _ _ _ _ (heap_setCell_same _ _ _ _ _ _ (heap_setCell_same _ _ _ _ _ _ HG2.out))]
        simp
      have hb3:Below wr.heap.size wr (((w2.setCell ⟨wr.heap.size,c.length * 3,none⟩ (.int .i64 77)).setCell ⟨wr.heap.size,c.length * 3 + 1,none⟩ (.int .i64 0)).setCell ⟨wr.heap.size,c.length * 3 + 2,none⟩ (.int .i64 0)):=((HB2.out.setCell (Nat.le_refl _) _).setCell (Nat.le_refl _) _).setCell (Nat.le_refl _) _
      generalize ((w2.setCell ⟨wr.heap.size,c.length * 3,none⟩ (.int .i64 77)).setCell ⟨wr.heap.size,c.length * 3 + 1,none⟩ (.int .i64 0)).setCell ⟨wr.heap.size,c.length * 3 + 2,none⟩ (.int .i64 0) = w3 at hk3 hb3 ⊢
      have hS3:=hr.out.on hb3
      have hKn:wr.heap.size ∉ ks:=fun hm=>by
        obtain ⟨i,hi,e⟩:=List.mem_iff_getElem.1 hm
        have h1:=hr.out.cls i hi
        have h2:=(Array.getElem?_eq_some_iff.1 h1).1
        rw [List.getD_eq_getElem?_getD,List.getElem?_eq_getElem hi] at h2
        simp [e] at h2
      have hK4:w.heap.size + 4≤wr.heap.size:=(Array.getElem?_eq_some_iff.1 hr.out.g).1
      have HST:=hide (fun (w5:World) (mv':Value) ho hg hl=>LdS.step (K:=wr.heap.size) (o:=.cells #[.slice (some ⟨wr.heap.size,0,none⟩) (c.length + 1) (c.length + 1)] 73) (w5:=w5) (mv':=mv') hS3 HC.out hk3 hKn hK4 ho hg hl)
      have c1:w3.cell? ⟨G,1,none⟩ = some mv:=by rw [← HG.out]; exact cells_at hS3.g 1 rfl
      have hGl:G < w3.heap.size:=by rw [← HG.out]; exact (Array.getElem?_eq_some_iff.1 hS3.g).1
      have HMI:=hide hS3.mine
      have HB1:Hid (ks.length + 1≤maxLen∧(ks.length + 1) * 24≤140737488355328):=by
        show _∧_
        unfold maxLen
        omega
      clear hu0 hu1 hu2 hfz HG2 HB2 hKlt hk3 hS3 hKn hK4 hr
      go_upto_region 11 with (at_builtin; refine wpList_append_lies _ rfl _ _ 45 rfl 0 73 i73 (.slice none 0 0) 1 24 Tryz.underlying45 hi73 hz730 hz731 hz732 rfl (by decide) mv ks.length (List.zipWith fullS ks F) rfl (HMI.out.alloc _) ⟨w3.heap.size,0,none⟩ 1 1 [.slice (some ⟨wr.heap.size,0,none⟩) (c.length + 1) (c.length + 1)] rfl rfl (cell_one_new _ _ _) (by simp [Value.oneCell']) (by decide) HB1.out.1 HB1.out.2 (Nat.zero_le _) (w3.heap.size + 1) (by simp) ?_; intro g1 cap1 w5 ho1 hg1 hl1 hlt1; obtain ⟨k1,k2,k3,k4,k5,hS7⟩:=HST.out w5 (.slice (some ⟨g1,0,none⟩) (ks.length + 1) cap1) ho1 hg1 (hl1.imp (fun e=>e.symm) (fun e=>congrArg some e)); rw [HG.out] at k1 k2 k3 k4 k5 hS7; have HS7:=hide hS7; clear hS7 ho1 hg1 hl1)
      generalize w5.setCell ⟨G,1,none⟩ (.slice (some ⟨g1,0,none⟩) (ks.length + 1) cap1) = w6 at k3 k4 k5 HS7 ⊢
      clear k1 k2 c1 hGl
      have hA6:=block_lt_of_cell k4
      simp only at hA6
      go_region
      go_wp2
      refine ⟨⟨ks ++ [wr.heap.size],_,by simp,HS7.out.on (Below.refl _ _).drew⟩,by simp [intOf]; omega⟩
    · have hle:=hr.out.len
      have hfl2:ks.length = F.length:=by omega
      have c0:wr.cell? ⟨G,0,none⟩ = some (.slice (some ⟨w.heap.size + 2,0,none⟩) (F.length + 1) (F.length + 1)):=by rw [← HG.out]; exact cells_at hr.out.g 0 rfl
      have c1:wr.cell? ⟨G,1,none⟩ = some mv:=by rw [← HG.out]; exact cells_at hr.out.g 1 rfl
      have r0:wr.cell? ⟨R,0,none⟩ = some (.slice none 0 0):=by rw [← HR.out]; exact cells_at hr.out.res 0 rfl
      have r1:wr.cell? ⟨R,1,none⟩ = some (.slice none 0 0):=by rw [← HR.out]; exact cells_at hr.out.res 1 rfl
      have rf:∀ o,wr.frozen? ⟨R,o,none⟩ = false:=fun o=>by rw [← HR.out]; exact cells_frozen hr.out.res o
      have ha:=hr.out.all
      rw [hfl2,show F.length + 1 - F.length = 1 by omega] at ha
      have hzl:(List.zipWith cutS ks F).length = F.length:=by simp; omega
      have a0:wr.cell? ⟨w.heap.size + 2,F.length,none⟩ = some (.slice none 0 0):=by
        simp only [World.cell?,ha]
        simp [hzl]
      have af:wr.frozen? ⟨w.heap.size + 2,F.length,none⟩ = false:=cells_frozen ha _
      have hGl:=block_lt_of_cell c0
      have hRl:=block_lt_of_cell r0
      have hAl:=block_lt_of_cell a0
      have hGA:¬ G = w.heap.size + 2:=by rw [← HG.out]; omega
      have hGR:¬ G = R:=by rw [← HG.out,← HR.out]; omega
      have hAR:¬ w.heap.size + 2 = R:=by rw [← HR.out]; omega
      have hmo:mv.oneCell' = true:=ownsRow_oneCell hr.out.mine
      obtain ⟨ma,mn,mc,hmv⟩:∃ ma mn mc,mv = .slice ma mn mc:=by
        rcases hr.out.mine.2 with ⟨e,_⟩ | ⟨_,_,_,e,_⟩
        · exact ⟨_,_,_,e⟩
        · exact ⟨_,_,_,e⟩
      subst hmv
      simp only at hGl hRl hAl
      have HAA:=hide ha
      have HZL:=hide hzl
      have HFL:=hide hfl2
      clear hle hfl2 ha hzl z0
      go_wp2
      obtain ⟨q1,q2,q3,q4⟩:=hr.out.fin HFL.out (.slice (some ⟨w.heap.size + 2,0,none⟩) (F.length + 1) (F.length + 1)) (.slice ma mn mc)
      rw [HR.out] at q1 q2 q3 q4
      generalize (((wr.setCell ⟨w.heap.size + 2,F.length,none⟩ (.slice (some ⟨wr.heap.size,0,none⟩) 1 1)).setCell ⟨R,0,none⟩ (.slice (some ⟨w.heap.size + 2,0,none⟩) (F.length + 1) (F.length + 1))).setCell ⟨R,1,none⟩ (.slice ma mn mc)).alloc (.cells #[.int .i64 78,.int .i64 0,.int .i64 0] 72) = wf at q1 q2 q3 q4 ⊢
      refine bodyPost_ret (v:=.agg #[.slice (some ⟨w.heap.size + 2,0,none⟩) (F.length + 1) (F.length + 1),.slice ma mn mc]) (by simp [results,Tryz.results74,go_sem,q3,q4]) rfl ?_
      exact ⟨_,_,_,ks,rfl,q1,q2⟩
end
section
open Go.RowKit

theorem ClsAt.get {w:World} {k:Nat} {c:List Cnd} (h:ClsAt w k c) {i r:Nat} (hi:i < c.length + 1) (hr:r < 3) {v:Value} (hv:(ccell ((c ++ [(77,0,0)]).getD i (0,0,0)))[r]? = some v):w.cell? ⟨k,i * 3 + r,none⟩ = some v:=by
  have:=ccells_get (c ++ [(77,0,0)]) i r (by simp; omega) hr
  rw [hv] at this
  unfold ClsAt at h
  simp [World.cell?,h,this]
theorem ClsAt.conds {w:World} {k:Nat} {c:List Cnd} (h:ClsAt w k c) (hm:c.length≤17592186044416):CondsAt w (cutS k c) c:=by
  refine ⟨_,_,rfl,by omega,hm,.inr ⟨k,0,rfl,fun i hi=>?_⟩⟩
  have e:(c ++ [(77,0,0)]).getD i (0,0,0) = c.getD i (0,0,0):=by rw [List.getD_eq_getElem?_getD,List.getElem?_append_left hi,List.getD_eq_getElem?_getD]
  have g:∀ r,r < 3→∀ v,(ccell (c.getD i (0,0,0)))[r]? = some v→w.cell? ⟨k,i * 3 + r,none⟩ = some v:=fun r hr v hv=>h.get (by omega) hr (by rw [e]; exact hv)
  rw [Nat.zero_add]
  exact ⟨g 0 (by omega) _ rfl,g 1 (by omega) _ rfl,g 2 (by omega) _ rfl⟩
theorem ClsAt.last {w:World} {k:Nat} {c:List Cnd} (h:ClsAt w k c):w.cell? ⟨k,c.length * 3,none⟩ = some (.int .i64 77):=by
  have e:(c ++ [((77:Int),(0:Int),(0:Int))]).getD c.length (0,0,0) = (77,0,0):=by simp [List.getD_eq_getElem?_getD]
  exact h.get (i:=c.length) (r:=0) (by omega) (by omega) (by rw [e]; rfl)

def OverAt (w:World) (k n q:Nat):Prop:=∃ arr:Array Value,w.heap[k]? = some (.cells arr 72 (0,0))∧arr.size = (n + 1) * 3∧∀ j,j < q→arr[j * 3]? = some (.int .i64 9)
theorem ClsAt.over {w:World} {k:Nat} {c:List Cnd} (h:ClsAt w k c):OverAt w k c.length 0:=⟨_,h,by simp [ccells_len],fun j hj=>absurd hj (Nat.not_lt_zero _)⟩
theorem OverAt.at {w:World} {k n q:Nat} (h:OverAt w k n q) {o:Nat} (ho:o < (n + 1) * 3):∃ u,w.cell? ⟨k,o,none⟩ = some u:=by
  obtain ⟨arr,h1,h2,_⟩:=h
  exact ⟨arr[o]'(by omega),by simp [World.cell?,h1,Array.getElem?_eq_getElem (show o < arr.size by omega)]⟩
theorem OverAt.frozen {w:World} {k n q:Nat} (h:OverAt w k n q) (o:Nat):w.frozen? ⟨k,o,none⟩ = false:=by
  obtain ⟨arr,h1,_⟩:=h
  exact cells_frozen h1 o
theorem OverAt.nine {w:World} {k n q:Nat} (h:OverAt w k n q) {j:Nat} (hj:j < q):w.cell? ⟨k,j * 3,none⟩ = some (.int .i64 9):=by
  obtain ⟨arr,h1,_,h3⟩:=h
  simp [World.cell?,h1,h3 j hj]
theorem OverAt.step {w:World} {k n q:Nat} (h:OverAt w k n q) (hq:q < n + 1) (a b:Value):OverAt (((w.setCell ⟨k,q * 3,none⟩ (.int .i64 9)).setCell ⟨k,q * 3 + 1,none⟩ a).setCell ⟨k,q * 3 + 2,none⟩ b) k n (q + 1):=by
  obtain ⟨arr,h1,h2,h3⟩:=h
  refine ⟨_,heap_setCell_same _ _ _ _ _ _ (heap_setCell_same _ _ _ _ _ _ (heap_setCell_same _ _ _ _ _ _ h1)),by simp [h2],fun j hj=>?_⟩
  rw [Array.getElem?_setIfInBounds_ne (by omega),Array.getElem?_setIfInBounds_ne (by omega)]
  by_cases e:j = q
  · subst e
    exact Array.getElem?_setIfInBounds_self_of_lt (by omega)
  · rw [Array.getElem?_setIfInBounds_ne (by omega)]
    exact h3 j (by omega)

structure KpS (w wr:World) (allv mv fv:Value) (F:List (List Cnd)) (ks:List Nat) (i:Nat):Prop where
  b0:wr.heap[w.heap.size]? = some (.cells #[allv,mv] 141 (0,0))
  b1:wr.heap[w.heap.size + 1]? = some (.cells #[fv] 47 (0,0))
  kept:Kept (fun k=>k ∈ ks) w wr
  cls:∀ j,i≤j→j < F.length→ClsAt wr (ks.getD j 0) (F.getD j [])
theorem KpS.on {w wr wq:World} {allv mv fv:Value} {F:List (List Cnd)} {ks:List Nat} {i:Nat} (h:KpS w wr allv mv fv F ks i) (hb:Below wr.heap.size wr wq):KpS w wq allv mv fv F ks i:=by
  have st:∀ {k:Nat} {o:Obj},wr.heap[k]? = some o→wq.heap[k]? = some o:=fun hk=>(hb.block _ (Array.getElem?_eq_some_iff.1 hk).1).trans hk
  exact ⟨st h.b0,st h.b1,h.kept.below hb,fun j h1 h2=>st (h.cls j h1 h2)⟩
end
section
open Go.RowKit

theorem LentAt.no {w0 w:World} {A:Nat} {mv:Value} {Z:Nat} {F:List (List Cnd)} {ks:List Nat} (h:LentAt w0 w A mv Z F ks) {k:Nat} {arr:Array Value} {e:TypeId} {f:Nat × Nat} (hk:w.heap[k]? = some (.cells arr e f)) (he:e ≠ 72):k ∉ ks:=fun hm=>by
  obtain ⟨i,hi,e2⟩:=List.mem_iff_getElem.1 hm
  have h1:=h.cls i (by rw [← h.len]; exact hi)
  rw [List.getD_eq_getElem?_getD,List.getElem?_eq_getElem hi] at h1
  simp only [Option.getD_some,e2] at h1
  exact ne_of_elem hk h1 he rfl
theorem LentAt.later {w0 w wr:World} {A:Nat} {mv:Value} {Z:Nat} {F:List (List Cnd)} {ks:List Nat} (h:LentAt w0 w A mv Z F ks) (hk:Kept (fun k=>k ∈ ks) w wr) :
    wr.heap[A]? = some (.cells (List.zipWith cutS ks F ++ [Value.slice (some ⟨Z,0,none⟩) 1 1]).toArray 73 (0,0))∧wr.ownsRow 0 73 1 mv F.length (List.zipWith fullS ks F)∧wr.heap[Z]? = some (.cells #[.int .i64 78,.int .i64 0,.int .i64 0] 72 (0,0)):=by
  refine ⟨(hk.block _ (Array.getElem?_eq_some_iff.1 h.all).1 (h.no h.all (by decide))).trans h.all,ownsRow_kept h.mine hk fun g hg=>?_,(hk.block _ (Array.getElem?_eq_some_iff.1 h.z).1 h.zk).trans h.z⟩
  obtain ⟨c,hc⟩:=ownsRow_obj h.mine hg
  exact h.no hc (by decide)
theorem zip_at {α:Type} (f:Nat→List Cnd→α) {ks:List Nat} {F:List (List Cnd)} (hl:ks.length = F.length) {i:Nat} (hi:i < F.length):(List.zipWith f ks F)[i]? = some (f (ks.getD i 0) (F.getD i [])):=by
  rw [List.getElem?_zipWith,List.getD_eq_getElem?_getD,List.getD_eq_getElem?_getD,List.getElem?_eq_getElem (by omega),List.getElem?_eq_getElem hi]; rfl

theorem KpS.next {w w4 wq:World} {allv mv fv:Value} {F:List (List Cnd)} {ks:List Nat} {k kk:Nat} (h:KpS w w4 allv mv fv F ks k) (hk:Kept (fun x=>x = kk) w4 wq) (hkm:kk ∈ ks) (hne:∀ j,k + 1≤j→j < F.length→ks.getD j 0 ≠ kk) (hX:w.heap.size ≠ kk) (hY:w.heap.size + 1 ≠ kk):KpS w wq allv mv fv F ks (k + 1):=by
  have st:∀ {x:Nat} {o:Obj},w4.heap[x]? = some o→x ≠ kk→wq.heap[x]? = some o:=fun hx hn=>(hk.block _ (Array.getElem?_eq_some_iff.1 hx).1 hn).trans hx
  exact ⟨st h.b0 hX,st h.b1 hY,h.kept.trans hk (fun x _ e=>e ▸ hkm),fun j h1 h2=>st (h.cls j (by omega) h2) (hne j h1 h2)⟩

set_option maxHeartbeats 4000000 in
set_option maxRecDepth 20000 in
theorem kept75 (w0 w:World) (A:Nat) (mv:Value) (Z:Nat) (F:List (List Cnd)) (ks:List Nat) (fv:Value) (h:LentAt w0 w A mv Z F ks) (hold:Below w0.heap.size w0 w) (hf:FiltAt w0 fv F) (hm:∀ c ∈ F,(c.length + 1) * 24≤140737488355328) (hn:(F.length + 1) * 24≤140737488355328) :
    Calls Tryz.prog 75 #[.agg #[.slice (some ⟨A,0,none⟩) (F.length + 1) (F.length + 1),mv],.agg #[fv]] w fun ev w'=>ev = .returned (.bool true)∧Kept (fun k=>k ∈ ks) w w':=by
  obtain ⟨fa,fcap,rfl,_⟩:=id hf
  obtain ⟨ma,mn,mc,hmv⟩:∃ ma mn mc,mv = .slice ma mn mc:=by
    rcases h.mine.2 with ⟨e,_⟩ | ⟨_,_,_,e,_⟩
    · exact ⟨_,_,_,e⟩
    · exact ⟨_,_,_,e⟩
  subst hmv
  have hS0:KpS w ((w.alloc (.cells #[.slice (some ⟨A,0,none⟩) (F.length + 1) (F.length + 1),.slice ma mn mc] 141)).alloc (.cells #[.slice fa F.length fcap] 47)) (.slice (some ⟨A,0,none⟩) (F.length + 1) (F.length + 1)) (.slice ma mn mc) (.slice fa F.length fcap) F ks 0:=by
    have hb:Below w.heap.size w ((w.alloc (.cells #[.slice (some ⟨A,0,none⟩) (F.length + 1) (F.length + 1),.slice ma mn mc] 141)).alloc (.cells #[.slice fa F.length fcap] 47)):=((Below.refl _ _).alloc (Nat.le_refl _) _).alloc (by simp) _
    exact ⟨(Below.heap_alloc _ _ _ (by simp)).trans (heap_alloc_new _ _),heap_alloc2_new _ _ _,Kept.of_below _ hb,fun j _ hj=>(hb.block _ (Array.getElem?_eq_some_iff.1 (h.cls j hj)).1).trans (h.cls j hj)⟩
  have HLT:Hid (∀ wr,Kept (fun k=>k ∈ ks) w wr→wr.heap[A]? = some (.cells (List.zipWith cutS ks F ++ [Value.slice (some ⟨Z,0,none⟩) 1 1]).toArray 73 (0,0))∧wr.ownsRow 0 73 1 (.slice ma mn mc) F.length (List.zipWith fullS ks F)∧wr.heap[Z]? = some (.cells #[.int .i64 78,.int .i64 0,.int .i64 0] 72 (0,0))):=fun wr hk=>h.later hk
  have HFT:Hid (∀ wr,Kept (fun k=>k ∈ ks) w wr→FiltAt wr (.slice fa F.length fcap) F):=fun wr hk=>hf.below (hold.trans (hk.toBelow hold.size fun k hk=>h.new k hk))
  have H:=hide h
  have HM:=hide hm
  have HS0:=hide hS0
  have hln:=h.len
  obtain ⟨q1,q2,q3⟩:=h.later hS0.kept
  have z0:=cells_at q3 0 rfl
  have an:((w.alloc (.cells #[.slice (some ⟨A,0,none⟩) (F.length + 1) (F.length + 1),.slice ma mn mc] 141)).alloc (.cells #[.slice fa F.length fcap] 47)).cell? ⟨A,F.length,none⟩ = some (.slice (some ⟨Z,0,none⟩) 1 1):=by
    have hzl:(List.zipWith cutS ks F).length = F.length:=by simp; omega
    simp only [World.cell?,q1]
    simp [hzl]
  have x0:=cells_at hS0.b0 0 rfl
  have x1:=cells_at hS0.b1 0 rfl
  have hfl:F.length≤17592186044416:=by omega
  clear h hm hf hS0 q1 q2 q3 hold
  go_enter Tryz.func75,Tryz.ntmps75
  go_wp2
  generalize hwe:(w.alloc (.cells #[.slice (some ⟨A,0,none⟩) (F.length + 1) (F.length + 1),.slice ma mn mc] 141)).alloc (.cells #[.slice fa F.length fcap] 47) = w1 at HS0 ⊢
  clear hwe z0 an x0 x1
  obtain ⟨X,hX⟩:∃ X,X = w.heap.size:=⟨_,rfl⟩
  obtain ⟨Y,hY⟩:∃ Y,Y = w.heap.size + 1:=⟨_,rfl⟩
  rw [← hY,← hX]
  have HX:=hide hX
  have HY:=hide hY
  clear hX hY
  go_loopw [6,7,8,9,10,11,12] (fun ok i _ _ _ _ _ wr=>∃ k:Nat,ok = .bool true∧i = .int .i64 k∧k≤F.length∧Hid (KpS w wr (.slice (some ⟨A,0,none⟩) (F.length + 1) (F.length + 1)) (.slice ma mn mc) (.slice fa F.length fcap) F ks k)) (fun _ i _ _ _ _ _ _=>F.length - (intOf i).toNat)
  case atStart=>exact ⟨0,rfl,rfl,Nat.zero_le _,HS0⟩
  case round =>
    clear HS0
    obtain ⟨k,rfl,rfl,hk,hr⟩:=hrel
    by_cases hlt:k < F.length
    · obtain ⟨b,off,ua,uc,rfl,hu,hcu⟩:=(HFT.out _ hr.out.kept).clause hlt
      obtain ⟨l1,l2,_⟩:=HLT.out _ hr.out.kept
      have a0:wr.cell? ⟨A,k,none⟩ = some (cutS (ks.getD k 0) (F.getD k [])):=by
        simp only [World.cell?,l1]
        have:=zip_at cutS hln hlt
        have h2:=(List.getElem?_eq_some_iff.1 this).1
        simp [List.getElem?_append_left h2,this]
      obtain ⟨mg,rfl⟩:∃ mg,ma = some ⟨mg,0,none⟩:=by
        rcases l2.2 with ⟨_,h0⟩ | ⟨g,_,_,e,_⟩
        · omega
        · simp only [Value.slice.injEq] at e
          exact ⟨g,e.1⟩
      have hmn:mn = F.length:=by
        rcases l2.2 with ⟨_,h0⟩ | ⟨g,_,_,e,_⟩
        · omega
        · simp only [Value.slice.injEq] at e
          exact e.2.1
      subst hmn
      have m0:wr.cell? ⟨mg,k,none⟩ = some (fullS (ks.getD k 0) (F.getD k [])):=ownsRow_cell l2 (zip_at fullS hln hlt)
      have hmg:mg < wr.heap.size:=(l2.lt mg rfl).2
      have hcl:=hr.out.cls k (Nat.le_refl _) hlt
      have hcm:=HM.out (F.getD k []) (by rw [List.getD_eq_getElem?_getD,List.getElem?_eq_getElem hlt]; exact List.getElem_mem hlt)
      have hkm:ks.getD k 0 ∈ ks:=by rw [List.getD_eq_getElem?_getD,List.getElem?_eq_getElem (by omega)]; exact List.getElem_mem _
      have hne:∀ j,k + 1≤j→j < F.length→ks.getD j 0 ≠ ks.getD k 0:=fun j h1 h2 e=>by
        rw [List.getD_eq_getElem?_getD,List.getD_eq_getElem?_getD,List.getElem?_eq_getElem (show j < ks.length by omega),List.getElem?_eq_getElem (show k < ks.length by omega)] at e
        simp only [Option.getD_some] at e
        exact (List.pairwise_iff_getElem.1 H.out.nod) k j (by omega) (by omega) (by omega) e.symm
      generalize F.getD k [] = c at hu hcu a0 m0 hcl hcm
      generalize ks.getD k 0 = kk at a0 m0 hcl hkm hne
      unfold cutS at a0
      unfold fullS at m0
      have hc1:c.length≤17592186044416:=by omega
      have HSC:Hid (∀ W,Below wr.heap.size wr W→Calls Tryz.prog 123 #[.slice (some ⟨kk,0,none⟩) c.length (c.length + 1),.slice ua c.length uc] W fun ev w'=>ev = .returned (.bool true)∧Below W.heap.size W w'):=fun W hW=>sameConds123 _ _ c W ((hcl.conds hc1).below hW) (hcu.below hW)
      have xc0:wr.cell? ⟨X,0,none⟩ = some (.slice (some ⟨A,0,none⟩) (F.length + 1) (F.length + 1)):=by rw [HX.out]; exact cells_at hr.out.b0 0 rfl
      have xc1:wr.cell? ⟨X,1,none⟩ = some (.slice (some ⟨mg,0,none⟩) F.length mc):=by rw [HX.out]; exact cells_at hr.out.b0 1 rfl
      have yc0:wr.cell? ⟨Y,0,none⟩ = some (.slice (some ⟨b,off,none⟩) F.length fcap):=by rw [HY.out]; exact cells_at hr.out.b1 0 rfl
      have hlast:=hcl.last
      have HSB:Hid (∀ W,Below wr.heap.size wr W→W.cell? ⟨X,0,none⟩ = some (.slice (some ⟨A,0,none⟩) (F.length + 1) (F.length + 1))∧W.cell? ⟨A,k,none⟩ = some (.slice (some ⟨kk,0,none⟩) c.length (c.length + 1))∧W.cell? ⟨Y,0,none⟩ = some (.slice (some ⟨b,off,none⟩) F.length fcap)∧W.cell? ⟨b,off + k,none⟩ = some (.slice ua c.length uc)):=fun W hW=>⟨cell_below xc0 hW,cell_below a0 hW,cell_below yc0 hW,cell_below hu hW⟩
      have HSD:Hid (∀ W,Below wr.heap.size wr W→W.cell? ⟨X,1,none⟩ = some (.slice (some ⟨mg,0,none⟩) F.length mc)∧W.cell? ⟨mg,k,none⟩ = some (.slice (some ⟨kk,0,none⟩) (c.length + 1) (c.length + 1))∧W.cell? ⟨Y,0,none⟩ = some (.slice (some ⟨b,off,none⟩) F.length fcap)∧W.cell? ⟨b,off + k,none⟩ = some (.slice ua c.length uc)):=fun W hW=>⟨cell_below xc1 hW,cell_below m0 hW,cell_below yc0 hW,cell_below hu hW⟩
      have HE:Hid (∀ W,Below wr.heap.size wr W→W.cell? ⟨X,0,none⟩ = some (.slice (some ⟨A,0,none⟩) (F.length + 1) (F.length + 1))∧W.cell? ⟨A,k,none⟩ = some (.slice (some ⟨kk,0,none⟩) c.length (c.length + 1))∧W.cell? ⟨X,1,none⟩ = some (.slice (some ⟨mg,0,none⟩) F.length mc)∧W.cell? ⟨mg,k,none⟩ = some (.slice (some ⟨kk,0,none⟩) (c.length + 1) (c.length + 1))∧W.cell? ⟨kk,c.length * 3,none⟩ = some (.int .i64 77)):=fun W hW=>⟨cell_below xc0 hW,cell_below a0 hW,cell_below xc1 hW,cell_below m0 hW,cell_below hlast hW⟩
      have hXk:w.heap.size ≠ kk:=ne_of_elem hr.out.b0 hcl (by decide)
      have hYk:w.heap.size + 1 ≠ kk:=ne_of_elem hr.out.b1 hcl (by decide)
      have hAk:A ≠ kk:=ne_of_elem l1 hcl (by decide)
      have hMk:mg ≠ kk:=by
        obtain ⟨cm,hcm⟩:=ownsRow_obj l2 (g:=mg) rfl
        exact ne_of_elem hcm hcl (by decide)
      have HNX:Hid (w.heap.size ≠ kk∧w.heap.size + 1 ≠ kk):=⟨hXk,hYk⟩
      have HNA:Hid (X ≠ kk∧A ≠ kk∧mg ≠ kk):=⟨by rw [HX.out]; exact hXk,hAk,hMk⟩
      clear hXk hYk hAk hMk
      have HCL:=hide hcl
      have HKM:=hide hkm
      have HNE:=hide hne
      clear l1 l2 a0 m0 hcl hcm hcu xc0 xc1 hlast hkm hne HFT HLT hmg
      have bd1:k < F.length + 1:=by omega
      have bd2:(k:Int) < (F.length:Int) + 1:=by omega
      have bd3:(0:Int)≤(c.length:Int):=by omega
      have bd4:(c.length:Int)≤(c.length:Int) + 1:=by omega
      as_aux_lemma =>
      go_wp2
      clear yc0 hu
      go_region_held3 (fun wx=>wx.cell? ⟨X,0,none⟩ = some (.slice (some ⟨A,0,none⟩) (F.length + 1) (F.length + 1))∧wx.cell? ⟨A,k,none⟩ = some (.slice (some ⟨kk,0,none⟩) c.length (c.length + 1))∧wx.cell? ⟨Y,0,none⟩ = some (.slice (some ⟨b,off,none⟩) F.length fcap)∧wx.cell? ⟨b,off + k,none⟩ = some (.slice ua c.length uc))
        ((refine HSB.out _ ?_; repeat (first | with_reducible exact hb3 | exact Below.refl _ _ | refine Below.drew ?_)))
        (first | (go_at_call 123; refine (HSC.out _ (Below.refl _ _).drew).mono ?_; rintro e3 w3 ⟨rfl,b3⟩; have hb3:Below wr.heap.size wr w3:=Below.undrew b3))
      have HB3:=hide hb3
      clear hb3 b3
      go_wp2
      go_region_held3 (fun wx=>wx.cell? ⟨X,1,none⟩ = some (.slice (some ⟨mg,0,none⟩) F.length mc)∧wx.cell? ⟨mg,k,none⟩ = some (.slice (some ⟨kk,0,none⟩) (c.length + 1) (c.length + 1))∧wx.cell? ⟨Y,0,none⟩ = some (.slice (some ⟨b,off,none⟩) F.length fcap)∧wx.cell? ⟨b,off + k,none⟩ = some (.slice ua c.length uc))
        ((refine HSD.out _ ?_; repeat (first | with_reducible exact HB3.out | with_reducible exact hb4 | refine Below.drew ?_)))
        (first | (go_at_call 123; refine (HSC.out _ HB3.out.drew).mono ?_; rintro e4 w4 ⟨rfl,b4⟩; have hb4:Below wr.heap.size wr w4:=HB3.out.trans ((Below.undrew b4).mono HB3.out.size)))
      obtain ⟨e1,e2,e3,e4,e5⟩:=HE.out _ hb4
      have HB4:=hide hb4
      clear hb4 b4
      go_wp2
      have HC4:Hid (ClsAt w4 kk c):=(HB4.out.block _ (Array.getElem?_eq_some_iff.1 HCL.out).1).trans HCL.out
      have HK4:=hide (hr.out.on HB4.out)
      have HE4:Hid (∀ W,Kept (fun x=>x = kk) w4 W→W.cell? ⟨X,0,none⟩ = some (.slice (some ⟨A,0,none⟩) (F.length + 1) (F.length + 1))∧W.cell? ⟨A,k,none⟩ = some (.slice (some ⟨kk,0,none⟩) c.length (c.length + 1))∧W.cell? ⟨X,1,none⟩ = some (.slice (some ⟨mg,0,none⟩) F.length mc)∧W.cell? ⟨mg,k,none⟩ = some (.slice (some ⟨kk,0,none⟩) (c.length + 1) (c.length + 1))):=fun W hW=>⟨hW.cell e1 HNA.out.1,hW.cell e2 HNA.out.2.1,hW.cell e3 HNA.out.1,hW.cell e4 HNA.out.2.2⟩
      clear e1 e2 e3 e4 e5 HCL HE HSB HSD HSC HB3 HB4
      go_loopw [11] (fun i wq=>∃ q:Nat,i = .int .i64 q∧q≤c.length + 1∧Hid (OverAt wq kk c.length q)∧Hid (Kept (fun x=>x = kk) w4 wq)) (fun i _=>c.length + 1 - (intOf i).toNat)
      case atStart=>exact ⟨0,rfl,Nat.zero_le _,HC4.out.over,Kept.refl _ _⟩
      case round =>
        rename World=>wq
        obtain ⟨q,rfl,hq,HO,HKQ⟩:=hrel
        obtain ⟨f1,f2,f3,f4⟩:=HE4.out _ HKQ.out
        by_cases hql:q≤c.length
        · obtain ⟨u0,hu0⟩:=HO.out.at (o:=q * 3) (by omega)
          obtain ⟨u1,hu1⟩:=HO.out.at (o:=q * 3 + 1) (by omega)
          obtain ⟨u2,hu2⟩:=HO.out.at (o:=q * 3 + 2) (by omega)
          have hfz:=HO.out.frozen
          have hql2:(q:Int)≤(c.length:Int):=by omega
          have hql3:q < c.length + 1:=by omega
          have hql4:(q:Int) < (c.length:Int) + 1:=by omega
          clear f1 f2
          go_wp2
          exact ⟨⟨q + 1,by go_num,by omega,HO.out.step (by omega) _ _,((HKQ.out.setG _ _).setG _ _).setG _ _⟩,by simp [intOf]; omega⟩
        · obtain rfl:q = c.length + 1:=by omega
          have HKN:=hide (HK4.out.next HKQ.out HKM.out HNE.out HNX.out.1 HNX.out.2)
          clear f3 f4 HKQ HE4 HK4 hr
          go_wp2
          go_loop [6,12] (fun ok i=>∃ q:Nat,ok = .bool true∧i = .int .i64 q∧q≤c.length) (fun _ i=>c.length - (intOf i).toNat)
          case atStart=>exact ⟨0,rfl,rfl,Nat.zero_le _⟩
          case round =>
            obtain ⟨q,rfl,rfl,hq⟩:=hrel
            by_cases hql:q < c.length
            · have h9:=HO.out.nine (j:=q) (by omega)
              go_wp2
              exact ⟨⟨q + 1,rfl,by go_num,by omega⟩,by simp [intOf]; omega⟩
            · go_wp2
              exact ⟨⟨k + 1,rfl,by go_num,by omega,HKN⟩,by simp [intOf]; omega⟩
    · go_wp2
      go_ret
      exact ⟨rfl,hr.out.kept⟩
end
end Go.Proofs.YtpkiefjanmfgfaaGreatDoor
