import Derived.Deep.RegionLaw
import Derived.BigCall
import Derived.Shelf.SlIterI.Nil
import Derived.Shelf.SortM.Plain
import Derived.Shelf.SortM.SortNone
import Derived.Ground.GgzProg
import Derived.Ground.SlgmProg
import Derived.Test.YtpkiefjanmfgfaaGreatDoorRows
import Derived.Test.YtpkiefjanmfgfaaGreatDoorAll02
import Derived.Test.YtpkiefjanmfgfaaGreatDoorAll04
import Derived.Test.YtpkiefjanmfgfaaGreatDoorAll05
import Derived.Test.YtpkiefjanmfgfaaGreatDoorAll13
import Derived.Test.YtpkiefjanmfgfaaGreatDoorAll19
import Derived.Test.YtpkiefjanmfgfaaGreatDoorAll23
import Derived.Test.YtpkiefjanmfgfaaGreatDoorAll24
namespace Go.Proofs.YtpkiefjanmfgfaaGreatDoor
section
open Go.ChangeShapes Go.WideShapes Go.RowKit

theorem cells72:Tryz.prog.cellsOf 72 = 3:=by kernel_rfl
theorem cells73:Tryz.prog.cellsOf 73 = 1:=by kernel_rfl
theorem bytes72:Tryz.prog.bytesOf 72 = 24:=by kernel_rfl
theorem bytes73:Tryz.prog.bytesOf 73 = 24:=by kernel_rfl

theorem list_choose {α:Type} (d:α) (len:Nat) (Q:Nat→α→Prop) (h:∀ i,i < len→∃ y,Q i y):∃ F:List α,F.length = len∧∀ i,i < len→Q i (F.getD i d):=by
  induction len with
  | zero=>exact ⟨[],rfl,fun i hi=>absurd hi (Nat.not_lt_zero _)⟩
  | succ n ih =>
    obtain ⟨F,hl,hF⟩:=ih fun i hi=>h i (by omega)
    obtain ⟨y,hy⟩:=h n (by omega)
    refine ⟨F ++ [y],by simp [hl],fun i hi=>?_⟩
    by_cases e:i = n
    · subst e
      have:(F ++ [y]).getD i d = y:=by simp [List.getD_eq_getElem?_getD,← hl]
      rw [this]; exact hy
    · have:(F ++ [y]).getD i d = F.getD i d:=by rw [List.getD_eq_getElem?_getD,List.getElem?_append_left (by omega),List.getD_eq_getElem?_getD]
      rw [this]; exact hF i (by omega)

section
variable {H:Type} {enc:TypeId × Value→H} {W:World} {hd:Bool}

set_option maxRecDepth 100000 in
theorem cond_open {n:Nat} {cs:List Value} {x:DataW H × List MemPlace} (h:DataW.trod enc Tryz.prog W 0 (fun _=>true) hd n 72 cs = some x):∃ t o v:Int,cs = [.int .i64 t,.int .i64 o,.int .i64 v]:=by
  obtain ⟨xs,m,_,rfl,hl,hlen,hx⟩:=DataW.trod_struct Tryz.underlying72 h
  rw [cells72] at hl
  match cs,hl with
  | [c0,c1,c2],_ =>
    match xs,hlen with
    | [y0,y1,y2],_ =>
      have g0:=hx 0 _ rfl
      have g1:=hx 1 _ rfl
      have g2:=hx 2 _ rfl
      simp [cells3] at g0 g1 g2
      obtain ⟨a0,e0,_⟩:=DataW.trod_int Tryz.underlying3 g0
      obtain ⟨a1,e1,_⟩:=DataW.trod_int Tryz.underlying3 g1
      obtain ⟨a2,e2,_⟩:=DataW.trod_int Tryz.underlying3 g2
      simp at e0 e1 e2
      subst e0; subst e1; subst e2
      exact ⟨a0,a1,a2,rfl⟩

set_option maxRecDepth 100000 in
theorem conds_open {n:Nat} {c:Value} {x:DataW H × List MemPlace} (h:DataW.trod enc Tryz.prog W 0 (fun _=>true) hd n 73 [c] = some x) (hw:∀ k ∈ x.1.weights Tryz.prog 73,k≤reachBytes) :
    ∃ cs:List Cnd,CondsAt W c cs∧(cs.length + 1) * 24≤140737488355328:=by
  rcases Deep.open_slice Tryz.underlying73 h with ⟨e,_⟩ | ⟨a,len',cap',m,n',D,Pl,e,_,hl,_,hm,hx,hi⟩
  · simp at e
    subst e
    exact ⟨[],⟨none,0,rfl,Nat.le_refl _,by simp,.inl rfl⟩,by simp⟩
  · simp at e hm
    subst e
    have hm':=hm.symm
    subst hm'
    subst hx
    have hb:(((List.range len').map D).length + ((List.range (cap' - len')).map fun j=>D (len' + j)).length) * Tryz.prog.bytesOf 72≤reachBytes:=hw _ (by simp only [DataW.weights,Tryz.underlying73]; exact List.mem_cons_self)
    simp [bytes72,reachBytes] at hb
    have hsz:len' * 24≤140737488351232:=Nat.le_trans (Nat.mul_le_mul_right 24 (by omega)) hb
    obtain ⟨F,hF,hQ⟩:=list_choose ((0,0,0):Cnd) len' (fun i y=>W.cell? ⟨a.block,a.off + i * 3,none⟩ = some (.int .i64 y.1)∧W.cell? ⟨a.block,a.off + i * 3 + 1,none⟩ = some (.int .i64 y.2.1)∧W.cell? ⟨a.block,a.off + i * 3 + 2,none⟩ = some (.int .i64 y.2.2)∧a = ⟨a.block,a.off,none⟩) (fun i hil=>by
      have ha:a = ⟨a.block,a.off,none⟩:=by
        obtain ⟨cs0,h1,_⟩:=hi 0 (by omega)
        obtain ⟨_,h2,h3⟩:=World.cells?_some h1
        rw [cells72] at h2 h3
        match cs0,h2 with
        | c :: _,_=>exact addr_plain (a:=a) (v:=c) (by simpa [Addr.add] using h3 0 (by omega))
      obtain ⟨cs',h1,h2⟩:=hi i (by omega)
      obtain ⟨t,o,v,rfl⟩:=cond_open h2
      obtain ⟨_,_,h3⟩:=World.cells?_some h1
      rw [cells72] at h3
      have hc:∀ j v',j < 3→[Value.int .i64 t,Value.int .i64 o,Value.int .i64 v][j]? = some v'→W.cell? ⟨a.block,a.off + i * 3 + j,none⟩ = some v':=fun j v' hj hv=>by
        have:=h3 j hj
        rw [ha,addr_at,addr_at] at this
        exact this.trans hv
      exact ⟨(t,o,v),hc 0 _ (by omega) rfl,hc 1 _ (by omega) rfl,hc 2 _ (by omega) rfl,ha⟩)
    refine ⟨F,⟨some a,cap',by rw [hF],by omega,by omega,?_⟩,by rw [hF]; omega⟩
    by_cases h0:len' = 0
    · left; exact List.eq_nil_of_length_eq_zero (by omega)
    · right
      exact ⟨a.block,a.off,by rw [← (hQ 0 (by omega)).2.2.2],fun i hi'=>⟨(hQ i (by omega)).1,(hQ i (by omega)).2.1,(hQ i (by omega)).2.2.1⟩⟩

set_option maxRecDepth 100000 in
theorem filt_open {n:Nat} {c:Value} {x:DataW H × List MemPlace} (h:DataW.trod enc Tryz.prog W 0 (fun _=>true) hd n 45 [c] = some x) (hw:∀ k ∈ x.1.weights Tryz.prog 45,k≤reachBytes) :
    ∃ F:List (List Cnd),FiltAt W c F∧(F.length + 1) * 24≤140737488355328∧∀ cc ∈ F,(cc.length + 1) * 24≤140737488355328:=by
  rcases Deep.open_slice Tryz.underlying45 h with ⟨e,_⟩ | ⟨a,len',cap',m,n',D,Pl,e,_,hl,_,hm,hx,hi⟩
  · simp at e
    subst e
    exact ⟨[],⟨none,0,rfl,Nat.le_refl _,by simp,.inl rfl⟩,by simp,fun cc hc=>absurd hc List.not_mem_nil⟩
  · simp at e hm
    subst e
    have hm':=hm.symm
    subst hm'
    subst hx
    have hb:(((List.range len').map D).length + ((List.range (cap' - len')).map fun j=>D (len' + j)).length) * Tryz.prog.bytesOf 73≤reachBytes:=hw _ (by simp only [DataW.weights,Tryz.underlying45]; exact List.mem_cons_self)
    simp [bytes73,reachBytes] at hb
    have hsz:len' * 24≤140737488351232:=Nat.le_trans (Nat.mul_le_mul_right 24 (by omega)) hb
    obtain ⟨F,hF,hQ⟩:=list_choose ([]:List Cnd) len' (fun i y=>(∃ u,W.cell? ⟨a.block,a.off + i,none⟩ = some u∧CondsAt W u y)∧(y.length + 1) * 24≤140737488355328∧a = ⟨a.block,a.off,none⟩) (fun i hil=>by
      have ha:a = ⟨a.block,a.off,none⟩:=by
        obtain ⟨cs0,h1,_⟩:=hi 0 (by omega)
        obtain ⟨_,h2,h3⟩:=World.cells?_some h1
        rw [cells73] at h2 h3
        match cs0,h2 with
        | c :: _,_=>exact addr_plain (a:=a) (v:=c) (by simpa [Addr.add] using h3 0 (by omega))
      obtain ⟨cs',h1,h2⟩:=hi i (by omega)
      obtain ⟨_,hl1,h3⟩:=World.cells?_some h1
      rw [cells73] at h3 hl1
      match cs',hl1 with
      | [c'],_ =>
        obtain ⟨cs,hc,hs⟩:=conds_open h2 (fun k hk=>hw k (by
          simp only [DataW.weights,Tryz.underlying45,List.mem_cons,List.mem_append]
          exact .inr (.inl (weights_all (List.mem_map.2 ⟨i,List.mem_range.2 hil,rfl⟩) k hk))))
        have:=h3 0 (by omega)
        rw [ha,addr_at,addr_at] at this
        exact ⟨cs,⟨c',by simpa using this,hc⟩,hs,ha⟩)
    refine ⟨F,⟨some a,cap',by rw [hF],by omega,by omega,?_⟩,by rw [hF]; omega,fun cc hc=>?_⟩
    · by_cases h0:len' = 0
      · left; exact List.eq_nil_of_length_eq_zero (by omega)
      · right
        exact ⟨a.block,a.off,by rw [← (hQ 0 (by omega)).2.2],fun i hi'=>(hQ i (by omega)).1⟩
    · obtain ⟨i,hi',rfl⟩:=List.mem_iff_getElem.1 hc
      have:=(hQ i (by omega)).2.1
      rwa [List.getD_eq_getElem?_getD,List.getElem?_eq_getElem hi'] at this
end
end
section
open Go.ChangeShapes Go.WideShapes Go.RowKit

section
variable {H:Type} {enc:TypeId × Value→H} {W:World} {hd:Bool}

set_option maxRecDepth 100000 in
theorem opF_open {n:Nat} {cs:List Value} {x:DataW H × List MemPlace} (h:DataW.trod enc Tryz.prog W 0 (fun _=>true) hd n 49 cs = some x) (hw:∀ k ∈ x.1.weights Tryz.prog 49,k≤reachBytes) :
    ∃ kd id kk be t0 t1 draw xs pa pc fa fn fc F,OpCells W cs kd id kk be t0 t1 draw xs pa pc fa fn fc∧FiltAt W (.slice fa fn fc) F∧(F.length + 1) * 24≤140737488355328∧∀ c ∈ F,(c.length + 1) * 24≤140737488355328:=by
  obtain ⟨xs,m,_,rfl,hl,hlen,hx⟩:=DataW.trod_struct Tryz.underlying49 h
  rw [cells49] at hl
  match cs,hl with
  | [c0,c1,c2,c3,c4,c5,c6,c7,c8],_ =>
    match xs,hlen with
    | [y0,y1,y2,y3,y4,y5,y6,y7],_ =>
      have g0:=hx 0 _ rfl
      have g1:=hx 1 _ rfl
      have g2:=hx 2 _ rfl
      have g3:=hx 3 _ rfl
      have g4:=hx 4 _ rfl
      have g5:=hx 5 _ rfl
      have g6:=hx 6 _ rfl
      have g7:=hx 7 _ rfl
      simp [cells3,cells32,cells43,cells44,cells47] at g0 g1 g2 g3 g4 g5 g6 g7
      clear hx
      obtain ⟨kd,e0,_⟩:=DataW.trod_int Tryz.underlying3 g0
      obtain ⟨id,e1,_,hid⟩:=DataW.trod_int Tryz.underlying3 g1
      obtain ⟨kk,e2,_⟩:=DataW.trod_int Tryz.underlying3 g2
      obtain ⟨be,e3,_⟩:=DataW.trod_int Tryz.underlying3 g3
      obtain ⟨draw,e7,_,hdr⟩:=DataW.trod_int Tryz.underlying44 g6
      obtain ⟨ps,pa,pc,e4,hp,hs⟩:=point_open g4 (fun k hk=>hw k (by
        simp only [DataW.weights,Tryz.underlying49]
        exact DataW.weights_mem_each (j:=4) rfl rfl k hk))
      obtain ⟨us,m2,_,_,_,hul,hu⟩:=DataW.trod_array Tryz.underlying43 g5
      match us,hul with
      | [u0,u1],_ =>
        have k0:=hu 0 (by omega)
        have k1:=hu 1 (by omega)
        simp [cells3] at k0 k1
        obtain ⟨t0,e5,_⟩:=DataW.trod_int Tryz.underlying3 k0
        obtain ⟨t1,e6,_⟩:=DataW.trod_int Tryz.underlying3 k1
        obtain ⟨z0,m3,hz7,_,g8⟩:=trod_struct1 Tryz.underlying47 g7
        simp [cells45] at g8
        obtain ⟨F,hF,hFn,hFm⟩:=filt_open g8 (fun k hk=>hw k (by
          simp only [DataW.weights,Tryz.underlying49]
          refine DataW.weights_mem_each (j:=7) rfl rfl k ?_
          rw [hz7]
          simp only [DataW.weights,Tryz.underlying47]
          exact DataW.weights_mem_each (j:=0) rfl rfl k hk))
        obtain ⟨fa,fn,fc,e8⟩:∃ fa fn fc,c8 = .slice fa fn fc:=by
          rcases Deep.open_slice Tryz.underlying45 g8 with ⟨e,_⟩ | ⟨a,len,cap,_,_,_,_,e,_⟩
          · simp at e; exact ⟨_,_,_,e⟩
          · simp at e; exact ⟨_,_,_,e⟩
        simp at e0 e1 e2 e3 e5 e6 e7
        subst e0; subst e1; subst e2; subst e3; subst e4; subst e5; subst e6; subst e7; subst e8
        exact ⟨kd,id,kk,be,t0,t1,draw,ps,pa,pc,fa,fn,fc,F,⟨rfl,hp,hid,u64_wf hdr,hs⟩,hF,hFn,hFm⟩

set_option maxRecDepth 100000 in
theorem scriptF_open {b0:Nat} {r:Reach} {v:Value} {d:DataW H} {p:List MemPlace} (hv:Value.okWide Tryz.prog W r b0 24 v) (h:DataW.Trod enc Tryz.prog W 0 (fun _=>true) hd 24 v d p) (hw:∀ k ∈ d.weights Tryz.prog 24,k≤reachBytes) :
    ∃ sa len cap,v = .slice sa len cap∧len≤cap∧ScriptF W sa len:=by
  obtain ⟨sa,len,cap,rfl⟩:=okWide_slice Tryz.underlying24 hv
  obtain ⟨fuel,hf⟩:=h
  have hf':DataW.trod enc Tryz.prog W 0 (fun _=>true) hd fuel 24 [.slice sa len cap] = some (d,p):=hf
  rcases Deep.open_slice Tryz.underlying24 hf' with ⟨e,_⟩ | ⟨a,len',cap',m,n,D,Pl,e,_,hl,_,hm,hx,hi⟩
  · simp at e
    obtain ⟨rfl,rfl,rfl⟩:=e
    exact ⟨none,0,0,rfl,Nat.le_refl _,by simp,fun i hi=>by omega⟩
  · simp at e hm
    obtain ⟨rfl,rfl,rfl⟩:=e
    have hm':=hm.symm
    subst hm'
    simp only [Prod.mk.injEq] at hx
    obtain ⟨rfl,_⟩:=hx
    refine ⟨some a,len,cap,rfl,hl,?_,fun i hil=>?_⟩
    · have hb:(((List.range len).map D).length + ((List.range (cap - len)).map fun j=>D (len + j)).length) * Tryz.prog.bytesOf 49≤reachBytes:=hw _ (by simp only [DataW.weights,Tryz.underlying24]; exact List.mem_cons_self)
      simp [bytes49,reachBytes] at hb
      have h1:len * 104≤(len + (cap - len)) * 104:=Nat.mul_le_mul_right 104 (by omega)
      exact Nat.le_trans h1 (by omega)
    · have ha:a = ⟨a.block,a.off,none⟩:=by
        obtain ⟨cs0,h1,_⟩:=hi 0 (by omega)
        obtain ⟨_,h2,h3⟩:=World.cells?_some h1
        rw [cells49] at h2 h3
        match cs0,h2 with
        | c :: _,_=>exact addr_plain (a:=a) (v:=c) (by simpa [Addr.add] using h3 0 (by omega))
      obtain ⟨cs',h1,h2⟩:=hi i (by omega)
      obtain ⟨kd,id,kk,be,t0,t1,draw,xs,pa,pc,fa,fn,fc,F,ho,hF,hFn,hFm⟩:=opF_open h2 (fun k hk=>hw k (by
        simp only [DataW.weights,Tryz.underlying24,List.mem_cons,List.mem_append]
        exact .inr (.inl (weights_all (List.mem_map.2 ⟨i,List.mem_range.2 hil,rfl⟩) k hk))))
      obtain ⟨_,_,h3⟩:=World.cells?_some h1
      rw [cells49] at h3
      refine ⟨a.block,a.off,by rw [← ha],kd,id,kk,be,t0,t1,draw,xs,pa,pc,fa,fn,fc,F,?_,hF,hFn,hFm⟩
      have hc:∀ j v,j < 9→cs'[j]? = some v→W.cell? ⟨a.block,a.off + i * 9 + j,none⟩ = some v:=fun j v hj hv=>by
        have:=h3 j hj
        rw [ha,addr_at,addr_at] at this
        exact this.trans hv
      rw [ho.all] at hc
      exact ⟨hc 0 _ (by omega) rfl,hc 1 _ (by omega) rfl,hc 2 _ (by omega) rfl,hc 3 _ (by omega) rfl,hc 4 _ (by omega) rfl,hc 5 _ (by omega) rfl,hc 6 _ (by omega) rfl,hc 7 _ (by omega) rfl,hc 8 _ (by omega) rfl,ho.pt,ho.wf,ho.dr,ho.sz⟩
end
end
section
open Go.RowKit Go.Maps

theorem i64_small {n:Int} (h0:0≤n) (h1:n < 1000000):I64 n:=by
  have e1:IntKind.i64.min = -9223372036854775808:=by decide
  have e2:IntKind.i64.max = 9223372036854775807:=by decide
  unfold I64
  simp [Lit.wf,e1,e2]
  omega
end
section
open Go.RowKit Go.Maps

structure LksAt (w:World) (A:Nat) (us:List Value) (ls:List (List Int)):Prop where
  blk:w.heap[A]? = some (.cells us.toArray 32 (0,0))
  len:us.length = ls.length
  row:∀ i,i < ls.length→IRow w (us.getD i (.slice none 0 0)) (ls.getD i [])
def Djs (us:List Value):Prop:=us.Pairwise fun u v=>∀ g,u.ownBlock = some g→v.ownBlock ≠ some g
structure NdS (w0 w:World) (A n:Nat) (us:List Value) (ls:List (List Int)):Prop where
  blk:w.heap[A]? = some (.cells (us ++ List.replicate (n - us.length) (Value.slice none 0 0)).toArray 32 (0,0))
  le:us.length≤n
  len:us.length = ls.length
  row:∀ i,i < ls.length→IRow w (us.getD i (.slice none 0 0)) (ls.getD i [])
  new:∀ u ∈ us,∀ g,u.ownBlock = some g→A < g
  dj:Djs us
  res:w.heap[w0.heap.size]? = some (.cells #[.int .i64 0,.int .i64 0,.slice none 0 0] 95 (0,0))
  hA:A = w0.heap.size + 1
  below:Below w0.heap.size w0 w
theorem NdS.on {w0 w w':World} {A n:Nat} {us:List Value} {ls:List (List Int)} (h:NdS w0 w A n us ls) (hb:Below w.heap.size w w'):NdS w0 w' A n us ls :=
  ⟨(hb.block _ (heap_lt h.blk)).trans h.blk,h.le,h.len,fun i hi=>ownsRow_below (h.row i hi) hb,h.new,h.dj,(hb.block _ (heap_lt h.res)).trans h.res,h.hA,h.below.trans (hb.mono h.below.size)⟩
theorem NdS.lt {w0 w:World} {A n:Nat} {us:List Value} {ls:List (List Int)} (h:NdS w0 w A n us ls) {u:Value} (hu:u ∈ us) {g:Nat} (hg:u.ownBlock = some g):g < w.heap.size:=by
  obtain ⟨i,hi,rfl⟩:=List.mem_iff_getElem.1 hu
  have:=h.row i (by rw [← h.len]; exact hi)
  rw [List.getD_eq_getElem?_getD,List.getElem?_eq_getElem hi] at this
  exact (this.lt g hg).2
theorem set_mid (us:List Value) (m:Nat) (z v:Value) (h:0 < m):(us ++ List.replicate m z).set us.length v = (us ++ [v]) ++ List.replicate (m - 1) z:=by
  obtain ⟨k,rfl⟩:∃ k,m = k + 1:=⟨m - 1,by omega⟩
  simp [List.replicate_succ]
theorem NdS.put {w0 w:World} {A n:Nat} {us:List Value} {ls:List (List Int)} (h:NdS w0 w A n us ls) (hlt:us.length < n) {v:Value} {l:List Int} (hv:IRow w v l) (hn:∀ g,v.ownBlock = some g→A < g) (hd:∀ u ∈ us,∀ g,u.ownBlock = some g→v.ownBlock ≠ some g):NdS w0 (w.setCell ⟨A,us.length,none⟩ v) A n (us ++ [v]) (ls ++ [l]):=by
  have hblk:(w.setCell ⟨A,us.length,none⟩ v).heap[A]? = some (.cells ((us ++ [v]) ++ List.replicate (n - (us ++ [v]).length) (Value.slice none 0 0)).toArray 32 (0,0)):=by
    rw [heap_setCell_same _ _ _ _ _ _ h.blk]
    have e:=set_mid us (n - us.length) (.slice none 0 0) v (by omega)
    simp only [List.length_append,List.length_singleton,show n - (us.length + 1) = n - us.length - 1 by omega,← e]
    simp
  have hk:Kept (fun k=>k = A) w (w.setCell ⟨A,us.length,none⟩ v):=(Kept.refl (fun k=>k = A) w).setCell (p:=⟨A,us.length,none⟩) (fun _=>rfl) v
  have hz:=h.hA
  refine ⟨hblk,by simp; omega,by simp [h.len],fun i hi=>?_,fun u hu g hg=>?_,?_,(hk.block _ (heap_lt h.res) (by omega)).trans h.res,h.hA,h.below.trans (hk.toBelow h.below.size (fun k e=>by rw [e]; omega))⟩
  · rcases Nat.lt_or_ge i ls.length with h1 | h1
    · have:=h.row i h1
      have e1:(us ++ [v]).getD i (.slice none 0 0) = us.getD i (.slice none 0 0):=by simp [List.getD_eq_getElem?_getD,List.getElem?_append_left (show i < us.length by rw [h.len]; exact h1)]
      have e2:(ls ++ [l]).getD i [] = ls.getD i []:=by simp [List.getD_eq_getElem?_getD,List.getElem?_append_left h1]
      rw [e1,e2]
      refine ownsRow_kept this hk fun g hg=>?_
      have hm:us.getD i (.slice none 0 0) ∈ us:=by
        rw [List.getD_eq_getElem?_getD,List.getElem?_eq_getElem (show i < us.length by rw [h.len]; exact h1)]
        exact List.getElem_mem _
      have:=h.new _ hm g hg
      omega
    · obtain rfl:i = ls.length:=by simp at hi; omega
      have e1:(us ++ [v]).getD ls.length (.slice none 0 0) = v:=by simp [List.getD_eq_getElem?_getD,← h.len]
      have e2:(ls ++ [l]).getD ls.length [] = l:=by simp [List.getD_eq_getElem?_getD]
      rw [e1,e2]
      exact ownsRow_kept hv hk fun g hg=>by have:=hn g hg; omega
  · rcases List.mem_append.1 hu with hu | hu
    · exact h.new u hu g hg
    · rw [List.mem_singleton.1 hu] at hg
      exact hn g hg
  · refine List.pairwise_append.2 ⟨h.dj,List.pairwise_singleton _ _,fun u hu x hx=>?_⟩
    rw [List.mem_singleton.1 hx]
    exact hd u hu
def nodeL (lk:Int × Int→List Int) (id:Int) (n:Nat):List (List Int):=(List.range n).map fun (k:Nat)=>lk (id,(k:Int))
theorem nodeL_succ (lk:Int × Int→List Int) (id:Int) (n:Nat):nodeL lk id (n + 1) = nodeL lk id n ++ [lk (id,(n:Int))]:=by
  unfold nodeL
  rw [List.range_succ,List.map_append]
  rfl
theorem nodeL_len (lk:Int × Int→List Int) (id:Int) (n:Nat):(nodeL lk id n).length = n:=by simp [nodeL]

set_option maxHeartbeats 2000000 in
set_option maxRecDepth 20000 in
theorem node120 (bg:Nat) (F:Nat→Prop) (lev:List (Int × Int)) (lk:Int × Int→List Int) (ch:List Int) (id:Int) (t:Nat) (w:World) (h:GAt w bg F lev lk ch) (hid:I64 id) (hlv:levOf lev id = some (t:Int)) (ht:t≤10) (hs:∀ k:Nat,k≤t→(lk (id,(k:Int))).length≤1000) :
    Calls Tryz.prog 120 #[.pointer (some ⟨bg,0,none⟩),.int .i64 id] w fun ev w'=>∃ A us,ev = .returned (.agg #[.int .i64 id,.int .i64 t,.slice (some ⟨A,0,none⟩) (t + 1) (t + 1)])∧LksAt w' A us (nodeL lk id (t + 1))∧w.heap.size≤A∧((∀ u ∈ us,∀ g,u.ownBlock = some g→A < g)∧Djs us)∧Below w.heap.size w w':=by
  obtain ⟨i32,hi32,hz320,hz321,hz322⟩:=info_parts info32
  have hmk:=fun W=>run_make (P:=Tryz.prog) W 31 32 i32 (.slice none 0 0) Tryz.underlying31 hi32 hz320 .i64 .i64 ((t:Int) + 1) ((t:Int) + 1) (by omega) (Int.le_refl _) (by rw [hz322]; omega) (by omega)
  have e1:((t:Int) + 1).toNat = t + 1:=by omega
  rw [e1,hz321] at hmk
  simp only [Nat.mul_one] at hmk
  obtain ⟨M1,hM1⟩:∃ M1,M1 = madeCells (Value.cells (.slice none 0 0)) (t + 1):=⟨_,rfl⟩
  rw [← hM1] at hmk
  have HM1:=hide (hM1.trans (madeNil73 _))
  have HLV:=hide (fun W (hW:GAt W bg F lev lk ch)=>level87 bg F lev lk ch id W hW hid)
  rw [hlv] at HLV
  simp only [Option.getD_some] at HLV
  have HLK:=hide (fun (k:Nat) (hk:k≤t) W (hW:GAt W bg F lev lk ch)=>linked88 bg F lev lk ch id k W hW hid (i64_small (by omega) (by omega)) (hs k hk))
  have HG:=hide h
  clear hs hlv h hM1 e1
  go_enter Tryz.func120,Tryz.ntmps120
  go_wp2_with fail
  go_fit (HLV.out _ (HG.out.below ((Below.refl _ _).alloc (Nat.le_refl _) _)))
  rintro ev' w' ⟨rfl,rfl⟩
  go_wp2
  have hS0:NdS w ((w.alloc (.cells #[.int .i64 0,.int .i64 0,.slice none 0 0] 95)).alloc (.cells M1 32)) (w.heap.size + 1) (t + 1) [] (nodeL lk id 0):=by
    refine ⟨?_,by simp,by simp [nodeL],fun i hi=>absurd hi (by simp [nodeL]),fun _ hu=>absurd hu List.not_mem_nil,List.Pairwise.nil,?_,rfl,((Below.refl _ _).alloc (Nat.le_refl _) _).alloc (by simp) _⟩
    · rw [HM1.out]
      have:=heap_alloc_new (w.alloc (.cells #[.int .i64 0,.int .i64 0,.slice none 0 0] 95)) (.cells (List.replicate (t + 1) (Value.slice none 0 0)).toArray 32)
      simpa using this
    · exact (((Below.refl (w.alloc (.cells #[.int .i64 0,.int .i64 0,.slice none 0 0] 95)).heap.size _).alloc (Nat.le_refl _) _).block _ (by simp)).trans (heap_alloc_new _ _)
  have HS0:=hide hS0
  clear hS0 hmk HM1
  generalize ((w.alloc (.cells #[.int .i64 0,.int .i64 0,.slice none 0 0] 95)).alloc (.cells M1 32)) = w1 at HS0 ⊢
  generalize hAe:w.heap.size + 1 = A at HS0 ⊢
  have HAE:=hide hAe
  clear hAe
  go_loopw [6,14] (fun _ iv wr=>∃ (us:List Value),iv = .int .i64 us.length∧Hid (NdS w wr A (t + 1) us (nodeL lk id us.length))) (fun _ iv _=>t + 1 - (intOf iv).toNat)
  case atStart=>exact ⟨[],rfl,HS0.out⟩
  case round =>
    obtain ⟨us,rfl,HS⟩:=hrel
    have hle:=HS.out.le
    by_cases hlt:us.length < t + 1
    · have HL:=hide (HLK.out us.length (by omega) wr (HG.out.below HS.out.below))
      go_wp2_with fail
      go_fit HL.out
      rintro ev w3 ⟨v3,rfl,hr3,hf3,hb3,_⟩
      obtain ⟨a3,c3,hv3,_⟩:=IRow_slice hr3
      subst hv3
      have hS3:=HS.out.on hb3
      have hzA:A < wr.heap.size:=heap_lt HS.out.blk
      have hS4:=hS3.put hlt hr3 (fun g hg=>by have:=hf3 g hg; omega) (fun u hu g hg e=>by have h1:=hf3 g e; have h2:=HS.out.lt hu hg; omega)
      rw [← nodeL_succ] at hS4
      have x0:w3.cell? ⟨A,us.length,none⟩ = some (.slice none 0 0):=by
        rw [cell_of_row w3 _ _ _ _ _ hS3.blk]
        simp [show 0 < t + 1 - us.length by omega]
      have fz:w3.frozen? ⟨A,us.length,none⟩ = false:=cells_frozen hS3.blk _
      have HS4:=hide hS4
      clear hS3 hS4 hr3 hf3 hb3 HL
      go_wp2
      refine ⟨⟨us ++ [.slice a3 (lk (id,(us.length:Int))).length c3],by simp,?_⟩,by simp [intOf]; omega⟩
      rw [List.length_append,List.length_singleton]
      exact HS4.out
    · obtain hul:us.length = t + 1:=by omega
      go_wp2_with fail
      go_fit (HLV.out _ (HG.out.below HS.out.below))
      rintro ev' w' ⟨rfl,rfl⟩
      have x0:=cells_at HS.out.res 0 rfl
      have x1:=cells_at HS.out.res 1 rfl
      have x2:=cells_at HS.out.res 2 rfl
      have fz:=cells_frozen HS.out.res
      go_wp2
      generalize hwf:((wr.setCell ⟨w.heap.size,0,none⟩ (.int .i64 id)).setCell ⟨w.heap.size,1,none⟩ (.int .i64 t)).setCell ⟨w.heap.size,2,none⟩ (.slice (some ⟨A,0,none⟩) (t + 1) (t + 1)) = wf
      have hres:wf.heap[w.heap.size]? = some (.cells #[.int .i64 id,.int .i64 t,.slice (some ⟨A,0,none⟩) (t + 1) (t + 1)] 95 (0,0)):=by
        rw [← hwf,heap_setCell_same _ _ _ _ _ _ (heap_setCell_same _ _ _ _ _ _ (heap_setCell_same _ _ _ _ _ _ HS.out.res))]
        rfl
      have hk:Kept (fun k=>k = w.heap.size) wr wf:=by
        rw [← hwf]
        exact (((Kept.refl (fun k=>k = w.heap.size) wr).setCell (p:=⟨w.heap.size,0,none⟩) (fun _=>rfl) _).setCell (p:=⟨w.heap.size,1,none⟩) (fun _=>rfl) _).setCell (p:=⟨w.heap.size,2,none⟩) (fun _=>rfl) _
      have q0:=cells_at hres 0 rfl
      have q1:=cells_at hres 1 rfl
      have q2:=cells_at hres 2 rfl
      simp only [List.getElem_toArray,List.getElem_cons_zero,List.getElem_cons_succ] at q0 q1 q2
      have hA:=HAE.out
      have hb:=HS.out.blk
      rw [hul,Nat.sub_self,List.replicate_zero,List.append_nil] at hb
      refine bodyPost_ret (v:=.agg #[.int .i64 id,.int .i64 t,.slice (some ⟨A,0,none⟩) (t + 1) (t + 1)]) (by simp [results,Tryz.results120,go_sem,q0,q1,q2]) rfl ?_
      refine ⟨A,us,rfl,⟨(hk.block _ (heap_lt hb) (by omega)).trans hb,by rw [nodeL_len]; exact hul,fun i hi=>?_⟩,by omega,⟨HS.out.new,HS.out.dj⟩,HS.out.below.trans (hk.toBelow HS.out.below.size (fun k e=>by omega))⟩
      have hr:=HS.out.row i (by rw [nodeL_len] at hi ⊢; omega)
      rw [hul] at hr
      refine ownsRow_kept hr hk fun g hg=>?_
      have hm:us.getD i (.slice none 0 0) ∈ us:=by
        rw [nodeL_len] at hi
        rw [List.getD_eq_getElem?_getD,List.getElem?_eq_getElem (show i < us.length by omega)]
        exact List.getElem_mem _
      have:=HS.out.new _ hm g hg
      omega
end
section
open Go.RowKit Go.Maps

section
variable {P:Program} {ops:Array Oper} {o:Oper} {a:Act} {w:World} {K:Act→World→Prop} {Q:Exit→Act→World→Prop} {E:Prop}
theorem step_append_any (hg:o.guard = none) (s x:Operand) (t:TypeId) (hop:o.op = Op.call { callee:=Callee.builtin Builtin.append,args:=#[s,x],argTypes:=#[t,t] })
    (base:Nat) (e:TypeId) (i:TypeInfo) (z:Value) (size bytes:Nat) (ht:P.underlying t = some (.slice e)) (hi:P.info? e = some i) (hz:i.zero = some z)
    (hsize:i.size = size) (hby:i.bytes = bytes) (hzs:z.cells.size = size) (hsz:0 < size)
    (v:Value) (n:Nat) (xs:List Value) (hs:a.eval s = v) (hown:w.ownsRow base e size v n xs)
    (sa:Option Addr) (m c:Nat) (news:List Value) (hx:a.eval x = .slice sa m c) (hl:news.length = m * size) (hnews:0 < m→∃ a,sa = some a∧∀ j u,news[j]? = some u→w.cell? (a.add j) = some u) (h1:∀ u ∈ news,u.oneCell' = true)
    (h63:n + m≤maxLen) (hbytes:(n + m) * bytes≤140737488355328) (hbase:base≤w.heap.size)
    (hK:∀ v' w',w'.ownsRow base e size v' (n + m) (xs ++ news)→w.grownBy w' v.ownBlock→(v'.ownBlock = v.ownBlock ∨ v'.ownBlock = some w.heap.size)→K (a.put o.dst v') w') :
    if Region.wanted o (yielded ops a.tmps) = true then Oper.wp P o a w K Q else E:=by
  have hw:Region.wanted o (yielded ops a.tmps) = true:=by simp [Region.wanted,hg]
  rw [if_pos hw]
  obtain ⟨v',w',hr,h2,h3,h5⟩:=run_append_any (P:=P) w base t o.type e i z size bytes ht hi hz hsize hby hzs hsz v n xs hown sa m c news hl hnews h1 h63 hbytes hbase
  unfold Oper.wp execOp
  simp only [hop,resolve,invoke,builtin,Sem.run_bind,Sem.run_pure,Result.andThen_ok,List.map_toArray,List.map_cons,List.map_nil,hs,hx,hr]
  exact hK v' w' h2 h3 h5
end
end
section
open Go.RowKit Go.Maps

theorem info95:(Tryz.prog.info? 95).map (fun i=>(i.zero,i.size,i.bytes)) = some (some (.agg #[.int .i64 0,.int .i64 0,.slice none 0 0]),3,40):=by kernel_rfl
structure TNode where
  id:Int
  t:Nat
  A:Nat
  us:List Value
def ncell (n:TNode):List Value:=[.int .i64 n.id,.int .i64 n.t,.slice (some ⟨n.A,0,none⟩) (n.t + 1) (n.t + 1)]
def ncells (ns:List TNode):List Value:=ns.flatMap ncell
theorem ncells_snoc (ns:List TNode) (n:TNode):ncells (ns ++ [n]) = ncells ns ++ ncell n:=by simp [ncells]
theorem ncell_one (n:TNode):∀ u ∈ ncell n,u.oneCell' = true:=by
  intro u hu
  simp [ncell] at hu
  rcases hu with rfl | rfl | rfl <;> rfl
structure NodesAt (w:World) (lk:Int × Int→List Int) (nv:Value) (ns:List TNode):Prop where
  row:w.ownsRow 0 95 3 nv ns.length (ncells ns)
  lks:∀ n ∈ ns,LksAt w n.A n.us (nodeL lk n.id (n.t + 1))
theorem LksAt.kept {S:Nat→Prop} {w w':World} {A:Nat} {us:List Value} {ls:List (List Int)} (h:LksAt w A us ls) (hk:Kept S w w') (h1:¬ S A) (h2:∀ k c,w.heap[k]? = some (.cells c 3 (0,0))→¬ S k):LksAt w' A us ls :=
  ⟨(hk.block _ (heap_lt h.blk) h1).trans h.blk,h.len,fun i hi=>ownsRow_kept (h.row i hi) hk fun g hg=>by
    obtain ⟨c,hc⟩:=ownsRow_obj (h.row i hi) hg
    exact h2 g c hc⟩
theorem LksAt.below {w w':World} {A:Nat} {us:List Value} {ls:List (List Int)} (h:LksAt w A us ls) (hb:Below w.heap.size w w'):LksAt w' A us ls :=
  h.kept (Kept.of_below (fun _=>False) hb) id (fun _ _ _=>id)
theorem NodesAt.below {w w':World} {lk:Int × Int→List Int} {nv:Value} {ns:List TNode} (h:NodesAt w lk nv ns) (hb:Below w.heap.size w w'):NodesAt w' lk nv ns :=
  ⟨ownsRow_below h.row hb,fun n hn=>(h.lks n hn).below hb⟩

structure Frs (N:Nat) (chv:Value) (ns:List TNode):Prop where
  A:∀ n ∈ ns,N≤n.A
  us:∀ n ∈ ns,∀ u ∈ n.us,∀ g,u.ownBlock = some g→N≤g∧chv.ownBlock ≠ some g
  Adj:(ns.map (·.A)).Nodup
  dj:Djs (ns.flatMap (·.us))
structure NewN (N:Nat) (chv:Value) (ns:List TNode) (n:TNode):Prop where
  A:N≤n.A
  us:∀ u ∈ n.us,∀ g,u.ownBlock = some g→n.A < g
  dj:Djs n.us
  old:∀ g,(chv.ownBlock = some g ∨ ∃ m ∈ ns,m.A = g ∨ ∃ u ∈ m.us,u.ownBlock = some g)→g < n.A
theorem Frs.old {N M:Nat} {chv:Value} {ns:List TNode} (h:Frs N chv ns) (hm:M≤N):Frs M chv ns:=⟨fun n hn=>Nat.le_trans hm (h.A n hn),fun n hn u hu g hg=>⟨Nat.le_trans hm (h.us n hn u hu g hg).1,(h.us n hn u hu g hg).2⟩,h.Adj,h.dj⟩
theorem Frs.add {N:Nat} {chv:Value} {ns:List TNode} {n:TNode} (h:Frs N chv ns) (hn:NewN N chv ns n):Frs N chv (ns ++ [n]):=by
  refine ⟨fun m hm=>?_,fun m hm u hu g hg=>?_,?_,?_⟩
  · rcases List.mem_append.1 hm with hm | hm
    · exact h.A m hm
    · rw [List.mem_singleton.1 hm]; exact hn.A
  · rcases List.mem_append.1 hm with hm | hm
    · exact h.us m hm u hu g hg
    · rw [List.mem_singleton.1 hm] at hu
      have h1:=hn.us u hu g hg
      have h2:=hn.A
      exact ⟨by omega,fun e=>by have:=hn.old g (.inl e); omega⟩
  · rw [List.map_append,List.nodup_append]
    refine ⟨h.Adj,List.pairwise_singleton _ _,fun a ha b hb e=>?_⟩
    obtain ⟨m,hm,rfl⟩:=List.mem_map.1 ha
    have:=hn.old m.A (.inr ⟨m,hm,.inl rfl⟩)
    simp at hb
    omega
  · unfold Djs
    rw [List.flatMap_append,List.pairwise_append]
    refine ⟨h.dj,by rw [List.flatMap_singleton]; exact hn.dj,fun u hu v hv g hg e=>?_⟩
    obtain ⟨m,hm,hu⟩:=List.mem_flatMap.1 hu
    have h1:=hn.old g (.inr ⟨m,hm,.inr ⟨u,hu,hg⟩⟩)
    have h2:=hn.us v (by simpa using hv) g e
    omega

structure TlS (w0 w:World) (T:Nat) (has:Bool) (ent:Int) (chv:Value) (ch:List Int) (idv:Value) (ids:List Int) (lk:Int × Int→List Int) (nv:Value) (ns:List TNode):Prop where
  res:w.heap[w0.heap.size]? = some (.cells #[.bool false,.int .i64 0,.slice none 0 0,.slice none 0 0] 83 (0,0))
  told:w.heap[T]? = some (.cells #[.bool has,.int .i64 ent,chv,nv] 83 (0,0))
  tne:w0.heap.size < T
  chr:IRow w chv ch
  chn:∀ g,chv.ownBlock = some g→w0.heap.size≤g
  idr:IRow w idv ids
  nds:NodesAt w lk nv ns
  nvn:∀ g,nv.ownBlock = some g→w0.heap.size≤g
  fr:Frs w0.heap.size chv ns
  below:Below w0.heap.size w0 w
section
variable {w0 w w':World} {T:Nat} {has:Bool} {ent:Int} {chv nv idv:Value} {ch ids:List Int} {lk:Int × Int→List Int} {ns:List TNode}
theorem TlS.on (h:TlS w0 w T has ent chv ch idv ids lk nv ns) (hb:Below w.heap.size w w'):TlS w0 w' T has ent chv ch idv ids lk nv ns :=
  ⟨(hb.block _ (heap_lt h.res)).trans h.res,(hb.block _ (heap_lt h.told)).trans h.told,h.tne,ownsRow_below h.chr hb,h.chn,ownsRow_below h.idr hb,h.nds.below hb,h.nvn,h.fr,h.below.trans (hb.mono h.below.size)⟩
theorem LksAt.lt {w:World} {A:Nat} {us:List Value} {ls:List (List Int)} (h:LksAt w A us ls) {u:Value} (hu:u ∈ us) {g:Nat} (hg:u.ownBlock = some g):g < w.heap.size:=by
  obtain ⟨i,hi,rfl⟩:=List.mem_iff_getElem.1 hu
  have:=h.row i (by rw [← h.len]; exact hi)
  rw [List.getD_eq_getElem?_getD,List.getElem?_eq_getElem hi] at this
  exact (this.lt g hg).2
theorem TlS.lts (h:TlS w0 w T has ent chv ch idv ids lk nv ns):∀ g,(chv.ownBlock = some g ∨ ∃ m ∈ ns,m.A = g ∨ ∃ u ∈ m.us,u.ownBlock = some g)→g < w.heap.size:=by
  rintro g (e | ⟨m,hm,rfl | ⟨u,hu,hg⟩⟩)
  · exact (h.chr.lt g e).2
  · exact heap_lt (h.nds.lks m hm).blk
  · exact (h.nds.lks m hm).lt hu hg
theorem TlS.add {nv':Value} {n:TNode} (h:TlS w0 w T has ent chv ch idv ids lk nv ns) (hnew:NewN w0.heap.size chv ns n) (hn:LksAt w n.A n.us (nodeL lk n.id (n.t + 1)))
    (ho:w'.ownsRow 0 95 3 nv' (ns.length + 1) (ncells ns ++ ncell n)) (hg:w.grownBy w' nv.ownBlock) (hl:nv'.ownBlock = nv.ownBlock ∨ nv'.ownBlock = some w.heap.size) :
    TlS w0 (w'.setCell ⟨T,3,none⟩ nv') T has ent chv ch idv ids lk nv' (ns ++ [n]):=by
  have hk:Kept (fun k=>nv.ownBlock = some k) w w':=(Kept.refl _ w).grown hg (fun k hk _=>hk)
  have hnr:∀ k,nv.ownBlock = some k→∃ c,w.heap[k]? = some (.cells c 95 (0,0)):=fun k hk=>ownsRow_obj h.nds.row hk
  have ne:∀ {b:Nat} {c:Array Value} {e:TypeId},w.heap[b]? = some (.cells c e (0,0))→e ≠ 95→¬ nv.ownBlock = some b:=fun hb h1 e=>by
    obtain ⟨c,hc⟩:=hnr _ e
    exact ne_of_elem hb hc h1 rfl
  have t1:=(hk.block _ (heap_lt h.told) (ne h.told (by decide))).trans h.told
  have r1:=(hk.block _ (heap_lt h.res) (ne h.res (by decide))).trans h.res
  have c1:IRow w' chv ch:=ownsRow_kept h.chr hk fun g hg=>by
    obtain ⟨c,hc⟩:=ownsRow_obj h.chr hg
    exact ne hc (by decide)
  have d1:IRow w' idv ids:=ownsRow_kept h.idr hk fun g hg=>by
    obtain ⟨c,hc⟩:=ownsRow_obj h.idr hg
    exact ne hc (by decide)
  have l1:∀ m ∈ ns ++ [n],LksAt w' m.A m.us (nodeL lk m.id (m.t + 1)):=fun m hm=>by
    have hm2:LksAt w m.A m.us (nodeL lk m.id (m.t + 1)):=(List.mem_append.1 hm).elim (h.nds.lks m) (fun e=>by rw [List.mem_singleton.1 e]; exact hn)
    exact hm2.kept hk (ne hm2.blk (by decide)) (fun k c hc=>ne hc (by decide))
  have hk2:Kept (fun k=>k = T) w' (w'.setCell ⟨T,3,none⟩ nv'):=(Kept.refl (fun k=>k = T) w').setCell (p:=⟨T,3,none⟩) (fun _=>rfl) nv'
  have ne2:∀ {b:Nat} {c:Array Value} {e:TypeId},w'.heap[b]? = some (.cells c e (0,0))→e ≠ 83→¬ b = T:=fun hb h1 e=>ne_of_elem hb t1 h1 e
  have htn:=h.tne
  have hbw:Below w0.heap.size w0 w':=h.below.grown hg h.below.size h.nvn
  refine ⟨(hk2.block _ (heap_lt r1) (by omega)).trans r1,?_,h.tne,?_,h.chn,?_,⟨?_,fun m hm=>?_⟩,fun g hgg=>?_,h.fr.add hnew,hbw.trans (hk2.toBelow hbw.size (fun k e=>by omega))⟩
  · rw [heap_setCell_same _ _ _ _ _ _ t1]
    rfl
  · refine ownsRow_kept c1 hk2 fun g hg=>?_
    obtain ⟨c,hc⟩:=ownsRow_obj c1 hg
    exact ne2 hc (by decide)
  · refine ownsRow_kept d1 hk2 fun g hg=>?_
    obtain ⟨c,hc⟩:=ownsRow_obj d1 hg
    exact ne2 hc (by decide)
  · rw [ncells_snoc,List.length_append,List.length_singleton]
    refine ownsRow_kept ho hk2 fun g hg=>?_
    obtain ⟨c,hc⟩:=ownsRow_obj ho hg
    exact ne2 hc (by decide)
  · have:=l1 m hm
    exact this.kept hk2 (ne2 this.blk (by decide)) (fun k c hc=>ne2 hc (by decide))
  · rcases hl with e | e
    · exact h.nvn g (e ▸ hgg)
    · rw [e] at hgg
      injection hgg with hgg
      have:=h.below.size
      omega
end
end
section
open Go.RowKit Go.Maps

theorem TlS.stand {w0 w w':World} {T:Nat} {has:Bool} {ent:Int} {chv nv idv:Value} {ch ids:List Int} {lk:Int × Int→List Int} {ns:List TNode} (h:TlS w0 w T has ent chv ch idv ids lk nv ns) (hg:w.grownBy w' nv.ownBlock):w'.cell? ⟨T,3,none⟩ = some nv∧w'.frozen? ⟨T,3,none⟩ = false:=by
  have hk:Kept (fun k=>nv.ownBlock = some k) w w':=(Kept.refl _ w).grown hg (fun k hk _=>hk)
  have t1:=(hk.block _ (heap_lt h.told) (fun e=>by
    obtain ⟨c,hc⟩:=ownsRow_obj h.nds.row e
    exact ne_of_elem h.told hc (by decide) rfl)).trans h.told
  exact ⟨cells_at t1 3 rfl,cells_frozen t1 _⟩
def idsL (lev:List (Int × Int)):List Int:=(lev.map (·.1)).mergeSort fun x y=>decide (x≤y)
theorem idsL_perm (lev:List (Int × Int)):(idsL lev).Perm (lev.map (·.1)):=List.mergeSort_perm _ _
structure KeysOk (w:World) (bl:Nat) (lev:List (Int × Int)):Prop where
  keys:∀ W,Calls Tryz.prog 119 #[.map (some bl)] W fun e w'=>e = .returned (.func (.func 156) #[] #[.pointer (some ⟨W.heap.size,0,none⟩)])∧w' = W.alloc (.cells #[.map (some bl)] 169)
  sorted:∀ W,Below w.heap.size w W→Calls Tryz.prog 118 #[.func (.func 156) #[] #[.pointer (some ⟨W.heap.size,0,none⟩)]] (W.alloc (.cells #[.map (some bl)] 169)) fun e w'=>∃ v,e = .returned v∧IRow w' v (idsL lev)∧(∀ g,v.ownBlock = some g→W.heap.size≤g)∧Below W.heap.size W w'

set_option maxHeartbeats 4000000 in
set_option maxRecDepth 20000 in
theorem tell62 (bg:Nat) (F:Nat→Prop) (lev:List (Int × Int)) (lk:Int × Int→List Int) (ch:List Int) (w:World) (h:GAt w bg F lev lk ch) (hK:∀ bl,w.cell? ⟨bg,0,none⟩ = some (.map (some bl))→KeysOk w bl lev)
    (hid:∀ p ∈ lev,I64 p.1∧0≤p.2∧p.2≤5) (hnod:(lev.map (·.1)).Nodup) (hln:lev.length≤60) (hcn:ch.length≤60) (hs:∀ p,(lk p).length≤1000) :
    Calls Tryz.prog 62 #[.pointer (some ⟨bg,0,none⟩)] w fun ev w'=>∃ chv nv ns,ev = .returned (.agg #[.bool (decide (0≤(entrL lev).2)),.int .i64 (entrL lev).1,chv,nv])∧IRow w' chv ch∧NodesAt w' lk nv ns ∧
      (ns.map (·.id) = idsL lev∧∀ n ∈ ns,levOf lev n.id = some (n.t:Int))∧(∀ g,chv.ownBlock = some g→w.heap.size≤g)∧((∀ g,nv.ownBlock = some g→w.heap.size≤g)∧Frs w.heap.size chv ns)∧Below w.heap.size w w':=by
  have HEN:=hide (fun W (hW:GAt W bg F lev lk ch)=>entrance112 bg F lev lk ch W hW (fun p hp=>⟨(hid p hp).1,(hid p hp).2.1⟩))
  obtain ⟨bl,bk,cv,Ls,hraw,_,_,_⟩:=id h
  have hKo:=hK bl hraw.c0
  have hblk:=hraw.blk
  have hcr:=hraw.chr
  obtain ⟨ca,ccap,rfl,hca⟩:=IRow_slice hcr
  have HG:=hide h
  have HKO:=hide hKo
  have HBK:=hide hblk
  have HCR:=hide hcr
  have HID:=hide hid
  have HS:=hide hs
  clear h hK hraw hKo hblk hcr hid hs
  go_enter Tryz.func62,Tryz.ntmps62
  go_wp2_with fail
  have hb0:Below w.heap.size w (w.alloc (.cells #[.bool false,.int .i64 0,.slice none 0 0,.slice none 0 0] 83)):=(Below.refl _ _).alloc (Nat.le_refl _) _
  go_fit (HEN.out _ (HG.out.below hb0))
  rintro ev w1 ⟨rfl,hb1⟩
  have hr1:w1.heap[w.heap.size]? = some (.cells #[.bool false,.int .i64 0,.slice none 0 0,.slice none 0 0] 83 (0,0)):=(hb1.block _ (by simp)).trans (heap_alloc_new _ _)
  have hw1:Below w.heap.size w w1:=hb0.trans (hb1.mono (by simp))
  have hz1:w.heap.size < w1.heap.size:=heap_lt hr1
  have hbk1:=(hw1.block _ (heap_lt HBK.out)).trans HBK.out
  have c2:w1.cell? ⟨bg,2,none⟩ = some (.slice ca ch.length ccap):=cells_at hbk1 2 rfl
  have hcr1:=ownsRow_below HCR.out hw1
  have HN:Hid (0 < ch.length→∃ a,ca = some a∧∀ j u,(vals ch)[j]? = some u→w1.cell? (a.add j) = some u):=fun hp=>by
    obtain ⟨g,rfl⟩:=hca hp
    exact ⟨_,rfl,fun j u hj=>by rw [addr_add,Nat.zero_add]; exact ownsRow_cell hcr1 hj⟩
  have HNIL:Hid (w1.ownsRow 0 3 1 (.slice none 0 0) 0 []):=⟨rfl,.inl ⟨rfl,rfl⟩⟩
  obtain ⟨i3,hi3,hz30,hz31,hz32⟩:=info_parts info3
  have HW1:=hide hw1
  have HR1:=hide hr1
  clear hb1 hw1 hr1 hcr1 hb0 hbk1
  go_upto_region 3 with (at_builtin; go_must (refine wpList_append_any _ rfl _ _ 32 rfl 0 3 i3 (.int .i64 0) 1 8 Tryz.underlying32 hi3 hz30 hz31 hz32 rfl (by decide) (.slice none 0 0) 0 [] rfl HNIL.out ca ch.length ccap (vals ch) rfl (by rw [vals_length]; omega) HN.out (vals_one ch) (by unfold maxLen; omega) (by omega) (Nat.zero_le _) ?_); intro v2 w2 ho2 hg2 hat2; rw [Nat.zero_add,List.nil_append] at ho2; have hrow2:IRow w2 v2 ch:=ho2; obtain ⟨a2,cap2,hv2,_⟩:=IRow_slice hrow2; subst hv2)
  generalize hhas:decide (0≤(entrL lev).2) = has
  generalize hent:(entrL lev).1 = ent
  have HHE:=hide (And.intro hhas hent)
  clear hhas hent
  have hv2n:∀ g,Value.ownBlock (.slice a2 ch.length cap2) = some g→w.heap.size≤g:=fun g hg=>by
    rcases hat2 with e | e
    · rw [e] at hg; cases hg
    · rw [e] at hg; injection hg with hg; omega
  have hb2:Below w1.heap.size w1 w2:=(Below.refl w1.heap.size w1).grown hg2 (Nat.le_refl _) (fun k hk=>by cases hk)
  obtain ⟨w3,hw3⟩:∃ w3,w3 = w2.alloc (.cells #[.bool has,.int .i64 ent,.slice a2 ch.length cap2,.slice none 0 0] 83):=⟨_,rfl⟩
  have hb3:Below w2.heap.size w2 w3:=hw3 ▸ (Below.refl _ _).alloc (Nat.le_refl _) _
  have ht3:w3.heap[w2.heap.size]? = some (.cells #[.bool has,.int .i64 ent,.slice a2 ch.length cap2,.slice none 0 0] 83 (0,0)):=by rw [hw3]; exact heap_alloc_new _ _
  rw [← hw3]
  clear hw3
  have hw13:Below w1.heap.size w1 w3:=hb2.trans (hb3.mono hb2.size)
  have hw03:Below w.heap.size w w3:=HW1.out.trans (hw13.mono HW1.out.size)
  have hr3:=(hw13.block _ (heap_lt HR1.out)).trans HR1.out
  have hc3:=ownsRow_below hrow2 hb3
  have hbk3:=(hw03.block _ (heap_lt HBK.out)).trans HBK.out
  have c0:w3.cell? ⟨bg,0,none⟩ = some (.map (some bl)):=cells_at hbk3 0 rfl
  have hz12:=hb2.size
  have HW3:=hide hw03
  have HR3:=hide hr3
  have HC3:=hide hc3
  have HT3:=hide ht3
  have HV2:=hide hv2n
  have HZ:Hid (w.heap.size < w2.heap.size):=by show _ < _; omega
  clear hw03 hr3 hc3 ht3 hv2n hbk3 hw13 hb3 hb2 hrow2 ho2 hg2 hat2 HN HNIL HR1 HW1 hz1 hz12 c2 hz30 hz31 hz32 hi3
  go_wp2_with fail
  go_fit (HKO.out.keys _)
  rintro ev' w' ⟨rfl,rfl⟩
  go_wp2_with fail
  go_fit (HKO.out.sorted w3 HW3.out)
  rintro ev w4 ⟨v4,rfl,hr4,hf4,hb4⟩
  obtain ⟨a4,cap4,hv4,ha4⟩:=IRow_slice hr4
  subst hv4
  have hlen:(idsL lev).length≤60:=by rw [(idsL_perm lev).length_eq]; simpa using hln
  have hS4:TlS w w4 w2.heap.size has ent (.slice a2 ch.length cap2) ch (.slice a4 (idsL lev).length cap4) (idsL lev) lk (.slice none 0 0) [] :=
    ⟨(hb4.block _ (heap_lt HR3.out)).trans HR3.out,(hb4.block _ (heap_lt HT3.out)).trans HT3.out,HZ.out,ownsRow_below HC3.out hb4,HV2.out,hr4,⟨⟨rfl,.inl ⟨rfl,rfl⟩⟩,fun _ h=>absurd h List.not_mem_nil⟩,fun g hg=>(by cases hg),⟨fun _ h=>absurd h List.not_mem_nil,fun _ h=>absurd h List.not_mem_nil,List.nodup_nil,List.Pairwise.nil⟩,HW3.out.trans (hb4.mono HW3.out.size)⟩
  have HS4:=hide hS4
  have HA4:=hide ha4
  clear hS4 hr4 hf4 hb4 ha4 HR3 HT3 HC3 HW3 c0
  generalize w2.heap.size = T at *
  generalize hids:idsL lev = ids at *
  have HIM:Hid (∀ x ∈ ids,∃ t:Nat,levOf lev x = some (t:Int)∧t≤5∧I64 x):=fun x hx=>by
    rw [← hids] at hx
    have hx2:=(idsL_perm lev).mem_iff.1 hx
    obtain ⟨p,hp,rfl⟩:=List.mem_map.1 hx2
    have h1:=HID.out p hp
    obtain ⟨t,ht⟩:=Int.eq_ofNat_of_zero_le h1.2.1
    exact ⟨t,by rw [← ht]; exact levOf_of_mem hnod hp,by omega,h1.1⟩
  have HIDS:=hide hids
  clear hids
  obtain ⟨i95,hi95,hz950,hz951,hz952⟩:=info_parts info95
  go_wp2
  go_loopw [7,28] (fun _ iv wr=>∃ (ns:List TNode) (nv:Value),iv = .int .i64 ns.length∧ns.length≤ids.length∧Hid (TlS w wr T has ent (.slice a2 ch.length cap2) ch (.slice a4 ids.length cap4) ids lk nv ns)∧Hid (ns.map (·.id) = ids.take ns.length∧∀ n ∈ ns,levOf lev n.id = some (n.t:Int))) (fun _ iv _=>ids.length - (intOf iv).toNat)
  case atStart=>exact ⟨[],_,rfl,Nat.zero_le _,HS4.out,rfl,fun _ h=>absurd h List.not_mem_nil⟩
  case round =>
    obtain ⟨ns,nv,rfl,hle,HT,HN⟩:=hrel
    by_cases hlt:ns.length < ids.length
    · obtain ⟨g4,rfl⟩:=HA4.out (by omega)
      have hx:ids.getD ns.length 0 ∈ ids:=by rw [List.getD_eq_getElem?_getD,List.getElem?_eq_getElem hlt]; exact List.getElem_mem hlt
      obtain ⟨t,hlv,ht5,hI⟩:=HIM.out _ hx
      have hx0:wr.cell? ⟨g4,ns.length,none⟩ = some (.int .i64 (ids.getD ns.length 0)):=Pts.at HT.out.idr hlt
      have HTK:Hid (ids.take (ns.length + 1) = ids.take ns.length ++ [ids.getD ns.length 0]):=by
        show _ = _
        rw [List.take_succ_eq_append_getElem hlt,List.getD_eq_getElem?_getD,List.getElem?_eq_getElem hlt]
        rfl
      generalize ids.getD ns.length 0 = x at *
      have HND:=hide (fun W (hW:Below w.heap.size w W)=>node120 bg F lev lk ch x t W (HG.out.below hW) hI hlv (by omega) (fun k _=>HS.out _))
      have t3:wr.cell? ⟨T,3,none⟩ = some nv:=cells_at HT.out.told 3 rfl
      obtain ⟨na,nc,hnv⟩:∃ na nc,nv = .slice na ns.length nc:=by
        rcases HT.out.nds.row.2 with ⟨e,e2⟩ | ⟨_,cp,_,e,_⟩
        · exact ⟨none,0,by rw [e,e2]⟩
        · exact ⟨_,cp,e⟩
      subst hnv
      have hTl:=heap_lt HT.out.told
      go_upto_region 6 with fail
      go_region_law (first
          | (have hh5:=HT5; clear hh5; refine step_append_any rfl _ _ 81 rfl 0 95 i95 (.agg #[.int .i64 0,.int .i64 0,.slice none 0 0]) 3 40 Tryz.underlying81 hi95 hz950 hz951 hz952 rfl (by decide) (.slice na ns.length nc) ns.length (ncells ns) rfl (HT5.out.on ((Below.refl _ _).alloc (Nat.le_refl _) _)).nds.row (some ⟨w5.heap.size,0,none⟩) 1 1 (ncell ⟨x,t,A5,us5⟩) rfl rfl (fun _=>⟨_,rfl,World.news_of_block (cs:=#[.int .i64 x,.int .i64 t,.slice (some ⟨A5,0,none⟩) (t + 1) (t + 1)]) (t:=95) (fr:=(0,0)) (heap_alloc_new _ _)⟩) (ncell_one _) (by unfold maxLen; omega) (by omega) (Nat.zero_le _) ?_; intro v6 w6 ho6 hg6 hat6; have hst6:=(HT5.out.on ((Below.refl _ _).alloc (Nat.le_refl _) _)).stand hg6; obtain ⟨q3,q4⟩:=hst6; have HS6:=hide ((HT5.out.on ((Below.refl _ _).alloc (Nat.le_refl _) _)).add (n:=⟨x,t,A5,us5⟩) HN5.out (HL5.out.below ((Below.refl _ _).alloc (Nat.le_refl _) _)) ho6 hg6 hat6); obtain ⟨na6,nc6,hv6⟩:∃ na6 nc6,v6 = .slice na6 (ns.length + 1) nc6:=(by rcases ho6.2 with ⟨e,e2⟩ | ⟨_,cp,_,e,_⟩; (exact absurd e2 (by omega)); (exact ⟨_,cp,e⟩)); subst hv6; clear ho6 hg6 hat6)
          | (go_simp; go_at_call 120; refine (HND.out _ ?_).mono ?_; (repeat (first | exact HT.out.below | refine Below.drew ?_)); rintro e5 w5 ⟨A5,us5,rfl,hl5,hA5,hn5,hb5⟩; have hb5':Below wr.heap.size wr w5:=(by first | exact hb5 | exact Below.undrew hb5); have HT5:=hide (HT.out.on hb5'); have HN5:Hid (NewN w.heap.size (.slice a2 ch.length cap2) ns ⟨x,t,A5,us5⟩):=⟨Nat.le_trans HT.out.below.size hA5,hn5.1,hn5.2,fun g hg=>Nat.lt_of_lt_of_le (HT.out.lts g hg) hA5⟩; have HL5:=hide hl5; have t35:w5.cell? ⟨T,3,none⟩ = some (.slice na ns.length nc):=cells_at HT5.out.told 3 rfl; have hTl5:=heap_lt HT5.out.told; clear hl5 hA5 hn5 hb5 hb5'))
      all_goals
        clear q3 q4 t35 hTl5
        go_wp2
        refine ⟨⟨ns ++ [⟨x,t,A5,us5⟩],_,by simp,by simp; omega,HS6,?_,?_⟩,by simp [intOf]; omega⟩
        · rw [List.map_append,HN.out.1,List.length_append,List.length_singleton,HTK.out]
          rfl
        · intro n hn
          rcases List.mem_append.1 hn with hn | hn
          · exact HN.out.2 n hn
          · rw [List.mem_singleton.1 hn]
            exact hlv
    · have HUL:Hid (ns.length = ids.length):=by show _ = _; omega
      have x0:wr.cell? ⟨T,0,none⟩ = some (.bool has):=cells_at HT.out.told 0 rfl
      have x1:wr.cell? ⟨T,1,none⟩ = some (.int .i64 ent):=cells_at HT.out.told 1 rfl
      have x2:wr.cell? ⟨T,2,none⟩ = some (.slice a2 ch.length cap2):=cells_at HT.out.told 2 rfl
      have x3:wr.cell? ⟨T,3,none⟩ = some nv:=cells_at HT.out.told 3 rfl
      have y0:wr.cell? ⟨w.heap.size,0,none⟩ = some (.bool false):=cells_at HT.out.res 0 rfl
      have y1:wr.cell? ⟨w.heap.size,1,none⟩ = some (.int .i64 0):=cells_at HT.out.res 1 rfl
      have y2:wr.cell? ⟨w.heap.size,2,none⟩ = some (.slice none 0 0):=cells_at HT.out.res 2 rfl
      have y3:wr.cell? ⟨w.heap.size,3,none⟩ = some (.slice none 0 0):=cells_at HT.out.res 3 rfl
      have fz:=cells_frozen HT.out.res
      obtain ⟨na,nc,hnv⟩:∃ na nc,nv = .slice na ns.length nc:=by
        rcases HT.out.nds.row.2 with ⟨e,e2⟩ | ⟨_,cp,_,e,_⟩
        · exact ⟨none,0,by rw [e,e2]⟩
        · exact ⟨_,cp,e⟩
      subst hnv
      go_wp2
      generalize hwf:(((wr.setCell ⟨w.heap.size,0,none⟩ (.bool has)).setCell ⟨w.heap.size,1,none⟩ (.int .i64 ent)).setCell ⟨w.heap.size,2,none⟩ (.slice a2 ch.length cap2)).setCell ⟨w.heap.size,3,none⟩ (.slice na ns.length nc) = wf
      have hres:wf.heap[w.heap.size]? = some (.cells #[.bool has,.int .i64 ent,.slice a2 ch.length cap2,.slice na ns.length nc] 83 (0,0)):=by
        rw [← hwf,heap_setCell_same _ _ _ _ _ _ (heap_setCell_same _ _ _ _ _ _ (heap_setCell_same _ _ _ _ _ _ (heap_setCell_same _ _ _ _ _ _ HT.out.res)))]
        rfl
      have hk:Kept (fun k=>k = w.heap.size) wr wf:=by
        rw [← hwf]
        exact ((((Kept.refl (fun k=>k = w.heap.size) wr).setCell (p:=⟨w.heap.size,0,none⟩) (fun _=>rfl) _).setCell (p:=⟨w.heap.size,1,none⟩) (fun _=>rfl) _).setCell (p:=⟨w.heap.size,2,none⟩) (fun _=>rfl) _).setCell (p:=⟨w.heap.size,3,none⟩) (fun _=>rfl) _
      have q0:=cells_at hres 0 rfl
      have q1:=cells_at hres 1 rfl
      have q2:=cells_at hres 2 rfl
      have q3:=cells_at hres 3 rfl
      simp only [List.getElem_toArray,List.getElem_cons_zero,List.getElem_cons_succ] at q0 q1 q2 q3
      have ne:∀ {b:Nat} {c:Array Value} {e:TypeId},wr.heap[b]? = some (.cells c e (0,0))→e ≠ 83→¬ b = w.heap.size:=fun hb h1 e=>ne_of_elem hb HT.out.res h1 e
      refine bodyPost_ret (v:=.agg #[.bool has,.int .i64 ent,.slice a2 ch.length cap2,.slice na ns.length nc]) (by simp [results,Tryz.results62,go_sem,q0,q1,q2,q3]) rfl ?_
      refine ⟨_,_,ns,by rw [HHE.out.1,HHE.out.2],ownsRow_kept HT.out.chr hk (fun g hg=>?_),⟨ownsRow_kept HT.out.nds.row hk (fun g hg=>?_),fun n hn=>(HT.out.nds.lks n hn).kept hk (ne (HT.out.nds.lks n hn).blk (by decide)) (fun k c hc=>ne hc (by decide))⟩,⟨?_,HN.out.2⟩,HT.out.chn,⟨HT.out.nvn,HT.out.fr⟩,HT.out.below.trans (hk.toBelow HT.out.below.size (fun k e=>by omega))⟩
      · obtain ⟨c,hc⟩:=ownsRow_obj HT.out.chr hg
        exact ne hc (by decide)
      · obtain ⟨c,hc⟩:=ownsRow_obj HT.out.nds.row hg
        exact ne hc (by decide)
      · rw [HN.out.1,HUL.out,List.take_length,← HIDS.out]
end
end Go.Proofs.YtpkiefjanmfgfaaGreatDoor
namespace Go.Proofs
open Go.Shelf
def Tryz.keysA_ren:Go.Shelf.Ren:=⟨fun | 7=>119 | 10=>156 | n=>n,fun | 23=>169 | 26=>3 | 3=>3 | 28=>193 | 0=>0 | 27=>192 | 33=>121 | 4=>4 | n=>n,fun | n=>n⟩
theorem Tryz.keysA:Go.Proofs.SlLaysZI.n7 Tryz.prog Tryz.keysA_ren:={
  mixed:=by kernel_rfl
  f7:=⟨Tryz.f119.name,by decide,Tryz.func119.trans (congrArg some (by kernel_rfl))⟩
  f10:=⟨Tryz.f156.name,by decide,Tryz.func156.trans (congrArg some (by kernel_rfl))⟩
  t0:=Tryz.underlying0
  a0:=Tryz.isAgg0
  z0:=Tryz.sizeOf0
  v0:=Tryz.zeroValue0
  t4:=Tryz.underlying4
  a4:=Tryz.isAgg4
  z4:=Tryz.sizeOf4
  v4:=Tryz.zeroValue4
  t23:=Tryz.underlying169
  a23:=Tryz.isAgg169
  z23:=Tryz.sizeOf169
  v23:=Tryz.zeroValue169
  t26:=Tryz.underlying3
  a26:=Tryz.isAgg3
  z26:=Tryz.sizeOf3
  v26:=Tryz.zeroValue3
  t27:=Tryz.underlying192
  a27:=Tryz.isAgg192
  z27:=Tryz.sizeOf192
  v27:=Tryz.zeroValue192
  t28:=Tryz.underlying193
  a28:=Tryz.isAgg193
  z28:=Tryz.sizeOf193
  v28:=Tryz.zeroValue193
  t33:=Tryz.underlying121
  a33:=Tryz.isAgg121
  z33:=Tryz.sizeOf121
  v33:=Tryz.zeroValue121 }
def Tryz.sortedA_ren:Go.Shelf.Ren:=⟨fun | 6=>118 | 8=>154 | 9=>155 | 11=>173 | 13=>175 | 12=>174 | 23=>189 | 24=>190 | 14=>180 | 15=>181 | 16=>182 | 17=>183 | 18=>184 | 19=>185 | 20=>186 | 21=>187 | 22=>188 | 25=>194 | 26=>195 | 27=>196 | 28=>197 | 29=>198 | 30=>179 | 31=>200 | n=>n,fun | 26=>3 | 28=>193 | 24=>32 | 0=>0 | 3=>3 | 37=>224 | 48=>274 | 50=>44 | 4=>4 | 40=>268 | 39=>267 | 45=>138 | 5=>5 | 9=>9 | 51=>276 | 55=>280 | 57=>282 | 58=>283 | 33=>121 | n=>n,fun | n=>n⟩
theorem Tryz.sortedA:Go.Proofs.SlLaysZI.n6 Tryz.prog Tryz.sortedA_ren:={
  mixed:=by kernel_rfl
  f6:=⟨Tryz.f118.name,by decide,Tryz.func118.trans (congrArg some (by kernel_rfl))⟩
  f8:=⟨Tryz.f154.name,by decide,Tryz.func154.trans (congrArg some (by kernel_rfl))⟩
  f11:=⟨Tryz.f173.name,by decide,Tryz.func173.trans (congrArg some (by kernel_rfl))⟩
  t0:=Tryz.underlying0
  a0:=Tryz.isAgg0
  z0:=Tryz.sizeOf0
  v0:=Tryz.zeroValue0
  t24:=Tryz.underlying32
  a24:=Tryz.isAgg32
  z24:=Tryz.sizeOf32
  v24:=Tryz.zeroValue32
  t26:=Tryz.underlying3
  a26:=Tryz.isAgg3
  z26:=Tryz.sizeOf3
  v26:=Tryz.zeroValue3
  t28:=Tryz.underlying193
  a28:=Tryz.isAgg193
  z28:=Tryz.sizeOf193
  v28:=Tryz.zeroValue193
  i26:=by kernel_rfl }
def Tryz.sortA_ren:Go.Shelf.Ren:=⟨fun | 5=>155 | 8=>175 | 7=>174 | 19=>189 | 20=>190 | 10=>180 | 11=>181 | 12=>182 | 13=>183 | 14=>184 | 15=>185 | 16=>186 | 17=>187 | 18=>188 | 30=>194 | 31=>195 | 32=>196 | 33=>197 | 34=>198 | 35=>179 | 40=>200 | n=>n,fun | 23=>32 | 25=>3 | 3=>3 | 32=>224 | 22=>32 | 0=>0 | 44=>274 | 46=>44 | 4=>4 | 36=>268 | 35=>267 | 41=>138 | 5=>5 | 9=>9 | 53=>276 | 57=>280 | 63=>282 | 64=>283 | n=>n,fun | n=>n⟩
theorem Tryz.sortA:Go.Proofs.SlLaysM.n5 Tryz.prog Tryz.sortA_ren:={
  mixed:=by kernel_rfl
  f5:=⟨Tryz.f155.name,by decide,Tryz.func155.trans (congrArg some (by kernel_rfl))⟩
  f7:=⟨Tryz.f174.name,by decide,Tryz.func174.trans (congrArg some (by kernel_rfl))⟩
  f8:=Tryz.func175.trans (congrArg some (by kernel_rfl))
  f10:=⟨Tryz.f180.name,by decide,Tryz.func180.trans (congrArg some (by kernel_rfl))⟩
  f11:=⟨Tryz.f181.name,by decide,Tryz.func181.trans (congrArg some (by kernel_rfl))⟩
  f12:=⟨Tryz.f182.name,by decide,Tryz.func182.trans (congrArg some (by kernel_rfl))⟩
  f13:=⟨Tryz.f183.name,by decide,Tryz.func183.trans (congrArg some (by kernel_rfl))⟩
  f14:=⟨Tryz.f184.name,by decide,Tryz.func184.trans (congrArg some (by kernel_rfl))⟩
  f15:=⟨Tryz.f185.name,by decide,Tryz.func185.trans (congrArg some (by kernel_rfl))⟩
  f16:=⟨Tryz.f186.name,by decide,Tryz.func186.trans (congrArg some (by kernel_rfl))⟩
  f17:=⟨Tryz.f187.name,by decide,Tryz.func187.trans (congrArg some (by kernel_rfl))⟩
  f18:=⟨Tryz.f188.name,by decide,Tryz.func188.trans (congrArg some (by kernel_rfl))⟩
  f19:=Tryz.func189.trans (congrArg some (by kernel_rfl))
  f20:=Tryz.func190.trans (congrArg some (by kernel_rfl))
  f30:=⟨Tryz.f194.name,by decide,Tryz.func194.trans (congrArg some (by kernel_rfl))⟩
  f31:=Tryz.func195.trans (congrArg some (by kernel_rfl))
  f32:=Tryz.func196.trans (congrArg some (by kernel_rfl))
  f33:=⟨Tryz.f197.name,by decide,Tryz.func197.trans (congrArg some (by kernel_rfl))⟩
  f34:=⟨Tryz.f198.name,by decide,Tryz.func198.trans (congrArg some (by kernel_rfl))⟩
  f35:=⟨Tryz.f179.name,by decide,Tryz.func179.trans (congrArg some (by kernel_rfl))⟩
  f40:=⟨Tryz.f200.name,by decide,Tryz.func200.trans (congrArg some (by kernel_rfl))⟩
  t0:=Tryz.underlying0
  a0:=Tryz.isAgg0
  z0:=Tryz.sizeOf0
  v0:=Tryz.zeroValue0
  t3:=Tryz.underlying3
  a3:=Tryz.isAgg3
  z3:=Tryz.sizeOf3
  v3:=Tryz.zeroValue3
  t4:=Tryz.underlying4
  a4:=Tryz.isAgg4
  z4:=Tryz.sizeOf4
  v4:=Tryz.zeroValue4
  t5:=Tryz.underlying5
  a5:=Tryz.isAgg5
  z5:=Tryz.sizeOf5
  v5:=Tryz.zeroValue5
  t9:=Tryz.underlying9
  a9:=Tryz.isAgg9
  z9:=Tryz.sizeOf9
  v9:=Tryz.zeroValue9
  t22:=Tryz.underlying32
  a22:=Tryz.isAgg32
  z22:=Tryz.sizeOf32
  v22:=Tryz.zeroValue32
  t23:=Tryz.underlying32
  a23:=Tryz.isAgg32
  z23:=Tryz.sizeOf32
  v23:=Tryz.zeroValue32
  t25:=Tryz.underlying3
  a25:=Tryz.isAgg3
  z25:=Tryz.sizeOf3
  v25:=Tryz.zeroValue3
  t32:=Tryz.underlying224
  a32:=Tryz.isAgg224
  z32:=Tryz.sizeOf224
  v32:=Tryz.zeroValue224
  t35:=Tryz.underlying267
  a35:=Tryz.isAgg267
  z35:=Tryz.sizeOf267
  v35:=Tryz.zeroValue267
  t36:=Tryz.underlying268
  a36:=Tryz.isAgg268
  z36:=Tryz.sizeOf268
  v36:=Tryz.zeroValue268
  t41:=Tryz.underlying138
  a41:=Tryz.isAgg138
  z41:=Tryz.sizeOf138
  v41:=Tryz.zeroValue138
  t44:=Tryz.underlying274
  a44:=Tryz.isAgg274
  z44:=Tryz.sizeOf274
  v44:=Tryz.zeroValue274
  t46:=Tryz.underlying44
  a46:=Tryz.isAgg44
  z46:=Tryz.sizeOf44
  v46:=Tryz.zeroValue44
  t53:=Tryz.underlying276
  a53:=Tryz.isAgg276
  z53:=Tryz.sizeOf276
  v53:=Tryz.zeroValue276
  t57:=Tryz.underlying280
  a57:=Tryz.isAgg280
  z57:=Tryz.sizeOf280
  v57:=Tryz.zeroValue280
  t63:=Tryz.underlying282
  a63:=Tryz.isAgg282
  z63:=Tryz.sizeOf282
  v63:=Tryz.zeroValue282
  t64:=Tryz.underlying283
  a64:=Tryz.isAgg283
  z64:=Tryz.sizeOf283
  v64:=Tryz.zeroValue283 }
end Go.Proofs
