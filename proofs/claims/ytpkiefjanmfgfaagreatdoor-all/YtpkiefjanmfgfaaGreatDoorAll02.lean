import Derived.Test.YtpkiefjanmfgfaaGreatDoorAll01
namespace Go.Proofs.YtpkiefjanmfgfaaGreatDoor
section
open Go.RowKit

def hcell (h:Hit):List Value:=[.int .i64 h.1,.int .i64 h.2]
def hcells (l:List Hit):List Value:=l.flatMap hcell
def nth (l:List Hit) (k:Nat):Hit:=l.getD k (0,0)

theorem hcells_cons (h:Hit) (l:List Hit):hcells (h :: l) = hcell h ++ hcells l:=rfl
theorem hcells_append (l m:List Hit):hcells (l ++ m) = hcells l ++ hcells m:=by simp [hcells]
theorem hcells_length:∀ l:List Hit,(hcells l).length = l.length * 2
  | []=>rfl
  | h :: l=>by rw [hcells_cons,List.length_append,hcells_length l]; simp [hcell]; omega
theorem hcells_get:∀ (l:List Hit) (k j:Nat) (_:k < l.length),j < 2→(hcells l)[k * 2 + j]? = (hcell (nth l k))[j]?
  | h :: l,0,j,_,hj=>by
    rw [hcells_cons,List.getElem?_append_left (by simp [hcell]; omega)]
    simp [nth]
  | h :: l,k + 1,j,hk,hj=>by
    rw [hcells_cons,List.getElem?_append_right (by simp [hcell]; omega)]
    have e1:(k + 1) * 2 + j - (hcell h).length = k * 2 + j:=by simp [hcell]; omega
    rw [e1,hcells_get l k j (by simpa using hk) hj]
    simp [nth]
theorem hcells_one (l:List Hit):∀ u ∈ hcells l,u.oneCell' = true:=by
  intro u hu
  obtain ⟨e,_,he⟩:=List.mem_flatMap.1 hu
  simp [hcell] at he
  rcases he with rfl | rfl <;> rfl
theorem hcells_set:∀ (l:List Hit) (k:Nat) (h:Hit),((hcells l).set (k * 2) (.int .i64 h.1)).set (k * 2 + 1) (.int .i64 h.2) = hcells (l.set k h)
  | [],k,h=>by simp [hcells]
  | x :: l,0,h=>by simp [hcells_cons,hcell]
  | x :: l,k + 1,h=>by
    have e1:(k + 1) * 2 = k * 2 + 2:=by omega
    rw [hcells_cons,e1]
    simp only [hcell,List.cons_append,List.nil_append,List.set_cons_succ,show k * 2 + 2 + 1 = (k * 2 + 1) + 2 by omega]
    rw [hcells_set l k h]
    rfl
abbrev HRow (w:World) (v:Value) (l:List Hit):Prop:=w.ownsRow 0 63 2 v l.length (hcells l)

theorem HRow.at0 {w:World} {g n cap:Nat} {l:List Hit} (h:w.ownsRow 0 63 2 (.slice (some ⟨g,0,none⟩) n cap) n (hcells l)) {k:Nat} (hk:k < l.length):w.cell? ⟨g,k * 2,none⟩ = some (.int .i64 (nth l k).1) :=
  ownsRow_cell h (j:=k * 2) (by have:=hcells_get l k 0 hk (by omega); simpa [hcell] using this)
theorem HRow.at1 {w:World} {g n cap:Nat} {l:List Hit} (h:w.ownsRow 0 63 2 (.slice (some ⟨g,0,none⟩) n cap) n (hcells l)) {k:Nat} (hk:k < l.length):w.cell? ⟨g,k * 2 + 1,none⟩ = some (.int .i64 (nth l k).2) :=
  ownsRow_cell h (j:=k * 2 + 1) (by have:=hcells_get l k 1 hk (by omega); simpa [hcell] using this)
theorem HRow.set {w:World} {g n cap:Nat} {l:List Hit} (h:w.ownsRow 0 63 2 (.slice (some ⟨g,0,none⟩) n cap) n (hcells l)) (k:Nat) (x:Hit) :
    ((w.setCell ⟨g,k * 2,none⟩ (.int .i64 x.1)).setCell ⟨g,k * 2 + 1,none⟩ (.int .i64 x.2)).ownsRow 0 63 2 (.slice (some ⟨g,0,none⟩) n cap) n (hcells (l.set k x)):=by
  rw [← hcells_set]
  exact ownsRow_set (ownsRow_set h _ _) _ _

theorem Kept.setG {a w:World} {g:Nat} (h:Kept (fun k=>k = g) a w) (o:Nat) (u:Value):Kept (fun k=>k = g) a (w.setCell ⟨g,o,none⟩ u):=h.setCell (fun _=>rfl) u

structure QAt (w:World) (bq fk:Nat) (v:Value) (l:List Hit):Prop where
  blk:w.heap[bq]? = some (.cells #[.func (.func fk) #[] #[],v] 230 (0,0))
  row:HRow w v l

theorem cells_at {w:World} {b:Nat} {xs:Array Value} {t:TypeId} {f:Nat × Nat} (h:w.heap[b]? = some (.cells xs t f)) (o:Nat) {u:Value} (hu:xs[o]? = some u):w.cell? ⟨b,o,none⟩ = some u:=by
  simp [World.cell?,h,hu]
theorem cells_frozen {w:World} {b:Nat} {xs:Array Value} {t:TypeId} (h:w.heap[b]? = some (.cells xs t (0,0))) (o:Nat):w.frozen? ⟨b,o,none⟩ = false:=by
  simp [World.frozen?,h]
theorem heap_lt {w:World} {b:Nat} {o:Obj} (h:w.heap[b]? = some o):b < w.heap.size:=by
  rcases Nat.lt_or_ge b w.heap.size with h1 | h1
  · exact h1
  · rw [Array.getElem?_eq_none h1] at h; cases h

section
variable {w w':World} {bq fk:Nat} {v:Value} {l:List Hit}
theorem QAt.c0 (h:QAt w bq fk v l):w.cell? ⟨bq,0,none⟩ = some (.func (.func fk) #[] #[]):=cells_at h.blk 0 rfl
theorem QAt.c1 (h:QAt w bq fk v l):w.cell? ⟨bq,1,none⟩ = some v:=cells_at h.blk 1 rfl
theorem QAt.lt (h:QAt w bq fk v l):bq < w.heap.size:=heap_lt h.blk
theorem QAt.fz (h:QAt w bq fk v l) (o:Nat):w.frozen? ⟨bq,o,none⟩ = false:=cells_frozen h.blk o
theorem QAt.ne (h:QAt w bq fk v l) {g:Nat} (hg:v.ownBlock = some g):g ≠ bq:=by
  intro e
  subst e
  obtain ⟨cur,hc⟩:=ownsRow_obj h.row hg
  rw [h.blk] at hc
  simp at hc
theorem QAt.of_block (h:QAt w bq fk v l) (h1:w'.heap[bq]? = w.heap[bq]?) (h2:∀ g,v.ownBlock = some g→w'.heap[g]? = w.heap[g]?):QAt w' bq fk v l :=
  ⟨h1.trans h.blk,ownsRow_of_block h.row h2⟩
theorem QAt.kept {S:Nat→Prop} (h:QAt w bq fk v l) (hk:Kept S w w') (h1:¬ S bq) (h2:∀ g,v.ownBlock = some g→¬ S g):QAt w' bq fk v l :=
  h.of_block (hk.block _ h.lt h1) fun g hg=>hk.block g (h.row.lt g hg).2 (h2 g hg)
theorem QAt.below (h:QAt w bq fk v l) (hk:Below w.heap.size w w'):QAt w' bq fk v l :=
  h.of_block (hk.block _ h.lt) fun g hg=>hk.block g (h.row.lt g hg).2
theorem QAt.addr (h:QAt w bq fk v l) (h0:0 < l.length):∃ g cap,v = .slice (some ⟨g,0,none⟩) l.length cap∧l.length≤cap:=by
  rcases h.row.2 with ⟨_,hz⟩ | ⟨g,cap',cur,hv,_,_,hn,_⟩
  · omega
  · exact ⟨g,cap',hv,hn⟩
theorem QAt.slice (h:QAt w bq fk v l):∃ a cap,v = .slice a l.length cap:=by
  rcases h.row.2 with ⟨rfl,hz⟩ | ⟨g,cap',cur,hv,_,_,hn,_⟩
  · exact ⟨none,0,by rw [hz]⟩
  · exact ⟨_,cap',hv⟩
end

def swapL (l:List Hit) (a b:Nat):List Hit:=(l.set a (nth l b)).set b (nth l a)
theorem swapL_length (l:List Hit) (a b:Nat):(swapL l a b).length = l.length:=by simp [swapL]
end
section
open Go.RowKit

def idxI (xs:List Int) (x:Int):Int:=if x ∈ xs then ((xs.idxOf x:Nat):Int) else -1

theorem idxI_at {xs:List Int} {x:Int} {k:Nat} (hk:k < xs.length) (h1:∀ j (_:j < k) (hl:j < xs.length),xs[j] ≠ x) (h2:xs[k] = x):idxI xs x = k:=by
  have hm:x ∈ xs:=h2 ▸ List.getElem_mem hk
  unfold idxI
  rw [if_pos hm]
  have:xs.idxOf x = k:=by
    have hlt:xs.idxOf x < xs.length:=List.idxOf_lt_length_iff.2 hm
    have he:xs[xs.idxOf x] = x:=List.getElem_idxOf hlt
    rcases Nat.lt_trichotomy (xs.idxOf x) k with h | h | h
    · exact absurd he (h1 _ h hlt)
    · exact h
    · exact absurd h2 (List.not_of_lt_findIdx (p:=fun y=>y == x) (by simpa [List.idxOf] using h) |> fun h3=>by simpa using h3)
  rw [this]
theorem idxI_none {xs:List Int} {x:Int} (h1:∀ j (hl:j < xs.length),xs[j] ≠ x):idxI xs x = -1:=by
  unfold idxI
  rw [if_neg]
  intro h
  obtain ⟨j,hj,e⟩:=List.getElem_of_mem h
  exact h1 j hj e

theorem IRow_slice {w:World} {v:Value} {xs:List Int} (h:w.ownsRow 0 3 1 v xs.length (vals xs)):∃ a cap,v = .slice a xs.length cap∧(0 < xs.length→∃ g,a = some ⟨g,0,none⟩):=by
  rcases h.2 with ⟨rfl,hz⟩ | ⟨g,cap',cur,hv,_,_,hn,_⟩
  · exact ⟨none,0,by rw [hz],fun h=>by omega⟩
  · exact ⟨_,cap',hv,fun _=>⟨g,rfl⟩⟩

set_option maxHeartbeats 1000000 in
theorem index154 (v:Value) (xs:List Int) (x:Int) (w:World) (hr:w.ownsRow 0 3 1 v xs.length (vals xs)) (hl:xs.length≤1000) :
    Calls Tryz.prog 164 #[v,.int .i64 x] w fun ev w'=>ev = .returned (.int .i64 (idxI xs x))∧w = w':=by
  obtain ⟨a,cap,rfl,ha⟩:=IRow_slice hr
  have HR:=hide hr
  have HA:=hide ha
  clear hr ha
  go_enter Tryz.func164,Tryz.ntmps164
  go_wp2
  go_loop [5,8] (fun _ i=>∃ k:Nat,i = .int .i64 k∧k≤xs.length∧Hid (∀ j (_:j < k) (hl:j < xs.length),xs[j] ≠ x)) (fun _ i=>xs.length - (intOf i).toNat)
  case atStart=>exact ⟨0,rfl,Nat.zero_le _,fun j hj=>absurd hj (Nat.not_lt_zero _)⟩
  case round =>
    obtain ⟨k,rfl,hk,hall⟩:=hrel
    by_cases hlt:k < xs.length
    · obtain ⟨g,rfl⟩:=HA.out (by omega)
      have hc:w.cell? ⟨g,k,none⟩ = some (.int .i64 xs[k]):=ownsRow_cell HR.out (by simp [vals,hlt])
      generalize hy:xs[k] = y at hc
      have HY:=hide hy
      clear hy
      by_cases he:x = y
      · subst he
        go_wp2
        go_ret
        exact ⟨by rw [idxI_at hlt hall.out HY.out]; rfl,rfl⟩
      · have he2:¬ y = x:=fun e=>he e.symm
        go_wp2
        go_round
        case rel=>exact ⟨k + 1,by go_num,by omega,fun j hj hl=>by
          rcases Nat.lt_or_ge j k with h | h
          · exact hall.out j h hl
          · obtain rfl:j = k:=by omega
            rw [HY.out]; exact he2⟩
        case measure=>simp [intOf]; omega
    · go_wp2
      go_ret
      exact ⟨by rw [idxI_none (fun j hl=>hall.out j (by omega) hl)]; rfl,rfl⟩

set_option maxHeartbeats 1000000 in
theorem contains132 (v:Value) (xs:List Int) (x:Int) (w:World) (hr:w.ownsRow 0 3 1 v xs.length (vals xs)) (hl:xs.length≤1000) :
    Calls Tryz.prog 139 #[v,.int .i64 x] w fun ev w'=>ev = .returned (.bool (decide (x ∈ xs)))∧w = w':=by
  obtain ⟨a,cap,rfl,ha⟩:=IRow_slice hr
  have hi:=index154 _ xs x w hr hl
  clear hr ha
  by_cases hm:x ∈ xs
  · have e:idxI xs x = ((xs.idxOf x:Nat):Int):=by rw [idxI,if_pos hm]
    rw [e] at hi
    have HI:=hide hi
    clear hi e
    have HM:=hide hm
    have h0:(0:Int)≤((xs.idxOf x:Nat):Int):=Int.natCast_nonneg _
    generalize ((xs.idxOf x:Nat):Int) = q at HI h0
    clear hm
    go_enter Tryz.func139,Tryz.ntmps139
    go_wp2_with (go_at_call 164; refine HI.out.mono ?_; rintro e w' ⟨rfl,rfl⟩)
    go_ret
    exact ⟨by have:=HM.out; simp [this],rfl⟩
  · have e:idxI xs x = -1:=by rw [idxI,if_neg hm]
    rw [e] at hi
    have HI:=hide hi
    clear hi e
    have HM:=hide hm
    clear hm
    go_enter Tryz.func139,Tryz.ntmps139
    go_wp2_with (go_at_call 164; refine HI.out.mono ?_; rintro e w' ⟨rfl,rfl⟩)
    go_ret
    exact ⟨by have:=HM.out; simp [this],rfl⟩
end
section
open Go.RowKit

def partI (m a b:Int):Int:=if m = 0 then (a - b) * (a - b) else if m = 1 then max (a - b) (b - a) else -(a * b)
def Crd (a:Int):Prop:=-1048576≤a∧a≤1048576

theorem sq_le {x:Int} (h1:-2097152≤x) (h2:x≤2097152):0≤x * x∧x * x≤4398046511104:=by
  have ha:0≤(2097152 - x) * (2097152 + x):=Int.mul_nonneg (by omega) (by omega)
  have e:(2097152 - x) * (2097152 + x) = 4398046511104 - x * x:=by
    rw [Int.sub_mul,Int.mul_add,Int.mul_add]
    have:x * 2097152 = 2097152 * x:=Int.mul_comm _ _
    omega
  have hb:0≤x * x:=by
    rcases Int.le_total 0 x with h | h
    · exact Int.mul_nonneg h h
    · have:=Int.mul_nonneg (a:=-x) (b:=-x) (by omega) (by omega)
      rwa [Int.neg_mul_neg] at this
  omega
theorem prod_le {a b:Int} (ha:Crd a) (hb:Crd b):-2199023255552≤a * b∧a * b≤2199023255552:=by
  unfold Crd at ha hb
  have h1:=sq_le (x:=a + b) (by omega) (by omega)
  have h2:=sq_le (x:=a - b) (by omega) (by omega)
  have e1:(a + b) * (a + b) = a * a + 2 * (a * b) + b * b:=by
    rw [Int.add_mul,Int.mul_add,Int.mul_add]
    have:b * a = a * b:=Int.mul_comm _ _
    omega
  have e2:(a - b) * (a - b) = a * a - 2 * (a * b) + b * b:=by
    rw [Int.sub_mul,Int.mul_sub,Int.mul_sub]
    have:b * a = a * b:=Int.mul_comm _ _
    omega
  have h3:=sq_le (x:=a) (by omega) (by omega)
  have h4:=sq_le (x:=b) (by omega) (by omega)
  omega
theorem partI_le {m a b:Int} (ha:Crd a) (hb:Crd b):-4398046511104≤partI m a b∧partI m a b≤4398046511104:=by
  have h1:=prod_le ha hb
  unfold Crd at ha hb
  have h2:=sq_le (x:=a - b) (by omega) (by omega)
  unfold partI
  split
  · omega
  · split
    · omega
    · omega

set_option maxHeartbeats 1000000 in
theorem part140 (m a b:Int) (w:World) (ha:Crd a) (hb:Crd b):Calls Tryz.prog 147 #[.int .i64 m,.int .i64 a,.int .i64 b] w fun e w'=>e = .returned (.int .i64 (partI m a b))∧w = w':=by
  have h1:=prod_le ha hb
  have ha2:=ha
  have hb2:=hb
  unfold Crd at ha2 hb2
  have h2:=sq_le (x:=a - b) (by omega) (by omega)
  have w1:IntKind.i64.wrap (a - b) = a - b:=by rw [IntKind.wrap_i64]; omega
  have w2:IntKind.i64.wrap (b - a) = b - a:=by rw [IntKind.wrap_i64]; omega
  have w3:IntKind.i64.wrap ((a - b) * (a - b)) = (a - b) * (a - b):=by rw [IntKind.wrap_i64]; omega
  have w4:IntKind.i64.wrap (-a) = -a:=by rw [IntKind.wrap_i64]; omega
  have e5:-a * b = -(a * b):=Int.neg_mul a b
  have w5:IntKind.i64.wrap (-a * b) = -(a * b):=by rw [e5,IntKind.wrap_i64]; omega
  have w6:IntKind.i64.wrap (-(a * b)) = -(a * b):=by rw [IntKind.wrap_i64]; omega
  clear ha hb ha2 hb2 h1 h2 e5
  by_cases hm:m = 0
  · subst hm
    go_enter Tryz.func147,Tryz.ntmps147
    go_wp2
    go_ret
    exact ⟨by simp [partI],rfl⟩
  · by_cases hm1:m = 1
    · subst hm1
      go_enter Tryz.func147,Tryz.ntmps147
      go_wp2
      · go_ret
        refine ⟨?_,rfl⟩
        have e:partI 1 a b = b - a:=by unfold partI; rw [if_neg (by omega),if_pos rfl]; omega
        rw [e]; rfl
      · go_ret
        refine ⟨?_,rfl⟩
        have e:partI 1 a b = a - b:=by unfold partI; rw [if_neg (by omega),if_pos rfl]; omega
        rw [e]; rfl
    · go_enter Tryz.func147,Tryz.ntmps147
      go_wp2
      go_ret
      exact ⟨by simp [partI,hm,hm1],rfl⟩

def distL (m:Int):List Int→List Int→Int
  | a :: p,b :: q=>partI m a b + distL m p q
  | _,_=>0
def sumTo (m:Int) (p q:List Int):Nat→Int
  | 0=>0
  | n + 1=>sumTo m p q n + partI m (p.getD n 0) (q.getD n 0)
theorem sumTo_cons (m a b:Int) (p q:List Int):∀ n,sumTo m (a :: p) (b :: q) (n + 1) = partI m a b + sumTo m p q n
  | 0=>by simp [sumTo]
  | n + 1=>by
    have:=sumTo_cons m a b p q n
    rw [sumTo,this]
    simp [sumTo]
    omega
theorem sumTo_all (m:Int):∀ (p q:List Int),p.length = q.length→sumTo m p q p.length = distL m p q
  | [],[],_=>rfl
  | a :: p,b :: q,h=>by
    rw [List.length_cons,sumTo_cons,distL,sumTo_all m p q (by simpa using h)]
theorem sumTo_le {m:Int} {p q:List Int} (hp:∀ x ∈ p,Crd x) (hq:∀ x ∈ q,Crd x):∀ n:Nat,-4398046511104 * (n:Int)≤sumTo m p q n∧sumTo m p q n≤4398046511104 * (n:Int)
  | 0=>by simp [sumTo]
  | n + 1=>by
    have ih:=sumTo_le (m:=m) hp hq n
    have h1:∀ (l:List Int),(∀ x ∈ l,Crd x)→Crd (l.getD n 0):=fun l hl=>by
      rw [List.getD_eq_getElem?_getD]
      rcases Nat.lt_or_ge n l.length with h | h
      · rw [List.getElem?_eq_getElem h]; exact hl _ (List.getElem_mem h)
      · rw [List.getElem?_eq_none h]; unfold Crd; simp
    have h2:=partI_le (m:=m) (h1 p hp) (h1 q hq)
    unfold sumTo
    push_cast
    omega

set_option maxHeartbeats 2000000 in
set_option maxRecDepth 20000 in
theorem of97 (m:Int) (v1 v2:Value) (p q:List Int) (w:World) (h1:w.ownsRow 0 3 1 v1 p.length (vals p)) (h2:w.ownsRow 0 3 1 v2 q.length (vals q)) (hl:p.length = q.length) (hp:∀ x ∈ p,Crd x) (hq:∀ x ∈ q,Crd x) (h8:p.length≤100) :
    Calls Tryz.prog 101 #[.int .i64 m,v1,v2] w fun e w'=>e = .returned (.int .i64 (distL m p q))∧∃ n,w' = w.drewN n:=by
  obtain ⟨a1,c1,rfl,ha1⟩:=IRow_slice h1
  obtain ⟨a2,c2,rfl,ha2⟩:=IRow_slice h2
  have H1:=hide h1
  have H2:=hide h2
  have HA1:=hide ha1
  have HA2:=hide ha2
  have HP:=hide hp
  have HQ:=hide hq
  have HL:=hide hl
  clear h1 h2 ha1 ha2 hp hq hl
  go_enter Tryz.func101,Tryz.ntmps101
  go_wp2
  go_loopw [7,8,11] (fun sm _ i wr=>∃ k:Nat,sm = .int .i64 (sumTo m p q k)∧i = .int .i64 k∧k≤p.length∧Hid (∃ n,wr = w.drewN n)) (fun _ _ i _=>p.length - (intOf i).toNat)
  case atStart=>exact ⟨0,rfl,rfl,Nat.zero_le _,0,rfl⟩
  case round =>
    obtain ⟨k,rfl,rfl,hk,hw⟩:=hrel
    obtain ⟨n0,hw0⟩:=id hw.out
    by_cases hlt:k < p.length
    · have hlt2:k < q.length:=by rw [← HL.out]; exact hlt
      obtain ⟨g1,rfl⟩:=HA1.out (by omega)
      obtain ⟨g2,rfl⟩:=HA2.out (by omega)
      have x1:wr.cell? ⟨g1,k,none⟩ = some (.int .i64 (p.getD k 0)):=by
        rw [hw0]
        exact ownsRow_cell (ownsRow_drewN H1.out n0) (by simp [vals,List.getD_eq_getElem?_getD,hlt])
      have x2:wr.cell? ⟨g2,k,none⟩ = some (.int .i64 (q.getD k 0)):=by
        rw [hw0]
        exact ownsRow_cell (ownsRow_drewN H2.out n0) (by simp [vals,List.getD_eq_getElem?_getD,hlt2])
      have hc1:Crd (p.getD k 0):=by rw [List.getD_eq_getElem?_getD,List.getElem?_eq_getElem hlt]; exact HP.out _ (List.getElem_mem hlt)
      have hc2:Crd (q.getD k 0):=by rw [List.getD_eq_getElem?_getD,List.getElem?_eq_getElem hlt2]; exact HQ.out _ (List.getElem_mem hlt2)
      have hprt:=fun W=>part140 m (p.getD k 0) (q.getD k 0) W hc1 hc2
      have hs:=sumTo_le (m:=m) HP.out HQ.out k
      have hpl:=partI_le (m:=m) hc1 hc2
      have hnext:sumTo m p q (k + 1) = sumTo m p q k + partI m (p.getD k 0) (q.getD k 0):=rfl
      have hwr:IntKind.i64.wrap (sumTo m p q k + partI m (p.getD k 0) (q.getD k 0)) = sumTo m p q k + partI m (p.getD k 0) (q.getD k 0):=by
        rw [IntKind.wrap_i64]
        have:(k:Int)≤100:=by omega
        omega
      generalize hy1:p.getD k 0 = y1 at x1 hprt hnext hwr
      generalize hy2:q.getD k 0 = y2 at x2 hprt hnext hwr
      generalize partI m y1 y2 = pv at hprt hnext hwr
      have HPRT:=hide hprt
      have HNX:=hide hnext
      have HW0:=hide hw0
      have hlq:q.length = p.length:=HL.out.symm
      clear hprt hnext hs hpl hc1 hc2 hy1 hy2 hw0 hw hlq
      have hltq:k < q.length:=hlt2
      go_wp2
      go_quiet ((go_at_call 147; exact Calls.quiet_of_same ((HPRT.out _).mono (fun _ _ h=>⟨h.1,h.2.symm⟩))))
      go_wp2
      refine ⟨⟨k + 1,by rw [HNX.out],by go_num,by omega,n0 + nq,?_⟩,by simp [intOf]; omega⟩
      rw [HW0.out]
      exact World.drewN_drewN ..
    · go_wp2
      go_ret
      obtain rfl:k = p.length:=by omega
      exact ⟨by rw [sumTo_all m p q HL.out]; rfl,n0,rfl⟩
end
section
open Go.RowKit Go.Maps

structure Cf where
  dim:Int
  cap:Int
  links:Int
  metric:Int
  beam:Int
  top:Int

structure Rc where
  a:Option Addr
  n:Nat
  c:Nat
  m:Int
def Rc.val (r:Rc):Value:=.slice r.a r.n r.c
def Rc.mrk (r:Rc):Value:=.int .i64 r.m
structure BV where
  v:Value
  O:Nat→Prop
  OW:Nat→Option Obj
  R:List Rc
abbrev BV.ownBlock (x:BV):Option Nat:=x.v.ownBlock
def BV.nil:BV:=⟨.slice none 0 0,fun _=>False,fun _=>none,[]⟩
structure Bks where
  hsv:Value
  hmv:Value
  gsv:Value
  gmv:Value
  lsv:Value
  lmv:Value
  nh:Nat
  ng:Nat
  nl:Nat
  O:Nat→Prop
  OW:Nat→Option Obj
  Z:Nat→Prop
  ZW:Nat→Option Obj
  ZN:Nat
  rh:List Rc
  rg:List Rc
  rl:List Rc
def Bks.nil:Bks:=⟨.slice none 0 0,.slice none 0 0,.slice none 0 0,.slice none 0 0,.slice none 0 0,.slice none 0 0,0,0,0,fun _=>False,fun _=>none,fun _=>False,fun _=>none,0,[],[],[]⟩
def Bks.own (x:Bks) (k:Nat):Prop:=x.hsv.ownBlock = some k ∨ x.hmv.ownBlock = some k ∨ x.gsv.ownBlock = some k ∨ x.gmv.ownBlock = some k ∨ x.lsv.ownBlock = some k ∨ x.lmv.ownBlock = some k
theorem Bks.own_nil (k:Nat):¬ Bks.nil.own k:=by
  rintro (e | e | e | e | e | e) <;> cases e

structure Ent where
  id:Int
  pt:List Int
  t0:Int
  t1:Int
  draw:Int
  mb:Nat
  mc:Nat
  rb:Nat
  rc:Nat

def mval (e:Ent):Value:=.agg #[.int .i64 e.id,.slice (some ⟨e.mb,0,none⟩) e.pt.length e.mc,.int .i64 e.t0,.int .i64 e.t1]
def mdata (L:List Ent):List (Lit × DataW Value):=L.map fun e=>(.int .i64 e.id,.held (mval e))

def asIs (v:Value):Option (DataW Value × List MemPlace):=some (.held v,[])

def insE (x:Ent):List Ent→List Ent
  | []=>[x]
  | y :: r=>if x.id < y.id then x :: y :: r else if x.id = y.id then x :: r else y :: insE x r
def delE (id:Int) (L:List Ent):List Ent:=L.filter fun e=>decide (e.id ≠ id)
def findE (id:Int) (L:List Ent):Option Ent:=L.find? fun e=>decide (e.id = id)

def Rising (L:List Ent):Prop:=L.Pairwise fun a b=>a.id < b.id

theorem sameKey_int (a b:Int):Lit.sameKey (.int .i64 a) (.int .i64 b) = decide (a = b):=by simp [Lit.sameKey]

theorem mdata_length (L:List Ent):(mdata L).length = L.length:=by simp [mdata]

theorem find_mdata (L:List Ent) (id:Int):(mdata L).find? (fun p=>p.1.sameKey (.int .i64 id)) = (findE id L).map fun e=>(.int .i64 e.id,.held (mval e)):=by
  induction L with
  | nil=>rfl
  | cons y r ih =>
    simp only [mdata,List.map_cons,List.find?_cons,findE,sameKey_int] at ih ⊢
    by_cases h:y.id = id
    · simp [h]
    · simp only [h,decide_false]
      exact ih

theorem atKey_mdata (L:List Ent) (id:Int) (z:DataW Value):(DataW.map (mdata L)).atKey (.int .i64 id) z = (match findE id L with | some e=>.held (mval e) | none=>z):=by
  simp only [DataW.atKey,find_mdata]
  cases findE id L <;> rfl

theorem has_mdata (L:List Ent) (id:Int):Maps.has (.map (mdata L)) (.int .i64 id) = (findE id L).isSome:=by
  rw [Maps.has_eq]
  induction L with
  | nil=>rfl
  | cons y r ih =>
    simp only [mdata,List.map_cons,List.any_cons,findE,sameKey_int,List.find?_cons] at ih ⊢
    by_cases h:y.id = id
    · simp [h]
    · simp only [h,decide_false,Bool.false_or]
      exact ih

theorem del_mdata (L:List Ent) (id:Int):(DataW.map (mdata L)).del (.int .i64 id) = .map (mdata (delE id L)):=by
  simp only [DataW.del,mdata,delE,List.filter_map]
  congr 2
  refine List.filter_congr fun e _=>?_
  simp [sameKey_int]

theorem filter_above {id:Int} {L:List Ent} (h:∀ e ∈ L,id < e.id):(mdata L).filter (fun p=>!p.1.sameKey (.int .i64 id)) = mdata L:=by
  refine List.filter_eq_self.2 fun p hp=>?_
  obtain ⟨e,he,rfl⟩:=List.mem_map.1 hp
  have:=h e he
  simp [sameKey_int]; omega

theorem insert_mdata (x:Ent):∀ L:List Ent,Rising L→DataW.insert (.int .i64 x.id,.held (mval x)) ((mdata L).filter fun p=>!p.1.sameKey (.int .i64 x.id)) = mdata (insE x L)
  | [],_=>rfl
  | y :: r,h=>by
    obtain ⟨h1,h2⟩:=List.pairwise_cons.1 h
    by_cases hlt:x.id < y.id
    · have hall:∀ e ∈ y :: r,x.id < e.id:=fun e he=>by
        rcases List.mem_cons.1 he with rfl | he
        · exact hlt
        · have:=h1 e he; omega
      rw [filter_above hall]
      simp [mdata,insE,hlt,DataW.insert,Lit.before]
    · by_cases he:x.id = y.id
      · have hall:∀ e ∈ r,x.id < e.id:=fun e hr=>by have:=h1 e hr; omega
        have e1:(mdata (y :: r)).filter (fun p=>!p.1.sameKey (.int .i64 x.id)) = mdata r:=by
          rw [show mdata (y :: r) = (.int .i64 y.id,.held (mval y)) :: mdata r from rfl,List.filter_cons]
          simp only [sameKey_int,he,decide_true,Bool.not_true,Bool.false_eq_true,if_false]
          rw [← he]
          exact filter_above hall
        rw [e1]
        simp only [insE,he,if_false,if_true,Int.lt_irrefl]
        cases r with
        | nil=>simp [mdata,DataW.insert,he]
        | cons z r =>
          have:=hall z (by simp)
          simp [mdata,DataW.insert,Lit.before,← he,this]
      · have e1:(mdata (y :: r)).filter (fun p=>!p.1.sameKey (.int .i64 x.id)) = (.int .i64 y.id,.held (mval y)) :: (mdata r).filter (fun p=>!p.1.sameKey (.int .i64 x.id)):=by
          rw [show mdata (y :: r) = (.int .i64 y.id,.held (mval y)) :: mdata r from rfl,List.filter_cons]
          have:¬ y.id = x.id:=fun e=>he e.symm
          simp [sameKey_int,this]
        rw [e1]
        simp only [DataW.insert,Lit.before,hlt,decide_false,Bool.false_eq_true,if_false]
        rw [insert_mdata x r h2]
        simp [insE,hlt,he,mdata]

theorem put_mdata (x:Ent) (L:List Ent) (h:Rising L):(DataW.map (mdata L)).put (.int .i64 x.id) (.held (mval x)) = .map (mdata (insE x L)):=by
  rw [← insert_mdata x L h]
  rfl

theorem findE_mem {id:Int} {L:List Ent} {e:Ent} (h:findE id L = some e):e ∈ L∧e.id = id:=by
  unfold findE at h
  exact ⟨List.mem_of_find?_eq_some h,by simpa using List.find?_some h⟩
theorem findE_none {id:Int} {L:List Ent} (h:findE id L = none):∀ e ∈ L,e.id ≠ id:=by
  intro e he
  have:=List.find?_eq_none.1 h e he
  simpa using this
theorem mem_insE {x e:Ent}:∀ {L:List Ent},e ∈ insE x L→e = x ∨ e ∈ L
  | [],h=>by simp [insE] at h; exact .inl h
  | y :: r,h=>by
    unfold insE at h
    split at h
    · rcases List.mem_cons.1 h with h | h
      · exact .inl h
      · exact .inr h
    · split at h
      · rcases List.mem_cons.1 h with h | h
        · exact .inl h
        · exact .inr (List.mem_cons_of_mem _ h)
      · rcases List.mem_cons.1 h with h | h
        · exact .inr (by simp [h])
        · rcases mem_insE h with h | h
          · exact .inl h
          · exact .inr (List.mem_cons_of_mem _ h)
theorem rising_insE (x:Ent):∀ {L:List Ent},Rising L→Rising (insE x L)
  | [],_=>by simp [insE,Rising]
  | y :: r,h=>by
    obtain ⟨h1,h2⟩:=List.pairwise_cons.1 h
    unfold insE
    split
    · rename_i hlt
      refine List.pairwise_cons.2 ⟨fun e he=>?_,h⟩
      rcases List.mem_cons.1 he with rfl | he
      · exact hlt
      · have:=h1 e he; omega
    · split
      · rename_i he
        exact List.pairwise_cons.2 ⟨fun e hr=>by have:=h1 e hr; omega,h2⟩
      · rename_i hlt hne
        refine List.pairwise_cons.2 ⟨fun e he=>?_,rising_insE x h2⟩
        rcases mem_insE he with rfl | he
        · omega
        · exact h1 e he
theorem rising_delE (id:Int) {L:List Ent} (h:Rising L):Rising (delE id L):=h.filter _
theorem length_insE_none (x:Ent):∀ {L:List Ent},findE x.id L = none→(insE x L).length = L.length + 1
  | [],_=>rfl
  | y :: r,h=>by
    have hy:=findE_none h y (by simp)
    have hr:findE x.id r = none:=by
      unfold findE at h ⊢
      rw [List.find?_cons] at h
      simpa [hy] using h
    unfold insE
    split
    · rfl
    · split
      · omega
      · simp [length_insE_none x hr]
theorem length_insE_some (x:Ent):∀ {L:List Ent} {e:Ent},Rising L→findE x.id L = some e→(insE x L).length = L.length
  | [],_,_,h=>by cases h
  | y :: r,e,hs,h=>by
    obtain ⟨h1,h2⟩:=List.pairwise_cons.1 hs
    by_cases hy:y.id = x.id
    · simp [insE,hy]
    · have hr:findE x.id r = some e:=by
        unfold findE at h ⊢
        rw [List.find?_cons] at h
        simpa [hy] using h
      have:=h1 e (findE_mem hr).1
      have:=(findE_mem hr).2
      unfold insE
      rw [if_neg (by omega),if_neg (fun e=>hy e.symm)]
      simp [length_insE_some x h2 hr]
theorem mem_delE {id:Int} {L:List Ent} {e:Ent} (h:e ∈ delE id L):e ∈ L:=(List.mem_filter.1 h).1
end
section
open Go.RowKit Go.Maps

theorem key3:Keyed Tryz.prog 3:=int_keyed Tryz.underlying3
theorem zero56 (w:World):(zeroValue 77).run Tryz.prog w = .ok (.agg #[.int .i64 0,.slice none 0 0,.int .i64 0,.int .i64 0]) w:=by kernel_rfl

def I64 (n:Int):Prop:=(Lit.int .i64 n).wf = true

structure MapAt (w:World) (bm:Nat) (L:List Ent):Prop where
  map:w.ownsMap Tryz.prog 3 asIs bm L.length (.map (mdata L))
  pts:∀ e ∈ L,Pts w e.mb e.mc e.pt
  pos:∀ e ∈ L,0 < e.pt.length∧e.pt.length≤8
  rising:Rising L

theorem MapAt.block {w w':World} {bm:Nat} {L:List Ent} (h:MapAt w bm L) (hb:w'.heap[bm]? = w.heap[bm]?) (hp:∀ e ∈ L,w'.heap[e.mb]? = w.heap[e.mb]?):MapAt w' bm L:=by
  obtain ⟨es,clock,h1,h2⟩:=h.map
  exact ⟨⟨es,clock,hb.trans h1,h2⟩,fun e he=>ownsRow_of_block (h.pts e he) fun g hg=>by
    obtain rfl:e.mb = g:=by simpa [Value.ownBlock] using hg
    exact hp e he,h.pos,h.rising⟩
theorem MapAt.lt {w:World} {bm:Nat} {L:List Ent} (h:MapAt w bm L):bm < w.heap.size:=h.map.lt
theorem MapAt.plt {w:World} {bm:Nat} {L:List Ent} (h:MapAt w bm L):∀ e ∈ L,e.mb < w.heap.size:=fun e he=>((h.pts e he).lt e.mb rfl).2
theorem MapAt.below {w w':World} {bm:Nat} {L:List Ent} (h:MapAt w bm L) (hb:Below w.heap.size w w'):MapAt w' bm L :=
  h.block (hb.block _ h.lt) fun e he=>hb.block _ (h.plt e he)
theorem MapAt.alloc {w:World} {bm:Nat} {L:List Ent} (h:MapAt w bm L) (o:Obj):MapAt (w.alloc o) bm L :=
  h.below ((Below.refl _ _).alloc (Nat.le_refl _) o)

theorem MapAt.look {w:World} {bm:Nat} {L:List Ent} (h:MapAt w bm L) (id:Int) (hid:I64 id) :
    (Instr.lookup 153 (.map (some bm)) (.int .i64 id) true).run Tryz.prog w = .ok (.tuple #[(match findE id L with | some e=>mval e | none=>.agg #[.int .i64 0,.slice none 0 0,.int .i64 0,.int .i64 0]),.bool (findE id L).isSome]) w:=by
  obtain ⟨v,ps,hrun,hv⟩:=h.map.look_ok key3 Tryz.underlying153 (zero56 w) (zd:=.held (.agg #[.int .i64 0,.slice none 0 0,.int .i64 0,.int .i64 0])) (zp:=[]) rfl (keyOf_int_mk Tryz.underlying3 hid)
  rw [has_mdata] at hrun
  rw [atKey_mdata] at hv
  simp only [asIs,Option.some.injEq,Prod.mk.injEq] at hv
  have hv1:=hv.1
  revert hv1 hrun
  cases findE id L with
  | none=>intro hrun h; rw [hrun,DataW.held.inj h]
  | some e=>intro hrun h; rw [hrun,DataW.held.inj h]

theorem MapAt.look_yes {w:World} {bm:Nat} {L:List Ent} (h:MapAt w bm L) (id:Int) (hid:I64 id) {e:Ent} (he:findE id L = some e) :
    (Instr.lookup 153 (.map (some bm)) (.int .i64 id) true).run Tryz.prog w = .ok (.tuple #[.agg #[.int .i64 e.id,.slice (some ⟨e.mb,0,none⟩) e.pt.length e.mc,.int .i64 e.t0,.int .i64 e.t1],.bool true]) w:=by
  rw [h.look id hid,he]; rfl
theorem MapAt.look_no {w:World} {bm:Nat} {L:List Ent} (h:MapAt w bm L) (id:Int) (hid:I64 id) (he:findE id L = none) :
    (Instr.lookup 153 (.map (some bm)) (.int .i64 id) true).run Tryz.prog w = .ok (.tuple #[.agg #[.int .i64 0,.slice none 0 0,.int .i64 0,.int .i64 0],.bool false]) w:=by
  rw [h.look id hid,he]; rfl
theorem MapAt.count {w:World} {bm:Nat} {L:List Ent} (h:MapAt w bm L):(Builtin.len_ #[153] 3 #[.map (some bm)]).run Tryz.prog w = .ok (.int .i64 L.length) w:=by
  rw [h.map.len Tryz.underlying153 3,Maps.size_eq,mdata_length]

set_option maxHeartbeats 1000000 in
theorem find57_yes (bs bm:Nat) (id:Int) (L:List Ent) (e:Ent) (w:World) (hid:I64 id) (c1:w.cell? ⟨bs,1,none⟩ = some (.map (some bm))) (hm:MapAt w bm L) (he:findE id L = some e) :
    Calls Tryz.prog 99 #[.pointer (some ⟨bs,0,none⟩),.int .i64 id] w fun ev w'=>ev = .returned (.tuple #[.agg #[.int .i64 e.id,.slice (some ⟨e.mb,0,none⟩) e.pt.length e.mc,.int .i64 e.t0,.int .i64 e.t1],.nilIface])∧Below w.heap.size w w':=by
  have hl:=fun o=>(hm.alloc o).look_yes id hid he
  have hbs:=block_lt_of_cell c1
  clear he hm
  go_enter Tryz.func99,Tryz.ntmps99
  go_wp2
  refine bodyPost_ret (v:=.tuple #[.agg #[.int .i64 e.id,.slice (some ⟨e.mb,0,none⟩) e.pt.length e.mc,.int .i64 e.t0,.int .i64 e.t1],.nilIface]) (by simp [results,Tryz.results99,go_sem]) rfl ⟨rfl,?_⟩
  repeat (first | exact Below.refl _ _ | refine Below.setCell ?_ (by simp) _ | refine Below.alloc ?_ (by simp) _)

set_option maxHeartbeats 1000000 in
theorem find57_no (bs bm:Nat) (id:Int) (L:List Ent) (w:World) (hid:I64 id) (c1:w.cell? ⟨bs,1,none⟩ = some (.map (some bm))) (hm:MapAt w bm L) (he:findE id L = none) :
    Calls Tryz.prog 99 #[.pointer (some ⟨bs,0,none⟩),.int .i64 id] w fun ev w'=>(∃ s,ev = .returned (.tuple #[.agg #[.int .i64 0,.slice none 0 0,.int .i64 0,.int .i64 0],.iface 158 (.agg #[.string s,.int .i64 id,.iface 156 (.int .i64 5)])]))∧Below w.heap.size w w':=by
  have hl:=fun o=>(hm.alloc o).look_no id hid he
  have hbs:=block_lt_of_cell c1
  clear he hm
  go_enter Tryz.func99,Tryz.ntmps99
  go_wp2
  refine bodyPost_ret (v:=.tuple #[.agg #[.int .i64 0,.slice none 0 0,.int .i64 0,.int .i64 0],.iface 158 (.agg #[.string _,.int .i64 id,.iface 156 (.int .i64 5)])]) (by simp [results,Tryz.results99,go_sem]; rfl) rfl ⟨⟨_,rfl⟩,?_⟩
  repeat (first | exact Below.refl _ _ | refine Below.setCell ?_ (by simp) _ | refine Below.alloc ?_ (by simp) _)

set_option maxHeartbeats 1000000 in
theorem count30_any (bs bm:Nat) (L:List Ent) (w:World) (c1:w.cell? ⟨bs,1,none⟩ = some (.map (some bm))) (hm:MapAt w bm L) :
    Calls Tryz.prog 41 #[.pointer (some ⟨bs,0,none⟩)] w fun ev w'=>ev = .returned (.int .i64 L.length)∧w = w':=by
  have hl:=hm.count
  clear hm
  go_enter Tryz.func41,Tryz.ntmps41
  go_wp2
  go_ret
  exact ⟨rfl,rfl⟩

def StS (w0:World) (bs bm:Nat) (cap:Int) (L:List Ent) (wx:World):Prop :=
  wx.cell? ⟨bs,0,none⟩ = some (.int .i64 cap)∧wx.cell? ⟨bs,1,none⟩ = some (.map (some bm))∧MapAt wx bm L∧Below w0.heap.size w0 wx
theorem StS.both {w0:World} {bs bm:Nat} {cap:Int} {L:List Ent} {wx:World} (h:StS w0 bs bm cap L wx):StS w0 bs bm cap L wx∧wx.cell? ⟨bs,0,none⟩ = some (.int .i64 cap):=⟨h,h.1⟩
theorem StS.two {w0:World} {bs bm:Nat} {cap:Int} {L:List Ent} {wx:World} (h:StS w0 bs bm cap L wx):wx.cell? ⟨bs,1,none⟩ = some (.map (some bm)):=h.2.1
theorem StS.three {w0:World} {bs bm:Nat} {cap:Int} {L:List Ent} {wx:World} (h:StS w0 bs bm cap L wx):MapAt wx bm L:=h.2.2.1
theorem StS.four {w0:World} {bs bm:Nat} {cap:Int} {L:List Ent} {wx:World} (h:StS w0 bs bm cap L wx):Below w0.heap.size w0 wx:=h.2.2.2
theorem StS.of_below {w0:World} {bs bm:Nat} {cap:Int} {L:List Ent} {wx wy:World} (h:StS w0 bs bm cap L wx) (hb:Below wx.heap.size wx wy):StS w0 bs bm cap L wy :=
  ⟨Below.at hb h.1 (block_lt_of_cell (a:=⟨bs,0,none⟩) h.1),Below.at hb h.2.1 (block_lt_of_cell (a:=⟨bs,1,none⟩) h.2.1),h.2.2.1.below hb,h.2.2.2.trans (hb.mono h.2.2.2.size)⟩
theorem StS.alloc {w0:World} {bs bm:Nat} {cap:Int} {L:List Ent} {wx:World} (h:StS w0 bs bm cap L wx) (o:Obj):StS w0 bs bm cap L (wx.alloc o) :=
  h.of_below ((Below.refl _ _).alloc (Nat.le_refl _) o)
theorem StS.drew {w0:World} {bs bm:Nat} {cap:Int} {L:List Ent} {wx:World} (h:StS w0 bs bm cap L wx):StS w0 bs bm cap L wx.drew :=
  h.of_below (Below.refl _ _).drew

set_option maxHeartbeats 1000000 in
theorem room55_yes (bs bm:Nat) (id:Int) (L:List Ent) (e:Ent) (w:World) (hid:I64 id) (c1:w.cell? ⟨bs,1,none⟩ = some (.map (some bm))) (hm:MapAt w bm L) (he:findE id L = some e) :
    Calls Tryz.prog 88 #[.pointer (some ⟨bs,0,none⟩),.int .i64 id] w fun ev w'=>ev = .returned .nilIface∧Below w.heap.size w w':=by
  go_enter Tryz.func88,Tryz.ntmps88
  go_wp2_with (go_at_call 99; refine (find57_yes bs bm id L e _ hid c1 hm he).mono ?_; rintro ev w' ⟨rfl,hb⟩)
  have hz:w.heap.size≤w'.heap.size:=hb.size
  clear hm
  go_quiet ((go_at_call 133; exact Calls.quiet_of_same ((is_nil _).mono (fun _ _ h=>⟨h.1,h.2.symm⟩))))
  go_wp2
  go_ret
  refine ⟨rfl,?_⟩
  refine below_drewN ?_ _
  repeat (first | exact hb | refine Below.setCell ?_ (by first | omega | (simp; done) | (simp; omega)) _ | refine Below.alloc ?_ (by first | omega | (simp; done) | (simp; omega)) _)

set_option maxHeartbeats 1000000 in
theorem room55_no (bs bm:Nat) (id:Int) (L:List Ent) (w:World) (hid:I64 id) (cap:Int) (c0:w.cell? ⟨bs,0,none⟩ = some (.int .i64 cap)) (c1:w.cell? ⟨bs,1,none⟩ = some (.map (some bm))) (hm:MapAt w bm L) (he:findE id L = none)
    (hfull:¬ cap≤L.length) :
    Calls Tryz.prog 88 #[.pointer (some ⟨bs,0,none⟩),.int .i64 id] w fun ev w'=>ev = .returned .nilIface∧Below w.heap.size w w':=by
  have hd:decide (cap≤L.length) = false:=by simpa using hfull
  go_enter Tryz.func88,Tryz.ntmps88
  go_wp2_with (go_at_call 99; refine (find57_no bs bm id L _ hid c1 hm he).mono ?_; rintro ev w' ⟨⟨s,rfl⟩,hb⟩)
  have hS:StS w bs bm cap L w':=⟨Below.at hb c0 (block_lt_of_cell c0),Below.at hb c1 (block_lt_of_cell c1),hm.below hb,hb⟩
  clear hm hb c0 c1 he hfull
  go_region_held3 (fun wx=>StS w bs bm cap L wx∧wx.cell? ⟨bs,0,none⟩ = some (.int .i64 cap)) ((refine StS.both ?_; repeat (first | exact hS | refine StS.drew ?_ | refine StS.alloc ?_ _)))
    (first
      | (go_at_call 133; refine (is_none s id _).mono ?_; rintro ev2 w2 ⟨rfl,rfl⟩)
      | (go_at_call 41; refine (count30_any bs bm L _ ?_ ?_).mono ?_; (refine StS.two (w0:=w) (cap:=cap) (L:=L) ?_; repeat (first | exact hS | refine StS.drew ?_ | refine StS.alloc ?_ _)); (refine StS.three (w0:=w) (bs:=bs) (cap:=cap) ?_; repeat (first | exact hS | refine StS.drew ?_ | refine StS.alloc ?_ _)); rintro ev2 w2 ⟨rfl,rfl⟩))
  go_wp2
  go_ret
  refine ⟨rfl,StS.four (bs:=bs) (bm:=bm) (cap:=cap) (L:=L) ?_⟩
  repeat (first | exact hS | refine StS.drew ?_ | refine StS.alloc ?_ _)
set_option maxHeartbeats 1000000 in
theorem room55_full (bs bm:Nat) (id:Int) (L:List Ent) (w:World) (hid:I64 id) (cap:Int) (c0:w.cell? ⟨bs,0,none⟩ = some (.int .i64 cap)) (c1:w.cell? ⟨bs,1,none⟩ = some (.map (some bm))) (hm:MapAt w bm L) (he:findE id L = none)
    (hfull:cap≤L.length) :
    Calls Tryz.prog 88 #[.pointer (some ⟨bs,0,none⟩),.int .i64 id] w fun ev w'=>(∃ s,ev = .returned (.iface 158 (.agg #[.string s,.int .i64 id,.iface 156 (.int .i64 4)])))∧Below w.heap.size w w':=by
  have hd:decide (cap≤L.length) = true:=by simpa using hfull
  go_enter Tryz.func88,Tryz.ntmps88
  go_wp2_with (go_at_call 99; refine (find57_no bs bm id L _ hid c1 hm he).mono ?_; rintro ev w' ⟨⟨s,rfl⟩,hb⟩)
  have hS:StS w bs bm cap L w':=⟨Below.at hb c0 (block_lt_of_cell c0),Below.at hb c1 (block_lt_of_cell c1),hm.below hb,hb⟩
  clear hm hb c0 c1 he hfull
  go_region_held3 (fun wx=>StS w bs bm cap L wx∧wx.cell? ⟨bs,0,none⟩ = some (.int .i64 cap)) ((refine StS.both ?_; repeat (first | exact hS | refine StS.drew ?_ | refine StS.alloc ?_ _)))
    (first
      | (go_at_call 133; refine (is_none s id _).mono ?_; rintro ev2 w2 ⟨rfl,rfl⟩)
      | (go_at_call 41; refine (count30_any bs bm L _ ?_ ?_).mono ?_; (refine StS.two (w0:=w) (cap:=cap) (L:=L) ?_; repeat (first | exact hS | refine StS.drew ?_ | refine StS.alloc ?_ _)); (refine StS.three (w0:=w) (bs:=bs) (cap:=cap) ?_; repeat (first | exact hS | refine StS.drew ?_ | refine StS.alloc ?_ _)); rintro ev2 w2 ⟨rfl,rfl⟩))
  go_wp2
  go_ret
  refine ⟨⟨_,rfl⟩,StS.four (bs:=bs) (bm:=bm) (cap:=cap) (L:=L) ?_⟩
  repeat (first | exact hS | refine StS.drew ?_ | refine StS.alloc ?_ _)
end
section
open Go.RowKit Go.Maps

theorem ownsMap_exact {P:Program} {k:TypeId} {R:Value→Option (DataW Value × List MemPlace)} {w:World} {b n:Nat} {l:List (Lit × DataW Value)} (h:w.ownsMap P k R b n (.map l)):w.ownsMap P k R b l.length (.map l):=by
  obtain ⟨es,clock,hb,F,hs,hD⟩:=h
  refine ⟨es,clock,hb,F,?_,hD⟩
  have:l = (es.toList.map (WideElems.rg P k R)).foldr DataW.insert []:=DataW.map.inj hD
  rw [this,length_sorted]
  simp

theorem MapAt.obj {w:World} {bm:Nat} {L:List Ent} (h:MapAt w bm L):∃ es clock,w.heap[bm]? = some (.map es clock):=by
  obtain ⟨es,clock,hb,_⟩:=h.map
  exact ⟨es,clock,hb⟩
theorem MapAt.mb_ne {w:World} {bm:Nat} {L:List Ent} (h:MapAt w bm L) {g:Nat} {cur:Array Value} {e:TypeId} {fr:Nat × Nat} (hg:w.heap[g]? = some (.cells cur e fr)):g ≠ bm:=by
  obtain ⟨es,clock,hb⟩:=h.obj
  intro e'; subst e'
  rw [hb] at hg; cases hg
theorem Pts.obj {w:World} {g cap:Nat} {xs:List Int} (h:Pts w g cap xs):∃ cur,w.heap[g]? = some (.cells cur 3 (0,0)):=ownsRow_obj h rfl

theorem MapAt.store {w:World} {bm:Nat} {L:List Ent} (h:MapAt w bm L) (id t0 t1:Int) (xs:List Int) (g gc:Nat) (hid:I64 id) (hL:L.length≤60) (hp:Pts w g gc xs) (hpos:0 < xs.length∧xs.length≤8) :
    ∃ w',(Instr.mapUpdate 153 (.map (some bm)) (.int .i64 id) (.agg #[.int .i64 id,.slice (some ⟨g,0,none⟩) xs.length gc,.int .i64 t0,.int .i64 t1])).run Tryz.prog w = .ok () w'∧(∀ draw rb rc,MapAt w' bm (insE ⟨id,xs,t0,t1,draw,g,gc,rb,rc⟩ L))∧Kept (fun k=>k = bm) w w':=by
  obtain ⟨w',hrun,hown,hgrow⟩:=h.map.update key3 Tryz.underlying153 (by unfold maxLen; omega) (keyOf_int_mk Tryz.underlying3 hid) (show asIs (.agg #[.int .i64 id,.slice (some ⟨g,0,none⟩) xs.length gc,.int .i64 t0,.int .i64 t1]) = some (.held (.agg #[.int .i64 id,.slice (some ⟨g,0,none⟩) xs.length gc,.int .i64 t0,.int .i64 t1]),[]) from rfl)
  refine ⟨w',hrun,fun draw rb rc=>?_,(Kept.refl _ w).grown hgrow (fun k hk _=>(Option.some.inj hk).symm)⟩
  have hown1:=hown
  rw [show (DataW.map (mdata L)).put (.int .i64 id) (.held (.agg #[.int .i64 id,.slice (some ⟨g,0,none⟩) xs.length gc,.int .i64 t0,.int .i64 t1])) = _ from put_mdata ⟨id,xs,t0,t1,draw,g,gc,rb,rc⟩ L h.rising] at hown1
  have hown2:=ownsMap_exact hown1
  rw [mdata_length] at hown2
  refine ⟨hown2,?_,?_,rising_insE _ h.rising⟩
  · intro e he
    have hpe:Pts w e.mb e.mc e.pt:=by
      rcases mem_insE he with rfl | he
      · exact hp
      · exact h.pts e he
    obtain ⟨cur,hcur⟩:=hpe.obj
    refine ownsRow_of_block hpe fun g hg=>?_
    obtain rfl:e.mb = g:=by simpa [Value.ownBlock] using hg
    exact hgrow.block _ ((hpe.lt e.mb rfl).2) (fun e'=>h.mb_ne hcur (Option.some.inj e'))
  · intro e he
    rcases mem_insE he with rfl | he
    · exact hpos
    · exact h.pos e he

theorem MapAt.drop {w:World} {bm:Nat} {L:List Ent} (h:MapAt w bm L) (id:Int) (hid:I64 id) :
    ∃ w',(Builtin.delete_ #[153,3] 0 #[.map (some bm),.int .i64 id]).run Tryz.prog w = .ok (.tuple #[]) w'∧MapAt w' bm (delE id L)∧Kept (fun k=>k = bm) w w':=by
  obtain ⟨w',hrun,hown,hturn⟩:=h.map.drop key3 Tryz.underlying153 (keyOf_int_mk Tryz.underlying3 hid) 0
  have hgrow:=hturn.grown
  rw [del_mdata] at hown
  have hown2:=ownsMap_exact hown
  rw [mdata_length] at hown2
  refine ⟨w',hrun,⟨hown2,?_,fun e he=>h.pos e (mem_delE he),rising_delE id h.rising⟩,(Kept.refl _ w).grown hgrow (fun k hk _=>(Option.some.inj hk).symm)⟩
  intro e he
  have hpe:=h.pts e (mem_delE he)
  obtain ⟨cur,hcur⟩:=hpe.obj
  refine ownsRow_of_block hpe fun g hg=>?_
  obtain rfl:e.mb = g:=by simpa [Value.ownBlock] using hg
  exact hgrow.block _ ((hpe.lt e.mb rfl).2) (fun e'=>h.mb_ne hcur (Option.some.inj e'))
end
section
open Go.RowKit Go.Maps

def Room (cap:Int) (id:Int) (L:List Ent):Prop:=(findE id L).isSome = true ∨ ¬ cap≤L.length

theorem room55_ok (bs bm:Nat) (id:Int) (L:List Ent) (w:World) (hid:I64 id) (cap:Int) (c0:w.cell? ⟨bs,0,none⟩ = some (.int .i64 cap)) (c1:w.cell? ⟨bs,1,none⟩ = some (.map (some bm))) (hm:MapAt w bm L) (hr:Room cap id L) :
    Calls Tryz.prog 88 #[.pointer (some ⟨bs,0,none⟩),.int .i64 id] w fun ev w'=>ev = .returned .nilIface∧Below w.heap.size w w':=by
  cases he:findE id L with
  | some e=>exact room55_yes bs bm id L e w hid c1 hm he
  | none =>
    rcases hr with h | h
    · rw [he] at h; cases h
    · exact room55_no bs bm id L w hid cap c0 c1 hm he h

set_option maxHeartbeats 1000000 in
theorem put28_full (bs bm:Nat) (id t0 t1:Int) (pv:Value) (a:Option Addr) (pn pc:Nat) (_hpv:pv = .slice a pn pc) (L:List Ent) (w:World) (hid:I64 id) (cap:Int) (c0:w.cell? ⟨bs,0,none⟩ = some (.int .i64 cap)) (c1:w.cell? ⟨bs,1,none⟩ = some (.map (some bm))) (hm:MapAt w bm L)
    (he:findE id L = none) (hfull:cap≤L.length) :
    Calls Tryz.prog 44 #[.pointer (some ⟨bs,0,none⟩),.agg #[.int .i64 id,.slice a pn pc,.int .i64 t0,.int .i64 t1]] w fun ev w'=>(∃ s,ev = .returned (.iface 158 (.agg #[.string s,.int .i64 id,.iface 156 (.int .i64 4)])))∧Below w.heap.size w w':=by
  have hb:=block_lt_of_cell c0
  go_enter Tryz.func44,Tryz.ntmps44
  go_wp2_with fail
  refine (room55_full bs bm id L _ hid cap ?c0 ?c1 (hm.alloc _) he hfull).mono ?_
  case c0=>rw [World.cell?_alloc_lt _ _ _ (by exact hb)]; exact c0
  case c1=>rw [World.cell?_alloc_lt _ _ _ (by exact hb)]; exact c1
  rintro ev w1 ⟨⟨s,rfl⟩,hb1⟩
  go_wp2
  go_ret
  exact ⟨⟨s,rfl⟩,((Below.refl _ _).alloc (Nat.le_refl _) _).trans (hb1.mono (by simp))⟩

theorem MapAt.cell_ne {w:World} {bm:Nat} {L:List Ent} (h:MapAt w bm L) {b o:Nat} {v:Value} (hc:w.cell? ⟨b,o,none⟩ = some v):b ≠ bm:=by
  obtain ⟨es,clock,hb⟩:=h.obj
  intro e; subst e
  simp [World.cell?,hb] at hc

def PutS (hs bs bm b off n pc:Nat) (id t0 t1:Int) (w:World):Prop :=
  w.cell? ⟨hs,0,none⟩ = some (.int .i64 id)∧w.cell? ⟨hs,1,none⟩ = some (.slice (some ⟨b,off,none⟩) n pc)∧w.cell? ⟨hs,2,none⟩ = some (.int .i64 t0)∧w.cell? ⟨hs,3,none⟩ = some (.int .i64 t1)∧w.cell? ⟨bs,1,none⟩ = some (.map (some bm))
theorem PutS.kept {hs bs bm b off n pc:Nat} {id t0 t1:Int} {w w':World} {L:List Ent} (h:PutS hs bs bm b off n pc id t0 t1 w) (hm:MapAt w bm L) (hk:Kept (fun k=>k = bm) w w'):PutS hs bs bm b off n pc id t0 t1 w' :=
  ⟨hk.cell h.1 (hm.cell_ne h.1),hk.cell h.2.1 (hm.cell_ne h.2.1),hk.cell h.2.2.1 (hm.cell_ne h.2.2.1),hk.cell h.2.2.2.1 (hm.cell_ne h.2.2.2.1),hk.cell h.2.2.2.2 (hm.cell_ne h.2.2.2.2)⟩

set_option maxHeartbeats 2000000 in
theorem put28_ok (bs bm:Nat) (id t0 t1:Int) (xs:List Int) (b off pc:Nat) (L:List Ent) (w:World) (hid:I64 id) (cap:Int) (c0:w.cell? ⟨bs,0,none⟩ = some (.int .i64 cap)) (c1:w.cell? ⟨bs,1,none⟩ = some (.map (some bm))) (hm:MapAt w bm L)
    (hr:Room cap id L) (hL:L.length≤60) (h0:0 < xs.length) (h8:xs.length≤8) (hc:∀ i,i < xs.length→w.cell? ⟨b,off + i,none⟩ = some (.int .i64 (xs.getD i 0))) :
    Calls Tryz.prog 44 #[.pointer (some ⟨bs,0,none⟩),.agg #[.int .i64 id,.slice (some ⟨b,off,none⟩) xs.length pc,.int .i64 t0,.int .i64 t1]] w fun ev w'=>ev = .returned .nilIface ∧
      ∃ g gc,w.heap.size≤g∧(∀ draw rb rc,MapAt w' bm (insE ⟨id,xs,t0,t1,draw,g,gc,rb,rc⟩ L))∧Kept (fun k=>k = bm) w w':=by
  have hb:=block_lt_of_cell c0
  have hbb:b < w.heap.size:=block_lt_of_cell (hc 0 h0)
  have HC:=hide hc
  clear hc
  go_enter Tryz.func44,Tryz.ntmps44
  go_wp2_with fail
  refine (room55_ok bs bm id L _ hid cap ?c0 ?c1 (hm.alloc _) hr).mono ?_
  case c0=>rw [World.cell?_alloc_lt _ _ _ (by exact hb)]; exact c0
  case c1=>rw [World.cell?_alloc_lt _ _ _ (by exact hb)]; exact c1
  rintro ev w1 ⟨rfl,hb1⟩
  have hbw:Below w.heap.size w w1:=((Below.refl _ _).alloc (Nat.le_refl _) _).trans (hb1.mono (by simp))
  have k0:w1.cell? ⟨w.heap.size,0,none⟩ = some (.int .i64 id):=Below.at hb1 (by simp) (by simp)
  have k1:w1.cell? ⟨w.heap.size,1,none⟩ = some (.slice (some ⟨b,off,none⟩) xs.length pc):=Below.at hb1 (by simp) (by simp)
  have k2:w1.cell? ⟨w.heap.size,2,none⟩ = some (.int .i64 t0):=Below.at hb1 (by simp) (by simp)
  have k3:w1.cell? ⟨w.heap.size,3,none⟩ = some (.int .i64 t1):=Below.at hb1 (by simp) (by simp)
  have k4:=Below.at hbw c1 hb
  have hm1:=hm.below hbw
  have hz1:w.heap.size≤w1.heap.size:=hbw.size
  have HC1:Hid (∀ i,i < xs.length→w1.cell? ⟨b,off + i,none⟩ = some (.int .i64 (xs.getD i 0))):=fun i hi=>Below.at hbw (HC.out i hi) hbb
  have HM:=hide hm1
  have HB:=hide hbw
  clear HC hm c0 c1 hb1 hr hm1 hbw
  go_wp2
  have hS1:PutS w.heap.size bs bm b off xs.length pc id t0 t1 w1:=⟨k0,k1,k2,k3,k4⟩
  go_region_held3 (fun wx=>wx.cell? ⟨w.heap.size,0,none⟩ = some (.int .i64 id)∧wx.cell? ⟨w.heap.size,1,none⟩ = some (.slice (some ⟨b,off,none⟩) xs.length pc)∧wx.cell? ⟨w.heap.size,2,none⟩ = some (.int .i64 t0)∧wx.cell? ⟨w.heap.size,3,none⟩ = some (.int .i64 t1)∧wx.cell? ⟨bs,1,none⟩ = some (.map (some bm)))
    (first | (exact hS1) | (exact hS2) | (exact hS3))
    (first
      | (go_at_call 89; refine (copied56_any id t0 t1 xs b off pc _ h0 (by omega) ?_).mono ?_; (exact HC1.out); rintro ev2 w2 ⟨g,gc,rfl,hg,hp,hb2d⟩; have hb2:=Below.undrew hb2d; have hS2:=hS1.kept HM.out (Kept.of_below _ hb2); obtain ⟨w3,hrun,hm3,hk3⟩:=(HM.out.below hb2).store id t0 t1 xs g gc hid hL hp ⟨h0,h8⟩; have hS3:=hS2.kept (HM.out.below hb2) hk3))
  go_wp2
  go_ret
  refine ⟨rfl,g,gc,?_,hm3,?_⟩
  · have:w1.heap.size≤g:=hg
    omega
  · refine ((Kept.of_below _ HB.out).below ?_).trans hk3 (fun _ _ h=>h)
    exact hb2
end
end Go.Proofs.YtpkiefjanmfgfaaGreatDoor
