import Derived.Deep.AppendLies
import Derived.Test.YtpkiefjanmfgfaaGreatDoorAll02
import Derived.Test.YtpkiefjanmfgfaaGreatDoorAll15
namespace Go.Proofs.YtpkiefjanmfgfaaGreatDoor
section
open Go.RowKit Go.Maps

structure RowAt (w:World) (bp o E:Nat) (v u:Value) (rs:List Rc):Prop where
  cv:w.cell? ⟨bp,o,none⟩ = some v
  rv:w.ownsRow 0 E 1 v rs.length (rs.map Rc.val)
  cu:w.cell? ⟨bp,o + 1,none⟩ = some u
  ru:w.ownsRow 0 3 1 u rs.length (rs.map Rc.mrk)
  few:rs.length≤17592186044416
structure Reads (w:World) (Q:World→Nat→Nat→Int→Prop) (r:Rc):Prop where
  few:r.n≤17592186044416
  rd:∀ k,k < r.n→∃ g,r.a = some ⟨g,0,none⟩∧Q w g k r.m
def QI (w:World) (g k:Nat) (m:Int):Prop:=w.cell? ⟨g,k,none⟩ = some (.int .i64 m)
def QH (w:World) (g k:Nat) (m:Int):Prop:=w.cell? ⟨g,k * 2,none⟩ = some (.int .i64 m)∧w.cell? ⟨g,k * 2 + 1,none⟩ = some (.int .i64 (wrap64 (-m)))
def QG (w:World) (g k:Nat) (m:Int):Prop:=w.cell? ⟨g,k * 3,none⟩ = some (.int .i64 m)∧w.cell? ⟨g,k * 3 + 1,none⟩ = some (.int .i64 (wrap64 (-m)))∧w.cell? ⟨g,k * 3 + 2,none⟩ = some (.slice none 0 0)
def QL (w:World) (g k:Nat) (m:Int):Prop:=∃ b,w.cell? ⟨g,k,none⟩ = some (.slice (some ⟨b,0,none⟩) 1 1)∧w.cell? ⟨b,0,none⟩ = some (.int .i64 m)
theorem RowAt.at {w:World} {bp o E:Nat} {v u:Value} {rs:List Rc} (h:RowAt w bp o E v u rs) {i:Nat} (hi:i < rs.length):∃ gv cv gu cu,v = .slice (some ⟨gv,0,none⟩) rs.length cv∧u = .slice (some ⟨gu,0,none⟩) rs.length cu∧w.cell? ⟨gv,i,none⟩ = some rs[i].val∧w.cell? ⟨gu,i,none⟩ = some (.int .i64 rs[i].m):=by
  rcases h.rv.2 with ⟨_,h0⟩ | ⟨gv,cv,_,rfl,_⟩
  · omega
  rcases h.ru.2 with ⟨_,h0⟩ | ⟨gu,cu,_,rfl,_⟩
  · omega
  exact ⟨gv,cv,gu,cu,rfl,rfl,ownsRow_cell h.rv (by rw [List.getElem?_map,List.getElem?_eq_getElem hi]; rfl),ownsRow_cell h.ru (by rw [List.getElem?_map,List.getElem?_eq_getElem hi]; rfl)⟩
theorem RowAt.slice {w:World} {bp o E:Nat} {v u:Value} {rs:List Rc} (h:RowAt w bp o E v u rs):∃ a c,v = .slice a rs.length c:=by
  rcases h.rv.2 with ⟨e,h0⟩ | ⟨gv,cv,_,e,_⟩
  · exact ⟨none,0,by rw [e,h0]⟩
  · exact ⟨_,_,e⟩

set_option maxHeartbeats 4000000 in
set_option maxRecDepth 20000 in
theorem still16 (bp:Nat) (w:World) (v1 u1 v2 u2 v3 u3 v4 u4:Value) (r1 r2 r3 r4:List Rc) (h1:RowAt w bp 8 32 v1 u1 r1) (h2:RowAt w bp 10 58 v2 u2 r2) (h3:RowAt w bp 12 81 v3 u3 r3) (h4:RowAt w bp 14 31 v4 u4 r4)
    (q1:∀ r ∈ r1,Reads w QI r) (q2:∀ r ∈ r2,Reads w QH r) (q3:∀ r ∈ r3,Reads w QG r) (q4:∀ r ∈ r4,Reads w QL r) :
    Calls Tryz.prog 16 #[.pointer (some ⟨bp,6,none⟩)] w fun ev w'=>ev = .returned (.bool true)∧Below w.heap.size w w':=by
  obtain ⟨a1,c1,e1⟩:=h1.slice
  obtain ⟨a2,c2,e2⟩:=h2.slice
  obtain ⟨a3,c3,e3⟩:=h3.slice
  obtain ⟨a4,c4,e4⟩:=h4.slice
  have x1:=h1.cv
  have x2:=h2.cv
  have x3:=h3.cv
  have x4:=h4.cv
  have y1:w.cell? ⟨bp,9,none⟩ = some u1:=h1.cu
  have y2:w.cell? ⟨bp,11,none⟩ = some u2:=h2.cu
  have y3:w.cell? ⟨bp,13,none⟩ = some u3:=h3.cu
  have y4:w.cell? ⟨bp,15,none⟩ = some u4:=h4.cu
  have f1:=h1.few
  have f2:=h2.few
  have f3:=h3.few
  have f4:=h4.few
  have H1:=hide h1
  have H2:=hide h2
  have H3:=hide h3
  have H4:=hide h4
  have Q1:=hide q1
  have Q2:=hide q2
  have Q3:=hide q3
  have Q4:=hide q4
  rw [e1] at x1
  rw [e2] at x2
  rw [e3] at x3
  rw [e4] at x4
  have E1:=hide e1
  have E2:=hide e2
  have E3:=hide e3
  have E4:=hide e4
  clear h1 h2 h3 h4 q1 q2 q3 q4 e1 e2 e3 e4
  go_enter Tryz.func16,Tryz.ntmps16
  go_wp2
  go_loopw [3,4] (fun iv _ wr=>∃ i:Nat,iv = .int .i64 i∧i≤r1.length∧Hid (∃ n,wr = w.drewN n)) (fun iv _ _=>r1.length - (intOf iv).toNat)
  case atStart=>exact ⟨0,rfl,Nat.zero_le _,0,rfl⟩
  case round =>
    obtain ⟨i,rfl,hi,HW⟩:=hrel
    obtain ⟨n0,hw0⟩:=id HW.out
    have xr1:wr.cell? ⟨bp,8,none⟩ = some (.slice a1 r1.length c1):=by rw [hw0]; exact x1
    by_cases hlt:i < r1.length
    · obtain ⟨gv,cv,gu,cu,ev,eu,m1,m2⟩:=H1.out.at hlt
      have hrd:=Q1.out _ (List.getElem_mem hlt)
      rw [E1.out] at ev
      simp only [Value.slice.injEq] at ev
      obtain ⟨rfl,_,rfl⟩:=ev
      subst eu
      generalize r1[i] = r at *
      obtain ⟨ra,rn,rc,rm⟩:=r
      have hfw:=hrd.few
      have hrdd:=hrd.rd
      unfold Rc.val at m1
      simp only at m1 m2 hfw hrdd
      have HRD:=hide hrdd
      have HY:Hid (∀ n,(w.drewN n).cell? ⟨bp,8,none⟩ = some (.slice (some ⟨gv,0,none⟩) r1.length c1)∧(w.drewN n).cell? ⟨bp,9,none⟩ = some (.slice (some ⟨gu,0,none⟩) r1.length cu)∧(w.drewN n).cell? ⟨gv,i,none⟩ = some (.slice ra rn rc)∧(w.drewN n).cell? ⟨gu,i,none⟩ = some (.int .i64 rm)):=fun n=>⟨x1,y1,m1,m2⟩
      clear hrd hrdd m1 m2 hw0
      go_wp2
      clear xr1
      go_loopw [4] (fun kv wi=>∃ k:Nat,kv = .int .i64 k∧k≤rn∧Hid (∃ n,wi = w.drewN n)) (fun kv _=>rn - (intOf kv).toNat)
      case atStart=>exact ⟨0,rfl,Nat.zero_le _,HW.out⟩
      case round =>
        rename World=>wi
        obtain ⟨k,rfl,hk,HI⟩:=hrel
        obtain ⟨ni,hwi⟩:=id HI.out
        obtain ⟨z1,z2,z3,z4⟩:=HY.out ni
        rw [← hwi] at z1 z2 z3 z4
        by_cases hkn:k < rn
        · obtain ⟨g,rfl,hq⟩:=HRD.out k hkn
          have z5:wi.cell? ⟨g,k,none⟩ = some (.int .i64 rm):=by rw [hwi]; exact hq
          have hW:Hid (∀ j,∃ n,wi.drewN j = w.drewN n):=fun j=>⟨ni + j,by rw [hwi]; simp⟩
          clear hq hwi
          go_wp2
          go_quiet (fail)
          go_wp2
          exact ⟨⟨k + 1,by go_num,by omega,hW.out _⟩,by simp [intOf]; omega⟩
        · clear hwi
          go_wp2
          exact ⟨⟨i + 1,by go_num,by omega,HI.out⟩,by simp [intOf]; omega⟩
    · obtain rfl:i = r1.length:=by omega
      clear hlt hi hw0
      go_wp2
      clear xr1
      go_loopw [5,6] (fun iv _ wr=>∃ i:Nat,iv = .int .i64 i∧i≤r2.length∧Hid (∃ n,wr = w.drewN n)) (fun iv _ _=>r2.length - (intOf iv).toNat)
      case atStart=>exact ⟨0,rfl,Nat.zero_le _,HW.out⟩
      case round =>
        clear HW
        rename World=>wr
        obtain ⟨i,rfl,hi,HW⟩:=hrel
        obtain ⟨n0,hw0⟩:=id HW.out
        have xr2:wr.cell? ⟨bp,10,none⟩ = some (.slice a2 r2.length c2):=by rw [hw0]; exact x2
        by_cases hlt:i < r2.length
        · obtain ⟨gv,cv,gu,cu,ev,eu,m1,m2⟩:=H2.out.at hlt
          have hrd:=Q2.out _ (List.getElem_mem hlt)
          rw [E2.out] at ev
          simp only [Value.slice.injEq] at ev
          obtain ⟨rfl,_,rfl⟩:=ev
          subst eu
          generalize r2[i] = r at *
          obtain ⟨ra,rn,rc,rm⟩:=r
          have hfw:=hrd.few
          have hrdd:=hrd.rd
          unfold Rc.val at m1
          simp only at m1 m2 hfw hrdd
          have HRD:=hide hrdd
          have HY:Hid (∀ n,(w.drewN n).cell? ⟨bp,10,none⟩ = some (.slice (some ⟨gv,0,none⟩) r2.length c2)∧(w.drewN n).cell? ⟨bp,11,none⟩ = some (.slice (some ⟨gu,0,none⟩) r2.length cu)∧(w.drewN n).cell? ⟨gv,i,none⟩ = some (.slice ra rn rc)∧(w.drewN n).cell? ⟨gu,i,none⟩ = some (.int .i64 rm)):=fun n=>⟨x2,y2,m1,m2⟩
          clear hrd hrdd m1 m2 hw0
          go_wp2
          clear xr2
          go_loopw [6] (fun kv wi=>∃ k:Nat,kv = .int .i64 k∧k≤rn∧Hid (∃ n,wi = w.drewN n)) (fun kv _=>rn - (intOf kv).toNat)
          case atStart=>exact ⟨0,rfl,Nat.zero_le _,HW.out⟩
          case round =>
            rename World=>wi
            obtain ⟨k,rfl,hk,HI⟩:=hrel
            obtain ⟨ni,hwi⟩:=id HI.out
            obtain ⟨z1,z2,z3,z4⟩:=HY.out ni
            rw [← hwi] at z1 z2 z3 z4
            by_cases hkn:k < rn
            · obtain ⟨g,rfl,hq⟩:=HRD.out k hkn
              have z5:wi.cell? ⟨g,k * 2,none⟩ = some (.int .i64 rm):=by rw [hwi]; exact hq.1
              have z6:wi.cell? ⟨g,k * 2 + 1,none⟩ = some (.int .i64 (wrap64 (-rm))):=by rw [hwi]; exact hq.2
              have hW:Hid (∀ j,∃ n,wi.drewN j = w.drewN n):=fun j=>⟨ni + j,by rw [hwi]; simp⟩
              clear hq hwi
              go_wp2
              go_quiet (fail)
              go_wp2
              exact ⟨⟨k + 1,by go_num,by omega,hW.out _⟩,by simp [intOf]; omega⟩
            · clear hwi
              go_wp2
              exact ⟨⟨i + 1,by go_num,by omega,HI.out⟩,by simp [intOf]; omega⟩
        · obtain rfl:i = r2.length:=by omega
          clear hlt hi hw0
          go_wp2
          clear xr2
          go_loopw [7,8] (fun iv _ wr=>∃ i:Nat,iv = .int .i64 i∧i≤r3.length∧Hid (∃ n,wr = w.drewN n)) (fun iv _ _=>r3.length - (intOf iv).toNat)
          case atStart=>exact ⟨0,rfl,Nat.zero_le _,HW.out⟩
          case round =>
            clear HW
            rename World=>wr
            obtain ⟨i,rfl,hi,HW⟩:=hrel
            obtain ⟨n0,hw0⟩:=id HW.out
            have xr3:wr.cell? ⟨bp,12,none⟩ = some (.slice a3 r3.length c3):=by rw [hw0]; exact x3
            by_cases hlt:i < r3.length
            · obtain ⟨gv,cv,gu,cu,ev,eu,m1,m2⟩:=H3.out.at hlt
              have hrd:=Q3.out _ (List.getElem_mem hlt)
              rw [E3.out] at ev
              simp only [Value.slice.injEq] at ev
              obtain ⟨rfl,_,rfl⟩:=ev
              subst eu
              generalize r3[i] = r at *
              obtain ⟨ra,rn,rc,rm⟩:=r
              have hfw:=hrd.few
              have hrdd:=hrd.rd
              unfold Rc.val at m1
              simp only at m1 m2 hfw hrdd
              have HRD:=hide hrdd
              have HY:Hid (∀ n,(w.drewN n).cell? ⟨bp,12,none⟩ = some (.slice (some ⟨gv,0,none⟩) r3.length c3)∧(w.drewN n).cell? ⟨bp,13,none⟩ = some (.slice (some ⟨gu,0,none⟩) r3.length cu)∧(w.drewN n).cell? ⟨gv,i,none⟩ = some (.slice ra rn rc)∧(w.drewN n).cell? ⟨gu,i,none⟩ = some (.int .i64 rm)):=fun n=>⟨x3,y3,m1,m2⟩
              clear hrd hrdd m1 m2 hw0
              go_wp2
              clear xr3
              go_loopw [8] (fun kv wi=>∃ k:Nat,kv = .int .i64 k∧k≤rn∧Hid (∃ n,wi = w.drewN n)) (fun kv _=>rn - (intOf kv).toNat)
              case atStart=>exact ⟨0,rfl,Nat.zero_le _,HW.out⟩
              case round =>
                rename World=>wi
                obtain ⟨k,rfl,hk,HI⟩:=hrel
                obtain ⟨ni,hwi⟩:=id HI.out
                obtain ⟨z1,z2,z3,z4⟩:=HY.out ni
                rw [← hwi] at z1 z2 z3 z4
                by_cases hkn:k < rn
                · obtain ⟨g,rfl,hq⟩:=HRD.out k hkn
                  have z5:wi.cell? ⟨g,k * 3,none⟩ = some (.int .i64 rm):=by rw [hwi]; exact hq.1
                  have z6:wi.cell? ⟨g,k * 3 + 1,none⟩ = some (.int .i64 (wrap64 (-rm))):=by rw [hwi]; exact hq.2.1
                  have z7:wi.cell? ⟨g,k * 3 + 2,none⟩ = some (.slice none 0 0):=by rw [hwi]; exact hq.2.2
                  have hW:Hid (∀ j,∃ n,wi.drewN j = w.drewN n):=fun j=>⟨ni + j,by rw [hwi]; simp⟩
                  clear hq hwi
                  go_wp2
                  go_quiet (fail)
                  go_wp2
                  exact ⟨⟨k + 1,by go_num,by omega,hW.out _⟩,by simp [intOf]; omega⟩
                · clear hwi
                  go_wp2
                  exact ⟨⟨i + 1,by go_num,by omega,HI.out⟩,by simp [intOf]; omega⟩
            · obtain rfl:i = r3.length:=by omega
              clear hlt hi hw0
              go_wp2
              clear xr3
              go_loopw [9,10] (fun iv _ wr=>∃ i:Nat,iv = .int .i64 i∧i≤r4.length∧Hid (∃ n,wr = w.drewN n)) (fun iv _ _=>r4.length - (intOf iv).toNat)
              case atStart=>exact ⟨0,rfl,Nat.zero_le _,HW.out⟩
              case round =>
                clear HW
                rename World=>wr
                obtain ⟨i,rfl,hi,HW⟩:=hrel
                obtain ⟨n0,hw0⟩:=id HW.out
                have xr4:wr.cell? ⟨bp,14,none⟩ = some (.slice a4 r4.length c4):=by rw [hw0]; exact x4
                by_cases hlt:i < r4.length
                · obtain ⟨gv,cv,gu,cu,ev,eu,m1,m2⟩:=H4.out.at hlt
                  have hrd:=Q4.out _ (List.getElem_mem hlt)
                  rw [E4.out] at ev
                  simp only [Value.slice.injEq] at ev
                  obtain ⟨rfl,_,rfl⟩:=ev
                  subst eu
                  generalize r4[i] = r at *
                  obtain ⟨ra,rn,rc,rm⟩:=r
                  have hfw:=hrd.few
                  have hrdd:=hrd.rd
                  unfold Rc.val at m1
                  simp only at m1 m2 hfw hrdd
                  have HRD:=hide hrdd
                  have HY:Hid (∀ n,(w.drewN n).cell? ⟨bp,14,none⟩ = some (.slice (some ⟨gv,0,none⟩) r4.length c4)∧(w.drewN n).cell? ⟨bp,15,none⟩ = some (.slice (some ⟨gu,0,none⟩) r4.length cu)∧(w.drewN n).cell? ⟨gv,i,none⟩ = some (.slice ra rn rc)∧(w.drewN n).cell? ⟨gu,i,none⟩ = some (.int .i64 rm)):=fun n=>⟨x4,y4,m1,m2⟩
                  clear hrd hrdd m1 m2 hw0
                  go_wp2
                  clear xr4
                  go_loopw [10] (fun kv wi=>∃ k:Nat,kv = .int .i64 k∧k≤rn∧Hid (∃ n,wi = w.drewN n)) (fun kv _=>rn - (intOf kv).toNat)
                  case atStart=>exact ⟨0,rfl,Nat.zero_le _,HW.out⟩
                  case round =>
                    rename World=>wi
                    obtain ⟨k,rfl,hk,HI⟩:=hrel
                    obtain ⟨ni,hwi⟩:=id HI.out
                    obtain ⟨z1,z2,z3,z4⟩:=HY.out ni
                    rw [← hwi] at z1 z2 z3 z4
                    by_cases hkn:k < rn
                    · obtain ⟨g,rfl,hq⟩:=HRD.out k hkn
                      obtain ⟨b,hq1,hq2⟩:=hq
                      have z5:wi.cell? ⟨g,k,none⟩ = some (.slice (some ⟨b,0,none⟩) 1 1):=by rw [hwi]; exact hq1
                      have z6:wi.cell? ⟨b,0,none⟩ = some (.int .i64 rm):=by rw [hwi]; exact hq2
                      have hW:Hid (∀ j,∃ n,wi.drewN j = w.drewN n):=fun j=>⟨ni + j,by rw [hwi]; simp⟩
                      clear hq1 hq2 hwi
                      go_wp2
                      go_quiet (fail)
                      go_wp2
                      exact ⟨⟨k + 1,by go_num,by omega,hW.out _⟩,by simp [intOf]; omega⟩
                    · clear hwi
                      go_wp2
                      exact ⟨⟨i + 1,by go_num,by omega,HI.out⟩,by simp [intOf]; omega⟩
                · obtain rfl:i = r4.length:=by omega
                  clear hlt hi hw0
                  go_wp2
                  go_ret
                  obtain ⟨n9,rfl⟩:=HW.out
                  exact ⟨rfl,below_drewN (Below.refl _ _) _⟩
end
section
open Go.RowKit Go.Maps

section
variable {P:Program} {w:World}
theorem append_old (t ty:TypeId) (base:Nat) (e:TypeId) (i:TypeInfo) (z:Value) (size bytes:Nat) (ht:P.underlying t = some (.slice e)) (hi:P.info? e = some i) (hz:i.zero = some z)
    (hsize:i.size = size) (hby:i.bytes = bytes)
    (v:Value) (n:Nat) (xs:List Value) (hown:w.ownsRow base e size v n xs)
    (ad:Addr) (m c:Nat) (news:List Value) (hl:news.length = m * size) (hnews:∀ j u,news[j]? = some u→w.cell? (ad.add j) = some u) (h1:∀ u ∈ news,u.oneCell' = true)
    (h63:n + m≤maxLen) (hbytes:(n + m) * bytes≤140737488355328) {v':Value} {w':World} (hr:(Builtin.append_ #[t,t] ty #[v,.slice (some ad) m c]).run P w = .ok v' w') (hv':∀ g,v'.ownBlock = some g→∀ j u,(xs ++ news)[j]? = some u→w'.cell? ⟨g,j,none⟩ = some u) :
    ∀ b,v.ownBlock = some b→∀ j u,xs[j]? = some u→w'.cell? ⟨b,j,none⟩ = some u:=by
  subst hsize
  subst hby
  intro b hb j u hu
  have hj:j < xs.length:=(List.getElem?_eq_some_iff.1 hu).1
  rcases hown.2 with ⟨rfl,_⟩ | ⟨g,cap,cur,rfl,hbg,hg,hnc,hcm,hcs,htake⟩
  · cases hb
  obtain rfl:g = b:=by simpa [Value.ownBlock] using hb
  have hcell:w.cell? ⟨g,j,none⟩ = some u:=ownsRow_cell hown hu
  by_cases hroom:n + m≤cap
  · have hfit:n * i.size + news.length≤cur.size:=by rw [hl,hcs,← Nat.add_mul]; exact Nat.mul_le_mul_right _ hroom
    have hr2:=run_append_room (P:=P) w t ty e i ht hi g n cap cur hg ad m c news hl hnews h1 hroom hfit
    rw [hr] at hr2
    injection hr2 with e1 e2
    refine hv' g (by rw [e1]; rfl) j u ?_
    rw [List.getElem?_append_left hj]
    exact hu
  · have hsm:n + m≤9223372036854775807:=by simp only [maxLen] at h63; omega
    have hr2:=run_append_grow (P:=P) w t ty e i z ht hi hz ⟨g,0,none⟩ n cap xs hown.1 (hown.cells (g:=g) rfl) ad m c news hl hnews (by omega) (by omega) (growslice_fits (by omega) hbytes)
    rw [hr] at hr2
    injection hr2 with e1 e2
    rw [e2,World.cell?_alloc_lt _ _ _ (by exact block_lt_of_cell hcell)]
    exact hcell
theorem wpList_append_keeps {ops:Array Oper} {rest:List Oper} {o:Oper} {a:Act} {Q:Exit→Act→World→Prop} (hgd:o.guard = none) (s x:Operand) (t:TypeId)
    (ho:o.op = .call { callee:=.builtin .append,args:=#[s,x],argTypes:=#[t,t] })
    (base:Nat) (e:TypeId) (i:TypeInfo) (z:Value) (size bytes:Nat) (ht:P.underlying t = some (.slice e)) (hi:P.info? e = some i) (hz:i.zero = some z)
    (hsize:i.size = size) (hby:i.bytes = bytes) (hzs:z.cells.size = size) (hsz:0 < size)
    (v:Value) (n:Nat) (xs:List Value) (hs:a.eval s = v) (hown:w.ownsRow base e size v n xs)
    (ad:Addr) (m c:Nat) (news:List Value) (hx:a.eval x = .slice (some ad) m c) (hl:news.length = m * size) (hnews:∀ j u,news[j]? = some u→w.cell? (ad.add j) = some u) (h1:∀ u ∈ news,u.oneCell' = true)
    (hm:0 < m) (h63:n + m≤maxLen) (hbytes:(n + m) * bytes≤140737488355328) (hbase:base≤w.heap.size) (H:Nat) (hH:w.heap.size = H)
    (h:∀ g cap w',w'.ownsRow base e size (.slice (some ⟨g,0,none⟩) (n + m) cap) (n + m) (xs ++ news)→w.grownBy w' v.ownBlock→(v.ownBlock = some g ∨ g = H)→g < w'.heap.size→(∀ b,v.ownBlock = some b→∀ j u,xs[j]? = some u→w'.cell? ⟨b,j,none⟩ = some u)→wpList P ops Q rest (a.put o.dst (.slice (some ⟨g,0,none⟩) (n + m) cap)) w'):wpList P ops Q (o :: rest) a w:=by
  refine wpList_plain hgd fun K hK=>?_
  obtain ⟨g,cap,w',hr,h2,h3,h4,h5⟩:=run_append_lies (P:=P) w t o.type base e i z size bytes ht hi hz hsize hby hzs hsz v n xs hown ad m c news hl hnews h1 hm h63 hbytes hbase H hH
  have hk:=append_old t o.type base e i z size bytes ht hi hz hsize hby v n xs hown ad m c news hl hnews h1 h63 hbytes hr (fun g' hg' j u hu=>by
    obtain rfl:g = g':=by simpa [Value.ownBlock] using hg'
    exact ownsRow_cell h2 hu)
  unfold Oper.wp execOp
  simp only [ho,resolve,invoke,builtin,Sem.run_bind,Sem.run_pure,Result.andThen_ok,List.map_toArray,List.map_cons,List.map_nil,hs,hx,hr]
  exact hK _ _ (h g cap w' h2 h3 h4 h5 hk)
end
end
section
open Go.RowKit Go.Maps

structure InC (w:World) (bp:Nat) (lv:Value) (nl:Nat) (ys:List Value) (nsv nmv:Value) (nn:Nat) (x0 m0:List Value) (mm:Int) (rs rt:List Rc):Prop where
  row:w.ownsRow 0 3 1 lv nl ys
  ns:w.ownsRow 0 32 1 nsv (nn + rs.length) (x0 ++ rs.map Rc.val)
  nm:w.ownsRow 0 3 1 nmv (nn + rt.length) (m0 ++ rt.map Rc.mrk)
  rd:∀ r ∈ rs,r.m = mm∧Reads w QI r∧r.n≤nl∧∀ g,r.val.ownBlock = some g→g < w.heap.size∧g ≠ bp∧nsv.ownBlock ≠ some g∧nmv.ownBlock ≠ some g
theorem Reads.blocks {w w':World} {Q:World→Nat→Nat→Int→Prop} {r:Rc} (h:Reads w Q r) (hq:∀ g k,r.val.ownBlock = some g→k < r.n→Q w g k r.m→Q w' g k r.m):Reads w' Q r :=
  ⟨h.few,fun k hk=>by
    obtain ⟨g,e,hQ⟩:=h.rd k hk
    exact ⟨g,e,hq g k (by unfold Rc.val; rw [e]; rfl) hk hQ⟩⟩
section
variable {w0 w w1:World} {bp:Nat} {lv0 nsv0 nmv0 lv nsv nmv v2:Value} {nl ns nm nn:Nat} {ys x0 m0:List Value} {mm:Int} {rs rt:List Rc}
theorem InC.rds (h:InC w bp lv nl ys nsv nmv nn x0 m0 mm rs rt) (hz:w.heap.size≤w1.heap.size) (hr:∀ r ∈ rs,∀ g k,r.val.ownBlock = some g→k < r.n→QI w g k r.m→QI w1 g k r.m) {nl':Nat} {nsv' nmv':Value} (hn:nl≤nl') (hs:∀ g,nsv'.ownBlock = some g→nsv.ownBlock = some g ∨ w.heap.size≤g) (hm:∀ g,nmv'.ownBlock = some g→nmv.ownBlock = some g ∨ w.heap.size≤g) :
    ∀ r ∈ rs,r.m = mm∧Reads w1 QI r∧r.n≤nl'∧∀ g,r.val.ownBlock = some g→g < w1.heap.size∧g ≠ bp∧nsv'.ownBlock ≠ some g∧nmv'.ownBlock ≠ some g:=fun r hm2=>by
  obtain ⟨h1,h2,h3,h4⟩:=h.rd r hm2
  refine ⟨h1,h2.blocks (hr r hm2),by omega,fun g hg=>?_⟩
  obtain ⟨q1,q2,q3,q4⟩:=h4 g hg
  exact ⟨by omega,q2,fun e=>(hs g e).elim q3 (fun e=>by omega),fun e=>(hm g e).elim q4 (fun e=>by omega)⟩
theorem QI.same {g k:Nat} {m:Int} (h:QI w g k m) (hb:w1.heap[g]? = w.heap[g]?):QI w1 g k m:=by
  unfold QI at h ⊢
  rw [World.cell?_of_block hb]
  exact h
theorem InC.other (h:InC w bp lv nl ys nsv nmv nn x0 m0 mm rs rt) (hz:w.heap.size≤w1.heap.size) (hl:∀ g,lv.ownBlock = some g→w1.heap[g]? = w.heap[g]?) (hs:∀ g,nsv.ownBlock = some g→w1.heap[g]? = w.heap[g]?) (hm:∀ g,nmv.ownBlock = some g→w1.heap[g]? = w.heap[g]?) (hr:∀ r ∈ rs,∀ g,r.val.ownBlock = some g→w1.heap[g]? = w.heap[g]?):InC w1 bp lv nl ys nsv nmv nn x0 m0 mm rs rt :=
  ⟨ownsRow_of_block h.row hl,ownsRow_of_block h.ns hs,ownsRow_of_block h.nm hm,h.rds hz (fun r hr2 g _k hg _ hq=>hq.same (hr r hr2 g hg)) (Nat.le_refl _) (fun _ e=>.inl e) (fun _ e=>.inl e)⟩
theorem InC.below (h:InC w bp lv nl ys nsv nmv nn x0 m0 mm rs rt) (hb:Below w.heap.size w w1):InC w1 bp lv nl ys nsv nmv nn x0 m0 mm rs rt :=
  h.other hb.size (fun g e=>hb.block g (h.row.lt g e).2) (fun g e=>hb.block g (h.ns.lt g e).2) (fun g e=>hb.block g (h.nm.lt g e).2) (fun r hr g e=>hb.block g ((h.rd r hr).2.2.2 g e).1)
theorem InC.field (h:InC w bp lv nl ys nsv nmv nn x0 m0 mm rs rt) (ht:∃ cs,w.heap[bp]? = some (.cells cs 41 (0,0))) (k:Nat) (u:Value):InC (w.setCell ⟨bp,k,none⟩ u) bp lv nl ys nsv nmv nn x0 m0 mm rs rt:=by
  obtain ⟨cs,hc⟩:=ht
  have ne:∀ {g:Nat} {c:Array Value} {e:TypeId},w.heap[g]? = some (.cells c e (0,0))→e ≠ 41→(w.setCell ⟨bp,k,none⟩ u).heap[g]? = w.heap[g]?:=fun hg he=>Below.heap_setCell _ _ _ _ (ne_of_elem hg hc he)
  refine h.other (by simp) (fun g e=>?_) (fun g e=>?_) (fun g e=>?_) (fun r hr g e=>Below.heap_setCell _ _ _ _ ((h.rd r hr).2.2.2 g e).2.1)
  · obtain ⟨c,hg⟩:=ownsRow_obj h.row e; exact ne hg (by decide)
  · obtain ⟨c,hg⟩:=ownsRow_obj h.ns e; exact ne hg (by decide)
  · obtain ⟨c,hg⟩:=ownsRow_obj h.nm e; exact ne hg (by decide)
theorem InC.drewN (h:InC w bp lv nl ys nsv nmv nn x0 m0 mm rs rt) (n:Nat):InC (w.drewN n) bp lv nl ys nsv nmv nn x0 m0 mm rs rt:=h.below (below_drewN (Below.refl _ _) n)
theorem InC.setL {g n c:Nat} (h:InC w bp (.slice (some ⟨g,0,none⟩) n c) n ys nsv nmv nn x0 m0 mm [] []) (ha:nmv.ownBlock ≠ some g) (j:Nat) (u:Value):InC (w.setCell ⟨g,j,none⟩ u) bp (.slice (some ⟨g,0,none⟩) n c) n (ys.set j u) nsv nmv nn x0 m0 mm [] []:=by
  obtain ⟨cl,hcl⟩:=ownsRow_obj h.row (g:=g) rfl
  refine ⟨ownsRow_set h.row j u,ownsRow_of_block h.ns fun g' e=>Below.heap_setCell _ _ _ _ ?_,ownsRow_of_block h.nm fun g' e=>Below.heap_setCell _ _ _ _ ?_,fun r hr=>absurd hr List.not_mem_nil⟩
  · obtain ⟨c2,h2⟩:=ownsRow_obj h.ns e
    exact ne_of_elem h2 hcl (by decide)
  · rintro rfl
    exact ha e
theorem InC.stepN {a:Option Addr} {c:Nat} (h:InC w bp (.slice a nl c) nl (List.replicate nl (.int .i64 mm)) nsv nmv nn x0 m0 mm rs rt) (ht:∃ cs,w.heap[bp]? = some (.cells cs 41 (0,0))) (ha:∀ g,(Value.slice a nl c).ownBlock = some g→nmv.ownBlock ≠ some g) (hf:nl≤17592186044416)
    (ho:w1.ownsRow 0 32 1 v2 (nn + rs.length + 1) ((x0 ++ rs.map Rc.val) ++ [.slice a nl c])) (hg:w.grownBy w1 nsv.ownBlock) (hl:v2.ownBlock = nsv.ownBlock ∨ v2.ownBlock = some w.heap.size) :
    InC w1 bp (.slice a nl c) nl (List.replicate nl (.int .i64 mm)) v2 nmv nn x0 m0 mm (rs ++ [⟨a,nl,c,mm⟩]) rt:=by
  obtain ⟨cs,hc⟩:=ht
  have hs:∀ g,v2.ownBlock = some g→nsv.ownBlock = some g ∨ w.heap.size≤g:=fun g e=>by
    rcases hl with e2 | e2
    · exact .inl (e2 ▸ e)
    · rw [e] at e2; have:=Option.some.inj e2; exact .inr (by omega)
  have hrow:w1.ownsRow 0 3 1 (.slice a nl c) nl (List.replicate nl (.int .i64 mm)):=row_g h.row hg (fun g e e2=>ty_ne h.row h.ns (by decide) g e e2)
  refine ⟨hrow,?_,row_g h.nm hg (fun g e e2=>ty_ne h.nm h.ns (by decide) g e e2),fun r hr=>?_⟩
  · rw [List.map_append,List.length_append,← List.append_assoc]
    exact ho
  · rcases List.mem_append.1 hr with hr | hr
    · exact h.rds hg.size (fun r hr2 g k hg2 _ hq=>hq.same (hg.block g ((h.rd r hr2).2.2.2 g hg2).1 (fun e=>((h.rd r hr2).2.2.2 g hg2).2.2.1 e.symm))) (Nat.le_refl _) hs (fun _ e=>.inl e) r hr
    · obtain rfl:=List.mem_singleton.1 hr
      refine ⟨rfl,⟨hf,fun k hk=>?_⟩,Nat.le_refl _,fun g hg2=>?_⟩
      · simp only at hk
        rcases h.row.2 with ⟨_,h0⟩ | ⟨g,cp,cur,e,_⟩
        · omega
        · simp only [Value.slice.injEq] at e
          obtain ⟨rfl,_,rfl⟩:=e
          exact ⟨g,rfl,ownsRow_cell hrow (by rw [List.getElem?_replicate,if_pos hk])⟩
      · have hg3:(Value.slice a nl c).ownBlock = some g:=hg2
        have hlt:=(h.row.lt g hg3).2
        obtain ⟨c2,hc2⟩:=ownsRow_obj h.row hg3
        refine ⟨Nat.lt_of_lt_of_le hlt hg.size,ne_of_elem hc2 hc (by decide),fun e=>?_,ha g hg3⟩
        rcases hs g e with e2 | e2
        · exact ty_ne h.row h.ns (by decide) g hg3 e2
        · omega
theorem InC.stepM {r:Rc} (h:InC w bp lv nl ys nsv nmv nn x0 m0 mm rs rt) (ha:∀ g,lv.ownBlock = some g→nmv.ownBlock ≠ some g)
    (ho:w1.ownsRow 0 3 1 v2 (nn + rt.length + 1) ((m0 ++ rt.map Rc.mrk) ++ [r.mrk])) (hg:w.grownBy w1 nmv.ownBlock) (hl:v2.ownBlock = nmv.ownBlock ∨ v2.ownBlock = some w.heap.size) :
    InC w1 bp lv nl ys nsv v2 nn x0 m0 mm rs (rt ++ [r]):=by
  have hs:∀ g,v2.ownBlock = some g→nmv.ownBlock = some g ∨ w.heap.size≤g:=fun g e=>by
    rcases hl with e2 | e2
    · exact .inl (e2 ▸ e)
    · rw [e] at e2; have:=Option.some.inj e2; exact .inr (by omega)
  refine ⟨row_g h.row hg (fun g e e2=>ha g e e2),row_g h.ns hg (fun g e e2=>ty_ne h.ns h.nm (by decide) g e e2),?_,h.rds hg.size (fun r hr2 g k hg2 _ hq=>hq.same (hg.block g ((h.rd r hr2).2.2.2 g hg2).1 (fun e=>((h.rd r hr2).2.2.2 g hg2).2.2.2 e.symm))) (Nat.le_refl _) (fun _ e=>.inl e) hs⟩
  rw [List.map_append,List.length_append,← List.append_assoc]
  exact ho
theorem InC.stepL (h:InC w bp lv nl (List.replicate nl (.int .i64 mm)) nsv nmv nn x0 m0 mm rs rt) (ha:∀ g,lv.ownBlock = some g→nmv.ownBlock ≠ some g)
    (ho:w1.ownsRow 0 3 1 v2 (nl + 1) (List.replicate nl (.int .i64 mm) ++ [.int .i64 mm])) (hg:w.grownBy w1 lv.ownBlock) (hk:∀ b,lv.ownBlock = some b→∀ j u,(List.replicate nl (Value.int .i64 mm))[j]? = some u→w1.cell? ⟨b,j,none⟩ = some u) :
    InC w1 bp v2 (nl + 1) (List.replicate (nl + 1) (.int .i64 mm)) nsv nmv nn x0 m0 mm rs rt:=by
  refine ⟨?_,row_g h.ns hg (fun g e e2=>ty_ne h.ns h.row (by decide) g e e2),row_g h.nm hg (fun g e e2=>ha g e2 e),h.rds hg.size (fun r hr2 g k hg2 hk2 hq=>?_) (Nat.le_succ _) (fun _ e=>.inl e) (fun _ e=>.inl e)⟩
  · rw [List.replicate_succ']
    exact ho
  · obtain ⟨q1,_,q3,q4⟩:=h.rd r hr2
    by_cases hb:lv.ownBlock = some g
    · unfold QI
      rw [q1]
      exact hk g hb k _ (by rw [List.getElem?_replicate,if_pos (by omega)])
    · exact hq.same (hg.block g (q4 g hg2).1 (fun e=>hb e.symm))
end
end
section
open Go.RowKit Go.Maps

theorem typ_alloc {w:World} {bp:Nat} (h:∃ cs,w.heap[bp]? = some (.cells cs 41 (0,0))) (o:Obj):∃ cs,(w.alloc o).heap[bp]? = some (.cells cs 41 (0,0)):=by
  obtain ⟨cs,hc⟩:=h
  exact ⟨cs,(Below.heap_alloc _ _ _ (heap_lt hc)).trans hc⟩
theorem set_run {ys:List Value} {k:Nat} {u:Value} (h:∀ j,j < k→ys[j]? = some u) (hk:k < ys.length):∀ j,j < k + 1→(ys.set k u)[j]? = some u:=fun j hj=>by
  rcases Nat.lt_or_ge j k with h1 | h1
  · rw [List.getElem?_set_ne (by omega)]; exact h j h1
  · obtain rfl:j = k:=by omega
    rw [List.getElem?_set_self hk]
theorem all_same {ys:List Value} {u:Value} {n:Nat} (hl:ys.length = n) (h:∀ j,j < n→ys[j]? = some u):ys = List.replicate n u:=by
  refine List.ext_getElem? fun j=>?_
  rw [List.getElem?_replicate]
  rcases Nat.lt_or_ge j n with h1 | h1
  · rw [if_pos h1]; exact h j h1
  · rw [if_neg (by omega),List.getElem?_eq_none (by omega)]

set_option maxHeartbeats 2000000 in
set_option maxRecDepth 10000 in
theorem ints70_all (bp:Nat) (a:Option Addr) (n c:Nat) (nsv nmv:Value) (nn:Nat) (x0 m0:List Value) (w:World) (h:InS w bp (.slice a n c) nsv nmv w (.slice a n c) n nsv nn nmv nn) (hx:w.ownsRow 0 32 1 nsv nn x0) (hm:w.ownsRow 0 3 1 nmv nn m0) (hn:(n + 4) * 8≤140737488355328) (hnn:(nn + 4) * 24≤140737488355328) :
    Calls Tryz.prog 70 #[.pointer (some ⟨bp,6,none⟩),.slice a n c] w fun ev w'=>ev = .returned (.tuple #[])∧∃ lv' nsv' nmv' mm rs,InS w bp (.slice a n c) nsv nmv w' lv' (n + 4) nsv' (nn + 4) nmv' (nn + 4)∧rs.length = 4∧InC w' bp lv' (n + 4) (List.replicate (n + 4) (.int .i64 mm)) nsv' nmv' nn x0 m0 mm rs rs ∧
      ∀ r ∈ rs,∀ g,r.val.ownBlock = some g→(Value.slice a n c).ownBlock = some g ∨ w.heap.size≤g:=by
  have hn2:n≤17592186044412:=by omega
  have B1:=hide (bd1 nn hnn)
  have B2:=hide (bd2 nn hnn)
  have B3:=hide (bd3 n hn)
  have M1:=hide (md1 nn hnn)
  have M3:=hide (md3 n hn)
  clear hn hnn
  obtain ⟨i3,hi3,hz30,hz31,hz32⟩:=info_parts info3
  obtain ⟨i32,hi32,hz320,hz321,hz322⟩:=info_parts info32
  obtain ⟨b6,h6⟩:=h.c6
  obtain ⟨b7,h7⟩:=h.c7
  have h7f:=h.frozen 7
  obtain ⟨y0,hy0⟩:=h.hl
  have HC0:Hid (∀ mm,InC w bp (.slice a n c) n y0 nsv nmv nn x0 m0 mm [] []):=fun mm=>⟨hy0,by simpa using hx,by simpa using hm,fun r hr=>absurd hr List.not_mem_nil⟩
  have HY0:Hid (y0.length = n):=by have:=hy0.1; show _ = _; omega
  have H:=hide h
  clear h hx hm hy0
  go_enter Tryz.func70,Tryz.ntmps70
  go_wp2_with fail
  refine (mark58_any bp b6 b7 _ h6 h7 h7f).mono ?_
  rintro ev w1 ⟨m,nx,nq,rfl,rfl⟩
  have H1:=hide (H.out.mark nx nq)
  have HC1:=hide (((HC0.out (wrap64 (-m))).field H.out.typ 7 (.int .i64 nx)).drewN nq)
  generalize (w.setCell ⟨bp,7,none⟩ (.int .i64 nx)).drewN nq = w1 at *
  clear h6 h7 h7f HC0
  generalize hmm:wrap64 (-m) = mm at *
  go_wp2
  go_loopw [5] (fun i wr=>∃ (k:Nat) (ys:List Value),k≤n∧i = .int .i64 k∧Hid (InS w bp (.slice a n c) nsv nmv wr (.slice a n c) n nsv nn nmv nn)∧Hid (InC wr bp (.slice a n c) n ys nsv nmv nn x0 m0 mm [] [])∧Hid (ys.length = n∧∀ j,j < k→ys[j]? = some (.int .i64 mm))) (fun i _=>n - (intOf i).toNat)
  case atStart=>exact ⟨0,y0,Nat.zero_le _,rfl,H1.out,HC1.out,HY0.out,fun j hj=>absurd hj (Nat.not_lt_zero _)⟩
  case round =>
    obtain ⟨k,ys,hk,rfl,hr,HC,HY⟩:=hrel
    by_cases hlt:k < n
    · have hxs:=HC.out.row
      rcases hxs.2 with ⟨_,h0⟩ | ⟨g,cap,cur,hv,_⟩
      · omega
      simp only [Value.slice.injEq] at hv
      obtain ⟨rfl,_,rfl⟩:=hv
      have hxl:ys.length = n:=HY.out.1
      have hcx:wr.cell? ⟨g,k,none⟩ = some ys[k]:=ownsRow_cell hxs (List.getElem?_eq_getElem (by omega))
      have hfx:=ownsRow_frozen hxs k
      have hap:nmv.ownBlock ≠ some g:=hr.out.apart g rfl
      have HST:=hide (set_run HY.out.2 (show k < ys.length by omega))
      generalize ys[k] = x at hcx
      clear hxs hxl
      go_wp2
      exact ⟨⟨k + 1,ys.set k (.int .i64 mm),by omega,by go_num,hr.out.setL k _,HC.out.setL hap k _,by rw [List.length_set]; exact HY.out.1,HST.out⟩,by simp [intOf]; omega⟩
    · obtain rfl:k = n:=by omega
      have hys:=all_same HY.out.1 HY.out.2
      subst hys
      have H2:=hr
      have HC2:=HC
      clear hr HC HY H1 HC1
      go_wp2
      go_loopw [1,6] (fun l i wr=>∃ (rs:List Rc) (al:Option Addr) (cl:Nat) (nsv' nmv':Value),rs.length≤4∧i = .int .i64 rs.length∧l = .slice al (k + rs.length) cl∧Hid (InS w bp (.slice a k c) nsv nmv wr (.slice al (k + rs.length) cl) (k + rs.length) nsv' (nn + rs.length) nmv' (nn + rs.length))∧Hid (InC wr bp (.slice al (k + rs.length) cl) (k + rs.length) (List.replicate (k + rs.length) (.int .i64 mm)) nsv' nmv' nn x0 m0 mm rs rs)∧Hid (∀ r ∈ rs,∀ g,r.val.ownBlock = some g→(Value.slice a k c).ownBlock = some g ∨ w.heap.size≤g)) (fun _ i _=>4 - (intOf i).toNat)
      case atStart=>exact ⟨[],a,c,nsv,nmv,Nat.zero_le _,rfl,rfl,H2.out,HC2.out,fun r hr=>absurd hr List.not_mem_nil⟩
      case round =>
        clear H2 HC2
        obtain ⟨rs,al,cl,nsv',nmv',hq,rfl,rfl,hr,HC,HB⟩:=hrel
        by_cases hlt:rs.length < 4
        · have hd:decide ((rs.length:Int) < 4) = true:=decide_eq_true (by omega)
          have c8:=hr.out.c8
          have hbl:=hr.out.lt
          have HL1:=hide (one_of_row HC.out.row)
          have HRN:Hid (∀ r ∈ rs ++ [(⟨al,k + rs.length,cl,mm⟩:Rc)],∀ g,r.val.ownBlock = some g→(Value.slice a k c).ownBlock = some g ∨ w.heap.size≤g):=fun r hr2 g hg=>by
            rcases List.mem_append.1 hr2 with h1 | h1
            · exact HB.out r h1 g hg
            · obtain rfl:=List.mem_singleton.1 h1
              exact hr.out.ll g hg
          have HYS:=hide HC.out.ns
          have hf44:k + rs.length≤17592186044416:=by omega
          go_upto_region 9 with (at_builtin; go_must (refine wpList_append_lies _ rfl _ _ 31 rfl 0 32 i32 (.slice none 0 0) 1 24 Tryz.underlying31 hi32 hz320 hz321 hz322 rfl (by decide) nsv' (nn + rs.length) (x0 ++ rs.map Rc.val) rfl (HYS.out.alloc _) ⟨wr.heap.size,0,none⟩ 1 1 [.slice al (k + rs.length) cl] rfl rfl (cell_one_new _ _ _) HL1.out (by decide) (M1.out rs.length hlt) (B1.out rs.length hlt) (Nat.zero_le _) (wr.heap.size + 1) (by simp) ?_); intro g1 cap1 w2 ho1 hg1 hl1 hlt1; obtain ⟨hS2,k8,k9,kf⟩:=hr.out.stepN ho1 hg1 (hl1.imp (fun e=>e.symm) (fun e=>congrArg some e)); have HC2:=hide (((HC.out.below ((Below.refl _ _).alloc (Nat.le_refl _) _)).stepN (typ_alloc hr.out.typ _) hr.out.apart hf44 ho1 hg1 (hl1.imp (fun e=>e.symm) (fun e=>(congrArg some e).trans (by simp)))).field (typ_grown hr.out.typ hg1 hr.out.ns_ne) 8 (.slice (some ⟨g1,0,none⟩) (nn + rs.length + 1) cap1)); have HS2:=hide hS2; have HZS:=hide HC2.out.nm; clear hS2 ho1 hg1 hl1)
          go_upto_region 10 with (at_builtin; go_must (refine wpList_append_lies _ rfl _ _ 32 rfl 0 3 i3 (.int .i64 0) 1 8 Tryz.underlying32 hi3 hz30 hz31 hz32 rfl (by decide) nmv' (nn + rs.length) (m0 ++ rs.map Rc.mrk) rfl (HZS.out.alloc _) ⟨w2.heap.size,0,none⟩ 1 1 [.int .i64 mm] rfl rfl (cell_one_new' _ _ _ _ (by simp)) (ints_oneCell .i64 [mm]) (by decide) (M1.out rs.length hlt) (B2.out rs.length hlt) (Nat.zero_le _) (w2.heap.size + 1) (by simp) ?_); intro g2 cap2 w3 ho2 hg2 hl2 hlt2; obtain ⟨hS3,m9,mf⟩:=HS2.out.stepM ho2 hg2 (hl2.imp (fun e=>e.symm) (fun e=>(congrArg some e).trans (by simp))); have HC3:=hide (((HC2.out.below ((Below.refl _ _).alloc (Nat.le_refl _) _)).stepM (r:=⟨al,k + rs.length,cl,mm⟩) HS2.out.apart ho2 hg2 (hl2.imp (fun e=>e.symm) (fun e=>(congrArg some e).trans (by simp)))).field (typ_grown HS2.out.typ hg2 HS2.out.nm_ne) 9 (.slice (some ⟨g2,0,none⟩) (nn + rs.length + 1) cap2)); have HS3:=hide hS3; have HLS:=hide HC3.out.row; clear hS3 ho2 hg2 hl2)
          go_wp2_with (at_builtin; go_must (refine wpList_append_keeps rfl _ _ 32 rfl 0 3 i3 (.int .i64 0) 1 8 Tryz.underlying32 hi3 hz30 hz31 hz32 rfl (by decide) (.slice al (k + rs.length) cl) (k + rs.length) (List.replicate (k + rs.length) (.int .i64 mm)) rfl (HLS.out.alloc _) ⟨w3.heap.size,0,none⟩ 1 1 [.int .i64 mm] rfl rfl (cell_one_new' _ _ _ _ (by simp)) (ints_oneCell .i64 [mm]) (by decide) (M3.out rs.length hlt) (B3.out rs.length hlt) (Nat.zero_le _) (w3.heap.size + 1) (by simp) ?_); intro g3 cap3 w4 ho3 hg3 hl3 hlt3 hk3; have HS4:=hide (HS3.out.stepL ho3 hg3 (hl3.imp (fun e=>e.symm) (fun e=>(congrArg some e).trans (by simp)))); have HC4:=hide ((HC3.out.below ((Below.refl _ _).alloc (Nat.le_refl _) _)).stepL HS3.out.apart ho3 hg3 hk3))
          have hl1:(rs ++ [(⟨al,k + rs.length,cl,mm⟩:Rc)]).length = rs.length + 1:=by simp
          refine ⟨⟨rs ++ [(⟨al,k + rs.length,cl,mm⟩:Rc)],some ⟨g3,0,none⟩,cap3,_,_,by omega,by rw [hl1]; go_num,by rw [hl1]; rfl,by rw [hl1]; exact HS4.out,by rw [hl1]; exact HC4.out,HRN⟩,by simp [intOf]; omega⟩
        · obtain hq4:rs.length = 4:=by omega
          have hd:decide ((rs.length:Int) < 4) = false:=decide_eq_false (by omega)
          have HF:Hid (∃ lv' nsv' nmv' mm rs,InS w bp (.slice a k c) nsv nmv wr lv' (k + 4) nsv' (nn + 4) nmv' (nn + 4)∧rs.length = 4∧InC wr bp lv' (k + 4) (List.replicate (k + 4) (.int .i64 mm)) nsv' nmv' nn x0 m0 mm rs rs∧∀ r ∈ rs,∀ g,r.val.ownBlock = some g→(Value.slice a k c).ownBlock = some g ∨ w.heap.size≤g):=by
            have q1:=hr.out
            have q2:=HC.out
            rw [hq4] at q1 q2
            exact ⟨_,_,_,mm,rs,q1,hq4,q2,HB.out⟩
          clear hq4
          go_wp2
          go_end0
          exact ⟨rfl,HF.out⟩
end
section
open Go.RowKit Go.Maps

structure RcAt (w:World) (bp sz:Nat) (nl:Nat) (ys:List Value) (nsv nmv:Value) (mm:Int) (r:Rc):Prop where
  m:r.m = mm
  le:r.n≤nl
  addr:0 < r.n→∃ g,r.a = some ⟨g,0,none⟩
  cell:∀ g,r.val.ownBlock = some g→∀ j u,j < r.n * sz→ys[j]? = some u→w.cell? ⟨g,j,none⟩ = some u
  lt:∀ g,r.val.ownBlock = some g→g < w.heap.size∧g ≠ bp∧nsv.ownBlock ≠ some g∧nmv.ownBlock ≠ some g
structure ApC (E e sz:Nat) (w:World) (bp:Nat) (lv:Value) (nl:Nat) (ys:List Value) (nsv nmv:Value) (nn:Nat) (x0 m0:List Value) (mm:Int) (rs rt:List Rc):Prop where
  row:w.ownsRow 0 e sz lv nl ys
  ns:w.ownsRow 0 E 1 nsv (nn + rs.length) (x0 ++ rs.map Rc.val)
  nm:w.ownsRow 0 3 1 nmv (nn + rt.length) (m0 ++ rt.map Rc.mrk)
  tys:e ≠ 41∧e ≠ 3∧e ≠ E∧E ≠ 41∧E ≠ 3
  rd:∀ r ∈ rs,RcAt w bp sz nl ys nsv nmv mm r
section
variable {E e sz:Nat} {w w1:World} {bp:Nat} {lv nsv nmv v2:Value} {nl nn:Nat} {ys x0 m0 news:List Value} {mm:Int} {rs rt:List Rc}
theorem RcAt.on {r:Rc} (h:RcAt w bp sz nl ys nsv nmv mm r) (hz:w.heap.size≤w1.heap.size) {nl':Nat} {ys':List Value} {nsv' nmv':Value} (hn:nl≤nl') (hc:∀ g,r.val.ownBlock = some g→∀ j u,j < r.n * sz→ys'[j]? = some u→w1.cell? ⟨g,j,none⟩ = some u) (hs:∀ g,nsv'.ownBlock = some g→nsv.ownBlock = some g ∨ w.heap.size≤g) (hm:∀ g,nmv'.ownBlock = some g→nmv.ownBlock = some g ∨ w.heap.size≤g):RcAt w1 bp sz nl' ys' nsv' nmv' mm r :=
  ⟨h.m,Nat.le_trans h.le hn,h.addr,hc,fun g hg=>by
    obtain ⟨q1,q2,q3,q4⟩:=h.lt g hg
    exact ⟨by omega,q2,fun e=>(hs g e).elim q3 (fun e=>by omega),fun e=>(hm g e).elim q4 (fun e=>by omega)⟩⟩
theorem RcAt.same {r:Rc} (h:RcAt w bp sz nl ys nsv nmv mm r) (hb:∀ g,r.val.ownBlock = some g→w1.heap[g]? = w.heap[g]?):∀ g,r.val.ownBlock = some g→∀ j u,j < r.n * sz→ys[j]? = some u→w1.cell? ⟨g,j,none⟩ = some u:=fun g hg j u hj hu=>by
  rw [World.cell?_of_block (hb g hg)]
  exact h.cell g hg j u hj hu
theorem ApC.other (h:ApC E e sz w bp lv nl ys nsv nmv nn x0 m0 mm rs rt) (hz:w.heap.size≤w1.heap.size) (hl:∀ g,lv.ownBlock = some g→w1.heap[g]? = w.heap[g]?) (hs:∀ g,nsv.ownBlock = some g→w1.heap[g]? = w.heap[g]?) (hm:∀ g,nmv.ownBlock = some g→w1.heap[g]? = w.heap[g]?) (hr:∀ r ∈ rs,∀ g,r.val.ownBlock = some g→w1.heap[g]? = w.heap[g]?):ApC E e sz w1 bp lv nl ys nsv nmv nn x0 m0 mm rs rt :=
  ⟨ownsRow_of_block h.row hl,ownsRow_of_block h.ns hs,ownsRow_of_block h.nm hm,h.tys,fun r hr2=>(h.rd r hr2).on hz (Nat.le_refl _) ((h.rd r hr2).same (hr r hr2)) (fun _ e=>.inl e) (fun _ e=>.inl e)⟩
theorem ApC.below (h:ApC E e sz w bp lv nl ys nsv nmv nn x0 m0 mm rs rt) (hb:Below w.heap.size w w1):ApC E e sz w1 bp lv nl ys nsv nmv nn x0 m0 mm rs rt :=
  h.other hb.size (fun g e=>hb.block g (h.row.lt g e).2) (fun g e=>hb.block g (h.ns.lt g e).2) (fun g e=>hb.block g (h.nm.lt g e).2) (fun r hr g e=>hb.block g ((h.rd r hr).lt g e).1)
theorem ApC.field (h:ApC E e sz w bp lv nl ys nsv nmv nn x0 m0 mm rs rt) (ht:∃ cs,w.heap[bp]? = some (.cells cs 41 (0,0))) (k:Nat) (u:Value):ApC E e sz (w.setCell ⟨bp,k,none⟩ u) bp lv nl ys nsv nmv nn x0 m0 mm rs rt:=by
  obtain ⟨cs,hc⟩:=ht
  have ne:∀ {g:Nat} {c:Array Value} {e:TypeId},w.heap[g]? = some (.cells c e (0,0))→e ≠ 41→(w.setCell ⟨bp,k,none⟩ u).heap[g]? = w.heap[g]?:=fun hg he=>Below.heap_setCell _ _ _ _ (ne_of_elem hg hc he)
  refine h.other (by simp) (fun g q=>?_) (fun g q=>?_) (fun g q=>?_) (fun r hr g q=>Below.heap_setCell _ _ _ _ ((h.rd r hr).lt g q).2.1)
  · obtain ⟨c,hg⟩:=ownsRow_obj h.row q; exact ne hg h.tys.1
  · obtain ⟨c,hg⟩:=ownsRow_obj h.ns q; exact ne hg h.tys.2.2.2.1
  · obtain ⟨c,hg⟩:=ownsRow_obj h.nm q; exact ne hg (by decide)
theorem ApC.stepN {a:Option Addr} {c:Nat} (h:ApC E e sz w bp (.slice a nl c) nl ys nsv nmv nn x0 m0 mm rs rt) (ht:∃ cs,w.heap[bp]? = some (.cells cs 41 (0,0)))
    (ho:w1.ownsRow 0 E 1 v2 (nn + rs.length + 1) ((x0 ++ rs.map Rc.val) ++ [.slice a nl c])) (hg:w.grownBy w1 nsv.ownBlock) (hl:v2.ownBlock = nsv.ownBlock ∨ v2.ownBlock = some w.heap.size) :
    ApC E e sz w1 bp (.slice a nl c) nl ys v2 nmv nn x0 m0 mm (rs ++ [⟨a,nl,c,mm⟩]) rt:=by
  obtain ⟨cs,hc⟩:=ht
  have hs:∀ g,v2.ownBlock = some g→nsv.ownBlock = some g ∨ w.heap.size≤g:=fun g q=>by
    rcases hl with e2 | e2
    · exact .inl (e2 ▸ q)
    · rw [q] at e2; have:=Option.some.inj e2; exact .inr (by omega)
  have hrow:w1.ownsRow 0 e sz (.slice a nl c) nl ys:=row_g h.row hg (fun g q e2=>ty_ne h.row h.ns h.tys.2.2.1 g q e2)
  refine ⟨hrow,?_,row_g h.nm hg (fun g q e2=>ty_ne h.ns h.nm h.tys.2.2.2.2 g e2 q),h.tys,fun r hr=>?_⟩
  · rw [List.map_append,List.length_append,← List.append_assoc]
    exact ho
  · rcases List.mem_append.1 hr with hr | hr
    · exact (h.rd r hr).on hg.size (Nat.le_refl _) ((h.rd r hr).same (fun g q=>hg.block g ((h.rd r hr).lt g q).1 (fun q2=>((h.rd r hr).lt g q).2.2.1 q2.symm))) hs (fun _ q=>.inl q)
    · obtain rfl:=List.mem_singleton.1 hr
      refine ⟨rfl,Nat.le_refl _,fun h0=>?_,fun g hg2 j u _ hu=>?_,fun g hg2=>?_⟩
      · rcases h.row.2 with ⟨_,h1⟩ | ⟨g,cp,cur,q,_⟩
        · simp only at h0; omega
        · simp only [Value.slice.injEq] at q
          exact ⟨g,q.1⟩
      · have hg3:(Value.slice a nl c).ownBlock = some g:=hg2
        rcases h.row.2 with ⟨q,_⟩ | ⟨g',cp,cur,q,_⟩
        · rw [q] at hg3; cases hg3
        · simp only [Value.slice.injEq] at q
          obtain ⟨rfl,_,rfl⟩:=q
          obtain rfl:g' = g:=by simpa [Value.ownBlock] using hg3
          exact ownsRow_cell hrow hu
      · have hg3:(Value.slice a nl c).ownBlock = some g:=hg2
        have hlt:=(h.row.lt g hg3).2
        obtain ⟨c2,hc2⟩:=ownsRow_obj h.row hg3
        refine ⟨Nat.lt_of_lt_of_le hlt hg.size,ne_of_elem hc2 hc h.tys.1,fun q=>?_,ty_ne h.row h.nm h.tys.2.1 g hg3⟩
        rcases hs g q with e2 | e2
        · exact ty_ne h.row h.ns h.tys.2.2.1 g hg3 e2
        · omega
theorem ApC.stepM {r:Rc} (h:ApC E e sz w bp lv nl ys nsv nmv nn x0 m0 mm rs rt)
    (ho:w1.ownsRow 0 3 1 v2 (nn + rt.length + 1) ((m0 ++ rt.map Rc.mrk) ++ [r.mrk])) (hg:w.grownBy w1 nmv.ownBlock) (hl:v2.ownBlock = nmv.ownBlock ∨ v2.ownBlock = some w.heap.size) :
    ApC E e sz w1 bp lv nl ys nsv v2 nn x0 m0 mm rs (rt ++ [r]):=by
  have hs:∀ g,v2.ownBlock = some g→nmv.ownBlock = some g ∨ w.heap.size≤g:=fun g q=>by
    rcases hl with e2 | e2
    · exact .inl (e2 ▸ q)
    · rw [q] at e2; have:=Option.some.inj e2; exact .inr (by omega)
  refine ⟨row_g h.row hg (ty_ne h.row h.nm h.tys.2.1),row_g h.ns hg (ty_ne h.ns h.nm h.tys.2.2.2.2),?_,h.tys,fun r hr=>(h.rd r hr).on hg.size (Nat.le_refl _) ((h.rd r hr).same (fun g q=>hg.block g ((h.rd r hr).lt g q).1 (fun q2=>((h.rd r hr).lt g q).2.2.2 q2.symm))) (fun _ q=>.inl q) hs⟩
  rw [List.map_append,List.length_append,← List.append_assoc]
  exact ho
theorem ApC.stepL (h:ApC E e sz w bp lv nl ys nsv nmv nn x0 m0 mm rs rt)
    (ho:w1.ownsRow 0 e sz v2 (nl + 1) (ys ++ news)) (hg:w.grownBy w1 lv.ownBlock) (hk:∀ b,lv.ownBlock = some b→∀ j u,ys[j]? = some u→w1.cell? ⟨b,j,none⟩ = some u) :
    ApC E e sz w1 bp v2 (nl + 1) (ys ++ news) nsv nmv nn x0 m0 mm rs rt:=by
  refine ⟨ho,row_g h.ns hg (fun g q e2=>ty_ne h.row h.ns h.tys.2.2.1 g e2 q),row_g h.nm hg (fun g q e2=>ty_ne h.row h.nm h.tys.2.1 g e2 q),h.tys,fun r hr=>(h.rd r hr).on hg.size (Nat.le_succ _) (fun g hg2 j u hj hu=>?_) (fun _ q=>.inl q) (fun _ q=>.inl q)⟩
  have hle:=(h.rd r hr).le
  have hjl:j < ys.length:=by
    rw [h.row.1]
    exact Nat.lt_of_lt_of_le hj (Nat.mul_le_mul_right sz hle)
  rw [List.getElem?_append_left hjl] at hu
  by_cases hb:lv.ownBlock = some g
  · exact hk g hb j u hu
  · exact (h.rd r hr).same (w1:=w1) (fun g' q=>by
      obtain rfl:g = g':=Option.some.inj (hg2.symm.trans q)
      exact hg.block g ((h.rd r hr).lt g hg2).1 (fun q2=>hb q2.symm)) g hg2 j u hj hu
end
end
end Go.Proofs.YtpkiefjanmfgfaaGreatDoor
