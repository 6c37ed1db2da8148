import Derived.ProofKit
import Derived.OpenShut
import Derived.Deep.Slices
import Derived.SizedLaws
import Derived.Carry
import Derived.Test.YtpkiefjanmfgfaaGreatDoorCards
import Derived.Test.YtpkiefjanmfgfaaGreatDoorTie
import Derived.Deep.DeepHandedRow
import Derived.Lib.LaidTab
import Derived.LaidHandle
import Derived.Test.YtpkiefjanmfgfaaGreatDoorQui01
import Derived.Test.YtpkiefjanmfgfaaGreatDoorQui08
import Derived.Test.YtpkiefjanmfgfaaGreatDoorQui12
import Derived.Test.YtpkiefjanmfgfaaGreatDoorQui17
namespace Go.Proofs.YtpkiefjanmfgfaaGreatDoor
open Go.RowKit Go.Maps

set_option maxHeartbeats 2000000 in
set_option maxRecDepth 20000 in
theorem played7_yes (d c l m b t : Int) (sa : Option Addr) (len cap : Nat) (w : World) (hg : Handle w) (hc : cfgB d c l m b t = true) (hs : ScriptAt w sa len) (hlc : len ≤ cap) :
    Calls Tryz.prog 12 #[.agg #[.int .i64 d, .int .i64 c, .int .i64 l, .int .i64 m, .int .i64 b, .int .i64 t], .slice sa len cap, .int .i64 4] w fun ev w' => ev = .returned (.bool true) ∧ Below w.heap.size w w' := by
  have HC := hide hc
  have HS := hide hs
  have hsz : len ≤ 1353245080339 := by have := hs.sz; omega
  clear hc hs
  go_enter Tryz.func12, Tryz.ntmps12
  go_wp2_with fail
  refine (awake8_any _ (hg.alloc _)).mono ?_
  rintro ev w1 ⟨rfl, hb1⟩
  have k0 : w1.cell? ⟨w.heap.size, 0, none⟩ = some (.int .i64 d) := Below.at hb1 (by simp) (by simp)
  have k1 : w1.cell? ⟨w.heap.size, 1, none⟩ = some (.int .i64 c) := Below.at hb1 (by simp) (by simp)
  have k2 : w1.cell? ⟨w.heap.size, 2, none⟩ = some (.int .i64 l) := Below.at hb1 (by simp) (by simp)
  have k3 : w1.cell? ⟨w.heap.size, 3, none⟩ = some (.int .i64 m) := Below.at hb1 (by simp) (by simp)
  have k4 : w1.cell? ⟨w.heap.size, 4, none⟩ = some (.int .i64 b) := Below.at hb1 (by simp) (by simp)
  have k5 : w1.cell? ⟨w.heap.size, 5, none⟩ = some (.int .i64 t) := Below.at hb1 (by simp) (by simp)
  have hbw : Below w.heap.size w w1 := ((Below.refl _ _).alloc (Nat.le_refl _) _).trans (hb1.mono (by simp))
  have HBW := hide hbw
  clear hb1 hbw
  go_wp2_with fail
  refine (begun9_yes w d c l m b t w1 (hg.below HBW.out) HBW.out hg.lt HC.out).mono ?_
  rintro ev w2 ⟨bp, bb, bs, bm, br, gn0, rfl, hp2, hlk2⟩
  have HP2 := hide hp2
  have HLK2 := hide hlk2
  clear hp2 hlk2 k0 k1 k2 k3 k4 k5
  go_wp2
  go_loopw [9, 10] (fun ok iv wr => ∃ (k : Nat) (la : Option Addr) (lc : Nat) (nsv nmv : Value) (nn : Nat) (L : List Ent) (gn : Net), k ≤ len ∧ iv = .int .i64 k ∧ ok = .bool true ∧ nn ≤ 4 * k ∧ Hid (PairAt w wr bp bb bs bm br ⟨d, c, l, m, b, t⟩ gn la lc nsv nmv nn L L) ∧ Hid (Lk gn nn)) (fun _ iv _ => len - (intOf iv).toNat)
  case atStart => exact ⟨0, _, _, _, _, 0, [], gn0, Nat.zero_le _, rfl, rfl, Nat.le_refl _, HP2.out, HLK2.out⟩
  case round =>
    obtain ⟨k, la, lc, nsv, nmv, nn, L, gn, hk, rfl, rfl, hnn, HP, HLK⟩ := hrel
    by_cases hlt : k < len
    · obtain ⟨b', off, rfl, kd, id, kk, be, t0, t1, draw, xs, pa, pc, fa, fn, fc, ho⟩ := HS.out.op k hlt
      have hor := ho.below HP.out.old
      have HO := hide ho
      have c0 := hor.c0
      have c1 := hor.c1
      have c2 := hor.c2
      have c3 := hor.c3
      have c4 := hor.c4
      have c5 := hor.c5
      have c6 := hor.c6
      have c7 := hor.c7
      have c8 := hor.c8
      have HNN : Hid ((nn + 4) * 24 ≤ 140737488355328) := by
        have h1 : (nn + 4) * 24 ≤ (4 * len) * 24 := Nat.mul_le_mul_right 24 (by omega)
        have h2 := HS.out.sz
        exact Nat.le_trans h1 (by omega)
      clear ho hor
      by_cases hkd : kd ≤ 4
      · have hd4 : decide (kd ≤ 4) = true := by simpa using hkd
        go_wp2_with fail
        refine (step10_any w wr bp bb bs bm br _ gn la lc nsv nmv nn L kd id kk be t0 t1 draw xs pa pc fa fn fc HP.out HLK.out HO.out.pt HO.out.wf HO.out.sz HNN.out HO.out.dr hkd).mono ?_
        rintro ev w5 ⟨rfl, la5, lc5, nsv5, nmv5, nn5, L5, gn5, hn5, hp5, hlk5⟩
        have HP5 := hide hp5
        have HLK5 := hide hlk5
        clear hp5 hlk5 c0 c1 c2 c3 c4 c5 c6 c7 c8
        go_wp2
        exact ⟨⟨k + 1, la5, lc5, nsv5, nmv5, nn5, L5, gn5, by omega, by go_num, rfl, by omega, HP5.out, HLK5.out⟩, by simp [intOf]; omega⟩
      · have hd4 : decide (kd ≤ 4) = false := by simpa using hkd
        go_wp2
        exact ⟨⟨k + 1, la, lc, nsv, nmv, nn, L, gn, by omega, by go_num, rfl, by omega, HP, HLK⟩, by simp [intOf]; omega⟩
    · obtain rfl : k = len := by omega
      go_wp2
      go_ret
      exact ⟨rfl, HP.out.old⟩

set_option maxHeartbeats 2000000 in
set_option maxRecDepth 20000 in
theorem entries3_any (d c l m b t : Int) (sa : Option Addr) (len cap : Nat) (w : World) (hg : Handle w) (hs : ScriptAt w sa len) (hlc : len ≤ cap) :
    Calls Tryz.prog 3 #[.agg #[.int .i64 d, .int .i64 c, .int .i64 l, .int .i64 m, .int .i64 b, .int .i64 t], .slice sa len cap] w fun ev w' => ev = .returned (.bool true) ∧ Below w.heap.size w w' := by
  have HS := hide hs
  clear hs
  go_enter Tryz.func3, Tryz.ntmps3
  go_wp2_with fail
  have key : ∀ o, Calls Tryz.prog 12 #[.agg #[.int .i64 d, .int .i64 c, .int .i64 l, .int .i64 m, .int .i64 b, .int .i64 t], .slice sa len cap, .int .i64 4] (w.alloc o) fun ev w' => ev = .returned (.bool true) ∧ Below (w.alloc o).heap.size (w.alloc o) w' := fun o => by
    cases hc : cfgB d c l m b t
    · exact played7_no d c l m b t sa len cap _ (hg.alloc o) hc
    · exact played7_yes d c l m b t sa len cap _ (hg.alloc o) hc (HS.out.below ((Below.refl _ _).alloc (Nat.le_refl _) o)) hlc
  refine (key _).mono ?_
  rintro ev w1 ⟨rfl, hb1⟩
  have hb : Below w.heap.size w w1 := ((Below.refl _ _).alloc (Nat.le_refl _) _).trans (hb1.mono (by simp))
  have HB := hide hb
  clear hb hb1 key
  go_wp2
  go_ret
  exact ⟨rfl, HB.out⟩
end Go.Proofs.YtpkiefjanmfgfaaGreatDoor
namespace Go.Proofs.YtpkiefjanmfgfaaGreatDoor
open Go.ChangeShapes Go.WideShapes Go.RowKit

theorem cells23 : Tryz.prog.cellsOf 23 = 6 := by kernel_rfl
theorem cells32 : Tryz.prog.cellsOf 32 = 1 := by kernel_rfl
theorem cells43 : Tryz.prog.cellsOf 43 = 2 := by kernel_rfl
theorem cells44 : Tryz.prog.cellsOf 44 = 1 := by kernel_rfl
theorem cells45 : Tryz.prog.cellsOf 45 = 1 := by kernel_rfl
theorem cells47 : Tryz.prog.cellsOf 47 = 1 := by kernel_rfl
theorem cells49 : Tryz.prog.cellsOf 49 = 9 := by kernel_rfl
theorem bytes3 : Tryz.prog.bytesOf 3 = 8 := by kernel_rfl
theorem bytes49 : Tryz.prog.bytesOf 49 = 104 := by kernel_rfl

theorem addr_plain {w : World} {a : Addr} {v : Value} (h : w.cell? a = some v) : a = ⟨a.block, a.off, none⟩ := by
  obtain ⟨b, o, s⟩ := a
  cases s with
  | none => rfl
  | some x =>
    simp only [World.cell?] at h
    split at h <;> simp at h
theorem addr_at (b o i : Nat) : (⟨b, o, none⟩ : Addr).add i = ⟨b, o + i, none⟩ := by
  unfold Addr.add
  split
  · subst_vars; rfl
  · rfl

section
variable {H : Type} {enc : TypeId × Value → H} {W : World} {sp : Nat → Bool} {hd : Bool}

set_option maxRecDepth 100000 in
theorem cfg_open {b0 : Nat} {r : Reach} {v : Value} {d : DataW H} {p : List MemPlace} (hv : Value.okWide Tryz.prog W r b0 23 v) (h : DataW.Trod enc Tryz.prog W 0 sp hd 23 v d p) :
    ∃ a0 a1 a2 a3 a4 a5 : Int, v = .agg #[.int .i64 a0, .int .i64 a1, .int .i64 a2, .int .i64 a3, .int .i64 a4, .int .i64 a5] := by
  obtain ⟨cs, rfl, hsz⟩ := okWide_struct Tryz.underlying23 hv
  rw [cells23] at hsz
  obtain ⟨l⟩ := cs
  match l, hsz with
  | [c0, c1, c2, c3, c4, c5], _ =>
    obtain ⟨fuel, hf⟩ := h
    obtain ⟨xs, n, _, _, _, hlen, hx⟩ := DataW.trod_struct Tryz.underlying23 hf
    match xs, hlen with
    | [y0, y1, y2, y3, y4, y5], _ =>
      have g0 := hx 0 _ rfl
      have g1 := hx 1 _ rfl
      have g2 := hx 2 _ rfl
      have g3 := hx 3 _ rfl
      have g4 := hx 4 _ rfl
      have g5 := hx 5 _ rfl
      simp [Value.cells, cells3] at g0 g1 g2 g3 g4 g5
      obtain ⟨a0, e0, _⟩ := DataW.trod_int Tryz.underlying3 g0
      obtain ⟨a1, e1, _⟩ := DataW.trod_int Tryz.underlying3 g1
      obtain ⟨a2, e2, _⟩ := DataW.trod_int Tryz.underlying3 g2
      obtain ⟨a3, e3, _⟩ := DataW.trod_int Tryz.underlying3 g3
      obtain ⟨a4, e4, _⟩ := DataW.trod_int Tryz.underlying3 g4
      obtain ⟨a5, e5, _⟩ := DataW.trod_int Tryz.underlying3 g5
      simp at e0 e1 e2 e3 e4 e5
      subst e0; subst e1; subst e2; subst e3; subst e4; subst e5
      exact ⟨a0, a1, a2, a3, a4, a5, rfl⟩

theorem point_open {n : Nat} {c : Value} {x : DataW H × List MemPlace} (h : DataW.trod enc Tryz.prog W 0 (fun _ => true) hd n 32 [c] = some x) (hw : ∀ k ∈ x.1.weights Tryz.prog 32, k ≤ reachBytes) :
    ∃ (xs : List Int) (pa : Option Addr) (pc : Nat), c = .slice pa xs.length pc ∧ IntsAt W (.slice pa xs.length pc) xs ∧ (xs.length + 6) * 8 ≤ 140737488355328 := by
  rcases open_ints Tryz.underlying32 Tryz.underlying3 cells3 h with ⟨e, _⟩ | ⟨a, len, cap, zs, e, _, hl, hm, hz, rfl, hc, _⟩
  · simp at e
    subst e
    exact ⟨[], none, 0, rfl, ⟨none, 0, rfl, Nat.le_refl _, by simp, .inl rfl⟩, by simp⟩
  · simp at e hz
    subst e
    have hlen : (zs.take len).length = len := by simp; omega
    have hb : ((lits (H := H) .i64 (zs.take len)).length + (lits (H := H) .i64 (zs.drop len)).length) * Tryz.prog.bytesOf 3 ≤ reachBytes := hw _ (by simp only [DataW.weights, Tryz.underlying32]; exact List.mem_cons_self)
    simp [lits, bytes3, reachBytes] at hb
    have hb2 : len * 8 ≤ 140737488351232 := by omega
    refine ⟨zs.take len, some a, cap, by rw [hlen], ⟨some a, cap, rfl, by omega, by omega, ?_⟩, by rw [hlen]; omega⟩
    by_cases h0 : len = 0
    · left; subst h0; simp
    · right
      have e0 := hc 0 (by omega)
      have ea : a = ⟨a.block, a.off, none⟩ := addr_plain (a := a) (by simpa [Addr.add] using e0)
      refine ⟨a.block, a.off, by rw [← ea], fun i hi => ?_⟩
      rw [hlen] at hi
      have := hc i (by omega)
      rw [ea, addr_at] at this
      rw [this]
      simp [List.getD_eq_getElem?_getD, hi]
end
end Go.Proofs.YtpkiefjanmfgfaaGreatDoor
namespace Go.Proofs.YtpkiefjanmfgfaaGreatDoor
open Go.ChangeShapes Go.WideShapes Go.RowKit

section
variable {H : Type} {enc : TypeId × Value → H} {W : World} {hd : Bool}

theorem weights_all {P : Program} {e : TypeId} : ∀ {l : List (DataW H)} {d : DataW H}, d ∈ l → ∀ k ∈ d.weights P e, k ∈ DataW.weightsAll P e l
  | x :: r, d, hm, k, hk => by
    simp only [DataW.weightsAll, List.mem_append]
    rcases List.mem_cons.1 hm with rfl | hm
    · exact .inl hk
    · exact .inr (weights_all hm k hk)
  | [], _, hm, _, _ => by cases hm

theorem u64_wf {n : Int} (h : (Lit.int .u64 n).wf = true) : 0 ≤ n ∧ n < 18446744073709551616 := by
  have h1 : IntKind.u64.min = 0 := by decide
  have h2 : IntKind.u64.max = 18446744073709551615 := by decide
  simp [Lit.wf, h1, h2] at h
  omega

structure OpCells (W : World) (cs : List Value) (kd id kk be t0 t1 draw : Int) (xs : List Int) (pa : Option Addr) (pc : Nat) (fa : Option Addr) (fn fc : Nat) : Prop where
  all : cs = [.int .i64 kd, .int .i64 id, .int .i64 kk, .int .i64 be, .slice pa xs.length pc, .int .i64 t0, .int .i64 t1, .int .u64 draw, .slice fa fn fc]
  pt : IntsAt W (.slice pa xs.length pc) xs
  wf : I64 id
  dr : 0 ≤ draw ∧ draw < 18446744073709551616
  sz : (xs.length + 6) * 8 ≤ 140737488355328

set_option maxRecDepth 100000 in
theorem op_open {n : Nat} {cs : List Value} {x : DataW H × List MemPlace} (h : DataW.trod enc Tryz.prog W 0 (fun _ => true) hd n 49 cs = some x) (hw : ∀ k ∈ x.1.weights Tryz.prog 49, k ≤ reachBytes) :
    ∃ kd id kk be t0 t1 draw xs pa pc fa fn fc, OpCells W cs kd id kk be t0 t1 draw xs pa pc fa fn fc := by
  obtain ⟨xs, m, _, rfl, hl, hlen, hx⟩ := DataW.trod_struct Tryz.underlying49 h
  rw [cells49] at hl
  match cs, hl with
  | [c0, c1, c2, c3, c4, c5, c6, c7, c8], _ =>
    match xs, hlen with
    | [y0, y1, y2, y3, y4, y5, y6, y7], _ =>
      have g0 := hx 0 _ rfl
      have g1 := hx 1 _ rfl
      have g2 := hx 2 _ rfl
      have g3 := hx 3 _ rfl
      have g4 := hx 4 _ rfl
      have g5 := hx 5 _ rfl
      have g6 := hx 6 _ rfl
      have g7 := hx 7 _ rfl
      simp [cells3, cells32, cells43, cells44, cells47] at g0 g1 g2 g3 g4 g5 g6 g7
      clear hx
      obtain ⟨kd, e0, _⟩ := DataW.trod_int Tryz.underlying3 g0
      obtain ⟨id, e1, _, hid⟩ := DataW.trod_int Tryz.underlying3 g1
      obtain ⟨kk, e2, _⟩ := DataW.trod_int Tryz.underlying3 g2
      obtain ⟨be, e3, _⟩ := DataW.trod_int Tryz.underlying3 g3
      obtain ⟨draw, e7, _, hdr⟩ := DataW.trod_int Tryz.underlying44 g6
      obtain ⟨ps, pa, pc, e4, hp, hs⟩ := point_open g4 (fun k hk => hw k (by
        simp only [DataW.weights, Tryz.underlying49]
        exact DataW.weights_mem_each (j := 4) rfl rfl k hk))
      obtain ⟨us, m2, _, _, _, hul, hu⟩ := DataW.trod_array Tryz.underlying43 g5
      match us, hul with
      | [u0, u1], _ =>
        have k0 := hu 0 (by omega)
        have k1 := hu 1 (by omega)
        simp [cells3] at k0 k1
        obtain ⟨t0, e5, _⟩ := DataW.trod_int Tryz.underlying3 k0
        obtain ⟨t1, e6, _⟩ := DataW.trod_int Tryz.underlying3 k1
        obtain ⟨z0, m3, _, _, g8⟩ := trod_struct1 Tryz.underlying47 g7
        simp [cells45] at g8
        obtain ⟨fa, fn, fc, e8⟩ : ∃ fa fn fc, c8 = .slice fa fn fc := by
          rcases Deep.open_slice Tryz.underlying45 g8 with ⟨e, _⟩ | ⟨a, len, cap, _, _, _, _, e, _⟩
          · simp at e; exact ⟨_, _, _, e⟩
          · simp at e; exact ⟨_, _, _, e⟩
        simp at e0 e1 e2 e3 e5 e6 e7
        subst e0; subst e1; subst e2; subst e3; subst e4; subst e5; subst e6; subst e7; subst e8
        exact ⟨kd, id, kk, be, t0, t1, draw, ps, pa, pc, fa, fn, fc, rfl, hp, hid, u64_wf hdr, hs⟩

set_option maxRecDepth 100000 in
theorem script_open {b0 : Nat} {r : Reach} {v : Value} {d : DataW H} {p : List MemPlace} (hv : Value.okWide Tryz.prog W r b0 24 v) (h : DataW.Trod enc Tryz.prog W 0 (fun _ => true) hd 24 v d p) (hw : ∀ k ∈ d.weights Tryz.prog 24, k ≤ reachBytes) :
    ∃ sa len cap, v = .slice sa len cap ∧ len ≤ cap ∧ ScriptAt W sa len := by
  obtain ⟨sa, len, cap, rfl⟩ := okWide_slice Tryz.underlying24 hv
  obtain ⟨fuel, hf⟩ := h
  have hf' : DataW.trod enc Tryz.prog W 0 (fun _ => true) hd fuel 24 [.slice sa len cap] = some (d, p) := hf
  rcases Deep.open_slice Tryz.underlying24 hf' with ⟨e, _⟩ | ⟨a, len', cap', m, n, D, Pl, e, _, hl, _, hm, hx, hi⟩
  · simp at e
    obtain ⟨rfl, rfl, rfl⟩ := e
    exact ⟨none, 0, 0, rfl, Nat.le_refl _, by simp, fun i hi => by omega⟩
  · simp at e hm
    obtain ⟨rfl, rfl, rfl⟩ := e
    have hm' := hm.symm
    subst hm'
    simp only [Prod.mk.injEq] at hx
    obtain ⟨rfl, _⟩ := hx
    refine ⟨some a, len, cap, rfl, hl, ?_, fun i hil => ?_⟩
    · have hb : (((List.range len).map D).length + ((List.range (cap - len)).map fun j => D (len + j)).length) * Tryz.prog.bytesOf 49 ≤ reachBytes := hw _ (by simp only [DataW.weights, Tryz.underlying24]; exact List.mem_cons_self)
      simp [bytes49, reachBytes] at hb
      have h1 : len * 104 ≤ (len + (cap - len)) * 104 := Nat.mul_le_mul_right 104 (by omega)
      exact Nat.le_trans h1 (by omega)
    · have ha : a = ⟨a.block, a.off, none⟩ := by
        obtain ⟨cs0, h1, _⟩ := hi 0 (by omega)
        obtain ⟨_, h2, h3⟩ := World.cells?_some h1
        rw [cells49] at h2 h3
        match cs0, h2 with
        | c :: _, _ => exact addr_plain (a := a) (v := c) (by simpa [Addr.add] using h3 0 (by omega))
      obtain ⟨cs', h1, h2⟩ := hi i (by omega)
      obtain ⟨kd, id, kk, be, t0, t1, draw, xs, pa, pc, fa, fn, fc, ho⟩ := op_open h2 (fun k hk => hw k (by
        simp only [DataW.weights, Tryz.underlying24, List.mem_cons, List.mem_append]
        exact .inr (.inl (weights_all (List.mem_map.2 ⟨i, List.mem_range.2 hil, rfl⟩) k hk))))
      obtain ⟨_, _, h3⟩ := World.cells?_some h1
      rw [cells49] at h3
      refine ⟨a.block, a.off, by rw [← ha], kd, id, kk, be, t0, t1, draw, xs, pa, pc, fa, fn, fc, ?_⟩
      have hc : ∀ j v, j < 9 → cs'[j]? = some v → W.cell? ⟨a.block, a.off + i * 9 + j, none⟩ = some v := fun j v hj hv => by
        have := h3 j hj
        rw [ha, addr_at, addr_at] at this
        exact this.trans hv
      rw [ho.all] at hc
      exact ⟨hc 0 _ (by omega) rfl, hc 1 _ (by omega) rfl, hc 2 _ (by omega) rfl, hc 3 _ (by omega) rfl, hc 4 _ (by omega) rfl, hc 5 _ (by omega) rfl, hc 6 _ (by omega) rfl, hc 7 _ (by omega) rfl, hc 8 _ (by omega) rfl, ho.pt, ho.wf, ho.dr, ho.sz⟩
end
end Go.Proofs.YtpkiefjanmfgfaaGreatDoor
namespace Go.Proofs.YtpkiefjanmfgfaaGreatDoor
open Go.ChangeShapes Go.WideShapes Go.ChangeAt Go.RowKit

theorem knob : ownKnob Tryz.prog.godebug = none := by kernel_rfl
theorem errVar : Tryz.prog.globalNamed "errors.errorType" = some 0 := by kernel_rfl
theorem rtypeRow : (Tryz.prog.cutTypes.find? (·.1 == "internal/reflectlite.rtype")).map (·.2) = some 237 := by kernel_rfl
theorem errRow : ((List.range 313).filter fun t => Tryz.prog.rowNamed t [101, 114, 114, 111, 114]) = [104] := by kernel_rfl
theorem typesSize : Tryz.prog.types.size = 313 := by kernel_rfl
theorem read23 : Tryz.prog.readableRec 23 = true := by kernel_rfl
theorem read24 : Tryz.prog.readableRec 24 = true := by kernel_rfl

theorem handle_laid {W : World} (h : laidMetH Tryz.prog Rows.entriesRow.laid W) : Handle W := by
  have h' : laidMet Tryz.prog [] W ∧ handlesMet Tryz.prog Rows.entriesRow.laid W := h
  obtain ⟨name, u, ty, e1, e2, e3, e4, e5⟩ := h'.2 _ (List.mem_singleton.2 rfl)
  have en : name = [101, 114, 114, 111, 114] := (Option.some.inj e1).symm
  subst en
  obtain rfl := Option.some.inj (rtypeRow.symm.trans e2)
  have hm : ty ∈ (List.range 313).filter fun t => Tryz.prog.rowNamed t [101, 114, 114, 111, 114] := List.mem_filter.2 ⟨List.mem_range.2 (by rw [← typesSize]; exact e3), e4⟩
  rw [errRow] at hm
  obtain rfl := List.mem_singleton.1 hm
  have hh : typeHandle Tryz.prog 104 = .pointer (some ⟨1, 104, none⟩) := by kernel_rfl
  rw [hh] at e5
  unfold Handle
  simpa using World.var?_cell errVar e5 0

set_option maxRecDepth 100000 in
theorem entries_contract (H : Type) (enc : TypeId × Value → H) (W : World) (base : Nat) (args : Array Value) (ds gs : List (DataW H)) (before : List MemPlace)
    (hval : ∀ (j : Nat) t v, Tryz.f3.params[j]? = some t → args[j]? = some v → Value.okWide Tryz.prog W .any base t v)
    (hW : DataW.Whole enc Tryz.prog Tryz.f3.params.toList Rows.entriesSpec.vars false W args.toList ds gs before)
    (hz : (DataW.weightsEach Tryz.prog (Tryz.f3.params.toList ++ Rows.entriesSpec.plain.varTypes Tryz.prog) (ds ++ gs)).all (· ≤ reachBytes) = true) (hL : laidMetH Tryz.prog Rows.entriesRow.laid W) :
    Calls Tryz.prog 3 args W fun e W' => ∃ v, e = .returned v ∧ Rows.entriesSpec.post enc Tryz.prog Tryz.f3 false true false false W args v W' := by
  have hW' := hW
  obtain ⟨p, q, hA0, hV, rfl, hfz, hnd⟩ := hW
  have hA : DataW.TrodAll enc Tryz.prog W 0 (fun _ => true) true Tryz.f3.params.toList args.toList ds p := hA0
  rw [Tryz.params3] at hA hval hz
  obtain ⟨v0, vs0, d0, ds0, p0, q0, hargs, rfl, rfl, h0, r0⟩ := trodAll_cons hA
  obtain ⟨v1, vs1, d1, ds1, p1, q1, rfl, rfl, rfl, h1, r1⟩ := trodAll_cons r0
  obtain ⟨rfl, rfl, rfl⟩ := trodAll_nil r1
  obtain rfl : args = #[v0, v1] := by cases args; simp_all
  obtain ⟨rfl, rfl⟩ := trodVars_none hV
  have hlt := hW'.lt
  obtain ⟨a0, a1, a2, a3, a4, a5, rfl⟩ := cfg_open (hval 0 23 v0 rfl rfl) h0
  obtain ⟨sa, len, cap, rfl, hlc, hs⟩ := script_open (hval 1 24 v1 rfl rfl) h1 (fun k hk => by
    have := List.all_eq_true.1 hz k (DataW.weights_mem_each (j := 1) rfl rfl k hk)
    simpa using this)
  refine (entries3_any a0 a1 a2 a3 a4 a5 sa len cap W (handle_laid hL) hs hlc).mono fun e W' ⟨he, hb⟩ => ?_
  subst he
  refine ⟨_, rfl, _, _, _, [], p0 ++ (p1 ++ []), [], hW', ?_, ?_, ?_, hb.frame _, fun h => by cases h⟩
  · exact trodAll_cons_mk (shut_bool Tryz.underlying4 _) trodAll_mk0
  · exact trodAll_cons_mk (Below.trod laidOut read23 (by rw [typesSize]; decide) h0 hb (fun x hx => hlt x (by simp [hx]))) (trodAll_cons_mk (Below.trod laidOut read24 (by rw [typesSize]; decide) h1 hb (fun x hx => hlt x (by simp [hx]))) trodAll_mk0)
  · rfl

noncomputable def laidWorld (os : Os) : World :=
  let w0 := World.holding Tryz.prog os ⟨#[], #[], []⟩
  { w0 with heap := w0.heap.modify 0 fun
      | .cells _ t frozen => .cells #[.iface 237 (.agg #[.pointer (some ⟨1, 104, none⟩)])] t frozen
      | o => o }
noncomputable def noArgs : Array Value := #[.agg #[.int .i64 0, .int .i64 0, .int .i64 0, .int .i64 0, .int .i64 0, .int .i64 0], .slice none 0 0]
theorem laid_met (os : Os) : laidMetH Tryz.prog Rows.entriesRow.laid ((laidWorld os).forCall (fun _ _ => 0) ⟨#[], noArgs, []⟩).memory :=
  laidMetH_of_parts (laidMet_nil _ _) (by kernel_rfl)
theorem reads_none (os : Os) {H : Type} (enc : TypeId × Value → H) : ∃ places, DataW.whole enc Tryz.prog ((laidWorld os).forCall (fun _ _ => 0) ⟨#[], noArgs, []⟩).memory Tryz.f3.params.toList Rows.entriesSpec.vars false noArgs.toList 8 = some ([.agg [.lit (.int .i64 0), .lit (.int .i64 0), .lit (.int .i64 0), .lit (.int .i64 0), .lit (.int .i64 0), .lit (.int .i64 0)], .nil], [], places) :=
  ⟨[], by kernel_rfl⟩

set_option maxRecDepth 100000 in
theorem entries_lifted (os : Os) (started : os.Started) (H : Type) (enc : TypeId × Value → H) (F : Stop.Interp) :
    ReturnsInHanded {} Tryz.checked os 3 .any ((OpenSpec.ofChange Rows.entriesSpec).preRow enc Tryz.prog Tryz.f3 Rows.entriesRow.domain false Rows.entriesRow.laid) (((OpenSpec.ofChange Rows.entriesSpec).at F).post enc Tryz.prog Tryz.f3 false true false false) := by
  obtain ⟨places, hx⟩ := reads_none os enc
  refine returnsInHanded_of_row (C := Tryz.checked) (s := OpenSpec.ofChange Rows.entriesSpec) knob started (by kernel_rfl) Tryz.func3
    (witness_row_at (enc := enc) (C := Tryz.checked) false (laidWorld os) noArgs rfl (by kernel_rfl) (by kernel_rfl) (by kernel_rfl)
      (OpenSpec.preRow_of_cond 8 hx (by kernel_rfl) (fun k hk => by cases hk) (by kernel_rfl) (laid_met os))) ?_
  intro W base args ds gs before hval hW _ _ hz hL _ _
  exact entries_contract H enc W base args ds gs before hval hW hz hL

set_option maxRecDepth 100000 in
theorem entries_said : Rows.EntriesSaid :=
  OpenClaim.holds_of_cond 3 Tryz.f3 rfl rfl rfl rfl rfl rfl rfl ⟨rfl, rfl, rfl, rfl, rfl⟩ rfl rfl rfl rfl rfl (by kernel_rfl) Tryz.func3 (by kernel_rfl)
    (of_decide_eq_true (by kernel_rfl)) (by unfold Func.isWrapper; first | (rw [if_pos (by decide +kernel)]; kernel_rfl) | (rw [if_neg (by decide +kernel)]; exact ⟨rfl, rfl⟩))
    (fun os started H enc _ F => by rw [OpenClaim.pre_eq_preRow]; exact entries_lifted os started H enc F)

theorem entries_plain (f : FuncId) (fn : Func) (hf : Tryz.pinned.checked.prog.funcNamed "nearby/nearbylaw.Entries" = some f) (hfn : Tryz.pinned.checked.prog.funcs[f]? = some fn) :
    true = Tryz.pinned.checked.prog.looks [] ∧ ∀ (j : Nat) t, fn.params[j]? = some t → Tryz.pinned.checked.prog.wantsStandIn t = false := by
  obtain rfl : f = 3 := Option.some.inj ((show Tryz.prog.funcNamed "nearby/nearbylaw.Entries" = some 3 by kernel_rfl).symm.trans hf) |>.symm
  obtain rfl : fn = Tryz.f3 := (Option.some.inj (Tryz.func3.symm.trans hfn)).symm
  refine ⟨by kernel_rfl, fun j t ht => ?_⟩
  rw [Tryz.params3] at ht
  have hm := Array.mem_of_getElem? ht
  simp at hm
  rcases hm with rfl | rfl
  · exact (show Tryz.prog.wantsStandIn 23 = false by kernel_rfl)
  · exact (show Tryz.prog.wantsStandIn 24 = false by kernel_rfl)

theorem entries_card : Rows.EntriesCardSaid :=
  Claim7.holds_tied_plain_at .later [] _ _ _ _ entries_said (fun _ h => by cases h) (by kernel_rfl) (fun _ h => by cases h) entries_row_tie rfl ⟨rfl, rfl⟩ (by kernel_rfl) rfl entries_plain (by kernel_rfl)
end Go.Proofs.YtpkiefjanmfgfaaGreatDoor
namespace Go.Proofs.YtpkiefjanmfgfaaGreatDoor
open Go.RowKit Go.Extern.Stop Go.Stop Go.Extern

set_option maxHeartbeats 8000000 in
set_option maxRecDepth 10000 in
theorem as69_three (s s2 s3 : ByteArray) (n n2 n3 r : Int) (t a : Addr) (old : Value) (w : World) (ha : w.cell? a = some (.pointer (some t))) (ht0 : w.cell? t = some old) (hf0 : w.frozen? t = false) :
    Calls Tryz.prog 132 #[.iface 158 (.agg #[.string s, .int .i64 n, .iface 158 (.agg #[.string s2, .int .i64 n2, .iface 158 (.agg #[.string s3, .int .i64 n3, .iface 156 (.int .i64 r)])])]), .iface 160 (.pointer (some t)), .agg #[.pointer (some ⟨1, 160, none⟩), .pointer (some a), .int .u64 150], .iface 237 (.agg #[.pointer (some ⟨1, 156, none⟩)])] w
      fun ev w' => ev = .returned (.bool true) ∧ ∃ o1 o2 o3 o4 o5, w' = (((((w.alloc o1).alloc o2).alloc o3).alloc o4).alloc o5).setCell t (.int .i64 r) := by
  have h66 := @run_callFunc_extern Tryz.prog 129 _ (fun args => ReflectliteValue.unpack (args.getD 0 (.tuple #[]))) Tryz.func129 (by kernel_rfl) (by kernel_rfl) (by kernel_rfl) (by kernel_rfl)
  have h73 := @run_callFunc_extern Tryz.prog 158 _ ReflectliteType.typeOf Tryz.func158 (by kernel_rfl) (by kernel_rfl) (by kernel_rfl) (by kernel_rfl)
  have h101 := @run_callFunc_extern Tryz.prog 226 _ (ReflectliteType.relation "AssignableTo" ReflectliteType.assignableTo) Tryz.func226 (by kernel_rfl) (by kernel_rfl) (by kernel_rfl) (by kernel_rfl)
  have h74 := @run_callFunc_extern Tryz.prog 159 _ (ReflectliteValue.method (ReflectliteValue.valueError "reflectlite.Value.Elem" 0) ReflectliteValue.elem) Tryz.func159 (by kernel_rfl) (by kernel_rfl) (by kernel_rfl) (by kernel_rfl)
  have h75 := @run_callFunc_extern Tryz.prog 160 _ ReflectliteValue.set Tryz.func160 (by kernel_rfl) (by kernel_rfl) (by kernel_rfl) (by kernel_rfl)
  have f1 := typeOf115
  have f2 := typeOf117
  have f3 := methodAssignableTo
  have f4 := assignable115
  have f5 := assignable117
  have f6 := valueOf115
  have f16 := noAs117
  have f17 := hasUnwrap117
  have f18 := methodUnwrap
  have hal := block_lt_of_cell ha
  have htl := block_lt_of_cell ht0
  have ca : ∀ o1 o2 o3 o4, ((((w.alloc o1).alloc o2).alloc o3).alloc o4).cell? a = some (.pointer (some t)) := fun o1 o2 o3 o4 => by
    rw [World.cell?_alloc_lt _ _ a (by simp; omega), World.cell?_alloc_lt _ _ a (by simp; omega), World.cell?_alloc_lt _ _ a (by simp; omega), World.cell?_alloc_lt _ _ a hal]; exact ha
  have el := fun o1 o2 o3 o4 => elemV119 a t _ (ca o1 o2 o3 o4)
  have st := fun o1 o2 o3 o4 => set115 t ⟨w.heap.size + 1 + 1 + 1 + 1, 0, none⟩ r old (((((w.alloc o1).alloc o2).alloc o3).alloc o4).alloc (.cells #[.int .i64 r] 156))
    (by rw [World.cell?_alloc_at _ _ _ _ (by simp)]; rfl)
    (by rw [World.cell?_alloc_lt _ _ t (by simp; omega), World.cell?_alloc_lt _ _ t (by simp; omega), World.cell?_alloc_lt _ _ t (by simp; omega), World.cell?_alloc_lt _ _ t (by simp; omega), World.cell?_alloc_lt _ _ t htl]; exact ht0)
    (by rw [World.frozen?_alloc_old _ _ t (by simp; omega), World.frozen?_alloc_old _ _ t (by simp; omega), World.frozen?_alloc_old _ _ t (by simp; omega), World.frozen?_alloc_old _ _ t (by simp; omega), World.frozen?_alloc_old _ _ t (by omega)]; exact hf0)
  clear ca
  go_enter Tryz.func132, Tryz.ntmps132
  go_wp2
  refine wp_loop_rounds 4 ?_
  rw [rounds_succ]
  go_wp2
  rw [rounds_succ]
  go_wp2
  rw [rounds_succ]
  go_wp2
  rw [rounds_succ]
  go_wp2
  go_ret
  exact ⟨rfl, _, _, _, _, _, rfl⟩

set_option maxHeartbeats 8000000 in
set_option maxRecDepth 10000 in
theorem as_three (s s2 s3 : ByteArray) (n n2 n3 r : Int) (t : Addr) (old : Value) (w : World) (hg : w.cell? ⟨0, 0, none⟩ = some (.iface 237 (.agg #[.pointer (some ⟨1, 104, none⟩)]))) (ht0 : w.cell? t = some old) (hf0 : w.frozen? t = false) :
    Calls Tryz.prog 87 #[.iface 158 (.agg #[.string s, .int .i64 n, .iface 158 (.agg #[.string s2, .int .i64 n2, .iface 158 (.agg #[.string s3, .int .i64 n3, .iface 156 (.int .i64 r)])])]), .iface 160 (.pointer (some t))] w fun ev w' => ev = .returned (.bool true) ∧ w'.cell? t = some (.int .i64 r) ∧ Below t.block w w' := by
  have h66 := @run_callFunc_extern Tryz.prog 129 _ (fun args => ReflectliteValue.unpack (args.getD 0 (.tuple #[]))) Tryz.func129 (by kernel_rfl) (by kernel_rfl) (by kernel_rfl) (by kernel_rfl)
  have h67 := @run_callFunc_extern Tryz.prog 130 _ (ReflectliteValue.methodAny (ReflectliteValue.valueError "reflectlite.Value.Type" 0) (fun t _ _ _ => ReflectliteType.toType t)) Tryz.func130 (by kernel_rfl) (by kernel_rfl) (by kernel_rfl) (by kernel_rfl)
  have h68 := @run_callFunc_extern Tryz.prog 131 _ (ReflectliteValue.method (ReflectliteValue.valueError "reflectlite.Value.IsNil" 0) ReflectliteValue.isNil) Tryz.func131 (by kernel_rfl) (by kernel_rfl) (by kernel_rfl) (by kernel_rfl)
  have h91 := @run_callFunc_extern Tryz.prog 216 _ (ReflectliteType.abiMethod fun t => do pure (.int .u8 (← Rtype.kind t))) Tryz.func216 (by kernel_rfl) (by kernel_rfl) (by kernel_rfl) (by kernel_rfl)
  have h103 := @run_callFunc_extern Tryz.prog 228 _ (ReflectliteType.method ReflectliteType.elem) Tryz.func228 (by kernel_rfl) (by kernel_rfl) (by kernel_rfl) (by kernel_rfl)
  have h104 := @run_callFunc_extern Tryz.prog 229 _ (ReflectliteType.relation "Implements" ReflectliteType.implements_) Tryz.func229 (by kernel_rfl) (by kernel_rfl) (by kernel_rfl) (by kernel_rfl)
  have f7 := valueOf119
  have f8 := type119
  have f9 := methodKind
  have f10 := methodElem
  have f11 := methodImplements
  have f12 := kind119
  have f13 := kind115
  have f14 := elem119
  have f15 := implements115
  have hlt := block_lt_of_cell hg
  have htl := block_lt_of_cell ht0
  have n8 := isNil119 ⟨w.heap.size, 0, none⟩ t ((w.alloc (.cells #[.pointer (some t)] 160)).alloc (.cells #[.pointer (some ⟨1, 160, none⟩), .pointer (some ⟨w.heap.size, 0, none⟩), .int .u64 150] 207)) (by simp)
  have hg2 : ((w.alloc (.cells #[.pointer (some t)] 160)).alloc (.cells #[.pointer (some ⟨1, 160, none⟩), .pointer (some ⟨w.heap.size, 0, none⟩), .int .u64 150] 207)).cell? ⟨0, 0, none⟩ = some (.iface 237 (.agg #[.pointer (some ⟨1, 104, none⟩)])) := by
    rw [World.cell?_alloc_lt _ _ ⟨0, 0, none⟩ (by simp), World.cell?_alloc_lt _ _ ⟨0, 0, none⟩ hlt]; exact hg
  go_enter Tryz.func87, Tryz.ntmps87
  go_wp2_with fail
  refine (as69_three s s2 s3 n n2 n3 r t ⟨w.heap.size, 0, none⟩ old _ ?c1 ?c2 ?c3).mono ?_
  case c1 => simp
  case c2 => rw [World.cell?_alloc_lt _ _ t (by first | omega | (simp; omega)), World.cell?_alloc_lt _ _ t htl]; exact ht0
  case c3 => rw [World.frozen?_alloc_old _ _ t (by first | omega | (simp; omega)), World.frozen?_alloc_old _ _ t (by omega)]; exact hf0
  rintro e w' ⟨rfl, o1, o2, o3, o4, o5, rfl⟩
  go_wp2
  go_ret
  refine ⟨rfl, World.cell?_setCell_same _ _ _ (u := old) ?_, ?_⟩
  · rw [World.cell?_alloc_lt _ _ t (by first | omega | (simp; omega)), World.cell?_alloc_lt _ _ t (by first | omega | (simp; omega)), World.cell?_alloc_lt _ _ t (by first | omega | (simp; omega)), World.cell?_alloc_lt _ _ t (by first | omega | (simp; omega)), World.cell?_alloc_lt _ _ t (by first | omega | (simp; omega)), World.cell?_alloc_lt _ _ t (by first | omega | (simp; omega)), World.cell?_alloc_lt _ _ t htl]; exact ht0
  · refine Below.setCell ?_ (Nat.le_refl _) _
    exact Below.alloc (Below.alloc (Below.alloc (Below.alloc (Below.alloc (Below.alloc (Below.alloc (Below.refl _ _) (by first | omega | (simp; omega)) _) (by first | omega | (simp; omega)) _) (by first | omega | (simp; omega)) _) (by first | omega | (simp; omega)) _) (by first | omega | (simp; omega)) _) (by first | omega | (simp; omega)) _) (by first | omega | (simp; omega)) _

set_option maxHeartbeats 1000000 in
theorem errno_three (s s2 s3 : ByteArray) (n n2 n3 r : Int) (w : World) (hg : Handle w) :
    Calls Tryz.prog 43 #[.iface 158 (.agg #[.string s, .int .i64 n, .iface 158 (.agg #[.string s2, .int .i64 n2, .iface 158 (.agg #[.string s3, .int .i64 n3, .iface 156 (.int .i64 r)])])])] w fun e w' => e = .returned (.int .i64 r) ∧ Below w.heap.size w w' := by
  go_enter Tryz.func43, Tryz.ntmps43
  go_wp2_with fail
  refine (as_three s s2 s3 n n2 n3 r ⟨w.heap.size, 0, none⟩ (.int .i64 0) _ (hg.alloc _) ?c2 ?c3).mono ?_
  case c2 => simp
  case c3 => simp
  rintro e w1 ⟨rfl, hc, hb⟩
  go_wp2
  go_ret
  exact ⟨rfl, ((Below.refl _ _).alloc (Nat.le_refl _) _).trans hb⟩
end Go.Proofs.YtpkiefjanmfgfaaGreatDoor
namespace Go.Proofs.YtpkiefjanmfgfaaGreatDoor
open Go.RowKit Go.Maps

def ErrN : Nat → Int → Value → Prop
  | 0, r, v => v = .iface 156 (.int .i64 r)
  | n + 1, r, v => ∃ s m u, v = .iface 158 (.agg #[.string s, .int .i64 m, u]) ∧ ErrN n r u
def ErrD (d : Nat) (r : Int) (v : Value) : Prop := (r = 0 ∧ v = .nilIface) ∨ (r ≠ 0 ∧ ∃ k, 1 ≤ k ∧ k ≤ d ∧ ErrN k r v)
theorem ErrD.mono {d d' : Nat} {r : Int} {v : Value} (h : ErrD d r v) (hd : d ≤ d') : ErrD d' r v := h.imp id fun ⟨h1, k, h2, h3, h4⟩ => ⟨h1, k, h2, Nat.le_trans h3 hd, h4⟩
theorem ErrD.one {r : Int} (h : r ≠ 0) (s : ByteArray) (m : Int) : ErrD 1 r (.iface 158 (.agg #[.string s, .int .i64 m, .iface 156 (.int .i64 r)])) := .inr ⟨h, 1, Nat.le_refl _, Nat.le_refl _, s, m, _, rfl, rfl⟩
theorem ErrD.of_isErr {r : Int} {v : Value} (h : IsErr r v) : ErrD 2 r v := by
  rcases h with ⟨h0, rfl⟩ | ⟨h0, ⟨s, n, rfl⟩ | ⟨s, n, s2, n2, rfl⟩⟩
  · exact .inl ⟨h0, rfl⟩
  · exact .inr ⟨h0, 1, by omega, by omega, s, n, _, rfl, rfl⟩
  · exact .inr ⟨h0, 2, by omega, by omega, s, n, _, rfl, s2, n2, _, rfl, rfl⟩
theorem errno_deep (r : Int) (v : Value) (w : World) (hv : ErrD 3 r v) (hg : Handle w) :
    Calls Tryz.prog 43 #[v] w fun e w' => e = .returned (.int .i64 r) ∧ Below w.heap.size w w' := by
  rcases hv with ⟨rfl, rfl⟩ | ⟨_, k, h1, h3, hk⟩
  · exact errno_nil w
  · match k, h1, h3, hk with
    | 1, _, _, ⟨s, m, u, e, e2⟩ =>
      subst e; obtain rfl : u = _ := e2
      exact errno_one s m r w hg
    | 2, _, _, ⟨s, m, u, e, s2, m2, u2, e2, e3⟩ =>
      subst e; subst e2; obtain rfl : u2 = _ := e3
      exact errno_two s s2 m m2 r w hg
    | 3, _, _, ⟨s, m, u, e, s2, m2, u2, e2, s3, m3, u3, e3, e4⟩ =>
      subst e; subst e2; subst e3; obtain rfl : u3 = _ := e4
      exact errno_three s s2 s3 m m2 m3 r w hg

abbrev Cnd := Int × Int × Int
def okCode (b : Bool) : Int := if b = true then 0 else 7
theorem okCode_true : okCode true = 0 := rfl
theorem okCode_false : okCode false = 7 := rfl
def condB (c : Cnd) : Bool := inB c.1 0 1 && inB c.2.1 0 3
def clauseB (cs : List Cnd) : Bool := decide (cs.length ≤ 6) && cs.all condB
def filtB (F : List (List Cnd)) : Bool := decide (F.length ≤ 6) && F.all clauseB
def CondsAt (w : World) (v : Value) (cs : List Cnd) : Prop :=
  ∃ a cap, v = .slice a cs.length cap ∧ cs.length ≤ cap ∧ cs.length ≤ 17592186044416 ∧
    (cs = [] ∨ ∃ b off, a = some ⟨b, off, none⟩ ∧ ∀ i, i < cs.length → w.cell? ⟨b, off + i * 3, none⟩ = some (.int .i64 (cs.getD i (0, 0, 0)).1) ∧ w.cell? ⟨b, off + i * 3 + 1, none⟩ = some (.int .i64 (cs.getD i (0, 0, 0)).2.1) ∧ w.cell? ⟨b, off + i * 3 + 2, none⟩ = some (.int .i64 (cs.getD i (0, 0, 0)).2.2))
def FiltAt (w : World) (v : Value) (F : List (List Cnd)) : Prop :=
  ∃ a cap, v = .slice a F.length cap ∧ F.length ≤ cap ∧ F.length ≤ 17592186044416 ∧
    (F = [] ∨ ∃ b off, a = some ⟨b, off, none⟩ ∧ ∀ i, i < F.length → ∃ u, w.cell? ⟨b, off + i, none⟩ = some u ∧ CondsAt w u (F.getD i []))
theorem CondsAt.below {w w' : World} {v : Value} {cs : List Cnd} (h : CondsAt w v cs) (hb : Below w.heap.size w w') : CondsAt w' v cs := by
  obtain ⟨a, cap, rfl, h1, h2, h3⟩ := h
  refine ⟨a, cap, rfl, h1, h2, h3.imp id ?_⟩
  rintro ⟨b, off, rfl, hc⟩
  exact ⟨b, off, rfl, fun i hi => ⟨cell_below (hc i hi).1 hb, cell_below (hc i hi).2.1 hb, cell_below (hc i hi).2.2 hb⟩⟩
theorem FiltAt.below {w w' : World} {v : Value} {F : List (List Cnd)} (h : FiltAt w v F) (hb : Below w.heap.size w w') : FiltAt w' v F := by
  obtain ⟨a, cap, rfl, h1, h2, h3⟩ := h
  refine ⟨a, cap, rfl, h1, h2, h3.imp id ?_⟩
  rintro ⟨b, off, rfl, hc⟩
  refine ⟨b, off, rfl, fun i hi => ?_⟩
  obtain ⟨u, hu, hcu⟩ := hc i hi
  exact ⟨u, cell_below hu hb, hcu.below hb⟩

set_option maxHeartbeats 1000000 in
theorem condition159 (t o v : Int) (w : World) : Calls Tryz.prog 169 #[.agg #[.int .i64 t, .int .i64 o, .int .i64 v]] w fun e w' => (∃ u, e = .returned u ∧ ErrD 1 (okCode (condB (t, o, v))) u) ∧ Below w.heap.size w w' := by
  have hc : condB (t, o, v) = (inB t 0 1 && inB o 0 3) := rfl
  rw [hc]
  clear hc
  have hB : ∀ ob, Below w.heap.size w (w.alloc ob) := fun ob => (Below.refl _ _).alloc (Nat.le_refl _) _
  cases h1 : inB t 0 1
  · go_enter Tryz.func169, Tryz.ntmps169
    go_wp2_with (go_at_call 86; refine (within_any _ _ _ _).mono ?_; rintro e w' ⟨rfl, rfl⟩)
    go_ret
    exact ⟨⟨_, rfl, by rw [Bool.false_and, okCode_false]; exact ErrD.one (by decide) _ _⟩, hB _⟩
  · cases h2 : inB o 0 3
    · go_enter Tryz.func169, Tryz.ntmps169
      go_wp2_with (go_at_call 86; refine (within_any _ _ _ _).mono ?_; rintro e w' ⟨rfl, rfl⟩)
      go_ret
      exact ⟨⟨_, rfl, ErrD.one (by decide) _ _⟩, hB _⟩
    · go_enter Tryz.func169, Tryz.ntmps169
      go_wp2_with (go_at_call 86; refine (within_any _ _ _ _).mono ?_; rintro e w' ⟨rfl, rfl⟩)
      go_ret
      exact ⟨⟨_, rfl, .inl ⟨rfl, rfl⟩⟩, hB _⟩

theorem ErrD.up {d : Nat} {r : Int} {u : Value} (h : ErrD d r u) (hr : r ≠ 0) (s : ByteArray) (m : Int) : ErrD (d + 1) r (.iface 158 (.agg #[.string s, .int .i64 m, u])) := by
  rcases h with ⟨h0, _⟩ | ⟨h0, k, h1, h2, h3⟩
  · exact absurd h0 hr
  · exact .inr ⟨h0, k + 1, by omega, by omega, s, m, u, rfl, h3⟩
theorem ErrD.shape {d : Nat} {r : Int} {u : Value} (h : ErrD d r u) (hr : r ≠ 0) : ∃ x, u = .iface 158 x := by
  rcases h with ⟨h0, _⟩ | ⟨h0, k, h1, h2, h3⟩
  · exact absurd h0 hr
  · match k, h1, h3 with
    | n + 1, _, ⟨s, m, u', e, _⟩ => exact ⟨_, e⟩
theorem all_take_succ {α : Type} (p : α → Bool) (xs : List α) (k : Nat) (d : α) (h : k < xs.length) : (xs.take (k + 1)).all p = ((xs.take k).all p && p (xs.getD k d)) := by
  rw [List.take_succ_eq_append_getElem h, List.all_append]
  simp [List.getD_eq_getElem?_getD, h]
theorem all_bad {α : Type} {p : α → Bool} {xs : List α} {k : Nat} {d : α} (h : k < xs.length) (hb : p (xs.getD k d) = false) : xs.all p = false := by
  rw [List.all_eq_false]
  refine ⟨xs.getD k d, ?_, by rw [hb]; decide⟩
  simp [List.getD_eq_getElem?_getD, h]

set_option maxHeartbeats 2000000 in
set_option maxRecDepth 20000 in
theorem clause139 (v : Value) (cs : List Cnd) (w : World) (h : CondsAt w v cs) : Calls Tryz.prog 146 #[v] w fun e w' => (∃ u, e = .returned u ∧ ErrD 2 (okCode (clauseB cs)) u) ∧ Below w.heap.size w w' := by
  obtain ⟨a, cap, rfl, hcap, hm, hx⟩ := h
  by_cases h6 : cs.length ≤ 6
  · have hd : decide (6 < (cs.length : Int)) = false := decide_eq_false (by omega)
    have HCB : Hid (clauseB cs = cs.all condB) := by
      show _ = _
      unfold clauseB
      simp [h6]
    have HX := hide hx
    clear hx
    go_enter Tryz.func146, Tryz.ntmps146
    go_wp2
    go_loopw [3, 4, 5, 16] (fun _ _ _ i wr => ∃ k : Nat, i = .int .i64 k ∧ k ≤ cs.length ∧ Hid ((cs.take k).all condB = true) ∧ Hid (Below w.heap.size w wr)) (fun _ _ _ i _ => cs.length - (intOf i).toNat)
    case atStart => exact ⟨0, rfl, Nat.zero_le _, rfl, Below.refl _ _⟩
    case round =>
      obtain ⟨k, rfl, hk, HA, HB⟩ := hrel
      by_cases hlt : k < cs.length
      · obtain ⟨b, off, rfl, hc⟩ : ∃ b off, a = some ⟨b, off, none⟩ ∧ ∀ i, i < cs.length → w.cell? ⟨b, off + i * 3, none⟩ = some (.int .i64 (cs.getD i (0, 0, 0)).1) ∧ w.cell? ⟨b, off + i * 3 + 1, none⟩ = some (.int .i64 (cs.getD i (0, 0, 0)).2.1) ∧ w.cell? ⟨b, off + i * 3 + 2, none⟩ = some (.int .i64 (cs.getD i (0, 0, 0)).2.2) := by
          rcases HX.out with rfl | h
          · exact absurd hlt (Nat.not_lt_zero _)
          · exact h
        obtain ⟨c0, c1, c2⟩ := hc k hlt
        have y0 := cell_below c0 HB.out
        have y1 := cell_below c1 HB.out
        have y2 := cell_below c2 HB.out
        have HS : Hid ((cs.take (k + 1)).all condB = ((cs.take k).all condB && condB (cs.getD k (0, 0, 0)))) := all_take_succ condB cs k _ hlt
        have HBD : Hid (condB (cs.getD k (0, 0, 0)) = false → cs.all condB = false) := fun h => all_bad hlt h
        generalize cs.getD k (0, 0, 0) = c at y0 y1 y2 HS HBD
        obtain ⟨t, o, x⟩ := c
        simp only at y0 y1 y2
        have hcd := condition159 t o x (wr.alloc (.cells #[.int .i64 t, .int .i64 o, .int .i64 x] 72))
        have HCD := hide hcd
        clear hcd hc c0 c1 c2
        cases hcb : condB (t, o, x)
        · rw [hcb, okCode_false] at HCD
          go_wp2_with fail
          refine HCD.out.mono ?_
          rintro e3 w3 ⟨⟨u, rfl, he⟩, hb3⟩
          obtain ⟨ux, rfl⟩ := he.shape (by decide)
          have HE := hide he
          have hB3 := HB.out.trans ((((Below.refl _ _).alloc (Nat.le_refl _) _).trans (hb3.mono (by simp))).mono HB.out.size)
          clear y0 y1 y2 hb3 he
          go_wp2
          go_ret
          refine ⟨⟨_, rfl, ?_⟩, hB3⟩
          rw [HCB.out, HBD.out hcb, okCode_false]
          exact HE.out.up (by decide) _ _
        · rw [hcb, okCode_true] at HCD
          go_wp2_with fail
          refine HCD.out.mono ?_
          rintro e3 w3 ⟨⟨u, rfl, he⟩, hb3⟩
          obtain rfl : u = .nilIface := by
            rcases he with ⟨_, h⟩ | ⟨h, _⟩
            · exact h
            · exact absurd rfl h
          have hB3 := HB.out.trans ((((Below.refl _ _).alloc (Nat.le_refl _) _).trans (hb3.mono (by simp))).mono HB.out.size)
          clear y0 y1 y2 hb3 he
          go_wp2
          refine ⟨⟨k + 1, by go_num, by omega, ?_, hB3⟩, by simp [intOf]; omega⟩
          show _ = _
          rw [HS.out, HA.out, hcb]; rfl
      · go_wp2
        go_ret
        obtain rfl : k = cs.length := by omega
        have := HA.out
        rw [List.take_length] at this
        exact ⟨⟨_, rfl, .inl ⟨by rw [HCB.out, this]; rfl, rfl⟩⟩, HB.out⟩
  · have hd : decide (6 < (cs.length : Int)) = true := decide_eq_true (by omega)
    have hcb : clauseB cs = false := by
      unfold clauseB
      simp [h6]
    go_enter Tryz.func146, Tryz.ntmps146
    go_wp2
    go_ret
    refine ⟨⟨_, rfl, ?_⟩, Below.refl _ _⟩
    rw [hcb]
    exact (ErrD.one (by decide) _ _).mono (by omega)

set_option maxHeartbeats 2000000 in
set_option maxRecDepth 20000 in
theorem filter96 (v : Value) (F : List (List Cnd)) (w : World) (h : FiltAt w v F) : Calls Tryz.prog 100 #[.agg #[v]] w fun e w' => (∃ u, e = .returned u ∧ ErrD 3 (okCode (filtB F)) u) ∧ Below w.heap.size w w' := by
  obtain ⟨a, cap, rfl, hcap, hm, hx⟩ := h
  have hB0 : Below w.heap.size w (w.alloc (.cells #[.slice a F.length cap] 47)) := (Below.refl _ _).alloc (Nat.le_refl _) _
  by_cases h6 : F.length ≤ 6
  · have hd : decide (6 < (F.length : Int)) = false := decide_eq_false (by omega)
    have HCB : Hid (filtB F = F.all clauseB) := by
      show _ = _
      unfold filtB
      simp [h6]
    have HX := hide hx
    have HB0 := hide hB0
    clear hx hB0
    go_enter Tryz.func100, Tryz.ntmps100
    go_wp2
    generalize hwe : w.alloc (.cells #[.slice a F.length cap] 47) = w1 at HB0 ⊢
    clear hwe
    go_loopw [3, 4, 5, 19] (fun _ _ _ i wr => ∃ k : Nat, i = .int .i64 k ∧ k ≤ F.length ∧ Hid ((F.take k).all clauseB = true) ∧ Hid (Below w.heap.size w wr)) (fun _ _ _ i _ => F.length - (intOf i).toNat)
    case atStart => exact ⟨0, rfl, Nat.zero_le _, rfl, HB0.out⟩
    case round =>
      obtain ⟨k, rfl, hk, HA, HB⟩ := hrel
      by_cases hlt : k < F.length
      · obtain ⟨b, off, rfl, hc⟩ : ∃ b off, a = some ⟨b, off, none⟩ ∧ ∀ i, i < F.length → ∃ u, w.cell? ⟨b, off + i, none⟩ = some u ∧ CondsAt w u (F.getD i []) := by
          rcases HX.out with rfl | h
          · exact absurd hlt (Nat.not_lt_zero _)
          · exact h
        obtain ⟨u, hu, hcu⟩ := hc k hlt
        have y0 := cell_below hu HB.out
        have hcr := hcu.below HB.out
        have HS : Hid ((F.take (k + 1)).all clauseB = ((F.take k).all clauseB && clauseB (F.getD k []))) := all_take_succ clauseB F k _ hlt
        have HBD : Hid (clauseB (F.getD k []) = false → F.all clauseB = false) := fun h => all_bad hlt h
        generalize F.getD k [] = cs at hcr HS HBD
        have hcl := clause139 u cs wr hcr
        obtain ⟨ua, uc, rfl, _⟩ := hcr
        have HCL := hide hcl
        clear hcl hc hu hcu
        cases hcb : clauseB cs
        · rw [hcb, okCode_false] at HCL
          go_wp2_with fail
          refine HCL.out.mono ?_
          rintro e3 w3 ⟨⟨u, rfl, he⟩, hb3⟩
          obtain ⟨ux, rfl⟩ := he.shape (by decide)
          have HE := hide he
          have hB3 := HB.out.trans (hb3.mono HB.out.size)
          clear y0 hb3 he
          go_wp2
          go_ret
          refine ⟨⟨_, rfl, ?_⟩, hB3⟩
          rw [HCB.out, HBD.out hcb, okCode_false]
          exact HE.out.up (by decide) _ _
        · rw [hcb, okCode_true] at HCL
          go_wp2_with fail
          refine HCL.out.mono ?_
          rintro e3 w3 ⟨⟨u, rfl, he⟩, hb3⟩
          obtain rfl : u = .nilIface := by
            rcases he with ⟨_, h⟩ | ⟨h, _⟩
            · exact h
            · exact absurd rfl h
          have hB3 := HB.out.trans (hb3.mono HB.out.size)
          clear y0 hb3 he
          go_wp2
          refine ⟨⟨k + 1, by go_num, by omega, ?_, hB3⟩, by simp [intOf]; omega⟩
          show _ = _
          rw [HS.out, HA.out, hcb]; rfl
      · go_wp2
        go_ret
        obtain rfl : k = F.length := by omega
        have := HA.out
        rw [List.take_length] at this
        exact ⟨⟨_, rfl, .inl ⟨by rw [HCB.out, this]; rfl, rfl⟩⟩, HB.out⟩
  · have hd : decide (6 < (F.length : Int)) = true := decide_eq_true (by omega)
    have hcb : filtB F = false := by
      unfold filtB
      simp [h6]
    go_enter Tryz.func100, Tryz.ntmps100
    go_wp2
    go_ret
    refine ⟨⟨_, rfl, ?_⟩, hB0⟩
    rw [hcb]
    exact (ErrD.one (by decide) _ _).mono (by omega)

def schCode (dim : Int) (xs : List Int) (k beam : Int) (F : List (List Cnd)) : Int :=
  if ptCode dim xs ≠ 0 then ptCode dim xs else if inB k 1 60 = true ∧ inB beam 1 100 = true then okCode (filtB F) else 6

set_option maxHeartbeats 2000000 in
set_option maxRecDepth 20000 in
theorem search47 (dim : Int) (pv : Value) (xs : List Int) (k beam : Int) (fv : Value) (F : List (List Cnd)) (w : World) (hp : IntsAt w pv xs) (hf : FiltAt w fv F) :
    Calls Tryz.prog 50 #[pv, .int .i64 dim, .int .i64 k, .int .i64 beam, .agg #[fv]] w fun e w' => (∃ u, e = .returned u ∧ ErrD 3 (schCode dim xs k beam F) u) ∧ Below w.heap.size w w' := by
  have hB0 : Below w.heap.size w (w.alloc (.cells #[fv] 47)) := (Below.refl _ _).alloc (Nat.le_refl _) _
  have hpt := point27_any xs pv dim (w.alloc (.cells #[fv] 47)) (by
    obtain ⟨a, cap, rfl, h1, h2, h3⟩ := hp
    refine ⟨a, cap, rfl, h1, h2, h3.imp id ?_⟩
    rintro ⟨b, off, rfl, hc⟩
    exact ⟨b, off, rfl, fun i hi => cell_below (hc i hi) hB0⟩)
  obtain ⟨pa, pcap, rfl, _⟩ := hp
  obtain ⟨fa, fcap, rfl, _⟩ := id hf
  have HPT := hide hpt
  have HF := hide hf
  have HB0 := hide hB0
  have HSC : Hid (schCode dim xs k beam F = if ptCode dim xs ≠ 0 then ptCode dim xs else if inB k 1 60 = true ∧ inB beam 1 100 = true then okCode (filtB F) else 6) := rfl
  clear hpt hf hB0
  generalize schCode dim xs k beam F = sc at HSC
  by_cases hpc : ptCode dim xs = 0
  · rw [hpc] at HPT
    have HSC2 : Hid (sc = if inB k 1 60 = true ∧ inB beam 1 100 = true then okCode (filtB F) else 6) := by
      have := HSC.out
      rw [hpc] at this
      show sc = _
      simpa using this
    go_enter Tryz.func50, Tryz.ntmps50
    go_wp2_with fail
    refine HPT.out.mono ?_
    rintro e1 w1 ⟨⟨u, rfl, hu⟩, hb1⟩
    obtain rfl : u = .nilIface := by
      rcases hu with ⟨_, h⟩ | ⟨h, _⟩
      · exact h
      · exact absurd rfl h
    have hB1 := HB0.out.trans (hb1.mono HB0.out.size)
    have hz : w1.cell? ⟨w.heap.size, 0, none⟩ = some (.slice fa F.length fcap) := Below.at hb1 (by simp) (by simp)
    have HB1 := hide hB1
    have hft := fun W (hW : Below w1.heap.size w1 W) => filter96 _ F W ((HF.out.below hB1).below hW)
    have HFT := hide hft
    clear hb1 hu hB1 hft HPT
    cases hk : inB k 1 60
    · go_wp2_with (go_at_call 86; refine (within_any _ _ _ _).mono ?_; rintro e w' ⟨rfl, rfl⟩)
      go_ret
      refine ⟨⟨_, rfl, ?_⟩, HB1.out⟩
      rw [HSC2.out, hk, if_neg (by simp)]
      exact (ErrD.one (by decide) _ _).mono (by omega)
    · cases hb : inB beam 1 100
      · go_wp2_with (go_at_call 86; refine (within_any _ _ _ _).mono ?_; rintro e w' ⟨rfl, rfl⟩)
        go_ret
        refine ⟨⟨_, rfl, ?_⟩, HB1.out⟩
        rw [HSC2.out, hb, if_neg (by simp)]
        exact (ErrD.one (by decide) _ _).mono (by omega)
      · go_wp2_with (first | (go_at_call 86; refine (within_any _ _ _ _).mono ?_; rintro e w' ⟨rfl, rfl⟩) | (go_at_call 100; refine (HFT.out w1 (Below.refl _ _)).mono ?_; rintro e2 w2 ⟨⟨u2, rfl, hu2⟩, hb2⟩))
        go_ret
        refine ⟨⟨_, rfl, ?_⟩, HB1.out.trans (hb2.mono HB1.out.size)⟩
        rw [HSC2.out, hk, hb, if_pos ⟨rfl, rfl⟩]
        exact hu2
  · have HSC2 : Hid (sc = ptCode dim xs) := by
      have := HSC.out
      rw [if_pos hpc] at this
      exact this
    go_enter Tryz.func50, Tryz.ntmps50
    go_wp2_with fail
    refine HPT.out.mono ?_
    rintro e1 w1 ⟨⟨u, rfl, hu⟩, hb1⟩
    have hB1 := HB0.out.trans (hb1.mono HB0.out.size)
    have hE := ErrD.of_isErr hu
    obtain ⟨ux, rfl⟩ := hE.shape hpc
    have HE := hide hE
    clear hE hu hb1
    go_wp2
    go_ret
    refine ⟨⟨_, rfl, ?_⟩, hB1⟩
    rw [HSC2.out]
    exact HE.out.mono (by omega)
end Go.Proofs.YtpkiefjanmfgfaaGreatDoor
namespace Go.Proofs.YtpkiefjanmfgfaaGreatDoor
open Go.RowKit Go.Maps

def holdV (o v x : Int) : Bool := if o = 0 then decide (x = v) else if o = 1 then decide (x ≠ v) else if o = 2 then decide (x < v) else decide (v ≤ x)
def holdB (t0 t1 : Int) (c : Cnd) : Bool := holdV c.2.1 c.2.2 (if c.1 = 0 then t0 else t1)
def passB (F : List (List Cnd)) (t0 t1 : Int) : Bool := F.any (fun cs => cs.all (holdB t0 t1)) || decide (F = [])

set_option maxHeartbeats 1000000 in
theorem holds141 (t o v x : Int) (w : World) : Calls Tryz.prog 148 #[.agg #[.int .i64 t, .int .i64 o, .int .i64 v], .int .i64 x] w fun e w' => e = .returned (.bool (holdV o v x)) ∧ Below w.heap.size w w' := by
  have hB : ∀ ob, Below w.heap.size w (w.alloc ob) := fun ob => (Below.refl _ _).alloc (Nat.le_refl _) _
  have HV : Hid (holdV o v x = if o = 0 then decide (x = v) else if o = 1 then decide (x ≠ v) else if o = 2 then decide (x < v) else decide (v ≤ x)) := rfl
  generalize holdV o v x = hv at HV
  by_cases h0 : o = 0
  · subst h0
    go_enter Tryz.func148, Tryz.ntmps148
    go_wp2
    go_ret
    exact ⟨by rw [HV.out]; simp [BEq.beq], hB _⟩
  · have d0 : (o == 0) = false := by simpa using h0
    by_cases h1 : o = 1
    · subst h1
      go_enter Tryz.func148, Tryz.ntmps148
      go_wp2
      go_ret
      exact ⟨by rw [HV.out]; simp [bne, BEq.beq], hB _⟩
    · have d1 : (o == 1) = false := by simpa using h1
      by_cases h2 : o = 2
      · subst h2
        go_enter Tryz.func148, Tryz.ntmps148
        go_wp2
        go_ret
        exact ⟨by rw [HV.out]; simp, hB _⟩
      · have d2 : (o == 2) = false := by simpa using h2
        go_enter Tryz.func148, Tryz.ntmps148
        go_wp2
        go_ret
        exact ⟨by rw [HV.out]; simp [h0, h1, h2], hB _⟩

theorem tag_cases {c : Cnd} (h : condB c = true) : c.1 = 0 ∨ c.1 = 1 := by
  unfold condB inB at h
  simp at h
  omega

set_option maxHeartbeats 2000000 in
set_option maxRecDepth 20000 in
theorem allHold98 (v : Value) (cs : List Cnd) (t0 t1 : Int) (w : World) (h : CondsAt w v cs) (hok : cs.all condB = true) : Calls Tryz.prog 102 #[v, .agg #[.int .i64 t0, .int .i64 t1]] w fun e w' => e = .returned (.bool (cs.all (holdB t0 t1))) ∧ Below w.heap.size w w' := by
  obtain ⟨a, cap, rfl, hcap, hm, hx⟩ := h
  have hB0 : Below w.heap.size w (w.alloc (.cells #[.int .i64 t0, .int .i64 t1] 43)) := (Below.refl _ _).alloc (Nat.le_refl _) _
  have hz : (w.alloc (.cells #[.int .i64 t0, .int .i64 t1] 43)).heap[w.heap.size]? = some (.cells #[.int .i64 t0, .int .i64 t1] 43 (0, 0)) := heap_alloc_new _ _
  have HX := hide hx
  have HB0 := hide hB0
  have HOK := hide hok
  have HZ := hide hz
  obtain ⟨av, hav⟩ : ∃ av, av = cs.all (holdB t0 t1) := ⟨_, rfl⟩
  have HAV := hide hav
  rw [← hav]
  clear hx hB0 hok hz hav
  go_enter Tryz.func102, Tryz.ntmps102
  go_wp2
  generalize hwe : w.alloc (.cells #[.int .i64 t0, .int .i64 t1] 43) = w1 at HB0 HZ ⊢
  clear hwe
  go_loopw [6, 9] (fun _ i wr => ∃ k : Nat, i = .int .i64 k ∧ k ≤ cs.length ∧ Hid ((cs.take k).all (holdB t0 t1) = true) ∧ Hid (Below w.heap.size w wr) ∧ Hid (wr.heap[w.heap.size]? = some (.cells #[.int .i64 t0, .int .i64 t1] 43 (0, 0)))) (fun _ i _ => cs.length - (intOf i).toNat)
  case atStart => exact ⟨0, rfl, Nat.zero_le _, rfl, HB0.out, HZ.out⟩
  case round =>
    obtain ⟨k, rfl, hk, HA, HB, HT⟩ := hrel
    by_cases hlt : k < cs.length
    · obtain ⟨b, off, rfl, hc⟩ : ∃ b off, a = some ⟨b, off, none⟩ ∧ ∀ i, i < cs.length → w.cell? ⟨b, off + i * 3, none⟩ = some (.int .i64 (cs.getD i (0, 0, 0)).1) ∧ w.cell? ⟨b, off + i * 3 + 1, none⟩ = some (.int .i64 (cs.getD i (0, 0, 0)).2.1) ∧ w.cell? ⟨b, off + i * 3 + 2, none⟩ = some (.int .i64 (cs.getD i (0, 0, 0)).2.2) := by
        rcases HX.out with rfl | h
        · exact absurd hlt (Nat.not_lt_zero _)
        · exact h
      obtain ⟨c0, c1, c2⟩ := hc k hlt
      have y0 := cell_below c0 HB.out
      have y1 := cell_below c1 HB.out
      have y2 := cell_below c2 HB.out
      have HS : Hid ((cs.take (k + 1)).all (holdB t0 t1) = ((cs.take k).all (holdB t0 t1) && holdB t0 t1 (cs.getD k (0, 0, 0)))) := all_take_succ (holdB t0 t1) cs k _ hlt
      have HBD : Hid (holdB t0 t1 (cs.getD k (0, 0, 0)) = false → cs.all (holdB t0 t1) = false) := fun h => all_bad hlt h
      have htc := tag_cases (List.all_eq_true.1 HOK.out (cs.getD k (0, 0, 0)) (by simp [List.getD_eq_getElem?_getD, hlt]))
      generalize cs.getD k (0, 0, 0) = c at y0 y1 y2 HS HBD htc
      obtain ⟨t, o, x⟩ := c
      simp only at y0 y1 y2 htc
      have hal : Below wr.heap.size wr (wr.alloc (.cells #[.int .i64 t, .int .i64 o, .int .i64 x] 72)) := (Below.refl _ _).alloc (Nat.le_refl _) _
      have hbk : (wr.alloc (.cells #[.int .i64 t, .int .i64 o, .int .i64 x] 72)).heap[wr.heap.size]? = some (.cells #[.int .i64 t, .int .i64 o, .int .i64 x] 72 (0, 0)) := heap_alloc_new _ _
      have htt := (hal.block _ (heap_lt HT.out)).trans HT.out
      have HB2 := hide (HB.out.trans (hal.mono HB.out.size))
      have HHV : Hid (holdB t0 t1 (t, o, x) = holdV o x (if t = 0 then t0 else t1)) := rfl
      generalize hw2 : wr.alloc (.cells #[.int .i64 t, .int .i64 o, .int .i64 x] 72) = w2 at hbk htt HB2
      have HW2 := hide hw2
      have HBK := hide hbk
      have HTT := hide htt
      clear hc c0 c1 c2 hal hw2 hbk htt
      go_upto_region 4 with fail
      rw [HW2.out]
      have m0 := cells_at HBK.out 0 rfl
      have m1 := cells_at HBK.out 1 rfl
      have m2 := cells_at HBK.out 2 rfl
      have q0 := cells_at HTT.out 0 rfl
      have q1 := cells_at HTT.out 1 rfl
      have HSB : Hid (∀ W, Below w2.heap.size w2 W → W.cell? ⟨wr.heap.size, 0, none⟩ = some (.int .i64 t) ∧ W.cell? ⟨wr.heap.size, 1, none⟩ = some (.int .i64 o) ∧ W.cell? ⟨wr.heap.size, 2, none⟩ = some (.int .i64 x) ∧ W.cell? ⟨w.heap.size, 0, none⟩ = some (.int .i64 t0) ∧ W.cell? ⟨w.heap.size, 1, none⟩ = some (.int .i64 t1)) := fun W hW => ⟨cell_below m0 hW, cell_below m1 hW, cell_below m2 hW, cell_below q0 hW, cell_below q1 hW⟩
      clear m0 m1 m2 q0 q1 y0 y1 y2
      rcases htc with rfl | rfl
      · have hhd := holds141 0 o x t0
        have HHD := hide hhd
        have HHV2 : Hid (holdB t0 t1 (0, o, x) = holdV o x t0) := by
          show _ = _
          rw [HHV.out]
          simp
        clear hhd
        generalize holdV o x t0 = hb at HHD HHV2
        go_region_held3 (fun wx => wx.cell? ⟨wr.heap.size, 0, none⟩ = some (.int .i64 0) ∧ wx.cell? ⟨wr.heap.size, 1, none⟩ = some (.int .i64 o) ∧ wx.cell? ⟨wr.heap.size, 2, none⟩ = some (.int .i64 x) ∧ wx.cell? ⟨w.heap.size, 0, none⟩ = some (.int .i64 t0) ∧ wx.cell? ⟨w.heap.size, 1, none⟩ = some (.int .i64 t1))
          ((refine HSB.out _ ?_; repeat (first | with_reducible exact hb3 | exact Below.refl _ _ | refine Below.drew ?_)))
          (first | (go_at_call 148; refine (HHD.out w2.drew).mono ?_; rintro e3 w3 ⟨rfl, b3⟩; have hb3 : Below w2.heap.size w2 w3 := Below.undrew b3))
        have HB3 := hide (HB2.out.trans (hb3.mono HB2.out.size))
        have HT3 := hide ((hb3.block _ (heap_lt HTT.out)).trans HTT.out)
        clear hb3 b3
        cases hb with
        | true =>
          go_wp2
          refine ⟨⟨k + 1, by go_num, by omega, ?_, HB3.out, HT3.out⟩, by simp [intOf]; omega⟩
          show _ = _
          rw [HS.out, HA.out, HHV2.out]; rfl
        | false =>
          go_wp2
          go_ret
          exact ⟨by rw [HAV.out, HBD.out HHV2.out]; rfl, HB3.out⟩
      · have hhd := holds141 1 o x t1
        have HHD := hide hhd
        have HHV2 : Hid (holdB t0 t1 (1, o, x) = holdV o x t1) := by
          show _ = _
          rw [HHV.out]
          simp
        clear hhd
        generalize holdV o x t1 = hb at HHD HHV2
        go_region_held3 (fun wx => wx.cell? ⟨wr.heap.size, 0, none⟩ = some (.int .i64 1) ∧ wx.cell? ⟨wr.heap.size, 1, none⟩ = some (.int .i64 o) ∧ wx.cell? ⟨wr.heap.size, 2, none⟩ = some (.int .i64 x) ∧ wx.cell? ⟨w.heap.size, 0, none⟩ = some (.int .i64 t0) ∧ wx.cell? ⟨w.heap.size, 1, none⟩ = some (.int .i64 t1))
          ((refine HSB.out _ ?_; repeat (first | with_reducible exact hb3 | exact Below.refl _ _ | refine Below.drew ?_)))
          (first | (go_at_call 148; refine (HHD.out w2.drew).mono ?_; rintro e3 w3 ⟨rfl, b3⟩; have hb3 : Below w2.heap.size w2 w3 := Below.undrew b3))
        have HB3 := hide (HB2.out.trans (hb3.mono HB2.out.size))
        have HT3 := hide ((hb3.block _ (heap_lt HTT.out)).trans HTT.out)
        clear hb3 b3
        cases hb with
        | true =>
          go_wp2
          refine ⟨⟨k + 1, by go_num, by omega, ?_, HB3.out, HT3.out⟩, by simp [intOf]; omega⟩
          show _ = _
          rw [HS.out, HA.out, HHV2.out]; rfl
        | false =>
          go_wp2
          go_ret
          exact ⟨by rw [HAV.out, HBD.out HHV2.out]; rfl, HB3.out⟩
    · go_wp2
      go_ret
      obtain rfl : k = cs.length := by omega
      have := HA.out
      rw [List.take_length] at this
      exact ⟨by rw [HAV.out, this]; rfl, HB.out⟩
end Go.Proofs.YtpkiefjanmfgfaaGreatDoor
