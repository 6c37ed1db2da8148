import Derived.Laws.CopyOwn
import Derived.Test.YtpkiefjanmfgfaaGreatDoorGra01
import Derived.Test.YtpkiefjanmfgfaaGreatDoorGra06
import Derived.Test.YtpkiefjanmfgfaaGreatDoorGra15
import Derived.Test.YtpkiefjanmfgfaaGreatDoorGra19
import Derived.Test.YtpkiefjanmfgfaaGreatDoorGra20
namespace Go.Proofs.YtpkiefjanmfgfaaGreatDoor
open Go.RowKit

theorem hle_anti {a b : Hit} (h1 : hle a b) (h2 : hle b a) : a = b := by
  unfold hle at h1 h2
  obtain ⟨a1, a2⟩ := a
  obtain ⟨b1, b2⟩ := b
  simp only at h1 h2
  simp only [Prod.mk.injEq]
  omega

theorem sub_sorted : ∀ {all S : List Hit}, all.Pairwise hle → S.Pairwise hle → S.Nodup → (∀ x ∈ S, x ∈ all) → S.Sublist all
  | [], S, _, _, _, h => by
    cases S with
    | nil => exact List.Sublist.refl _
    | cons x r => exact absurd (h x (by simp)) List.not_mem_nil
  | a :: t, [], _, _, _, _ => List.nil_sublist _
  | a :: t, x :: r, ha, hs, hn, h => by
    obtain ⟨ha1, ha2⟩ := List.pairwise_cons.1 ha
    obtain ⟨hs1, hs2⟩ := List.pairwise_cons.1 hs
    obtain ⟨hn1, hn2⟩ := List.nodup_cons.1 hn
    by_cases e : x = a
    · subst e
      refine List.Sublist.cons_cons x (sub_sorted ha2 hs2 hn2 fun y hy => ?_)
      rcases List.mem_cons.1 (h y (by simp [hy])) with rfl | hy2
      · exact absurd hy hn1
      · exact hy2
    · refine List.Sublist.cons a (sub_sorted ha2 hs hn fun y hy => ?_)
      rcases List.mem_cons.1 (h y hy) with rfl | hy2
      · have hxt : x ∈ t := (List.mem_cons.1 (h x (by simp))).resolve_left e
        have h1 := ha1 x hxt
        rcases List.mem_cons.1 hy with rfl | hyr
        · exact absurd rfl e
        · exact absurd (hle_anti (hs1 y hyr) h1) e
      · exact hy2

structure RightL (l all : List Hit) (k beam : Int) : Prop where
  len : (l.length : Int) = min k (all.length : Int)
  sub : l.Sublist all
  exact : (all.length : Int) ≤ k ∨ (all.length : Int) ≤ beam → l = all.take l.length

theorem nth_drop_cons {l : List Hit} {i : Nat} (h : i < l.length) : l.drop i = nth l i :: l.drop (i + 1) := by
  rw [List.drop_eq_getElem_cons h, nth, List.getD_eq_getElem?_getD, List.getElem?_eq_getElem h]; rfl
theorem sub_head {x y : Hit} {r t : List Hit} (h : (x :: r).Sublist (y :: t)) (e : y ≠ x) : (x :: r).Sublist t := by
  cases h with
  | cons _ h => exact h
  | cons_cons _ _ => exact absurd rfl e
theorem sub_tail {x : Hit} {r t : List Hit} (h : (x :: r).Sublist (x :: t)) : r.Sublist t := by
  cases h with
  | cons _ h => exact (List.sublist_cons_self x r).trans h
  | cons_cons _ h => exact h

theorem HRow.slice {w : World} {v : Value} {l : List Hit} (h : HRow w v l) : ∃ a c, v = .slice a l.length c ∧ (0 < l.length → ∃ g, a = some ⟨g, 0, none⟩) := by
  rcases h.2 with ⟨rfl, h0⟩ | ⟨g, cap, cur, hv, _⟩
  · exact ⟨none, 0, by rw [h0], fun h => by omega⟩
  · exact ⟨_, cap, hv, fun _ => ⟨g, rfl⟩⟩
structure RtS (l all : List Hit) (ex : Bool) (i a : Nat) : Prop where
  il : i ≤ l.length
  sub : (l.drop i).Sublist (all.drop a)
  ex : ex = true → a = i
theorem RtS.lt {l all : List Hit} {ex : Bool} {i a : Nat} (h : RtS l all ex i a) (hi : i < l.length) : a < all.length := by
  have := h.sub.length_le
  simp at this
  omega
theorem RtS.hit {l all : List Hit} {ex : Bool} {i a : Nat} (h : RtS l all ex i a) (hi : i < l.length) (e : nth all a = nth l i) : RtS l all ex (i + 1) (a + 1) := by
  refine ⟨hi, ?_, fun h1 => by rw [h.ex h1]⟩
  have h1 := h.sub
  rw [nth_drop_cons hi, nth_drop_cons (h.lt hi), e] at h1
  exact sub_tail h1
theorem RtS.miss {l all : List Hit} {ex : Bool} {i a : Nat} (h : RtS l all ex i a) (hi : i < l.length) (e : nth all a ≠ nth l i) (hx : ex = true → l = all.take l.length) : RtS l all ex i (a + 1) := by
  refine ⟨h.il, ?_, fun h1 => ?_⟩
  · have h1 := h.sub
    rw [nth_drop_cons hi, nth_drop_cons (h.lt hi)] at h1
    rw [nth_drop_cons hi]
    exact sub_head h1 e
  · have h2 := h.ex h1
    subst h2
    have h3 := congrArg (fun q => nth q a) (hx h1)
    rw [nth_take hi] at h3
    exact absurd h3.symm e

def RtX (l all : List Hit) (ex : Bool) : Prop := ex = true → l = all.take l.length

set_option maxHeartbeats 4000000 in
set_option maxRecDepth 20000 in
theorem rightR (v1 v2 : Value) (l all : List Hit) (k beam : Int) (w : World) (h1 : HRow w v1 l) (h2 : HRow w v2 all) (hr : RightL l all k beam) (hk : 1 ≤ k ∧ k ≤ 1000) (_hb : 1 ≤ beam ∧ beam ≤ 1000) (ha : all.length ≤ 1000) :
    Calls Tryz.prog 79 #[v1, v2, .int .i64 k, .int .i64 beam] w fun ev w' => ev = .returned (.bool true) ∧ Below w.heap.size w w' := by
  obtain ⟨a1, c1, rfl, ha1⟩ := HRow.slice h1
  obtain ⟨a2, c2, rfl, ha2⟩ := HRow.slice h2
  have hlen := hr.len
  have H1 := hide h1
  have H2 := hide h2
  have HA1 := hide ha1
  have HA2 := hide ha2
  have HR := hide hr
  have hcase : (decide ((all.length : Int) < k) = true ∧ decide ((all.length : Int) ≤ k) = true ∧ (all.length : Int) = (l.length : Int) ∧ True) ∨ (decide ((all.length : Int) < k) = false ∧ decide ((all.length : Int) ≤ k) = true ∧ k = (l.length : Int) ∧ True) ∨ (decide ((all.length : Int) < k) = false ∧ decide ((all.length : Int) ≤ k) = false ∧ k = (l.length : Int) ∧ decide ((all.length : Int) ≤ beam) = true) ∨ (decide ((all.length : Int) < k) = false ∧ decide ((all.length : Int) ≤ k) = false ∧ k = (l.length : Int) ∧ decide ((all.length : Int) ≤ beam) = false) := by
    rcases Int.lt_trichotomy (all.length : Int) k with h | h | h
    · exact .inl ⟨decide_eq_true h, decide_eq_true (by omega), by omega, trivial⟩
    · exact .inr (.inl ⟨decide_eq_false (by omega), decide_eq_true (by omega), by omega, trivial⟩)
    · by_cases hbm : (all.length : Int) ≤ beam
      · exact .inr (.inr (.inl ⟨decide_eq_false (by omega), decide_eq_false (by omega), by omega, decide_eq_true hbm⟩))
      · exact .inr (.inr (.inr ⟨decide_eq_false (by omega), decide_eq_false (by omega), by omega, decide_eq_false hbm⟩))
  have hex : ∀ b : Bool, b = true → (b = true → (all.length : Int) ≤ k ∨ (all.length : Int) ≤ beam) → (b = true → l = all.take l.length) := fun b _ h1 h2 => hr.exact (h1 h2)
  have HEX := hide hex
  clear h1 h2 ha1 ha2 hr hlen hex
  rcases hcase with ⟨d1, d2, d3, d4⟩ | ⟨d1, d2, d3, d4⟩ | ⟨d1, d2, d3, d4⟩ | ⟨d1, d2, d3, d4⟩
  · have D2 := hide (of_decide_eq_true d2)
    have D3 := hide d3
    have hbn : ((l.length : Int) != (all.length : Int)) = false := by rw [d3]; simp
    clear d3 d4 HEX
    go_enter Tryz.func79, Tryz.ntmps79
    go_wp2
    go_loopw [11, 12] (fun at' i wr => ∃ (x q : Nat), at' = .int .i64 q ∧ i = .int .i64 x ∧ Hid (RtS l all true x q) ∧ Hid (∃ n, wr = w.drewN n)) (fun _ i _ => all.length - (intOf i).toNat)
    case atStart => exact ⟨0, 0, rfl, rfl, ⟨Nat.zero_le _, HR.out.sub, fun _ => rfl⟩, 0, rfl⟩
    case round =>
      obtain ⟨x, q, rfl, rfl, HS, HW⟩ := hrel
      have HLA : Hid (all.length ≤ 1000) := ha
      have HEQ : Hid (RtX l all true) := fun _ => HR.out.exact (.inl D2.out)
      clear HR d1 d2 ha
      by_cases hltN : x < all.length
      · have hlt : x < l.length := by have := D3.out; omega
        obtain ⟨g1, rfl⟩ := HA1.out (by omega)
        have hq0 := HS.out.lt hlt
        obtain ⟨g2, rfl⟩ := HA2.out (by omega)
        go_wp2
        go_loopw [11] (fun at' wq => ∃ q : Nat, at' = .int .i64 q ∧ Hid (RtS l all true x q) ∧ Hid (∃ n, wq = w.drewN n)) (fun at' _ => all.length - (intOf at').toNat)
        case atStart => exact ⟨q, rfl, HS, HW⟩
        case round =>
          clear HS HW hq0
          rename World => wq
          obtain ⟨q, rfl, HS, HW⟩ := hrel
          obtain ⟨n0, hw0⟩ := id HW.out
          have hq := HS.out.lt hlt
          have hq1 := HLA.out
          have x0 : wq.cell? ⟨g1, x * 2, none⟩ = some (.int .i64 (nth l x).1) := by rw [hw0]; exact HRow.at0 (ownsRow_drewN H1.out n0) hlt
          have x1 : wq.cell? ⟨g1, x * 2 + 1, none⟩ = some (.int .i64 (nth l x).2) := by rw [hw0]; exact HRow.at1 (ownsRow_drewN H1.out n0) hlt
          have y0 : wq.cell? ⟨g2, q * 2, none⟩ = some (.int .i64 (nth all q).1) := by rw [hw0]; exact HRow.at0 (ownsRow_drewN H2.out n0) hq
          have y1 : wq.cell? ⟨g2, q * 2 + 1, none⟩ = some (.int .i64 (nth all q).2) := by rw [hw0]; exact HRow.at1 (ownsRow_drewN H2.out n0) hq
          have HWW : Hid (∀ j, ∃ n, wq.drewN j = w.drewN n) := fun j => ⟨n0 + j, by rw [hw0]; simp⟩
          have HHIT := hide (HS.out.hit hlt)
          have HMISS := hide (fun e => HS.out.miss hlt e HEQ.out)
          have hxq := hide HS.out.ex
          clear hw0 HW HS
          generalize nth l x = xv at x0 x1 HHIT HMISS
          generalize nth all q = yv at y0 y1 HHIT HMISS
          obtain ⟨xi, xd⟩ := xv
          obtain ⟨yi, yd⟩ := yv
          simp only at x0 x1 y0 y1
          by_cases e1 : yi = xi
          · subst e1
            by_cases e2 : yd = xd
            · subst e2
              have HH := hide (HHIT.out rfl)
              clear HHIT HMISS
              have hqx : x = q := (hxq.out rfl).symm
              subst hqx
              go_wp2
              go_quiet (fail)
              go_wp2
              exact ⟨⟨x + 1, x + 1, by go_num, by go_num, HH, HWW.out _⟩, by simp [intOf]; omega⟩
            · have HM := hide (HMISS.out (fun e => e2 (congrArg Prod.snd e)))
              clear HHIT HMISS hxq
              go_wp2
              go_quiet (fail)
              go_wp2
              exact ⟨⟨q + 1, by go_num, HM, HWW.out _⟩, by simp [intOf]; omega⟩
          · have HM := hide (HMISS.out (fun e => e1 (congrArg Prod.fst e)))
            clear HHIT HMISS hxq
            go_wp2
            go_quiet (fail)
            go_wp2
            exact ⟨⟨q + 1, by go_num, HM, HWW.out _⟩, by simp [intOf]; omega⟩
      · obtain ⟨n0, hw0⟩ := id HW.out
        have HB : Hid (Below w.heap.size w wr) := by rw [hw0]; exact below_drewN (Below.refl _ _) _
        clear hw0
        go_wp2
        go_ret
        exact ⟨rfl, HB.out⟩
  · have D2 := hide (of_decide_eq_true d2)
    have D3 := hide d3
    have hbn : ((l.length : Int) != k) = false := by rw [d3]; simp
    clear d3
    clear d4 HEX
    go_enter Tryz.func79, Tryz.ntmps79
    go_wp2
    go_loopw [11, 12] (fun at' i wr => ∃ (x q : Nat), at' = .int .i64 q ∧ i = .int .i64 x ∧ Hid (RtS l all true x q) ∧ Hid (∃ n, wr = w.drewN n)) (fun _ i _ => k.toNat - (intOf i).toNat)
    case atStart => exact ⟨0, 0, rfl, rfl, ⟨Nat.zero_le _, HR.out.sub, fun _ => rfl⟩, 0, rfl⟩
    case round =>
      obtain ⟨x, q, rfl, rfl, HS, HW⟩ := hrel
      have HLA : Hid (all.length ≤ 1000) := ha
      have HEQ : Hid (RtX l all true) := fun _ => HR.out.exact (.inl D2.out)
      clear HR d1 d2 ha
      by_cases hltN : (x : Int) < k
      · have hlt : x < l.length := by have := D3.out; omega
        obtain ⟨g1, rfl⟩ := HA1.out (by omega)
        have hq0 := HS.out.lt hlt
        obtain ⟨g2, rfl⟩ := HA2.out (by omega)
        go_wp2
        go_loopw [11] (fun at' wq => ∃ q : Nat, at' = .int .i64 q ∧ Hid (RtS l all true x q) ∧ Hid (∃ n, wq = w.drewN n)) (fun at' _ => all.length - (intOf at').toNat)
        case atStart => exact ⟨q, rfl, HS, HW⟩
        case round =>
          clear HS HW hq0
          rename World => wq
          obtain ⟨q, rfl, HS, HW⟩ := hrel
          obtain ⟨n0, hw0⟩ := id HW.out
          have hq := HS.out.lt hlt
          have hq1 := HLA.out
          have x0 : wq.cell? ⟨g1, x * 2, none⟩ = some (.int .i64 (nth l x).1) := by rw [hw0]; exact HRow.at0 (ownsRow_drewN H1.out n0) hlt
          have x1 : wq.cell? ⟨g1, x * 2 + 1, none⟩ = some (.int .i64 (nth l x).2) := by rw [hw0]; exact HRow.at1 (ownsRow_drewN H1.out n0) hlt
          have y0 : wq.cell? ⟨g2, q * 2, none⟩ = some (.int .i64 (nth all q).1) := by rw [hw0]; exact HRow.at0 (ownsRow_drewN H2.out n0) hq
          have y1 : wq.cell? ⟨g2, q * 2 + 1, none⟩ = some (.int .i64 (nth all q).2) := by rw [hw0]; exact HRow.at1 (ownsRow_drewN H2.out n0) hq
          have HWW : Hid (∀ j, ∃ n, wq.drewN j = w.drewN n) := fun j => ⟨n0 + j, by rw [hw0]; simp⟩
          have HHIT := hide (HS.out.hit hlt)
          have HMISS := hide (fun e => HS.out.miss hlt e HEQ.out)
          have hxq := hide HS.out.ex
          clear hw0 HW HS
          generalize nth l x = xv at x0 x1 HHIT HMISS
          generalize nth all q = yv at y0 y1 HHIT HMISS
          obtain ⟨xi, xd⟩ := xv
          obtain ⟨yi, yd⟩ := yv
          simp only at x0 x1 y0 y1
          by_cases e1 : yi = xi
          · subst e1
            by_cases e2 : yd = xd
            · subst e2
              have HH := hide (HHIT.out rfl)
              clear HHIT HMISS
              have hqx : x = q := (hxq.out rfl).symm
              subst hqx
              go_wp2
              go_quiet (fail)
              go_wp2
              exact ⟨⟨x + 1, x + 1, by go_num, by go_num, HH, HWW.out _⟩, by simp [intOf]; omega⟩
            · have HM := hide (HMISS.out (fun e => e2 (congrArg Prod.snd e)))
              clear HHIT HMISS hxq
              go_wp2
              go_quiet (fail)
              go_wp2
              exact ⟨⟨q + 1, by go_num, HM, HWW.out _⟩, by simp [intOf]; omega⟩
          · have HM := hide (HMISS.out (fun e => e1 (congrArg Prod.fst e)))
            clear HHIT HMISS hxq
            go_wp2
            go_quiet (fail)
            go_wp2
            exact ⟨⟨q + 1, by go_num, HM, HWW.out _⟩, by simp [intOf]; omega⟩
      · obtain ⟨n0, hw0⟩ := id HW.out
        have HB : Hid (Below w.heap.size w wr) := by rw [hw0]; exact below_drewN (Below.refl _ _) _
        clear hw0
        go_wp2
        go_ret
        exact ⟨rfl, HB.out⟩
  · have D2 := hide (of_decide_eq_true d4)
    have D3 := hide d3
    have hbn : ((l.length : Int) != k) = false := by rw [d3]; simp
    clear d3
    clear HEX
    go_enter Tryz.func79, Tryz.ntmps79
    go_wp2
    go_loopw [11, 12] (fun at' i wr => ∃ (x q : Nat), at' = .int .i64 q ∧ i = .int .i64 x ∧ Hid (RtS l all true x q) ∧ Hid (∃ n, wr = w.drewN n)) (fun _ i _ => k.toNat - (intOf i).toNat)
    case atStart => exact ⟨0, 0, rfl, rfl, ⟨Nat.zero_le _, HR.out.sub, fun _ => rfl⟩, 0, rfl⟩
    case round =>
      obtain ⟨x, q, rfl, rfl, HS, HW⟩ := hrel
      have HLA : Hid (all.length ≤ 1000) := ha
      have HEQ : Hid (RtX l all true) := fun _ => HR.out.exact (.inr D2.out)
      clear HR d1 d2 ha
      by_cases hltN : (x : Int) < k
      · have hlt : x < l.length := by have := D3.out; omega
        obtain ⟨g1, rfl⟩ := HA1.out (by omega)
        have hq0 := HS.out.lt hlt
        obtain ⟨g2, rfl⟩ := HA2.out (by omega)
        go_wp2
        go_loopw [11] (fun at' wq => ∃ q : Nat, at' = .int .i64 q ∧ Hid (RtS l all true x q) ∧ Hid (∃ n, wq = w.drewN n)) (fun at' _ => all.length - (intOf at').toNat)
        case atStart => exact ⟨q, rfl, HS, HW⟩
        case round =>
          clear HS HW hq0
          rename World => wq
          obtain ⟨q, rfl, HS, HW⟩ := hrel
          obtain ⟨n0, hw0⟩ := id HW.out
          have hq := HS.out.lt hlt
          have hq1 := HLA.out
          have x0 : wq.cell? ⟨g1, x * 2, none⟩ = some (.int .i64 (nth l x).1) := by rw [hw0]; exact HRow.at0 (ownsRow_drewN H1.out n0) hlt
          have x1 : wq.cell? ⟨g1, x * 2 + 1, none⟩ = some (.int .i64 (nth l x).2) := by rw [hw0]; exact HRow.at1 (ownsRow_drewN H1.out n0) hlt
          have y0 : wq.cell? ⟨g2, q * 2, none⟩ = some (.int .i64 (nth all q).1) := by rw [hw0]; exact HRow.at0 (ownsRow_drewN H2.out n0) hq
          have y1 : wq.cell? ⟨g2, q * 2 + 1, none⟩ = some (.int .i64 (nth all q).2) := by rw [hw0]; exact HRow.at1 (ownsRow_drewN H2.out n0) hq
          have HWW : Hid (∀ j, ∃ n, wq.drewN j = w.drewN n) := fun j => ⟨n0 + j, by rw [hw0]; simp⟩
          have HHIT := hide (HS.out.hit hlt)
          have HMISS := hide (fun e => HS.out.miss hlt e HEQ.out)
          have hxq := hide HS.out.ex
          clear hw0 HW HS
          generalize nth l x = xv at x0 x1 HHIT HMISS
          generalize nth all q = yv at y0 y1 HHIT HMISS
          obtain ⟨xi, xd⟩ := xv
          obtain ⟨yi, yd⟩ := yv
          simp only at x0 x1 y0 y1
          by_cases e1 : yi = xi
          · subst e1
            by_cases e2 : yd = xd
            · subst e2
              have HH := hide (HHIT.out rfl)
              clear HHIT HMISS
              have hqx : x = q := (hxq.out rfl).symm
              subst hqx
              go_wp2
              go_quiet (fail)
              go_wp2
              exact ⟨⟨x + 1, x + 1, by go_num, by go_num, HH, HWW.out _⟩, by simp [intOf]; omega⟩
            · have HM := hide (HMISS.out (fun e => e2 (congrArg Prod.snd e)))
              clear HHIT HMISS hxq
              go_wp2
              go_quiet (fail)
              go_wp2
              exact ⟨⟨q + 1, by go_num, HM, HWW.out _⟩, by simp [intOf]; omega⟩
          · have HM := hide (HMISS.out (fun e => e1 (congrArg Prod.fst e)))
            clear HHIT HMISS hxq
            go_wp2
            go_quiet (fail)
            go_wp2
            exact ⟨⟨q + 1, by go_num, HM, HWW.out _⟩, by simp [intOf]; omega⟩
      · obtain ⟨n0, hw0⟩ := id HW.out
        have HB : Hid (Below w.heap.size w wr) := by rw [hw0]; exact below_drewN (Below.refl _ _) _
        clear hw0
        go_wp2
        go_ret
        exact ⟨rfl, HB.out⟩
  · have D3 := hide d3
    have hbn : ((l.length : Int) != k) = false := by rw [d3]; simp
    clear d3
    clear HEX
    go_enter Tryz.func79, Tryz.ntmps79
    go_wp2
    go_loopw [11, 12] (fun at' i wr => ∃ (x q : Nat), at' = .int .i64 q ∧ i = .int .i64 x ∧ Hid (RtS l all false x q) ∧ Hid (∃ n, wr = w.drewN n)) (fun _ i _ => k.toNat - (intOf i).toNat)
    case atStart => exact ⟨0, 0, rfl, rfl, ⟨Nat.zero_le _, HR.out.sub, fun _ => rfl⟩, 0, rfl⟩
    case round =>
      obtain ⟨x, q, rfl, rfl, HS, HW⟩ := hrel
      have HLA : Hid (all.length ≤ 1000) := ha
      have HEQ : Hid (RtX l all false) := fun h => absurd h (by decide)
      clear HR d1 d2 ha
      by_cases hltN : (x : Int) < k
      · have hlt : x < l.length := by have := D3.out; omega
        obtain ⟨g1, rfl⟩ := HA1.out (by omega)
        have hq0 := HS.out.lt hlt
        obtain ⟨g2, rfl⟩ := HA2.out (by omega)
        go_wp2
        go_loopw [11] (fun at' wq => ∃ q : Nat, at' = .int .i64 q ∧ Hid (RtS l all false x q) ∧ Hid (∃ n, wq = w.drewN n)) (fun at' _ => all.length - (intOf at').toNat)
        case atStart => exact ⟨q, rfl, HS, HW⟩
        case round =>
          clear HS HW hq0
          rename World => wq
          obtain ⟨q, rfl, HS, HW⟩ := hrel
          obtain ⟨n0, hw0⟩ := id HW.out
          have hq := HS.out.lt hlt
          have hq1 := HLA.out
          have x0 : wq.cell? ⟨g1, x * 2, none⟩ = some (.int .i64 (nth l x).1) := by rw [hw0]; exact HRow.at0 (ownsRow_drewN H1.out n0) hlt
          have x1 : wq.cell? ⟨g1, x * 2 + 1, none⟩ = some (.int .i64 (nth l x).2) := by rw [hw0]; exact HRow.at1 (ownsRow_drewN H1.out n0) hlt
          have y0 : wq.cell? ⟨g2, q * 2, none⟩ = some (.int .i64 (nth all q).1) := by rw [hw0]; exact HRow.at0 (ownsRow_drewN H2.out n0) hq
          have y1 : wq.cell? ⟨g2, q * 2 + 1, none⟩ = some (.int .i64 (nth all q).2) := by rw [hw0]; exact HRow.at1 (ownsRow_drewN H2.out n0) hq
          have HWW : Hid (∀ j, ∃ n, wq.drewN j = w.drewN n) := fun j => ⟨n0 + j, by rw [hw0]; simp⟩
          have HHIT := hide (HS.out.hit hlt)
          have HMISS := hide (fun e => HS.out.miss hlt e HEQ.out)
          have hxq := hide HS.out.ex
          clear hw0 HW HS
          generalize nth l x = xv at x0 x1 HHIT HMISS
          generalize nth all q = yv at y0 y1 HHIT HMISS
          obtain ⟨xi, xd⟩ := xv
          obtain ⟨yi, yd⟩ := yv
          simp only at x0 x1 y0 y1
          by_cases e1 : yi = xi
          · subst e1
            by_cases e2 : yd = xd
            · subst e2
              have HH := hide (HHIT.out rfl)
              clear HHIT HMISS
              clear hxq
              go_wp2
              go_quiet (fail)
              go_wp2
              exact ⟨⟨x + 1, q + 1, by go_num, by go_num, HH, HWW.out _⟩, by simp [intOf]; omega⟩
            · have HM := hide (HMISS.out (fun e => e2 (congrArg Prod.snd e)))
              clear HHIT HMISS hxq
              go_wp2
              go_quiet (fail)
              go_wp2
              exact ⟨⟨q + 1, by go_num, HM, HWW.out _⟩, by simp [intOf]; omega⟩
          · have HM := hide (HMISS.out (fun e => e1 (congrArg Prod.fst e)))
            clear HHIT HMISS hxq
            go_wp2
            go_quiet (fail)
            go_wp2
            exact ⟨⟨q + 1, by go_num, HM, HWW.out _⟩, by simp [intOf]; omega⟩
      · obtain ⟨n0, hw0⟩ := id HW.out
        have HB : Hid (Below w.heap.size w wr) := by rw [hw0]; exact below_drewN (Below.refl _ _) _
        clear hw0
        go_wp2
        go_ret
        exact ⟨rfl, HB.out⟩
end Go.Proofs.YtpkiefjanmfgfaaGreatDoor
namespace Go.Proofs.YtpkiefjanmfgfaaGreatDoor
open Go.RowKit Go.Maps

theorem right_of {w : World} {bb bs bm : Nat} {cf : Cf} {gn : Net} {L : List Ent} (h : BaseAt w bb bs bm cf gn L) (xs : List Int) (F : List (List Cnd)) (k beam : Int) (hk : 1 ≤ k) (all : List Hit) (hs : all.Pairwise hle) (hp : all.Perm (hitsL cf.metric xs F L)) :
    RightL ((srR cf gn L xs F (max k beam)).2.take (min k ((srR cf gn L xs F (max k beam)).2.length : Int)).toNat) all k beam ∧
      ((srR cf gn L xs F (max k beam)).2.take (min k ((srR cf gn L xs F (max k beam)).2.length : Int)).toNat).length ≤ (srR cf gn L xs F (max k beam)).1.length ∧ (srR cf gn L xs F (max k beam)).1.length ≤ L.length := by
  obtain ⟨s1, s2, s3, s4, s5, s6, s7⟩ := srR_spec h xs F (max k beam) (by omega)
  generalize (srR cf gn L xs F (max k beam)).2 = S at *
  generalize (srR cf gn L xs F (max k beam)).1 = K at *
  have hal : all.length = (passL F L).length := by rw [hp.length_eq]; simp [hitsL, passL]
  have hsub : S.Sublist all := sub_sorted hs s1 (List.Pairwise.of_map (fun x : Hit => x.1) (fun a b (h : a.1 ≠ b.1) e => h (congrArg _ e)) s2) fun x hx => by
    obtain ⟨e, he, rfl⟩ := s3 x hx
    exact hp.mem_iff.2 (List.mem_map.2 ⟨e, he, rfl⟩)
  have hsl := hsub.length_le
  have hn : ((min k (S.length : Int)).toNat : Int) = min k (all.length : Int) := by omega
  have hle : (min k (S.length : Int)).toNat ≤ S.length := by omega
  have hlen : (S.take (min k (S.length : Int)).toNat).length = (min k (S.length : Int)).toNat := by rw [List.length_take]; omega
  refine ⟨⟨by rw [hlen]; exact hn, (List.take_sublist _ _).trans hsub, fun hx => ?_⟩, by rw [hlen]; omega, s7⟩
  have : S = all := hsub.eq_of_length (by omega)
  subst this
  rw [hlen]
end Go.Proofs.YtpkiefjanmfgfaaGreatDoor
namespace Go.Proofs.YtpkiefjanmfgfaaGreatDoor
open Go.RowKit

theorem info58b : (Tryz.prog.info? 58).map (fun i => (i.zero, i.size, i.bytes)) = some (some (.slice none 0 0), 1, 24) := by kernel_rfl

structure HiS (w0 : World) (bp : Nat) (lv0 nsv0 nmv0 : Value) (X : Nat) (m m' : Int) (w : World) (lv : Value) (nl : Nat) (nsv : Value) (ns : Nat) (nmv : Value) (nm : Nat) : Prop where
  typ : ∃ cs, w.heap[bp]? = some (.cells cs 41 (0, 0))
  low : ∀ o v, o ≠ 7 ∧ o ≠ 10 ∧ o ≠ 11 → w0.cell? ⟨bp, o, none⟩ = some v → w.cell? ⟨bp, o, none⟩ = some v
  c7 : ∃ b, w.cell? ⟨bp, 7, none⟩ = some (.int .i64 b)
  c8 : w.cell? ⟨bp, 10, none⟩ = some nsv
  c9 : w.cell? ⟨bp, 11, none⟩ = some nmv
  hl : ∃ xs, w.ownsRow 0 63 2 lv nl xs
  hs : ∃ xs, w.ownsRow 0 58 1 nsv ns xs
  hm : ∃ xs, w.ownsRow 0 3 1 nmv nm xs
  bx : w.heap[X]? = some (.cells #[.int .i64 m, .int .i64 m'] 63 (0, 0))
  lx : lv.ownBlock ≠ some X
  ll : ∀ g, lv.ownBlock = some g → lv0.ownBlock = some g ∨ w0.heap.size ≤ g
  ls : ∀ g, nsv.ownBlock = some g → nsv0.ownBlock = some g ∨ w0.heap.size ≤ g
  lm : ∀ g, nmv.ownBlock = some g → nmv0.ownBlock = some g ∨ w0.heap.size ≤ g
  kept : Kept (fun k => k = bp ∨ lv0.ownBlock = some k ∨ nsv0.ownBlock = some k ∨ nmv0.ownBlock = some k) w0 w

theorem row_grownN {w w1 : World} {o : Obj} {e sz : Nat} {v : Value} {n : Nat} {xs : List Value} {row : Option Nat} (h : w.ownsRow 0 e sz v n xs) (hg : (w.alloc o).grownBy w1 row) (hne : ∀ g, v.ownBlock = some g → row ≠ some g) : w1.ownsRow 0 e sz v n xs :=
  ownsRow_of_block (h.alloc o) fun g hv => hg.block g ((h.alloc o).lt g hv).2 (fun e => hne g hv e.symm)
theorem blk_grown {w w1 : World} {o b : Obj} {X : Nat} {row : Option Nat} (h : w.heap[X]? = some b) (hg : (w.alloc o).grownBy w1 row) (hne : row ≠ some X) : w1.heap[X]? = some b := by
  have hlt := (Array.getElem?_eq_some_iff.1 h).1
  exact (hg.block X (by simp; omega) (fun e => hne e.symm)).trans ((Below.heap_alloc _ _ _ hlt).trans h)

section
variable {w0 w w1 : World} {bp X : Nat} {m m' : Int} {lv0 nsv0 nmv0 lv nsv nmv v2 : Value} {nl ns nm : Nat} {o : Obj} {xs : List Value}

theorem HiS.frozen (h : HiS w0 bp lv0 nsv0 nmv0 X m m' w lv nl nsv ns nmv nm) (k : Nat) : w.frozen? ⟨bp, k, none⟩ = false := by
  obtain ⟨cs, hc⟩ := h.typ
  simp [World.frozen?, hc]
theorem HiS.lt (h : HiS w0 bp lv0 nsv0 nmv0 X m m' w lv nl nsv ns nmv nm) : bp < w.heap.size := by
  obtain ⟨cs, hc⟩ := h.typ
  exact (Array.getElem?_eq_some_iff.1 hc).1
theorem HiS.ns_ne (h : HiS w0 bp lv0 nsv0 nmv0 X m m' w lv nl nsv ns nmv nm) : some bp ≠ nsv.ownBlock := by
  intro e
  obtain ⟨cs, hc⟩ := h.typ
  obtain ⟨ys, hy⟩ := h.hs
  obtain ⟨c2, h2⟩ := ownsRow_obj hy e.symm
  exact ne_of_elem hc h2 (by decide) rfl
theorem HiS.nm_ne (h : HiS w0 bp lv0 nsv0 nmv0 X m m' w lv nl nsv ns nmv nm) : some bp ≠ nmv.ownBlock := by
  intro e
  obtain ⟨cs, hc⟩ := h.typ
  obtain ⟨ys, hy⟩ := h.hm
  obtain ⟨c2, h2⟩ := ownsRow_obj hy e.symm
  exact ne_of_elem hc h2 (by decide) rfl
theorem HiS.lv_ne (h : HiS w0 bp lv0 nsv0 nmv0 X m m' w lv nl nsv ns nmv nm) : some bp ≠ lv.ownBlock := by
  intro e
  obtain ⟨cs, hc⟩ := h.typ
  obtain ⟨ys, hy⟩ := h.hl
  obtain ⟨c2, h2⟩ := ownsRow_obj hy e.symm
  exact ne_of_elem hc h2 (by decide) rfl
theorem HiS.ns_x (h : HiS w0 bp lv0 nsv0 nmv0 X m m' w lv nl nsv ns nmv nm) : nsv.ownBlock ≠ some X := by
  intro e
  obtain ⟨ys, hy⟩ := h.hs
  obtain ⟨c2, h2⟩ := ownsRow_obj hy e
  exact ne_of_elem h.bx h2 (by decide) rfl
theorem HiS.nm_x (h : HiS w0 bp lv0 nsv0 nmv0 X m m' w lv nl nsv ns nmv nm) : nmv.ownBlock ≠ some X := by
  intro e
  obtain ⟨ys, hy⟩ := h.hm
  obtain ⟨c2, h2⟩ := ownsRow_obj hy e
  exact ne_of_elem h.bx h2 (by decide) rfl
theorem HiS.bp_x (h : HiS w0 bp lv0 nsv0 nmv0 X m m' w lv nl nsv ns nmv nm) : X ≠ bp := by
  obtain ⟨cs, hc⟩ := h.typ
  exact ne_of_elem h.bx hc (by decide)

theorem HiS.stepL (h : HiS w0 bp lv0 nsv0 nmv0 X m m' w lv nl nsv ns nmv nm) (ho : w1.ownsRow 0 63 2 v2 (nl + 1) xs) (hg : (w.alloc o).grownBy w1 lv.ownBlock) (hl : v2.ownBlock = lv.ownBlock ∨ v2.ownBlock = some (w.heap.size + 1)) :
    HiS w0 bp lv0 nsv0 nmv0 X m m' w1 v2 (nl + 1) nsv ns nmv nm := by
  obtain ⟨b7, h7⟩ := h.c7
  obtain ⟨ys, hy⟩ := h.hs
  obtain ⟨zs, hz⟩ := h.hm
  obtain ⟨ls, hls⟩ := h.hl
  have hz0 := h.kept.size
  have hXl := (Array.getElem?_eq_some_iff.1 h.bx).1
  refine ⟨typ_grown h.typ hg h.lv_ne, fun o v ho hv => cell_grown (h.low o v ho hv) hg h.lv_ne, ⟨b7, cell_grown h7 hg h.lv_ne⟩, cell_grown h.c8 hg h.lv_ne, cell_grown h.c9 hg h.lv_ne, ⟨_, ho⟩, ⟨ys, row_grown hy hg ?_⟩, ⟨zs, row_grown hz hg ?_⟩, blk_grown h.bx hg h.lx, ?_, ?_, h.ls, h.lm, ?_⟩
  · intro g hn e
    obtain ⟨c1, h1⟩ := ownsRow_obj hy hn
    obtain ⟨c2, h2⟩ := ownsRow_obj hls e
    exact ne_of_elem h1 h2 (by decide) rfl
  · intro g hn e
    obtain ⟨c1, h1⟩ := ownsRow_obj hz hn
    obtain ⟨c2, h2⟩ := ownsRow_obj hls e
    exact ne_of_elem h1 h2 (by decide) rfl
  · intro hv
    rcases hl with e | e
    · exact h.lx (e ▸ hv)
    · rw [hv] at e
      have := Option.some.inj e
      omega
  · intro g hv
    rcases hl with e | e
    · exact h.ll g (e ▸ hv)
    · rw [hv] at e
      have := Option.some.inj e
      right; omega
  · exact (h.kept.alloc o).grown hg fun k hk hlt => by
      rcases h.ll k hk with e | e
      · exact .inr (.inl e)
      · omega

theorem HiS.stepM (h : HiS w0 bp lv0 nsv0 nmv0 X m m' w lv nl nsv ns nmv nm) (ho : w1.ownsRow 0 3 1 v2 (nm + 1) xs) (hg : (w.alloc o).grownBy w1 nmv.ownBlock) (hl : v2.ownBlock = nmv.ownBlock ∨ v2.ownBlock = some (w.heap.size + 1)) :
    HiS w0 bp lv0 nsv0 nmv0 X m m' (w1.setCell ⟨bp, 11, none⟩ v2) lv nl nsv ns v2 (nm + 1) ∧ w1.cell? ⟨bp, 11, none⟩ = some nmv ∧ w1.frozen? ⟨bp, 11, none⟩ = false := by
  obtain ⟨b7, h7⟩ := h.c7
  obtain ⟨ys, hy⟩ := h.hs
  obtain ⟨zs, hz⟩ := h.hm
  obtain ⟨ls, hls⟩ := h.hl
  have hz0 := h.kept.size
  obtain ⟨cs, hc⟩ := typ_grown h.typ hg h.nm_ne
  have k9 := cell_grown h.c9 hg h.nm_ne
  have rs : ∀ {e sz : Nat} {v : Value} {n : Nat} {l : List Value}, e ≠ 41 → w1.ownsRow 0 e sz v n l → (w1.setCell ⟨bp, 11, none⟩ v2).ownsRow 0 e sz v n l := fun {e sz v n l} he hr => ownsRow_of_block hr fun g hv => Below.heap_setCell _ _ _ _ (by
    obtain ⟨c2, h2⟩ := ownsRow_obj hr hv
    exact (ne_of_elem hc h2 (fun e' => he e'.symm)).symm)
  refine ⟨⟨⟨_, heap_setCell_same _ _ _ _ _ _ hc⟩, fun o v ho hv => (World.cell?_setCell_other _ _ _ _ (by simp <;> omega)).trans (cell_grown (h.low o v ho hv) hg h.nm_ne), ⟨b7, ?_⟩, ?_, World.cell?_setCell_same _ _ _ k9, ⟨ls, rs (by decide) (row_grownN hls hg ?_)⟩, ⟨ys, rs (by decide) (row_grown hy hg ?_)⟩, ⟨_, rs (by decide) ho⟩, ?_, h.lx, h.ll, h.ls, ?_, ?_⟩, k9, by simp [World.frozen?, hc]⟩
  · rw [World.cell?_setCell_other _ _ _ _ (by simp)]; exact cell_grown h7 hg h.nm_ne
  · rw [World.cell?_setCell_other _ _ _ _ (by simp)]; exact cell_grown h.c8 hg h.nm_ne
  · intro g hn e
    obtain ⟨c1, h1⟩ := ownsRow_obj hls hn
    obtain ⟨c2, h2⟩ := ownsRow_obj hz e
    exact ne_of_elem h1 h2 (by decide) rfl
  · intro g hn e
    obtain ⟨c1, h1⟩ := ownsRow_obj hy hn
    obtain ⟨c2, h2⟩ := ownsRow_obj hz e
    exact ne_of_elem h1 h2 (by decide) rfl
  · exact (Below.heap_setCell _ _ _ _ h.bp_x).trans (blk_grown h.bx hg h.nm_x)
  · intro g hv
    rcases hl with e | e
    · exact h.lm g (e ▸ hv)
    · rw [hv] at e
      have := Option.some.inj e
      right; omega
  · refine Kept.setCell ((h.kept.alloc o).grown hg fun k hk hlt => ?_) (fun _ => .inl rfl) _
    rcases h.lm k hk with e | e
    · exact .inr (.inr (.inr e))
    · omega

theorem HiS.stepN (h : HiS w0 bp lv0 nsv0 nmv0 X m m' w lv nl nsv ns nmv nm) (ho : w1.ownsRow 0 58 1 v2 (ns + 1) xs) (hg : (w.alloc o).grownBy w1 nsv.ownBlock) (hl : v2.ownBlock = nsv.ownBlock ∨ v2.ownBlock = some (w.heap.size + 1)) :
    HiS w0 bp lv0 nsv0 nmv0 X m m' (w1.setCell ⟨bp, 10, none⟩ v2) lv nl v2 (ns + 1) nmv nm ∧ w1.cell? ⟨bp, 10, none⟩ = some nsv ∧ w1.cell? ⟨bp, 11, none⟩ = some nmv ∧ w1.frozen? ⟨bp, 10, none⟩ = false := by
  obtain ⟨b7, h7⟩ := h.c7
  obtain ⟨ys, hy⟩ := h.hs
  obtain ⟨zs, hz⟩ := h.hm
  obtain ⟨ls, hls⟩ := h.hl
  have hz0 := h.kept.size
  obtain ⟨cs, hc⟩ := typ_grown h.typ hg h.ns_ne
  have k8 := cell_grown h.c8 hg h.ns_ne
  have rs : ∀ {e sz : Nat} {v : Value} {n : Nat} {l : List Value}, e ≠ 41 → w1.ownsRow 0 e sz v n l → (w1.setCell ⟨bp, 10, none⟩ v2).ownsRow 0 e sz v n l := fun {e sz v n l} he hr => ownsRow_of_block hr fun g hv => Below.heap_setCell _ _ _ _ (by
    obtain ⟨c2, h2⟩ := ownsRow_obj hr hv
    exact (ne_of_elem hc h2 (fun e' => he e'.symm)).symm)
  refine ⟨⟨⟨_, heap_setCell_same _ _ _ _ _ _ hc⟩, fun o v ho hv => (World.cell?_setCell_other _ _ _ _ (by simp <;> omega)).trans (cell_grown (h.low o v ho hv) hg h.ns_ne), ⟨b7, ?_⟩, World.cell?_setCell_same _ _ _ k8, ?_, ⟨ls, rs (by decide) (row_grownN hls hg ?_)⟩, ⟨_, rs (by decide) ho⟩, ⟨zs, rs (by decide) (row_grown hz hg ?_)⟩, ?_, h.lx, h.ll, ?_, h.lm, ?_⟩, k8, cell_grown h.c9 hg h.ns_ne, by simp [World.frozen?, hc]⟩
  · rw [World.cell?_setCell_other _ _ _ _ (by simp)]; exact cell_grown h7 hg h.ns_ne
  · rw [World.cell?_setCell_other _ _ _ _ (by simp)]; exact cell_grown h.c9 hg h.ns_ne
  · intro g hn e
    obtain ⟨c1, h1⟩ := ownsRow_obj hls hn
    obtain ⟨c2, h2⟩ := ownsRow_obj hy e
    exact ne_of_elem h1 h2 (by decide) rfl
  · intro g hn e
    obtain ⟨c1, h1⟩ := ownsRow_obj hz hn
    obtain ⟨c2, h2⟩ := ownsRow_obj hy e
    exact ne_of_elem h1 h2 (by decide) rfl
  · exact (Below.heap_setCell _ _ _ _ h.bp_x).trans (blk_grown h.bx hg h.ns_x)
  · intro g hv
    rcases hl with e | e
    · exact h.ls g (e ▸ hv)
    · rw [hv] at e
      have := Option.some.inj e
      right; omega
  · refine Kept.setCell ((h.kept.alloc o).grown hg fun k hk hlt => ?_) (fun _ => .inl rfl) _
    rcases h.ls k hk with e | e
    · exact .inr (.inr (.inl e))
    · omega

theorem HiS.setL {g n c : Nat} (h : HiS w0 bp lv0 nsv0 nmv0 X m m' w (.slice (some ⟨g, 0, none⟩) n c) n nsv ns nmv nm) (j : Nat) (u : Value) : HiS w0 bp lv0 nsv0 nmv0 X m m' (w.setCell ⟨g, j, none⟩ u) (.slice (some ⟨g, 0, none⟩) n c) n nsv ns nmv nm := by
  obtain ⟨b7, h7⟩ := h.c7
  obtain ⟨ys, hy⟩ := h.hs
  obtain ⟨zs, hz⟩ := h.hm
  obtain ⟨ls, hls⟩ := h.hl
  obtain ⟨cs, hc⟩ := h.typ
  obtain ⟨cl, hcl⟩ := ownsRow_obj hls (g := g) rfl
  have hne : g ≠ bp := ne_of_elem hcl hc (by decide)
  have cl : ∀ {o : Nat} {v : Value}, w.cell? ⟨bp, o, none⟩ = some v → (w.setCell ⟨g, j, none⟩ u).cell? ⟨bp, o, none⟩ = some v := fun hh => by
    rw [World.cell?_setCell_far _ _ _ _ (by exact hne)]; exact hh
  have hgx : X ≠ g := fun e => h.lx (by rw [e]; rfl)
  refine ⟨⟨cs, (Below.heap_setCell _ _ _ _ hne.symm).trans hc⟩, fun o v ho hv => cl (h.low o v ho hv), ⟨b7, cl h7⟩, cl h.c8, cl h.c9, ⟨_, ownsRow_set hls j u⟩, ⟨ys, ownsRow_of_block hy fun g' hv => Below.heap_setCell _ _ _ _ ?_⟩, ⟨zs, ownsRow_of_block hz fun g' hv => Below.heap_setCell _ _ _ _ ?_⟩, (Below.heap_setCell _ _ _ _ hgx).trans h.bx, h.lx, h.ll, h.ls, h.lm, h.kept.setCell (fun hlt => ?_) _⟩
  · obtain ⟨c2, h2⟩ := ownsRow_obj hy hv
    exact ne_of_elem h2 hcl (by decide)
  · obtain ⟨c2, h2⟩ := ownsRow_obj hz hv
    exact ne_of_elem h2 hcl (by decide)
  · rcases h.ll g rfl with e | e
    · exact .inr (.inl e)
    · exact absurd e (by have : g < w0.heap.size := hlt; omega)
end
end Go.Proofs.YtpkiefjanmfgfaaGreatDoor
namespace Go.Proofs.YtpkiefjanmfgfaaGreatDoor
open Go.RowKit

theorem HiS.start {w : World} {bp : Nat} {lv nsv nmv : Value} {n nn : Nat} (typ : ∃ cs, w.heap[bp]? = some (.cells cs 41 (0, 0))) (c7 : ∃ b, w.cell? ⟨bp, 7, none⟩ = some (.int .i64 b)) (c8 : w.cell? ⟨bp, 10, none⟩ = some nsv) (c9 : w.cell? ⟨bp, 11, none⟩ = some nmv) (hl : ∃ xs, w.ownsRow 0 63 2 lv n xs) (hs : ∃ xs, w.ownsRow 0 58 1 nsv nn xs) (hm : ∃ xs, w.ownsRow 0 3 1 nmv nn xs) (nx m m' : Int) (nq : Nat) :
    HiS w bp lv nsv nmv w.heap.size m m' (((w.setCell ⟨bp, 7, none⟩ (.int .i64 nx)).drewN nq).alloc (.cells #[.int .i64 m, .int .i64 m'] 63)) lv n nsv nn nmv nn := by
  obtain ⟨cs, hc⟩ := typ
  obtain ⟨b7, h7⟩ := c7
  obtain ⟨ys, hy⟩ := hs
  obtain ⟨zs, hz⟩ := hm
  obtain ⟨ls, hls⟩ := hl
  have hlt := (Array.getElem?_eq_some_iff.1 hc).1
  have hsz : ((w.setCell ⟨bp, 7, none⟩ (.int .i64 nx)).drewN nq).heap.size = w.heap.size := by simp
  have rs : ∀ {e sz : Nat} {v : Value} {n : Nat} {l : List Value}, e ≠ 41 → w.ownsRow 0 e sz v n l → (((w.setCell ⟨bp, 7, none⟩ (.int .i64 nx)).drewN nq).alloc (.cells #[.int .i64 m, .int .i64 m'] 63)).ownsRow 0 e sz v n l := fun {e sz v n l} he hr => (ownsRow_drewN (ownsRow_of_block hr fun g hv => Below.heap_setCell _ _ _ _ (by
    obtain ⟨c2, h2⟩ := ownsRow_obj hr hv
    exact (ne_of_elem hc h2 (fun e' => he e'.symm)).symm)) nq).alloc _
  have cl : ∀ {k : Nat} {v : Value}, (w.setCell ⟨bp, 7, none⟩ (.int .i64 nx)).cell? ⟨bp, k, none⟩ = some v → (((w.setCell ⟨bp, 7, none⟩ (.int .i64 nx)).drewN nq).alloc (.cells #[.int .i64 m, .int .i64 m'] 63)).cell? ⟨bp, k, none⟩ = some v := fun {k v} hv => by
    have h1 : ((w.setCell ⟨bp, 7, none⟩ (.int .i64 nx)).drewN nq).cell? ⟨bp, k, none⟩ = some v := hv
    rw [World.cell?_alloc_lt _ _ _ (by rw [hsz]; exact hlt)]; exact h1
  refine ⟨⟨_, (Below.heap_alloc _ _ _ (by rw [hsz]; exact hlt)).trans (by rw [heap_drewN]; exact heap_setCell_same _ _ _ _ _ _ hc)⟩, fun o v ho hv => cl ((World.cell?_setCell_other w ⟨bp, 7, none⟩ ⟨bp, o, none⟩ _ (by simp <;> omega)).trans hv), ⟨nx, cl (World.cell?_setCell_same w ⟨bp, 7, none⟩ _ h7)⟩, cl ((World.cell?_setCell_other w ⟨bp, 7, none⟩ ⟨bp, 10, none⟩ _ (by simp)).trans c8), cl ((World.cell?_setCell_other w ⟨bp, 7, none⟩ ⟨bp, 11, none⟩ _ (by simp)).trans c9), ⟨ls, rs (by decide) hls⟩, ⟨ys, rs (by decide) hy⟩, ⟨zs, rs (by decide) hz⟩, ?_, fun e => ?_, fun _ hg => .inl hg, fun _ hg => .inl hg, fun _ hg => .inl hg, ?_⟩
  · have := heap_alloc_new ((w.setCell ⟨bp, 7, none⟩ (.int .i64 nx)).drewN nq) (.cells #[.int .i64 m, .int .i64 m'] 63)
    rwa [hsz] at this
  · have := (hls.lt _ e).2; omega
  · exact (((Kept.refl _ w).setCell (p := ⟨bp, 7, none⟩) (fun _ => .inl rfl) _).drewN nq).alloc _

theorem news_two (w : World) (x y : Value) (t : TypeId) (H0 : Nat) (h : H0 = w.heap.size) : ∀ j u, [x, y][j]? = some u → (w.alloc (.cells #[x, y] t)).cell? ((⟨H0, 0, none⟩ : Addr).add j) = some u := by
  subst h
  exact World.news_of_block (cs := #[x, y]) (t := t) (fr := (0, 0)) (heap_alloc_new _ _)
theorem hd16 (n : Nat) (h : n ≤ 1000) : ∀ q, q < 4 → n + q + 1 ≤ maxLen ∧ (n + q + 1) * 16 ≤ 140737488355328 := by
  intro q hq
  unfold maxLen
  omega

set_option maxHeartbeats 1000000 in
set_option maxRecDepth 10000 in
theorem hits77 (bp : Nat) (a : Option Addr) (n c : Nat) (nsv nmv : Value) (nn : Nat) (w : World) (typ : ∃ cs, w.heap[bp]? = some (.cells cs 41 (0, 0))) (c6 : ∃ b, w.cell? ⟨bp, 6, none⟩ = some (.int .i64 b)) (c7 : ∃ b, w.cell? ⟨bp, 7, none⟩ = some (.int .i64 b)) (c8 : w.cell? ⟨bp, 10, none⟩ = some nsv) (c9 : w.cell? ⟨bp, 11, none⟩ = some nmv) (hl : ∃ xs, w.ownsRow 0 63 2 (.slice a n c) n xs) (hs : ∃ xs, w.ownsRow 0 58 1 nsv nn xs) (hm : ∃ xs, w.ownsRow 0 3 1 nmv nn xs) (hn : n ≤ 1000) (hnn : (nn + 4) * 24 ≤ 140737488355328) :
    Calls Tryz.prog 77 #[.pointer (some ⟨bp, 6, none⟩), .slice a n c] w fun ev w' => ev = .returned (.tuple #[]) ∧ ∃ X m m' lv' nsv' nmv', HiS w bp (.slice a n c) nsv nmv X m m' w' lv' (n + 4) nsv' (nn + 4) nmv' (nn + 4) := by
  have B1 := hide (bd1 nn hnn)
  have B2 := hide (bd2 nn hnn)
  have B3 := hide (hd16 n hn)
  have M1 := hide (md1 nn hnn)
  clear hnn
  obtain ⟨i3, hi3, hz30, hz31, hz32⟩ := info_parts info3
  obtain ⟨i58, hi58, hz580, hz581, hz582⟩ := info_parts info58b
  obtain ⟨i63, hi63, hz630, hz631, hz632⟩ := info_parts info63
  have hst := HiS.start typ c7 c8 c9 hl hs hm
  obtain ⟨b6, h6⟩ := c6
  obtain ⟨b7, h7⟩ := c7
  have h7f : w.frozen? ⟨bp, 7, none⟩ = false := by
    obtain ⟨cs, hc⟩ := typ
    simp [World.frozen?, hc]
  have HST := hide hst
  clear hst typ c8 c9 hl hs hm
  go_enter Tryz.func77, Tryz.ntmps77
  go_wp2_with fail
  refine (mark58_any bp b6 b7 _ h6 h7 h7f).mono ?_
  rintro ev w1 ⟨m, nx, nq, rfl, rfl⟩
  have H1' := HST.out nx m (wrap64 (-m)) nq
  have hsz : ((w.setCell ⟨bp, 7, none⟩ (.int .i64 nx)).drewN nq).heap.size = w.heap.size := by simp
  have H1 := hide H1'
  clear H1' HST h6 h7 h7f
  generalize (w.setCell ⟨bp, 7, none⟩ (.int .i64 nx)).drewN nq = w1 at H1 hsz ⊢
  rw [← hsz] at H1
  clear hsz
  go_wp2
  generalize hwe : w1.alloc (.cells #[.int .i64 m, .int .i64 (wrap64 (-m))] 63) = w2 at H1 ⊢
  generalize w1.heap.size = X at H1 ⊢
  clear hwe
  generalize wrap64 (-m) = m' at H1
  go_loopw [6] (fun i wr => ∃ k : Nat, k ≤ n ∧ i = .int .i64 k ∧ Hid (HiS w bp (.slice a n c) nsv nmv X m m' wr (.slice a n c) n nsv nn nmv nn)) (fun i _ => n - (intOf i).toNat)
  case atStart => exact ⟨0, Nat.zero_le _, rfl, H1⟩
  case round =>
    obtain ⟨k, hk, rfl, hr⟩ := hrel
    have bx0 := cells_at hr.out.bx 0 rfl
    have bx1 := cells_at hr.out.bx 1 rfl
    by_cases hlt : k < n
    · obtain ⟨xs, hxs⟩ := hr.out.hl
      rcases hxs.2 with ⟨_, h0⟩ | ⟨g, cap, cur, hv, _⟩
      · omega
      simp only [Value.slice.injEq] at hv
      obtain ⟨rfl, _, rfl⟩ := hv
      have hxl : xs.length = n * 2 := by simpa using hxs.1
      have hcx : wr.cell? ⟨g, k * 2, none⟩ = some xs[k * 2] := ownsRow_cell hxs (List.getElem?_eq_getElem (by omega))
      have hcy : wr.cell? ⟨g, k * 2 + 1, none⟩ = some xs[k * 2 + 1] := ownsRow_cell hxs (List.getElem?_eq_getElem (by omega))
      have hfx := ownsRow_frozen hxs
      generalize xs[k * 2] = x at hcx
      generalize xs[k * 2 + 1] = y at hcy
      clear hxs hxl
      go_wp2
      exact ⟨⟨k + 1, by omega, by go_num, (hr.out.setL (k * 2) _).setL (k * 2 + 1) _⟩, by simp [intOf]; omega⟩
    · have H2 : Hid (HiS w bp (.slice a n c) nsv nmv X m m' wr (.slice a n c) n nsv nn nmv nn) := hr
      clear hr H1 bx0 bx1
      go_wp2
      go_loopw [1, 7] (fun l i wr => ∃ (k : Nat) (al : Option Addr) (cl : Nat) (nsv' nmv' : Value), k ≤ 4 ∧ i = .int .i64 k ∧ l = .slice al (n + k) cl ∧ Hid (HiS w bp (.slice a n c) nsv nmv X m m' wr (.slice al (n + k) cl) (n + k) nsv' (nn + k) nmv' (nn + k))) (fun _ i _ => 4 - (intOf i).toNat)
      case atStart => exact ⟨0, a, c, nsv, nmv, Nat.zero_le _, rfl, rfl, H2⟩
      case round =>
        clear H2
        obtain ⟨q, al, cl, nsv', nmv', hq, rfl, rfl, hr⟩ := hrel
        by_cases hlt : q < 4
        · have c8 := hr.out.c8
          have hbl := hr.out.lt
          obtain ⟨ls, hls⟩ := hr.out.hl
          obtain ⟨ys, hys⟩ := hr.out.hs
          have HL1 := hide (one_of_row hls)
          have HYS := hide hys
          clear hls hys
          go_upto_region 10 with (at_builtin; refine wpList_append_lies _ rfl _ _ 33 rfl 0 58 i58 (.slice none 0 0) 1 24 Tryz.underlying33 hi58 hz580 hz581 hz582 rfl (by decide) nsv' (nn + q) ys rfl (HYS.out.alloc _) ⟨wr.heap.size, 0, none⟩ 1 1 [.slice al (n + q) cl] rfl rfl (cell_one_new _ _ _) HL1.out (by decide) (M1.out q hlt) (B1.out q hlt) (Nat.zero_le _) (wr.heap.size + 1) (by simp) ?_; intro g1 cap1 w2 ho1 hg1 hl1 hlt1; obtain ⟨hS2, k8, k9, kf⟩ := hr.out.stepN ho1 hg1 (hl1.imp (fun e => e.symm) (fun e => congrArg some e)); obtain ⟨zs, hzs⟩ := hS2.hm; have HS2 := hide hS2; have HZS := hide hzs; clear hS2 hzs ho1 hg1 hl1)
          go_upto_region 11 with (at_builtin; go_must (refine wpList_append_lies _ rfl _ _ 32 rfl 0 3 i3 (.int .i64 0) 1 8 Tryz.underlying32 hi3 hz30 hz31 hz32 rfl (by decide) nmv' (nn + q) zs rfl (HZS.out.alloc _) ⟨w2.heap.size, 0, none⟩ 1 1 [.int .i64 m] rfl rfl (cell_one_new' _ _ _ _ (by simp)) (ints_oneCell .i64 [m]) (by decide) (M1.out q hlt) (B2.out q hlt) (Nat.zero_le _) (w2.heap.size + 1) (by simp) ?_); intro g2 cap2 w3 ho2 hg2 hl2 hlt2; obtain ⟨hS3, m9, mf⟩ := HS2.out.stepM ho2 hg2 (hl2.imp (fun e => e.symm) (fun e => (congrArg some e).trans (by simp))); obtain ⟨ls, hls⟩ := hS3.hl; have HS3 := hide hS3; have HLS := hide hls; clear hS3 hls ho2 hg2 hl2)
          have bx0 := cells_at HS3.out.bx 0 rfl
          have bx1 := cells_at HS3.out.bx 1 rfl
          go_wp2_with (at_builtin; go_must (refine wpList_append_lies _ rfl _ _ 58 rfl 0 63 i63 (.agg #[.int .i64 0, .int .i64 0]) 2 16 Tryz.underlying58 hi63 hz630 hz631 hz632 rfl (by decide) (.slice al (n + q) cl) (n + q) ls rfl (HLS.out.alloc _) ⟨w3.heap.size, 0, none⟩ 1 1 [.int .i64 m, .int .i64 m'] rfl rfl (news_two _ _ _ _ _ (by simp)) (by simp [Value.oneCell']) (by decide) (B3.out q hlt).1 (B3.out q hlt).2 (Nat.zero_le _) (w3.heap.size + 1) (by simp) ?_); intro g3 cap3 w4 ho3 hg3 hl3 hlt3; have HS4 := hide (HS3.out.stepL ho3 hg3 (hl3.imp (fun e => e.symm) (fun e => (congrArg some e).trans (by simp)))))
          refine ⟨⟨q + 1, some ⟨g3, 0, none⟩, cap3, _, _, by omega, by go_num, rfl, HS4⟩, by simp [intOf]; omega⟩
        · obtain rfl : q = 4 := by omega
          go_wp2
          go_end0
          exact ⟨rfl, _, _, _, _, _, _, hr.out⟩
end Go.Proofs.YtpkiefjanmfgfaaGreatDoor
namespace Go.Proofs.YtpkiefjanmfgfaaGreatDoor
open Go.RowKit

set_option maxHeartbeats 1000000 in
set_option maxRecDepth 20000 in
theorem sameConds123 (v1 v2 : Value) (cs : List Cnd) (w : World) (h1 : CondsAt w v1 cs) (h2 : CondsAt w v2 cs) :
    Calls Tryz.prog 123 #[v1, v2] w fun ev w' => ev = .returned (.bool true) ∧ Below w.heap.size w w' := by
  obtain ⟨a1, c1, rfl, _, hm, _⟩ := id h1
  obtain ⟨a2, c2, rfl, _⟩ := id h2
  have H1 := hide h1
  have H2 := hide h2
  clear h1 h2
  go_enter Tryz.func123, Tryz.ntmps123
  go_wp2
  go_loopw [5] (fun i wr => ∃ k : Nat, i = .int .i64 k ∧ k ≤ cs.length ∧ Hid (∃ n, wr = w.drewN n)) (fun i _ => cs.length - (intOf i).toNat)
  case atStart => exact ⟨0, rfl, Nat.zero_le _, 0, rfl⟩
  case round =>
    obtain ⟨k, rfl, hk, hw⟩ := hrel
    obtain ⟨n0, hw0⟩ := id hw.out
    by_cases hlt : k < cs.length
    · obtain ⟨b, off, rfl, x0, x1, x2⟩ := H1.out.cond hlt
      obtain ⟨b', off', rfl, y0, y1, y2⟩ := H2.out.cond hlt
      have u0 : wr.cell? ⟨b, off + k * 3, none⟩ = some (.int .i64 (cs.getD k (0, 0, 0)).1) := by rw [hw0]; exact x0
      have u1 : wr.cell? ⟨b, off + k * 3 + 1, none⟩ = some (.int .i64 (cs.getD k (0, 0, 0)).2.1) := by rw [hw0]; exact x1
      have u2 : wr.cell? ⟨b, off + k * 3 + 2, none⟩ = some (.int .i64 (cs.getD k (0, 0, 0)).2.2) := by rw [hw0]; exact x2
      have z0 : wr.cell? ⟨b', off' + k * 3, none⟩ = some (.int .i64 (cs.getD k (0, 0, 0)).1) := by rw [hw0]; exact y0
      have z1 : wr.cell? ⟨b', off' + k * 3 + 1, none⟩ = some (.int .i64 (cs.getD k (0, 0, 0)).2.1) := by rw [hw0]; exact y1
      have z2 : wr.cell? ⟨b', off' + k * 3 + 2, none⟩ = some (.int .i64 (cs.getD k (0, 0, 0)).2.2) := by rw [hw0]; exact y2
      have hW : Hid (∀ j, ∃ n, wr.drewN j = w.drewN n) := fun j => ⟨n0 + j, by rw [hw0]; simp⟩
      generalize cs.getD k (0, 0, 0) = c at u0 u1 u2 z0 z1 z2
      obtain ⟨t, o, x⟩ := c
      simp only at u0 u1 u2 z0 z1 z2
      clear x0 x1 x2 y0 y1 y2 hw0 hw
      go_wp2
      go_quiet (fail)
      go_wp2
      exact ⟨⟨k + 1, by go_num, by omega, hW.out _⟩, by simp [intOf]; omega⟩
    · have HB : Hid (Below w.heap.size w wr) := by rw [hw0]; exact below_drewN (Below.refl _ _) _
      clear hw0
      go_wp2
      go_ret
      exact ⟨rfl, HB.out⟩
end Go.Proofs.YtpkiefjanmfgfaaGreatDoor
namespace Go.Proofs.YtpkiefjanmfgfaaGreatDoor
open Go.RowKit

theorem run_copy_wide {P : Program} (w : World) (dT sT ty elem : TypeId) (g o dLen dCap : Nat) (a : Addr) (sLen sCap n size : Nat) (cur : Array Value) (t : TypeId) (cs : List Value)
    (hu : P.underlying dT = some (.slice elem)) (hs : (P.info? elem).map (·.size) = some size)
    (hg : w.heap[g]? = some (.cells cur t (0, 0))) (hn : n = Nat.min sLen dLen) (hc : cs.length = n * size)
    (hsrc : ∀ j v, cs[j]? = some v → w.cell? (a.add j) = some v) (hfit : o + cs.length ≤ cur.size) (h1 : ∀ v ∈ cs, v.oneCell' = true) :
    (Builtin.copy_ #[dT, sT] ty #[.slice (some ⟨g, o, none⟩) dLen dCap, .slice (some a) sLen sCap]).run P w =
      .ok (goInt n) (w.setRow g (cur.toList.take o ++ cs ++ cur.toList.drop (o + cs.length)).toArray) := by
  have hl := run_loadCells_list (P := P) w a cs hsrc
  have hst := run_storeCells_at P g o t cs 0 cur w hg (by simpa using hfit) h1
  cases hq : P.info? elem with
  | none => simp [hq] at hs
  | some i =>
    have hi : i.size = size := by simpa [hq] using hs
    simp [Builtin.copy_, run_underlying hu, Builtin.lenOf, Builtin.firstCells, sizeOf, typeInfo, hq, hi, ← hn, ← hc, hl, hst]
theorem run_copy_none' {P : Program} (w : World) (dT sT ty elem : TypeId) (d a : Option Addr) (dLen dCap sLen sCap size : Nat) (hu : P.underlying dT = some (.slice elem)) (hs : (P.info? elem).map (·.size) = some size) (hn : Nat.min sLen dLen = 0) :
    (Builtin.copy_ #[dT, sT] ty #[.slice d dLen dCap, .slice a sLen sCap]).run P w = .ok (goInt 0) w := by
  cases hq : P.info? elem with
  | none => simp [hq] at hs
  | some i =>
    have hl : ∀ (x : Addr), (loadCells x 0).run P w = .ok #[] w := fun x => by simpa using run_loadCells_list (P := P) w x [] (by simp)
    cases d <;> cases a <;> simp [Builtin.copy_, run_underlying hu, Builtin.lenOf, Builtin.firstCells, sizeOf, typeInfo, hq, hn, storeCells, hl]

theorem wpList_copy_wide {P : Program} {w : World} {ops : Array Oper} {rest : List Oper} {o : Oper} {a : Act} {Q : Exit → Act → World → Prop} (hgd : o.guard = none) (d s : Operand) (dT sT : TypeId)
    (ho : o.op = .call { callee := .builtin .copy, args := #[d, s], argTypes := #[dT, sT] }) (elem : TypeId) (hu : P.underlying dT = some (.slice elem)) (size : Nat) (hsz : (P.info? elem).map (·.size) = some size)
    (dp sp : Option Addr) (dLen dCap sLen sCap : Nat) (hd : a.eval d = .slice dp dLen dCap) (hs : a.eval s = .slice sp sLen sCap)
    (g off n : Nat) (cur : List Value) (t : TypeId) (hg : w.heap[g]? = some (.cells cur.toArray t (0, 0))) (cs : List Value) (hn : n = Nat.min sLen dLen) (hc : cs.length = n * size)
    (hpos : 0 < n → dp = some ⟨g, off, none⟩ ∧ ∃ ad, sp = some ad ∧ ∀ j v, cs[j]? = some v → w.cell? (ad.add j) = some v)
    (hfit : off + cs.length ≤ cur.length) (h1 : ∀ v ∈ cs, v.oneCell' = true) (B : Nat) (w0 : World) (hb : Below B w0 w) (hBg : B ≤ g)
    (h : ∀ w', Hid (w'.heap[g]? = some (.cells (splice cur off cs).toArray t (0, 0))) → Below B w0 w' → Kept (fun k => k = g) w w' → wpList P ops Q rest (a.put o.dst (goInt n)) w') :
    wpList P ops Q (o :: rest) a w := by
  refine wpList_plain hgd fun K hK => ?_
  by_cases h0 : n = 0
  · have hrun := run_copy_none' (P := P) w dT sT o.type elem dp sp dLen dCap sLen sCap size hu hsz (hn.symm.trans h0)
    obtain rfl : cs = [] := List.eq_nil_of_length_eq_zero (by rw [hc, h0, Nat.zero_mul])
    have h2 := h w (show _ = _ by simpa [splice] using hg) hb (Kept.refl _ _)
    unfold Oper.wp
    simp [execOp, ho, resolve, invoke, builtin, hd, hs, hrun, Result.andThen]
    rw [h0] at h2
    exact hK _ _ h2
  · obtain ⟨rfl, ad, rfl, hsrc⟩ := hpos (by omega)
    have hrun := run_copy_wide (P := P) w dT sT o.type elem g off dLen dCap ad sLen sCap n size cur.toArray t cs hu hsz hg hn hc hsrc (by simpa using hfit) h1
    unfold Oper.wp
    simp [execOp, ho, resolve, invoke, builtin, hd, hs, hrun, Result.andThen]
    refine hK _ _ (h _ (show _ = _ by simpa [splice] using setRow_heap w g _ _ t _ hg) (by simpa using below_setRow hb hBg _) ?_)
    exact ⟨rfl, rfl, rfl, by simp [World.setRow], fun k _ hk => setRow_other w g k _ hk⟩
end Go.Proofs.YtpkiefjanmfgfaaGreatDoor
