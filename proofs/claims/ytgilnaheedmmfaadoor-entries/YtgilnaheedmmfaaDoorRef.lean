import Derived.Test.YtgilnaheedmmfaaDoorState
import Derived.Test.YtgilnaheedmmfaaDoorPoint
import Derived.Test.YtgilnaheedmmfaaDoorBook
namespace Go.Proofs.YtgilnaheedmmfaaDoor
open Go.RowKit

def rcell (e : Ent) : List Value := [.int .i64 e.id, .slice (some ⟨e.rb, 0, none⟩) e.pt.length e.rc, .int .i64 e.t0, .int .i64 e.t1, .int .u64 e.draw]
def rcells (L : List Ent) : List Value := L.flatMap rcell

theorem rcells_cons (e : Ent) (L : List Ent) : rcells (e :: L) = rcell e ++ rcells L := rfl
theorem rcells_append (L M : List Ent) : rcells (L ++ M) = rcells L ++ rcells M := by simp [rcells]
theorem rcells_length : ∀ L : List Ent, (rcells L).length = L.length * 5
  | [] => rfl
  | e :: L => by rw [rcells_cons, List.length_append, rcells_length L]; simp [rcell]; omega
theorem rcells_get : ∀ (L : List Ent) (k j : Nat) (hk : k < L.length), j < 5 → (rcells L)[k * 5 + j]? = (rcell L[k])[j]?
  | e :: L, 0, j, _, hj => by
    rw [rcells_cons, List.getElem?_append_left (by simp [rcell]; omega)]
    simp
  | e :: L, k + 1, j, hk, hj => by
    rw [rcells_cons, List.getElem?_append_right (by simp [rcell]; omega)]
    have e1 : (k + 1) * 5 + j - (rcell e).length = k * 5 + j := by simp [rcell]; omega
    rw [e1, rcells_get L k j (by simpa using hk) hj]
    simp

/-- How many stand ahead of a number. -/
def posE (id : Int) (L : List Ent) : Nat := (L.takeWhile fun e => decide (e.id < id)).length

theorem posE_le (id : Int) (L : List Ent) : posE id L ≤ L.length := by
  unfold posE
  exact (List.takeWhile_prefix _).length_le

theorem posE_eq {id : Int} {L : List Ent} {k : Nat} (hk : k ≤ L.length) (h1 : ∀ j (hj : j < k), (L[j]'(by omega)).id < id) (h2 : ∀ (h : k < L.length), ¬ L[k].id < id) : posE id L = k := by
  unfold posE
  induction L generalizing k with
  | nil => simp at hk; simp [hk]
  | cons e L ih =>
    cases k with
    | zero =>
      have := h2 (by simp)
      simp at this
      simp [List.takeWhile_cons]
      omega
    | succ k =>
      have h0 := h1 0 (by omega)
      simp at h0
      simp only [List.takeWhile_cons, h0, decide_true, if_true, List.length_cons, Nat.add_right_cancel_iff]
      refine ih (by simpa using hk) (fun j hj => ?_) (fun h => ?_)
      · have := h1 (j + 1) (by omega); simpa using this
      · have := h2 (by simpa using h); simpa using this

/-- Found, or not, at its place. -/
theorem there_eq {id : Int} {L : List Ent} {k : Nat} (hr : Rising L) (hk : k ≤ L.length) (h1 : ∀ j (hj : j < k), (L[j]'(by omega)).id < id) (h2 : ∀ (h : k < L.length), ¬ L[k].id < id) :
    (∀ h : k < L.length, L[k].id = id → findE id L = some L[k]) ∧ ((∀ h : k < L.length, L[k].id ≠ id) → findE id L = none) := by
  constructor
  · intro h he
    unfold findE
    rw [List.find?_eq_some_iff_getElem]
    refine ⟨by simpa using he, k, h, rfl, fun j hj => ?_⟩
    have := h1 j hj
    simp; omega
  · intro hne
    unfold findE
    rw [List.find?_eq_none]
    intro e he
    obtain ⟨j, hj, rfl⟩ := List.getElem_of_mem he
    rcases Nat.lt_trichotomy j k with h | h | h
    · have := h1 j h; simp; omega
    · subst h; simpa using hne hj
    · have hk' : k < L.length := by omega
      have h3 := h2 hk'
      have h4 : L[k].id < L[j].id := List.pairwise_iff_getElem.1 hr k j hk' hj h
      simp; omega

/-- The document's base. -/
structure RefAt (w : World) (br : Nat) (dim cap : Int) (la : Option Addr) (lc : Nat) (L : List Ent) : Prop where
  typ : ∃ cs, w.heap[br]? = some (.cells cs 64 (0, 0))
  r0 : w.cell? ⟨br, 0, none⟩ = some (.int .i64 dim)
  r1 : w.cell? ⟨br, 1, none⟩ = some (.int .i64 cap)
  r6 : w.cell? ⟨br, 6, none⟩ = some (.slice la L.length lc)
  row : w.ownsRow 0 90 5 (.slice la L.length lc) L.length (rcells L)
  pts : ∀ e ∈ L, Pts w e.rb e.rc e.pt
  rising : Rising L
  small : L.length ≤ 60

theorem RefAt.addr {w : World} {br : Nat} {dim cap : Int} {la : Option Addr} {lc : Nat} {L : List Ent} (h : RefAt w br dim cap la lc L) (h0 : 0 < L.length) : ∃ g, la = some ⟨g, 0, none⟩ := by
  rcases h.row.2 with ⟨_, hz⟩ | ⟨g, cap', cur, hv, _⟩
  · omega
  · simp only [Value.slice.injEq] at hv
    exact ⟨g, hv.1⟩

theorem ref_cell {w : World} {g n lc : Nat} {L : List Ent} (h : w.ownsRow 0 90 5 (.slice (some ⟨g, 0, none⟩) n lc) n (rcells L)) {k j : Nat} (hk : k < L.length) (hj : j < 5) {v : Value} (hv : (rcell L[k])[j]? = some v) : w.cell? ⟨g, k * 5 + j, none⟩ = some v :=
  ownsRow_cell h (by rw [rcells_get L k j hk hj]; exact hv)

set_option maxHeartbeats 1000000 in
theorem find38_any (br : Nat) (dim cap : Int) (la : Option Addr) (lc : Nat) (L : List Ent) (id : Int) (w : World) (h : RefAt w br dim cap la lc L) :
    Calls Tryd.prog 38 #[.pointer (some ⟨br, 0, none⟩), .int .i64 id] w fun ev w' => ev = .returned (.tuple #[.int .i64 (posE id L), .bool (findE id L).isSome]) ∧ ∃ nq, w' = w.drewN nq := by
  have r6 := h.r6
  have hsm := h.small
  have H := hide h
  clear h
  go_enter Tryd.func38, Tryd.ntmps38
  go_wp2
  go_loop [6] (fun i => ∃ k : Nat, i = .int .i64 k ∧ k ≤ L.length ∧ Hid (∀ j (hj : j < k) (hl : j < L.length), L[j].id < id)) (fun i => L.length - (intOf i).toNat)
  case atStart => exact ⟨0, rfl, Nat.zero_le _, fun j hj => absurd hj (Nat.not_lt_zero _)⟩
  case round =>
    obtain ⟨k, rfl, hk, hall⟩ := hrel
    by_cases hlt : k < L.length
    · obtain ⟨g, rfl⟩ := H.out.addr (by omega)
      have hc := ref_cell H.out.row hlt (j := 0) (by omega) rfl
      simp only [Nat.add_zero] at hc
      by_cases hi : L[k].id < id
      · have HI := hide hi
        generalize hx : L[k].id = x at hc hi
        have HX := hide hx
        clear hx
        go_wp2
        go_round
        case rel => exact ⟨k + 1, by go_num, by omega, fun j hj hl => by
          rcases Nat.lt_or_ge j k with h | h
          · exact hall.out j h hl
          · obtain rfl : j = k := by omega
            exact HI.out⟩
        case measure => simp [intOf]; omega
      · have HI := hide hi
        have HT := hide (there_eq H.out.rising hk (fun j hj => hall.out j hj (by omega)) (fun _ => hi))
        have HP := hide (posE_eq hk (fun j hj => hall.out j hj (by omega)) (fun _ => hi))
        have hi2 : decide (L[k].id < id) = false := by simpa using hi
        generalize hx : L[k].id = x at hc hi hi2
        have HX := hide hx
        clear hx
        by_cases he : x = id
        · have hb : (x == id) = true := by simpa using he
          have HE := hide he
          clear he hi
          go_wp2
          go_quiet (fail)
          go_wp2
          go_ret2
          refine ⟨?_, _, rfl⟩
          rw [HP.out, HT.out.1 hlt (HX.out.trans HE.out)]
          rfl
        · have hb : (x == id) = false := by simpa using he
          have HE := hide he
          clear he hi
          go_wp2
          go_quiet (fail)
          go_wp2
          go_ret2
          refine ⟨?_, _, rfl⟩
          rw [HP.out, HT.out.2 (fun h e => HE.out (HX.out.symm.trans e))]
          rfl
    · have HT := hide (there_eq H.out.rising hk (fun j hj => hall.out j hj (by omega)) (fun h => absurd h hlt))
      have HP := hide (posE_eq hk (fun j hj => hall.out j hj (by omega)) (fun h => absurd h hlt))
      have hd : decide ((k : Int) < (L.length : Int)) = false := by simp; omega
      have HK := hide hlt
      clear hlt
      go_wp2
      go_quiet (fail)
      go_wp2
      go_ret2
      refine ⟨?_, _, rfl⟩
      rw [HP.out, HT.out.2 (fun h => absurd h HK.out)]
      rfl
end Go.Proofs.YtgilnaheedmmfaaDoor
