import Derived.Test.YtgilnaheedmmfaaDoorFrame
namespace Go.Proofs.YtgilnaheedmmfaaDoor
open Go.RowKit Go.Maps

/-- An entry, as both sides hold it: its numbers; the block and the capacity of its point in the map (mb, mc) and in the document's list (rb, rc). -/
structure Ent where
  id : Int
  pt : List Int
  t0 : Int
  t1 : Int
  draw : Int
  mb : Nat
  mc : Nat
  rb : Nat
  rc : Nat

def mval (e : Ent) : Value := .agg #[.int .i64 e.id, .slice (some ⟨e.mb, 0, none⟩) e.pt.length e.mc, .int .i64 e.t0, .int .i64 e.t1]
def mdata (L : List Ent) : List (Lit × DataW Value) := L.map fun e => (.int .i64 e.id, .held (mval e))

/-- How an element of the map reads: as itself. -/
def asIs (v : Value) : Option (DataW Value × List MemPlace) := some (.held v, [])

/-- Put in its place among those in order. -/
def insE (x : Ent) : List Ent → List Ent
  | [] => [x]
  | y :: r => if x.id < y.id then x :: y :: r else if x.id = y.id then x :: r else y :: insE x r
def delE (id : Int) (L : List Ent) : List Ent := L.filter fun e => decide (e.id ≠ id)
def findE (id : Int) (L : List Ent) : Option Ent := L.find? fun e => decide (e.id = id)

def Rising (L : List Ent) : Prop := L.Pairwise fun a b => a.id < b.id

theorem sameKey_int (a b : Int) : Lit.sameKey (.int .i64 a) (.int .i64 b) = decide (a = b) := by simp [Lit.sameKey]

theorem mdata_length (L : List Ent) : (mdata L).length = L.length := by simp [mdata]

theorem find_mdata (L : List Ent) (id : Int) : (mdata L).find? (fun p => p.1.sameKey (.int .i64 id)) = (findE id L).map fun e => (.int .i64 e.id, .held (mval e)) := by
  induction L with
  | nil => rfl
  | cons y r ih =>
    simp only [mdata, List.map_cons, List.find?_cons, findE, sameKey_int] at ih ⊢
    by_cases h : y.id = id
    · simp [h]
    · simp only [h, decide_false]
      exact ih

theorem atKey_mdata (L : List Ent) (id : Int) (z : DataW Value) : (DataW.map (mdata L)).atKey (.int .i64 id) z = (match findE id L with | some e => .held (mval e) | none => z) := by
  simp only [DataW.atKey, find_mdata]
  cases findE id L <;> rfl

theorem has_mdata (L : List Ent) (id : Int) : Maps.has (.map (mdata L)) (.int .i64 id) = (findE id L).isSome := by
  rw [Maps.has_eq]
  induction L with
  | nil => rfl
  | cons y r ih =>
    simp only [mdata, List.map_cons, List.any_cons, findE, sameKey_int, List.find?_cons] at ih ⊢
    by_cases h : y.id = id
    · simp [h]
    · simp only [h, decide_false, Bool.false_or]
      exact ih

theorem del_mdata (L : List Ent) (id : Int) : (DataW.map (mdata L)).del (.int .i64 id) = .map (mdata (delE id L)) := by
  simp only [DataW.del, mdata, delE, List.filter_map]
  congr 2
  refine List.filter_congr fun e _ => ?_
  simp [sameKey_int]

theorem filter_above {id : Int} {L : List Ent} (h : ∀ e ∈ L, id < e.id) : (mdata L).filter (fun p => !p.1.sameKey (.int .i64 id)) = mdata L := by
  refine List.filter_eq_self.2 fun p hp => ?_
  obtain ⟨e, he, rfl⟩ := List.mem_map.1 hp
  have := h e he
  simp [sameKey_int]; omega

theorem insert_mdata (x : Ent) : ∀ L : List Ent, Rising L → DataW.insert (.int .i64 x.id, .held (mval x)) ((mdata L).filter fun p => !p.1.sameKey (.int .i64 x.id)) = mdata (insE x L)
  | [], _ => rfl
  | y :: r, h => by
    obtain ⟨h1, h2⟩ := List.pairwise_cons.1 h
    by_cases hlt : x.id < y.id
    · have hall : ∀ e ∈ y :: r, x.id < e.id := fun e he => by
        rcases List.mem_cons.1 he with rfl | he
        · exact hlt
        · have := h1 e he; omega
      rw [filter_above hall]
      simp [mdata, insE, hlt, DataW.insert, Lit.before]
    · by_cases he : x.id = y.id
      · have hall : ∀ e ∈ r, x.id < e.id := fun e hr => by have := h1 e hr; omega
        have e1 : (mdata (y :: r)).filter (fun p => !p.1.sameKey (.int .i64 x.id)) = mdata r := by
          rw [show mdata (y :: r) = (.int .i64 y.id, .held (mval y)) :: mdata r from rfl, List.filter_cons]
          simp only [sameKey_int, he, decide_true, Bool.not_true, Bool.false_eq_true, if_false]
          rw [← he]
          exact filter_above hall
        rw [e1]
        simp only [insE, he, if_false, if_true, Int.lt_irrefl]
        cases r with
        | nil => simp [mdata, DataW.insert, he]
        | cons z r =>
          have := hall z (by simp)
          simp [mdata, DataW.insert, Lit.before, ← he, this]
      · have e1 : (mdata (y :: r)).filter (fun p => !p.1.sameKey (.int .i64 x.id)) = (.int .i64 y.id, .held (mval y)) :: (mdata r).filter (fun p => !p.1.sameKey (.int .i64 x.id)) := by
          rw [show mdata (y :: r) = (.int .i64 y.id, .held (mval y)) :: mdata r from rfl, List.filter_cons]
          have : ¬ y.id = x.id := fun e => he e.symm
          simp [sameKey_int, this]
        rw [e1]
        simp only [DataW.insert, Lit.before, hlt, decide_false, Bool.false_eq_true, if_false]
        rw [insert_mdata x r h2]
        simp [insE, hlt, he, mdata]

theorem put_mdata (x : Ent) (L : List Ent) (h : Rising L) : (DataW.map (mdata L)).put (.int .i64 x.id) (.held (mval x)) = .map (mdata (insE x L)) := by
  rw [← insert_mdata x L h]
  rfl

/-! lists in order -/
theorem findE_mem {id : Int} {L : List Ent} {e : Ent} (h : findE id L = some e) : e ∈ L ∧ e.id = id := by
  unfold findE at h
  exact ⟨List.mem_of_find?_eq_some h, by simpa using List.find?_some h⟩
theorem findE_none {id : Int} {L : List Ent} (h : findE id L = none) : ∀ e ∈ L, e.id ≠ id := by
  intro e he
  have := List.find?_eq_none.1 h e he
  simpa using this
theorem mem_insE {x e : Ent} : ∀ {L : List Ent}, e ∈ insE x L → e = x ∨ e ∈ L
  | [], h => by simp [insE] at h; exact .inl h
  | y :: r, h => by
    unfold insE at h
    split at h
    · rcases List.mem_cons.1 h with h | h
      · exact .inl h
      · exact .inr h
    · split at h
      · rcases List.mem_cons.1 h with h | h
        · exact .inl h
        · exact .inr (List.mem_cons_of_mem _ h)
      · rcases List.mem_cons.1 h with h | h
        · exact .inr (by simp [h])
        · rcases mem_insE h with h | h
          · exact .inl h
          · exact .inr (List.mem_cons_of_mem _ h)
theorem rising_insE (x : Ent) : ∀ {L : List Ent}, Rising L → Rising (insE x L)
  | [], _ => by simp [insE, Rising]
  | y :: r, h => by
    obtain ⟨h1, h2⟩ := List.pairwise_cons.1 h
    unfold insE
    split
    · rename_i hlt
      refine List.pairwise_cons.2 ⟨fun e he => ?_, h⟩
      rcases List.mem_cons.1 he with rfl | he
      · exact hlt
      · have := h1 e he; omega
    · split
      · rename_i he
        exact List.pairwise_cons.2 ⟨fun e hr => by have := h1 e hr; omega, h2⟩
      · rename_i hlt hne
        refine List.pairwise_cons.2 ⟨fun e he => ?_, rising_insE x h2⟩
        rcases mem_insE he with rfl | he
        · omega
        · exact h1 e he
theorem rising_delE (id : Int) {L : List Ent} (h : Rising L) : Rising (delE id L) := h.filter _
theorem length_insE_none (x : Ent) : ∀ {L : List Ent}, findE x.id L = none → (insE x L).length = L.length + 1
  | [], _ => rfl
  | y :: r, h => by
    have hy := findE_none h y (by simp)
    have hr : findE x.id r = none := by
      unfold findE at h ⊢
      rw [List.find?_cons] at h
      simpa [hy] using h
    unfold insE
    split
    · rfl
    · split
      · omega
      · simp [length_insE_none x hr]
theorem length_insE_some (x : Ent) : ∀ {L : List Ent} {e : Ent}, Rising L → findE x.id L = some e → (insE x L).length = L.length
  | [], _, _, h => by cases h
  | y :: r, e, hs, h => by
    obtain ⟨h1, h2⟩ := List.pairwise_cons.1 hs
    by_cases hy : y.id = x.id
    · simp [insE, hy]
    · have hr : findE x.id r = some e := by
        unfold findE at h ⊢
        rw [List.find?_cons] at h
        simpa [hy] using h
      have := h1 e (findE_mem hr).1
      have := (findE_mem hr).2
      unfold insE
      rw [if_neg (by omega), if_neg (fun e => hy e.symm)]
      simp [length_insE_some x h2 hr]
theorem mem_delE {id : Int} {L : List Ent} {e : Ent} (h : e ∈ delE id L) : e ∈ L := (List.mem_filter.1 h).1
end Go.Proofs.YtgilnaheedmmfaaDoor
