import Derived.Test.YtgilnaheedmmfaaDoorRef
namespace Go.Proofs.YtgilnaheedmmfaaDoor
open Go.RowKit

theorem info90 : (Tryd.prog.info? 90).map (fun i => (i.zero, i.size, i.bytes)) = some (some (.agg #[.int .i64 0, .slice none 0 0, .int .i64 0, .int .i64 0, .int .u64 0]), 5, 56) := by kernel_rfl

theorem row_form {w : World} {base e size n : Nat} {v : Value} {xs : List Value} (h : w.ownsRow base e size v n xs) : ∃ a c, v = .slice a n c := by
  rcases h.2 with ⟨rfl, rfl⟩ | ⟨g, cap, cur, rfl, _⟩
  · exact ⟨_, _, rfl⟩
  · exact ⟨_, _, rfl⟩

theorem RefAt.below {w w' : World} {br : Nat} {dim cap : Int} {la : Option Addr} {lc : Nat} {L : List Ent} (h : RefAt w br dim cap la lc L) (hb : Below w.heap.size w w') : RefAt w' br dim cap la lc L := by
  obtain ⟨cs, hc⟩ := h.typ
  have hlt := (Array.getElem?_eq_some_iff.1 hc).1
  exact ⟨⟨cs, (hb.block br hlt).trans hc⟩, Below.at hb h.r0 hlt, Below.at hb h.r1 hlt, Below.at hb h.r6 hlt, ownsRow_below h.row hb, fun e he => ownsRow_below (h.pts e he) hb, h.rising, h.small⟩
theorem RefAt.alloc {w : World} {br : Nat} {dim cap : Int} {la : Option Addr} {lc : Nat} {L : List Ent} (h : RefAt w br dim cap la lc L) (o : Obj) : RefAt (w.alloc o) br dim cap la lc L := h.below ((Below.refl _ _).alloc (Nat.le_refl _) o)
theorem RefAt.drewN {w : World} {br : Nat} {dim cap : Int} {la : Option Addr} {lc : Nat} {L : List Ent} (h : RefAt w br dim cap la lc L) (n : Nat) : RefAt (w.drewN n) br dim cap la lc L := h.below (below_drewN (Below.refl _ _) n)
theorem RefAt.lt {w : World} {br : Nat} {dim cap : Int} {la : Option Addr} {lc : Nat} {L : List Ent} (h : RefAt w br dim cap la lc L) : br < w.heap.size := by
  obtain ⟨cs, hc⟩ := h.typ
  exact (Array.getElem?_eq_some_iff.1 hc).1
theorem RefAt.frozen {w : World} {br : Nat} {dim cap : Int} {la : Option Addr} {lc : Nat} {L : List Ent} (h : RefAt w br dim cap la lc L) (o : Nat) : w.frozen? ⟨br, o, none⟩ = false := by
  obtain ⟨cs, hc⟩ := h.typ
  simp [World.frozen?, hc]

theorem pos_found {id : Int} : ∀ {L : List Ent} {e : Ent}, Rising L → findE id L = some e → ∃ h : posE id L < L.length, L[posE id L] = e
  | [], e, _, h => by cases h
  | y :: r, e, hs, h => by
    obtain ⟨h1, h2⟩ := List.pairwise_cons.1 hs
    by_cases hy : y.id = id
    · have he : y = e := by simpa [findE, List.find?_cons, hy] using h
      have h0 : posE id (y :: r) = 0 := by simp [posE, hy]
      simp only [h0]
      exact ⟨by simp, by simpa using he⟩
    · have hr : findE id r = some e := by
        unfold findE at h ⊢
        rw [List.find?_cons] at h
        simpa [hy] using h
      have h3 := h1 e (findE_mem hr).1
      have h4 := (findE_mem hr).2
      have h0 : posE id (y :: r) = posE id r + 1 := by simp [posE, show y.id < id by omega]
      obtain ⟨h5, h6⟩ := pos_found h2 hr
      simp only [h0]
      exact ⟨by simpa using h5, by simpa using h6⟩

set_option maxHeartbeats 1000000 in
theorem get37_no (br : Nat) (dim cap : Int) (la : Option Addr) (lc : Nat) (L : List Ent) (id : Int) (w : World) (h : RefAt w br dim cap la lc L) (he : findE id L = none) :
    Calls Tryd.prog 37 #[.pointer (some ⟨br, 0, none⟩), .int .i64 id] w fun ev w' => ev = .returned (.tuple #[.agg #[.int .i64 0, .slice none 0 0, .int .i64 0, .int .i64 0, .int .u64 0], .int .i64 5]) ∧ Below w.heap.size w w' := by
  have HE : Hid ((findE id L).isSome = false) := by rw [he]; rfl
  go_enter Tryd.func37, Tryd.ntmps37
  go_wp2_with fail
  refine (find38_any br dim cap la lc L id _ (h.alloc _)).mono ?_
  rintro ev w1 ⟨rfl, nq, rfl⟩
  rw [HE.out]
  clear he h
  go_wp2
  refine bodyPost_ret (v := .tuple #[.agg #[.int .i64 0, .slice none 0 0, .int .i64 0, .int .i64 0, .int .u64 0], .int .i64 5]) (by simp [results, Tryd.results37, go_sem]) rfl ⟨rfl, ?_⟩
  repeat (first | exact Below.refl _ _ | refine below_drewN ?_ _ | refine Below.setCell ?_ (by first | omega | (simp; done) | (simp; omega)) _ | refine Below.alloc ?_ (by first | omega | (simp; done) | (simp; omega)) _)

set_option maxHeartbeats 1000000 in
theorem get37_yes (br : Nat) (dim cap : Int) (la : Option Addr) (lc : Nat) (L : List Ent) (id : Int) (e : Ent) (w : World) (h : RefAt w br dim cap la lc L) (he : findE id L = some e) :
    Calls Tryd.prog 37 #[.pointer (some ⟨br, 0, none⟩), .int .i64 id] w fun ev w' => ev = .returned (.tuple #[.agg #[.int .i64 e.id, .slice (some ⟨e.rb, 0, none⟩) e.pt.length e.rc, .int .i64 e.t0, .int .i64 e.t1, .int .u64 e.draw], .int .i64 0]) ∧ Below w.heap.size w w' := by
  have HE : Hid ((findE id L).isSome = true) := by rw [he]; rfl
  obtain ⟨hk, hke⟩ := pos_found h.rising he
  obtain ⟨g, rfl⟩ := h.addr (by omega)
  have hrow := h.row
  have hr6 := h.r6
  have hbr := h.lt
  have hbg : g < w.heap.size := (hrow.lt g rfl).2
  have q0 : w.cell? ⟨g, posE id L * 5, none⟩ = some (.int .i64 e.id) := by have := ref_cell hrow hk (j := 0) (by omega) rfl; simpa [hke] using this
  have q1 : w.cell? ⟨g, posE id L * 5 + 1, none⟩ = some (.slice (some ⟨e.rb, 0, none⟩) e.pt.length e.rc) := by have := ref_cell hrow hk (j := 1) (by omega) rfl; simpa [hke] using this
  have q2 : w.cell? ⟨g, posE id L * 5 + 2, none⟩ = some (.int .i64 e.t0) := by have := ref_cell hrow hk (j := 2) (by omega) rfl; simpa [hke] using this
  have q3 : w.cell? ⟨g, posE id L * 5 + 3, none⟩ = some (.int .i64 e.t1) := by have := ref_cell hrow hk (j := 3) (by omega) rfl; simpa [hke] using this
  have q4 : w.cell? ⟨g, posE id L * 5 + 4, none⟩ = some (.int .u64 e.draw) := by have := ref_cell hrow hk (j := 4) (by omega) rfl; simpa [hke] using this
  have hsm := h.small
  clear hrow
  go_enter Tryd.func37, Tryd.ntmps37
  go_wp2_with fail
  refine (find38_any br dim cap _ lc L id _ (h.alloc _)).mono ?_
  rintro ev w1 ⟨rfl, nq, rfl⟩
  rw [HE.out]
  clear he h hke
  generalize posE id L = k at *
  go_wp2
  refine bodyPost_ret (v := .tuple #[.agg #[.int .i64 e.id, .slice (some ⟨e.rb, 0, none⟩) e.pt.length e.rc, .int .i64 e.t0, .int .i64 e.t1, .int .u64 e.draw], .int .i64 0]) (by simp [results, Tryd.results37, go_sem]) rfl ⟨rfl, ?_⟩
  repeat (first | exact Below.refl _ _ | refine below_drewN ?_ _ | refine Below.setCell ?_ (by first | omega | (simp; done) | (simp; omega)) _ | refine Below.alloc ?_ (by first | omega | (simp; done) | (simp; omega)) _)
end Go.Proofs.YtgilnaheedmmfaaDoor
