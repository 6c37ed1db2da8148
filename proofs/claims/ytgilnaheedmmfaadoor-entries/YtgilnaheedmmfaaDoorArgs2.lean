import Derived.Test.YtgilnaheedmmfaaDoorArgs
namespace Go.Proofs.YtgilnaheedmmfaaDoor
open Go.ChangeShapes Go.WideShapes Go.RowKit

section
variable {H : Type} {enc : TypeId × Value → H} {W : World} {hd : Bool}

theorem weights_all {P : Program} {e : TypeId} : ∀ {l : List (DataW H)} {d : DataW H}, d ∈ l → ∀ k ∈ d.weights P e, k ∈ DataW.weightsAll P e l
  | x :: r, d, hm, k, hk => by
    simp only [DataW.weightsAll, List.mem_append]
    rcases List.mem_cons.1 hm with rfl | hm
    · exact .inl hk
    · exact .inr (weights_all hm k hk)
  | [], _, hm, _, _ => by cases hm

/-- What a step's nine cells hold. -/
structure OpCells (W : World) (cs : List Value) (kd id kk be t0 t1 draw : Int) (xs : List Int) (pa : Option Addr) (pc : Nat) (fa : Option Addr) (fn fc : Nat) : Prop where
  all : cs = [.int .i64 kd, .int .i64 id, .int .i64 kk, .int .i64 be, .slice pa xs.length pc, .int .i64 t0, .int .i64 t1, .int .u64 draw, .slice fa fn fc]
  pt : IntsAt W (.slice pa xs.length pc) xs
  wf : I64 id
  sz : (xs.length + 6) * 8 ≤ 140737488355328

set_option maxRecDepth 100000 in
theorem op_open {n : Nat} {cs : List Value} {x : DataW H × List MemPlace} (h : DataW.trod enc Tryd.prog W 0 (fun _ => true) hd n 49 cs = some x) (hw : ∀ k ∈ x.1.weights Tryd.prog 49, k ≤ reachBytes) :
    ∃ kd id kk be t0 t1 draw xs pa pc fa fn fc, OpCells W cs kd id kk be t0 t1 draw xs pa pc fa fn fc := by
  obtain ⟨xs, m, _, rfl, hl, hlen, hx⟩ := DataW.trod_struct Tryd.underlying49 h
  rw [cells49] at hl
  match cs, hl with
  | [c0, c1, c2, c3, c4, c5, c6, c7, c8], _ =>
    match xs, hlen with
    | [y0, y1, y2, y3, y4, y5, y6, y7], _ =>
      have g0 := hx 0 _ rfl
      have g1 := hx 1 _ rfl
      have g2 := hx 2 _ rfl
      have g3 := hx 3 _ rfl
      have g4 := hx 4 _ rfl
      have g5 := hx 5 _ rfl
      have g6 := hx 6 _ rfl
      have g7 := hx 7 _ rfl
      simp [cells3, cells32, cells43, cells44, cells47] at g0 g1 g2 g3 g4 g5 g6 g7
      clear hx
      obtain ⟨kd, e0, _⟩ := DataW.trod_int Tryd.underlying3 g0
      obtain ⟨id, e1, _, hid⟩ := DataW.trod_int Tryd.underlying3 g1
      obtain ⟨kk, e2, _⟩ := DataW.trod_int Tryd.underlying3 g2
      obtain ⟨be, e3, _⟩ := DataW.trod_int Tryd.underlying3 g3
      obtain ⟨draw, e7, _⟩ := DataW.trod_int Tryd.underlying44 g6
      obtain ⟨ps, pa, pc, e4, hp, hs⟩ := point_open g4 (fun k hk => hw k (by
        simp only [DataW.weights, Tryd.underlying49]
        exact DataW.weights_mem_each (j := 4) rfl rfl k hk))
      obtain ⟨us, m2, _, _, _, hul, hu⟩ := DataW.trod_array Tryd.underlying43 g5
      match us, hul with
      | [u0, u1], _ =>
        have k0 := hu 0 (by omega)
        have k1 := hu 1 (by omega)
        simp [cells3] at k0 k1
        obtain ⟨t0, e5, _⟩ := DataW.trod_int Tryd.underlying3 k0
        obtain ⟨t1, e6, _⟩ := DataW.trod_int Tryd.underlying3 k1
        obtain ⟨z0, m3, _, _, g8⟩ := trod_struct1 Tryd.underlying47 g7
        simp [cells45] at g8
        obtain ⟨fa, fn, fc, e8⟩ : ∃ fa fn fc, c8 = .slice fa fn fc := by
          rcases Deep.open_slice Tryd.underlying45 g8 with ⟨e, _⟩ | ⟨a, len, cap, _, _, _, _, e, _⟩
          · simp at e; exact ⟨_, _, _, e⟩
          · simp at e; exact ⟨_, _, _, e⟩
        simp at e0 e1 e2 e3 e5 e6 e7
        subst e0; subst e1; subst e2; subst e3; subst e4; subst e5; subst e6; subst e7; subst e8
        exact ⟨kd, id, kk, be, t0, t1, draw, ps, pa, pc, fa, fn, fc, rfl, hp, hid, hs⟩

set_option maxRecDepth 100000 in
/-- The script. -/
theorem script_open {b0 : Nat} {r : Reach} {v : Value} {d : DataW H} {p : List MemPlace} (hv : Value.okWide Tryd.prog W r b0 24 v) (h : DataW.Trod enc Tryd.prog W 0 (fun _ => true) hd 24 v d p) (hw : ∀ k ∈ d.weights Tryd.prog 24, k ≤ reachBytes) :
    ∃ sa len cap, v = .slice sa len cap ∧ len ≤ cap ∧ ScriptAt W sa len := by
  obtain ⟨sa, len, cap, rfl⟩ := okWide_slice Tryd.underlying24 hv
  obtain ⟨fuel, hf⟩ := h
  have hf' : DataW.trod enc Tryd.prog W 0 (fun _ => true) hd fuel 24 [.slice sa len cap] = some (d, p) := hf
  rcases Deep.open_slice Tryd.underlying24 hf' with ⟨e, _⟩ | ⟨a, len', cap', m, n, D, Pl, e, _, hl, _, hm, hx, hi⟩
  · simp at e
    obtain ⟨rfl, rfl, rfl⟩ := e
    exact ⟨none, 0, 0, rfl, Nat.le_refl _, by simp, fun i hi => by omega⟩
  · simp at e hm
    obtain ⟨rfl, rfl, rfl⟩ := e
    have hm' := hm.symm
    subst hm'
    simp only [Prod.mk.injEq] at hx
    obtain ⟨rfl, _⟩ := hx
    refine ⟨some a, len, cap, rfl, hl, ?_, fun i hil => ?_⟩
    · have hb : (((List.range len).map D).length + ((List.range (cap - len)).map fun j => D (len + j)).length) * Tryd.prog.bytesOf 49 ≤ reachBytes := hw _ (by simp only [DataW.weights, Tryd.underlying24]; exact List.mem_cons_self)
      simp [bytes49, reachBytes] at hb
      have h1 : len * 104 ≤ (len + (cap - len)) * 104 := Nat.mul_le_mul_right 104 (by omega)
      exact Nat.le_trans h1 (by omega)
    · have ha : a = ⟨a.block, a.off, none⟩ := by
        obtain ⟨cs0, h1, _⟩ := hi 0 (by omega)
        obtain ⟨_, h2, h3⟩ := World.cells?_some h1
        rw [cells49] at h2 h3
        match cs0, h2 with
        | c :: _, _ => exact addr_plain (a := a) (v := c) (by simpa [Addr.add] using h3 0 (by omega))
      obtain ⟨cs', h1, h2⟩ := hi i (by omega)
      obtain ⟨kd, id, kk, be, t0, t1, draw, xs, pa, pc, fa, fn, fc, ho⟩ := op_open h2 (fun k hk => hw k (by
        simp only [DataW.weights, Tryd.underlying24, List.mem_cons, List.mem_append]
        exact .inr (.inl (weights_all (List.mem_map.2 ⟨i, List.mem_range.2 hil, rfl⟩) k hk))))
      obtain ⟨_, _, h3⟩ := World.cells?_some h1
      rw [cells49] at h3
      refine ⟨a.block, a.off, by rw [← ha], kd, id, kk, be, t0, t1, draw, xs, pa, pc, fa, fn, fc, ?_⟩
      have hc : ∀ j v, j < 9 → cs'[j]? = some v → W.cell? ⟨a.block, a.off + i * 9 + j, none⟩ = some v := fun j v hj hv => by
        have := h3 j hj
        rw [ha, addr_at, addr_at] at this
        exact this.trans hv
      rw [ho.all] at hc
      exact ⟨hc 0 _ (by omega) rfl, hc 1 _ (by omega) rfl, hc 2 _ (by omega) rfl, hc 3 _ (by omega) rfl, hc 4 _ (by omega) rfl, hc 5 _ (by omega) rfl, hc 6 _ (by omega) rfl, hc 7 _ (by omega) rfl, hc 8 _ (by omega) rfl, ho.pt, ho.wf, ho.sz⟩
end
end Go.Proofs.YtgilnaheedmmfaaDoor
