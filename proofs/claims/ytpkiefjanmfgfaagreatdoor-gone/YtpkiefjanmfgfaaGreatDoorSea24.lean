import Derived.Test.YtpkiefjanmfgfaaGreatDoorSea17
import Derived.Test.YtpkiefjanmfgfaaGreatDoorSea23
namespace Go.Proofs.YtpkiefjanmfgfaaGreatDoor
open Go.ChangeShapes Go.WideShapes Go.RowKit

section
variable {H : Type} {enc : TypeId × Value → H} {W : World} {hd : Bool}

set_option maxRecDepth 100000 in
theorem opF_open {n : Nat} {cs : List Value} {x : DataW H × List MemPlace} (h : DataW.trod enc Tryz.prog W 0 (fun _ => true) hd n 49 cs = some x) (hw : ∀ k ∈ x.1.weights Tryz.prog 49, k ≤ reachBytes) :
    ∃ kd id kk be t0 t1 draw xs pa pc fa fn fc F, OpCells W cs kd id kk be t0 t1 draw xs pa pc fa fn fc ∧ FiltAt W (.slice fa fn fc) F ∧ (F.length + 1) * 24 ≤ 140737488355328 ∧ ∀ c ∈ F, (c.length + 1) * 24 ≤ 140737488355328 := by
  obtain ⟨xs, m, _, rfl, hl, hlen, hx⟩ := DataW.trod_struct Tryz.underlying49 h
  rw [cells49] at hl
  match cs, hl with
  | [c0, c1, c2, c3, c4, c5, c6, c7, c8], _ =>
    match xs, hlen with
    | [y0, y1, y2, y3, y4, y5, y6, y7], _ =>
      have g0 := hx 0 _ rfl
      have g1 := hx 1 _ rfl
      have g2 := hx 2 _ rfl
      have g3 := hx 3 _ rfl
      have g4 := hx 4 _ rfl
      have g5 := hx 5 _ rfl
      have g6 := hx 6 _ rfl
      have g7 := hx 7 _ rfl
      simp [cells3, cells32, cells43, cells44, cells47] at g0 g1 g2 g3 g4 g5 g6 g7
      clear hx
      obtain ⟨kd, e0, _⟩ := DataW.trod_int Tryz.underlying3 g0
      obtain ⟨id, e1, _, hid⟩ := DataW.trod_int Tryz.underlying3 g1
      obtain ⟨kk, e2, _⟩ := DataW.trod_int Tryz.underlying3 g2
      obtain ⟨be, e3, _⟩ := DataW.trod_int Tryz.underlying3 g3
      obtain ⟨draw, e7, _, hdr⟩ := DataW.trod_int Tryz.underlying44 g6
      obtain ⟨ps, pa, pc, e4, hp, hs⟩ := point_open g4 (fun k hk => hw k (by
        simp only [DataW.weights, Tryz.underlying49]
        exact DataW.weights_mem_each (j := 4) rfl rfl k hk))
      obtain ⟨us, m2, _, _, _, hul, hu⟩ := DataW.trod_array Tryz.underlying43 g5
      match us, hul with
      | [u0, u1], _ =>
        have k0 := hu 0 (by omega)
        have k1 := hu 1 (by omega)
        simp [cells3] at k0 k1
        obtain ⟨t0, e5, _⟩ := DataW.trod_int Tryz.underlying3 k0
        obtain ⟨t1, e6, _⟩ := DataW.trod_int Tryz.underlying3 k1
        obtain ⟨z0, m3, hz7, _, g8⟩ := trod_struct1 Tryz.underlying47 g7
        simp [cells45] at g8
        obtain ⟨F, hF, hFn, hFm⟩ := filt_open g8 (fun k hk => hw k (by
          simp only [DataW.weights, Tryz.underlying49]
          refine DataW.weights_mem_each (j := 7) rfl rfl k ?_
          rw [hz7]
          simp only [DataW.weights, Tryz.underlying47]
          exact DataW.weights_mem_each (j := 0) rfl rfl k hk))
        obtain ⟨fa, fn, fc, e8⟩ : ∃ fa fn fc, c8 = .slice fa fn fc := by
          rcases Deep.open_slice Tryz.underlying45 g8 with ⟨e, _⟩ | ⟨a, len, cap, _, _, _, _, e, _⟩
          · simp at e; exact ⟨_, _, _, e⟩
          · simp at e; exact ⟨_, _, _, e⟩
        simp at e0 e1 e2 e3 e5 e6 e7
        subst e0; subst e1; subst e2; subst e3; subst e4; subst e5; subst e6; subst e7; subst e8
        exact ⟨kd, id, kk, be, t0, t1, draw, ps, pa, pc, fa, fn, fc, F, ⟨rfl, hp, hid, u64_wf hdr, hs⟩, hF, hFn, hFm⟩

set_option maxRecDepth 100000 in
/-- The script. -/
theorem scriptF_open {b0 : Nat} {r : Reach} {v : Value} {d : DataW H} {p : List MemPlace} (hv : Value.okWide Tryz.prog W r b0 24 v) (h : DataW.Trod enc Tryz.prog W 0 (fun _ => true) hd 24 v d p) (hw : ∀ k ∈ d.weights Tryz.prog 24, k ≤ reachBytes) :
    ∃ sa len cap, v = .slice sa len cap ∧ len ≤ cap ∧ ScriptF W sa len := by
  obtain ⟨sa, len, cap, rfl⟩ := okWide_slice Tryz.underlying24 hv
  obtain ⟨fuel, hf⟩ := h
  have hf' : DataW.trod enc Tryz.prog W 0 (fun _ => true) hd fuel 24 [.slice sa len cap] = some (d, p) := hf
  rcases Deep.open_slice Tryz.underlying24 hf' with ⟨e, _⟩ | ⟨a, len', cap', m, n, D, Pl, e, _, hl, _, hm, hx, hi⟩
  · simp at e
    obtain ⟨rfl, rfl, rfl⟩ := e
    exact ⟨none, 0, 0, rfl, Nat.le_refl _, by simp, fun i hi => by omega⟩
  · simp at e hm
    obtain ⟨rfl, rfl, rfl⟩ := e
    have hm' := hm.symm
    subst hm'
    simp only [Prod.mk.injEq] at hx
    obtain ⟨rfl, _⟩ := hx
    refine ⟨some a, len, cap, rfl, hl, ?_, fun i hil => ?_⟩
    · have hb : (((List.range len).map D).length + ((List.range (cap - len)).map fun j => D (len + j)).length) * Tryz.prog.bytesOf 49 ≤ reachBytes := hw _ (by simp only [DataW.weights, Tryz.underlying24]; exact List.mem_cons_self)
      simp [bytes49, reachBytes] at hb
      have h1 : len * 104 ≤ (len + (cap - len)) * 104 := Nat.mul_le_mul_right 104 (by omega)
      exact Nat.le_trans h1 (by omega)
    · have ha : a = ⟨a.block, a.off, none⟩ := by
        obtain ⟨cs0, h1, _⟩ := hi 0 (by omega)
        obtain ⟨_, h2, h3⟩ := World.cells?_some h1
        rw [cells49] at h2 h3
        match cs0, h2 with
        | c :: _, _ => exact addr_plain (a := a) (v := c) (by simpa [Addr.add] using h3 0 (by omega))
      obtain ⟨cs', h1, h2⟩ := hi i (by omega)
      obtain ⟨kd, id, kk, be, t0, t1, draw, xs, pa, pc, fa, fn, fc, F, ho, hF, hFn, hFm⟩ := opF_open h2 (fun k hk => hw k (by
        simp only [DataW.weights, Tryz.underlying24, List.mem_cons, List.mem_append]
        exact .inr (.inl (weights_all (List.mem_map.2 ⟨i, List.mem_range.2 hil, rfl⟩) k hk))))
      obtain ⟨_, _, h3⟩ := World.cells?_some h1
      rw [cells49] at h3
      refine ⟨a.block, a.off, by rw [← ha], kd, id, kk, be, t0, t1, draw, xs, pa, pc, fa, fn, fc, F, ?_, hF, hFn, hFm⟩
      have hc : ∀ j v, j < 9 → cs'[j]? = some v → W.cell? ⟨a.block, a.off + i * 9 + j, none⟩ = some v := fun j v hj hv => by
        have := h3 j hj
        rw [ha, addr_at, addr_at] at this
        exact this.trans hv
      rw [ho.all] at hc
      exact ⟨hc 0 _ (by omega) rfl, hc 1 _ (by omega) rfl, hc 2 _ (by omega) rfl, hc 3 _ (by omega) rfl, hc 4 _ (by omega) rfl, hc 5 _ (by omega) rfl, hc 6 _ (by omega) rfl, hc 7 _ (by omega) rfl, hc 8 _ (by omega) rfl, ho.pt, ho.wf, ho.dr, ho.sz⟩
end
end Go.Proofs.YtpkiefjanmfgfaaGreatDoor
namespace Go.Proofs.YtpkiefjanmfgfaaGreatDoor
open Go.ChangeShapes Go.WideShapes Go.ChangeAt Go.RowKit

/-- What the row's list gives: the variable's one cell. -/
theorem handle_laid4 {W : World} (h : laidMetH Tryz.prog Rows.searchesRow.laid W) : Handle W := by
  have h' : laidMet Tryz.prog [] W ∧ handlesMet Tryz.prog Rows.searchesRow.laid W := h
  obtain ⟨name, u, ty, e1, e2, e3, e4, e5⟩ := h'.2 _ (List.mem_singleton.2 rfl)
  have en : name = [101, 114, 114, 111, 114] := (Option.some.inj e1).symm
  subst en
  obtain rfl := Option.some.inj (rtypeRow.symm.trans e2)
  have hm : ty ∈ (List.range 313).filter fun t => Tryz.prog.rowNamed t [101, 114, 114, 111, 114] := List.mem_filter.2 ⟨List.mem_range.2 (by rw [← typesSize]; exact e3), e4⟩
  rw [errRow] at hm
  obtain rfl := List.mem_singleton.1 hm
  have hh : typeHandle Tryz.prog 104 = .pointer (some ⟨1, 104, none⟩) := by kernel_rfl
  rw [hh] at e5
  unfold Handle
  simpa using World.var?_cell errVar e5 0

set_option maxRecDepth 100000 in
/-- The law, from what came in to what it leaves. -/
theorem searches_contract (H : Type) (enc : TypeId × Value → H) (W : World) (base : Nat) (args : Array Value) (ds gs : List (DataW H)) (before : List MemPlace)
    (hval : ∀ (j : Nat) t v, Tryz.f4.params[j]? = some t → args[j]? = some v → Value.okWide Tryz.prog W .any base t v)
    (hW : DataW.Whole enc Tryz.prog Tryz.f4.params.toList Rows.searchesSpec.vars false W args.toList ds gs before)
    (hz : (DataW.weightsEach Tryz.prog (Tryz.f4.params.toList ++ Rows.searchesSpec.plain.varTypes Tryz.prog) (ds ++ gs)).all (· ≤ reachBytes) = true) (hL : laidMetH Tryz.prog Rows.searchesRow.laid W) :
    Calls Tryz.prog 4 args W fun e W' => ∃ v, e = .returned v ∧ Rows.searchesSpec.post enc Tryz.prog Tryz.f4 false true false false W args v W' := by
  have hW' := hW
  obtain ⟨p, q, hA0, hV, rfl, hfz, hnd⟩ := hW
  have hA : DataW.TrodAll enc Tryz.prog W 0 (fun _ => true) true Tryz.f4.params.toList args.toList ds p := hA0
  rw [Tryz.params4] at hA hval hz
  obtain ⟨v0, vs0, d0, ds0, p0, q0, hargs, rfl, rfl, h0, r0⟩ := trodAll_cons hA
  obtain ⟨v1, vs1, d1, ds1, p1, q1, rfl, rfl, rfl, h1, r1⟩ := trodAll_cons r0
  obtain ⟨rfl, rfl, rfl⟩ := trodAll_nil r1
  obtain rfl : args = #[v0, v1] := by cases args; simp_all
  obtain ⟨rfl, rfl⟩ := trodVars_none hV
  have hlt := hW'.lt
  obtain ⟨a0, a1, a2, a3, a4, a5, rfl⟩ := cfg_open (hval 0 23 v0 rfl rfl) h0
  obtain ⟨sa, len, cap, rfl, hlc, hs⟩ := scriptF_open (hval 1 24 v1 rfl rfl) h1 (fun k hk => by
    have := List.all_eq_true.1 hz k (DataW.weights_mem_each (j := 1) rfl rfl k hk)
    simpa using this)
  refine (searches4_any a0 a1 a2 a3 a4 a5 sa len cap W (handle_laid4 hL) hs hlc).mono fun e W' ⟨he, hb⟩ => ?_
  subst he
  refine ⟨_, rfl, _, _, _, [], p0 ++ (p1 ++ []), [], hW', ?_, ?_, ?_, hb.frame _, fun h => by cases h⟩
  · exact trodAll_cons_mk (shut_bool Tryz.underlying4 _) trodAll_mk0
  · exact trodAll_cons_mk (Below.trod laidOut read23 (by rw [typesSize]; decide) h0 hb (fun x hx => hlt x (by simp [hx]))) (trodAll_cons_mk (Below.trod laidOut read24 (by rw [typesSize]; decide) h1 hb (fun x hx => hlt x (by simp [hx]))) trodAll_mk0)
  · rfl

theorem laid_met4 (os : Os) : laidMetH Tryz.prog Rows.searchesRow.laid ((laidWorld os).forCall (fun _ _ => 0) ⟨#[], noArgs, []⟩).memory :=
  laidMetH_of_parts (laidMet_nil _ _) (by kernel_rfl)
theorem reads_none4 (os : Os) {H : Type} (enc : TypeId × Value → H) : ∃ places, DataW.whole enc Tryz.prog ((laidWorld os).forCall (fun _ _ => 0) ⟨#[], noArgs, []⟩).memory Tryz.f4.params.toList Rows.searchesSpec.vars false noArgs.toList 8 = some ([.agg [.lit (.int .i64 0), .lit (.int .i64 0), .lit (.int .i64 0), .lit (.int .i64 0), .lit (.int .i64 0), .lit (.int .i64 0)], .nil], [], places) :=
  ⟨[], by kernel_rfl⟩

set_option maxRecDepth 100000 in
theorem searches_lifted (os : Os) (started : os.Started) (H : Type) (enc : TypeId × Value → H) (F : Stop.Interp) :
    ReturnsInHanded {} Tryz.checked os 4 .any ((OpenSpec.ofChange Rows.searchesSpec).preRow enc Tryz.prog Tryz.f4 Rows.searchesRow.domain false Rows.searchesRow.laid) (((OpenSpec.ofChange Rows.searchesSpec).at F).post enc Tryz.prog Tryz.f4 false true false false) := by
  obtain ⟨places, hx⟩ := reads_none4 os enc
  refine returnsInHanded_of_row (C := Tryz.checked) (s := OpenSpec.ofChange Rows.searchesSpec) knob started (by kernel_rfl) Tryz.func4
    (witness_row_at (enc := enc) (C := Tryz.checked) false (laidWorld os) noArgs rfl (by kernel_rfl) (by kernel_rfl) (by kernel_rfl)
      (OpenSpec.preRow_of_cond 8 hx (by kernel_rfl) (fun k hk => by cases hk) (by kernel_rfl) (laid_met4 os))) ?_
  intro W base args ds gs before hval hW _ _ hz hL _ _
  exact searches_contract H enc W base args ds gs before hval hW hz hL

set_option maxRecDepth 100000 in
theorem searches_said : Rows.SearchesSaid :=
  OpenClaim.holds_of_cond 4 Tryz.f4 rfl rfl rfl rfl rfl rfl rfl ⟨rfl, rfl, rfl, rfl, rfl⟩ rfl rfl rfl rfl rfl (by kernel_rfl) Tryz.func4 (by kernel_rfl)
    (of_decide_eq_true (by kernel_rfl)) (by unfold Func.isWrapper; first | (rw [if_pos (by decide +kernel)]; kernel_rfl) | (rw [if_neg (by decide +kernel)]; exact ⟨rfl, rfl⟩))
    (fun os started H enc _ F => by rw [OpenClaim.pre_eq_preRow]; exact searches_lifted os started H enc F)

/-- No parameter wants a stand-in; the program's own looks are on: what the card asks. -/
theorem searches_plain (f : FuncId) (fn : Func) (hf : Tryz.pinned.checked.prog.funcNamed "nearby/nearbylaw.Searches" = some f) (hfn : Tryz.pinned.checked.prog.funcs[f]? = some fn) :
    true = Tryz.pinned.checked.prog.looks [] ∧ ∀ (j : Nat) t, fn.params[j]? = some t → Tryz.pinned.checked.prog.wantsStandIn t = false := by
  obtain rfl : f = 4 := Option.some.inj ((show Tryz.prog.funcNamed "nearby/nearbylaw.Searches" = some 4 by kernel_rfl).symm.trans hf) |>.symm
  obtain rfl : fn = Tryz.f4 := (Option.some.inj (Tryz.func4.symm.trans hfn)).symm
  refine ⟨by kernel_rfl, fun j t ht => ?_⟩
  rw [Tryz.params4] at ht
  have hm := Array.mem_of_getElem? ht
  simp at hm
  rcases hm with rfl | rfl
  · exact (show Tryz.prog.wantsStandIn 23 = false by kernel_rfl)
  · exact (show Tryz.prog.wantsStandIn 24 = false by kernel_rfl)

/-- The card. -/
theorem searches_card : Rows.SearchesCardSaid :=
  Claim7.holds_tied_plain_at .later [] _ _ _ _ searches_said (fun _ h => by cases h) (by kernel_rfl) (fun _ h => by cases h) searches_row_tie rfl ⟨rfl, rfl⟩ (by kernel_rfl) rfl searches_plain (by kernel_rfl)
#print axioms searches_card
end Go.Proofs.YtpkiefjanmfgfaaGreatDoor
