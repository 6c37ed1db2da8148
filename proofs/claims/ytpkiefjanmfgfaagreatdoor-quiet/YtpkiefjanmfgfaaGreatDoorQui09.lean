import Derived.Test.YtpkiefjanmfgfaaGreatDoorQui01
import Derived.Test.YtpkiefjanmfgfaaGreatDoorQui04
import Derived.Test.YtpkiefjanmfgfaaGreatDoorQui05
import Derived.Test.YtpkiefjanmfgfaaGreatDoorQui07
import Derived.Test.YtpkiefjanmfgfaaGreatDoorQui08
namespace Go.Proofs.YtpkiefjanmfgfaaGreatDoor
open Go.RowKit Go.Maps

def ErrN : Nat → Int → Value → Prop
  | 0, r, v => v = .iface 156 (.int .i64 r)
  | n + 1, r, v => ∃ s m u, v = .iface 158 (.agg #[.string s, .int .i64 m, u]) ∧ ErrN n r u
def ErrD (d : Nat) (r : Int) (v : Value) : Prop := (r = 0 ∧ v = .nilIface) ∨ (r ≠ 0 ∧ ∃ k, 1 ≤ k ∧ k ≤ d ∧ ErrN k r v)
theorem ErrD.mono {d d' : Nat} {r : Int} {v : Value} (h : ErrD d r v) (hd : d ≤ d') : ErrD d' r v := h.imp id fun ⟨h1, k, h2, h3, h4⟩ => ⟨h1, k, h2, Nat.le_trans h3 hd, h4⟩
theorem ErrD.one {r : Int} (h : r ≠ 0) (s : ByteArray) (m : Int) : ErrD 1 r (.iface 158 (.agg #[.string s, .int .i64 m, .iface 156 (.int .i64 r)])) := .inr ⟨h, 1, Nat.le_refl _, Nat.le_refl _, s, m, _, rfl, rfl⟩
theorem ErrD.of_isErr {r : Int} {v : Value} (h : IsErr r v) : ErrD 2 r v := by
  rcases h with ⟨h0, rfl⟩ | ⟨h0, ⟨s, n, rfl⟩ | ⟨s, n, s2, n2, rfl⟩⟩
  · exact .inl ⟨h0, rfl⟩
  · exact .inr ⟨h0, 1, by omega, by omega, s, n, _, rfl, rfl⟩
  · exact .inr ⟨h0, 2, by omega, by omega, s, n, _, rfl, s2, n2, _, rfl, rfl⟩
theorem errno_deep (r : Int) (v : Value) (w : World) (hv : ErrD 3 r v) (hg : Handle w) :
    Calls Tryz.prog 43 #[v] w fun e w' => e = .returned (.int .i64 r) ∧ Below w.heap.size w w' := by
  rcases hv with ⟨rfl, rfl⟩ | ⟨_, k, h1, h3, hk⟩
  · exact errno_nil w
  · match k, h1, h3, hk with
    | 1, _, _, ⟨s, m, u, e, e2⟩ =>
      subst e; obtain rfl : u = _ := e2
      exact errno_one s m r w hg
    | 2, _, _, ⟨s, m, u, e, s2, m2, u2, e2, e3⟩ =>
      subst e; subst e2; obtain rfl : u2 = _ := e3
      exact errno_two s s2 m m2 r w hg
    | 3, _, _, ⟨s, m, u, e, s2, m2, u2, e2, s3, m3, u3, e3, e4⟩ =>
      subst e; subst e2; subst e3; obtain rfl : u3 = _ := e4
      exact errno_three s s2 s3 m m2 m3 r w hg

abbrev Cnd := Int × Int × Int
def okCode (b : Bool) : Int := if b = true then 0 else 7
theorem okCode_true : okCode true = 0 := rfl
theorem okCode_false : okCode false = 7 := rfl
def condB (c : Cnd) : Bool := inB c.1 0 1 && inB c.2.1 0 3
def clauseB (cs : List Cnd) : Bool := decide (cs.length ≤ 6) && cs.all condB
def filtB (F : List (List Cnd)) : Bool := decide (F.length ≤ 6) && F.all clauseB
def CondsAt (w : World) (v : Value) (cs : List Cnd) : Prop :=
  ∃ a cap, v = .slice a cs.length cap ∧ cs.length ≤ cap ∧ cs.length ≤ 17592186044416 ∧
    (cs = [] ∨ ∃ b off, a = some ⟨b, off, none⟩ ∧ ∀ i, i < cs.length → w.cell? ⟨b, off + i * 3, none⟩ = some (.int .i64 (cs.getD i (0, 0, 0)).1) ∧ w.cell? ⟨b, off + i * 3 + 1, none⟩ = some (.int .i64 (cs.getD i (0, 0, 0)).2.1) ∧ w.cell? ⟨b, off + i * 3 + 2, none⟩ = some (.int .i64 (cs.getD i (0, 0, 0)).2.2))
def FiltAt (w : World) (v : Value) (F : List (List Cnd)) : Prop :=
  ∃ a cap, v = .slice a F.length cap ∧ F.length ≤ cap ∧ F.length ≤ 17592186044416 ∧
    (F = [] ∨ ∃ b off, a = some ⟨b, off, none⟩ ∧ ∀ i, i < F.length → ∃ u, w.cell? ⟨b, off + i, none⟩ = some u ∧ CondsAt w u (F.getD i []))
theorem CondsAt.below {w w' : World} {v : Value} {cs : List Cnd} (h : CondsAt w v cs) (hb : Below w.heap.size w w') : CondsAt w' v cs := by
  obtain ⟨a, cap, rfl, h1, h2, h3⟩ := h
  refine ⟨a, cap, rfl, h1, h2, h3.imp id ?_⟩
  rintro ⟨b, off, rfl, hc⟩
  exact ⟨b, off, rfl, fun i hi => ⟨cell_below (hc i hi).1 hb, cell_below (hc i hi).2.1 hb, cell_below (hc i hi).2.2 hb⟩⟩
theorem FiltAt.below {w w' : World} {v : Value} {F : List (List Cnd)} (h : FiltAt w v F) (hb : Below w.heap.size w w') : FiltAt w' v F := by
  obtain ⟨a, cap, rfl, h1, h2, h3⟩ := h
  refine ⟨a, cap, rfl, h1, h2, h3.imp id ?_⟩
  rintro ⟨b, off, rfl, hc⟩
  refine ⟨b, off, rfl, fun i hi => ?_⟩
  obtain ⟨u, hu, hcu⟩ := hc i hi
  exact ⟨u, cell_below hu hb, hcu.below hb⟩

set_option maxHeartbeats 1000000 in
theorem condition159 (t o v : Int) (w : World) : Calls Tryz.prog 169 #[.agg #[.int .i64 t, .int .i64 o, .int .i64 v]] w fun e w' => (∃ u, e = .returned u ∧ ErrD 1 (okCode (condB (t, o, v))) u) ∧ Below w.heap.size w w' := by
  have hc : condB (t, o, v) = (inB t 0 1 && inB o 0 3) := rfl
  rw [hc]
  clear hc
  have hB : ∀ ob, Below w.heap.size w (w.alloc ob) := fun ob => (Below.refl _ _).alloc (Nat.le_refl _) _
  cases h1 : inB t 0 1
  · go_enter Tryz.func169, Tryz.ntmps169
    go_wp2_with (go_at_call 86; refine (within_any _ _ _ _).mono ?_; rintro e w' ⟨rfl, rfl⟩)
    go_ret
    exact ⟨⟨_, rfl, by rw [Bool.false_and, okCode_false]; exact ErrD.one (by decide) _ _⟩, hB _⟩
  · cases h2 : inB o 0 3
    · go_enter Tryz.func169, Tryz.ntmps169
      go_wp2_with (go_at_call 86; refine (within_any _ _ _ _).mono ?_; rintro e w' ⟨rfl, rfl⟩)
      go_ret
      exact ⟨⟨_, rfl, ErrD.one (by decide) _ _⟩, hB _⟩
    · go_enter Tryz.func169, Tryz.ntmps169
      go_wp2_with (go_at_call 86; refine (within_any _ _ _ _).mono ?_; rintro e w' ⟨rfl, rfl⟩)
      go_ret
      exact ⟨⟨_, rfl, .inl ⟨rfl, rfl⟩⟩, hB _⟩

theorem ErrD.up {d : Nat} {r : Int} {u : Value} (h : ErrD d r u) (hr : r ≠ 0) (s : ByteArray) (m : Int) : ErrD (d + 1) r (.iface 158 (.agg #[.string s, .int .i64 m, u])) := by
  rcases h with ⟨h0, _⟩ | ⟨h0, k, h1, h2, h3⟩
  · exact absurd h0 hr
  · exact .inr ⟨h0, k + 1, by omega, by omega, s, m, u, rfl, h3⟩
theorem ErrD.shape {d : Nat} {r : Int} {u : Value} (h : ErrD d r u) (hr : r ≠ 0) : ∃ x, u = .iface 158 x := by
  rcases h with ⟨h0, _⟩ | ⟨h0, k, h1, h2, h3⟩
  · exact absurd h0 hr
  · match k, h1, h3 with
    | n + 1, _, ⟨s, m, u', e, _⟩ => exact ⟨_, e⟩
theorem all_take_succ {α : Type} (p : α → Bool) (xs : List α) (k : Nat) (d : α) (h : k < xs.length) : (xs.take (k + 1)).all p = ((xs.take k).all p && p (xs.getD k d)) := by
  rw [List.take_succ_eq_append_getElem h, List.all_append]
  simp [List.getD_eq_getElem?_getD, h]
theorem all_bad {α : Type} {p : α → Bool} {xs : List α} {k : Nat} {d : α} (h : k < xs.length) (hb : p (xs.getD k d) = false) : xs.all p = false := by
  rw [List.all_eq_false]
  refine ⟨xs.getD k d, ?_, by rw [hb]; decide⟩
  simp [List.getD_eq_getElem?_getD, h]

set_option maxHeartbeats 2000000 in
set_option maxRecDepth 20000 in
theorem clause139 (v : Value) (cs : List Cnd) (w : World) (h : CondsAt w v cs) : Calls Tryz.prog 146 #[v] w fun e w' => (∃ u, e = .returned u ∧ ErrD 2 (okCode (clauseB cs)) u) ∧ Below w.heap.size w w' := by
  obtain ⟨a, cap, rfl, hcap, hm, hx⟩ := h
  by_cases h6 : cs.length ≤ 6
  · have hd : decide (6 < (cs.length : Int)) = false := decide_eq_false (by omega)
    have HCB : Hid (clauseB cs = cs.all condB) := by
      show _ = _
      unfold clauseB
      simp [h6]
    have HX := hide hx
    clear hx
    go_enter Tryz.func146, Tryz.ntmps146
    go_wp2
    go_loopw [3, 4, 5, 16] (fun _ _ _ i wr => ∃ k : Nat, i = .int .i64 k ∧ k ≤ cs.length ∧ Hid ((cs.take k).all condB = true) ∧ Hid (Below w.heap.size w wr)) (fun _ _ _ i _ => cs.length - (intOf i).toNat)
    case atStart => exact ⟨0, rfl, Nat.zero_le _, rfl, Below.refl _ _⟩
    case round =>
      obtain ⟨k, rfl, hk, HA, HB⟩ := hrel
      by_cases hlt : k < cs.length
      · obtain ⟨b, off, rfl, hc⟩ : ∃ b off, a = some ⟨b, off, none⟩ ∧ ∀ i, i < cs.length → w.cell? ⟨b, off + i * 3, none⟩ = some (.int .i64 (cs.getD i (0, 0, 0)).1) ∧ w.cell? ⟨b, off + i * 3 + 1, none⟩ = some (.int .i64 (cs.getD i (0, 0, 0)).2.1) ∧ w.cell? ⟨b, off + i * 3 + 2, none⟩ = some (.int .i64 (cs.getD i (0, 0, 0)).2.2) := by
          rcases HX.out with rfl | h
          · exact absurd hlt (Nat.not_lt_zero _)
          · exact h
        obtain ⟨c0, c1, c2⟩ := hc k hlt
        have y0 := cell_below c0 HB.out
        have y1 := cell_below c1 HB.out
        have y2 := cell_below c2 HB.out
        have HS : Hid ((cs.take (k + 1)).all condB = ((cs.take k).all condB && condB (cs.getD k (0, 0, 0)))) := all_take_succ condB cs k _ hlt
        have HBD : Hid (condB (cs.getD k (0, 0, 0)) = false → cs.all condB = false) := fun h => all_bad hlt h
        generalize cs.getD k (0, 0, 0) = c at y0 y1 y2 HS HBD
        obtain ⟨t, o, x⟩ := c
        simp only at y0 y1 y2
        have hcd := condition159 t o x (wr.alloc (.cells #[.int .i64 t, .int .i64 o, .int .i64 x] 72))
        have HCD := hide hcd
        clear hcd hc c0 c1 c2
        cases hcb : condB (t, o, x)
        · rw [hcb, okCode_false] at HCD
          go_wp2_with fail
          refine HCD.out.mono ?_
          rintro e3 w3 ⟨⟨u, rfl, he⟩, hb3⟩
          obtain ⟨ux, rfl⟩ := he.shape (by decide)
          have HE := hide he
          have hB3 := HB.out.trans ((((Below.refl _ _).alloc (Nat.le_refl _) _).trans (hb3.mono (by simp))).mono HB.out.size)
          clear y0 y1 y2 hb3 he
          go_wp2
          go_ret
          refine ⟨⟨_, rfl, ?_⟩, hB3⟩
          rw [HCB.out, HBD.out hcb, okCode_false]
          exact HE.out.up (by decide) _ _
        · rw [hcb, okCode_true] at HCD
          go_wp2_with fail
          refine HCD.out.mono ?_
          rintro e3 w3 ⟨⟨u, rfl, he⟩, hb3⟩
          obtain rfl : u = .nilIface := by
            rcases he with ⟨_, h⟩ | ⟨h, _⟩
            · exact h
            · exact absurd rfl h
          have hB3 := HB.out.trans ((((Below.refl _ _).alloc (Nat.le_refl _) _).trans (hb3.mono (by simp))).mono HB.out.size)
          clear y0 y1 y2 hb3 he
          go_wp2
          refine ⟨⟨k + 1, by go_num, by omega, ?_, hB3⟩, by simp [intOf]; omega⟩
          show _ = _
          rw [HS.out, HA.out, hcb]; rfl
      · go_wp2
        go_ret
        obtain rfl : k = cs.length := by omega
        have := HA.out
        rw [List.take_length] at this
        exact ⟨⟨_, rfl, .inl ⟨by rw [HCB.out, this]; rfl, rfl⟩⟩, HB.out⟩
  · have hd : decide (6 < (cs.length : Int)) = true := decide_eq_true (by omega)
    have hcb : clauseB cs = false := by
      unfold clauseB
      simp [h6]
    go_enter Tryz.func146, Tryz.ntmps146
    go_wp2
    go_ret
    refine ⟨⟨_, rfl, ?_⟩, Below.refl _ _⟩
    rw [hcb]
    exact (ErrD.one (by decide) _ _).mono (by omega)

set_option maxHeartbeats 2000000 in
set_option maxRecDepth 20000 in
theorem filter96 (v : Value) (F : List (List Cnd)) (w : World) (h : FiltAt w v F) : Calls Tryz.prog 100 #[.agg #[v]] w fun e w' => (∃ u, e = .returned u ∧ ErrD 3 (okCode (filtB F)) u) ∧ Below w.heap.size w w' := by
  obtain ⟨a, cap, rfl, hcap, hm, hx⟩ := h
  have hB0 : Below w.heap.size w (w.alloc (.cells #[.slice a F.length cap] 47)) := (Below.refl _ _).alloc (Nat.le_refl _) _
  by_cases h6 : F.length ≤ 6
  · have hd : decide (6 < (F.length : Int)) = false := decide_eq_false (by omega)
    have HCB : Hid (filtB F = F.all clauseB) := by
      show _ = _
      unfold filtB
      simp [h6]
    have HX := hide hx
    have HB0 := hide hB0
    clear hx hB0
    go_enter Tryz.func100, Tryz.ntmps100
    go_wp2
    generalize hwe : w.alloc (.cells #[.slice a F.length cap] 47) = w1 at HB0 ⊢
    clear hwe
    go_loopw [3, 4, 5, 19] (fun _ _ _ i wr => ∃ k : Nat, i = .int .i64 k ∧ k ≤ F.length ∧ Hid ((F.take k).all clauseB = true) ∧ Hid (Below w.heap.size w wr)) (fun _ _ _ i _ => F.length - (intOf i).toNat)
    case atStart => exact ⟨0, rfl, Nat.zero_le _, rfl, HB0.out⟩
    case round =>
      obtain ⟨k, rfl, hk, HA, HB⟩ := hrel
      by_cases hlt : k < F.length
      · obtain ⟨b, off, rfl, hc⟩ : ∃ b off, a = some ⟨b, off, none⟩ ∧ ∀ i, i < F.length → ∃ u, w.cell? ⟨b, off + i, none⟩ = some u ∧ CondsAt w u (F.getD i []) := by
          rcases HX.out with rfl | h
          · exact absurd hlt (Nat.not_lt_zero _)
          · exact h
        obtain ⟨u, hu, hcu⟩ := hc k hlt
        have y0 := cell_below hu HB.out
        have hcr := hcu.below HB.out
        have HS : Hid ((F.take (k + 1)).all clauseB = ((F.take k).all clauseB && clauseB (F.getD k []))) := all_take_succ clauseB F k _ hlt
        have HBD : Hid (clauseB (F.getD k []) = false → F.all clauseB = false) := fun h => all_bad hlt h
        generalize F.getD k [] = cs at hcr HS HBD
        have hcl := clause139 u cs wr hcr
        obtain ⟨ua, uc, rfl, _⟩ := hcr
        have HCL := hide hcl
        clear hcl hc hu hcu
        cases hcb : clauseB cs
        · rw [hcb, okCode_false] at HCL
          go_wp2_with fail
          refine HCL.out.mono ?_
          rintro e3 w3 ⟨⟨u, rfl, he⟩, hb3⟩
          obtain ⟨ux, rfl⟩ := he.shape (by decide)
          have HE := hide he
          have hB3 := HB.out.trans (hb3.mono HB.out.size)
          clear y0 hb3 he
          go_wp2
          go_ret
          refine ⟨⟨_, rfl, ?_⟩, hB3⟩
          rw [HCB.out, HBD.out hcb, okCode_false]
          exact HE.out.up (by decide) _ _
        · rw [hcb, okCode_true] at HCL
          go_wp2_with fail
          refine HCL.out.mono ?_
          rintro e3 w3 ⟨⟨u, rfl, he⟩, hb3⟩
          obtain rfl : u = .nilIface := by
            rcases he with ⟨_, h⟩ | ⟨h, _⟩
            · exact h
            · exact absurd rfl h
          have hB3 := HB.out.trans (hb3.mono HB.out.size)
          clear y0 hb3 he
          go_wp2
          refine ⟨⟨k + 1, by go_num, by omega, ?_, hB3⟩, by simp [intOf]; omega⟩
          show _ = _
          rw [HS.out, HA.out, hcb]; rfl
      · go_wp2
        go_ret
        obtain rfl : k = F.length := by omega
        have := HA.out
        rw [List.take_length] at this
        exact ⟨⟨_, rfl, .inl ⟨by rw [HCB.out, this]; rfl, rfl⟩⟩, HB.out⟩
  · have hd : decide (6 < (F.length : Int)) = true := decide_eq_true (by omega)
    have hcb : filtB F = false := by
      unfold filtB
      simp [h6]
    go_enter Tryz.func100, Tryz.ntmps100
    go_wp2
    go_ret
    refine ⟨⟨_, rfl, ?_⟩, hB0⟩
    rw [hcb]
    exact (ErrD.one (by decide) _ _).mono (by omega)

def schCode (dim : Int) (xs : List Int) (k beam : Int) (F : List (List Cnd)) : Int :=
  if ptCode dim xs ≠ 0 then ptCode dim xs else if inB k 1 60 = true ∧ inB beam 1 100 = true then okCode (filtB F) else 6

set_option maxHeartbeats 2000000 in
set_option maxRecDepth 20000 in
theorem search47 (dim : Int) (pv : Value) (xs : List Int) (k beam : Int) (fv : Value) (F : List (List Cnd)) (w : World) (hp : IntsAt w pv xs) (hf : FiltAt w fv F) :
    Calls Tryz.prog 50 #[pv, .int .i64 dim, .int .i64 k, .int .i64 beam, .agg #[fv]] w fun e w' => (∃ u, e = .returned u ∧ ErrD 3 (schCode dim xs k beam F) u) ∧ Below w.heap.size w w' := by
  have hB0 : Below w.heap.size w (w.alloc (.cells #[fv] 47)) := (Below.refl _ _).alloc (Nat.le_refl _) _
  have hpt := point27_any xs pv dim (w.alloc (.cells #[fv] 47)) (by
    obtain ⟨a, cap, rfl, h1, h2, h3⟩ := hp
    refine ⟨a, cap, rfl, h1, h2, h3.imp id ?_⟩
    rintro ⟨b, off, rfl, hc⟩
    exact ⟨b, off, rfl, fun i hi => cell_below (hc i hi) hB0⟩)
  obtain ⟨pa, pcap, rfl, _⟩ := hp
  obtain ⟨fa, fcap, rfl, _⟩ := id hf
  have HPT := hide hpt
  have HF := hide hf
  have HB0 := hide hB0
  have HSC : Hid (schCode dim xs k beam F = if ptCode dim xs ≠ 0 then ptCode dim xs else if inB k 1 60 = true ∧ inB beam 1 100 = true then okCode (filtB F) else 6) := rfl
  clear hpt hf hB0
  generalize schCode dim xs k beam F = sc at HSC
  by_cases hpc : ptCode dim xs = 0
  · rw [hpc] at HPT
    have HSC2 : Hid (sc = if inB k 1 60 = true ∧ inB beam 1 100 = true then okCode (filtB F) else 6) := by
      have := HSC.out
      rw [hpc] at this
      show sc = _
      simpa using this
    go_enter Tryz.func50, Tryz.ntmps50
    go_wp2_with fail
    refine HPT.out.mono ?_
    rintro e1 w1 ⟨⟨u, rfl, hu⟩, hb1⟩
    obtain rfl : u = .nilIface := by
      rcases hu with ⟨_, h⟩ | ⟨h, _⟩
      · exact h
      · exact absurd rfl h
    have hB1 := HB0.out.trans (hb1.mono HB0.out.size)
    have hz : w1.cell? ⟨w.heap.size, 0, none⟩ = some (.slice fa F.length fcap) := Below.at hb1 (by simp) (by simp)
    have HB1 := hide hB1
    have hft := fun W (hW : Below w1.heap.size w1 W) => filter96 _ F W ((HF.out.below hB1).below hW)
    have HFT := hide hft
    clear hb1 hu hB1 hft HPT
    cases hk : inB k 1 60
    · go_wp2_with (go_at_call 86; refine (within_any _ _ _ _).mono ?_; rintro e w' ⟨rfl, rfl⟩)
      go_ret
      refine ⟨⟨_, rfl, ?_⟩, HB1.out⟩
      rw [HSC2.out, hk, if_neg (by simp)]
      exact (ErrD.one (by decide) _ _).mono (by omega)
    · cases hb : inB beam 1 100
      · go_wp2_with (go_at_call 86; refine (within_any _ _ _ _).mono ?_; rintro e w' ⟨rfl, rfl⟩)
        go_ret
        refine ⟨⟨_, rfl, ?_⟩, HB1.out⟩
        rw [HSC2.out, hb, if_neg (by simp)]
        exact (ErrD.one (by decide) _ _).mono (by omega)
      · go_wp2_with (first | (go_at_call 86; refine (within_any _ _ _ _).mono ?_; rintro e w' ⟨rfl, rfl⟩) | (go_at_call 100; refine (HFT.out w1 (Below.refl _ _)).mono ?_; rintro e2 w2 ⟨⟨u2, rfl, hu2⟩, hb2⟩))
        go_ret
        refine ⟨⟨_, rfl, ?_⟩, HB1.out.trans (hb2.mono HB1.out.size)⟩
        rw [HSC2.out, hk, hb, if_pos ⟨rfl, rfl⟩]
        exact hu2
  · have HSC2 : Hid (sc = ptCode dim xs) := by
      have := HSC.out
      rw [if_pos hpc] at this
      exact this
    go_enter Tryz.func50, Tryz.ntmps50
    go_wp2_with fail
    refine HPT.out.mono ?_
    rintro e1 w1 ⟨⟨u, rfl, hu⟩, hb1⟩
    have hB1 := HB0.out.trans (hb1.mono HB0.out.size)
    have hE := ErrD.of_isErr hu
    obtain ⟨ux, rfl⟩ := hE.shape hpc
    have HE := hide hE
    clear hE hu hb1
    go_wp2
    go_ret
    refine ⟨⟨_, rfl, ?_⟩, hB1⟩
    rw [HSC2.out]
    exact HE.out.mono (by omega)
end Go.Proofs.YtpkiefjanmfgfaaGreatDoor
namespace Go.Proofs.YtpkiefjanmfgfaaGreatDoor
open Go.RowKit Go.Maps

def holdV (o v x : Int) : Bool := if o = 0 then decide (x = v) else if o = 1 then decide (x ≠ v) else if o = 2 then decide (x < v) else decide (v ≤ x)
def holdB (t0 t1 : Int) (c : Cnd) : Bool := holdV c.2.1 c.2.2 (if c.1 = 0 then t0 else t1)
def passB (F : List (List Cnd)) (t0 t1 : Int) : Bool := F.any (fun cs => cs.all (holdB t0 t1)) || decide (F = [])

set_option maxHeartbeats 1000000 in
theorem holds141 (t o v x : Int) (w : World) : Calls Tryz.prog 148 #[.agg #[.int .i64 t, .int .i64 o, .int .i64 v], .int .i64 x] w fun e w' => e = .returned (.bool (holdV o v x)) ∧ Below w.heap.size w w' := by
  have hB : ∀ ob, Below w.heap.size w (w.alloc ob) := fun ob => (Below.refl _ _).alloc (Nat.le_refl _) _
  have HV : Hid (holdV o v x = if o = 0 then decide (x = v) else if o = 1 then decide (x ≠ v) else if o = 2 then decide (x < v) else decide (v ≤ x)) := rfl
  generalize holdV o v x = hv at HV
  by_cases h0 : o = 0
  · subst h0
    go_enter Tryz.func148, Tryz.ntmps148
    go_wp2
    go_ret
    exact ⟨by rw [HV.out]; simp [BEq.beq], hB _⟩
  · have d0 : (o == 0) = false := by simpa using h0
    by_cases h1 : o = 1
    · subst h1
      go_enter Tryz.func148, Tryz.ntmps148
      go_wp2
      go_ret
      exact ⟨by rw [HV.out]; simp [bne, BEq.beq], hB _⟩
    · have d1 : (o == 1) = false := by simpa using h1
      by_cases h2 : o = 2
      · subst h2
        go_enter Tryz.func148, Tryz.ntmps148
        go_wp2
        go_ret
        exact ⟨by rw [HV.out]; simp, hB _⟩
      · have d2 : (o == 2) = false := by simpa using h2
        go_enter Tryz.func148, Tryz.ntmps148
        go_wp2
        go_ret
        exact ⟨by rw [HV.out]; simp [h0, h1, h2], hB _⟩

theorem tag_cases {c : Cnd} (h : condB c = true) : c.1 = 0 ∨ c.1 = 1 := by
  unfold condB inB at h
  simp at h
  omega

set_option maxHeartbeats 2000000 in
set_option maxRecDepth 20000 in
theorem allHold98 (v : Value) (cs : List Cnd) (t0 t1 : Int) (w : World) (h : CondsAt w v cs) (hok : cs.all condB = true) : Calls Tryz.prog 102 #[v, .agg #[.int .i64 t0, .int .i64 t1]] w fun e w' => e = .returned (.bool (cs.all (holdB t0 t1))) ∧ Below w.heap.size w w' := by
  obtain ⟨a, cap, rfl, hcap, hm, hx⟩ := h
  have hB0 : Below w.heap.size w (w.alloc (.cells #[.int .i64 t0, .int .i64 t1] 43)) := (Below.refl _ _).alloc (Nat.le_refl _) _
  have hz : (w.alloc (.cells #[.int .i64 t0, .int .i64 t1] 43)).heap[w.heap.size]? = some (.cells #[.int .i64 t0, .int .i64 t1] 43 (0, 0)) := heap_alloc_new _ _
  have HX := hide hx
  have HB0 := hide hB0
  have HOK := hide hok
  have HZ := hide hz
  obtain ⟨av, hav⟩ : ∃ av, av = cs.all (holdB t0 t1) := ⟨_, rfl⟩
  have HAV := hide hav
  rw [← hav]
  clear hx hB0 hok hz hav
  go_enter Tryz.func102, Tryz.ntmps102
  go_wp2
  generalize hwe : w.alloc (.cells #[.int .i64 t0, .int .i64 t1] 43) = w1 at HB0 HZ ⊢
  clear hwe
  go_loopw [6, 9] (fun _ i wr => ∃ k : Nat, i = .int .i64 k ∧ k ≤ cs.length ∧ Hid ((cs.take k).all (holdB t0 t1) = true) ∧ Hid (Below w.heap.size w wr) ∧ Hid (wr.heap[w.heap.size]? = some (.cells #[.int .i64 t0, .int .i64 t1] 43 (0, 0)))) (fun _ i _ => cs.length - (intOf i).toNat)
  case atStart => exact ⟨0, rfl, Nat.zero_le _, rfl, HB0.out, HZ.out⟩
  case round =>
    obtain ⟨k, rfl, hk, HA, HB, HT⟩ := hrel
    by_cases hlt : k < cs.length
    · obtain ⟨b, off, rfl, hc⟩ : ∃ b off, a = some ⟨b, off, none⟩ ∧ ∀ i, i < cs.length → w.cell? ⟨b, off + i * 3, none⟩ = some (.int .i64 (cs.getD i (0, 0, 0)).1) ∧ w.cell? ⟨b, off + i * 3 + 1, none⟩ = some (.int .i64 (cs.getD i (0, 0, 0)).2.1) ∧ w.cell? ⟨b, off + i * 3 + 2, none⟩ = some (.int .i64 (cs.getD i (0, 0, 0)).2.2) := by
        rcases HX.out with rfl | h
        · exact absurd hlt (Nat.not_lt_zero _)
        · exact h
      obtain ⟨c0, c1, c2⟩ := hc k hlt
      have y0 := cell_below c0 HB.out
      have y1 := cell_below c1 HB.out
      have y2 := cell_below c2 HB.out
      have HS : Hid ((cs.take (k + 1)).all (holdB t0 t1) = ((cs.take k).all (holdB t0 t1) && holdB t0 t1 (cs.getD k (0, 0, 0)))) := all_take_succ (holdB t0 t1) cs k _ hlt
      have HBD : Hid (holdB t0 t1 (cs.getD k (0, 0, 0)) = false → cs.all (holdB t0 t1) = false) := fun h => all_bad hlt h
      have htc := tag_cases (List.all_eq_true.1 HOK.out (cs.getD k (0, 0, 0)) (by simp [List.getD_eq_getElem?_getD, hlt]))
      generalize cs.getD k (0, 0, 0) = c at y0 y1 y2 HS HBD htc
      obtain ⟨t, o, x⟩ := c
      simp only at y0 y1 y2 htc
      have hal : Below wr.heap.size wr (wr.alloc (.cells #[.int .i64 t, .int .i64 o, .int .i64 x] 72)) := (Below.refl _ _).alloc (Nat.le_refl _) _
      have hbk : (wr.alloc (.cells #[.int .i64 t, .int .i64 o, .int .i64 x] 72)).heap[wr.heap.size]? = some (.cells #[.int .i64 t, .int .i64 o, .int .i64 x] 72 (0, 0)) := heap_alloc_new _ _
      have htt := (hal.block _ (heap_lt HT.out)).trans HT.out
      have HB2 := hide (HB.out.trans (hal.mono HB.out.size))
      have HHV : Hid (holdB t0 t1 (t, o, x) = holdV o x (if t = 0 then t0 else t1)) := rfl
      generalize hw2 : wr.alloc (.cells #[.int .i64 t, .int .i64 o, .int .i64 x] 72) = w2 at hbk htt HB2
      have HW2 := hide hw2
      have HBK := hide hbk
      have HTT := hide htt
      clear hc c0 c1 c2 hal hw2 hbk htt
      go_upto_region 4 with fail
      rw [HW2.out]
      have m0 := cells_at HBK.out 0 rfl
      have m1 := cells_at HBK.out 1 rfl
      have m2 := cells_at HBK.out 2 rfl
      have q0 := cells_at HTT.out 0 rfl
      have q1 := cells_at HTT.out 1 rfl
      have HSB : Hid (∀ W, Below w2.heap.size w2 W → W.cell? ⟨wr.heap.size, 0, none⟩ = some (.int .i64 t) ∧ W.cell? ⟨wr.heap.size, 1, none⟩ = some (.int .i64 o) ∧ W.cell? ⟨wr.heap.size, 2, none⟩ = some (.int .i64 x) ∧ W.cell? ⟨w.heap.size, 0, none⟩ = some (.int .i64 t0) ∧ W.cell? ⟨w.heap.size, 1, none⟩ = some (.int .i64 t1)) := fun W hW => ⟨cell_below m0 hW, cell_below m1 hW, cell_below m2 hW, cell_below q0 hW, cell_below q1 hW⟩
      clear m0 m1 m2 q0 q1 y0 y1 y2
      rcases htc with rfl | rfl
      · have hhd := holds141 0 o x t0
        have HHD := hide hhd
        have HHV2 : Hid (holdB t0 t1 (0, o, x) = holdV o x t0) := by
          show _ = _
          rw [HHV.out]
          simp
        clear hhd
        generalize holdV o x t0 = hb at HHD HHV2
        go_region_held3 (fun wx => wx.cell? ⟨wr.heap.size, 0, none⟩ = some (.int .i64 0) ∧ wx.cell? ⟨wr.heap.size, 1, none⟩ = some (.int .i64 o) ∧ wx.cell? ⟨wr.heap.size, 2, none⟩ = some (.int .i64 x) ∧ wx.cell? ⟨w.heap.size, 0, none⟩ = some (.int .i64 t0) ∧ wx.cell? ⟨w.heap.size, 1, none⟩ = some (.int .i64 t1))
          ((refine HSB.out _ ?_; repeat (first | with_reducible exact hb3 | exact Below.refl _ _ | refine Below.drew ?_)))
          (first | (go_at_call 148; refine (HHD.out w2.drew).mono ?_; rintro e3 w3 ⟨rfl, b3⟩; have hb3 : Below w2.heap.size w2 w3 := Below.undrew b3))
        have HB3 := hide (HB2.out.trans (hb3.mono HB2.out.size))
        have HT3 := hide ((hb3.block _ (heap_lt HTT.out)).trans HTT.out)
        clear hb3 b3
        cases hb with
        | true =>
          go_wp2
          refine ⟨⟨k + 1, by go_num, by omega, ?_, HB3.out, HT3.out⟩, by simp [intOf]; omega⟩
          show _ = _
          rw [HS.out, HA.out, HHV2.out]; rfl
        | false =>
          go_wp2
          go_ret
          exact ⟨by rw [HAV.out, HBD.out HHV2.out]; rfl, HB3.out⟩
      · have hhd := holds141 1 o x t1
        have HHD := hide hhd
        have HHV2 : Hid (holdB t0 t1 (1, o, x) = holdV o x t1) := by
          show _ = _
          rw [HHV.out]
          simp
        clear hhd
        generalize holdV o x t1 = hb at HHD HHV2
        go_region_held3 (fun wx => wx.cell? ⟨wr.heap.size, 0, none⟩ = some (.int .i64 1) ∧ wx.cell? ⟨wr.heap.size, 1, none⟩ = some (.int .i64 o) ∧ wx.cell? ⟨wr.heap.size, 2, none⟩ = some (.int .i64 x) ∧ wx.cell? ⟨w.heap.size, 0, none⟩ = some (.int .i64 t0) ∧ wx.cell? ⟨w.heap.size, 1, none⟩ = some (.int .i64 t1))
          ((refine HSB.out _ ?_; repeat (first | with_reducible exact hb3 | exact Below.refl _ _ | refine Below.drew ?_)))
          (first | (go_at_call 148; refine (HHD.out w2.drew).mono ?_; rintro e3 w3 ⟨rfl, b3⟩; have hb3 : Below w2.heap.size w2 w3 := Below.undrew b3))
        have HB3 := hide (HB2.out.trans (hb3.mono HB2.out.size))
        have HT3 := hide ((hb3.block _ (heap_lt HTT.out)).trans HTT.out)
        clear hb3 b3
        cases hb with
        | true =>
          go_wp2
          refine ⟨⟨k + 1, by go_num, by omega, ?_, HB3.out, HT3.out⟩, by simp [intOf]; omega⟩
          show _ = _
          rw [HS.out, HA.out, HHV2.out]; rfl
        | false =>
          go_wp2
          go_ret
          exact ⟨by rw [HAV.out, HBD.out HHV2.out]; rfl, HB3.out⟩
    · go_wp2
      go_ret
      obtain rfl : k = cs.length := by omega
      have := HA.out
      rw [List.take_length] at this
      exact ⟨by rw [HAV.out, this]; rfl, HB.out⟩
end Go.Proofs.YtpkiefjanmfgfaaGreatDoor
namespace Go.Proofs.YtpkiefjanmfgfaaGreatDoor
open Go.RowKit Go.Maps

def mostL (links l : Int) : Int := if l = 0 then 2 * links else links
def roomL (links : Int) (lk : Int × Int → List Int) (id l : Int) : Bool := decide (((lk (id, l)).length : Int) < mostL links l)

set_option maxHeartbeats 1000000 in
set_option maxRecDepth 20000 in
theorem room133 (bg : Nat) (links beam : Int) (fv : Value) (F : Nat → Prop) (lev : List (Int × Int)) (lk : Int × Int → List Int) (ch : List Int) (id l : Int) (w : World) (h : GAt w bg F lev lk ch) (hid : I64 id) (hl : I64 l) (hs : (lk (id, l)).length ≤ 1000) (hk : 0 ≤ links ∧ links ≤ 1000) :
    Calls Tryz.prog 140 #[.agg #[.pointer (some ⟨bg, 0, none⟩), .int .i64 links, .int .i64 beam, fv], .int .i64 id, .int .i64 l] w fun ev w' => ev = .returned (.bool (roomL links lk id l)) ∧ Below w.heap.size w w' := by
  have h1 := fun W (hW : Below w.heap.size w W) => linked88 bg F lev lk ch id l W (h.below hW) hid hl hs
  have H1 := hide h1
  have w2 : IntKind.i64.wrap (2 * links) = 2 * links := by rw [IntKind.wrap_i64]; omega
  have HRM : Hid (roomL links lk id l = decide (((lk (id, l)).length : Int) < mostL links l)) := rfl
  have HML : Hid (mostL links l = if l = 0 then 2 * links else links) := rfl
  generalize roomL links lk id l = rv at HRM
  generalize mostL links l = mv at HRM HML
  generalize lk (id, l) = xs at H1 HRM hs
  clear h h1
  have ha := (Below.refl w.heap.size w).alloc (Nat.le_refl _) (.cells #[.pointer (some ⟨bg, 0, none⟩), .int .i64 links, .int .i64 beam, fv] 109)
  by_cases h0 : l = 0
  · subst h0
    go_enter Tryz.func140, Tryz.ntmps140
    go_wp2_with fail
    refine (H1.out _ ha).mono ?_
    rintro e1 w1 ⟨v', rfl, r1, _, hb1, _⟩
    obtain ⟨a1, c1, hv1, _⟩ := IRow_slice r1
    subst hv1
    have hB := hide hb1
    clear r1 hb1
    go_wp2
    go_ret
    refine ⟨?_, ?_⟩
    · rw [HRM.out, HML.out]; simp
    · exact ha.trans (hB.out.mono (by simp))
  · go_enter Tryz.func140, Tryz.ntmps140
    go_wp2_with fail
    refine (H1.out _ ha).mono ?_
    rintro e1 w1 ⟨v', rfl, r1, _, hb1, _⟩
    obtain ⟨a1, c1, hv1, _⟩ := IRow_slice r1
    subst hv1
    have hB := hide hb1
    clear r1 hb1
    go_wp2
    go_ret
    refine ⟨?_, ?_⟩
    · rw [HRM.out, HML.out, if_neg h0]; simp
    · exact ha.trans (hB.out.mono (by simp))

set_option maxHeartbeats 1000000 in
set_option maxRecDepth 20000 in
theorem hit138 (gv : Value) (links beam : Int) (mk : Nat) (caps : Array Value) (dd : Int → Int → Int) (id o : Int) (w : World) 
    (eg : ∀ args w, (callFunc mk args).run Tryz.prog w = .ok (.enter mk args) w)
    (hm : ∀ W, Below w.heap.size w W → Calls Tryz.prog mk (#[.int .i64 id, .int .i64 o] ++ caps) W fun e W' => e = .returned (.int .i64 (dd id o)) ∧ Below W.heap.size W W') :
    Calls Tryz.prog 145 #[.agg #[gv, .int .i64 links, .int .i64 beam, .func (.func mk) #[] caps], .int .i64 id, .int .i64 o] w fun ev w' => ev = .returned (.agg #[.int .i64 o, .int .i64 (dd id o)]) ∧ Below w.heap.size w w' := by
  have HM := hide hm
  clear hm
  have ha := ((Below.refl w.heap.size w).alloc (Nat.le_refl _) (.cells #[gv, .int .i64 links, .int .i64 beam, .func (.func mk) #[] caps] 109)).alloc (by simp) (.cells #[.int .i64 0, .int .i64 0] 63)
  go_enter Tryz.func145, Tryz.ntmps145
  go_wp2_with fail
  refine (HM.out _ ha).mono ?_
  rintro e1 w1 ⟨rfl, hb1⟩
  have l0 : w1.cell? ⟨w.heap.size + 1, 0, none⟩ = some (.int .i64 0) := Below.at hb1 (by simp) (by simp)
  have l1 : w1.cell? ⟨w.heap.size + 1, 1, none⟩ = some (.int .i64 0) := Below.at hb1 (by simp) (by simp)
  have fl : ∀ o, w1.frozen? ⟨w.heap.size + 1, o, none⟩ = false := fun o => (hb1.frozen (p := ⟨_, o, none⟩) (by simp)).trans (by simp)
  have hz : w.heap.size + 1 < w1.heap.size := by have := hb1.size; simp at this; omega
  have HB := hide (ha.trans (hb1.mono (by simp; omega)))
  clear hb1
  go_wp2
  refine bodyPost_ret (v := .agg #[.int .i64 o, .int .i64 (dd id o)]) (by simp [results, Tryz.results145, go_sem, l0, l1]) rfl ⟨rfl, ?_⟩
  repeat (first | exact HB.out | refine Below.setCell ?_ (by first | omega | (simp; done) | (simp; omega)) _)
end Go.Proofs.YtpkiefjanmfgfaaGreatDoor
namespace Go.Proofs.YtpkiefjanmfgfaaGreatDoor
open Go.RowKit Go.Maps

def minTo (l : List Hit) : Nat → Hit
  | 0 => nth l 0
  | n + 1 => if cmpH (nth l (n + 1)) (minTo l n) < 0 then nth l (n + 1) else minTo l n
def maxTo (l : List Hit) : Nat → Hit
  | 0 => nth l 0
  | n + 1 => if 0 < cmpH (nth l (n + 1)) (maxTo l n) then nth l (n + 1) else maxTo l n
theorem minTo_mem {l : List Hit} : ∀ {n : Nat}, n < l.length → minTo l n ∈ l
  | 0, h => by
    unfold minTo nth
    rw [List.getD_eq_getElem?_getD, List.getElem?_eq_getElem h]
    exact List.getElem_mem h
  | n + 1, h => by
    unfold minTo
    split
    · unfold nth
      rw [List.getD_eq_getElem?_getD, List.getElem?_eq_getElem h]
      exact List.getElem_mem h
    · exact minTo_mem (by omega)
theorem maxTo_mem {l : List Hit} : ∀ {n : Nat}, n < l.length → maxTo l n ∈ l
  | 0, h => by
    unfold maxTo nth
    rw [List.getD_eq_getElem?_getD, List.getElem?_eq_getElem h]
    exact List.getElem_mem h
  | n + 1, h => by
    unfold maxTo
    split
    · unfold nth
      rw [List.getD_eq_getElem?_getD, List.getElem?_eq_getElem h]
      exact List.getElem_mem h
    · exact maxTo_mem (by omega)

theorem HRow_slice {w : World} {v : Value} {l : List Hit} (h : HRow w v l) : ∃ a cap, v = .slice a l.length cap ∧ (0 < l.length → ∃ g, a = some ⟨g, 0, none⟩) := by
  rcases h.2 with ⟨rfl, hz⟩ | ⟨g, cap', cur, hv, _, _, hn, _⟩
  · exact ⟨none, 0, by rw [hz], fun h => by omega⟩
  · exact ⟨_, cap', hv, fun _ => ⟨g, rfl⟩⟩

structure MnAt (w : World) (B : Nat) (x : Hit) (wr : World) : Prop where
  c0 : wr.cell? ⟨B + 1, 0, none⟩ = some (.int .i64 x.1)
  c1 : wr.cell? ⟨B + 1, 1, none⟩ = some (.int .i64 x.2)
  fz : ∀ o, wr.frozen? ⟨B + 1, o, none⟩ = false
  d0 : wr.cell? ⟨B, 0, none⟩ = some (.int .i64 0)
  d1 : wr.cell? ⟨B, 1, none⟩ = some (.int .i64 0)
  fb : ∀ o, wr.frozen? ⟨B, o, none⟩ = false
  bel : Below w.heap.size w wr
theorem MnAt.below {w wr wy : World} {B : Nat} {x : Hit} (h : MnAt w B x wr) (hb : Below wr.heap.size wr wy) : MnAt w B x wy :=
  ⟨cell_below h.c0 hb, cell_below h.c1 hb, fun o => (hb.frozen (p := ⟨_, o, none⟩) (by show B + 1 < _; exact block_lt_of_cell (a := ⟨B + 1, 0, none⟩) h.c0)).trans (h.fz o), cell_below h.d0 hb, cell_below h.d1 hb, fun o => (hb.frozen (p := ⟨_, o, none⟩) (by show B < _; exact block_lt_of_cell (a := ⟨B, 0, none⟩) h.d0)).trans (h.fb o), h.bel.trans (hb.mono h.bel.size)⟩
theorem MnAt.set {w wr : World} {B : Nat} {x : Hit} (h : MnAt w B x wr) (hB : w.heap.size ≤ B) (y : Hit) : MnAt w B y ((wr.setCell ⟨B + 1, 0, none⟩ (.int .i64 y.1)).setCell ⟨B + 1, 1, none⟩ (.int .i64 y.2)) := by
  refine ⟨?_, ?_, fun o => ?_, ?_, ?_, fun o => ?_, ?_⟩
  · rw [World.cell?_setCell_other _ _ _ _ (by simp)]; exact World.cell?_setCell_same _ _ _ h.c0
  · exact World.cell?_setCell_same _ _ _ ((World.cell?_setCell_other _ _ _ _ (by simp)).trans h.c1)
  · rw [World.frozen?_setCell, World.frozen?_setCell]; exact h.fz o
  · rw [World.cell?_setCell_other _ _ _ _ (by simp), World.cell?_setCell_other _ _ _ _ (by simp)]; exact h.d0
  · rw [World.cell?_setCell_other _ _ _ _ (by simp), World.cell?_setCell_other _ _ _ _ (by simp)]; exact h.d1
  · rw [World.frozen?_setCell, World.frozen?_setCell]; exact h.fb o
  · exact (h.bel.setCell (by show _ ≤ B + 1; omega) _).setCell (by show _ ≤ B + 1; omega) _
theorem MnAt.first (w : World) (x : Hit) : MnAt w w.heap.size x ((w.alloc (.cells #[.int .i64 0, .int .i64 0] 63)).alloc (.cells #[.int .i64 x.1, .int .i64 x.2] 63)) :=
  ⟨by simp, by simp, fun o => by simp, by simp, by simp, fun o => by simp, ((Below.refl _ _).alloc (Nat.le_refl _) _).alloc (by simp) _⟩

set_option maxHeartbeats 2000000 in
set_option maxRecDepth 20000 in
theorem minFunc156 (v : Value) (l : List Hit) (w : World) (h : HRow w v l) (h0 : 0 < l.length) (hl : l.length ≤ 1000) :
    Calls Tryz.prog 166 #[v, .func (.func 149) #[] #[]] w fun e w' => e = .returned (.agg #[.int .i64 (minTo l (l.length - 1)).1, .int .i64 (minTo l (l.length - 1)).2]) ∧ Below w.heap.size w w' := by
  obtain ⟨a, cap, rfl, ha⟩ := HRow_slice h
  obtain ⟨g, rfl⟩ := ha h0
  clear ha
  have hlt := ((h.lt g rfl).2 : g < w.heap.size)
  have x0 := HRow.at0 h h0
  have x1 := HRow.at1 h h0
  have H := hide h
  clear h
  have hfirst := MnAt.first w (nth l 0)
  have HF := hide hfirst
  clear hfirst
  go_enter Tryz.func166, Tryz.ntmps166
  go_wp2
  go_loopw [6] (fun i wr => ∃ k : Nat, i = .int .i64 (k + 1 : Nat) ∧ k < l.length ∧ Hid (MnAt w w.heap.size (minTo l k) wr)) (fun i _ => l.length - (intOf i).toNat)
  case atStart => exact ⟨0, rfl, h0, HF.out⟩
  case round =>
    obtain ⟨k, rfl, hk, HM⟩ := hrel
    by_cases hlt1 : k + 1 < l.length
    · have hr := ownsRow_below H.out HM.out.bel
      have y0 := HRow.at0 hr hlt1
      have y1 := HRow.at1 hr hlt1
      have c0 := HM.out.c0
      have c1 := HM.out.c1
      have hnext : minTo l (k + 1) = if cmpH (nth l (k + 1)) (minTo l k) < 0 then nth l (k + 1) else minTo l k := rfl
      have hcmp := compare142 (nth l (k + 1)) (minTo l k)
      generalize hk1 : k + 1 = k1 at y0 y1 hlt1 hnext hcmp
      have HK1 := hide hk1
      generalize nth l k1 = x at y0 y1 hnext hcmp
      generalize hmt : minTo l k = mt at c0 c1 hnext hcmp
      rw [hmt] at HM
      generalize hcv : cmpH x mt = cv at hnext hcmp
      have HNX := hide hnext
      have HCM := hide hcmp
      clear hr hnext hcmp hmt hcv hk1 x0 x1
      have HSA : Hid (wr.drew.cell? ⟨g, k1 * 2, none⟩ = some (.int .i64 x.1) ∧ wr.drew.cell? ⟨g, k1 * 2 + 1, none⟩ = some (.int .i64 x.2) ∧ wr.drew.cell? ⟨w.heap.size + 1, 0, none⟩ = some (.int .i64 mt.1) ∧ wr.drew.cell? ⟨w.heap.size + 1, 1, none⟩ = some (.int .i64 mt.2)) := ⟨y0, y1, c0, c1⟩
      go_wp2
      go_region_held3 (fun wx => wx.cell? ⟨g, k1 * 2, none⟩ = some (.int .i64 x.1) ∧ wx.cell? ⟨g, k1 * 2 + 1, none⟩ = some (.int .i64 x.2) ∧ wx.cell? ⟨w.heap.size + 1, 0, none⟩ = some (.int .i64 mt.1) ∧ wx.cell? ⟨w.heap.size + 1, 1, none⟩ = some (.int .i64 mt.2))
        ((first | with_reducible exact HSA.out | with_reducible exact HSB.out))
        (first
          | (go_at_call 149; refine (HCM.out _).mono ?_; rintro e2 w2 ⟨rfl, hb2⟩; have HSB := hide (And.intro (cell_below HSA.out.1 hb2) (And.intro (cell_below HSA.out.2.1 hb2) (And.intro (cell_below HSA.out.2.2.1 hb2) (cell_below HSA.out.2.2.2 hb2))))))
      have HM2 := hide (HM.out.below (Below.undrew hb2))
      have z0 := HSB.out.1
      have z1 := HSB.out.2.1
      have z2 := HM2.out.c0
      have z3 := HM2.out.c1
      have fz := HM2.out.fz
      clear hb2 y0 y1 c0 c1 HSA HSB HCM
      by_cases hn : cv < 0
      · go_wp2
        refine ⟨⟨k1, by go_num, by omega, ?_⟩, by simp [intOf]; have := HK1.out; omega⟩
        rw [HNX.out, if_pos hn]
        exact HM2.out.set (Nat.le_refl _) x
      · go_wp2
        refine ⟨⟨k1, by go_num, by omega, ?_⟩, by simp [intOf]; have := HK1.out; omega⟩
        rw [HNX.out, if_neg hn]
        exact HM2.out
    · have hkl : k = l.length - 1 := by omega
      generalize hmt : minTo l k = mt at HM
      have HE : Hid (minTo l (l.length - 1) = mt) := by rw [← hkl]; exact hmt
      clear hmt
      have c0 := HM.out.c0
      have c1 := HM.out.c1
      have d0 := HM.out.d0
      have d1 := HM.out.d1
      have fb := HM.out.fb
      have HB := hide HM.out.bel
      clear hkl HM x0 x1
      go_wp2
      refine bodyPost_ret (v := .agg #[.int .i64 mt.1, .int .i64 mt.2]) (by simp [results, Tryz.results166, go_sem, d0, d1]) rfl ⟨by rw [HE.out], ?_⟩
      repeat (first | exact HB.out | refine Below.setCell ?_ (by first | omega | (simp; done) | (simp; omega)) _)
set_option maxHeartbeats 2000000 in
set_option maxRecDepth 20000 in
theorem maxFunc158 (v : Value) (l : List Hit) (w : World) (h : HRow w v l) (h0 : 0 < l.length) (hl : l.length ≤ 1000) :
    Calls Tryz.prog 168 #[v, .func (.func 149) #[] #[]] w fun e w' => e = .returned (.agg #[.int .i64 (maxTo l (l.length - 1)).1, .int .i64 (maxTo l (l.length - 1)).2]) ∧ Below w.heap.size w w' := by
  obtain ⟨a, cap, rfl, ha⟩ := HRow_slice h
  obtain ⟨g, rfl⟩ := ha h0
  clear ha
  have hlt := ((h.lt g rfl).2 : g < w.heap.size)
  have x0 := HRow.at0 h h0
  have x1 := HRow.at1 h h0
  have H := hide h
  clear h
  have hfirst := MnAt.first w (nth l 0)
  have HF := hide hfirst
  clear hfirst
  go_enter Tryz.func168, Tryz.ntmps168
  go_wp2
  go_loopw [6] (fun i wr => ∃ k : Nat, i = .int .i64 (k + 1 : Nat) ∧ k < l.length ∧ Hid (MnAt w w.heap.size (maxTo l k) wr)) (fun i _ => l.length - (intOf i).toNat)
  case atStart => exact ⟨0, rfl, h0, HF.out⟩
  case round =>
    obtain ⟨k, rfl, hk, HM⟩ := hrel
    by_cases hlt1 : k + 1 < l.length
    · have hr := ownsRow_below H.out HM.out.bel
      have y0 := HRow.at0 hr hlt1
      have y1 := HRow.at1 hr hlt1
      have c0 := HM.out.c0
      have c1 := HM.out.c1
      have hnext : maxTo l (k + 1) = if 0 < cmpH (nth l (k + 1)) (maxTo l k) then nth l (k + 1) else maxTo l k := rfl
      have hcmp := compare142 (nth l (k + 1)) (maxTo l k)
      generalize hk1 : k + 1 = k1 at y0 y1 hlt1 hnext hcmp
      have HK1 := hide hk1
      generalize nth l k1 = x at y0 y1 hnext hcmp
      generalize hmt : maxTo l k = mt at c0 c1 hnext hcmp
      rw [hmt] at HM
      generalize hcv : cmpH x mt = cv at hnext hcmp
      have HNX := hide hnext
      have HCM := hide hcmp
      clear hr hnext hcmp hmt hcv hk1 x0 x1
      have HSA : Hid (wr.drew.cell? ⟨g, k1 * 2, none⟩ = some (.int .i64 x.1) ∧ wr.drew.cell? ⟨g, k1 * 2 + 1, none⟩ = some (.int .i64 x.2) ∧ wr.drew.cell? ⟨w.heap.size + 1, 0, none⟩ = some (.int .i64 mt.1) ∧ wr.drew.cell? ⟨w.heap.size + 1, 1, none⟩ = some (.int .i64 mt.2)) := ⟨y0, y1, c0, c1⟩
      go_wp2
      go_region_held3 (fun wx => wx.cell? ⟨g, k1 * 2, none⟩ = some (.int .i64 x.1) ∧ wx.cell? ⟨g, k1 * 2 + 1, none⟩ = some (.int .i64 x.2) ∧ wx.cell? ⟨w.heap.size + 1, 0, none⟩ = some (.int .i64 mt.1) ∧ wx.cell? ⟨w.heap.size + 1, 1, none⟩ = some (.int .i64 mt.2))
        ((first | with_reducible exact HSA.out | with_reducible exact HSB.out))
        (first
          | (go_at_call 149; refine (HCM.out _).mono ?_; rintro e2 w2 ⟨rfl, hb2⟩; have HSB := hide (And.intro (cell_below HSA.out.1 hb2) (And.intro (cell_below HSA.out.2.1 hb2) (And.intro (cell_below HSA.out.2.2.1 hb2) (cell_below HSA.out.2.2.2 hb2))))))
      have HM2 := hide (HM.out.below (Below.undrew hb2))
      have z0 := HSB.out.1
      have z1 := HSB.out.2.1
      have z2 := HM2.out.c0
      have z3 := HM2.out.c1
      have fz := HM2.out.fz
      clear hb2 y0 y1 c0 c1 HSA HSB HCM
      by_cases hn : 0 < cv
      · go_wp2
        refine ⟨⟨k1, by go_num, by omega, ?_⟩, by simp [intOf]; have := HK1.out; omega⟩
        rw [HNX.out, if_pos hn]
        exact HM2.out.set (Nat.le_refl _) x
      · go_wp2
        refine ⟨⟨k1, by go_num, by omega, ?_⟩, by simp [intOf]; have := HK1.out; omega⟩
        rw [HNX.out, if_neg hn]
        exact HM2.out
    · have hkl : k = l.length - 1 := by omega
      generalize hmt : maxTo l k = mt at HM
      have HE : Hid (maxTo l (l.length - 1) = mt) := by rw [← hkl]; exact hmt
      clear hmt
      have c0 := HM.out.c0
      have c1 := HM.out.c1
      have d0 := HM.out.d0
      have d1 := HM.out.d1
      have fb := HM.out.fb
      have HB := hide HM.out.bel
      clear hkl HM x0 x1
      go_wp2
      refine bodyPost_ret (v := .agg #[.int .i64 mt.1, .int .i64 mt.2]) (by simp [results, Tryz.results168, go_sem, d0, d1]) rfl ⟨by rw [HE.out], ?_⟩
      repeat (first | exact HB.out | refine Below.setCell ?_ (by first | omega | (simp; done) | (simp; omega)) _)
end Go.Proofs.YtpkiefjanmfgfaaGreatDoor
namespace Go.Proofs.YtpkiefjanmfgfaaGreatDoor
open Go.RowKit Go.Maps

def hitsOf (dd : Int → Int → Int) (id : Int) (xs : List Int) : List Hit := xs.map fun x => (x, dd id x)

theorem madeHRow (w : World) (n : Nat) (hn : n ≤ 1000) : HRow (w.alloc (.cells (madeCells (Value.cells (.agg #[.int .i64 0, .int .i64 0])) (n * 2)) 63)) (.slice (some ⟨w.heap.size, 0, none⟩) n n) (List.replicate n (0, 0)) := by
  have e1 : (List.replicate n ((0, 0) : Hit)).length = n := by simp
  unfold HRow
  rw [e1]
  refine ⟨by rw [hcells_length, e1], .inr ⟨w.heap.size, n, _, rfl, Nat.zero_le _, heap_alloc_new _ _, Nat.le_refl _, by unfold maxLen; omega, by rw [size_madeCells], ?_⟩⟩
  rw [← madeHits, List.take_of_length_le (by simp [size_madeCells])]

theorem take_set_next {α : Type} (o : List α) (k : Nat) (x : α) (hk : k < o.length) : (o.set k x).take (k + 1) = o.take k ++ [x] := by
  rw [List.take_succ_eq_append_getElem (by simpa using hk)]
  simp [List.take_set_of_le]

set_option maxHeartbeats 2000000 in
set_option maxRecDepth 20000 in
theorem hits157 (gv : Value) (links beam : Int) (mk : Nat) (caps : Array Value) (dd : Int → Int → Int) (id : Int) (v : Value) (xs : List Int) (w : World) (ha : IRow w v xs) (hl : xs.length ≤ 1000)
    (eg : ∀ args w, (callFunc mk args).run Tryz.prog w = .ok (.enter mk args) w)
    (hm : ∀ o ∈ xs, ∀ W, Below w.heap.size w W → Calls Tryz.prog mk (#[.int .i64 id, .int .i64 o] ++ caps) W fun e W' => e = .returned (.int .i64 (dd id o)) ∧ Below W.heap.size W W') :
    Calls Tryz.prog 167 #[.agg #[gv, .int .i64 links, .int .i64 beam, .func (.func mk) #[] caps], .int .i64 id, v] w fun ev w' => ∃ v', ev = .returned v' ∧ HRow w' v' (hitsOf dd id xs) ∧ (∀ g, v'.ownBlock = some g → w.heap.size ≤ g) ∧ Below w.heap.size w w' := by
  obtain ⟨a, cap, rfl, hsa⟩ := IRow_slice ha
  obtain ⟨i0, hi, hz0, hz1, hz2⟩ := info_parts info63
  have hmk := run_make (P := Tryz.prog) (w.alloc (.cells #[gv, .int .i64 links, .int .i64 beam, .func (.func mk) #[] caps] 109)) 58 63 i0 (.agg #[.int .i64 0, .int .i64 0]) Tryz.underlying58 hi hz0 .i64 .i64 (xs.length : Int) (xs.length : Int) (by omega) (Int.le_refl _) (by rw [hz2]; omega) (by omega)
  simp only [Int.toNat_natCast, hz1] at hmk
  have hrow := madeHRow (w.alloc (.cells #[gv, .int .i64 links, .int .i64 beam, .func (.func mk) #[] caps] 109)) xs.length hl
  generalize madeCells (Value.cells (.agg #[.int .i64 0, .int .i64 0])) (xs.length * 2) = M at hmk hrow
  have hw1 : Below w.heap.size w ((w.alloc (.cells #[gv, .int .i64 links, .int .i64 beam, .func (.func mk) #[] caps] 109)).alloc (.cells M 63)) := ((Below.refl _ _).alloc (Nat.le_refl _) _).alloc (by simp) _
  have e1 : (w.alloc (.cells #[gv, .int .i64 links, .int .i64 beam, .func (.func mk) #[] caps] 109)).heap.size = w.heap.size + 1 := by simp
  rw [e1] at hrow hmk
  have hblk : ((w.alloc (.cells #[gv, .int .i64 links, .int .i64 beam, .func (.func mk) #[] caps] 109)).alloc (.cells M 63)).heap[w.heap.size]? = some (.cells #[gv, .int .i64 links, .int .i64 beam, .func (.func mk) #[] caps] 109 (0, 0)) := (Below.heap_alloc _ _ _ (by simp)).trans (heap_alloc_new _ _)
  have HR := hide hrow
  have HW1 := hide hw1
  have HBK := hide hblk
  have HA := hide ha
  have HSA := hide hsa
  have HMS := hide hm
  clear hrow hw1 hblk ha hsa hm e1
  go_enter Tryz.func167, Tryz.ntmps167
  go_wp2
  generalize hwe : (w.alloc (.cells #[gv, .int .i64 links, .int .i64 beam, .func (.func mk) #[] caps] 109)).alloc (.cells M 63) = w1 at HR HW1 HBK ⊢
  clear hwe hmk
  go_loopw [8, 9, 15] (fun _ _ i wr => ∃ (k : Nat) (o : List Hit), i = .int .i64 k ∧ k ≤ xs.length ∧ Hid (o.length = xs.length) ∧ Hid (o.take k = hitsOf dd id (xs.take k)) ∧ Hid (HRow wr (.slice (some ⟨w.heap.size + 1, 0, none⟩) o.length o.length) o) ∧ Hid (wr.heap[w.heap.size]? = some (.cells #[gv, .int .i64 links, .int .i64 beam, .func (.func mk) #[] caps] 109 (0, 0))) ∧ Hid (Below w.heap.size w wr)) (fun _ _ i _ => xs.length - (intOf i).toNat)
  case atStart => exact ⟨0, List.replicate xs.length (0, 0), rfl, Nat.zero_le _, List.length_replicate, rfl, by rw [List.length_replicate]; exact HR.out, HBK.out, HW1.out⟩
  case round =>
    obtain ⟨k, o, rfl, hk, HO, HT, HRW, HBL, HBE⟩ := hrel
    by_cases hlt : k < xs.length
    · obtain ⟨g, rfl⟩ := HSA.out (by omega)
      have hrw := ownsRow_below HA.out HBE.out
      have y0 : wr.cell? ⟨g, k, none⟩ = some (.int .i64 (xs.getD k 0)) := ownsRow_cell hrw (by simp [vals, List.getD_eq_getElem?_getD, hlt])
      have hin : xs.getD k 0 ∈ xs := by rw [List.getD_eq_getElem?_getD, List.getElem?_eq_getElem hlt]; exact List.getElem_mem hlt
      have htk : xs.take (k + 1) = xs.take k ++ [xs.getD k 0] := by rw [List.take_succ_eq_append_getElem hlt, List.getD_eq_getElem?_getD, List.getElem?_eq_getElem hlt]; rfl
      have hht := hit138 gv links beam mk caps dd id (xs.getD k 0) wr eg (fun W hW => HMS.out _ hin W (HBE.out.trans (hW.mono HBE.out.size)))
      generalize xs.getD k 0 = x at y0 htk hht
      have c0 := cells_at HBL.out 0 rfl
      have c1 := cells_at HBL.out 1 rfl
      have c2 := cells_at HBL.out 2 rfl
      have c3 := cells_at HBL.out 3 rfl
      have hko : k < o.length := by rw [HO.out]; exact hlt
      have HHT := hide hht
      have HTK := hide htk
      clear hrw hin hht htk
      go_wp2_with (go_at_call 145; refine HHT.out.mono ?_; rintro e3 w3 ⟨rfl, hb3⟩; have hrw3 := ownsRow_below HRW.out hb3; have x0 := HRow.at0 hrw3 hko; have x1 := HRow.at1 hrw3 hko; have hfz := ownsRow_frozen hrw3; have HRW3 := hide hrw3; have HB3 := hide hb3; clear hrw3 hb3)
      have hB := HBE.out.trans (HB3.out.mono HBE.out.size)
      refine ⟨⟨k + 1, o.set k (x, dd id x), by go_num, by omega, ?_, ?_, ?_, ?_, ?_⟩, by simp [intOf]; omega⟩
      · show (o.set k _).length = _
        rw [List.length_set]; exact HO.out
      · show (o.set k _).take _ = _
        rw [take_set_next _ _ _ hko, HT.out, HTK.out]
        simp [hitsOf]
      · show HRow _ _ _
        unfold HRow
        rw [List.length_set]
        exact HRow.set HRW3.out k (x, dd id x)
      · show _ = _
        rw [Below.heap_setCell _ _ _ _ (by show w.heap.size ≠ w.heap.size + 1; omega), Below.heap_setCell _ _ _ _ (by show w.heap.size ≠ w.heap.size + 1; omega)]
        exact (HB3.out.block _ (heap_lt HBL.out)).trans HBL.out
      · exact (hB.setCell (by show _ ≤ w.heap.size + 1; omega) _).setCell (by show _ ≤ w.heap.size + 1; omega) _
    · go_wp2
      go_ret
      obtain rfl : k = xs.length := by omega
      refine ⟨_, rfl, ?_, ?_, HBE.out⟩
      · have h1 := HT.out
        rw [List.take_of_length_le (by rw [HO.out]; exact Nat.le_refl _), List.take_of_length_le (Nat.le_refl _)] at h1
        rw [← h1, ← HO.out]
        exact HRW.out
      · intro g e
        obtain rfl : w.heap.size + 1 = g := by simpa [Value.ownBlock] using e
        omega

def nearL (dd : Int → Int → Int) (id : Int) (xs : List Int) : Hit := minTo (hitsOf dd id xs) ((hitsOf dd id xs).length - 1)
def farL (dd : Int → Int → Int) (id : Int) (xs : List Int) : Hit := maxTo (hitsOf dd id xs) ((hitsOf dd id xs).length - 1)
theorem nearL_mem {dd : Int → Int → Int} {id : Int} {xs : List Int} (h : 0 < xs.length) : (nearL dd id xs).1 ∈ xs := by
  have := minTo_mem (l := hitsOf dd id xs) (n := (hitsOf dd id xs).length - 1) (by simp [hitsOf]; omega)
  obtain ⟨x, hx, e⟩ := List.mem_map.1 this
  unfold nearL
  rw [← e]; exact hx
theorem farL_mem {dd : Int → Int → Int} {id : Int} {xs : List Int} (h : 0 < xs.length) : (farL dd id xs).1 ∈ xs := by
  have := maxTo_mem (l := hitsOf dd id xs) (n := (hitsOf dd id xs).length - 1) (by simp [hitsOf]; omega)
  obtain ⟨x, hx, e⟩ := List.mem_map.1 this
  unfold farL
  rw [← e]; exact hx

set_option maxHeartbeats 2000000 in
set_option maxRecDepth 20000 in
theorem nearest135 (gv : Value) (links beam : Int) (mk : Nat) (caps : Array Value) (dd : Int → Int → Int) (id : Int) (v : Value) (xs : List Int) (w : World) (ha : IRow w v xs) (h0 : 0 < xs.length) (hl : xs.length ≤ 1000)
    (eg : ∀ args w, (callFunc mk args).run Tryz.prog w = .ok (.enter mk args) w)
    (hm : ∀ o ∈ xs, ∀ W, Below w.heap.size w W → Calls Tryz.prog mk (#[.int .i64 id, .int .i64 o] ++ caps) W fun e W' => e = .returned (.int .i64 (dd id o)) ∧ Below W.heap.size W W') :
    Calls Tryz.prog 142 #[.agg #[gv, .int .i64 links, .int .i64 beam, .func (.func mk) #[] caps], .int .i64 id, v] w fun ev w' => ev = .returned (.agg #[.int .i64 (nearL dd id xs).1, .int .i64 (nearL dd id xs).2]) ∧ Below w.heap.size w w' := by
  have hal := ((Below.refl w.heap.size w).alloc (Nat.le_refl _) (.cells #[gv, .int .i64 links, .int .i64 beam, .func (.func mk) #[] caps] 109)).alloc (by simp) (.cells #[.int .i64 0, .int .i64 0] 63)
  have hhs := hits157 gv links beam mk caps dd id v xs ((w.alloc (.cells #[gv, .int .i64 links, .int .i64 beam, .func (.func mk) #[] caps] 109)).alloc (.cells #[.int .i64 0, .int .i64 0] 63)) (ownsRow_below ha hal) hl eg (fun o ho W hW => hm o ho W (hal.trans (hW.mono hal.size)))
  obtain ⟨a, cap, rfl, hsa⟩ := IRow_slice ha
  have hlen : (hitsOf dd id xs).length = xs.length := by simp [hitsOf]
  have HLEN := hide hlen
  have HH := hide hhs
  have HAL := hide hal
  clear hhs hal hsa ha hm eg hlen
  go_enter Tryz.func142, Tryz.ntmps142
  go_wp2_with fail
  refine HH.out.mono ?_
  rintro e1 w1 ⟨v1, rfl, hr1, hf1, hb1⟩
  have l0 : w1.cell? ⟨w.heap.size + 1, 0, none⟩ = some (.int .i64 0) := Below.at hb1 (by simp) (by simp)
  have l1 : w1.cell? ⟨w.heap.size + 1, 1, none⟩ = some (.int .i64 0) := Below.at hb1 (by simp) (by simp)
  have fl : ∀ o, w1.frozen? ⟨w.heap.size + 1, o, none⟩ = false := fun o => (hb1.frozen (p := ⟨_, o, none⟩) (by simp)).trans (by simp)
  have hz : w.heap.size + 1 < w1.heap.size := by have := hb1.size; simp at this; omega
  have HB1 := hide (HAL.out.trans (hb1.mono HAL.out.size))
  have hmn := minFunc156 v1 (hitsOf dd id xs) w1 hr1 (by rw [HLEN.out]; exact h0) (by rw [HLEN.out]; exact hl)
  have HMN := hide hmn
  generalize hmt : minTo (hitsOf dd id xs) ((hitsOf dd id xs).length - 1) = mt at HMN
  have HNL : Hid (nearL dd id xs = mt) := hmt
  clear hmt
  obtain ⟨a1, cap1, hv1, _⟩ := HRow_slice hr1
  subst hv1
  clear hb1 hmn hr1 hf1 HH HAL
  go_wp2_with fail
  refine HMN.out.mono ?_
  rintro e2 w2 ⟨rfl, hb2⟩
  have m0 := cell_below l0 hb2
  have m1 := cell_below l1 hb2
  have fm : ∀ o, w2.frozen? ⟨w.heap.size + 1, o, none⟩ = false := fun o => (hb2.frozen (p := ⟨_, o, none⟩) (by exact hz)).trans (fl o)
  have HB2 := hide (HB1.out.trans (hb2.mono HB1.out.size))
  clear l0 l1 fl hb2 HB1 HMN
  go_wp2
  refine bodyPost_ret (v := .agg #[.int .i64 mt.1, .int .i64 mt.2]) (by simp [results, Tryz.results142, go_sem, m0, m1]) rfl ⟨by rw [HNL.out], ?_⟩
  repeat (first | exact HB2.out | refine Below.setCell ?_ (by first | omega | (simp; done) | (simp; omega)) _)

set_option maxHeartbeats 2000000 in
set_option maxRecDepth 20000 in
theorem farthest137 (gv : Value) (links beam : Int) (mk : Nat) (caps : Array Value) (dd : Int → Int → Int) (id : Int) (v : Value) (xs : List Int) (w : World) (ha : IRow w v xs) (h0 : 0 < xs.length) (hl : xs.length ≤ 1000)
    (eg : ∀ args w, (callFunc mk args).run Tryz.prog w = .ok (.enter mk args) w)
    (hm : ∀ o ∈ xs, ∀ W, Below w.heap.size w W → Calls Tryz.prog mk (#[.int .i64 id, .int .i64 o] ++ caps) W fun e W' => e = .returned (.int .i64 (dd id o)) ∧ Below W.heap.size W W') :
    Calls Tryz.prog 144 #[.agg #[gv, .int .i64 links, .int .i64 beam, .func (.func mk) #[] caps], .int .i64 id, v] w fun ev w' => ev = .returned (.agg #[.int .i64 (farL dd id xs).1, .int .i64 (farL dd id xs).2]) ∧ Below w.heap.size w w' := by
  have hal := ((Below.refl w.heap.size w).alloc (Nat.le_refl _) (.cells #[gv, .int .i64 links, .int .i64 beam, .func (.func mk) #[] caps] 109)).alloc (by simp) (.cells #[.int .i64 0, .int .i64 0] 63)
  have hhs := hits157 gv links beam mk caps dd id v xs ((w.alloc (.cells #[gv, .int .i64 links, .int .i64 beam, .func (.func mk) #[] caps] 109)).alloc (.cells #[.int .i64 0, .int .i64 0] 63)) (ownsRow_below ha hal) hl eg (fun o ho W hW => hm o ho W (hal.trans (hW.mono hal.size)))
  obtain ⟨a, cap, rfl, hsa⟩ := IRow_slice ha
  have hlen : (hitsOf dd id xs).length = xs.length := by simp [hitsOf]
  have HLEN := hide hlen
  have HH := hide hhs
  have HAL := hide hal
  clear hhs hal hsa ha hm eg hlen
  go_enter Tryz.func144, Tryz.ntmps144
  go_wp2_with fail
  refine HH.out.mono ?_
  rintro e1 w1 ⟨v1, rfl, hr1, hf1, hb1⟩
  have l0 : w1.cell? ⟨w.heap.size + 1, 0, none⟩ = some (.int .i64 0) := Below.at hb1 (by simp) (by simp)
  have l1 : w1.cell? ⟨w.heap.size + 1, 1, none⟩ = some (.int .i64 0) := Below.at hb1 (by simp) (by simp)
  have fl : ∀ o, w1.frozen? ⟨w.heap.size + 1, o, none⟩ = false := fun o => (hb1.frozen (p := ⟨_, o, none⟩) (by simp)).trans (by simp)
  have hz : w.heap.size + 1 < w1.heap.size := by have := hb1.size; simp at this; omega
  have HB1 := hide (HAL.out.trans (hb1.mono HAL.out.size))
  have hmn := maxFunc158 v1 (hitsOf dd id xs) w1 hr1 (by rw [HLEN.out]; exact h0) (by rw [HLEN.out]; exact hl)
  have HMN := hide hmn
  generalize hmt : maxTo (hitsOf dd id xs) ((hitsOf dd id xs).length - 1) = mt at HMN
  have HNL : Hid (farL dd id xs = mt) := hmt
  clear hmt
  obtain ⟨a1, cap1, hv1, _⟩ := HRow_slice hr1
  subst hv1
  clear hb1 hmn hr1 hf1 HH HAL
  go_wp2_with fail
  refine HMN.out.mono ?_
  rintro e2 w2 ⟨rfl, hb2⟩
  have m0 := cell_below l0 hb2
  have m1 := cell_below l1 hb2
  have fm : ∀ o, w2.frozen? ⟨w.heap.size + 1, o, none⟩ = false := fun o => (hb2.frozen (p := ⟨_, o, none⟩) (by exact hz)).trans (fl o)
  have HB2 := hide (HB1.out.trans (hb2.mono HB1.out.size))
  clear l0 l1 fl hb2 HB1 HMN
  go_wp2
  refine bodyPost_ret (v := .agg #[.int .i64 mt.1, .int .i64 mt.2]) (by simp [results, Tryz.results144, go_sem, m0, m1]) rfl ⟨by rw [HNL.out], ?_⟩
  repeat (first | exact HB2.out | refine Below.setCell ?_ (by first | omega | (simp; done) | (simp; omega)) _)
end Go.Proofs.YtpkiefjanmfgfaaGreatDoor
namespace Go.Proofs.YtpkiefjanmfgfaaGreatDoor
open Go.RowKit Go.Maps

def outB (links : Int) (lk : Int × Int → List Int) (id l : Int) (x : Int) : Bool := decide (x = id) || decide (x ∈ lk (id, l)) || !roomL links lk x l

set_option maxHeartbeats 2000000 in
set_option maxRecDepth 20000 in
theorem mend131 (b1 b2 b3 b4 bg : Nat) (links beam : Int) (fv : Value) (v2 : Value) (F : Nat → Prop) (lev : List (Int × Int)) (lk : Int × Int → List Int) (ch : List Int) (id l x : Int) (w : World) (h : GAt w bg F lev lk ch) (hx : I64 x) (hl : I64 l) (hs : ∀ p, (lk p).length ≤ 1000) (hk : 0 ≤ links ∧ links ≤ 1000)
    (c1 : w.cell? ⟨b1, 0, none⟩ = some (.int .i64 id)) (c2 : w.cell? ⟨b2, 0, none⟩ = some v2) (r2 : IRow w v2 (lk (id, l))) (c4 : w.cell? ⟨b4, 0, none⟩ = some (.int .i64 l))
    (c3 : w.heap[b3]? = some (.cells #[.pointer (some ⟨bg, 0, none⟩), .int .i64 links, .int .i64 beam, fv] 109 (0, 0))) :
    Calls Tryz.prog 138 #[.int .i64 x, .pointer (some ⟨b1, 0, none⟩), .pointer (some ⟨b2, 0, none⟩), .pointer (some ⟨b3, 0, none⟩), .pointer (some ⟨b4, 0, none⟩)] w fun e w' => e = .returned (.bool (outB links lk id l x)) ∧ Below w.heap.size w w' := by
  obtain ⟨a2, cap2, rfl, _⟩ := IRow_slice r2
  have d0 := cells_at c3 0 rfl
  have d1 := cells_at c3 1 rfl
  have d2 := cells_at c3 2 rfl
  have d3 := cells_at c3 3 rfl
  have hct := contains132 _ (lk (id, l)) x w r2 (hs _)
  have hrm := room133 bg links beam fv F lev lk ch x l w h hx hl (hs _) hk
  have HO : Hid (outB links lk id l x = (decide (x = id) || decide (x ∈ lk (id, l)) || !roomL links lk x l)) := rfl
  generalize outB links lk id l x = ov at HO
  generalize decide (x ∈ lk (id, l)) = cv at hct HO
  generalize roomL links lk x l = rv at hrm HO
  generalize lk (id, l) = lv at *
  have HC := hide hct
  have HR := hide hrm
  clear hct hrm h r2 c3 hs
  by_cases h1 : x = id
  · subst h1
    go_enter Tryz.func138, Tryz.ntmps138
    go_wp2
    go_ret
    exact ⟨by rw [HO.out]; simp, Below.refl _ _⟩
  · have h1d : decide (x = id) = false := by simpa using h1
    cases cv with
    | true =>
      go_enter Tryz.func138, Tryz.ntmps138
      go_wp2_with (go_at_call 139; refine HC.out.mono ?_; rintro e2 w2 ⟨rfl, rfl⟩)
      go_ret
      exact ⟨by rw [HO.out]; simp, Below.refl _ _⟩
    | false =>
      go_enter Tryz.func138, Tryz.ntmps138
      go_wp2_with (first | (go_at_call 139; refine HC.out.mono ?_; rintro e2 w2 ⟨rfl, rfl⟩) | (go_at_call 140; refine HR.out.mono ?_; rintro e3 w3 ⟨rfl, hb3⟩))
      go_ret
      exact ⟨by rw [HO.out]; simp [h1], hb3⟩
end Go.Proofs.YtpkiefjanmfgfaaGreatDoor
