import Derived.Test.YtgilnaheedmmfaaDoorPuts3
namespace Go.Proofs.YtgilnaheedmmfaaDoor
open Go.RowKit Go.Maps

theorem puts18_any (W0 w : World) (bp bb bs bm br : Nat) (dim cap : Int) (la : Option Addr) (lc : Nat) (nsv nmv : Value) (nn : Nat) (L : List Ent) (kd id kk be t0 t1 draw : Int) (xs : List Int) (pa : Option Addr) (pc : Nat) (fv : Value) (hfv : ∃ a n c, fv = .slice a n c)
    (h : PairAt W0 w bp bb bs bm br dim cap la lc nsv nmv nn L L) (hv : IntsAt W0 (.slice pa xs.length pc) xs) (hid : I64 id) (hn : (xs.length + 6) * 8 ≤ 140737488355328) (hnn : (nn + 4) * 24 ≤ 140737488355328) :
    Calls Tryd.prog 18 #[.pointer (some ⟨bp, 0, none⟩), .agg #[.int .i64 kd, .int .i64 id, .int .i64 kk, .int .i64 be, .slice pa xs.length pc, .int .i64 t0, .int .i64 t1, .int .u64 draw, fv]] w fun ev w' => ev = .returned (.bool true) ∧ StepOk W0 bp bb bs bm br dim cap nn w' := by
  by_cases hc : ptCode dim xs = 0
  · cases he : findE id L with
    | some e => exact puts18_ok W0 w bp bb bs bm br dim cap la lc nsv nmv nn L kd id kk be t0 t1 draw xs pa pc fv hfv h hv hid hn hnn hc (.inl (by rw [he]; rfl))
    | none =>
      by_cases hf : cap ≤ L.length
      · exact puts18_no W0 w bp bb bs bm br dim cap la lc nsv nmv nn L kd id kk be t0 t1 draw xs pa pc fv hfv h hv hid hn hnn 4 rfl
          (fun W hB hi => put13_full bb bs bm dim cap id t0 t1 draw xs _ _ _ L W hid hB hc hi he hf)
          (fun W hR hi => put36_full br dim cap la lc L id t0 t1 draw xs _ W hR hc hi he hf)
      · exact puts18_ok W0 w bp bb bs bm br dim cap la lc nsv nmv nn L kd id kk be t0 t1 draw xs pa pc fv hfv h hv hid hn hnn hc (.inr hf)
  · exact puts18_no W0 w bp bb bs bm br dim cap la lc nsv nmv nn L kd id kk be t0 t1 draw xs pa pc fv hfv h hv hid hn hnn (ptCode dim xs) (by simpa using hc)
      (fun W hB hi => put13_bad bb bs bm dim cap id t0 t1 draw xs _ L W hB _ rfl hc hi)
      (fun W hR hi => put36_bad br dim cap la lc L id t0 t1 draw xs _ W hR _ rfl (by simpa using hc) hi)
end Go.Proofs.YtgilnaheedmmfaaDoor
