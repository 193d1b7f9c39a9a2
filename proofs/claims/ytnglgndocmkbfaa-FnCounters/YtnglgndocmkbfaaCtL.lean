/- Counters: contracts as the laws want them; sizes, how many marks. -/
import Derived.Test.YtnglgndocmkbfaaCtB
import Derived.Test.YtnglgndocmkbfaaShC
namespace Go.Proofs.Ytnglgndocmkbfaa
open Go.RowKit
set_option linter.unusedVariables false
set_option linter.unusedSimpArgs false

theorem small_ctr : Small shCounter := ⟨⟨by decide, trivial⟩, ⟨by decide, trivial⟩, trivial⟩
theorem cnt_ctr {u d : List (Sh.T .int)} (h : szD shCounter (u, d, ()) ≤ 1073741824) : cntT shCounter (u, d, ()) ≤ 100000000000 := by
  have h1 := cntT_le shCounter (u, d, ())
  have h2 := cnt_le shCounter (u, d, ()) small_ctr
  have h3 : shCounter.c = 2 := rfl
  omega
theorem sz_ctr0 : szD shCounter (([] : List (Sh.T .int)), ([] : List (Sh.T .int)), ()) ≤ 1073741824 := by decide
theorem sz_cbA {u d U D : List (Sh.T .int)} {a b : Int} {z : Bool} (h : cbA u d a b = (U, D, z)) : szD shCounter (U, D, ()) ≤ 1073741824 := by
  by_cases c : cbP u d a b
  · rw [cbA_yes c] at h
    cases h
    exact ct_small c.2.2.2.1.1 c.2.2.2.2.1
  · rw [cbA_no c] at h
    cases h
    exact sz_ctr0
theorem countBy_l (cs : List Value) (u d : List (Sh.T .int)) (a b : Int) (w : World) (U D : List (Sh.T .int)) (z : Bool) (hA : cbA u d a b = (U, D, z)) (hz : szD shCounter (u, d, ()) ≤ 1073741824) (h : Lies w shCounter cs (u, d, ())) :
    Calls Try.prog 21 #[.agg cs.toArray, .int .i64 a, .int .i64 b] w (AnsP shCounter (U, D, ()) z w) := by
  have h1 := countBy_n cs u d a b w hz h
  unfold CnP at h1
  rw [hA] at h1
  exact h1.mono (fun _ _ q => q.1)
theorem specCountBy_l (cs : List Value) (u d : List (Sh.T .int)) (a b : Int) (w : World) (U D : List (Sh.T .int)) (z : Bool) (hA : cbA u d a b = (U, D, z)) (hz : szD shCounter (u, d, ()) ≤ 1073741824) (h : Lies w shCounter cs (u, d, ())) :
    Calls Try.prog 22 #[.agg cs.toArray, .int .i64 a, .int .i64 b] w (AnsP shCounter (U, D, ()) z w) := by
  have h1 := specCountBy_n cs u d a b w hz h
  unfold CnP at h1
  rw [hA] at h1
  exact h1.mono (fun _ _ q => q.1)
end Go.Proofs.Ytnglgndocmkbfaa
