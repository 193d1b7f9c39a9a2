/- Latest ones: contracts as the laws want them. -/
import Derived.Test.YtnglgndocmkbfaaLtM
import Derived.Test.YtnglgndocmkbfaaNtS
import Derived.Test.YtnglgndocmkbfaaShB
namespace Go.Proofs.Ytnglgndocmkbfaa
open Go.RowKit
set_option linter.unusedVariables false
set_option linter.unusedSimpArgs false

theorem sz_lat {v : ByteArray} {t a : Int} (h : szD shLatest (v, t, a, ()) ≤ 1073741824) : v.size ≤ 1073741824 := by
  have e : szD shLatest (v, t, a, ()) = v.size + (0 + (0 + 0)) := rfl
  omega
theorem sz_mlA {v : ByteArray} {t a : Int} {v' : ByteArray} {t' a' : Int} {V : ByteArray} {T A : Int} {z : Bool} (h : mlA v t a v' t' a' = ((V, T, A), z)) (h1 : szD shLatest (v, t, a, ()) ≤ 1073741824) (h2 : szD shLatest (v', t', a', ()) ≤ 1073741824) : szD shLatest (V, T, A, ()) ≤ 1073741824 := by
  cases c : (ltB v t a && ltB v' t' a')
  · rw [mlA_no c] at h
    cases h; decide
  · by_cases d : lesL v t a v' t' a'
    · rw [mlA_b c d] at h; cases h; exact h2
    · rw [mlA_a c d] at h; cases h; exact h1
theorem MlP.ans {A : (ByteArray × Int × Int) × Bool} {w w' : World} {r : Ending} (h : MlP A w r w') : AnsP shLatest (A.1.1, A.1.2.1, A.1.2.2, ()) A.2 w r w' := ⟨_, h.1, mkown_Latest, h.2⟩
theorem mergeLatest_l (v : ByteArray) (t a : Int) (v' : ByteArray) (t' a' : Int) (w : World) (V : ByteArray) (T A : Int) (z : Bool) (hA : mlA v t a v' t' a' = ((V, T, A), z)) (h1 : szD shLatest (v, t, a, ()) ≤ 1073741824) (h2 : szD shLatest (v', t', a', ()) ≤ 1073741824) :
    Calls Try.prog 26 #[.agg #[.string v, .int .i64 t, .int .i64 a], .agg #[.string v', .int .i64 t', .int .i64 a']] w (AnsP shLatest (V, T, A, ()) z w) := by
  refine (mergeLatest_n v t a v' t' a' w (sz_lat h1) (sz_lat h2)).mono (fun r w' q => ?_)
  rw [hA] at q; exact q.ans
theorem specMergeLatest_l (v : ByteArray) (t a : Int) (v' : ByteArray) (t' a' : Int) (w : World) (V : ByteArray) (T A : Int) (z : Bool) (hA : mlA v t a v' t' a' = ((V, T, A), z)) (h1 : szD shLatest (v, t, a, ()) ≤ 1073741824) (h2 : szD shLatest (v', t', a', ()) ≤ 1073741824) :
    Calls Try.prog 27 #[.agg #[.string v, .int .i64 t, .int .i64 a], .agg #[.string v', .int .i64 t', .int .i64 a']] w (AnsP shLatest (V, T, A, ()) z w) := by
  refine (specMergeLatest_n v t a v' t' a' w (sz_lat h1) (sz_lat h2)).mono (fun r w' q => ?_)
  rw [hA] at q; exact q.ans
end Go.Proofs.Ytnglgndocmkbfaa
