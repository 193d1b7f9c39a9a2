/- Leases: sizes of what is answered; contracts as the laws speak of them. -/
import Derived.Test.YtidalpgkljafdaaLsE
namespace Go.Proofs.Ytidalpgkljafdaa
open Go.RowKit
set_option linter.unusedVariables false
set_option linter.unusedSimpArgs false

theorem good_szL {y : Sh.T shLeases} (h : goodX y) : szD shLeases y ≤ 24 := by
  obtain ⟨sk, nw, cl, ho, un, kn, ⟨⟩⟩ := y
  have h : goodL sk nw cl ho un kn := h
  rw [show szD shLeases (sk, nw, cl, ho, un, kn, ()) = _ from sz_lea sk nw cl ho un kn]
  have h1 := h.2.2.2.1
  have h2 := h.2.2.2.2.1
  omega
theorem leS_good {sk nw : Int} {cl : List (Sh.T .int)} {ho un : Int} {kn : List (Sh.T .int)} {a b n : Int} {y : Sh.T shLeases} (h : leS sk nw cl ho un kn a b n = some y) : goodX y := by
  by_cases hg : goodL sk nw cl ho un kn
  · rw [leS_yes hg] at h; exact leB_good hg h
  · rw [leS_no hg] at h; cases h
theorem sz_leS (sk nw : Int) (cl : List (Sh.T .int)) (ho un : Int) (kn : List (Sh.T .int)) (a b n : Int) : szD shLeases ((leS sk nw cl ho un kn a b n).getD z0L) ≤ 1073741824 := by
  cases e : leS sk nw cl ho un kn a b n with
  | none => exact Nat.zero_le _
  | some y => have := good_szL (leS_good e); show szD shLeases y ≤ _; omega
theorem nwL_good {m sk : Int} {y : Sh.T shLeases} (h : nwL m sk = some y) : goodX y := by
  by_cases c : (1 ≤ m ∧ m ≤ 12) ∧ (0 ≤ sk ∧ sk ≤ 1000)
  · rw [nwL_yes c] at h; cases h; exact good_nw c
  · rw [nwL_no c] at h; cases h
theorem sz_nwL (m sk : Int) : szD shLeases ((nwL m sk).getD z0L) ≤ 1073741824 := by
  cases e : nwL m sk with
  | none => exact Nat.zero_le _
  | some y => have := good_szL (nwL_good e); show szD shLeases y ≤ _; omega
/-- These are the parts of an answer. -/
def partsL (A : Option (Sh.T shLeases)) (SK NW : Int) (CL : List (Sh.T .int)) (HO UN : Int) (KN : List (Sh.T .int)) (z : Bool) : Prop :=
  (A.getD z0L).1 = SK ∧ (A.getD z0L).2.1 = NW ∧ (A.getD z0L).2.2.1 = CL ∧ (A.getD z0L).2.2.2.1 = HO ∧ (A.getD z0L).2.2.2.2.1 = UN ∧ (A.getD z0L).2.2.2.2.2.1 = KN ∧ A.isSome = z
theorem parts_sz {A : Option (Sh.T shLeases)} {SK NW : Int} {CL : List (Sh.T .int)} {HO UN : Int} {KN : List (Sh.T .int)} {z : Bool} (h : partsL A SK NW CL HO UN KN z) (hs : szD shLeases (A.getD z0L) ≤ 1073741824) : szD shLeases (SK, NW, CL, HO, UN, KN, ()) ≤ 1073741824 := by
  obtain ⟨h1, h2, h3, h4, h5, h6, h7⟩ := h
  rw [← h1, ← h2, ← h3, ← h4, ← h5, ← h6]; exact hs
theorem parts_ans {A : Option (Sh.T shLeases)} {SK NW : Int} {CL : List (Sh.T .int)} {HO UN : Int} {KN : List (Sh.T .int)} {z : Bool} {w w' : World} {r : Ending} (h : partsL A SK NW CL HO UN KN z) (hp : LsP A w r w') : AnsP shLeases (SK, NW, CL, HO, UN, KN, ()) z w r w' := by
  obtain ⟨h1, h2, h3, h4, h5, h6, h7⟩ := h
  rw [← h1, ← h2, ← h3, ← h4, ← h5, ← h6, ← h7]; exact hp
theorem stepLease_l (cs : List Value) (sk nw : Int) (cl : List (Sh.T .int)) (ho un : Int) (kn : List (Sh.T .int)) (a b n : Int) (w : World) (SK NW : Int) (CL : List (Sh.T .int)) (HO UN : Int) (KN : List (Sh.T .int)) (z : Bool) (hA : partsL (leS sk nw cl ho un kn a b n) SK NW CL HO UN KN z) (hz : szD shLeases (sk, nw, cl, ho, un, kn, ()) ≤ 1073741824) (h : Lies w shLeases cs (sk, nw, cl, ho, un, kn, ())) :
    Calls Try.prog 16 #[.agg cs.toArray, .agg #[.int .i64 a, .int .i64 b, .int .i64 n]] w (AnsP shLeases (SK, NW, CL, HO, UN, KN, ()) z w) :=
  (stepLease_n cs sk nw cl ho un kn a b n w hz h).mono (fun r w' hp => parts_ans hA hp)
theorem specStepLease_l (cs : List Value) (sk nw : Int) (cl : List (Sh.T .int)) (ho un : Int) (kn : List (Sh.T .int)) (a b n : Int) (w : World) (SK NW : Int) (CL : List (Sh.T .int)) (HO UN : Int) (KN : List (Sh.T .int)) (z : Bool) (hA : partsL (leS sk nw cl ho un kn a b n) SK NW CL HO UN KN z) (hz : szD shLeases (sk, nw, cl, ho, un, kn, ()) ≤ 1073741824) (h : Lies w shLeases cs (sk, nw, cl, ho, un, kn, ())) :
    Calls Try.prog 17 #[.agg cs.toArray, .agg #[.int .i64 a, .int .i64 b, .int .i64 n]] w (AnsP shLeases (SK, NW, CL, HO, UN, KN, ()) z w) :=
  (specStepLease_n cs sk nw cl ho un kn a b n w hz h).mono (fun r w' hp => parts_ans hA hp)
theorem newLeases_l (m sk : Int) (w : World) (SK NW : Int) (CL : List (Sh.T .int)) (HO UN : Int) (KN : List (Sh.T .int)) (z : Bool) (hA : partsL (nwL m sk) SK NW CL HO UN KN z) :
    Calls Try.prog 22 #[.int .i64 m, .int .i64 sk] w (AnsP shLeases (SK, NW, CL, HO, UN, KN, ()) z w) := (newLeases_n m sk w).mono (fun r w' hp => parts_ans hA hp)
theorem specNewLeases_l (m sk : Int) (w : World) (SK NW : Int) (CL : List (Sh.T .int)) (HO UN : Int) (KN : List (Sh.T .int)) (z : Bool) (hA : partsL (nwL m sk) SK NW CL HO UN KN z) :
    Calls Try.prog 21 #[.int .i64 m, .int .i64 sk] w (AnsP shLeases (SK, NW, CL, HO, UN, KN, ()) z w) := (specNewLeases_n m sk w).mono (fun r w' hp => parts_ans hA hp)
end Go.Proofs.Ytidalpgkljafdaa
