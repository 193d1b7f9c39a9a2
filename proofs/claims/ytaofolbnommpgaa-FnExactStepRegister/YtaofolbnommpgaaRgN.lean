/- Registers: the newest copy, on both sides. -/
import Derived.Test.YtaofolbnommpgaaRgS
import Derived.Test.YtaofolbnommpgaaClCopy
namespace Go.Proofs.Ytaofolbnommpgaa
open Go.RowKit
set_option linter.unusedVariables false

/-- Whether the first copy is newer. -/
def nwB (n i n' i' : Int) : Bool := decide (n' < n) || (n == n' && decide (i' < i))
def nwC (a c : Sh.T shCopy) : Sh.T shCopy := if nwB c.1 c.2.1 a.1 a.2.1 then c else a
def nwL (a : Sh.T shCopy) (l : List (Sh.T shCopy)) : Sh.T shCopy := l.foldl nwC a
theorem nwL_take {a : Sh.T shCopy} {l : List (Sh.T shCopy)} {k : Nat} (h : k < l.length) : nwL a (l.take (k + 1)) = nwC (nwL a (l.take k)) l[k] := by
  unfold nwL; rw [List.take_succ_eq_append_getElem h, List.foldl_append]; rfl

theorem nw_yes {n i n' i' : Int} (h : nwB n' i' n i = true) : n < n' ∨ (n' = n ∧ i < i') := by
  simp only [nwB, Bool.or_eq_true, Bool.and_eq_true, decide_eq_true_eq, beq_iff_eq] at h
  exact h
theorem nw_no {n i n' i' : Int} (h : nwB n' i' n i = false) : ¬ n < n' ∧ (n' = n → ¬ i < i') := by
  simp only [nwB, Bool.or_eq_false_iff, Bool.and_eq_false_iff, decide_eq_false_iff_not, beq_eq_false_iff_ne] at h
  exact ⟨h.1, fun e => h.2.elim (fun q => absurd e q) id⟩
set_option maxHeartbeats 1000000 in
theorem newerOf_yes (n i : Int) (t : ByteArray) (n' i' : Int) (t' : ByteArray) (w : World) (h : nwB n' i' n i = true) :
    Calls Try.prog 71 #[.agg #[.int .i64 n, .int .i64 i, .string t], .agg #[.int .i64 n', .int .i64 i', .string t']] w fun r w' => r = .returned (.agg #[.int .i64 n', .int .i64 i', .string t']) ∧ Below w.heap.size w w' := by
  have h := nw_yes h
  by_cases h1 : n < n'
  · clear h
    go_enter Try.func71, Try.ntmps71
    go_wp2
    exact bodyPost_ret (v := .agg #[.int .i64 n', .int .i64 i', .string t']) (by simp [results, Try.results71, go_sem]) rfl ⟨rfl, (by repeat (first | refine Below.setCell ?_ (by (try simp) <;> omega) _ | refine Below.alloc ?_ (by (try simp) <;> omega) _ | refine Below.drew ?_ | assumption | exact Below.refl _ _ | refine Below.trans ?_ (Below.mono (by assumption) (by (try simp) <;> omega))))⟩
  · have h2 : n' = n ∧ i < i' := h.elim (fun q => absurd q h1) id
    have h3 : (n' == n) = true := by simpa using h2.1
    have h4 := h2.2
    clear h h2
    go_enter Try.func71, Try.ntmps71
    go_wp2
    exact bodyPost_ret (v := .agg #[.int .i64 n', .int .i64 i', .string t']) (by simp [results, Try.results71, go_sem]) rfl ⟨rfl, (by repeat (first | refine Below.setCell ?_ (by (try simp) <;> omega) _ | refine Below.alloc ?_ (by (try simp) <;> omega) _ | refine Below.drew ?_ | assumption | exact Below.refl _ _ | refine Below.trans ?_ (Below.mono (by assumption) (by (try simp) <;> omega))))⟩
set_option maxHeartbeats 1000000 in
theorem newerOf_no (n i : Int) (t : ByteArray) (n' i' : Int) (t' : ByteArray) (w : World) (h : nwB n' i' n i = false) :
    Calls Try.prog 71 #[.agg #[.int .i64 n, .int .i64 i, .string t], .agg #[.int .i64 n', .int .i64 i', .string t']] w fun r w' => r = .returned (.agg #[.int .i64 n, .int .i64 i, .string t]) ∧ Below w.heap.size w w' := by
  have h := nw_no h
  have h1 := h.1
  by_cases h2 : n' = n
  · have h3 : (n' == n) = true := by simpa using h2
    have h4 := h.2 h2
    clear h h2
    go_enter Try.func71, Try.ntmps71
    go_wp2
    exact bodyPost_ret (v := .agg #[.int .i64 n, .int .i64 i, .string t]) (by simp [results, Try.results71, go_sem]) rfl ⟨rfl, (by repeat (first | refine Below.setCell ?_ (by (try simp) <;> omega) _ | refine Below.alloc ?_ (by (try simp) <;> omega) _ | refine Below.drew ?_ | assumption | exact Below.refl _ _ | refine Below.trans ?_ (Below.mono (by assumption) (by (try simp) <;> omega))))⟩
  · have h3 : (n' == n) = false := by simpa using h2
    clear h h2
    go_enter Try.func71, Try.ntmps71
    go_wp2
    exact bodyPost_ret (v := .agg #[.int .i64 n, .int .i64 i, .string t]) (by simp [results, Try.results71, go_sem]) rfl ⟨rfl, (by repeat (first | refine Below.setCell ?_ (by (try simp) <;> omega) _ | refine Below.alloc ?_ (by (try simp) <;> omega) _ | refine Below.drew ?_ | assumption | exact Below.refl _ _ | refine Below.trans ?_ (Below.mono (by assumption) (by (try simp) <;> omega))))⟩

set_option maxHeartbeats 1000000 in
theorem l9Newer_n (n i : Int) (t : ByteArray) (n' i' : Int) (t' : ByteArray) (w : World) :
    Calls Try.prog 86 #[.agg #[.int .i64 n, .int .i64 i, .string t], .agg #[.int .i64 n', .int .i64 i', .string t']] w fun r w' => r = .returned (.bool (nwB n i n' i')) ∧ Below w.heap.size w w' := by
  by_cases h1 : n' < n
  · have HN : Hid (nwB n i n' i' = true) := Hid.intro (by simp [nwB, h1])
    go_enter Try.func86, Try.ntmps86
    go_wp2
    go_ret
    exact ⟨ret_bool HN.out.symm, (by repeat (first | refine Below.setCell ?_ (by (try simp) <;> omega) _ | refine Below.alloc ?_ (by (try simp) <;> omega) _ | refine Below.drew ?_ | assumption | exact Below.refl _ _ | refine Below.trans ?_ (Below.mono (by assumption) (by (try simp) <;> omega))))⟩
  by_cases h2 : n = n'
  · have h2' : (n == n') = true := by simpa using h2
    by_cases h3 : i' < i
    · have HN : Hid (nwB n i n' i' = true) := Hid.intro (by simp [nwB, h2, h3])
      clear h2
      go_enter Try.func86, Try.ntmps86
      go_wp2
      go_ret
      exact ⟨ret_bool HN.out.symm, (by repeat (first | refine Below.setCell ?_ (by (try simp) <;> omega) _ | refine Below.alloc ?_ (by (try simp) <;> omega) _ | refine Below.drew ?_ | assumption | exact Below.refl _ _ | refine Below.trans ?_ (Below.mono (by assumption) (by (try simp) <;> omega))))⟩
    · have HN : Hid (nwB n i n' i' = false) := Hid.intro (by simp [nwB, h2, h3])
      clear h2
      go_enter Try.func86, Try.ntmps86
      go_wp2
      go_ret
      exact ⟨ret_bool HN.out.symm, (by repeat (first | refine Below.setCell ?_ (by (try simp) <;> omega) _ | refine Below.alloc ?_ (by (try simp) <;> omega) _ | refine Below.drew ?_ | assumption | exact Below.refl _ _ | refine Below.trans ?_ (Below.mono (by assumption) (by (try simp) <;> omega))))⟩
  · have h2' : (n == n') = false := by simpa using h2
    have HN : Hid (nwB n i n' i' = false) := Hid.intro (by simp [nwB, h1, h2'])
    clear h2
    go_enter Try.func86, Try.ntmps86
    go_wp2
    go_ret
    exact ⟨ret_bool HN.out.symm, (by repeat (first | refine Below.setCell ?_ (by (try simp) <;> omega) _ | refine Below.alloc ?_ (by (try simp) <;> omega) _ | refine Below.drew ?_ | assumption | exact Below.refl _ _ | refine Below.trans ?_ (Below.mono (by assumption) (by (try simp) <;> omega))))⟩

/-- What NewestOf answers. -/
noncomputable def nwA (ck : Int) (cp : List (Sh.T shCopy)) (os : List (Sh.T shRegOp)) : Sh.T shCopy := if tf (goodR ck cp os) = true then nwL (cp.headD (0, 0, ⟨#[]⟩, ())) cp else (0, 0, ⟨#[]⟩, ())
def cpV (c : Sh.T shCopy) : List Value := [.int .i64 c.1, .int .i64 c.2.1, .string c.2.2.1]
theorem cpV_lies {w : World} (c : Sh.T shCopy) : Lies w shCopy (cpV c) c := mk_Copy (x0 := c.1) (x1 := c.2.1) (x2 := c.2.2.1)
def NwP (c : Sh.T shCopy) (ok : Bool) (w : World) (r : Ending) (w' : World) : Prop := r = .returned (.tuple #[.agg #[.int .i64 c.1, .int .i64 c.2.1, .string c.2.2.1], .bool ok]) ∧ Below w.heap.size w w'
theorem nw_size {a : Sh.T shCopy} {l : List (Sh.T shCopy)} {m : Nat} (ha : a.2.2.1.size ≤ m) (hl : ∀ c ∈ l, c.2.2.1.size ≤ m) : (nwL a l).2.2.1.size ≤ m := by
  induction l generalizing a with
  | nil => exact ha
  | cons c t ih =>
    show (nwL (nwC a c) t).2.2.1.size ≤ m
    refine ih ?_ (fun c hc => hl c (List.mem_cons_of_mem _ hc))
    unfold nwC
    split
    · exact hl c List.mem_cons_self
    · exact ha
end Go.Proofs.Ytaofolbnommpgaa
