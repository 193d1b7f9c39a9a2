/- Rows of structs of k cells: copy, and one element put between others. No Go text is spoken of here. -/
import Derived.Test.YtkpobihpcnoemaaDoorGaK
import Derived.Shelf.Spec.SlicesInsertGrow
import Derived.Laws.CopyRow
import Derived.Deep.AppendLies
namespace Go.Proofs.YtkpobihpcnoemaaDoor
open Go.RowKit
set_option linter.unusedVariables false

theorem run_copyK {P : Program} (w : World) (dT sT ty elem : TypeId) (k g o dLen dCap : Nat) (a : Addr) (sLen sCap : Nat) (cur : Array Value) (t : TypeId) (cs : List Value)
    (hu : P.underlying dT = some (.slice elem)) (hs : (P.info? elem).map (·.size) = some k)
    (hg : w.heap[g]? = some (.cells cur t (0, 0))) (hn : cs.length = Nat.min sLen dLen * k)
    (hsrc : ∀ j v, cs[j]? = some v → w.cell? (a.add j) = some v) (hfit : o + cs.length ≤ cur.size) (h1 : ∀ v ∈ cs, v.oneCell' = true) :
    (Builtin.copy_ #[dT, sT] ty #[.slice (some ⟨g, o, none⟩) dLen dCap, .slice (some a) sLen sCap]).run P w =
      .ok (goInt (Nat.min sLen dLen)) (w.setRow g (cur.toList.take o ++ cs ++ cur.toList.drop (o + cs.length)).toArray) := by
  have hl := run_loadCells_list (P := P) w a cs hsrc
  have hst := run_storeCells_at P g o t cs 0 cur w hg (by simpa using hfit) h1
  cases hq : P.info? elem with
  | none => simp [hq] at hs
  | some i =>
    have hi : i.size = k := by simpa [hq] using hs
    simp [Builtin.copy_, run_underlying hu, Builtin.lenOf, Builtin.firstCells, sizeOf, typeInfo, hq, hi, ← hn, hl, hst]

theorem add0 (g o j : Nat) : (⟨g, o, none⟩ : Addr).add j = ⟨g, o + j, none⟩ := by unfold Addr.add; split <;> simp_all
theorem cell_row {w : World} {g j : Nat} {cur : Array Value} {t : TypeId} {fr : Nat × Nat} (h : w.heap[g]? = some (.cells cur t fr)) : w.cell? ⟨g, j, none⟩ = cur[j]? := by
  simp [World.cell?, h]
theorem setRow_os (w : World) (g : Nat) (c : Array Value) : (w.setRow g c).os = w.os ∧ (w.setRow g c).tape = w.tape ∧ (w.setRow g c).output = w.output ∧ (w.setRow g c).heap.size = w.heap.size := by
  unfold World.setRow
  simp
theorem setRow_other (w : World) (g : Nat) (c : Array Value) (k : Nat) (h : k ≠ g) : (w.setRow g c).heap[k]? = w.heap[k]? := by
  unfold World.setRow
  simp [Array.getElem?_modify, Ne.symm h]
/-- xs with vs put at a place. -/
def putAt (xs vs : List Value) (o : Nat) : List Value := xs.take o ++ vs ++ xs.drop o
/-- What the two copies of an insertion in place leave. -/
def shift1 (cur : List Value) (k n i : Nat) : List Value := cur.take ((i + 1) * k) ++ (cur.drop (i * k)).take ((n - i) * k) ++ cur.drop ((i + 1) * k + (n - i) * k)
def shift2 (cur : List Value) (k i : Nat) (vs : List Value) : List Value := cur.take (i * k) ++ vs ++ cur.drop (i * k + vs.length)
theorem shift_len {cur vs : List Value} {k n i c : Nat} (hi : i < n) (hc : n + 1 ≤ c) (hl : cur.length = c * k) : (shift1 cur k n i).length = c * k := by
  have a1 : (i + 1) * k + (n - i) * k = (n + 1) * k := by rw [← Nat.add_mul]; congr 1; omega
  have a2 : (n + 1) * k ≤ c * k := Nat.mul_le_mul_right k hc
  have a3 : i * k + (n - i) * k = n * k := by rw [← Nat.add_mul]; congr 1; omega
  have a4 : (i + 1) * k ≤ (n + 1) * k := Nat.mul_le_mul_right k (by omega)
  have a5 : n * k ≤ c * k := Nat.mul_le_mul_right k (by omega)
  simp only [shift1, List.length_append, List.length_take, List.length_drop, hl, Nat.min_def]
  split <;> split <;> omega
theorem shift_is {cur vs : List Value} {k n i c : Nat} (hi : i < n) (hc : n + 1 ≤ c) (hl : cur.length = c * k) (hv : vs.length = k) :
    (shift2 (shift1 cur k n i) k i vs).take ((n + 1) * k) = putAt (cur.take (n * k)) vs (i * k) := by
  have a1 : (i + 1) * k + (n - i) * k = (n + 1) * k := by rw [← Nat.add_mul]; congr 1; omega
  have a2 : (n + 1) * k ≤ c * k := Nat.mul_le_mul_right k hc
  have a3 : i * k + (n - i) * k = n * k := by rw [← Nat.add_mul]; congr 1; omega
  have a4 : (i + 1) * k = i * k + k := by rw [Nat.add_mul, Nat.one_mul]
  have a5 : (n + 1) * k = n * k + k := by rw [Nat.add_mul, Nat.one_mul]
  have sl := shift_len (vs := vs) hi hc hl
  generalize hA : i * k = A at *
  generalize hN : n * k = M at *
  generalize hD : (n - i) * k = D at *
  generalize hC : c * k = Z at *
  apply List.ext_getElem?
  intro j
  simp only [shift2, putAt, hv, hA]
  have hs1 : ∀ q, (shift1 cur k n i)[q]? = if q < A + k then cur[q]? else if q < M + k then cur[q - k]? else cur[q]? := by
    intro q
    simp only [shift1, a4, hA, hD]
    rw [List.getElem?_append, List.getElem?_append]
    simp only [List.length_append, List.length_take, List.length_drop, hl, List.getElem?_take, List.getElem?_drop]
    by_cases h1 : q < A + k
    · rw [if_pos (by omega), if_pos (by omega), if_pos (by omega), if_pos h1]
    · by_cases h2 : q < M + k
      · rw [if_pos (by omega), if_neg (by omega), if_neg h1, if_pos h2, if_pos (by omega)]
        congr 1; omega
      · rw [if_neg (by omega), if_neg h1, if_neg h2]
        congr 1; omega
  rw [List.getElem?_take]
  rw [List.getElem?_append, List.getElem?_append, List.getElem?_append, List.getElem?_append]
  simp only [List.length_append, List.length_take, sl, hl, hv, List.getElem?_take, List.getElem?_drop, hs1, a5]
  by_cases h1 : j < A
  · rw [if_pos (by omega), if_pos (by omega), if_pos (by omega), if_pos h1, if_pos (by omega), if_pos (by omega), if_pos (by omega), if_pos h1, if_pos (by omega)]
  · by_cases h2 : j < A + k
    · rw [if_pos (by omega), if_pos (by omega), if_neg (by omega), if_pos (by omega), if_neg (by omega)]
      congr 1; omega
    · by_cases h3 : j < M + k
      · rw [if_pos h3, if_neg (by omega), if_neg (by omega), if_pos (by omega), if_neg (by omega), if_pos (by omega)]
        congr 1; omega
      · rw [if_neg h3, if_neg (by omega), if_neg (by omega)]
/-- What the insertion into a new row leaves. -/
theorem grow_is {xs vs Z : List Value} {k n i : Nat} (hi : i < n) (hl : xs.length = n * k) (hv : vs.length = k) {cur c1 : List Value} (hc : cur = xs.take (i * k) ++ Z) (hz : (n + 1 - i) * k ≤ Z.length)
    (h1 : c1 = cur.take (i * k) ++ vs ++ cur.drop (i * k + k)) :
    (c1.take ((i + 1) * k) ++ xs.drop (i * k) ++ c1.drop ((i + 1) * k + (n - i) * k)).take ((n + 1) * k) = putAt xs vs (i * k) := by
  have a1 : (i + 1) * k + (n - i) * k = (n + 1) * k := by rw [← Nat.add_mul]; congr 1; omega
  have a2 : i * k ≤ n * k := Nat.mul_le_mul_right k (by omega)
  have a3 : i * k + (n - i) * k = n * k := by rw [← Nat.add_mul]; congr 1; omega
  have a4 : (i + 1) * k = i * k + k := by rw [Nat.add_mul, Nat.one_mul]
  have a6 : i * k + (n + 1 - i) * k = (n + 1) * k := by rw [← Nat.add_mul]; congr 1; omega
  have a5 : (n + 1) * k = n * k + k := by rw [Nat.add_mul, Nat.one_mul]
  have lx : (xs.take (i * k)).length = i * k := by rw [List.length_take, hl]; omega
  have e0 : cur.take (i * k) = xs.take (i * k) := by rw [hc]; exact List.take_left' lx
  have e1 : c1.take ((i + 1) * k) = xs.take (i * k) ++ vs := by
    rw [h1, e0, a4]
    exact List.take_left' (by rw [List.length_append, lx, hv])
  rw [e1, putAt]
  exact List.take_left' (by rw [List.length_append, List.length_append, lx, hv, List.length_drop, hl]; omega)
theorem putAt_end {xs vs : List Value} {o : Nat} (h : xs.length = o) : putAt xs vs o = xs ++ vs := by subst h; simp [putAt]
end Go.Proofs.YtkpobihpcnoemaaDoor
