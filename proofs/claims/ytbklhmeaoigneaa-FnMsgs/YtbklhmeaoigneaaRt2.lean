/- What is read of many good messages' bytes is those messages. No Go text is spoken of here. -/
import Derived.Test.YtbklhmeaoigneaaRt
import Derived.Test.YtbklhmeaoigneaaMsgSB
namespace Go.Proofs.Ytbklhmeaoigneaa
open Go.RowKit
set_option linter.unusedVariables false

theorem backV {T : ByteArray} {m : MsgV} {rest : List UInt8} (h : T.data.toList = mbV m ++ rest) (hg : gM m = true) : rGood T = true ∧ rEnd T = (mbV m).length ∧ mvOf T = m := by
  obtain ⟨h1, h2, h3⟩ := back h hg
  exact ⟨h1, by rw [h2]; exact (mb_length _ _ _ _ _ _ _ _ _).symm, h3⟩
theorem sq_shift (s : ByteArray) : ∀ i, sq s (i + 1) = sq (s.extract (rEnd s) s.size) i
  | 0 => rfl
  | i + 1 => by
    show (sq s (i + 1)).extract (rEnd (sq s (i + 1))) (sq s (i + 1)).size = _
    rw [sq_shift s i]; rfl
theorem tail_of {T : ByteArray} {A B : List UInt8} (h : T.data.toList = A ++ B) : (T.extract A.length T.size).data.toList = B := by
  rw [ByteArray.data_extract, Array.toList_extract, h]
  have e : T.size = A.length + B.length := by rw [← ba_len T, h, List.length_append]
  rw [e]
  simp only [List.extract, Nat.add_sub_cancel_left, List.drop_left]
  exact List.take_of_length_le (Nat.le_refl _)
theorem readL : ∀ (L : List MsgV) (f : Nat) (T : ByteArray), (∀ m, m ∈ L → gM m = true) → T.data.toList = (L.map mbV).flatten → L.length ≤ f → rms f T = some L.length ∧ ∀ i m, L[i]? = some m → mvOf (sq T i) = m
  | [], f, T, _, h, _ => by
    have hz : T.size = 0 := by rw [← ba_len T, h]; rfl
    exact ⟨rms_end hz, fun i m hm => by simp at hm⟩
  | m :: L, f, T, hg, h, hf => by
    have h' : T.data.toList = mbV m ++ (L.map mbV).flatten := by rw [h]; simp
    obtain ⟨g1, g2, g3⟩ := backV h' (hg m (by simp))
    have ht := tail_of h'
    rw [← g2] at ht
    obtain ⟨f', rfl⟩ : ∃ f', f = f' + 1 := ⟨f - 1, by simp at hf; omega⟩
    obtain ⟨q1, q2⟩ := readL L f' _ (fun x hx => hg x (by simp [hx])) ht (by simp at hf; omega)
    have hz : ¬ T.size = 0 := by
      rw [← ba_len T, h', List.length_append]
      have := mb_length m.kd m.fr m.dt m.tx m.key m.val m.e m.s m.b
      have e : (mbV m).length = 15 + m.key.size + m.val.size := this
      omega
    refine ⟨?_, fun i x hx => ?_⟩
    · rw [rms, if_neg hz, if_pos g1, q1]; simp
    · cases i with
      | zero => simp at hx; subst hx; exact g3
      | succ i => rw [sq_shift]; exact q2 i x (by simpa using hx)
theorem catM_flat (M : Nat → MsgV) : ∀ n, catM M n = (((List.range n).map M).map mbV).flatten
  | 0 => rfl
  | n + 1 => by rw [catM, catM_flat M n, List.range_succ]; simp
/-- Good messages come back from their bytes. -/
theorem back_all {M : Nat → MsgV} {n : Nat} (h : msgsOk M n = true) : rmOk (msgsS M n) = true ∧ rmN (msgsS M n) = n ∧ ∀ i, i < n → rmM (msgsS M n) i = M i := by
  have h60 : n ≤ 60 ∧ goodsM M n = true := by simpa [msgsOk] using h
  have hT : (msgsS M n).data.toList = (((List.range n).map M).map mbV).flatten := by
    rw [msgsS, if_pos h, ← catM_flat]
  obtain ⟨q1, q2⟩ := readL ((List.range n).map M) 60 (msgsS M n) (fun m hm => by
    simp at hm
    obtain ⟨i, hi, rfl⟩ := hm
    exact (goodsM_iff M n).1 h60.2 i hi) hT (by simpa using h60.1)
  refine ⟨by simp [rmOk, q1], by simp [rmN, q1], fun i hi => ?_⟩
  exact q2 i (M i) (by simp [hi])
end Go.Proofs.Ytbklhmeaoigneaa
