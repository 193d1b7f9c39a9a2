/- What is read of a good message's bytes is that message. No Go text is spoken of here. -/
import Derived.Test.YtbklhmeaoigneaaDrT
import Derived.Test.YtbklhmeaoigneaaRdS
import Derived.Test.YtbklhmeaoigneaaMsgB
namespace Go.Proofs.Ytbklhmeaoigneaa
open Go.RowKit
set_option linter.unusedVariables false

theorem by8_nat (x : Int) : (by8 x).toNat = (x % 256).toNat := by have := by8_mod x; omega
theorem rdStep_nat (a : Nat) (c : UInt8) (ha : a < 72057594037927936) : rdStep (a : Int) c = ((a * 256 + c.toNat : Nat) : Int) := by
  have hc := c.toNat_lt
  unfold rdStep
  rw [IntKind.wrap_u64, show (a : Int) * 256 % 18446744073709551616 = ((a * 256 : Nat) : Int) by omega]
  have h := bits_or_u64_nat (a * 256) c.toNat (by omega) (by omega)
  rw [show a * 256 ||| c.toNat = a * 256 + c.toNat from or_add 8 a c.toNat (by omega)] at h
  exact h
theorem mb_form (kd fr dt tx : Int) (key val : ByteArray) (e s : Int) (b : Bool) : mb kd fr dt tx key val e s b =
    [by8 kd, by8 fr, by8 dt, by8 (tx / 256), by8 tx, by8 (packW e s b / 72057594037927936), by8 (packW e s b / 281474976710656), by8 (packW e s b / 1099511627776), by8 (packW e s b / 4294967296), by8 (packW e s b / 16777216), by8 (packW e s b / 65536), by8 (packW e s b / 256), by8 (packW e s b), by8 key.size] ++ (key.data.toList ++ (by8 val.size :: val.data.toList)) := by
  simp [mb, wordFrom]
theorem ba_len (K : ByteArray) : K.data.toList.length = K.size := Array.length_toList
theorem ext_part (T : ByteArray) (A B C : List UInt8) (K : ByteArray) (h : T.data.toList = A ++ (B ++ C)) (hB : B = K.data.toList) (a b : Nat) (ha : a = A.length) (hb : b = a + K.size) : T.extract a b = K := by
  subst ha hb
  apply ByteArray.ext
  apply Array.toList_inj.1
  rw [ByteArray.data_extract, Array.toList_extract, h, hB]
  rw [← ba_len K]
  simp only [List.extract, Nat.add_sub_cancel_left, List.drop_left, List.take_left]
theorem rdN_word (T : ByteArray) (o : Nat) (p : Int) (h0 : 0 ≤ p) (h1 : p < 35184372088832)
    (g0 : T.data.toList.getD (o + 0) 0 = by8 (p / 72057594037927936)) (g1 : T.data.toList.getD (o + 1) 0 = by8 (p / 281474976710656)) (g2 : T.data.toList.getD (o + 2) 0 = by8 (p / 1099511627776)) (g3 : T.data.toList.getD (o + 3) 0 = by8 (p / 4294967296))
    (g4 : T.data.toList.getD (o + 4) 0 = by8 (p / 16777216)) (g5 : T.data.toList.getD (o + 5) 0 = by8 (p / 65536)) (g6 : T.data.toList.getD (o + 6) 0 = by8 (p / 256)) (g7 : T.data.toList.getD (o + 7) 0 = by8 p) : rdN T o 8 = p := by
  have step : ∀ (k a c : Nat) (x : Int), rdN T o k = (a : Int) → a < 72057594037927936 → T.data.toList.getD (o + k) 0 = by8 x → a * 256 + (x % 256).toNat = c → rdN T o (k + 1) = (c : Int) := by
    intro k a c x ha hl hx hc
    rw [rdN, ha, hx, rdStep_nat a _ hl, by8_nat, hc]
  have r0 : rdN T o 0 = ((0 : Nat) : Int) := rfl
  have r1 := step 0 0 0 _ r0 (by omega) g0 (by omega)
  have r2 := step 1 0 0 _ r1 (by omega) g1 (by omega)
  have r3 := step 2 0 (p / 1099511627776).toNat _ r2 (by omega) g2 (by omega)
  have r4 := step 3 _ (p / 4294967296).toNat _ r3 (by omega) g3 (by omega)
  have r5 := step 4 _ (p / 16777216).toNat _ r4 (by omega) g4 (by omega)
  have r6 := step 5 _ (p / 65536).toNat _ r5 (by omega) g5 (by omega)
  have r7 := step 6 _ (p / 256).toNat _ r6 (by omega) g6 (by omega)
  have r8 := step 7 _ p.toNat _ r7 (by omega) g7 (by omega)
  rw [r8]; omega
set_option maxHeartbeats 1000000 in
theorem back {T : ByteArray} {kd fr dt tx : Int} {key val : ByteArray} {e s : Int} {b : Bool} {rest : List UInt8} (h : T.data.toList = mb kd fr dt tx key val e s b ++ rest) (hg : goodM kd fr dt tx key val e s = true) :
    rGood T = true ∧ rEnd T = 15 + key.size + val.size ∧ mvOf T = ⟨kd, fr, dt, tx, key, val, e, s, b⟩ := by
  obtain ⟨hk, hv, ht, tx0, tx1, hkd, hfr, hdt⟩ := goodM_parts hg
  obtain ⟨p0, p1⟩ : 0 ≤ packW e s b ∧ packW e s b < 35184372088832 := by
    rw [pack_val e s b ht]
    obtain ⟨⟨e0, e1⟩, s0, s1⟩ := (good_iff e s).1 ht
    split <;> omega
  have hu : packW e s b / 33554432 = e ∧ unS (packW e s b) = s ∧ unL (packW e s b) = b := by
    rw [pack_val e s b ht]
    obtain ⟨⟨e0, e1⟩, s0, s1⟩ := (good_iff e s).1 ht
    unfold unS unL
    cases b
    · refine ⟨by simp; omega, by simp; omega, ?_⟩
      rw [beq_eq_false_iff_ne]; simp; omega
    · refine ⟨by simp; omega, by simp; omega, ?_⟩
      rw [beq_iff_eq]; simp; omega
  rw [mb_form] at h
  generalize packW e s b = p at *
  have hsz : T.size = 15 + key.size + val.size + rest.length := by
    have := congrArg List.length h
    simp only [List.length_append, List.length_cons, List.length_nil, ba_len] at this
    omega
  have hw : rdN T 5 8 = p := rdN_word T 5 p p0 p1 (by rw [h]; rfl) (by rw [h]; rfl) (by rw [h]; rfl) (by rw [h]; rfl) (by rw [h]; rfl) (by rw [h]; rfl) (by rw [h]; rfl) (by rw [h]; rfl)
  have b0 : (b8 T 0 : Int) = kd := by unfold b8; rw [h]; show ((by8 kd).toNat : Int) = kd; rw [by8_nat]; omega
  have b1 : (b8 T 1 : Int) = fr := by unfold b8; rw [h]; show ((by8 fr).toNat : Int) = fr; rw [by8_nat]; omega
  have b2 : (b8 T 2 : Int) = dt := by unfold b8; rw [h]; show ((by8 dt).toNat : Int) = dt; rw [by8_nat]; omega
  have b3 : rdN T 3 2 = tx := by
    rw [rdN_two]
    have q3 : b8 T 3 = (tx / 256 % 256).toNat := by unfold b8; rw [h]; show (by8 (tx / 256)).toNat = _; rw [by8_nat]
    have q4 : b8 T (3 + 1) = (tx % 256).toNat := by unfold b8; rw [h]; show (by8 tx).toNat = _; rw [by8_nat]
    rw [q3, q4]; omega
  have bk : rK T = 14 + key.size := by
    unfold rK b8; rw [h]; show 14 + (by8 key.size).toNat = _; rw [by8_nat]; omega
  have bv : rEnd T = 15 + key.size + val.size := by
    have q : b8 T (14 + key.size) = val.size := by
      unfold b8
      rw [h]
      have e1 : (key.data.toList).length = key.size := ba_len key
      rw [List.getD_eq_getElem?_getD, List.append_assoc, List.getElem?_append_right (by simp)]
      simp only [List.length_cons, List.length_nil]
      rw [show 14 + key.size - (0 + 1 + 1 + 1 + 1 + 1 + 1 + 1 + 1 + 1 + 1 + 1 + 1 + 1 + 1) = key.data.toList.length by rw [e1]; omega]
      rw [List.append_assoc, List.getElem?_append_right (Nat.le_refl _)]
      simp only [Nat.sub_self, List.cons_append, List.getElem?_cons_zero, Option.getD_some]
      rw [by8_nat]; omega
    unfold rEnd
    rw [bk, q]; omega
  have hK : rKey T = key := by
    unfold rKey
    rw [List.append_assoc] at h
    rw [List.append_assoc] at h
    exact ext_part T _ key.data.toList _ key h rfl _ _ (by simp) (by rw [bk])
  have hV : rVal T = val := by
    unfold rVal
    refine ext_part T (([by8 kd, by8 fr, by8 dt, by8 (tx / 256), by8 tx, by8 (p / 72057594037927936), by8 (p / 281474976710656), by8 (p / 1099511627776), by8 (p / 4294967296), by8 (p / 16777216), by8 (p / 65536), by8 (p / 256), by8 p, by8 key.size] ++ key.data.toList) ++ [by8 val.size]) val.data.toList rest val (by rw [h]; simp) rfl _ _ (by rw [bk]; simp only [List.length_append, List.length_cons, List.length_nil, ba_len] <;> omega) (by rw [bv, bk] <;> omega)
  have hG : rGood T = true := by
    refine yesG (by omega) (by rw [hw]; exact p1) (by rw [bk]; omega) (by rw [bv]; omega) ?_
    rw [b0, b1, b2, b3, hK, hV, rE, hw, hu.1, hu.2.1]
    exact hg
  refine ⟨hG, bv, ?_⟩
  unfold mvOf mI mS
  rw [hG]
  simp only [if_true, Bool.true_and]
  rw [b0, b1, b2, b3, hK, hV, rE, hw, hu.1, hu.2.1, hu.2.2]
end Go.Proofs.Ytbklhmeaoigneaa
