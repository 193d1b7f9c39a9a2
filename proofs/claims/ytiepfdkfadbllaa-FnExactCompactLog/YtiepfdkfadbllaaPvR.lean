/- Lists of Record whose keys rise, one put in its place. No Go text is spoken of here. Written by tools/mkPvT.py. -/
import Derived.Test.YtiepfdkfadbllaaCmT
import Derived.Test.YtiepfdkfadbllaaReRecord
import Derived.Test.YtiepfdkfadbllaaTurn
import Derived.Test.YtiepfdkfadbllaaInG
namespace Go.Proofs.Ytiepfdkfadbllaa
open Go.RowKit
set_option linter.unusedVariables false

def vR (L : List RecordV) (i : Nat) : RecordV := L.getD i default
def cellsR (L : List RecordV) : List Value := cellsL (recordF (vR L)) 6 L.length
theorem cellsR_snoc (L : List RecordV) (x : RecordV) : cellsR (L ++ [x]) = cellsR L ++ [.string x.f0, .string x.f1, .int .i64 x.f2, .int .i64 x.f3, .bool x.f4, .int .i64 x.f5] := by
  have h1 : cellsL (recordF (vR (L ++ [x]))) 6 L.length = cellsL (recordF (vR L)) 6 L.length := cellsL_congr (fun i hi j hj => by
    have : vR (L ++ [x]) i = vR L i := by simp [vR, List.getElem?_append_left hi]
    simp only [recordF, this])
  have h2 : vR (L ++ [x]) L.length = x := by simp [vR]
  have h3 : (L ++ [x]).length = L.length + 1 := by simp
  rw [cellsR, h3, cellsL, h1, cellsR]
  congr 1
  simp [recordF, h2, List.range_succ]
theorem cellsR_one (x : RecordV) : cellsR [x] = [.string x.f0, .string x.f1, .int .i64 x.f2, .int .i64 x.f3, .bool x.f4, .int .i64 x.f5] := by
  have := cellsR_snoc [] x
  simpa [cellsR, cellsL] using this
theorem cellsR_append : ∀ (M L : List RecordV), cellsR (L ++ M) = cellsR L ++ cellsR M
  | [], L => by simp [cellsR, cellsL]
  | x :: M, L => by
    have h1 : L ++ x :: M = (L ++ [x]) ++ M := by simp
    have h2 : cellsR (x :: M) = cellsR [x] ++ cellsR M := cellsR_append M [x]
    rw [h1, cellsR_append M (L ++ [x]), cellsR_snoc, h2, cellsR_one, List.append_assoc]
theorem cellsR_cons (x : RecordV) (M : List RecordV) : cellsR (x :: M) = [.string x.f0, .string x.f1, .int .i64 x.f2, .int .i64 x.f3, .bool x.f4, .int .i64 x.f5] ++ cellsR M := by
  have := cellsR_append M [x]
  rw [cellsR_one] at this; exact this
theorem cellsR_len (L : List RecordV) : (cellsR L).length = L.length * 6 := cellsL_len _ _ _
theorem cellsR_one' : ∀ (L : List RecordV), ∀ u ∈ cellsR L, u.oneCell' = true
  | [], u, hu => by simp [cellsR, cellsL] at hu
  | x :: M, u, hu => by
    rw [cellsR_cons, List.mem_append] at hu
    rcases hu with hu | hu
    · simp at hu; rcases hu with rfl | rfl | rfl | rfl | rfl | rfl <;> rfl
    · exact cellsR_one' M u hu
theorem cellsR_put (L : List RecordV) (x : RecordV) {p : Nat} (hp : p ≤ L.length) : putAt (cellsR L) [.string x.f0, .string x.f1, .int .i64 x.f2, .int .i64 x.f3, .bool x.f4, .int .i64 x.f5] (p * 6) = cellsR (L.take p ++ x :: L.drop p) := by
  have h1 : cellsR L = cellsR (L.take p) ++ cellsR (L.drop p) := by rw [← cellsR_append, List.take_append_drop]
  have h2 : (cellsR (L.take p)).length = p * 6 := by rw [cellsR_len, List.length_take, Nat.min_eq_left hp]
  rw [putAt, h1, List.take_left' h2, List.drop_left' h2, cellsR_append, cellsR_cons, List.append_assoc]
theorem vR_at {L : List RecordV} {p : Nat} (hp : p < L.length) : vR L p = L[p] := by simp [vR, hp]
theorem splitAtR {L : List RecordV} {p : Nat} (hp : p < L.length) : L = L.take p ++ vR L p :: L.drop (p + 1) := by
  rw [vR_at hp, List.getElem_cons_drop, List.take_append_drop]
theorem cellsR_set (L : List RecordV) (x : RecordV) {p : Nat} (hp : p < L.length) : (((((((cellsR L).set (p * 6 + 0) (.string x.f0)).set (p * 6 + 1) (.string x.f1)).set (p * 6 + 2) (.int .i64 x.f2)).set (p * 6 + 3) (.int .i64 x.f3)).set (p * 6 + 4) (.bool x.f4)).set (p * 6 + 5) (.int .i64 x.f5)) = cellsR (L.take p ++ x :: L.drop (p + 1)) := by
  have h2 : (cellsR (L.take p)).length = p * 6 := by rw [cellsR_len, List.length_take, Nat.min_eq_left (by omega)]
  have e : ∀ (y : RecordV) (M : List RecordV), cellsR (L.take p ++ y :: M) = cellsR (L.take p) ++ ([.string y.f0, .string y.f1, .int .i64 y.f2, .int .i64 y.f3, .bool y.f4, .int .i64 y.f5] ++ cellsR M) := by
    intro y M
    rw [cellsR_append, cellsR_cons]
  have hs : ∀ (A B : List Value) (q : Nat) (v : Value), A.length = p * 6 → (A ++ B).set (p * 6 + q) v = A ++ B.set q v := fun A B q v hA => by
    rw [List.set_append_right _ _ (by omega), hA, show p * 6 + q - p * 6 = q by omega]
  conv => lhs; rw [splitAtR hp, e]
  rw [e]
  simp only [hs _ _ _ _ h2]
  rfl

/-- How many keys stand ahead of t. -/
def plR : List RecordV → List UInt8 → Nat
  | [], _ => 0
  | c :: L, t => if Op.bytesLess c.f0.toList t = true then plR L t + 1 else 0
theorem plR_eq : ∀ {L : List RecordV} {t : List UInt8} {p : Nat}, p ≤ L.length → (∀ q, q < p → Op.bytesLess (vR L q).f0.toList t = true) → (p < L.length → Op.bytesLess (vR L p).f0.toList t = false) → plR L t = p
  | [], t, p, hp, _, _ => by simp at hp; simp [plR, hp]
  | c :: L, t, 0, _, _, h2 => by
    have : Op.bytesLess c.f0.toList t = false := h2 (by simp)
    simp [plR, this]
  | c :: L, t, p + 1, hp, h1, h2 => by
    have h0 : Op.bytesLess c.f0.toList t = true := h1 0 (by omega)
    rw [plR, if_pos h0, plR_eq (p := p) (by simpa using hp) (fun q hq => h1 (q + 1) (by omega)) (fun hq => h2 (by simpa using hq))]
/-- x in its place: where its key stands already, instead of it. -/
def putR (L : List RecordV) (x : RecordV) : List RecordV :=
  if plR L x.f0.toList < L.length ∧ (vR L (plR L x.f0.toList)).f0.toList = x.f0.toList then L.take (plR L x.f0.toList) ++ x :: L.drop (plR L x.f0.toList + 1) else L.take (plR L x.f0.toList) ++ x :: L.drop (plR L x.f0.toList)
def riseR (L : List RecordV) : Prop := RiseK (fun q => (vR L q).f0) L.length
theorem putR_hit {L : List RecordV} {x : RecordV} {p : Nat} (hr : riseR L) (hpl : Placed (fun q => (vR L q).f0) L.length x.f0 p true) : putR L x = L.take p ++ x :: L.drop (p + 1) := by
  obtain ⟨h1, h2, h3⟩ := hpl
  obtain ⟨g1, g2, _⟩ := h3 hr
  have e : plR L x.f0.toList = p := plR_eq h1 g1 (fun hp => g2 p (Nat.le_refl _) hp)
  rw [putR, e, if_pos (h2 rfl)]
theorem putR_miss {L : List RecordV} {x : RecordV} {p : Nat} (hr : riseR L) (hpl : Placed (fun q => (vR L q).f0) L.length x.f0 p false) : putR L x = L.take p ++ x :: L.drop p := by
  obtain ⟨h1, h2, h3⟩ := hpl
  obtain ⟨g1, g2, g3⟩ := h3 hr
  have e : plR L x.f0.toList = p := plR_eq h1 g1 (fun hp => g2 p (Nat.le_refl _) hp)
  rw [putR, e, if_neg (fun h => g3 rfl p h.1 h.2)]
theorem bytes_eqR {a b : ByteArray} (h : a.toList = b.toList) : a = b := by
  rw [ByteArray.toList_eq, ByteArray.toList_eq] at h
  obtain ⟨⟨x⟩⟩ := a; obtain ⟨⟨y⟩⟩ := b
  simp at h; rw [h]
theorem putR_len (L : List RecordV) (x : RecordV) : (putR L x).length ≤ L.length + 1 := by
  unfold putR
  split
  · simp only [List.length_append, List.length_cons, List.length_take, List.length_drop]; omega
  · simp only [List.length_append, List.length_cons, List.length_take, List.length_drop]; omega
def pwR (L : List RecordV) : Prop := L.Pairwise fun a b => Op.bytesLess a.f0.toList b.f0.toList = true
theorem riseR_pw {L : List RecordV} (h : riseR L) : pwR L := by
  rw [pwR, List.pairwise_iff_getElem]
  intro i j hi hj hij
  have := riseK_lt h hij hj
  simp only [vR_at hi, vR_at hj] at this
  exact this
theorem pw_riseR {L : List RecordV} (h : pwR L) : riseR L := by
  rw [pwR, List.pairwise_iff_getElem] at h
  intro i hi
  have := h i (i + 1) (by omega) hi (by omega)
  show Op.bytesLess (vR L i).f0.toList (vR L (i + 1)).f0.toList = true
  rw [vR_at hi, vR_at (show i < L.length by omega)]; exact this
theorem plR_le : ∀ (L : List RecordV) (t : List UInt8), plR L t ≤ L.length
  | [], _ => Nat.le_refl _
  | c :: L, t => by
    have := plR_le L t
    rw [plR]; split
    · simp; omega
    · simp
theorem plR_less : ∀ (L : List RecordV) (t : List UInt8), ∀ c ∈ L.take (plR L t), Op.bytesLess c.f0.toList t = true
  | [], _, c, hc => by simp [plR] at hc
  | d :: L, t, c, hc => by
    rw [plR] at hc
    split at hc
    · rename_i h
      rw [List.take_succ_cons, List.mem_cons] at hc
      rcases hc with rfl | hc
      · exact h
      · exact plR_less L t c hc
    · simp at hc
theorem plR_not : ∀ (L : List RecordV) (t : List UInt8), plR L t < L.length → Op.bytesLess (vR L (plR L t)).f0.toList t = false
  | [], _, h => by simp at h
  | c :: L, t, h => by
    rw [plR] at h ⊢
    split
    · rename_i e
      rw [if_pos e] at h
      exact plR_not L t (by simpa using h)
    · rename_i e
      simpa [vR] using e
theorem putR_rise {L : List RecordV} (x : RecordV) (hr : riseR L) : riseR (putR L x) := by
  apply pw_riseR
  have hp := riseR_pw hr
  have hs := plR_less L x.f0.toList
  obtain ⟨p, e⟩ : ∃ p, p = plR L x.f0.toList := ⟨_, rfl⟩
  have hle := plR_le L x.f0.toList
  have hnot := plR_not L x.f0.toList
  have hsp := List.take_append_drop p L
  have hpw : pwR (L.take p ++ L.drop p) := by rw [hsp]; exact hp
  rw [pwR, List.pairwise_append] at hpw
  rw [← e] at hs hle hnot
  unfold putR
  rw [← e]
  by_cases hlt : p < L.length
  · have hc := splitAtR hlt
    have hd : L.drop p = vR L p :: L.drop (p + 1) := by
      have h1 : L.take p ++ L.drop p = L.take p ++ vR L p :: L.drop (p + 1) := by rw [hsp]; exact hc
      exact List.append_cancel_left h1
    have hpd := hpw.2.1
    rw [hd, List.pairwise_cons] at hpd
    split
    · rename_i h
      rw [pwR, List.pairwise_append, List.pairwise_cons]
      refine ⟨hpw.1, ⟨fun b hb => ?_, hpd.2⟩, fun a ha b hb => ?_⟩
      · rw [← h.2]; exact hpd.1 b hb
      · rcases List.mem_cons.1 hb with rfl | hb
        · exact hs a ha
        · exact hpw.2.2 a ha b (by rw [hd]; exact List.mem_cons_of_mem _ hb)
    · rename_i h
      have hx : Op.bytesLess x.f0.toList (vR L p).f0.toList = true := less_tri (hnot hlt) (fun q => h ⟨hlt, q⟩)
      rw [pwR, List.pairwise_append, List.pairwise_cons]
      refine ⟨hpw.1, ⟨fun b hb => ?_, hpw.2.1⟩, fun a ha b hb => ?_⟩
      · rw [hd] at hb
        rcases List.mem_cons.1 hb with rfl | hb
        · exact hx
        · exact less_trans hx (hpd.1 b hb)
      · rcases List.mem_cons.1 hb with rfl | hb
        · exact hs a ha
        · exact hpw.2.2 a ha b hb
  · have hpe : p = L.length := by omega
    rw [if_neg (fun h => hlt h.1)]
    have hd : L.drop p = [] := by rw [hpe]; simp
    have ht : L.take p = L := by rw [hpe]; simp
    rw [hd, ht, pwR, List.pairwise_append]
    rw [ht] at hs
    refine ⟨hp, by simp, fun a ha b hb => ?_⟩
    simp at hb; subst hb; exact hs a ha
end Go.Proofs.Ytiepfdkfadbllaa
