/- Lists of Entry whose keys rise, one put in its place. No Go text is spoken of here. Written by tools/mkPvT.py. -/
import Derived.Test.YtiepfdkfadbllaaCmT
import Derived.Test.YtiepfdkfadbllaaRwEntry
import Derived.Test.YtiepfdkfadbllaaTurn
import Derived.Test.YtiepfdkfadbllaaInG
namespace Go.Proofs.Ytiepfdkfadbllaa
open Go.RowKit
set_option linter.unusedVariables false

def vE (L : List EntryV) (i : Nat) : EntryV := L.getD i default
def cellsE (L : List EntryV) : List Value := cellsL (entryF (vE L)) 6 L.length
theorem cellsE_snoc (L : List EntryV) (x : EntryV) : cellsE (L ++ [x]) = cellsE L ++ [.int .i64 x.f0, .string x.f1, .string x.f2, .int .i64 x.f3, .int .i64 x.f4, .bool x.f5] := by
  have h1 : cellsL (entryF (vE (L ++ [x]))) 6 L.length = cellsL (entryF (vE L)) 6 L.length := cellsL_congr (fun i hi j hj => by
    have : vE (L ++ [x]) i = vE L i := by simp [vE, List.getElem?_append_left hi]
    simp only [entryF, this])
  have h2 : vE (L ++ [x]) L.length = x := by simp [vE]
  have h3 : (L ++ [x]).length = L.length + 1 := by simp
  rw [cellsE, h3, cellsL, h1, cellsE]
  congr 1
  simp [entryF, h2, List.range_succ]
theorem cellsE_one (x : EntryV) : cellsE [x] = [.int .i64 x.f0, .string x.f1, .string x.f2, .int .i64 x.f3, .int .i64 x.f4, .bool x.f5] := by
  have := cellsE_snoc [] x
  simpa [cellsE, cellsL] using this
theorem cellsE_append : ∀ (M L : List EntryV), cellsE (L ++ M) = cellsE L ++ cellsE M
  | [], L => by simp [cellsE, cellsL]
  | x :: M, L => by
    have h1 : L ++ x :: M = (L ++ [x]) ++ M := by simp
    have h2 : cellsE (x :: M) = cellsE [x] ++ cellsE M := cellsE_append M [x]
    rw [h1, cellsE_append M (L ++ [x]), cellsE_snoc, h2, cellsE_one, List.append_assoc]
theorem cellsE_cons (x : EntryV) (M : List EntryV) : cellsE (x :: M) = [.int .i64 x.f0, .string x.f1, .string x.f2, .int .i64 x.f3, .int .i64 x.f4, .bool x.f5] ++ cellsE M := by
  have := cellsE_append M [x]
  rw [cellsE_one] at this; exact this
theorem cellsE_len (L : List EntryV) : (cellsE L).length = L.length * 6 := cellsL_len _ _ _
theorem cellsE_one' : ∀ (L : List EntryV), ∀ u ∈ cellsE L, u.oneCell' = true
  | [], u, hu => by simp [cellsE, cellsL] at hu
  | x :: M, u, hu => by
    rw [cellsE_cons, List.mem_append] at hu
    rcases hu with hu | hu
    · simp at hu; rcases hu with rfl | rfl | rfl | rfl | rfl | rfl <;> rfl
    · exact cellsE_one' M u hu
theorem cellsE_put (L : List EntryV) (x : EntryV) {p : Nat} (hp : p ≤ L.length) : putAt (cellsE L) [.int .i64 x.f0, .string x.f1, .string x.f2, .int .i64 x.f3, .int .i64 x.f4, .bool x.f5] (p * 6) = cellsE (L.take p ++ x :: L.drop p) := by
  have h1 : cellsE L = cellsE (L.take p) ++ cellsE (L.drop p) := by rw [← cellsE_append, List.take_append_drop]
  have h2 : (cellsE (L.take p)).length = p * 6 := by rw [cellsE_len, List.length_take, Nat.min_eq_left hp]
  rw [putAt, h1, List.take_left' h2, List.drop_left' h2, cellsE_append, cellsE_cons, List.append_assoc]
theorem vE_at {L : List EntryV} {p : Nat} (hp : p < L.length) : vE L p = L[p] := by simp [vE, hp]
theorem splitAtE {L : List EntryV} {p : Nat} (hp : p < L.length) : L = L.take p ++ vE L p :: L.drop (p + 1) := by
  rw [vE_at hp, List.getElem_cons_drop, List.take_append_drop]
theorem cellsE_set (L : List EntryV) (x : EntryV) {p : Nat} (hp : p < L.length) : (((((((cellsE L).set (p * 6 + 0) (.int .i64 x.f0)).set (p * 6 + 1) (.string x.f1)).set (p * 6 + 2) (.string x.f2)).set (p * 6 + 3) (.int .i64 x.f3)).set (p * 6 + 4) (.int .i64 x.f4)).set (p * 6 + 5) (.bool x.f5)) = cellsE (L.take p ++ x :: L.drop (p + 1)) := by
  have h2 : (cellsE (L.take p)).length = p * 6 := by rw [cellsE_len, List.length_take, Nat.min_eq_left (by omega)]
  have e : ∀ (y : EntryV) (M : List EntryV), cellsE (L.take p ++ y :: M) = cellsE (L.take p) ++ ([.int .i64 y.f0, .string y.f1, .string y.f2, .int .i64 y.f3, .int .i64 y.f4, .bool y.f5] ++ cellsE M) := by
    intro y M
    rw [cellsE_append, cellsE_cons]
  have hs : ∀ (A B : List Value) (q : Nat) (v : Value), A.length = p * 6 → (A ++ B).set (p * 6 + q) v = A ++ B.set q v := fun A B q v hA => by
    rw [List.set_append_right _ _ (by omega), hA, show p * 6 + q - p * 6 = q by omega]
  conv => lhs; rw [splitAtE hp, e]
  rw [e]
  simp only [hs _ _ _ _ h2]
  rfl

/-- How many keys stand ahead of t. -/
def plE : List EntryV → List UInt8 → Nat
  | [], _ => 0
  | c :: L, t => if Op.bytesLess c.f1.toList t = true then plE L t + 1 else 0
theorem plE_eq : ∀ {L : List EntryV} {t : List UInt8} {p : Nat}, p ≤ L.length → (∀ q, q < p → Op.bytesLess (vE L q).f1.toList t = true) → (p < L.length → Op.bytesLess (vE L p).f1.toList t = false) → plE L t = p
  | [], t, p, hp, _, _ => by simp at hp; simp [plE, hp]
  | c :: L, t, 0, _, _, h2 => by
    have : Op.bytesLess c.f1.toList t = false := h2 (by simp)
    simp [plE, this]
  | c :: L, t, p + 1, hp, h1, h2 => by
    have h0 : Op.bytesLess c.f1.toList t = true := h1 0 (by omega)
    rw [plE, if_pos h0, plE_eq (p := p) (by simpa using hp) (fun q hq => h1 (q + 1) (by omega)) (fun hq => h2 (by simpa using hq))]
/-- x in its place: where its key stands already, instead of it. -/
def putE (L : List EntryV) (x : EntryV) : List EntryV :=
  if plE L x.f1.toList < L.length ∧ (vE L (plE L x.f1.toList)).f1.toList = x.f1.toList then L.take (plE L x.f1.toList) ++ x :: L.drop (plE L x.f1.toList + 1) else L.take (plE L x.f1.toList) ++ x :: L.drop (plE L x.f1.toList)
def riseE (L : List EntryV) : Prop := RiseK (fun q => (vE L q).f1) L.length
theorem putE_hit {L : List EntryV} {x : EntryV} {p : Nat} (hr : riseE L) (hpl : Placed (fun q => (vE L q).f1) L.length x.f1 p true) : putE L x = L.take p ++ x :: L.drop (p + 1) := by
  obtain ⟨h1, h2, h3⟩ := hpl
  obtain ⟨g1, g2, _⟩ := h3 hr
  have e : plE L x.f1.toList = p := plE_eq h1 g1 (fun hp => g2 p (Nat.le_refl _) hp)
  rw [putE, e, if_pos (h2 rfl)]
theorem putE_miss {L : List EntryV} {x : EntryV} {p : Nat} (hr : riseE L) (hpl : Placed (fun q => (vE L q).f1) L.length x.f1 p false) : putE L x = L.take p ++ x :: L.drop p := by
  obtain ⟨h1, h2, h3⟩ := hpl
  obtain ⟨g1, g2, g3⟩ := h3 hr
  have e : plE L x.f1.toList = p := plE_eq h1 g1 (fun hp => g2 p (Nat.le_refl _) hp)
  rw [putE, e, if_neg (fun h => g3 rfl p h.1 h.2)]
theorem bytes_eqE {a b : ByteArray} (h : a.toList = b.toList) : a = b := by
  rw [ByteArray.toList_eq, ByteArray.toList_eq] at h
  obtain ⟨⟨x⟩⟩ := a; obtain ⟨⟨y⟩⟩ := b
  simp at h; rw [h]
theorem putE_len (L : List EntryV) (x : EntryV) : (putE L x).length ≤ L.length + 1 := by
  unfold putE
  split
  · simp only [List.length_append, List.length_cons, List.length_take, List.length_drop]; omega
  · simp only [List.length_append, List.length_cons, List.length_take, List.length_drop]; omega
def pwE (L : List EntryV) : Prop := L.Pairwise fun a b => Op.bytesLess a.f1.toList b.f1.toList = true
theorem riseE_pw {L : List EntryV} (h : riseE L) : pwE L := by
  rw [pwE, List.pairwise_iff_getElem]
  intro i j hi hj hij
  have := riseK_lt h hij hj
  simp only [vE_at hi, vE_at hj] at this
  exact this
theorem pw_riseE {L : List EntryV} (h : pwE L) : riseE L := by
  rw [pwE, List.pairwise_iff_getElem] at h
  intro i hi
  have := h i (i + 1) (by omega) hi (by omega)
  show Op.bytesLess (vE L i).f1.toList (vE L (i + 1)).f1.toList = true
  rw [vE_at hi, vE_at (show i < L.length by omega)]; exact this
theorem plE_le : ∀ (L : List EntryV) (t : List UInt8), plE L t ≤ L.length
  | [], _ => Nat.le_refl _
  | c :: L, t => by
    have := plE_le L t
    rw [plE]; split
    · simp; omega
    · simp
theorem plE_less : ∀ (L : List EntryV) (t : List UInt8), ∀ c ∈ L.take (plE L t), Op.bytesLess c.f1.toList t = true
  | [], _, c, hc => by simp [plE] at hc
  | d :: L, t, c, hc => by
    rw [plE] at hc
    split at hc
    · rename_i h
      rw [List.take_succ_cons, List.mem_cons] at hc
      rcases hc with rfl | hc
      · exact h
      · exact plE_less L t c hc
    · simp at hc
theorem plE_not : ∀ (L : List EntryV) (t : List UInt8), plE L t < L.length → Op.bytesLess (vE L (plE L t)).f1.toList t = false
  | [], _, h => by simp at h
  | c :: L, t, h => by
    rw [plE] at h ⊢
    split
    · rename_i e
      rw [if_pos e] at h
      exact plE_not L t (by simpa using h)
    · rename_i e
      simpa [vE] using e
theorem putE_rise {L : List EntryV} (x : EntryV) (hr : riseE L) : riseE (putE L x) := by
  apply pw_riseE
  have hp := riseE_pw hr
  have hs := plE_less L x.f1.toList
  obtain ⟨p, e⟩ : ∃ p, p = plE L x.f1.toList := ⟨_, rfl⟩
  have hle := plE_le L x.f1.toList
  have hnot := plE_not L x.f1.toList
  have hsp := List.take_append_drop p L
  have hpw : pwE (L.take p ++ L.drop p) := by rw [hsp]; exact hp
  rw [pwE, List.pairwise_append] at hpw
  rw [← e] at hs hle hnot
  unfold putE
  rw [← e]
  by_cases hlt : p < L.length
  · have hc := splitAtE hlt
    have hd : L.drop p = vE L p :: L.drop (p + 1) := by
      have h1 : L.take p ++ L.drop p = L.take p ++ vE L p :: L.drop (p + 1) := by rw [hsp]; exact hc
      exact List.append_cancel_left h1
    have hpd := hpw.2.1
    rw [hd, List.pairwise_cons] at hpd
    split
    · rename_i h
      rw [pwE, List.pairwise_append, List.pairwise_cons]
      refine ⟨hpw.1, ⟨fun b hb => ?_, hpd.2⟩, fun a ha b hb => ?_⟩
      · rw [← h.2]; exact hpd.1 b hb
      · rcases List.mem_cons.1 hb with rfl | hb
        · exact hs a ha
        · exact hpw.2.2 a ha b (by rw [hd]; exact List.mem_cons_of_mem _ hb)
    · rename_i h
      have hx : Op.bytesLess x.f1.toList (vE L p).f1.toList = true := less_tri (hnot hlt) (fun q => h ⟨hlt, q⟩)
      rw [pwE, List.pairwise_append, List.pairwise_cons]
      refine ⟨hpw.1, ⟨fun b hb => ?_, hpw.2.1⟩, fun a ha b hb => ?_⟩
      · rw [hd] at hb
        rcases List.mem_cons.1 hb with rfl | hb
        · exact hx
        · exact less_trans hx (hpd.1 b hb)
      · rcases List.mem_cons.1 hb with rfl | hb
        · exact hs a ha
        · exact hpw.2.2 a ha b hb
  · have hpe : p = L.length := by omega
    rw [if_neg (fun h => hlt h.1)]
    have hd : L.drop p = [] := by rw [hpe]; simp
    have ht : L.take p = L := by rw [hpe]; simp
    rw [hd, ht, pwE, List.pairwise_append]
    rw [ht] at hs
    refine ⟨hp, by simp, fun a ha b hb => ?_⟩
    simp at hb; subst hb; exact hs a ha
end Go.Proofs.Ytiepfdkfadbllaa
