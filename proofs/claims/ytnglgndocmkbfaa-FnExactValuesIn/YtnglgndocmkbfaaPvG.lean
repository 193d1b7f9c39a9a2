/- Lists of cells whose keys rise, one put in its place. No Go text is spoken of here. -/
import Derived.Test.YtnglgndocmkbfaaCmT
import Derived.Test.YtnglgndocmkbfaaCeV
import Derived.Test.YtnglgndocmkbfaaTurn
import Derived.Test.YtnglgndocmkbfaaInG
namespace Go.Proofs.Ytnglgndocmkbfaa
open Go.RowKit
set_option linter.unusedVariables false

def cV (L : List CellV) (i : Nat) : CellV := L.getD i ⟨⟨#[]⟩, ⟨#[]⟩⟩
def cellsC (L : List CellV) : List Value := cellsL (cellF (cV L)) 2 L.length
theorem cellsC_snoc (L : List CellV) (x : CellV) : cellsC (L ++ [x]) = cellsC L ++ [.string x.f0, .string x.f1] := by
  have h1 : cellsL (cellF (cV (L ++ [x]))) 2 L.length = cellsL (cellF (cV L)) 2 L.length := cellsL_congr (fun i hi j hj => by
    have : cV (L ++ [x]) i = cV L i := by simp [cV, List.getElem?_append_left hi]
    simp only [cellF, this])
  have h2 : cV (L ++ [x]) L.length = x := by simp [cV]
  have h3 : (L ++ [x]).length = L.length + 1 := by simp
  rw [cellsC, h3, cellsL, h1, cellsC]
  congr 1
  simp [cellF, h2, List.range_succ]
theorem cellsC_one (x : CellV) : cellsC [x] = [.string x.f0, .string x.f1] := by
  have := cellsC_snoc [] x
  simpa [cellsC, cellsL] using this
theorem cellsC_append : ∀ (M L : List CellV), cellsC (L ++ M) = cellsC L ++ cellsC M
  | [], L => by simp [cellsC, cellsL]
  | x :: M, L => by
    have h1 : L ++ x :: M = (L ++ [x]) ++ M := by simp
    have h2 : cellsC (x :: M) = cellsC [x] ++ cellsC M := cellsC_append M [x]
    rw [h1, cellsC_append M (L ++ [x]), cellsC_snoc, h2, cellsC_one, List.append_assoc]
theorem cellsC_cons (x : CellV) (M : List CellV) : cellsC (x :: M) = [.string x.f0, .string x.f1] ++ cellsC M := by
  have := cellsC_append M [x]
  rw [cellsC_one] at this; exact this
theorem cellsC_len (L : List CellV) : (cellsC L).length = L.length * 2 := cellsL_len _ _ _
theorem cellsC_one' : ∀ (L : List CellV), ∀ u ∈ cellsC L, u.oneCell' = true
  | [], u, hu => by simp [cellsC, cellsL] at hu
  | x :: M, u, hu => by
    rw [cellsC_cons, List.mem_append] at hu
    rcases hu with hu | hu
    · simp at hu; rcases hu with rfl | rfl <;> rfl
    · exact cellsC_one' M u hu
theorem cellsC_put (L : List CellV) (x : CellV) {p : Nat} (hp : p ≤ L.length) : putAt (cellsC L) [.string x.f0, .string x.f1] (p * 2) = cellsC (L.take p ++ x :: L.drop p) := by
  have h1 : cellsC L = cellsC (L.take p) ++ cellsC (L.drop p) := by rw [← cellsC_append, List.take_append_drop]
  have h2 : (cellsC (L.take p)).length = p * 2 := by rw [cellsC_len, List.length_take, Nat.min_eq_left hp]
  rw [putAt, h1, List.take_left' h2, List.drop_left' h2, cellsC_append, cellsC_cons, List.append_assoc]
theorem cV_at {L : List CellV} {p : Nat} (hp : p < L.length) : cV L p = L[p] := by simp [cV, hp]
theorem split_at {L : List CellV} {p : Nat} (hp : p < L.length) : L = L.take p ++ cV L p :: L.drop (p + 1) := by
  rw [cV_at hp, List.getElem_cons_drop, List.take_append_drop]
theorem cellsC_set (L : List CellV) (v : ByteArray) {p : Nat} (hp : p < L.length) : (cellsC L).set (p * 2 + 1) (.string v) = cellsC (L.take p ++ ⟨(cV L p).f0, v⟩ :: L.drop (p + 1)) := by
  have h2 : (cellsC (L.take p)).length = p * 2 := by rw [cellsC_len, List.length_take, Nat.min_eq_left (by omega)]
  have e : ∀ (y : CellV) (M : List CellV), cellsC (L.take p ++ y :: M) = cellsC (L.take p) ++ ([.string y.f0, .string y.f1] ++ cellsC M) := by
    intro y M
    rw [cellsC_append, cellsC_cons]
  conv => lhs; rw [split_at hp, e]
  rw [e, List.set_append_right _ _ (by omega), h2, show p * 2 + 1 - p * 2 = 1 by omega]
  rfl

/-- How many keys stand ahead of t. -/
def plN : List CellV → List UInt8 → Nat
  | [], _ => 0
  | c :: L, t => if Op.bytesLess c.f0.toList t = true then plN L t + 1 else 0
theorem plN_eq : ∀ {L : List CellV} {t : List UInt8} {p : Nat}, p ≤ L.length → (∀ q, q < p → Op.bytesLess (cV L q).f0.toList t = true) → (p < L.length → Op.bytesLess (cV L p).f0.toList t = false) → plN L t = p
  | [], t, p, hp, _, _ => by simp at hp; simp [plN, hp]
  | c :: L, t, 0, _, _, h2 => by
    have : Op.bytesLess c.f0.toList t = false := h2 (by simp)
    simp [plN, this]
  | c :: L, t, p + 1, hp, h1, h2 => by
    have h0 : Op.bytesLess c.f0.toList t = true := h1 0 (by omega)
    rw [plN, if_pos h0, plN_eq (p := p) (by simpa using hp) (fun q hq => h1 (q + 1) (by omega)) (fun hq => h2 (by simpa using hq))]
/-- x in its place: where its key stands already, instead of it. -/
def putL (L : List CellV) (x : CellV) : List CellV :=
  if plN L x.f0.toList < L.length ∧ (cV L (plN L x.f0.toList)).f0.toList = x.f0.toList then L.take (plN L x.f0.toList) ++ x :: L.drop (plN L x.f0.toList + 1) else L.take (plN L x.f0.toList) ++ x :: L.drop (plN L x.f0.toList)
def riseL (L : List CellV) : Prop := RiseK (fun q => (cV L q).f0) L.length
theorem putL_hit {L : List CellV} {x : CellV} {p : Nat} (hr : riseL L) (hpl : Placed (fun q => (cV L q).f0) L.length x.f0 p true) : putL L x = L.take p ++ x :: L.drop (p + 1) := by
  obtain ⟨h1, h2, h3⟩ := hpl
  obtain ⟨g1, g2, _⟩ := h3 hr
  have e : plN L x.f0.toList = p := plN_eq h1 g1 (fun hp => g2 p (Nat.le_refl _) hp)
  rw [putL, e, if_pos (h2 rfl)]
theorem putL_miss {L : List CellV} {x : CellV} {p : Nat} (hr : riseL L) (hpl : Placed (fun q => (cV L q).f0) L.length x.f0 p false) : putL L x = L.take p ++ x :: L.drop p := by
  obtain ⟨h1, h2, h3⟩ := hpl
  obtain ⟨g1, g2, g3⟩ := h3 hr
  have e : plN L x.f0.toList = p := plN_eq h1 g1 (fun hp => g2 p (Nat.le_refl _) hp)
  rw [putL, e, if_neg (fun h => g3 rfl p h.1 h.2)]
theorem bytes_eq {a b : ByteArray} (h : a.toList = b.toList) : a = b := by
  rw [ByteArray.toList_eq, ByteArray.toList_eq] at h
  obtain ⟨⟨x⟩⟩ := a; obtain ⟨⟨y⟩⟩ := b
  simp at h; rw [h]
theorem putL_len (L : List CellV) (x : CellV) : (putL L x).length ≤ L.length + 1 := by
  unfold putL
  split
  · simp only [List.length_append, List.length_cons, List.length_take, List.length_drop]; omega
  · simp only [List.length_append, List.length_cons, List.length_take, List.length_drop]; omega
def pwL (L : List CellV) : Prop := L.Pairwise fun a b => Op.bytesLess a.f0.toList b.f0.toList = true
theorem riseL_pw {L : List CellV} (h : riseL L) : pwL L := by
  rw [pwL, List.pairwise_iff_getElem]
  intro i j hi hj hij
  have := riseK_lt h hij hj
  simp only [cV_at hi, cV_at hj] at this
  exact this
theorem pw_riseL {L : List CellV} (h : pwL L) : riseL L := by
  rw [pwL, List.pairwise_iff_getElem] at h
  intro i hi
  have := h i (i + 1) (by omega) hi (by omega)
  show Op.bytesLess (cV L i).f0.toList (cV L (i + 1)).f0.toList = true
  rw [cV_at hi, cV_at (show i < L.length by omega)]; exact this
theorem plN_le : ∀ (L : List CellV) (t : List UInt8), plN L t ≤ L.length
  | [], _ => Nat.le_refl _
  | c :: L, t => by
    have := plN_le L t
    rw [plN]; split
    · simp; omega
    · simp
theorem plN_less : ∀ (L : List CellV) (t : List UInt8), ∀ c ∈ L.take (plN L t), Op.bytesLess c.f0.toList t = true
  | [], _, c, hc => by simp [plN] at hc
  | d :: L, t, c, hc => by
    rw [plN] at hc
    split at hc
    · rename_i h
      rw [List.take_succ_cons, List.mem_cons] at hc
      rcases hc with rfl | hc
      · exact h
      · exact plN_less L t c hc
    · simp at hc
theorem plN_not : ∀ (L : List CellV) (t : List UInt8), plN L t < L.length → Op.bytesLess (cV L (plN L t)).f0.toList t = false
  | [], _, h => by simp at h
  | c :: L, t, h => by
    rw [plN] at h ⊢
    split
    · rename_i e
      rw [if_pos e] at h
      exact plN_not L t (by simpa using h)
    · rename_i e
      simpa [cV] using e
theorem putL_rise {L : List CellV} (x : CellV) (hr : riseL L) : riseL (putL L x) := by
  apply pw_riseL
  have hp := riseL_pw hr
  have hs := plN_less L x.f0.toList
  obtain ⟨p, e⟩ : ∃ p, p = plN L x.f0.toList := ⟨_, rfl⟩
  have hle := plN_le L x.f0.toList
  have hnot := plN_not L x.f0.toList
  have hsp := List.take_append_drop p L
  have hpw : pwL (L.take p ++ L.drop p) := by rw [hsp]; exact hp
  rw [pwL, List.pairwise_append] at hpw
  rw [← e] at hs hle hnot
  unfold putL
  rw [← e]
  by_cases hlt : p < L.length
  · have hc := split_at hlt
    have hd : L.drop p = cV L p :: L.drop (p + 1) := by
      have h1 : L.take p ++ L.drop p = L.take p ++ cV L p :: L.drop (p + 1) := by rw [hsp]; exact hc
      exact List.append_cancel_left h1
    have hpd := hpw.2.1
    rw [hd, List.pairwise_cons] at hpd
    split
    · rename_i h
      rw [pwL, List.pairwise_append, List.pairwise_cons]
      refine ⟨hpw.1, ⟨fun b hb => ?_, hpd.2⟩, fun a ha b hb => ?_⟩
      · rw [← h.2]; exact hpd.1 b hb
      · rcases List.mem_cons.1 hb with rfl | hb
        · exact hs a ha
        · exact hpw.2.2 a ha b (by rw [hd]; exact List.mem_cons_of_mem _ hb)
    · rename_i h
      have hx : Op.bytesLess x.f0.toList (cV L p).f0.toList = true := less_tri (hnot hlt) (fun q => h ⟨hlt, q⟩)
      rw [pwL, List.pairwise_append, List.pairwise_cons]
      refine ⟨hpw.1, ⟨fun b hb => ?_, hpw.2.1⟩, fun a ha b hb => ?_⟩
      · rw [hd] at hb
        rcases List.mem_cons.1 hb with rfl | hb
        · exact hx
        · exact less_trans hx (hpd.1 b hb)
      · rcases List.mem_cons.1 hb with rfl | hb
        · exact hs a ha
        · exact hpw.2.2 a ha b hb
  · have hpe : p = L.length := by omega
    rw [if_neg (fun h => hlt h.1)]
    have hd : L.drop p = [] := by rw [hpe]; simp
    have ht : L.take p = L := by rw [hpe]; simp
    rw [hd, ht, pwL, List.pairwise_append]
    rw [ht] at hs
    refine ⟨hp, by simp, fun a ha b hb => ?_⟩
    simp at hb; subst hb; exact hs a ha
end Go.Proofs.Ytnglgndocmkbfaa
