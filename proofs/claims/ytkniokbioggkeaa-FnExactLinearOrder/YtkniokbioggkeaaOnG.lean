/- One copy: what a list of cells tells of a key, what the calls that are done have left, the search for an order. No Go text is spoken of here. -/
import Derived.Test.YtkniokbioggkeaaCaG
import Derived.Test.YtkniokbioggkeaaPvG
namespace Go.Proofs.Ytkniokbioggkeaa
open Go.RowKit
set_option linter.unusedVariables false

def valL : List CellV → List UInt8 → ByteArray
  | [], _ => ⟨#[]⟩
  | c :: L, t => if c.f0.toList = t then c.f1 else valL L t
theorem valL_app_no : ∀ {A B : List CellV} {t : List UInt8}, (∀ c ∈ A, c.f0.toList ≠ t) → valL (A ++ B) t = valL B t
  | [], B, t, _ => rfl
  | c :: A, B, t, h => by
    rw [List.cons_append, valL, if_neg (h c (by simp))]
    exact valL_app_no fun d hd => h d (by simp [hd])
theorem valL_skip : ∀ {A B : List CellV} {x : CellV} {t : List UInt8}, x.f0.toList ≠ t → valL (A ++ x :: B) t = valL (A ++ B) t
  | [], B, x, t, h => by simp [valL, h]
  | c :: A, B, x, t, h => by
    rw [List.cons_append, List.cons_append, valL, valL, valL_skip h]
theorem valL_at : ∀ {L : List CellV} {p : Nat} {t : List UInt8}, p < L.length → (cV L p).f0.toList = t → (∀ q, q < p → (cV L q).f0.toList ≠ t) → valL L t = (cV L p).f1
  | [], p, t, h, _, _ => by simp at h
  | c :: L, 0, t, _, h, _ => by
    have h' : c.f0.toList = t := h
    rw [valL, if_pos h']; rfl
  | c :: L, p + 1, t, hp, h, hn => by
    have h0 : c.f0.toList ≠ t := hn 0 (by omega)
    rw [valL, if_neg h0, valL_at (p := p) (by simpa using hp) h (fun q hq => hn (q + 1) (by omega))]; rfl
theorem valL_none : ∀ {L : List CellV} {t : List UInt8}, (∀ q, q < L.length → (cV L q).f0.toList ≠ t) → valL L t = ⟨#[]⟩
  | [], t, _ => rfl
  | c :: L, t, h => by
    have h0 : c.f0.toList ≠ t := h 0 (by simp)
    rw [valL, if_neg h0]
    exact valL_none fun q hq => h (q + 1) (by simpa using hq)
theorem valL_put {L : List CellV} {x : CellV} (t : List UInt8) : valL (putL L x) t = if x.f0.toList = t then x.f1 else valL L t := by
  have hle := plN_le L x.f0.toList
  have hs := plN_less L x.f0.toList
  unfold putL
  by_cases hx : x.f0.toList = t
  · have hA : ∀ c ∈ L.take (plN L x.f0.toList), c.f0.toList ≠ t := fun c hc e => by
      have := hs c hc
      rw [e, hx, less_irr] at this; cases this
    rw [if_pos hx]
    split <;> rw [valL_app_no hA, valL, if_pos hx]
  · rw [if_neg hx]
    split
    · rename_i h
      have hc := split_at h.1
      rw [valL_skip hx]
      conv => rhs; rw [hc]
      rw [valL_skip (by rw [h.2]; exact hx)]
    · rw [valL_skip hx, List.take_append_drop]
theorem mem_put {L : List CellV} {x c : CellV} (h : c ∈ putL L x) : c = x ∨ c ∈ L := by
  unfold putL at h
  split at h <;>
  · rcases List.mem_append.1 h with h | h
    · exact Or.inr (List.mem_of_mem_take h)
    · rcases List.mem_cons.1 h with h | h
      · exact Or.inl h
      · exact Or.inr (List.mem_of_mem_drop h)

/-- What the calls of ord have left of a key. -/
def valO (V : Nat → CallV) (ord : List Nat) (t : List UInt8) : ByteArray := ord.foldl (fun a n => if (V n).f1 = true ∧ (V n).f2.toList = t then (V n).f3 else a) ⟨#[]⟩
theorem valO_nil (V : Nat → CallV) (t : List UInt8) : valO V [] t = ⟨#[]⟩ := rfl
theorem valO_snoc (V : Nat → CallV) (ord : List Nat) (n : Nat) (t : List UInt8) : valO V (ord ++ [n]) t = if (V n).f1 = true ∧ (V n).f2.toList = t then (V n).f3 else valO V ord t := by
  simp [valO]
/-- Cells that tell what the calls of ord have left; their keys are keys of calls. -/
def Sees (V : Nat → CallV) (n : Nat) (ord : List Nat) (L : List CellV) : Prop := riseL L ∧ (∀ t, valL L t = valO V ord t) ∧ ∀ c ∈ L, ∃ i, i < n ∧ c.f0 = (V i).f2
theorem Sees.nil (V : Nat → CallV) (n : Nat) : Sees V n [] [] := ⟨fun i hi => absurd hi (by simp), fun t => rfl, fun c hc => by simp at hc⟩
theorem Sees.write {V : Nat → CallV} {n i : Nat} {ord : List Nat} {L : List CellV} (h : Sees V n ord L) (hi : i < n) (hw : (V i).f1 = true) : Sees V n (ord ++ [i]) (putL L ⟨(V i).f2, (V i).f3⟩) := by
  refine ⟨putL_rise _ h.1, fun t => ?_, fun c hc => ?_⟩
  · rw [valL_put, valO_snoc, h.2.1]
    by_cases e : (V i).f2.toList = t
    · rw [if_pos e, if_pos ⟨hw, e⟩]
    · rw [if_neg e, if_neg (fun q => e q.2)]
  · rcases mem_put hc with rfl | hc
    · exact ⟨i, hi, rfl⟩
    · exact h.2.2 c hc
theorem Sees.read {V : Nat → CallV} {n i : Nat} {ord : List Nat} {L : List CellV} (h : Sees V n ord L) (hw : (V i).f1 = false) : Sees V n (ord ++ [i]) L := by
  refine ⟨h.1, fun t => ?_, h.2.2⟩
  rw [valO_snoc, if_neg (fun q => by rw [hw] at q; cases q.1)]; exact h.2.1 t
theorem Sees.undo {V : Nat → CallV} {n i : Nat} {ord : List Nat} {L : List CellV} (h : Sees V n (ord ++ [i]) L) (hi : i < n) : Sees V n ord (putL L ⟨(V i).f2, valO V ord (V i).f2.toList⟩) := by
  refine ⟨putL_rise _ h.1, fun t => ?_, fun c hc => ?_⟩
  · rw [valL_put, h.2.1, valO_snoc]
    by_cases e : (V i).f2.toList = t
    · rw [if_pos e, ← e]
    · rw [if_neg e, if_neg (fun q => e q.2)]
  · rcases mem_put hc with rfl | hc
    · exact ⟨i, hi, rfl⟩
    · exact h.2.2 c hc
theorem len_sub {α : Type} [DecidableEq α] : ∀ {l m : List α}, l.Nodup → (∀ x, x ∈ l → x ∈ m) → l.length ≤ m.length
  | [], m, _, _ => Nat.zero_le _
  | a :: l, m, h, hs => by
    have ha : a ∈ m := hs a (by simp)
    have hn := List.nodup_cons.1 h
    have ih := len_sub (l := l) (m := m.erase a) hn.2 (fun x hx => by
      have hne : x ≠ a := fun e => hn.1 (e ▸ hx)
      exact (List.mem_erase_of_ne hne).2 (hs x (by simp [hx])))
    rw [List.length_erase_of_mem ha] at ih
    have : 0 < m.length := List.length_pos_of_mem ha
    simp only [List.length_cons]; omega
theorem Sees.len {V : Nat → CallV} {n : Nat} {ord : List Nat} {L : List CellV} (h : Sees V n ord L) : L.length ≤ n := by
  have h1 : (L.map fun c => c.f0.toList).Nodup := by
    have := riseL_pw h.1
    rw [List.Nodup, List.pairwise_map]
    exact this.imp (fun {a b} q e => by rw [e, less_irr] at q; cases q)
  have := len_sub h1 (m := (List.range n).map fun i => (V i).f2.toList) (fun x hx => by
    obtain ⟨c, hc, rfl⟩ := List.mem_map.1 hx
    obtain ⟨i, hi, e⟩ := h.2.2 c hc
    exact List.mem_map.2 ⟨i, List.mem_range.2 hi, by rw [e]⟩)
  simpa using this

/-- Call i, done behind ord, sees what it saw. -/
def fitB (V : Nat → CallV) (ord : List Nat) (i : Nat) : Bool := (V i).f1 || ((valO V ord (V i).f2.toList).toList == (V i).f3.toList)
theorem fit_write {V : Nat → CallV} {ord : List Nat} {i : Nat} (h : (V i).f1 = true) : fitB V ord i = true := by simp [fitB, h]
theorem fit_read {V : Nat → CallV} {ord : List Nat} {i : Nat} (h : (V i).f1 = false) : fitB V ord i = ((valO V ord (V i).f2.toList).toList == (V i).f3.toList) := by simp [fitB, h]
def mustB (own : Bool) (a b : CallV) : Bool := if own = true then ownB a b else endB a b
/-- Of the calls that are not done one must be ahead of call i. -/
def waitB (V : Nat → CallV) (n : Nat) (own : Bool) (ord : List Nat) (i : Nat) : Bool := (List.range n).any fun k => !ord.contains k && mustB own (V k) (V i)
def mayB (V : Nat → CallV) (n : Nat) (own : Bool) (ord : List Nat) (i : Nat) : Bool := !ord.contains i && (fitB V ord i && !waitB V n own ord i)
/-- The first order that goes on behind ord. -/
def srch (V : Nat → CallV) (n : Nat) (own : Bool) : Nat → List Nat → Option (List Nat)
  | 0, ord => some ord
  | d + 1, ord => (List.range n).findSome? fun i => if mayB V n own ord i = true then srch V n own d (ord ++ [i]) else none
/-- No call below k goes on. -/
def noneTo (V : Nat → CallV) (n : Nat) (own : Bool) (d : Nat) (ord : List Nat) (k : Nat) : Prop := ∀ i, i < k → mayB V n own ord i = true → srch V n own d (ord ++ [i]) = none
theorem srch_none {V : Nat → CallV} {n : Nat} {own : Bool} {d : Nat} {ord : List Nat} (h : noneTo V n own d ord n) : srch V n own (d + 1) ord = none := by
  rw [srch, List.findSome?_eq_none_iff]
  intro i hi
  split
  · rename_i e; exact h i (List.mem_range.1 hi) e
  · rfl
theorem findSome_range {α : Type} {f : Nat → Option α} : ∀ {n k : Nat} {x : α}, k < n → f k = some x → (∀ i, i < k → f i = none) → (List.range n).findSome? f = some x
  | 0, k, x, h, _, _ => absurd h (by omega)
  | n + 1, k, x, h, hk, hn => by
    rw [List.range_succ, List.findSome?_append]
    rcases Nat.lt_or_ge k n with g | g
    · rw [findSome_range g hk hn]; rfl
    · have : k = n := by omega
      subst this
      have : (List.range k).findSome? f = none := by
        rw [List.findSome?_eq_none_iff]
        intro i hi; exact hn i (List.mem_range.1 hi)
      rw [this]; simp [hk]
theorem srch_some {V : Nat → CallV} {n : Nat} {own : Bool} {d : Nat} {ord : List Nat} {k : Nat} {o : List Nat} (h : noneTo V n own d ord k) (hk : k < n) (hm : mayB V n own ord k = true) (ho : srch V n own d (ord ++ [k]) = some o) : srch V n own (d + 1) ord = some o := by
  rw [srch]
  refine findSome_range hk (by rw [if_pos hm]; exact ho) (fun i hi => ?_)
  split
  · rename_i e; exact h i hi e
  · rfl
theorem noneTo_up {V : Nat → CallV} {n : Nat} {own : Bool} {d : Nat} {ord : List Nat} {k : Nat} (h : noneTo V n own d ord k) (hk : mayB V n own ord k = true → srch V n own d (ord ++ [k]) = none) : noneTo V n own d ord (k + 1) := by
  intro i hi hm
  rcases Nat.lt_or_ge i k with g | g
  · exact h i g hm
  · have : i = k := by omega
    subst this; exact hk hm
/-- Numbers of calls, each at most once. -/
def OrdOk (n : Nat) (ord : List Nat) : Prop := ord.Nodup ∧ ∀ i ∈ ord, i < n
theorem OrdOk.nil (n : Nat) : OrdOk n [] := ⟨List.nodup_nil, fun i hi => by simp at hi⟩
theorem OrdOk.snoc {n : Nat} {ord : List Nat} {i : Nat} (h : OrdOk n ord) (hi : i < n) (hn : i ∉ ord) : OrdOk n (ord ++ [i]) := by
  refine ⟨?_, fun j hj => ?_⟩
  · rw [List.nodup_append]
    refine ⟨h.1, by simp, fun a ha b hb e => ?_⟩
    simp at hb; subst hb; exact hn (e ▸ ha)
  · rcases List.mem_append.1 hj with hj | hj
    · exact h.2 j hj
    · simp at hj; omega
theorem OrdOk.len {n : Nat} {ord : List Nat} (h : OrdOk n ord) : ord.length ≤ n := by
  have := len_sub h.1 (m := List.range n) (fun x hx => List.mem_range.2 (h.2 x hx))
  simpa using this
/-- The numbers that are not in ord. -/
def leftL (n : Nat) (ord : List Nat) : List Nat := (List.range n).filter fun k => !ord.contains k
theorem mem_left {n : Nat} {ord : List Nat} {k : Nat} : k ∈ leftL n ord ↔ k < n ∧ k ∉ ord := by simp [leftL]
theorem left_nodup (n : Nat) (ord : List Nat) : (leftL n ord).Nodup := List.Pairwise.filter _ List.nodup_range
theorem left_len {n : Nat} {ord : List Nat} (h : OrdOk n ord) : (leftL n ord).length + ord.length = n := by
  have h1 : ((leftL n ord) ++ ord).Nodup := by
    rw [List.nodup_append]
    refine ⟨left_nodup n ord, h.1, fun a ha b hb e => ?_⟩
    exact (mem_left.1 ha).2 (e ▸ hb)
  have g1 := len_sub h1 (m := List.range n) (fun x hx => by
    rcases List.mem_append.1 hx with hx | hx
    · exact List.mem_range.2 (mem_left.1 hx).1
    · exact List.mem_range.2 (h.2 x hx))
  have g2 := len_sub (l := List.range n) (m := (leftL n ord) ++ ord) List.nodup_range (fun x hx => by
    by_cases e : x ∈ ord
    · exact List.mem_append.2 (Or.inr e)
    · exact List.mem_append.2 (Or.inl (mem_left.2 ⟨List.mem_range.1 hx, e⟩)))
  simp at g1 g2; omega
theorem left_rise (n : Nat) (ord : List Nat) : (leftL n ord).Pairwise (· < ·) := List.Pairwise.filter _ List.pairwise_lt_range
theorem waitB_left {V : Nat → CallV} {n : Nat} {own : Bool} {ord : List Nat} {i : Nat} : waitB V n own ord i = (leftL n ord).any fun k => mustB own (V k) (V i) := by
  simp [waitB, leftL, List.any_filter]
end Go.Proofs.Ytkniokbioggkeaa
