/- Put together of: CmT, OpenE, RwSz, CeV, PvG. -/
import Derived.Test.YtmhkfangfhanlaaMgB
import Derived.Test.YtmhkfangfhanlaaMgD
import Derived.Lib.Bytealg
import Derived.Laws.Externs
import Derived.Test.YtmhkfangfhanlaaRows
import Derived.ProofKit
import Derived.OpenShut
import Derived.Deep.Slices
import Derived.ChangeOld
import Derived.Deep.Strs
import Derived.Test.YtmhkfangfhanlaaMgA
/- strings.Compare; the order of texts; keys that rise, and the place of a key among them. -/
namespace Go.Proofs.Ytmhkfangfhanlaa
open Go.RowKit
set_option linter.unusedVariables false

theorem less_cmp : ∀ x y : List UInt8, (Lib.compareBytes x y < 0) ↔ Op.bytesLess x y = true
  | [], [] => by simp [Lib.compareBytes, Op.bytesLess]
  | [], _ :: _ => by simp [Lib.compareBytes, Op.bytesLess]
  | _ :: _, [] => by simp [Lib.compareBytes, Op.bytesLess]
  | a :: x, b :: y => by
    have ih := less_cmp x y
    simp only [Lib.compareBytes, Op.bytesLess, Bool.or_eq_true, Bool.and_eq_true, decide_eq_true_eq, beq_iff_eq]
    by_cases h1 : a < b
    · simp [h1]
    · by_cases h2 : b < a
      · have : a ≠ b := fun e => by subst e; exact absurd h2 h1
        simp [h1, h2, this]
      · have e : a = b := by
          have h1' : ¬ a.toNat < b.toNat := h1
          have h2' : ¬ b.toNat < a.toNat := h2
          exact UInt8.toNat_inj.1 (by omega)
        subst e
        simp [h1, ih]
theorem eq_cmp : ∀ x y : List UInt8, (Lib.compareBytes x y = 0) ↔ x = y
  | [], [] => by simp [Lib.compareBytes]
  | [], _ :: _ => by simp [Lib.compareBytes]
  | _ :: _, [] => by simp [Lib.compareBytes]
  | a :: x, b :: y => by
    have ih := eq_cmp x y
    simp only [Lib.compareBytes, List.cons.injEq]
    by_cases h1 : a < b
    · have : a ≠ b := fun e => by subst e; exact absurd h1 (Nat.lt_irrefl _)
      simp [h1, this]
    · by_cases h2 : b < a
      · have : a ≠ b := fun e => by subst e; exact absurd h2 h1
        simp [h1, h2, this]
      · have e : a = b := by
          have h1' : ¬ a.toNat < b.toNat := h1
          have h2' : ¬ b.toNat < a.toNat := h2
          exact UInt8.toNat_inj.1 (by omega)
        subst e
        simp [h1, ih]
theorem cmp_bd : ∀ x y : List UInt8, -1 ≤ Lib.compareBytes x y ∧ Lib.compareBytes x y ≤ 1
  | [], [] => by simp [Lib.compareBytes]
  | [], _ :: _ => by simp [Lib.compareBytes]
  | _ :: _, [] => by simp [Lib.compareBytes]
  | a :: x, b :: y => by
    have ih := cmp_bd x y
    simp only [Lib.compareBytes]
    split
    · omega
    · split <;> omega
theorem less_trans : ∀ {x y z : List UInt8}, Op.bytesLess x y = true → Op.bytesLess y z = true → Op.bytesLess x z = true
  | _, [], _, h, _ => by simp [Op.bytesLess] at h
  | _, _ :: _, [], _, h => by simp [Op.bytesLess] at h
  | [], _ :: _, _ :: _, _, _ => by simp [Op.bytesLess]
  | a :: x, b :: y, c :: z, h1, h2 => by
    simp only [Op.bytesLess, Bool.or_eq_true, Bool.and_eq_true, decide_eq_true_eq, beq_iff_eq] at h1 h2 ⊢
    rcases h1 with h1 | ⟨rfl, h1⟩
    · rcases h2 with h2 | ⟨rfl, h2⟩
      · exact Or.inl (Nat.lt_trans h1 h2)
      · exact Or.inl h1
    · rcases h2 with h2 | ⟨rfl, h2⟩
      · exact Or.inl h2
      · exact Or.inr ⟨rfl, less_trans h1 h2⟩



theorem less_irr : ∀ x : List UInt8, Op.bytesLess x x = false
  | [] => by simp [Op.bytesLess]
  | a :: x => by simp [Op.bytesLess, less_irr x]
theorem less_tri {x y : List UInt8} (h : Op.bytesLess x y = false) (k : x ≠ y) : Op.bytesLess y x = true := by
  induction x generalizing y with
  | nil => cases y with
    | nil => exact absurd rfl k
    | cons b y => simp [Op.bytesLess] at h
  | cons a x ih => cases y with
    | nil => simp [Op.bytesLess]
    | cons b y =>
      simp only [Op.bytesLess, Bool.or_eq_false_iff, Bool.and_eq_false_iff, decide_eq_false_iff_not, beq_eq_false_iff_ne, Bool.or_eq_true, Bool.and_eq_true, decide_eq_true_eq, beq_iff_eq] at h ⊢
      by_cases e : a = b
      · subst e
        right
        refine ⟨rfl, ih ?_ (fun e => k (by rw [e]))⟩
        rcases h.2 with h | h
        · exact absurd rfl h
        · exact h
      · left
        have h1 : ¬ a.toNat < b.toNat := h.1
        have h2 : a.toNat ≠ b.toNat := fun e' => e (UInt8.toNat_inj.1 e')
        show b.toNat < a.toNat
        omega
/-- Key q is less than t. -/
def lesK (K : Nat → ByteArray) (t : ByteArray) (q : Nat) : Bool := Op.bytesLess (K q).toList t.toList
def RiseK (K : Nat → ByteArray) (n : Nat) : Prop := ∀ i, i + 1 < n → Op.bytesLess (K i).toList (K (i + 1)).toList = true
instance (K : Nat → ByteArray) (n : Nat) : Decidable (RiseK K n) :=
  decidable_of_iff (∀ i, i < n - 1 → Op.bytesLess (K i).toList (K (i + 1)).toList = true) ⟨fun h i hi => h i (by omega), fun h i hi => h i (by omega)⟩
theorem riseK_lt {K : Nat → ByteArray} {n : Nat} (h : RiseK K n) : ∀ {j i : Nat}, i < j → j < n → Op.bytesLess (K i).toList (K j).toList = true
  | j + 1, i, h1, h2 => by
    have a := h j h2
    by_cases e : i = j
    · subst e; exact a
    · exact less_trans (riseK_lt h (show i < j by omega) (by omega)) a
theorem riseK_ne {K : Nat → ByteArray} {n i j : Nat} (h : RiseK K n) (hi : i < n) (hj : j < n) (e : (K i).toList = (K j).toList) : i = j := by
  rcases Nat.lt_trichotomy i j with g | g | g
  · have := riseK_lt h g hj; rw [e, less_irr] at this; cases this
  · exact g
  · have := riseK_lt h g hi; rw [e, less_irr] at this; cases this
theorem lesK_down {K : Nat → ByteArray} {n : Nat} {t : ByteArray} (h : RiseK K n) {i j : Nat} (hij : i ≤ j) (hj : j < n) (hl : lesK K t j = true) : lesK K t i = true := by
  by_cases e : i = j
  · subst e; exact hl
  · exact less_trans (riseK_lt h (show i < j by omega) hj) hl
theorem lesK_up {K : Nat → ByteArray} {n : Nat} {t : ByteArray} (h : RiseK K n) {i j : Nat} (hij : i ≤ j) (hj : j < n) (hl : lesK K t i = false) : lesK K t j = false := by
  cases hc : lesK K t j
  · rfl
  · rw [lesK_down h hij hj hc] at hl; cases hl
/-- What a search for t among n keys may answer: a place, and whether it is there; where the keys rise, its place. -/
def Placed (K : Nat → ByteArray) (n : Nat) (t : ByteArray) (p : Nat) (f : Bool) : Prop :=
  p ≤ n ∧ (f = true → p < n ∧ (K p).toList = t.toList) ∧ (RiseK K n → (∀ q, q < p → lesK K t q = true) ∧ (∀ q, p ≤ q → q < n → lesK K t q = false) ∧ (f = false → ∀ q, q < n → (K q).toList ≠ t.toList))
def PlcPost (K : Nat → ByteArray) (n : Nat) (t : ByteArray) (w : World) (r : Ending) (w' : World) : Prop :=
  ∃ (p : Nat) (f : Bool), r = .returned (.tuple #[.int .i64 (p : Int), .bool f]) ∧ Placed K n t p f ∧ Below w.heap.size w w'
theorem placed_no {K : Nat → ByteArray} {n : Nat} {t : ByteArray} {p : Nat} (h1 : RiseK K n → ∀ q, q < p → lesK K t q = true) (h2 : RiseK K n → ∀ q, p ≤ q → q < n → lesK K t q = false) (hp : p = n ∨ p < n ∧ (K p).toList ≠ t.toList) :
    RiseK K n → ∀ q, q < n → (K q).toList ≠ t.toList := by
  intro hr q hq e
  rcases Nat.lt_or_ge q p with g | g
  · have := h1 hr q g; rw [lesK, e, less_irr] at this; cases this
  · rcases hp with hp | ⟨hp, hne⟩
    · omega
    · have h3 := h2 hr p (Nat.le_refl _) hp
      have h4 := less_tri h3 hne
      rcases Nat.lt_or_ge p q with g' | g'
      · have h5 := riseK_lt hr g' hq
        rw [e] at h5
        have h6 := less_trans h4 h5
        rw [less_irr] at h6; cases h6
      · have : q = p := by omega
        subst this; exact hne e
end Go.Proofs.Ytmhkfangfhanlaa
/- How lists that came in are read: each element's cells; lists of numbers. -/
namespace Go.Proofs.Ytmhkfangfhanlaa
open Go.RowKit Go.Deep
set_option linter.unusedVariables false

theorem addr_add (b off n : Nat) : (⟨b, off, none⟩ : Addr).add n = ⟨b, off + n, none⟩ := by
  unfold Addr.add; split <;> simp_all
theorem list3 {α : Type} {l : List α} (h : l.length = 3) : ∃ a b c, l = [a, b, c] := by
  match l, h with
  | [a, b, c], _ => exact ⟨a, b, c, rfl⟩
theorem list1 {α : Type} {l : List α} (h : l.length = 1) : ∃ a, l = [a] := by
  match l, h with
  | [a], _ => exact ⟨a, rfl⟩
theorem open_elems {H : Type} {enc : TypeId × Value → H} {P : Program} {w : World} {t e : TypeId} {a : Option Addr} {len cap c : Nat} {d : DataW H} {p : List MemPlace} (ht : P.underlying t = some (.slice e)) (hc : P.cellsOf e = c) (h0 : 0 < c)
    (h : DataW.Trod enc P w 0 (fun _ => true) true t (.slice a len cap) d p) :
    len ≤ maxLen ∧ (len = 0 ∨ ∃ b off, a = some ⟨b, off, none⟩ ∧ b < w.heap.size ∧ ∀ i, i < len → ∃ (cs : List Value) (n : Nat) (y : DataW H × List MemPlace), cs.length = c ∧ (∀ j, j < c → w.cell? ⟨b, off + i * c + j, none⟩ = cs[j]?) ∧ DataW.trod enc P w 0 (fun _ => true) true n e cs = some y) := by
  obtain ⟨fuel, hf⟩ := h
  rcases open_slice ht hf with ⟨hcs, _⟩ | ⟨x, l, k, m, n, D, Pl, hcs, _, hl, hm, hmm, _, hel⟩
  · simp [Value.cells] at hcs
    obtain ⟨rfl, rfl, rfl⟩ := hcs
    exact ⟨Nat.zero_le _, Or.inl rfl⟩
  · simp [Value.cells] at hcs
    obtain ⟨rfl, rfl, rfl⟩ := hcs
    have hmk : m = cap := by simpa using hmm
    subst hmk
    refine ⟨by omega, ?_⟩
    rcases Nat.eq_zero_or_pos len with hz | hp
    · exact Or.inl hz
    right
    obtain ⟨cs0, h1, _⟩ := hel 0 (by omega)
    rw [hc] at h1
    obtain ⟨_, hl0, hc0⟩ := World.cells?_some h1
    have hb := World.cells?_block h1 h0
    have hs0 := hc0 0 (by omega)
    have hsp : x.spot = none := by
      have := hs0
      rw [List.getElem?_eq_getElem (by omega)] at this
      simpa [Addr.add] using World.cell?_spot this
    obtain ⟨b, off, spot⟩ := x
    simp only at hsp
    subst hsp
    refine ⟨b, off, rfl, by simpa [Addr.add] using hb, fun i hi => ?_⟩
    obtain ⟨cs, g1, g2⟩ := hel i (by omega)
    rw [hc] at g1
    obtain ⟨_, gl, gc⟩ := World.cells?_some g1
    exact ⟨cs, n, _, gl, fun j hj => by have := gc j hj; rw [addr_add, addr_add] at this; exact this, g2⟩

theorem cells_int : Try.prog.cellsOf 3 = 1 := by kernel_rfl
theorem wf_bounds {q : Int} (h : (Lit.int .i64 q).wf = true) : -9223372036854775808 ≤ q ∧ q ≤ 9223372036854775807 := by
  simpa [Lit.wf, IntKind.min, IntKind.max, IntKind.signed, IntKind.bits] using h
theorem open_ints {H : Type} {enc : TypeId × Value → H} {w : World} {a : Option Addr} {len cap : Nat} {d : DataW H} {p : List MemPlace}
    (h : DataW.Trod enc Try.prog w 0 (fun _ => true) true 41 (.slice a len cap) d p) : len ≤ maxLen ∧ ∃ X, Sl w a len 1 (intF X) ∧ ∀ i, i < len → -9223372036854775808 ≤ X i ∧ X i ≤ 9223372036854775807 := by
  obtain ⟨hl, h | ⟨b, off, rfl, hb, hel⟩⟩ := open_elems Try.underlying41 cells_int (by omega) h
  · exact ⟨hl, fun _ => 0, Or.inl h, fun i hi => by omega⟩
  · have each : ∀ i, i < len → ∃ q : Int, w.cell? ⟨b, off + i * 1 + 0, none⟩ = some (.int .i64 q) ∧ -9223372036854775808 ≤ q ∧ q ≤ 9223372036854775807 := by
      intro i hi
      obtain ⟨cs, n, y, hlen, hc, ht⟩ := hel i hi
      obtain ⟨v, rfl⟩ := list1 hlen
      obtain ⟨q, q0, _, wf⟩ := DataW.trod_int Try.underlying3 ht
      simp only [List.cons.injEq, and_true] at q0
      subst q0
      exact ⟨q, by rw [hc 0 (by omega)]; rfl, wf_bounds wf⟩
    obtain ⟨q, hq⟩ := choose_lt each
    refine ⟨hl, q, Or.inr ⟨b, off, rfl, hb, fun i hi j hj => ?_⟩, fun i hi => (hq i hi).2⟩
    have : j = 0 := by omega
    subst this
    exact (hq i hi).1
end Go.Proofs.Ytmhkfangfhanlaa
/- What is left of a size; small facts for lists of structs. No Go text is spoken of here. -/
namespace Go.Proofs.Ytmhkfangfhanlaa
open Go.RowKit Go.Deep
set_option linter.unusedVariables false
def szN (l : Int) (k : Nat) : Int := if l < k then -1 else l - k
theorem szN_bd (l : Int) (k : Nat) (h0 : 0 ≤ l) (h1 : l ≤ 1048576) : -1 ≤ szN l k ∧ szN l k ≤ 1048576 := by
  unfold szN; split <;> omega
theorem cells_str : Try.prog.cellsOf 9 = 1 := by kernel_rfl
theorem cells_bool : Try.prog.cellsOf 4 = 1 := by kernel_rfl
theorem info_two {o : Option TypeInfo} {z : Option Value} {s : Nat} (h : o.map (fun i => (i.zero, i.size)) = some (z, s)) : ∃ i, o = some i ∧ i.zero = z ∧ i.size = s := by
  cases o with
  | none => cases h
  | some i => simp at h; exact ⟨i, rfl, h.1, h.2⟩
theorem bytes_le {n b : Nat} (hn : n ≤ 1048576) (hb : b ≤ 100) : n * b ≤ 140737488355328 := by
  have := Nat.mul_le_mul hn hb; omega
end Go.Proofs.Ytmhkfangfhanlaa
/- Lists of Cell: their form (RwCell without the law's own functions). -/
namespace Go.Proofs.Ytmhkfangfhanlaa
open Go.RowKit Go.Deep
set_option linter.unusedVariables false
set_option linter.unusedSimpArgs false

structure CellV where
  f0 : ByteArray
  f1 : ByteArray
  deriving Inhabited
def cellF (V : Nat → CellV) (i j : Nat) : Value := if j = 0 then .string (V i).f0 else .string (V i).f1
theorem cell_cells {w : World} {b off n k : Nat} {V : Nat → CellV} (h : Elems w b off n 2 (cellF V)) (hk : k < n) :
    w.cell? ⟨b, off + k * 2, none⟩ = some (.string (V k).f0) ∧ w.cell? ⟨b, off + k * 2 + 1, none⟩ = some (.string (V k).f1) :=
  ⟨h k hk 0 (by omega), h k hk 1 (by omega)⟩
def CellR (w : World) (g n : Nat) (V : Nat → CellV) : Prop := Elems w g 0 n 2 (cellF V) ∧ Room w g (n * 2) ∧ g < w.heap.size
theorem CellR.sl {w : World} {g n : Nat} {V : Nat → CellV} (h : CellR w g n V) : Sl w (some ⟨g, 0, none⟩) n 2 (cellF V) := Or.inr ⟨g, 0, rfl, h.2.2, h.1⟩
theorem CellR.next {w w' : World} {g n : Nat} {V : Nat → CellV} (h : CellR w g n V) (hb : Below w.heap.size w w') : CellR w' g n V := ⟨h.1.below hb h.2.2, h.2.1.below hb h.2.2, Nat.lt_of_lt_of_le h.2.2 hb.size⟩
theorem info_cell : (Try.prog.info? 119).map (fun i => (i.zero, i.size, i.bytes)) = some (some (.agg #[.string ⟨#[]⟩, .string ⟨#[]⟩]), 2, 32) := by kernel_rfl
end Go.Proofs.Ytmhkfangfhanlaa
/- Lists of cells whose keys rise, one put in its place. No Go text is spoken of here. -/
namespace Go.Proofs.Ytmhkfangfhanlaa
open Go.RowKit
set_option linter.unusedVariables false

def cV (L : List CellV) (i : Nat) : CellV := L.getD i ⟨⟨#[]⟩, ⟨#[]⟩⟩
def cellsC (L : List CellV) : List Value := cellsL (cellF (cV L)) 2 L.length
theorem cellsC_snoc (L : List CellV) (x : CellV) : cellsC (L ++ [x]) = cellsC L ++ [.string x.f0, .string x.f1] := by
  have h1 : cellsL (cellF (cV (L ++ [x]))) 2 L.length = cellsL (cellF (cV L)) 2 L.length := cellsL_congr (fun i hi j hj => by
    have : cV (L ++ [x]) i = cV L i := by simp [cV, List.getElem?_append_left hi]
    simp only [cellF, this])
  have h2 : cV (L ++ [x]) L.length = x := by simp [cV]
  have h3 : (L ++ [x]).length = L.length + 1 := by simp
  rw [cellsC, h3, cellsL, h1, cellsC]
  congr 1
  simp [cellF, h2, List.range_succ]
theorem cellsC_one (x : CellV) : cellsC [x] = [.string x.f0, .string x.f1] := by
  have := cellsC_snoc [] x
  simpa [cellsC, cellsL] using this
theorem cellsC_append : ∀ (M L : List CellV), cellsC (L ++ M) = cellsC L ++ cellsC M
  | [], L => by simp [cellsC, cellsL]
  | x :: M, L => by
    have h1 : L ++ x :: M = (L ++ [x]) ++ M := by simp
    have h2 : cellsC (x :: M) = cellsC [x] ++ cellsC M := cellsC_append M [x]
    rw [h1, cellsC_append M (L ++ [x]), cellsC_snoc, h2, cellsC_one, List.append_assoc]
theorem cellsC_cons (x : CellV) (M : List CellV) : cellsC (x :: M) = [.string x.f0, .string x.f1] ++ cellsC M := by
  have := cellsC_append M [x]
  rw [cellsC_one] at this; exact this
theorem cellsC_len (L : List CellV) : (cellsC L).length = L.length * 2 := cellsL_len _ _ _
theorem cellsC_one' : ∀ (L : List CellV), ∀ u ∈ cellsC L, u.oneCell' = true
  | [], u, hu => by simp [cellsC, cellsL] at hu
  | x :: M, u, hu => by
    rw [cellsC_cons, List.mem_append] at hu
    rcases hu with hu | hu
    · simp at hu; rcases hu with rfl | rfl <;> rfl
    · exact cellsC_one' M u hu
theorem cellsC_put (L : List CellV) (x : CellV) {p : Nat} (hp : p ≤ L.length) : putAt (cellsC L) [.string x.f0, .string x.f1] (p * 2) = cellsC (L.take p ++ x :: L.drop p) := by
  have h1 : cellsC L = cellsC (L.take p) ++ cellsC (L.drop p) := by rw [← cellsC_append, List.take_append_drop]
  have h2 : (cellsC (L.take p)).length = p * 2 := by rw [cellsC_len, List.length_take, Nat.min_eq_left hp]
  rw [putAt, h1, List.take_left' h2, List.drop_left' h2, cellsC_append, cellsC_cons, List.append_assoc]
theorem cV_at {L : List CellV} {p : Nat} (hp : p < L.length) : cV L p = L[p] := by simp [cV, hp]
theorem split_at {L : List CellV} {p : Nat} (hp : p < L.length) : L = L.take p ++ cV L p :: L.drop (p + 1) := by
  rw [cV_at hp, List.getElem_cons_drop, List.take_append_drop]
theorem cellsC_set (L : List CellV) (v : ByteArray) {p : Nat} (hp : p < L.length) : (cellsC L).set (p * 2 + 1) (.string v) = cellsC (L.take p ++ ⟨(cV L p).f0, v⟩ :: L.drop (p + 1)) := by
  have h2 : (cellsC (L.take p)).length = p * 2 := by rw [cellsC_len, List.length_take, Nat.min_eq_left (by omega)]
  have e : ∀ (y : CellV) (M : List CellV), cellsC (L.take p ++ y :: M) = cellsC (L.take p) ++ ([.string y.f0, .string y.f1] ++ cellsC M) := by
    intro y M
    rw [cellsC_append, cellsC_cons]
  conv => lhs; rw [split_at hp, e]
  rw [e, List.set_append_right _ _ (by omega), h2, show p * 2 + 1 - p * 2 = 1 by omega]
  rfl

/-- How many keys stand ahead of t. -/
def plN : List CellV → List UInt8 → Nat
  | [], _ => 0
  | c :: L, t => if Op.bytesLess c.f0.toList t = true then plN L t + 1 else 0
theorem plN_eq : ∀ {L : List CellV} {t : List UInt8} {p : Nat}, p ≤ L.length → (∀ q, q < p → Op.bytesLess (cV L q).f0.toList t = true) → (p < L.length → Op.bytesLess (cV L p).f0.toList t = false) → plN L t = p
  | [], t, p, hp, _, _ => by simp at hp; simp [plN, hp]
  | c :: L, t, 0, _, _, h2 => by
    have : Op.bytesLess c.f0.toList t = false := h2 (by simp)
    simp [plN, this]
  | c :: L, t, p + 1, hp, h1, h2 => by
    have h0 : Op.bytesLess c.f0.toList t = true := h1 0 (by omega)
    rw [plN, if_pos h0, plN_eq (p := p) (by simpa using hp) (fun q hq => h1 (q + 1) (by omega)) (fun hq => h2 (by simpa using hq))]
/-- x in its place: where its key stands already, instead of it. -/
def putL (L : List CellV) (x : CellV) : List CellV :=
  if plN L x.f0.toList < L.length ∧ (cV L (plN L x.f0.toList)).f0.toList = x.f0.toList then L.take (plN L x.f0.toList) ++ x :: L.drop (plN L x.f0.toList + 1) else L.take (plN L x.f0.toList) ++ x :: L.drop (plN L x.f0.toList)
def riseL (L : List CellV) : Prop := RiseK (fun q => (cV L q).f0) L.length
theorem putL_hit {L : List CellV} {x : CellV} {p : Nat} (hr : riseL L) (hpl : Placed (fun q => (cV L q).f0) L.length x.f0 p true) : putL L x = L.take p ++ x :: L.drop (p + 1) := by
  obtain ⟨h1, h2, h3⟩ := hpl
  obtain ⟨g1, g2, _⟩ := h3 hr
  have e : plN L x.f0.toList = p := plN_eq h1 g1 (fun hp => g2 p (Nat.le_refl _) hp)
  rw [putL, e, if_pos (h2 rfl)]
theorem putL_miss {L : List CellV} {x : CellV} {p : Nat} (hr : riseL L) (hpl : Placed (fun q => (cV L q).f0) L.length x.f0 p false) : putL L x = L.take p ++ x :: L.drop p := by
  obtain ⟨h1, h2, h3⟩ := hpl
  obtain ⟨g1, g2, g3⟩ := h3 hr
  have e : plN L x.f0.toList = p := plN_eq h1 g1 (fun hp => g2 p (Nat.le_refl _) hp)
  rw [putL, e, if_neg (fun h => g3 rfl p h.1 h.2)]
theorem bytes_eq {a b : ByteArray} (h : a.toList = b.toList) : a = b := by
  rw [ByteArray.toList_eq, ByteArray.toList_eq] at h
  obtain ⟨⟨x⟩⟩ := a; obtain ⟨⟨y⟩⟩ := b
  simp at h; rw [h]
theorem putL_len (L : List CellV) (x : CellV) : (putL L x).length ≤ L.length + 1 := by
  unfold putL
  split
  · simp only [List.length_append, List.length_cons, List.length_take, List.length_drop]; omega
  · simp only [List.length_append, List.length_cons, List.length_take, List.length_drop]; omega
def pwL (L : List CellV) : Prop := L.Pairwise fun a b => Op.bytesLess a.f0.toList b.f0.toList = true
theorem riseL_pw {L : List CellV} (h : riseL L) : pwL L := by
  rw [pwL, List.pairwise_iff_getElem]
  intro i j hi hj hij
  have := riseK_lt h hij hj
  simp only [cV_at hi, cV_at hj] at this
  exact this
theorem pw_riseL {L : List CellV} (h : pwL L) : riseL L := by
  rw [pwL, List.pairwise_iff_getElem] at h
  intro i hi
  have := h i (i + 1) (by omega) hi (by omega)
  show Op.bytesLess (cV L i).f0.toList (cV L (i + 1)).f0.toList = true
  rw [cV_at hi, cV_at (show i < L.length by omega)]; exact this
theorem plN_le : ∀ (L : List CellV) (t : List UInt8), plN L t ≤ L.length
  | [], _ => Nat.le_refl _
  | c :: L, t => by
    have := plN_le L t
    rw [plN]; split
    · simp; omega
    · simp
theorem plN_less : ∀ (L : List CellV) (t : List UInt8), ∀ c ∈ L.take (plN L t), Op.bytesLess c.f0.toList t = true
  | [], _, c, hc => by simp [plN] at hc
  | d :: L, t, c, hc => by
    rw [plN] at hc
    split at hc
    · rename_i h
      rw [List.take_succ_cons, List.mem_cons] at hc
      rcases hc with rfl | hc
      · exact h
      · exact plN_less L t c hc
    · simp at hc
theorem plN_not : ∀ (L : List CellV) (t : List UInt8), plN L t < L.length → Op.bytesLess (cV L (plN L t)).f0.toList t = false
  | [], _, h => by simp at h
  | c :: L, t, h => by
    rw [plN] at h ⊢
    split
    · rename_i e
      rw [if_pos e] at h
      exact plN_not L t (by simpa using h)
    · rename_i e
      simpa [cV] using e
theorem putL_rise {L : List CellV} (x : CellV) (hr : riseL L) : riseL (putL L x) := by
  apply pw_riseL
  have hp := riseL_pw hr
  have hs := plN_less L x.f0.toList
  obtain ⟨p, e⟩ : ∃ p, p = plN L x.f0.toList := ⟨_, rfl⟩
  have hle := plN_le L x.f0.toList
  have hnot := plN_not L x.f0.toList
  have hsp := List.take_append_drop p L
  have hpw : pwL (L.take p ++ L.drop p) := by rw [hsp]; exact hp
  rw [pwL, List.pairwise_append] at hpw
  rw [← e] at hs hle hnot
  unfold putL
  rw [← e]
  by_cases hlt : p < L.length
  · have hc := split_at hlt
    have hd : L.drop p = cV L p :: L.drop (p + 1) := by
      have h1 : L.take p ++ L.drop p = L.take p ++ cV L p :: L.drop (p + 1) := by rw [hsp]; exact hc
      exact List.append_cancel_left h1
    have hpd := hpw.2.1
    rw [hd, List.pairwise_cons] at hpd
    split
    · rename_i h
      rw [pwL, List.pairwise_append, List.pairwise_cons]
      refine ⟨hpw.1, ⟨fun b hb => ?_, hpd.2⟩, fun a ha b hb => ?_⟩
      · rw [← h.2]; exact hpd.1 b hb
      · rcases List.mem_cons.1 hb with rfl | hb
        · exact hs a ha
        · exact hpw.2.2 a ha b (by rw [hd]; exact List.mem_cons_of_mem _ hb)
    · rename_i h
      have hx : Op.bytesLess x.f0.toList (cV L p).f0.toList = true := less_tri (hnot hlt) (fun q => h ⟨hlt, q⟩)
      rw [pwL, List.pairwise_append, List.pairwise_cons]
      refine ⟨hpw.1, ⟨fun b hb => ?_, hpw.2.1⟩, fun a ha b hb => ?_⟩
      · rw [hd] at hb
        rcases List.mem_cons.1 hb with rfl | hb
        · exact hx
        · exact less_trans hx (hpd.1 b hb)
      · rcases List.mem_cons.1 hb with rfl | hb
        · exact hs a ha
        · exact hpw.2.2 a ha b hb
  · have hpe : p = L.length := by omega
    rw [if_neg (fun h => hlt h.1)]
    have hd : L.drop p = [] := by rw [hpe]; simp
    have ht : L.take p = L := by rw [hpe]; simp
    rw [hd, ht, pwL, List.pairwise_append]
    rw [ht] at hs
    refine ⟨hp, by simp, fun a ha b hb => ?_⟩
    simp at hb; subst hb; exact hs a ha
end Go.Proofs.Ytmhkfangfhanlaa
