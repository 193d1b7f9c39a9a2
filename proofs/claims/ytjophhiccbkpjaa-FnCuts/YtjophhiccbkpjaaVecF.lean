/- The contracts of vectorFrom (a vector from a list), compareVectors, listFrom. -/
import Derived.Test.YtjophhiccbkpjaaVec
import Derived.Test.YtjophhiccbkpjaaIntF
namespace Go.Proofs.Ytjophhiccbkpjaa
open Go.RowKit
set_option linter.unusedVariables false

/-- The first k are in 0..g. -/
def allIn (X : Nat → Int) (g : Int) : Nat → Bool
  | 0 => true
  | k + 1 => allIn X g k && inR (X k) 0 g
theorem allIn_iff (X : Nat → Int) (g : Int) : ∀ k, allIn X g k = true ↔ ∀ i, i < k → inR (X i) 0 g = true
  | 0 => by simp [allIn]
  | k + 1 => by
    simp only [allIn, Bool.and_eq_true, allIn_iff X g k]
    exact ⟨fun h => upto_succ h.1 h.2, fun h => ⟨fun i hi => h i (by omega), h k (by omega)⟩⟩
def vfOk (X : Nat → Int) (n : Nat) (g : Int) : Bool := decide (n = 6) && allIn X g 6
def vfV (X : Nat → Int) (n : Nat) (g : Int) (i : Nat) : Int := if vfOk X n g then X i else 0
theorem vf_bad {X : Nat → Int} {n k : Nat} {g : Int} (hk : k < 6) (h : inR (X k) 0 g = false) : vfOk X n g = false := by
  cases hg : allIn X g 6
  · simp [vfOk, hg]
  · rw [(allIn_iff X g 6).1 hg k hk] at h; cases h
theorem vf_no {X : Nat → Int} {n : Nat} {g : Int} (h : vfOk X n g = false) : Ending.returned (.tuple #[vec (fun _ => 0), .bool false]) = .returned (.tuple #[vec (vfV X n g), .bool (vfOk X n g)]) := by
  rw [vec_congr (x := vfV X n g) (y := fun _ => 0) (fun i _ => by simp [vfV, h]), h]
theorem vf_yes {X : Nat → Int} {n : Nat} {g : Int} (h : vfOk X n g = true) : Ending.returned (.tuple #[vec X, .bool true]) = .returned (.tuple #[vec (vfV X n g), .bool (vfOk X n g)]) := by
  rw [vec_congr (x := vfV X n g) (y := X) (fun i _ => by simp [vfV, h]), h]

def upTo (X : Nat → Int) (k i : Nat) : Int := if i < k then X i else 0
theorem upTo_step (X : Nat → Int) (k : Nat) : ∀ i, i < 6 → (if i = k then X k else upTo X k i) = upTo X (k + 1) i := by
  intro i _
  simp only [upTo]
  by_cases e : i = k
  · subst e; simp
  · by_cases e2 : i < k
    · rw [if_neg e, if_pos e2, if_pos (by omega)]
    · rw [if_neg e, if_neg e2, if_neg (by omega)]

set_option maxHeartbeats 1000000 in
theorem vectorFrom_any (a : Option Addr) (n cap : Nat) (X : Nat → Int) (g : Int) (w : World) (hn : n ≤ 1048576) (hs : Sl w a n 1 (intF X)) :
    Calls Try.prog 61 #[.slice a n cap, .int .i64 g] w fun r w' => r = .returned (.tuple #[vec (vfV X n g), .bool (vfOk X n g)]) ∧ Below w.heap.size w w' := by
  by_cases h6 : n = 6
  case neg =>
    have h6' : ((n : Int) == 6) = false := by simp; omega
    have HN : Hid (vfOk X n g = false) := by show vfOk X n g = false; simp [vfOk, h6]
    clear hs h6
    go_enter Try.func61, Try.ntmps61
    go_wp2
    exact bodyPost_ret (v := .tuple #[vec (fun _ => 0), .bool false]) (by simp [results, Try.results61, go_sem, vec]) rfl ⟨vf_no HN.out, (by repeat (first | refine Below.setCell ?_ (by (try simp) <;> omega) _ | refine Below.alloc ?_ (by (try simp) <;> omega) _ | refine Below.drew ?_ | assumption | exact Below.refl _ _ | refine Below.trans ?_ (Below.mono (by assumption) (by (try simp) <;> omega))))⟩
  case pos =>
  subst h6
  go_enter Try.func61, Try.ntmps61
  go_wp2
  go_loopw [15] (fun i wr => ∃ k : Nat, k ≤ 6 ∧ i = .int .i64 k ∧ Vec wr w.heap.size (fun _ => 0) ∧ Vec wr (w.heap.size + 1) (upTo X k) ∧ (∀ i, i < k → inR (X i) 0 g = true) ∧ Below w.heap.size w wr) (fun i _ => 6 - (intOf i).toNat)
  case atStart =>
    have v1 := Vec.new w (fun _ => 0) 73
    have v2 := Vec.new (w.alloc (.cells #[.int .i64 0, .int .i64 0, .int .i64 0, .int .i64 0, .int .i64 0, .int .i64 0] 73)) (fun _ => 0) 73
    exact ⟨0, Nat.zero_le _, rfl, v1.below (Go.Joins.below_alloc1 _ _) (by simp), by have := v2.congr (y := upTo X 0) (fun i _ => by simp [upTo]); simpa using this, fun i hi => absurd hi (by omega), (by repeat (first | refine Below.setCell ?_ (by (try simp) <;> omega) _ | refine Below.alloc ?_ (by (try simp) <;> omega) _ | refine Below.drew ?_ | assumption | exact Below.refl _ _ | refine Below.trans ?_ (Below.mono (by assumption) (by (try simp) <;> omega))))⟩
  case round =>
    obtain ⟨k, hk, rfl, h4, h6, hall, hBr⟩ := hrel
    by_cases hlt : k < 6
    · rcases hs.below hBr (Nat.le_refl _) with h | ⟨b, off, rfl, hbs, hE⟩
      · omega
      have hlt' : (k : Int) < 6 := by omega
      have hc := int_cell hE hlt
      have hr := (h6.1 k hlt).1
      have hf := (h6.1 k hlt).2
      have HH : Hid (Vec wr w.heap.size (fun _ => 0) ∧ Vec wr (w.heap.size + 1) (upTo X k) ∧ (∀ i, i < k → inR (X i) 0 g = true) ∧ Below w.heap.size w wr) := ⟨h4, h6, hall, hBr⟩
      obtain ⟨⟨d0, d1, d2, d3, d4, d5⟩, f0, f1, f2, f3, f4, f5⟩ := h4.six
      clear h4 h6 hall hBr hs hE
      cases hg : inR (X k) 0 g
      · have HN : Hid (vfOk X 6 g = false) := vf_bad hlt hg
        go_wp2_with (go_at_call 54; refine (inRange_any _ _ _ _).mono ?_; rintro e w' ⟨rfl, rfl⟩)
        obtain ⟨h4, h6, hall, hBr⟩ := HH.out
        exact bodyPost_ret (v := .tuple #[vec (fun _ => 0), .bool false]) (by simp [results, Try.results61, go_sem, vec, d0, d1, d2, d3, d4, d5]) rfl ⟨vf_no HN.out, (by repeat (first | refine Below.setCell ?_ (by (try simp) <;> omega) _ | refine Below.alloc ?_ (by (try simp) <;> omega) _ | refine Below.drew ?_ | assumption | exact Below.refl _ _ | refine Below.trans ?_ (Below.mono (by assumption) (by (try simp) <;> omega))))⟩
      · clear d0 d1 d2 d3 d4 d5 f0 f1 f2 f3 f4 f5
        go_wp2_with (go_at_call 54; refine (inRange_any _ _ _ _).mono ?_; rintro e w' ⟨rfl, rfl⟩)
        obtain ⟨h4, h6, hall, hBr⟩ := HH.out
        go_roundw
        case rel => exact ⟨k + 1, by omega, by go_num, h4.setOther (by omega), (h6.set hlt _).congr (upTo_step X k), upto_succ hall hg, hBr.setCell (p := ⟨w.heap.size + 1, k, none⟩) (by simp) _⟩
        case measure => simp [intOf]; omega
    · have hk6 : k = 6 := by omega
      subst hk6
      have HN : Hid (vfOk X 6 g = true) := by show vfOk X 6 g = true; simp [vfOk, (allIn_iff X g 6).2 hall]
      obtain ⟨⟨d0, d1, d2, d3, d4, d5⟩, f0, f1, f2, f3, f4, f5⟩ := h4.six
      obtain ⟨⟨c0, c1, c2, c3, c4, c5⟩, _⟩ := (h6.congr (y := X) (fun i hi => by simp [upTo, hi])).six
      have HB : Hid (Below w.heap.size w wr) := hBr
      clear hs h4 h6 hBr hall
      go_wp2
      have hb := HB.out
      exact bodyPost_ret (v := .tuple #[vec X, .bool true]) (by simp [results, Try.results61, go_sem, vec, d0, d1, d2, d3, d4, d5]) rfl ⟨vf_yes HN.out, (by repeat (first | refine Below.setCell ?_ (by (try simp) <;> omega) _ | refine Below.alloc ?_ (by (try simp) <;> omega) _ | refine Below.drew ?_ | assumption | exact Below.refl _ _ | refine Below.trans ?_ (Below.mono (by assumption) (by (try simp) <;> omega))))⟩
end Go.Proofs.Ytjophhiccbkpjaa
