/- Registers: the great conditions of the specification's GoodRegister. Written by tools/mkRgT.py. -/
import Derived.Test.YtaofolbnommpgaaRgE
import Derived.Test.YtaofolbnommpgaaSr
namespace Go.Proofs.Ytaofolbnommpgaa
open Go.RowKit
set_option linter.unusedVariables false

/-- A good op, but for its numbers of nodes. -/
def opR (ck nc : Int) (x0 : Int) (x1 : Bool) (x2 : ByteArray) (x3 : Int) (x4 : List Int) (x5 x6 : Int) (x7 : ByteArray) (x8 x9 : Int) : Prop :=
  (0 ≤ x0 ∧ x0 ≤ 9) ∧ valOk x2 = true ∧ (x1 = true ∨ x2.size = 0) ∧ (1 ≤ x3 ∧ x3 ≤ 3) ∧ copP x5 x6 x7 ∧ (0 ≤ x8 ∧ x8 ≤ ck - 1) ∧ 2 * (x4.length : Int) ≤ nc ∧ (x3 = 3 → x4.length = 0) ∧ (x3 = 3 → x8 + 1 ≤ x9 ∧ x9 ≤ ck - 1) ∧ (x3 ≠ 3 → x9 = 0)
theorem opQ_R {ck nc : Int} {x0 : Int} {x1 : Bool} {x2 : ByteArray} {x3 : Int} {x4 : List Int} {x5 x6 : Int} {x7 : ByteArray} {x8 x9 : Int} : opQ ck nc x0 x1 x2 x3 x4 x5 x6 x7 x8 x9 ↔ opR ck nc x0 x1 x2 x3 x4 x5 x6 x7 x8 x9 ∧ risP x4 nc := by
  unfold opQ opR
  constructor
  · rintro ⟨h0, h1, h2, h3, h4, h5, h6, h7, h8, h9, h10⟩; exact ⟨⟨h0, h1, h2, h3, h4, h5, h6, h7, h8, h9⟩, h10⟩
  · rintro ⟨⟨h0, h1, h2, h3, h4, h5, h6, h7, h8, h9⟩, h10⟩; exact ⟨h0, h1, h2, h3, h4, h5, h6, h7, h8, h9, h10⟩
theorem w64 {n : Int} (h0 : -9223372036854775808 ≤ n) (h1 : n ≤ 9223372036854775807) : IntKind.i64.wrap n = n := by
  simp only [IntKind.wrap, IntKind.bits, IntKind.signed]
  simp
  omega
/-- What is known of a slot: a boolean, or that it was passed by. -/
def kv : Option Bool → Value
  | some b => .bool b
  | none => undef
def dstIs (o : Option Oper) (d : Nat) : Bool := match o with
  | some o => match o.dst with | some x => Nat.beq x d | none => false
  | none => false
def notW (v : Option Bool) (b : Bool) : Bool := match v with
  | some true => !b
  | some false => b
  | none => true
def knows (l : List Oper) (s j : Nat) (b : Bool) : List (Nat × Option Bool) → Bool
  | [] => false
  | p :: K => (Nat.beq p.1 j && notW p.2 b && dstIs l[j]? (s + j)) || knows l s j b K
/-- The operations k .. k + m are passed by, for what is known of slots ahead. -/
def skips (l : List Oper) (s : Nat) : Nat → Nat → List (Nat × Option Bool) → Bool
  | _, 0, _ => true
  | k, m + 1, K => (match l[k]? with
    | some o => dstIs (some o) (s + k) && (match o.guard with | some (j, b) => knows l s j b K | none => false)
    | none => false) && skips l s (k + 1) m ((k, none) :: K)
theorem dstIs_of {o : Oper} {d : Nat} (h : dstIs (some o) d = true) : o.dst = some d := by
  unfold dstIs at h
  cases e : o.dst with
  | none => simp [e] at h
  | some x => simp [e] at h; rw [h]
theorem knows_of {l : List Oper} {s j : Nat} {b : Bool} : ∀ {K : List (Nat × Option Bool)}, knows l s j b K = true → ∃ p ∈ K, p.1 = j ∧ notW p.2 b = true ∧ dstIs l[j]? (s + j) = true
  | [], h => by cases h
  | p :: K, h => by
    unfold knows at h
    rcases Bool.or_eq_true_iff.1 h with h | h
    · rw [Bool.and_eq_true, Bool.and_eq_true] at h
      exact ⟨p, List.mem_cons_self, Nat.eq_of_beq_eq_true h.1.1, h.1.2, h.2⟩
    · obtain ⟨q, hq, e⟩ := knows_of h; exact ⟨q, List.mem_cons_of_mem _ hq, e⟩
theorem si_ns {P : Program} {l : List Oper} {Q : Exit → Act → World → Prop} {A : Act} {E0 : Operand → Value} {w : World} {s : Nat} : ∀ (m k : Nat) (B : Act) (E : Operand → Value) (K : List (Nat × Option Bool)), St A B E0 E s k → (∀ p ∈ K, p.1 < k ∧ E (.tmp (s + p.1)) = kv p.2) → skips l s k m K = true → s + (k + m) ≤ A.tmps.size →
    (∀ B' E', St A B' E0 E' s (k + m) → (∀ d, s + k ≤ d → d < s + (k + m) → E' (.tmp d) = undef) → (∀ d, d < s + k → E' (.tmp d) = E (.tmp d)) → wpI P l Q (k + m) B' w) → wpI P l Q k B w
  | 0, k, B, E, K, hS, _, _, _, h => h B E hS (fun d h1 h2 => by omega) (fun _ _ => rfl)
  | m + 1, k, B, E, K, hS, hK, hc, hz, h => by
    unfold skips at hc
    rw [Bool.and_eq_true] at hc
    obtain ⟨hc, hc'⟩ := hc
    cases hi : l[k]? with
    | none => rw [hi] at hc; cases hc
    | some o =>
      rw [hi] at hc
      replace hc := Bool.and_eq_true_iff.1 hc
      obtain ⟨hd, hg⟩ := hc
      replace hd := dstIs_of hd
      cases e : o.guard with
      | none => rw [e] at hg; cases hg
      | some q =>
        obtain ⟨j, b⟩ := q
        rw [e] at hg
        obtain ⟨p, hp, hj, hn, hdj⟩ := knows_of hg
        obtain ⟨hlt, hv⟩ := hK p hp
        rw [hj] at hv
        have hdj' : (l.toArray[j]?).bind (·.dst) = some (s + j) := by
          rw [List.getElem?_toArray]
          cases ej : l[j]? with
          | none => rw [ej] at hdj; cases hdj
          | some x => rw [ej] at hdj; exact dstIs_of hdj
        have hw : Region.wanted o (yielded l.toArray B.tmps) = false := by
          cases ep : p.2 with
          | none => rw [ep] at hv; exact wanted_u hS.v j (s + j) b hv e hdj'
          | some v =>
            rw [ep] at hv hn
            rw [wanted_g hS.v j (s + j) b hv e hdj']
            cases v <;> cases b <;> first | rfl | cases hn
        refine wpI.at hi (sr_n (s + k) hS.x hS.v hw (by omega) rfl (fun B' E' h1 h2 h3 h4 h5 h6 => ?_) hd)
        refine si_ns m (k + 1) B' E' ((k, none) :: K) ⟨h1, h2, h5, h6, fun x hx => (h4 x (by omega)).trans (hS.o x hx)⟩ ?_ hc' (by omega) ?_
        · intro r hr
          rcases List.mem_cons.1 hr with rfl | hr
          · exact ⟨by simp, h3⟩
          · have := hK r hr
            exact ⟨by omega, (h4 _ (by omega)).trans this.2⟩
        · intro B2 E2 g1 g2 g3
          rw [show k + 1 + m = k + (m + 1) by omega] at g1 g2 ⊢
          refine h B2 E2 g1 (fun d a1 a2 => ?_) (fun d a1 => (g3 d (by omega)).trans (h4 d (by omega)))
          rcases Nat.lt_or_ge d (s + (k + 1)) with a3 | a3
          · obtain rfl : d = s + k := by omega
            exact (g3 _ a3).trans h3
          · exact g2 d a3 a2
theorem si_nb {P : Program} {l : List Oper} {Q : Exit → Act → World → Prop} {A B : Act} {E0 E : Operand → Value} {w : World} {s k x : Nat} {v : Bool} (j m k' d : Nat) (hS : St A B E0 E s k) (he : E (.tmp x) = .bool v) (hz : d < A.tmps.size)
    (h : ∀ B' E', St A B' E0 E' s k' → (∀ d, s + k ≤ d → d < s + k' → E' (.tmp d) = undef) → (∀ d, d < s + k → E' (.tmp d) = E (.tmp d)) → wpI P l Q k' B' w) (hx : s + j = x := by rfl) (hk : k + m = k' := by rfl) (hd : s + k' = d + 1 := by rfl) (hj : Nat.blt j k = true := by rfl) (hc : skips l s k m [(j, some v)] = true := by rfl) : wpI P l Q k B w := by
  subst hx; subst hk
  exact si_ns m k B E _ hS (fun p hp => by cases List.mem_singleton.1 hp; exact ⟨by simpa using hj, he⟩) hc (by omega) h
theorem si_nu {P : Program} {l : List Oper} {Q : Exit → Act → World → Prop} {A B : Act} {E0 E : Operand → Value} {w : World} {s k x : Nat} (j m k' d : Nat) (hS : St A B E0 E s k) (he : E (.tmp x) = undef) (hz : d < A.tmps.size)
    (h : ∀ B' E', St A B' E0 E' s k' → (∀ d, s + k ≤ d → d < s + k' → E' (.tmp d) = undef) → (∀ d, d < s + k → E' (.tmp d) = E (.tmp d)) → wpI P l Q k' B' w) (hx : s + j = x := by rfl) (hk : k + m = k' := by rfl) (hd : s + k' = d + 1 := by rfl) (hj : Nat.blt j k = true := by rfl) (hc : skips l s k m [(j, none)] = true := by rfl) : wpI P l Q k B w := by
  subst hx; subst hk
  exact si_ns m k B E _ hS (fun p hp => by cases List.mem_singleton.1 hp; exact ⟨by simpa using hj, he⟩) hc (by omega) h
def ops13 : List Oper := [{ dst := some 51, op := Op.fieldAddr 53 (Operand.tmp 6) 0, type := 0, pos := "l9_register.go:29", after := #[], guard := none }, { dst := some 52, op := Op.load 3 (Operand.tmp 51), type := 3, pos := "l9_register.go:29", after := #[{ on := 0, ground := Ground.data }], guard := none }, { dst := some 53, op := Op.call { callee := Callee.value (Operand.func 61), args := #[Operand.tmp 52, Operand.const (Value.int IntKind.i64 0), Operand.const (Value.int IntKind.i64 9)], argTypes := #[3, 3, 3] }, type := 4, pos := "l9_register.go:29", after := #[{ on := 1, ground := Ground.data }], guard := none }, { dst := some 54, op := Op.unOp UnOp.not 4 (Operand.tmp 53), type := 4, pos := "l9_register.go:29", after := #[{ on := 2, ground := Ground.data }], guard := none }, { dst := some 55, op := Op.move (Operand.tmp 54), type := 4, pos := "l9_register.go:29", after := #[{ on := 3, ground := Ground.data }, { on := 2, ground := Ground.chain }], guard := none }, { dst := some 56, op := Op.fieldAddr 53 (Operand.tmp 6) 2, type := 0, pos := "l9_register.go:29", after := #[{ on := 4, ground := Ground.guard }], guard := some (4, false) }, { dst := some 57, op := Op.load 9 (Operand.tmp 56), type := 9, pos := "l9_register.go:29", after := #[{ on := 5, ground := Ground.data }, { on := 4, ground := Ground.guard }], guard := some (4, false) }, { dst := some 58, op := Op.call { callee := Callee.value (Operand.func 64), args := #[Operand.tmp 57], argTypes := #[9] }, type := 4, pos := "l9_register.go:29", after := #[{ on := 6, ground := Ground.data }, { on := 4, ground := Ground.chain }, { on := 4, ground := Ground.guard }], guard := some (4, false) }, { dst := some 59, op := Op.unOp UnOp.not 4 (Operand.tmp 58), type := 4, pos := "l9_register.go:29", after := #[{ on := 7, ground := Ground.data }, { on := 4, ground := Ground.guard }], guard := some (4, false) }, { dst := some 60, op := Op.pick (Operand.tmp 55) (Operand.const (Value.bool true)) (Operand.tmp 59), type := 4, pos := "l9_register.go:29", after := #[{ on := 4, ground := Ground.data }, { on := 8, ground := Ground.data }], guard := none }, { dst := some 61, op := Op.move (Operand.tmp 60), type := 4, pos := "l9_register.go:29", after := #[{ on := 9, ground := Ground.data }, { on := 7, ground := Ground.chain }], guard := none }, { dst := some 62, op := Op.fieldAddr 53 (Operand.tmp 6) 1, type := 0, pos := "l9_register.go:29", after := #[{ on := 10, ground := Ground.guard }], guard := some (10, false) }, { dst := some 63, op := Op.load 4 (Operand.tmp 62), type := 4, pos := "l9_register.go:29", after := #[{ on := 11, ground := Ground.data }, { on := 10, ground := Ground.guard }], guard := some (10, false) }, { dst := some 64, op := Op.unOp UnOp.not 4 (Operand.tmp 63), type := 4, pos := "l9_register.go:29", after := #[{ on := 12, ground := Ground.data }, { on := 10, ground := Ground.guard }], guard := some (10, false) }, { dst := some 65, op := Op.move (Operand.tmp 64), type := 4, pos := "l9_register.go:29", after := #[{ on := 13, ground := Ground.data }, { on := 10, ground := Ground.chain }, { on := 10, ground := Ground.guard }], guard := some (10, false) }, { dst := some 66, op := Op.fieldAddr 53 (Operand.tmp 6) 2, type := 0, pos := "l9_register.go:29", after := #[{ on := 14, ground := Ground.guard }], guard := some (14, true) }, { dst := some 67, op := Op.load 9 (Operand.tmp 66), type := 9, pos := "l9_register.go:29", after := #[{ on := 15, ground := Ground.data }, { on := 14, ground := Ground.guard }], guard := some (14, true) }, { dst := some 68, op := Op.binOp BinOp.neq 9 (Operand.tmp 67) (Operand.const (Value.string { data := #[] })) 9, type := 4, pos := "l9_register.go:29", after := #[{ on := 16, ground := Ground.data }, { on := 14, ground := Ground.guard }], guard := some (14, true) }, { dst := some 69, op := Op.pick (Operand.tmp 65) (Operand.tmp 68) (Operand.const (Value.bool false)), type := 4, pos := "l9_register.go:29", after := #[{ on := 14, ground := Ground.data }, { on := 17, ground := Ground.data }, { on := 10, ground := Ground.guard }], guard := some (10, false) }, { dst := some 70, op := Op.pick (Operand.tmp 61) (Operand.const (Value.bool true)) (Operand.tmp 69), type := 4, pos := "l9_register.go:29", after := #[{ on := 10, ground := Ground.data }, { on := 18, ground := Ground.data }], guard := none }, { dst := some 71, op := Op.move (Operand.tmp 70), type := 4, pos := "l9_register.go:29", after := #[{ on := 19, ground := Ground.data }, { on := 14, ground := Ground.chain }], guard := none }, { dst := some 72, op := Op.fieldAddr 53 (Operand.tmp 6) 3, type := 0, pos := "l9_register.go:29", after := #[{ on := 20, ground := Ground.guard }], guard := some (20, false) }, { dst := some 73, op := Op.load 3 (Operand.tmp 72), type := 3, pos := "l9_register.go:29", after := #[{ on := 21, ground := Ground.data }, { on := 20, ground := Ground.guard }], guard := some (20, false) }, { dst := some 74, op := Op.call { callee := Callee.value (Operand.func 61), args := #[Operand.tmp 73, Operand.const (Value.int IntKind.i64 1), Operand.const (Value.int IntKind.i64 3)], argTypes := #[3, 3, 3] }, type := 4, pos := "l9_register.go:29", after := #[{ on := 22, ground := Ground.data }, { on := 20, ground := Ground.chain }, { on := 20, ground := Ground.guard }], guard := some (20, false) }, { dst := some 75, op := Op.unOp UnOp.not 4 (Operand.tmp 74), type := 4, pos := "l9_register.go:29", after := #[{ on := 23, ground := Ground.data }, { on := 20, ground := Ground.guard }], guard := some (20, false) }, { dst := some 76, op := Op.pick (Operand.tmp 71) (Operand.const (Value.bool true)) (Operand.tmp 75), type := 4, pos := "l9_register.go:29", after := #[{ on := 20, ground := Ground.data }, { on := 24, ground := Ground.data }], guard := none }, { dst := some 77, op := Op.move (Operand.tmp 76), type := 4, pos := "l9_register.go:29", after := #[{ on := 25, ground := Ground.data }, { on := 23, ground := Ground.chain }], guard := none }, { dst := some 78, op := Op.fieldAddr 53 (Operand.tmp 6) 5, type := 0, pos := "l9_register.go:29", after := #[{ on := 26, ground := Ground.guard }], guard := some (26, false) }, { dst := some 79, op := Op.load 48 (Operand.tmp 78), type := 48, pos := "l9_register.go:29", after := #[{ on := 27, ground := Ground.data }, { on := 26, ground := Ground.guard }], guard := some (26, false) }, { dst := some 80, op := Op.call { callee := Callee.value (Operand.func 63), args := #[Operand.tmp 79], argTypes := #[48] }, type := 4, pos := "l9_register.go:29", after := #[{ on := 28, ground := Ground.data }, { on := 26, ground := Ground.chain }, { on := 26, ground := Ground.guard }], guard := some (26, false) }, { dst := some 81, op := Op.unOp UnOp.not 4 (Operand.tmp 80), type := 4, pos := "l9_register.go:29", after := #[{ on := 29, ground := Ground.data }, { on := 26, ground := Ground.guard }], guard := some (26, false) }, { dst := some 82, op := Op.pick (Operand.tmp 77) (Operand.const (Value.bool true)) (Operand.tmp 81), type := 4, pos := "l9_register.go:29", after := #[{ on := 26, ground := Ground.data }, { on := 30, ground := Ground.data }], guard := none }, { dst := some 83, op := Op.move (Operand.tmp 82), type := 4, pos := "l9_register.go:29", after := #[{ on := 31, ground := Ground.data }, { on := 29, ground := Ground.chain }], guard := none }, { dst := some 84, op := Op.fieldAddr 53 (Operand.tmp 6) 6, type := 0, pos := "l9_register.go:29", after := #[{ on := 32, ground := Ground.guard }], guard := some (32, false) }, { dst := some 85, op := Op.load 3 (Operand.tmp 84), type := 3, pos := "l9_register.go:29", after := #[{ on := 33, ground := Ground.data }, { on := 32, ground := Ground.guard }], guard := some (32, false) }, { dst := some 86, op := Op.fieldAddr 29 (Operand.tmp 1) 0, type := 0, pos := "l9_register.go:29", after := #[{ on := 32, ground := Ground.guard }], guard := some (32, false) }, { dst := some 87, op := Op.load 3 (Operand.tmp 86), type := 3, pos := "l9_register.go:29", after := #[{ on := 35, ground := Ground.data }, { on := 32, ground := Ground.guard }], guard := some (32, false) }, { dst := some 88, op := Op.binOp BinOp.sub 3 (Operand.tmp 87) (Operand.const (Value.int IntKind.i64 1)) 3, type := 3, pos := "l9_register.go:29", after := #[{ on := 36, ground := Ground.data }, { on := 32, ground := Ground.guard }], guard := some (32, false) }, { dst := some 89, op := Op.call { callee := Callee.value (Operand.func 61), args := #[Operand.tmp 85, Operand.const (Value.int IntKind.i64 0), Operand.tmp 88], argTypes := #[3, 3, 3] }, type := 4, pos := "l9_register.go:29", after := #[{ on := 34, ground := Ground.data }, { on := 37, ground := Ground.data }, { on := 32, ground := Ground.chain }, { on := 32, ground := Ground.guard }], guard := some (32, false) }, { dst := some 90, op := Op.unOp UnOp.not 4 (Operand.tmp 89), type := 4, pos := "l9_register.go:29", after := #[{ on := 38, ground := Ground.data }, { on := 32, ground := Ground.guard }], guard := some (32, false) }, { dst := some 91, op := Op.pick (Operand.tmp 83) (Operand.const (Value.bool true)) (Operand.tmp 90), type := 4, pos := "l9_register.go:29", after := #[{ on := 32, ground := Ground.data }, { on := 39, ground := Ground.data }], guard := none }, { dst := some 92, op := Op.move (Operand.tmp 91), type := 4, pos := "l9_register.go:29", after := #[{ on := 40, ground := Ground.data }, { on := 38, ground := Ground.chain }], guard := none }].append [{ dst := some 93, op := Op.fieldAddr 53 (Operand.tmp 6) 4, type := 0, pos := "l9_register.go:29", after := #[{ on := 41, ground := Ground.guard }], guard := some (41, false) }, { dst := some 94, op := Op.load 51 (Operand.tmp 93), type := 51, pos := "l9_register.go:29", after := #[{ on := 42, ground := Ground.data }, { on := 41, ground := Ground.guard }], guard := some (41, false) }, { dst := some 95, op := Op.call { callee := Callee.builtin Builtin.len, args := #[Operand.tmp 94], argTypes := #[51] }, type := 3, pos := "l9_register.go:29", after := #[{ on := 43, ground := Ground.data }, { on := 41, ground := Ground.guard }], guard := some (41, false) }, { dst := some 96, op := Op.binOp BinOp.mul 3 (Operand.const (Value.int IntKind.i64 2)) (Operand.tmp 95) 3, type := 3, pos := "l9_register.go:29", after := #[{ on := 44, ground := Ground.data }, { on := 41, ground := Ground.guard }], guard := some (41, false) }, { dst := some 97, op := Op.fieldAddr 29 (Operand.tmp 1) 1, type := 0, pos := "l9_register.go:29", after := #[{ on := 41, ground := Ground.guard }], guard := some (41, false) }, { dst := some 98, op := Op.load 26 (Operand.tmp 97), type := 26, pos := "l9_register.go:29", after := #[{ on := 46, ground := Ground.data }, { on := 41, ground := Ground.guard }], guard := some (41, false) }, { dst := some 99, op := Op.call { callee := Callee.builtin Builtin.len, args := #[Operand.tmp 98], argTypes := #[26] }, type := 3, pos := "l9_register.go:29", after := #[{ on := 47, ground := Ground.data }, { on := 41, ground := Ground.guard }], guard := some (41, false) }, { dst := some 100, op := Op.binOp BinOp.gtr 3 (Operand.tmp 96) (Operand.tmp 99) 3, type := 4, pos := "l9_register.go:29", after := #[{ on := 45, ground := Ground.data }, { on := 48, ground := Ground.data }, { on := 41, ground := Ground.guard }], guard := some (41, false) }, { dst := some 101, op := Op.pick (Operand.tmp 92) (Operand.const (Value.bool true)) (Operand.tmp 100), type := 4, pos := "l9_register.go:29", after := #[{ on := 41, ground := Ground.data }, { on := 49, ground := Ground.data }], guard := none }, { dst := some 102, op := Op.move (Operand.tmp 101), type := 4, pos := "l9_register.go:29", after := #[{ on := 50, ground := Ground.data }, { on := 41, ground := Ground.chain }], guard := none }, { dst := some 103, op := Op.move (Operand.tmp 7), type := 4, pos := "l9_register.go:29", after := #[{ on := 51, ground := Ground.guard }], guard := some (51, false) }, { dst := some 104, op := Op.move (Operand.tmp 103), type := 4, pos := "l9_register.go:29", after := #[{ on := 52, ground := Ground.data }, { on := 51, ground := Ground.chain }, { on := 51, ground := Ground.guard }], guard := some (51, false) }, { dst := some 105, op := Op.fieldAddr 53 (Operand.tmp 6) 4, type := 0, pos := "l9_register.go:29", after := #[{ on := 53, ground := Ground.guard }], guard := some (53, true) }, { dst := some 106, op := Op.load 51 (Operand.tmp 105), type := 51, pos := "l9_register.go:29", after := #[{ on := 54, ground := Ground.data }, { on := 53, ground := Ground.guard }], guard := some (53, true) }, { dst := some 107, op := Op.call { callee := Callee.builtin Builtin.len, args := #[Operand.tmp 106], argTypes := #[51] }, type := 3, pos := "l9_register.go:29", after := #[{ on := 55, ground := Ground.data }, { on := 53, ground := Ground.guard }], guard := some (53, true) }, { dst := some 108, op := Op.binOp BinOp.gtr 3 (Operand.tmp 107) (Operand.const (Value.int IntKind.i64 0)) 3, type := 4, pos := "l9_register.go:29", after := #[{ on := 56, ground := Ground.data }, { on := 53, ground := Ground.guard }], guard := some (53, true) }, { dst := some 109, op := Op.pick (Operand.tmp 104) (Operand.tmp 108) (Operand.const (Value.bool false)), type := 4, pos := "l9_register.go:29", after := #[{ on := 53, ground := Ground.data }, { on := 57, ground := Ground.data }, { on := 51, ground := Ground.guard }], guard := some (51, false) }, { dst := some 110, op := Op.pick (Operand.tmp 102) (Operand.const (Value.bool true)) (Operand.tmp 109), type := 4, pos := "l9_register.go:29", after := #[{ on := 51, ground := Ground.data }, { on := 58, ground := Ground.data }], guard := none }, { dst := some 111, op := Op.move (Operand.tmp 110), type := 4, pos := "l9_register.go:29", after := #[{ on := 59, ground := Ground.data }, { on := 53, ground := Ground.chain }], guard := none }, { dst := some 112, op := Op.move (Operand.tmp 7), type := 4, pos := "l9_register.go:29", after := #[{ on := 60, ground := Ground.guard }], guard := some (60, false) }, { dst := some 113, op := Op.move (Operand.tmp 112), type := 4, pos := "l9_register.go:29", after := #[{ on := 61, ground := Ground.data }, { on := 60, ground := Ground.chain }, { on := 60, ground := Ground.guard }], guard := some (60, false) }, { dst := some 114, op := Op.fieldAddr 53 (Operand.tmp 6) 7, type := 0, pos := "l9_register.go:29", after := #[{ on := 62, ground := Ground.guard }], guard := some (62, true) }, { dst := some 115, op := Op.load 3 (Operand.tmp 114), type := 3, pos := "l9_register.go:29", after := #[{ on := 63, ground := Ground.data }, { on := 62, ground := Ground.guard }], guard := some (62, true) }, { dst := some 116, op := Op.fieldAddr 53 (Operand.tmp 6) 6, type := 0, pos := "l9_register.go:29", after := #[{ on := 62, ground := Ground.guard }], guard := some (62, true) }, { dst := some 117, op := Op.load 3 (Operand.tmp 116), type := 3, pos := "l9_register.go:29", after := #[{ on := 65, ground := Ground.data }, { on := 62, ground := Ground.guard }], guard := some (62, true) }, { dst := some 118, op := Op.binOp BinOp.add 3 (Operand.tmp 117) (Operand.const (Value.int IntKind.i64 1)) 3, type := 3, pos := "l9_register.go:29", after := #[{ on := 66, ground := Ground.data }, { on := 62, ground := Ground.guard }], guard := some (62, true) }, { dst := some 119, op := Op.fieldAddr 29 (Operand.tmp 1) 0, type := 0, pos := "l9_register.go:29", after := #[{ on := 62, ground := Ground.guard }], guard := some (62, true) }, { dst := some 120, op := Op.load 3 (Operand.tmp 119), type := 3, pos := "l9_register.go:29", after := #[{ on := 68, ground := Ground.data }, { on := 62, ground := Ground.guard }], guard := some (62, true) }, { dst := some 121, op := Op.binOp BinOp.sub 3 (Operand.tmp 120) (Operand.const (Value.int IntKind.i64 1)) 3, type := 3, pos := "l9_register.go:29", after := #[{ on := 69, ground := Ground.data }, { on := 62, ground := Ground.guard }], guard := some (62, true) }, { dst := some 122, op := Op.call { callee := Callee.value (Operand.func 61), args := #[Operand.tmp 115, Operand.tmp 118, Operand.tmp 121], argTypes := #[3, 3, 3] }, type := 4, pos := "l9_register.go:29", after := #[{ on := 64, ground := Ground.data }, { on := 67, ground := Ground.data }, { on := 70, ground := Ground.data }, { on := 62, ground := Ground.chain }, { on := 62, ground := Ground.guard }], guard := some (62, true) }, { dst := some 123, op := Op.unOp UnOp.not 4 (Operand.tmp 122), type := 4, pos := "l9_register.go:29", after := #[{ on := 71, ground := Ground.data }, { on := 62, ground := Ground.guard }], guard := some (62, true) }, { dst := some 124, op := Op.pick (Operand.tmp 113) (Operand.tmp 123) (Operand.const (Value.bool false)), type := 4, pos := "l9_register.go:29", after := #[{ on := 62, ground := Ground.data }, { on := 72, ground := Ground.data }, { on := 60, ground := Ground.guard }], guard := some (60, false) }, { dst := some 125, op := Op.pick (Operand.tmp 111) (Operand.const (Value.bool true)) (Operand.tmp 124), type := 4, pos := "l9_register.go:29", after := #[{ on := 60, ground := Ground.data }, { on := 73, ground := Ground.data }], guard := none }, { dst := some 126, op := Op.move (Operand.tmp 125), type := 4, pos := "l9_register.go:29", after := #[{ on := 74, ground := Ground.data }, { on := 71, ground := Ground.chain }], guard := none }, { dst := some 127, op := Op.move (Operand.tmp 7), type := 4, pos := "l9_register.go:29", after := #[{ on := 75, ground := Ground.guard }], guard := some (75, false) }, { dst := some 128, op := Op.unOp UnOp.not 4 (Operand.tmp 127), type := 4, pos := "l9_register.go:29", after := #[{ on := 76, ground := Ground.data }, { on := 75, ground := Ground.guard }], guard := some (75, false) }, { dst := some 129, op := Op.move (Operand.tmp 128), type := 4, pos := "l9_register.go:29", after := #[{ on := 77, ground := Ground.data }, { on := 75, ground := Ground.chain }, { on := 75, ground := Ground.guard }], guard := some (75, false) }, { dst := some 130, op := Op.fieldAddr 53 (Operand.tmp 6) 7, type := 0, pos := "l9_register.go:29", after := #[{ on := 78, ground := Ground.guard }], guard := some (78, true) }, { dst := some 131, op := Op.load 3 (Operand.tmp 130), type := 3, pos := "l9_register.go:29", after := #[{ on := 79, ground := Ground.data }, { on := 78, ground := Ground.guard }], guard := some (78, true) }, { dst := some 132, op := Op.binOp BinOp.neq 3 (Operand.tmp 131) (Operand.const (Value.int IntKind.i64 0)) 3, type := 4, pos := "l9_register.go:29", after := #[{ on := 80, ground := Ground.data }, { on := 78, ground := Ground.guard }], guard := some (78, true) }, { dst := some 133, op := Op.pick (Operand.tmp 129) (Operand.tmp 132) (Operand.const (Value.bool false)), type := 4, pos := "l9_register.go:29", after := #[{ on := 78, ground := Ground.data }, { on := 81, ground := Ground.data }, { on := 75, ground := Ground.guard }], guard := some (75, false) }, { dst := some 134, op := Op.pick (Operand.tmp 126) (Operand.const (Value.bool true)) (Operand.tmp 133), type := 4, pos := "l9_register.go:29", after := #[{ on := 75, ground := Ground.data }, { on := 82, ground := Ground.data }], guard := none }]
set_option maxRecDepth 100000 in
set_option maxHeartbeats 4000000 in
theorem reg13 (x0 : Int) (x1 : Bool) (x2 : ByteArray) (x3 : Int) (x4 : List (Sh.T .int)) (xa1 : Option Addr) (xk1 : Nat) (x5 x6 : Int) (x7 : ByteArray) (x8 x9 : Int) (ck : Int) (nc no : Nat) (a1 a2 : Option Addr) (k1 k2 : Nat) (bo br : Nat) (b w : World) (A : Act) (E : Operand → Value) (Q : Exit → Act → World → Prop)
    (h2 : x2.size ≤ maxLen) (h7 : x7.size ≤ maxLen) (hck : 0 ≤ ck ∧ ck ≤ 1000) (hx4 : x4.length ≤ 1073741824) (hnc : nc ≤ 1073741824)
    (HB : Hid (Bx w bo [.int .i64 x0, .bool x1, .string x2, .int .i64 x3, .slice xa1 x4.length xk1, .int .i64 x5, .int .i64 x6, .string x7, .int .i64 x8, .int .i64 x9] ∧ Bx w br [.int .i64 ck, .slice a1 nc k1, .slice a2 no k2] ∧ Below b.heap.size b w))
    (hV : Ev A E) (hzA : ∀ d, d < 229 → d < A.tmps.size)
    (e1 : E (.tmp 1) = .pointer (some ⟨br, 0, none⟩)) (e6 : E (.tmp 6) = .pointer (some ⟨bo, 0, none⟩)) (e7 : E (.tmp 7) = .bool (x3 == 3))
    (hQ : ∀ B E' w', Ext A B 51 84 → Ev B E' → E' (.tmp 134) = .bool (!(tf (opR ck nc x0 x1 x2 x3 x4 x5 x6 x7 x8 x9))) → Bx w' bo [.int .i64 x0, .bool x1, .string x2, .int .i64 x3, .slice xa1 x4.length xk1, .int .i64 x5, .int .i64 x6, .string x7, .int .i64 x8, .int .i64 x9] ∧ Bx w' br [.int .i64 ck, .slice a1 nc k1, .slice a2 no k2] ∧ Below b.heap.size b w' → Q .normal B w') : wpI Try.prog ops13 Q 0 A w := by
  have h0 : St A A E E 51 0 := St.start hV
  have hw1 : IntKind.i64.wrap (ck - 1) = ck - 1 := w64 (by omega) (by omega)
  have hw2 : IntKind.i64.wrap (2 * (x4.length : Int)) = 2 * (x4.length : Int) := w64 (by omega) (by omega)
  have d0 := (HB.out.1).cell 0 rfl; have d1 := (HB.out.1).cell 1 rfl; have d2 := (HB.out.1).cell 2 rfl; have d3 := (HB.out.1).cell 3 rfl; have d4 := (HB.out.1).cell 4 rfl; have d5 := (HB.out.1).cell 5 rfl; have d6 := (HB.out.1).cell 6 rfl; have d7 := (HB.out.1).cell 7 rfl; have d8 := (HB.out.1).cell 8 rfl; have d9 := (HB.out.1).cell 9 rfl; have dz := (HB.out.1).2
  have s0 := (HB.out.2.1).cell 0 rfl; have s1 := (HB.out.2.1).cell 1 rfl; have s2 := (HB.out.2.1).cell 2 rfl; have sz := (HB.out.2.1).2
  refine si_v (v := ?_) 51 1 rfl h0 wanted_p ?_ (hzA 51 (by decide)) (fun B E h1 e51 ho => ?_)
  rotate_left
  · (have hO := h0.o; go_simp <;> (try with_reducible rfl))
  clear h0 ho
  refine si_v (v := ?_) 52 2 rfl h1 wanted_p ?_ (hzA 52 (by decide)) (fun B E h2 e52 ho => ?_)
  rotate_left
  · (go_simp <;> (try with_reducible rfl))
  clear h1 ho e51
  refine si_c 53 3 rfl h2 wanted_p (l1In_any x0 0 9 _) ?_ (hzA 53 (by decide)) ?_
  · (have hc := h2.c; have hf := h2.f; go_simp <;> (try with_reducible rfl))
  rintro r w' ⟨rfl, rfl⟩
  refine ⟨_, rfl, (fun B E h3 e53 ho => ?_)⟩
  clear h2 ho e52
  cases c0 : inR x0 0 9
  ·
   rw [c0] at e53
   have HN : Hid (tf (opR ck nc x0 x1 x2 x3 x4 x5 x6 x7 x8 x9) = false) := Hid.intro (tf_no (fun q => by rw [inR_iff.2 q.1] at c0; cases c0))
   refine si_v (v := ?_) 54 4 rfl h3 wanted_p ?_ (hzA 54 (by decide)) (fun B E h4 e54 ho => ?_)
   rotate_left
   · (go_simp <;> (try with_reducible rfl))
   clear h3 ho e53
   refine si_v (v := ?_) 55 5 rfl h4 wanted_p ?_ (hzA 55 (by decide)) (fun B E h5 e55 ho => ?_)
   rotate_left
   · (go_simp <;> (try with_reducible rfl))
   clear h4 ho e54
   refine si_nb 4 4 9 59 h5 e55 (hzA 59 (by decide)) (fun B E h9 hu ho => ?_)
   replace e55 := (ho 55 (by decide)).trans e55
   have e59 := hu 59 (by decide) (by decide)
   clear h5 ho hu
   refine si_v (v := ?_) 60 10 rfl h9 wanted_p ?_ (hzA 60 (by decide)) (fun B E h10 e60 ho => ?_)
   rotate_left
   · (have hc := h9.c; go_simp <;> (try with_reducible rfl))
   clear h9 ho e55 e59
   refine si_v (v := ?_) 61 11 rfl h10 wanted_p ?_ (hzA 61 (by decide)) (fun B E h11 e61 ho => ?_)
   rotate_left
   · (go_simp <;> (try with_reducible rfl))
   clear h10 ho e60
   refine si_nb 10 8 19 69 h11 e61 (hzA 69 (by decide)) (fun B E h19 hu ho => ?_)
   replace e61 := (ho 61 (by decide)).trans e61
   have e69 := hu 69 (by decide) (by decide)
   clear h11 ho hu
   refine si_v (v := ?_) 70 20 rfl h19 wanted_p ?_ (hzA 70 (by decide)) (fun B E h20 e70 ho => ?_)
   rotate_left
   · (have hc := h19.c; go_simp <;> (try with_reducible rfl))
   clear h19 ho e69 e61
   refine si_v (v := ?_) 71 21 rfl h20 wanted_p ?_ (hzA 71 (by decide)) (fun B E h21 e71 ho => ?_)
   rotate_left
   · (go_simp <;> (try with_reducible rfl))
   clear h20 ho e70
   refine si_nb 20 4 25 75 h21 e71 (hzA 75 (by decide)) (fun B E h25 hu ho => ?_)
   replace e71 := (ho 71 (by decide)).trans e71
   have e75 := hu 75 (by decide) (by decide)
   clear h21 ho hu
   refine si_v (v := ?_) 76 26 rfl h25 wanted_p ?_ (hzA 76 (by decide)) (fun B E h26 e76 ho => ?_)
   rotate_left
   · (have hc := h25.c; go_simp <;> (try with_reducible rfl))
   clear h25 ho e71 e75
   refine si_v (v := ?_) 77 27 rfl h26 wanted_p ?_ (hzA 77 (by decide)) (fun B E h27 e77 ho => ?_)
   rotate_left
   · (go_simp <;> (try with_reducible rfl))
   clear h26 ho e76
   refine si_nb 26 4 31 81 h27 e77 (hzA 81 (by decide)) (fun B E h31 hu ho => ?_)
   replace e77 := (ho 77 (by decide)).trans e77
   have e81 := hu 81 (by decide) (by decide)
   clear h27 ho hu
   refine si_v (v := ?_) 82 32 rfl h31 wanted_p ?_ (hzA 82 (by decide)) (fun B E h32 e82 ho => ?_)
   rotate_left
   · (have hc := h31.c; go_simp <;> (try with_reducible rfl))
   clear h31 ho e81 e77
   refine si_v (v := ?_) 83 33 rfl h32 wanted_p ?_ (hzA 83 (by decide)) (fun B E h33 e83 ho => ?_)
   rotate_left
   · (go_simp <;> (try with_reducible rfl))
   clear h32 ho e82
   refine si_nb 32 7 40 90 h33 e83 (hzA 90 (by decide)) (fun B E h40 hu ho => ?_)
   replace e83 := (ho 83 (by decide)).trans e83
   have e90 := hu 90 (by decide) (by decide)
   clear h33 ho hu
   refine si_v (v := ?_) 91 41 rfl h40 wanted_p ?_ (hzA 91 (by decide)) (fun B E h41 e91 ho => ?_)
   rotate_left
   · (have hc := h40.c; go_simp <;> (try with_reducible rfl))
   clear h40 ho e83 e90
   refine si_v (v := ?_) 92 42 rfl h41 wanted_p ?_ (hzA 92 (by decide)) (fun B E h42 e92 ho => ?_)
   rotate_left
   · (go_simp <;> (try with_reducible rfl))
   clear h41 ho e91
   refine si_nb 41 8 50 100 h42 e92 (hzA 100 (by decide)) (fun B E h50 hu ho => ?_)
   replace e92 := (ho 92 (by decide)).trans e92
   have e100 := hu 100 (by decide) (by decide)
   clear h42 ho hu
   refine si_v (v := ?_) 101 51 rfl h50 wanted_p ?_ (hzA 101 (by decide)) (fun B E h51 e101 ho => ?_)
   rotate_left
   · (have hc := h50.c; go_simp <;> (try with_reducible rfl))
   clear h50 ho e100 e92
   refine si_v (v := ?_) 102 52 rfl h51 wanted_p ?_ (hzA 102 (by decide)) (fun B E h52 e102 ho => ?_)
   rotate_left
   · (go_simp <;> (try with_reducible rfl))
   clear h51 ho e101
   refine si_nb 51 7 59 109 h52 e102 (hzA 109 (by decide)) (fun B E h59 hu ho => ?_)
   replace e102 := (ho 102 (by decide)).trans e102
   have e109 := hu 109 (by decide) (by decide)
   clear h52 ho hu
   refine si_v (v := ?_) 110 60 rfl h59 wanted_p ?_ (hzA 110 (by decide)) (fun B E h60 e110 ho => ?_)
   rotate_left
   · (have hc := h59.c; go_simp <;> (try with_reducible rfl))
   clear h59 ho e102 e109
   refine si_v (v := ?_) 111 61 rfl h60 wanted_p ?_ (hzA 111 (by decide)) (fun B E h61 e111 ho => ?_)
   rotate_left
   · (go_simp <;> (try with_reducible rfl))
   clear h60 ho e110
   refine si_nb 60 13 74 124 h61 e111 (hzA 124 (by decide)) (fun B E h74 hu ho => ?_)
   replace e111 := (ho 111 (by decide)).trans e111
   have e124 := hu 124 (by decide) (by decide)
   clear h61 ho hu
   refine si_v (v := ?_) 125 75 rfl h74 wanted_p ?_ (hzA 125 (by decide)) (fun B E h75 e125 ho => ?_)
   rotate_left
   · (have hc := h74.c; go_simp <;> (try with_reducible rfl))
   clear h74 ho e124 e111
   refine si_v (v := ?_) 126 76 rfl h75 wanted_p ?_ (hzA 126 (by decide)) (fun B E h76 e126 ho => ?_)
   rotate_left
   · (go_simp <;> (try with_reducible rfl))
   clear h75 ho e125
   refine si_nb 75 7 83 133 h76 e126 (hzA 133 (by decide)) (fun B E h83 hu ho => ?_)
   replace e126 := (ho 126 (by decide)).trans e126
   have e133 := hu 133 (by decide) (by decide)
   clear h76 ho hu
   refine si_v (v := ?_) 134 84 rfl h83 wanted_p ?_ (hzA 134 (by decide)) (fun B E h84 e134 ho => ?_)
   rotate_left
   · (have hc := h83.c; go_simp <;> (try with_reducible rfl))
   clear h83 ho e133 e126
   refine wpI.done rfl ?_
   exact hQ _ _ _ h84.x h84.v (e134.trans (by rw [HN.out]; rfl)) HB.out
  ·
   rw [c0] at e53
   refine si_v (v := ?_) 54 4 rfl h3 wanted_p ?_ (hzA 54 (by decide)) (fun B E h4 e54 ho => ?_)
   rotate_left
   · (go_simp <;> (try with_reducible rfl))
   clear h3 ho e53
   refine si_v (v := ?_) 55 5 rfl h4 wanted_p ?_ (hzA 55 (by decide)) (fun B E h5 e55 ho => ?_)
   rotate_left
   · (go_simp <;> (try with_reducible rfl))
   clear h4 ho e54
   refine si_v (v := ?_) 56 6 rfl h5 (wanted_g h5.v 4 55 false e55) ?_ (hzA 56 (by decide)) (fun B E h6 e56 ho => ?_)
   rotate_left
   · (have hO := h5.o; go_simp <;> (try with_reducible rfl))
   replace e55 := (ho 55 (by decide)).trans e55
   clear h5 ho
   refine si_v (v := ?_) 57 7 rfl h6 (wanted_g h6.v 4 55 false e55) ?_ (hzA 57 (by decide)) (fun B E h7 e57 ho => ?_)
   rotate_left
   · (go_simp <;> (try with_reducible rfl))
   replace e55 := (ho 55 (by decide)).trans e55
   clear h6 ho e56
   refine si_c 58 8 rfl h7 (wanted_g h7.v 4 55 false e55) (l1Value_any x2 _ h2) ?_ (hzA 58 (by decide)) ?_
   · (have hf := h7.f; go_simp <;> (try with_reducible rfl))
   rintro r w' ⟨rfl, rfl⟩
   refine ⟨_, rfl, (fun B E h8 e58 ho => ?_)⟩
   replace e55 := (ho 55 (by decide)).trans e55
   clear h7 ho e57
   cases c1 : valOk x2
   ·
    rw [c1] at e58
    have HN : Hid (tf (opR ck nc x0 x1 x2 x3 x4 x5 x6 x7 x8 x9) = false) := Hid.intro (tf_no (fun q => by rw [q.2.1] at c1; cases c1))
    refine si_v (v := ?_) 59 9 rfl h8 (wanted_g h8.v 4 55 false e55) ?_ (hzA 59 (by decide)) (fun B E h9 e59 ho => ?_)
    rotate_left
    · (go_simp <;> (try with_reducible rfl))
    replace e55 := (ho 55 (by decide)).trans e55
    clear h8 ho e58
    refine si_v (v := ?_) 60 10 rfl h9 wanted_p ?_ (hzA 60 (by decide)) (fun B E h10 e60 ho => ?_)
    rotate_left
    · (have hc := h9.c; go_simp <;> (try with_reducible rfl))
    clear h9 ho e55 e59
    refine si_v (v := ?_) 61 11 rfl h10 wanted_p ?_ (hzA 61 (by decide)) (fun B E h11 e61 ho => ?_)
    rotate_left
    · (go_simp <;> (try with_reducible rfl))
    clear h10 ho e60
    refine si_nb 10 8 19 69 h11 e61 (hzA 69 (by decide)) (fun B E h19 hu ho => ?_)
    replace e61 := (ho 61 (by decide)).trans e61
    have e69 := hu 69 (by decide) (by decide)
    clear h11 ho hu
    refine si_v (v := ?_) 70 20 rfl h19 wanted_p ?_ (hzA 70 (by decide)) (fun B E h20 e70 ho => ?_)
    rotate_left
    · (have hc := h19.c; go_simp <;> (try with_reducible rfl))
    clear h19 ho e69 e61
    refine si_v (v := ?_) 71 21 rfl h20 wanted_p ?_ (hzA 71 (by decide)) (fun B E h21 e71 ho => ?_)
    rotate_left
    · (go_simp <;> (try with_reducible rfl))
    clear h20 ho e70
    refine si_nb 20 4 25 75 h21 e71 (hzA 75 (by decide)) (fun B E h25 hu ho => ?_)
    replace e71 := (ho 71 (by decide)).trans e71
    have e75 := hu 75 (by decide) (by decide)
    clear h21 ho hu
    refine si_v (v := ?_) 76 26 rfl h25 wanted_p ?_ (hzA 76 (by decide)) (fun B E h26 e76 ho => ?_)
    rotate_left
    · (have hc := h25.c; go_simp <;> (try with_reducible rfl))
    clear h25 ho e71 e75
    refine si_v (v := ?_) 77 27 rfl h26 wanted_p ?_ (hzA 77 (by decide)) (fun B E h27 e77 ho => ?_)
    rotate_left
    · (go_simp <;> (try with_reducible rfl))
    clear h26 ho e76
    refine si_nb 26 4 31 81 h27 e77 (hzA 81 (by decide)) (fun B E h31 hu ho => ?_)
    replace e77 := (ho 77 (by decide)).trans e77
    have e81 := hu 81 (by decide) (by decide)
    clear h27 ho hu
    refine si_v (v := ?_) 82 32 rfl h31 wanted_p ?_ (hzA 82 (by decide)) (fun B E h32 e82 ho => ?_)
    rotate_left
    · (have hc := h31.c; go_simp <;> (try with_reducible rfl))
    clear h31 ho e81 e77
    refine si_v (v := ?_) 83 33 rfl h32 wanted_p ?_ (hzA 83 (by decide)) (fun B E h33 e83 ho => ?_)
    rotate_left
    · (go_simp <;> (try with_reducible rfl))
    clear h32 ho e82
    refine si_nb 32 7 40 90 h33 e83 (hzA 90 (by decide)) (fun B E h40 hu ho => ?_)
    replace e83 := (ho 83 (by decide)).trans e83
    have e90 := hu 90 (by decide) (by decide)
    clear h33 ho hu
    refine si_v (v := ?_) 91 41 rfl h40 wanted_p ?_ (hzA 91 (by decide)) (fun B E h41 e91 ho => ?_)
    rotate_left
    · (have hc := h40.c; go_simp <;> (try with_reducible rfl))
    clear h40 ho e83 e90
    refine si_v (v := ?_) 92 42 rfl h41 wanted_p ?_ (hzA 92 (by decide)) (fun B E h42 e92 ho => ?_)
    rotate_left
    · (go_simp <;> (try with_reducible rfl))
    clear h41 ho e91
    refine si_nb 41 8 50 100 h42 e92 (hzA 100 (by decide)) (fun B E h50 hu ho => ?_)
    replace e92 := (ho 92 (by decide)).trans e92
    have e100 := hu 100 (by decide) (by decide)
    clear h42 ho hu
    refine si_v (v := ?_) 101 51 rfl h50 wanted_p ?_ (hzA 101 (by decide)) (fun B E h51 e101 ho => ?_)
    rotate_left
    · (have hc := h50.c; go_simp <;> (try with_reducible rfl))
    clear h50 ho e100 e92
    refine si_v (v := ?_) 102 52 rfl h51 wanted_p ?_ (hzA 102 (by decide)) (fun B E h52 e102 ho => ?_)
    rotate_left
    · (go_simp <;> (try with_reducible rfl))
    clear h51 ho e101
    refine si_nb 51 7 59 109 h52 e102 (hzA 109 (by decide)) (fun B E h59 hu ho => ?_)
    replace e102 := (ho 102 (by decide)).trans e102
    have e109 := hu 109 (by decide) (by decide)
    clear h52 ho hu
    refine si_v (v := ?_) 110 60 rfl h59 wanted_p ?_ (hzA 110 (by decide)) (fun B E h60 e110 ho => ?_)
    rotate_left
    · (have hc := h59.c; go_simp <;> (try with_reducible rfl))
    clear h59 ho e102 e109
    refine si_v (v := ?_) 111 61 rfl h60 wanted_p ?_ (hzA 111 (by decide)) (fun B E h61 e111 ho => ?_)
    rotate_left
    · (go_simp <;> (try with_reducible rfl))
    clear h60 ho e110
    refine si_nb 60 13 74 124 h61 e111 (hzA 124 (by decide)) (fun B E h74 hu ho => ?_)
    replace e111 := (ho 111 (by decide)).trans e111
    have e124 := hu 124 (by decide) (by decide)
    clear h61 ho hu
    refine si_v (v := ?_) 125 75 rfl h74 wanted_p ?_ (hzA 125 (by decide)) (fun B E h75 e125 ho => ?_)
    rotate_left
    · (have hc := h74.c; go_simp <;> (try with_reducible rfl))
    clear h74 ho e124 e111
    refine si_v (v := ?_) 126 76 rfl h75 wanted_p ?_ (hzA 126 (by decide)) (fun B E h76 e126 ho => ?_)
    rotate_left
    · (go_simp <;> (try with_reducible rfl))
    clear h75 ho e125
    refine si_nb 75 7 83 133 h76 e126 (hzA 133 (by decide)) (fun B E h83 hu ho => ?_)
    replace e126 := (ho 126 (by decide)).trans e126
    have e133 := hu 133 (by decide) (by decide)
    clear h76 ho hu
    refine si_v (v := ?_) 134 84 rfl h83 wanted_p ?_ (hzA 134 (by decide)) (fun B E h84 e134 ho => ?_)
    rotate_left
    · (have hc := h83.c; go_simp <;> (try with_reducible rfl))
    clear h83 ho e133 e126
    refine wpI.done rfl ?_
    exact hQ _ _ _ h84.x h84.v (e134.trans (by rw [HN.out]; rfl)) HB.out
   ·
    rw [c1] at e58
    refine si_v (v := ?_) 59 9 rfl h8 (wanted_g h8.v 4 55 false e55) ?_ (hzA 59 (by decide)) (fun B E h9 e59 ho => ?_)
    rotate_left
    · (go_simp <;> (try with_reducible rfl))
    replace e55 := (ho 55 (by decide)).trans e55
    clear h8 ho e58
    refine si_v (v := ?_) 60 10 rfl h9 wanted_p ?_ (hzA 60 (by decide)) (fun B E h10 e60 ho => ?_)
    rotate_left
    · (have hc := h9.c; go_simp <;> (try with_reducible rfl))
    clear h9 ho e55 e59
    refine si_v (v := ?_) 61 11 rfl h10 wanted_p ?_ (hzA 61 (by decide)) (fun B E h11 e61 ho => ?_)
    rotate_left
    · (go_simp <;> (try with_reducible rfl))
    clear h10 ho e60
    refine si_v (v := ?_) 62 12 rfl h11 (wanted_g h11.v 10 61 false e61) ?_ (hzA 62 (by decide)) (fun B E h12 e62 ho => ?_)
    rotate_left
    · (have hO := h11.o; go_simp <;> (try with_reducible rfl))
    replace e61 := (ho 61 (by decide)).trans e61
    clear h11 ho
    refine si_v (v := ?_) 63 13 rfl h12 (wanted_g h12.v 10 61 false e61) ?_ (hzA 63 (by decide)) (fun B E h13 e63 ho => ?_)
    rotate_left
    · (go_simp <;> (try with_reducible rfl))
    replace e61 := (ho 61 (by decide)).trans e61
    clear h12 ho e62
    rcases Bool.eq_false_or_eq_true x1 with hx1 | hx1
    ·
     rw [hx1] at e63
     have HX1 : Hid (x1 = true ∨ x2.size = 0) := Or.inl hx1
     clear hx1
     refine si_v (v := ?_) 64 14 rfl h13 (wanted_g h13.v 10 61 false e61) ?_ (hzA 64 (by decide)) (fun B E h14 e64 ho => ?_)
     rotate_left
     · (go_simp <;> (try with_reducible rfl))
     replace e61 := (ho 61 (by decide)).trans e61
     clear h13 ho e63
     refine si_v (v := ?_) 65 15 rfl h14 (wanted_g h14.v 10 61 false e61) ?_ (hzA 65 (by decide)) (fun B E h15 e65 ho => ?_)
     rotate_left
     · (go_simp <;> (try with_reducible rfl))
     replace e61 := (ho 61 (by decide)).trans e61
     clear h14 ho e64
     refine si_nb 14 3 18 68 h15 e65 (hzA 68 (by decide)) (fun B E h18 hu ho => ?_)
     replace e61 := (ho 61 (by decide)).trans e61
     replace e65 := (ho 65 (by decide)).trans e65
     have e68 := hu 68 (by decide) (by decide)
     clear h15 ho hu
     refine si_v (v := ?_) 69 19 rfl h18 (wanted_g h18.v 10 61 false e61) ?_ (hzA 69 (by decide)) (fun B E h19 e69 ho => ?_)
     rotate_left
     · (have hc := h18.c; go_simp <;> (try with_reducible rfl))
     replace e61 := (ho 61 (by decide)).trans e61
     clear h18 ho e65 e68
     refine si_v (v := ?_) 70 20 rfl h19 wanted_p ?_ (hzA 70 (by decide)) (fun B E h20 e70 ho => ?_)
     rotate_left
     · (have hc := h19.c; go_simp <;> (try with_reducible rfl))
     clear h19 ho e69 e61
     refine si_v (v := ?_) 71 21 rfl h20 wanted_p ?_ (hzA 71 (by decide)) (fun B E h21 e71 ho => ?_)
     rotate_left
     · (go_simp <;> (try with_reducible rfl))
     clear h20 ho e70
     refine si_v (v := ?_) 72 22 rfl h21 (wanted_g h21.v 20 71 false e71) ?_ (hzA 72 (by decide)) (fun B E h22 e72 ho => ?_)
     rotate_left
     · (have hO := h21.o; go_simp <;> (try with_reducible rfl))
     replace e71 := (ho 71 (by decide)).trans e71
     clear h21 ho
     refine si_v (v := ?_) 73 23 rfl h22 (wanted_g h22.v 20 71 false e71) ?_ (hzA 73 (by decide)) (fun B E h23 e73 ho => ?_)
     rotate_left
     · (go_simp <;> (try with_reducible rfl))
     replace e71 := (ho 71 (by decide)).trans e71
     clear h22 ho e72
     refine si_c 74 24 rfl h23 (wanted_g h23.v 20 71 false e71) (l1In_any x3 1 3 _) ?_ (hzA 74 (by decide)) ?_
     · (have hc := h23.c; have hf := h23.f; go_simp <;> (try with_reducible rfl))
     rintro r w' ⟨rfl, rfl⟩
     refine ⟨_, rfl, (fun B E h24 e74 ho => ?_)⟩
     replace e71 := (ho 71 (by decide)).trans e71
     clear h23 ho e73
     cases c3 : inR x3 1 3
     ·
      rw [c3] at e74
      have HN : Hid (tf (opR ck nc x0 x1 x2 x3 x4 x5 x6 x7 x8 x9) = false) := Hid.intro (tf_no (fun q => by rw [inR_iff.2 q.2.2.2.1] at c3; cases c3))
      refine si_v (v := ?_) 75 25 rfl h24 (wanted_g h24.v 20 71 false e71) ?_ (hzA 75 (by decide)) (fun B E h25 e75 ho => ?_)
      rotate_left
      · (go_simp <;> (try with_reducible rfl))
      replace e71 := (ho 71 (by decide)).trans e71
      clear h24 ho e74
      refine si_v (v := ?_) 76 26 rfl h25 wanted_p ?_ (hzA 76 (by decide)) (fun B E h26 e76 ho => ?_)
      rotate_left
      · (have hc := h25.c; go_simp <;> (try with_reducible rfl))
      clear h25 ho e71 e75
      refine si_v (v := ?_) 77 27 rfl h26 wanted_p ?_ (hzA 77 (by decide)) (fun B E h27 e77 ho => ?_)
      rotate_left
      · (go_simp <;> (try with_reducible rfl))
      clear h26 ho e76
      refine si_nb 26 4 31 81 h27 e77 (hzA 81 (by decide)) (fun B E h31 hu ho => ?_)
      replace e77 := (ho 77 (by decide)).trans e77
      have e81 := hu 81 (by decide) (by decide)
      clear h27 ho hu
      refine si_v (v := ?_) 82 32 rfl h31 wanted_p ?_ (hzA 82 (by decide)) (fun B E h32 e82 ho => ?_)
      rotate_left
      · (have hc := h31.c; go_simp <;> (try with_reducible rfl))
      clear h31 ho e81 e77
      refine si_v (v := ?_) 83 33 rfl h32 wanted_p ?_ (hzA 83 (by decide)) (fun B E h33 e83 ho => ?_)
      rotate_left
      · (go_simp <;> (try with_reducible rfl))
      clear h32 ho e82
      refine si_nb 32 7 40 90 h33 e83 (hzA 90 (by decide)) (fun B E h40 hu ho => ?_)
      replace e83 := (ho 83 (by decide)).trans e83
      have e90 := hu 90 (by decide) (by decide)
      clear h33 ho hu
      refine si_v (v := ?_) 91 41 rfl h40 wanted_p ?_ (hzA 91 (by decide)) (fun B E h41 e91 ho => ?_)
      rotate_left
      · (have hc := h40.c; go_simp <;> (try with_reducible rfl))
      clear h40 ho e83 e90
      refine si_v (v := ?_) 92 42 rfl h41 wanted_p ?_ (hzA 92 (by decide)) (fun B E h42 e92 ho => ?_)
      rotate_left
      · (go_simp <;> (try with_reducible rfl))
      clear h41 ho e91
      refine si_nb 41 8 50 100 h42 e92 (hzA 100 (by decide)) (fun B E h50 hu ho => ?_)
      replace e92 := (ho 92 (by decide)).trans e92
      have e100 := hu 100 (by decide) (by decide)
      clear h42 ho hu
      refine si_v (v := ?_) 101 51 rfl h50 wanted_p ?_ (hzA 101 (by decide)) (fun B E h51 e101 ho => ?_)
      rotate_left
      · (have hc := h50.c; go_simp <;> (try with_reducible rfl))
      clear h50 ho e100 e92
      refine si_v (v := ?_) 102 52 rfl h51 wanted_p ?_ (hzA 102 (by decide)) (fun B E h52 e102 ho => ?_)
      rotate_left
      · (go_simp <;> (try with_reducible rfl))
      clear h51 ho e101
      refine si_nb 51 7 59 109 h52 e102 (hzA 109 (by decide)) (fun B E h59 hu ho => ?_)
      replace e102 := (ho 102 (by decide)).trans e102
      have e109 := hu 109 (by decide) (by decide)
      clear h52 ho hu
      refine si_v (v := ?_) 110 60 rfl h59 wanted_p ?_ (hzA 110 (by decide)) (fun B E h60 e110 ho => ?_)
      rotate_left
      · (have hc := h59.c; go_simp <;> (try with_reducible rfl))
      clear h59 ho e102 e109
      refine si_v (v := ?_) 111 61 rfl h60 wanted_p ?_ (hzA 111 (by decide)) (fun B E h61 e111 ho => ?_)
      rotate_left
      · (go_simp <;> (try with_reducible rfl))
      clear h60 ho e110
      refine si_nb 60 13 74 124 h61 e111 (hzA 124 (by decide)) (fun B E h74 hu ho => ?_)
      replace e111 := (ho 111 (by decide)).trans e111
      have e124 := hu 124 (by decide) (by decide)
      clear h61 ho hu
      refine si_v (v := ?_) 125 75 rfl h74 wanted_p ?_ (hzA 125 (by decide)) (fun B E h75 e125 ho => ?_)
      rotate_left
      · (have hc := h74.c; go_simp <;> (try with_reducible rfl))
      clear h74 ho e124 e111
      refine si_v (v := ?_) 126 76 rfl h75 wanted_p ?_ (hzA 126 (by decide)) (fun B E h76 e126 ho => ?_)
      rotate_left
      · (go_simp <;> (try with_reducible rfl))
      clear h75 ho e125
      refine si_nb 75 7 83 133 h76 e126 (hzA 133 (by decide)) (fun B E h83 hu ho => ?_)
      replace e126 := (ho 126 (by decide)).trans e126
      have e133 := hu 133 (by decide) (by decide)
      clear h76 ho hu
      refine si_v (v := ?_) 134 84 rfl h83 wanted_p ?_ (hzA 134 (by decide)) (fun B E h84 e134 ho => ?_)
      rotate_left
      · (have hc := h83.c; go_simp <;> (try with_reducible rfl))
      clear h83 ho e133 e126
      refine wpI.done rfl ?_
      exact hQ _ _ _ h84.x h84.v (e134.trans (by rw [HN.out]; rfl)) HB.out
     ·
      rw [c3] at e74
      refine si_v (v := ?_) 75 25 rfl h24 (wanted_g h24.v 20 71 false e71) ?_ (hzA 75 (by decide)) (fun B E h25 e75 ho => ?_)
      rotate_left
      · (go_simp <;> (try with_reducible rfl))
      replace e71 := (ho 71 (by decide)).trans e71
      clear h24 ho e74
      refine si_v (v := ?_) 76 26 rfl h25 wanted_p ?_ (hzA 76 (by decide)) (fun B E h26 e76 ho => ?_)
      rotate_left
      · (have hc := h25.c; go_simp <;> (try with_reducible rfl))
      clear h25 ho e71 e75
      refine si_v (v := ?_) 77 27 rfl h26 wanted_p ?_ (hzA 77 (by decide)) (fun B E h27 e77 ho => ?_)
      rotate_left
      · (go_simp <;> (try with_reducible rfl))
      clear h26 ho e76
      refine si_v (v := ?_) 78 28 rfl h27 (wanted_g h27.v 26 77 false e77) ?_ (hzA 78 (by decide)) (fun B E h28 e78 ho => ?_)
      rotate_left
      · (have hO := h27.o; go_simp <;> (try with_reducible rfl))
      replace e77 := (ho 77 (by decide)).trans e77
      clear h27 ho
      refine si_v (v := ?_) 79 29 rfl h28 (wanted_g h28.v 26 77 false e77) ?_ (hzA 79 (by decide)) (fun B E h29 e79 ho => ?_)
      rotate_left
      · (go_simp <;> (try with_reducible rfl))
      replace e77 := (ho 77 (by decide)).trans e77
      clear h28 ho e78
      refine si_c 80 30 rfl h29 (wanted_g h29.v 26 77 false e77) (l9Copy_n x5 x6 x7 _ h7) ?_ (hzA 80 (by decide)) ?_
      · (have hf := h29.f; go_simp <;> (try with_reducible rfl))
      rintro r w' ⟨rfl, hb⟩
      have d0 := (HB.out.1.next hb).cell 0 rfl; have d1 := (HB.out.1.next hb).cell 1 rfl; have d2 := (HB.out.1.next hb).cell 2 rfl; have d3 := (HB.out.1.next hb).cell 3 rfl; have d4 := (HB.out.1.next hb).cell 4 rfl; have d5 := (HB.out.1.next hb).cell 5 rfl; have d6 := (HB.out.1.next hb).cell 6 rfl; have d7 := (HB.out.1.next hb).cell 7 rfl; have d8 := (HB.out.1.next hb).cell 8 rfl; have d9 := (HB.out.1.next hb).cell 9 rfl; have dz := (HB.out.1.next hb).2
      have s0 := (HB.out.2.1.next hb).cell 0 rfl; have s1 := (HB.out.2.1.next hb).cell 1 rfl; have s2 := (HB.out.2.1.next hb).cell 2 rfl; have sz := (HB.out.2.1.next hb).2
      have HB : Hid (Bx w' bo [.int .i64 x0, .bool x1, .string x2, .int .i64 x3, .slice xa1 x4.length xk1, .int .i64 x5, .int .i64 x6, .string x7, .int .i64 x8, .int .i64 x9] ∧ Bx w' br [.int .i64 ck, .slice a1 nc k1, .slice a2 no k2] ∧ Below b.heap.size b w') := ⟨HB.out.1.next hb, HB.out.2.1.next hb, below_next HB.out.2.2 hb⟩
      clear hb
      refine ⟨_, rfl, (fun B E h30 e80 ho => ?_)⟩
      replace e77 := (ho 77 (by decide)).trans e77
      clear h29 ho e79
      by_cases e : copP x5 x6 x7
      ·
       rw [tf_yes e] at e80
       refine si_v (v := ?_) 81 31 rfl h30 (wanted_g h30.v 26 77 false e77) ?_ (hzA 81 (by decide)) (fun B E h31 e81 ho => ?_)
       rotate_left
       · (go_simp <;> (try with_reducible rfl))
       replace e77 := (ho 77 (by decide)).trans e77
       clear h30 ho e80
       refine si_v (v := ?_) 82 32 rfl h31 wanted_p ?_ (hzA 82 (by decide)) (fun B E h32 e82 ho => ?_)
       rotate_left
       · (have hc := h31.c; go_simp <;> (try with_reducible rfl))
       clear h31 ho e81 e77
       refine si_v (v := ?_) 83 33 rfl h32 wanted_p ?_ (hzA 83 (by decide)) (fun B E h33 e83 ho => ?_)
       rotate_left
       · (go_simp <;> (try with_reducible rfl))
       clear h32 ho e82
       refine si_v (v := ?_) 84 34 rfl h33 (wanted_g h33.v 32 83 false e83) ?_ (hzA 84 (by decide)) (fun B E h34 e84 ho => ?_)
       rotate_left
       · (have hO := h33.o; go_simp <;> (try with_reducible rfl))
       replace e83 := (ho 83 (by decide)).trans e83
       clear h33 ho
       refine si_v (v := ?_) 85 35 rfl h34 (wanted_g h34.v 32 83 false e83) ?_ (hzA 85 (by decide)) (fun B E h35 e85 ho => ?_)
       rotate_left
       · (go_simp <;> (try with_reducible rfl))
       replace e83 := (ho 83 (by decide)).trans e83
       clear h34 ho e84
       refine si_v (v := ?_) 86 36 rfl h35 (wanted_g h35.v 32 83 false e83) ?_ (hzA 86 (by decide)) (fun B E h36 e86 ho => ?_)
       rotate_left
       · (have hO := h35.o; go_simp <;> (try with_reducible rfl))
       replace e83 := (ho 83 (by decide)).trans e83
       replace e85 := (ho 85 (by decide)).trans e85
       clear h35 ho
       refine si_v (v := ?_) 87 37 rfl h36 (wanted_g h36.v 32 83 false e83) ?_ (hzA 87 (by decide)) (fun B E h37 e87 ho => ?_)
       rotate_left
       · (go_simp <;> (try with_reducible rfl))
       replace e83 := (ho 83 (by decide)).trans e83
       replace e85 := (ho 85 (by decide)).trans e85
       clear h36 ho e86
       refine si_v (v := ?_) 88 38 rfl h37 (wanted_g h37.v 32 83 false e83) ?_ (hzA 88 (by decide)) (fun B E h38 e88 ho => ?_)
       rotate_left
       · (have hc := h37.c; go_simp <;> (try with_reducible rfl))
       replace e83 := (ho 83 (by decide)).trans e83
       replace e85 := (ho 85 (by decide)).trans e85
       clear h37 ho e87
       refine si_c 89 39 rfl h38 (wanted_g h38.v 32 83 false e83) (l1In_any x8 0 (ck - 1) _) ?_ (hzA 89 (by decide)) ?_
       · (have hc := h38.c; have hf := h38.f; go_simp <;> (try with_reducible rfl))
       rintro r w' ⟨rfl, rfl⟩
       refine ⟨_, rfl, (fun B E h39 e89 ho => ?_)⟩
       replace e83 := (ho 83 (by decide)).trans e83
       clear h38 ho e85 e88
       cases c5 : inR x8 0 (ck - 1)
       ·
        rw [c5] at e89
        have HN : Hid (tf (opR ck nc x0 x1 x2 x3 x4 x5 x6 x7 x8 x9) = false) := Hid.intro (tf_no (fun q => by rw [inR_iff.2 q.2.2.2.2.2.1] at c5; cases c5))
        refine si_v (v := ?_) 90 40 rfl h39 (wanted_g h39.v 32 83 false e83) ?_ (hzA 90 (by decide)) (fun B E h40 e90 ho => ?_)
        rotate_left
        · (go_simp <;> (try with_reducible rfl))
        replace e83 := (ho 83 (by decide)).trans e83
        clear h39 ho e89
        refine si_v (v := ?_) 91 41 rfl h40 wanted_p ?_ (hzA 91 (by decide)) (fun B E h41 e91 ho => ?_)
        rotate_left
        · (have hc := h40.c; go_simp <;> (try with_reducible rfl))
        clear h40 ho e83 e90
        refine si_v (v := ?_) 92 42 rfl h41 wanted_p ?_ (hzA 92 (by decide)) (fun B E h42 e92 ho => ?_)
        rotate_left
        · (go_simp <;> (try with_reducible rfl))
        clear h41 ho e91
        refine si_nb 41 8 50 100 h42 e92 (hzA 100 (by decide)) (fun B E h50 hu ho => ?_)
        replace e92 := (ho 92 (by decide)).trans e92
        have e100 := hu 100 (by decide) (by decide)
        clear h42 ho hu
        refine si_v (v := ?_) 101 51 rfl h50 wanted_p ?_ (hzA 101 (by decide)) (fun B E h51 e101 ho => ?_)
        rotate_left
        · (have hc := h50.c; go_simp <;> (try with_reducible rfl))
        clear h50 ho e100 e92
        refine si_v (v := ?_) 102 52 rfl h51 wanted_p ?_ (hzA 102 (by decide)) (fun B E h52 e102 ho => ?_)
        rotate_left
        · (go_simp <;> (try with_reducible rfl))
        clear h51 ho e101
        refine si_nb 51 7 59 109 h52 e102 (hzA 109 (by decide)) (fun B E h59 hu ho => ?_)
        replace e102 := (ho 102 (by decide)).trans e102
        have e109 := hu 109 (by decide) (by decide)
        clear h52 ho hu
        refine si_v (v := ?_) 110 60 rfl h59 wanted_p ?_ (hzA 110 (by decide)) (fun B E h60 e110 ho => ?_)
        rotate_left
        · (have hc := h59.c; go_simp <;> (try with_reducible rfl))
        clear h59 ho e102 e109
        refine si_v (v := ?_) 111 61 rfl h60 wanted_p ?_ (hzA 111 (by decide)) (fun B E h61 e111 ho => ?_)
        rotate_left
        · (go_simp <;> (try with_reducible rfl))
        clear h60 ho e110
        refine si_nb 60 13 74 124 h61 e111 (hzA 124 (by decide)) (fun B E h74 hu ho => ?_)
        replace e111 := (ho 111 (by decide)).trans e111
        have e124 := hu 124 (by decide) (by decide)
        clear h61 ho hu
        refine si_v (v := ?_) 125 75 rfl h74 wanted_p ?_ (hzA 125 (by decide)) (fun B E h75 e125 ho => ?_)
        rotate_left
        · (have hc := h74.c; go_simp <;> (try with_reducible rfl))
        clear h74 ho e124 e111
        refine si_v (v := ?_) 126 76 rfl h75 wanted_p ?_ (hzA 126 (by decide)) (fun B E h76 e126 ho => ?_)
        rotate_left
        · (go_simp <;> (try with_reducible rfl))
        clear h75 ho e125
        refine si_nb 75 7 83 133 h76 e126 (hzA 133 (by decide)) (fun B E h83 hu ho => ?_)
        replace e126 := (ho 126 (by decide)).trans e126
        have e133 := hu 133 (by decide) (by decide)
        clear h76 ho hu
        refine si_v (v := ?_) 134 84 rfl h83 wanted_p ?_ (hzA 134 (by decide)) (fun B E h84 e134 ho => ?_)
        rotate_left
        · (have hc := h83.c; go_simp <;> (try with_reducible rfl))
        clear h83 ho e133 e126
        refine wpI.done rfl ?_
        exact hQ _ _ _ h84.x h84.v (e134.trans (by rw [HN.out]; rfl)) HB.out
       ·
        rw [c5] at e89
        have hx8 := inR_iff.1 c5
        have hw3 : IntKind.i64.wrap (x8 + 1) = x8 + 1 := w64 (by omega) (by omega)
        refine si_v (v := ?_) 90 40 rfl h39 (wanted_g h39.v 32 83 false e83) ?_ (hzA 90 (by decide)) (fun B E h40 e90 ho => ?_)
        rotate_left
        · (go_simp <;> (try with_reducible rfl))
        replace e83 := (ho 83 (by decide)).trans e83
        clear h39 ho e89
        refine si_v (v := ?_) 91 41 rfl h40 wanted_p ?_ (hzA 91 (by decide)) (fun B E h41 e91 ho => ?_)
        rotate_left
        · (have hc := h40.c; go_simp <;> (try with_reducible rfl))
        clear h40 ho e83 e90
        refine si_v (v := ?_) 92 42 rfl h41 wanted_p ?_ (hzA 92 (by decide)) (fun B E h42 e92 ho => ?_)
        rotate_left
        · (go_simp <;> (try with_reducible rfl))
        clear h41 ho e91
        refine si_v (v := ?_) 93 43 rfl h42 (wanted_g h42.v 41 92 false e92) ?_ (hzA 93 (by decide)) (fun B E h43 e93 ho => ?_)
        rotate_left
        · (have hO := h42.o; go_simp <;> (try with_reducible rfl))
        replace e92 := (ho 92 (by decide)).trans e92
        clear h42 ho
        refine si_v (v := ?_) 94 44 rfl h43 (wanted_g h43.v 41 92 false e92) ?_ (hzA 94 (by decide)) (fun B E h44 e94 ho => ?_)
        rotate_left
        · (go_simp <;> (try with_reducible rfl))
        replace e92 := (ho 92 (by decide)).trans e92
        clear h43 ho e93
        refine si_v (v := ?_) 95 45 rfl h44 (wanted_g h44.v 41 92 false e92) ?_ (hzA 95 (by decide)) (fun B E h45 e95 ho => ?_)
        rotate_left
        · (go_simp <;> (try with_reducible rfl))
        replace e92 := (ho 92 (by decide)).trans e92
        clear h44 ho e94
        refine si_v (v := ?_) 96 46 rfl h45 (wanted_g h45.v 41 92 false e92) ?_ (hzA 96 (by decide)) (fun B E h46 e96 ho => ?_)
        rotate_left
        · (have hc := h45.c; go_simp <;> (try with_reducible rfl))
        replace e92 := (ho 92 (by decide)).trans e92
        clear h45 ho e95
        refine si_v (v := ?_) 97 47 rfl h46 (wanted_g h46.v 41 92 false e92) ?_ (hzA 97 (by decide)) (fun B E h47 e97 ho => ?_)
        rotate_left
        · (have hO := h46.o; go_simp <;> (try with_reducible rfl))
        replace e92 := (ho 92 (by decide)).trans e92
        replace e96 := (ho 96 (by decide)).trans e96
        clear h46 ho
        refine si_v (v := ?_) 98 48 rfl h47 (wanted_g h47.v 41 92 false e92) ?_ (hzA 98 (by decide)) (fun B E h48 e98 ho => ?_)
        rotate_left
        · (go_simp <;> (try with_reducible rfl))
        replace e92 := (ho 92 (by decide)).trans e92
        replace e96 := (ho 96 (by decide)).trans e96
        clear h47 ho e97
        refine si_v (v := ?_) 99 49 rfl h48 (wanted_g h48.v 41 92 false e92) ?_ (hzA 99 (by decide)) (fun B E h49 e99 ho => ?_)
        rotate_left
        · (go_simp <;> (try with_reducible rfl))
        replace e92 := (ho 92 (by decide)).trans e92
        replace e96 := (ho 96 (by decide)).trans e96
        clear h48 ho e98
        refine si_v (v := ?_) 100 50 rfl h49 (wanted_g h49.v 41 92 false e92) ?_ (hzA 100 (by decide)) (fun B E h50 e100 ho => ?_)
        rotate_left
        · (go_simp <;> (try with_reducible rfl))
        replace e92 := (ho 92 (by decide)).trans e92
        clear h49 ho e96 e99
        by_cases c6 : (nc : Int) < 2 * (x4.length : Int)
        ·
         replace e100 := e100.trans (congrArg Value.bool (decide_eq_true c6))
         have HN : Hid (tf (opR ck nc x0 x1 x2 x3 x4 x5 x6 x7 x8 x9) = false) := Hid.intro (tf_no (fun q => by have := q.2.2.2.2.2.2.1; omega))
         refine si_v (v := ?_) 101 51 rfl h50 wanted_p ?_ (hzA 101 (by decide)) (fun B E h51 e101 ho => ?_)
         rotate_left
         · (have hc := h50.c; go_simp <;> (try with_reducible rfl))
         clear h50 ho e100 e92
         refine si_v (v := ?_) 102 52 rfl h51 wanted_p ?_ (hzA 102 (by decide)) (fun B E h52 e102 ho => ?_)
         rotate_left
         · (go_simp <;> (try with_reducible rfl))
         clear h51 ho e101
         refine si_nb 51 7 59 109 h52 e102 (hzA 109 (by decide)) (fun B E h59 hu ho => ?_)
         replace e102 := (ho 102 (by decide)).trans e102
         have e109 := hu 109 (by decide) (by decide)
         clear h52 ho hu
         refine si_v (v := ?_) 110 60 rfl h59 wanted_p ?_ (hzA 110 (by decide)) (fun B E h60 e110 ho => ?_)
         rotate_left
         · (have hc := h59.c; go_simp <;> (try with_reducible rfl))
         clear h59 ho e102 e109
         refine si_v (v := ?_) 111 61 rfl h60 wanted_p ?_ (hzA 111 (by decide)) (fun B E h61 e111 ho => ?_)
         rotate_left
         · (go_simp <;> (try with_reducible rfl))
         clear h60 ho e110
         refine si_nb 60 13 74 124 h61 e111 (hzA 124 (by decide)) (fun B E h74 hu ho => ?_)
         replace e111 := (ho 111 (by decide)).trans e111
         have e124 := hu 124 (by decide) (by decide)
         clear h61 ho hu
         refine si_v (v := ?_) 125 75 rfl h74 wanted_p ?_ (hzA 125 (by decide)) (fun B E h75 e125 ho => ?_)
         rotate_left
         · (have hc := h74.c; go_simp <;> (try with_reducible rfl))
         clear h74 ho e124 e111
         refine si_v (v := ?_) 126 76 rfl h75 wanted_p ?_ (hzA 126 (by decide)) (fun B E h76 e126 ho => ?_)
         rotate_left
         · (go_simp <;> (try with_reducible rfl))
         clear h75 ho e125
         refine si_nb 75 7 83 133 h76 e126 (hzA 133 (by decide)) (fun B E h83 hu ho => ?_)
         replace e126 := (ho 126 (by decide)).trans e126
         have e133 := hu 133 (by decide) (by decide)
         clear h76 ho hu
         refine si_v (v := ?_) 134 84 rfl h83 wanted_p ?_ (hzA 134 (by decide)) (fun B E h84 e134 ho => ?_)
         rotate_left
         · (have hc := h83.c; go_simp <;> (try with_reducible rfl))
         clear h83 ho e133 e126
         refine wpI.done rfl ?_
         exact hQ _ _ _ h84.x h84.v (e134.trans (by rw [HN.out]; rfl)) HB.out
        ·
         replace e100 := e100.trans (congrArg Value.bool (decide_eq_false c6))
         refine si_v (v := ?_) 101 51 rfl h50 wanted_p ?_ (hzA 101 (by decide)) (fun B E h51 e101 ho => ?_)
         rotate_left
         · (have hc := h50.c; go_simp <;> (try with_reducible rfl))
         clear h50 ho e100 e92
         refine si_v (v := ?_) 102 52 rfl h51 wanted_p ?_ (hzA 102 (by decide)) (fun B E h52 e102 ho => ?_)
         rotate_left
         · (go_simp <;> (try with_reducible rfl))
         clear h51 ho e101
         refine si_v (v := ?_) 103 53 rfl h52 (wanted_g h52.v 51 102 false e102) ?_ (hzA 103 (by decide)) (fun B E h53 e103 ho => ?_)
         rotate_left
         · (have hO := h52.o; go_simp <;> (try with_reducible rfl))
         replace e102 := (ho 102 (by decide)).trans e102
         clear h52 ho
         by_cases c7 : x3 = 3
         ·
          have c7a : (x3 == 3) = true := by simpa using c7
          rw [c7a] at e7 e103
          refine si_v (v := ?_) 104 54 rfl h53 (wanted_g h53.v 51 102 false e102) ?_ (hzA 104 (by decide)) (fun B E h54 e104 ho => ?_)
          rotate_left
          · (go_simp <;> (try with_reducible rfl))
          replace e102 := (ho 102 (by decide)).trans e102
          clear h53 ho e103
          refine si_v (v := ?_) 105 55 rfl h54 (wanted_g h54.v 53 104 true e104) ?_ (hzA 105 (by decide)) (fun B E h55 e105 ho => ?_)
          rotate_left
          · (have hO := h54.o; go_simp <;> (try with_reducible rfl))
          replace e102 := (ho 102 (by decide)).trans e102
          replace e104 := (ho 104 (by decide)).trans e104
          clear h54 ho
          refine si_v (v := ?_) 106 56 rfl h55 (wanted_g h55.v 53 104 true e104) ?_ (hzA 106 (by decide)) (fun B E h56 e106 ho => ?_)
          rotate_left
          · (go_simp <;> (try with_reducible rfl))
          replace e102 := (ho 102 (by decide)).trans e102
          replace e104 := (ho 104 (by decide)).trans e104
          clear h55 ho e105
          refine si_v (v := ?_) 107 57 rfl h56 (wanted_g h56.v 53 104 true e104) ?_ (hzA 107 (by decide)) (fun B E h57 e107 ho => ?_)
          rotate_left
          · (go_simp <;> (try with_reducible rfl))
          replace e102 := (ho 102 (by decide)).trans e102
          replace e104 := (ho 104 (by decide)).trans e104
          clear h56 ho e106
          refine si_v (v := ?_) 108 58 rfl h57 (wanted_g h57.v 53 104 true e104) ?_ (hzA 108 (by decide)) (fun B E h58 e108 ho => ?_)
          rotate_left
          · (have hc := h57.c; go_simp <;> (try with_reducible rfl))
          replace e102 := (ho 102 (by decide)).trans e102
          replace e104 := (ho 104 (by decide)).trans e104
          clear h57 ho e107
          by_cases c8 : 0 < x4.length
          ·
           replace e108 := e108.trans (congrArg Value.bool (decide_eq_true c8))
           have HN : Hid (tf (opR ck nc x0 x1 x2 x3 x4 x5 x6 x7 x8 x9) = false) := Hid.intro (tf_no (fun q => by have := q.2.2.2.2.2.2.2.1 c7; omega))
           refine si_v (v := ?_) 109 59 rfl h58 (wanted_g h58.v 51 102 false e102) ?_ (hzA 109 (by decide)) (fun B E h59 e109 ho => ?_)
           rotate_left
           · (have hc := h58.c; go_simp <;> (try with_reducible rfl))
           replace e102 := (ho 102 (by decide)).trans e102
           clear h58 ho e108 e104
           refine si_v (v := ?_) 110 60 rfl h59 wanted_p ?_ (hzA 110 (by decide)) (fun B E h60 e110 ho => ?_)
           rotate_left
           · (have hc := h59.c; go_simp <;> (try with_reducible rfl))
           clear h59 ho e102 e109
           refine si_v (v := ?_) 111 61 rfl h60 wanted_p ?_ (hzA 111 (by decide)) (fun B E h61 e111 ho => ?_)
           rotate_left
           · (go_simp <;> (try with_reducible rfl))
           clear h60 ho e110
           refine si_nb 60 13 74 124 h61 e111 (hzA 124 (by decide)) (fun B E h74 hu ho => ?_)
           replace e111 := (ho 111 (by decide)).trans e111
           have e124 := hu 124 (by decide) (by decide)
           clear h61 ho hu
           refine si_v (v := ?_) 125 75 rfl h74 wanted_p ?_ (hzA 125 (by decide)) (fun B E h75 e125 ho => ?_)
           rotate_left
           · (have hc := h74.c; go_simp <;> (try with_reducible rfl))
           clear h74 ho e124 e111
           refine si_v (v := ?_) 126 76 rfl h75 wanted_p ?_ (hzA 126 (by decide)) (fun B E h76 e126 ho => ?_)
           rotate_left
           · (go_simp <;> (try with_reducible rfl))
           clear h75 ho e125
           refine si_nb 75 7 83 133 h76 e126 (hzA 133 (by decide)) (fun B E h83 hu ho => ?_)
           replace e126 := (ho 126 (by decide)).trans e126
           have e133 := hu 133 (by decide) (by decide)
           clear h76 ho hu
           refine si_v (v := ?_) 134 84 rfl h83 wanted_p ?_ (hzA 134 (by decide)) (fun B E h84 e134 ho => ?_)
           rotate_left
           · (have hc := h83.c; go_simp <;> (try with_reducible rfl))
           clear h83 ho e133 e126
           refine wpI.done rfl ?_
           exact hQ _ _ _ h84.x h84.v (e134.trans (by rw [HN.out]; rfl)) HB.out
          ·
           replace e108 := e108.trans (congrArg Value.bool (decide_eq_false c8))
           refine si_v (v := ?_) 109 59 rfl h58 (wanted_g h58.v 51 102 false e102) ?_ (hzA 109 (by decide)) (fun B E h59 e109 ho => ?_)
           rotate_left
           · (have hc := h58.c; go_simp <;> (try with_reducible rfl))
           replace e102 := (ho 102 (by decide)).trans e102
           clear h58 ho e108 e104
           refine si_v (v := ?_) 110 60 rfl h59 wanted_p ?_ (hzA 110 (by decide)) (fun B E h60 e110 ho => ?_)
           rotate_left
           · (have hc := h59.c; go_simp <;> (try with_reducible rfl))
           clear h59 ho e102 e109
           refine si_v (v := ?_) 111 61 rfl h60 wanted_p ?_ (hzA 111 (by decide)) (fun B E h61 e111 ho => ?_)
           rotate_left
           · (go_simp <;> (try with_reducible rfl))
           clear h60 ho e110
           refine si_v (v := ?_) 112 62 rfl h61 (wanted_g h61.v 60 111 false e111) ?_ (hzA 112 (by decide)) (fun B E h62 e112 ho => ?_)
           rotate_left
           · (have hO := h61.o; go_simp <;> (try with_reducible rfl))
           replace e111 := (ho 111 (by decide)).trans e111
           clear h61 ho
           refine si_v (v := ?_) 113 63 rfl h62 (wanted_g h62.v 60 111 false e111) ?_ (hzA 113 (by decide)) (fun B E h63 e113 ho => ?_)
           rotate_left
           · (go_simp <;> (try with_reducible rfl))
           replace e111 := (ho 111 (by decide)).trans e111
           clear h62 ho e112
           refine si_v (v := ?_) 114 64 rfl h63 (wanted_g h63.v 62 113 true e113) ?_ (hzA 114 (by decide)) (fun B E h64 e114 ho => ?_)
           rotate_left
           · (have hO := h63.o; go_simp <;> (try with_reducible rfl))
           replace e111 := (ho 111 (by decide)).trans e111
           replace e113 := (ho 113 (by decide)).trans e113
           clear h63 ho
           refine si_v (v := ?_) 115 65 rfl h64 (wanted_g h64.v 62 113 true e113) ?_ (hzA 115 (by decide)) (fun B E h65 e115 ho => ?_)
           rotate_left
           · (go_simp <;> (try with_reducible rfl))
           replace e111 := (ho 111 (by decide)).trans e111
           replace e113 := (ho 113 (by decide)).trans e113
           clear h64 ho e114
           refine si_v (v := ?_) 116 66 rfl h65 (wanted_g h65.v 62 113 true e113) ?_ (hzA 116 (by decide)) (fun B E h66 e116 ho => ?_)
           rotate_left
           · (have hO := h65.o; go_simp <;> (try with_reducible rfl))
           replace e111 := (ho 111 (by decide)).trans e111
           replace e113 := (ho 113 (by decide)).trans e113
           replace e115 := (ho 115 (by decide)).trans e115
           clear h65 ho
           refine si_v (v := ?_) 117 67 rfl h66 (wanted_g h66.v 62 113 true e113) ?_ (hzA 117 (by decide)) (fun B E h67 e117 ho => ?_)
           rotate_left
           · (go_simp <;> (try with_reducible rfl))
           replace e111 := (ho 111 (by decide)).trans e111
           replace e113 := (ho 113 (by decide)).trans e113
           replace e115 := (ho 115 (by decide)).trans e115
           clear h66 ho e116
           refine si_v (v := ?_) 118 68 rfl h67 (wanted_g h67.v 62 113 true e113) ?_ (hzA 118 (by decide)) (fun B E h68 e118 ho => ?_)
           rotate_left
           · (have hc := h67.c; go_simp <;> (try with_reducible rfl))
           replace e111 := (ho 111 (by decide)).trans e111
           replace e113 := (ho 113 (by decide)).trans e113
           replace e115 := (ho 115 (by decide)).trans e115
           clear h67 ho e117
           refine si_v (v := ?_) 119 69 rfl h68 (wanted_g h68.v 62 113 true e113) ?_ (hzA 119 (by decide)) (fun B E h69 e119 ho => ?_)
           rotate_left
           · (have hO := h68.o; go_simp <;> (try with_reducible rfl))
           replace e111 := (ho 111 (by decide)).trans e111
           replace e113 := (ho 113 (by decide)).trans e113
           replace e115 := (ho 115 (by decide)).trans e115
           replace e118 := (ho 118 (by decide)).trans e118
           clear h68 ho
           refine si_v (v := ?_) 120 70 rfl h69 (wanted_g h69.v 62 113 true e113) ?_ (hzA 120 (by decide)) (fun B E h70 e120 ho => ?_)
           rotate_left
           · (go_simp <;> (try with_reducible rfl))
           replace e111 := (ho 111 (by decide)).trans e111
           replace e113 := (ho 113 (by decide)).trans e113
           replace e115 := (ho 115 (by decide)).trans e115
           replace e118 := (ho 118 (by decide)).trans e118
           clear h69 ho e119
           refine si_v (v := ?_) 121 71 rfl h70 (wanted_g h70.v 62 113 true e113) ?_ (hzA 121 (by decide)) (fun B E h71 e121 ho => ?_)
           rotate_left
           · (have hc := h70.c; go_simp <;> (try with_reducible rfl))
           replace e111 := (ho 111 (by decide)).trans e111
           replace e113 := (ho 113 (by decide)).trans e113
           replace e115 := (ho 115 (by decide)).trans e115
           replace e118 := (ho 118 (by decide)).trans e118
           clear h70 ho e120
           refine si_c 122 72 rfl h71 (wanted_g h71.v 62 113 true e113) (l1In_any x9 (x8 + 1) (ck - 1) _) ?_ (hzA 122 (by decide)) ?_
           · (have hf := h71.f; go_simp <;> (try with_reducible rfl))
           rintro r w' ⟨rfl, rfl⟩
           refine ⟨_, rfl, (fun B E h72 e122 ho => ?_)⟩
           replace e111 := (ho 111 (by decide)).trans e111
           replace e113 := (ho 113 (by decide)).trans e113
           clear h71 ho e115 e118 e121
           cases c9 : inR x9 (x8 + 1) (ck - 1)
           ·
            rw [c9] at e122
            have HN : Hid (tf (opR ck nc x0 x1 x2 x3 x4 x5 x6 x7 x8 x9) = false) := Hid.intro (tf_no (fun q => by rw [inR_iff.2 (q.2.2.2.2.2.2.2.2.1 c7)] at c9; cases c9))
            refine si_v (v := ?_) 123 73 rfl h72 (wanted_g h72.v 62 113 true e113) ?_ (hzA 123 (by decide)) (fun B E h73 e123 ho => ?_)
            rotate_left
            · (go_simp <;> (try with_reducible rfl))
            replace e111 := (ho 111 (by decide)).trans e111
            replace e113 := (ho 113 (by decide)).trans e113
            clear h72 ho e122
            refine si_v (v := ?_) 124 74 rfl h73 (wanted_g h73.v 60 111 false e111) ?_ (hzA 124 (by decide)) (fun B E h74 e124 ho => ?_)
            rotate_left
            · (have hc := h73.c; go_simp <;> (try with_reducible rfl))
            replace e111 := (ho 111 (by decide)).trans e111
            clear h73 ho e113 e123
            refine si_v (v := ?_) 125 75 rfl h74 wanted_p ?_ (hzA 125 (by decide)) (fun B E h75 e125 ho => ?_)
            rotate_left
            · (have hc := h74.c; go_simp <;> (try with_reducible rfl))
            clear h74 ho e124 e111
            refine si_v (v := ?_) 126 76 rfl h75 wanted_p ?_ (hzA 126 (by decide)) (fun B E h76 e126 ho => ?_)
            rotate_left
            · (go_simp <;> (try with_reducible rfl))
            clear h75 ho e125
            refine si_nb 75 7 83 133 h76 e126 (hzA 133 (by decide)) (fun B E h83 hu ho => ?_)
            replace e126 := (ho 126 (by decide)).trans e126
            have e133 := hu 133 (by decide) (by decide)
            clear h76 ho hu
            refine si_v (v := ?_) 134 84 rfl h83 wanted_p ?_ (hzA 134 (by decide)) (fun B E h84 e134 ho => ?_)
            rotate_left
            · (have hc := h83.c; go_simp <;> (try with_reducible rfl))
            clear h83 ho e133 e126
            refine wpI.done rfl ?_
            exact hQ _ _ _ h84.x h84.v (e134.trans (by rw [HN.out]; rfl)) HB.out
           ·
            rw [c9] at e122
            have HN : Hid (tf (opR ck nc x0 x1 x2 x3 x4 x5 x6 x7 x8 x9) = true) := Hid.intro (tf_yes ⟨inR_iff.1 c0, c1, HX1.out, inR_iff.1 c3, e, hx8, by omega, fun _ => by omega, fun _ => inR_iff.1 c9, fun q => absurd c7 q⟩)
            refine si_v (v := ?_) 123 73 rfl h72 (wanted_g h72.v 62 113 true e113) ?_ (hzA 123 (by decide)) (fun B E h73 e123 ho => ?_)
            rotate_left
            · (go_simp <;> (try with_reducible rfl))
            replace e111 := (ho 111 (by decide)).trans e111
            replace e113 := (ho 113 (by decide)).trans e113
            clear h72 ho e122
            refine si_v (v := ?_) 124 74 rfl h73 (wanted_g h73.v 60 111 false e111) ?_ (hzA 124 (by decide)) (fun B E h74 e124 ho => ?_)
            rotate_left
            · (have hc := h73.c; go_simp <;> (try with_reducible rfl))
            replace e111 := (ho 111 (by decide)).trans e111
            clear h73 ho e113 e123
            refine si_v (v := ?_) 125 75 rfl h74 wanted_p ?_ (hzA 125 (by decide)) (fun B E h75 e125 ho => ?_)
            rotate_left
            · (have hc := h74.c; go_simp <;> (try with_reducible rfl))
            clear h74 ho e124 e111
            refine si_v (v := ?_) 126 76 rfl h75 wanted_p ?_ (hzA 126 (by decide)) (fun B E h76 e126 ho => ?_)
            rotate_left
            · (go_simp <;> (try with_reducible rfl))
            clear h75 ho e125
            refine si_v (v := ?_) 127 77 rfl h76 (wanted_g h76.v 75 126 false e126) ?_ (hzA 127 (by decide)) (fun B E h77 e127 ho => ?_)
            rotate_left
            · (have hO := h76.o; go_simp <;> (try with_reducible rfl))
            replace e126 := (ho 126 (by decide)).trans e126
            clear h76 ho
            refine si_v (v := ?_) 128 78 rfl h77 (wanted_g h77.v 75 126 false e126) ?_ (hzA 128 (by decide)) (fun B E h78 e128 ho => ?_)
            rotate_left
            · (go_simp <;> (try with_reducible rfl))
            replace e126 := (ho 126 (by decide)).trans e126
            clear h77 ho e127
            refine si_v (v := ?_) 129 79 rfl h78 (wanted_g h78.v 75 126 false e126) ?_ (hzA 129 (by decide)) (fun B E h79 e129 ho => ?_)
            rotate_left
            · (go_simp <;> (try with_reducible rfl))
            replace e126 := (ho 126 (by decide)).trans e126
            clear h78 ho e128
            refine si_nb 78 3 82 132 h79 e129 (hzA 132 (by decide)) (fun B E h82 hu ho => ?_)
            replace e126 := (ho 126 (by decide)).trans e126
            replace e129 := (ho 129 (by decide)).trans e129
            have e132 := hu 132 (by decide) (by decide)
            clear h79 ho hu
            refine si_v (v := ?_) 133 83 rfl h82 (wanted_g h82.v 75 126 false e126) ?_ (hzA 133 (by decide)) (fun B E h83 e133 ho => ?_)
            rotate_left
            · (have hc := h82.c; go_simp <;> (try with_reducible rfl))
            replace e126 := (ho 126 (by decide)).trans e126
            clear h82 ho e129 e132
            refine si_v (v := ?_) 134 84 rfl h83 wanted_p ?_ (hzA 134 (by decide)) (fun B E h84 e134 ho => ?_)
            rotate_left
            · (have hc := h83.c; go_simp <;> (try with_reducible rfl))
            clear h83 ho e133 e126
            refine wpI.done rfl ?_
            exact hQ _ _ _ h84.x h84.v (e134.trans (by rw [HN.out]; rfl)) HB.out
         ·
          have c7a : (x3 == 3) = false := by simpa using c7
          rw [c7a] at e7 e103
          refine si_v (v := ?_) 104 54 rfl h53 (wanted_g h53.v 51 102 false e102) ?_ (hzA 104 (by decide)) (fun B E h54 e104 ho => ?_)
          rotate_left
          · (go_simp <;> (try with_reducible rfl))
          replace e102 := (ho 102 (by decide)).trans e102
          clear h53 ho e103
          refine si_nb 53 4 58 108 h54 e104 (hzA 108 (by decide)) (fun B E h58 hu ho => ?_)
          replace e102 := (ho 102 (by decide)).trans e102
          replace e104 := (ho 104 (by decide)).trans e104
          have e108 := hu 108 (by decide) (by decide)
          clear h54 ho hu
          refine si_v (v := ?_) 109 59 rfl h58 (wanted_g h58.v 51 102 false e102) ?_ (hzA 109 (by decide)) (fun B E h59 e109 ho => ?_)
          rotate_left
          · (have hc := h58.c; go_simp <;> (try with_reducible rfl))
          replace e102 := (ho 102 (by decide)).trans e102
          clear h58 ho e108 e104
          refine si_v (v := ?_) 110 60 rfl h59 wanted_p ?_ (hzA 110 (by decide)) (fun B E h60 e110 ho => ?_)
          rotate_left
          · (have hc := h59.c; go_simp <;> (try with_reducible rfl))
          clear h59 ho e102 e109
          refine si_v (v := ?_) 111 61 rfl h60 wanted_p ?_ (hzA 111 (by decide)) (fun B E h61 e111 ho => ?_)
          rotate_left
          · (go_simp <;> (try with_reducible rfl))
          clear h60 ho e110
          refine si_v (v := ?_) 112 62 rfl h61 (wanted_g h61.v 60 111 false e111) ?_ (hzA 112 (by decide)) (fun B E h62 e112 ho => ?_)
          rotate_left
          · (have hO := h61.o; go_simp <;> (try with_reducible rfl))
          replace e111 := (ho 111 (by decide)).trans e111
          clear h61 ho
          refine si_v (v := ?_) 113 63 rfl h62 (wanted_g h62.v 60 111 false e111) ?_ (hzA 113 (by decide)) (fun B E h63 e113 ho => ?_)
          rotate_left
          · (go_simp <;> (try with_reducible rfl))
          replace e111 := (ho 111 (by decide)).trans e111
          clear h62 ho e112
          refine si_nb 62 10 73 123 h63 e113 (hzA 123 (by decide)) (fun B E h73 hu ho => ?_)
          replace e111 := (ho 111 (by decide)).trans e111
          replace e113 := (ho 113 (by decide)).trans e113
          have e123 := hu 123 (by decide) (by decide)
          clear h63 ho hu
          refine si_v (v := ?_) 124 74 rfl h73 (wanted_g h73.v 60 111 false e111) ?_ (hzA 124 (by decide)) (fun B E h74 e124 ho => ?_)
          rotate_left
          · (have hc := h73.c; go_simp <;> (try with_reducible rfl))
          replace e111 := (ho 111 (by decide)).trans e111
          clear h73 ho e113 e123
          refine si_v (v := ?_) 125 75 rfl h74 wanted_p ?_ (hzA 125 (by decide)) (fun B E h75 e125 ho => ?_)
          rotate_left
          · (have hc := h74.c; go_simp <;> (try with_reducible rfl))
          clear h74 ho e124 e111
          refine si_v (v := ?_) 126 76 rfl h75 wanted_p ?_ (hzA 126 (by decide)) (fun B E h76 e126 ho => ?_)
          rotate_left
          · (go_simp <;> (try with_reducible rfl))
          clear h75 ho e125
          refine si_v (v := ?_) 127 77 rfl h76 (wanted_g h76.v 75 126 false e126) ?_ (hzA 127 (by decide)) (fun B E h77 e127 ho => ?_)
          rotate_left
          · (have hO := h76.o; go_simp <;> (try with_reducible rfl))
          replace e126 := (ho 126 (by decide)).trans e126
          clear h76 ho
          refine si_v (v := ?_) 128 78 rfl h77 (wanted_g h77.v 75 126 false e126) ?_ (hzA 128 (by decide)) (fun B E h78 e128 ho => ?_)
          rotate_left
          · (go_simp <;> (try with_reducible rfl))
          replace e126 := (ho 126 (by decide)).trans e126
          clear h77 ho e127
          refine si_v (v := ?_) 129 79 rfl h78 (wanted_g h78.v 75 126 false e126) ?_ (hzA 129 (by decide)) (fun B E h79 e129 ho => ?_)
          rotate_left
          · (go_simp <;> (try with_reducible rfl))
          replace e126 := (ho 126 (by decide)).trans e126
          clear h78 ho e128
          refine si_v (v := ?_) 130 80 rfl h79 (wanted_g h79.v 78 129 true e129) ?_ (hzA 130 (by decide)) (fun B E h80 e130 ho => ?_)
          rotate_left
          · (have hO := h79.o; go_simp <;> (try with_reducible rfl))
          replace e126 := (ho 126 (by decide)).trans e126
          replace e129 := (ho 129 (by decide)).trans e129
          clear h79 ho
          refine si_v (v := ?_) 131 81 rfl h80 (wanted_g h80.v 78 129 true e129) ?_ (hzA 131 (by decide)) (fun B E h81 e131 ho => ?_)
          rotate_left
          · (go_simp <;> (try with_reducible rfl))
          replace e126 := (ho 126 (by decide)).trans e126
          replace e129 := (ho 129 (by decide)).trans e129
          clear h80 ho e130
          refine si_v (v := ?_) 132 82 rfl h81 (wanted_g h81.v 78 129 true e129) ?_ (hzA 132 (by decide)) (fun B E h82 e132 ho => ?_)
          rotate_left
          · (have hc := h81.c; go_simp <;> (try with_reducible rfl))
          replace e126 := (ho 126 (by decide)).trans e126
          replace e129 := (ho 129 (by decide)).trans e129
          clear h81 ho e131
          by_cases c8 : x9 = 0
          ·
           replace e132 : _ = Value.bool false := e132.trans (by simp [c8])
           have HN : Hid (tf (opR ck nc x0 x1 x2 x3 x4 x5 x6 x7 x8 x9) = true) := Hid.intro (tf_yes ⟨inR_iff.1 c0, c1, HX1.out, inR_iff.1 c3, e, hx8, by omega, fun q => absurd q c7, fun q => absurd q c7, fun _ => c8⟩)
           refine si_v (v := ?_) 133 83 rfl h82 (wanted_g h82.v 75 126 false e126) ?_ (hzA 133 (by decide)) (fun B E h83 e133 ho => ?_)
           rotate_left
           · (have hc := h82.c; go_simp <;> (try with_reducible rfl))
           replace e126 := (ho 126 (by decide)).trans e126
           clear h82 ho e129 e132
           refine si_v (v := ?_) 134 84 rfl h83 wanted_p ?_ (hzA 134 (by decide)) (fun B E h84 e134 ho => ?_)
           rotate_left
           · (have hc := h83.c; go_simp <;> (try with_reducible rfl))
           clear h83 ho e133 e126
           refine wpI.done rfl ?_
           exact hQ _ _ _ h84.x h84.v (e134.trans (by rw [HN.out]; rfl)) HB.out
          ·
           replace e132 : _ = Value.bool true := e132.trans (by simp [c8])
           have HN : Hid (tf (opR ck nc x0 x1 x2 x3 x4 x5 x6 x7 x8 x9) = false) := Hid.intro (tf_no (fun q => c8 (q.2.2.2.2.2.2.2.2.2 c7)))
           refine si_v (v := ?_) 133 83 rfl h82 (wanted_g h82.v 75 126 false e126) ?_ (hzA 133 (by decide)) (fun B E h83 e133 ho => ?_)
           rotate_left
           · (have hc := h82.c; go_simp <;> (try with_reducible rfl))
           replace e126 := (ho 126 (by decide)).trans e126
           clear h82 ho e129 e132
           refine si_v (v := ?_) 134 84 rfl h83 wanted_p ?_ (hzA 134 (by decide)) (fun B E h84 e134 ho => ?_)
           rotate_left
           · (have hc := h83.c; go_simp <;> (try with_reducible rfl))
           clear h83 ho e133 e126
           refine wpI.done rfl ?_
           exact hQ _ _ _ h84.x h84.v (e134.trans (by rw [HN.out]; rfl)) HB.out
      ·
       rw [tf_no e] at e80
       have HN : Hid (tf (opR ck nc x0 x1 x2 x3 x4 x5 x6 x7 x8 x9) = false) := Hid.intro (tf_no (fun q => e q.2.2.2.2.1))
       refine si_v (v := ?_) 81 31 rfl h30 (wanted_g h30.v 26 77 false e77) ?_ (hzA 81 (by decide)) (fun B E h31 e81 ho => ?_)
       rotate_left
       · (go_simp <;> (try with_reducible rfl))
       replace e77 := (ho 77 (by decide)).trans e77
       clear h30 ho e80
       refine si_v (v := ?_) 82 32 rfl h31 wanted_p ?_ (hzA 82 (by decide)) (fun B E h32 e82 ho => ?_)
       rotate_left
       · (have hc := h31.c; go_simp <;> (try with_reducible rfl))
       clear h31 ho e81 e77
       refine si_v (v := ?_) 83 33 rfl h32 wanted_p ?_ (hzA 83 (by decide)) (fun B E h33 e83 ho => ?_)
       rotate_left
       · (go_simp <;> (try with_reducible rfl))
       clear h32 ho e82
       refine si_nb 32 7 40 90 h33 e83 (hzA 90 (by decide)) (fun B E h40 hu ho => ?_)
       replace e83 := (ho 83 (by decide)).trans e83
       have e90 := hu 90 (by decide) (by decide)
       clear h33 ho hu
       refine si_v (v := ?_) 91 41 rfl h40 wanted_p ?_ (hzA 91 (by decide)) (fun B E h41 e91 ho => ?_)
       rotate_left
       · (have hc := h40.c; go_simp <;> (try with_reducible rfl))
       clear h40 ho e83 e90
       refine si_v (v := ?_) 92 42 rfl h41 wanted_p ?_ (hzA 92 (by decide)) (fun B E h42 e92 ho => ?_)
       rotate_left
       · (go_simp <;> (try with_reducible rfl))
       clear h41 ho e91
       refine si_nb 41 8 50 100 h42 e92 (hzA 100 (by decide)) (fun B E h50 hu ho => ?_)
       replace e92 := (ho 92 (by decide)).trans e92
       have e100 := hu 100 (by decide) (by decide)
       clear h42 ho hu
       refine si_v (v := ?_) 101 51 rfl h50 wanted_p ?_ (hzA 101 (by decide)) (fun B E h51 e101 ho => ?_)
       rotate_left
       · (have hc := h50.c; go_simp <;> (try with_reducible rfl))
       clear h50 ho e100 e92
       refine si_v (v := ?_) 102 52 rfl h51 wanted_p ?_ (hzA 102 (by decide)) (fun B E h52 e102 ho => ?_)
       rotate_left
       · (go_simp <;> (try with_reducible rfl))
       clear h51 ho e101
       refine si_nb 51 7 59 109 h52 e102 (hzA 109 (by decide)) (fun B E h59 hu ho => ?_)
       replace e102 := (ho 102 (by decide)).trans e102
       have e109 := hu 109 (by decide) (by decide)
       clear h52 ho hu
       refine si_v (v := ?_) 110 60 rfl h59 wanted_p ?_ (hzA 110 (by decide)) (fun B E h60 e110 ho => ?_)
       rotate_left
       · (have hc := h59.c; go_simp <;> (try with_reducible rfl))
       clear h59 ho e102 e109
       refine si_v (v := ?_) 111 61 rfl h60 wanted_p ?_ (hzA 111 (by decide)) (fun B E h61 e111 ho => ?_)
       rotate_left
       · (go_simp <;> (try with_reducible rfl))
       clear h60 ho e110
       refine si_nb 60 13 74 124 h61 e111 (hzA 124 (by decide)) (fun B E h74 hu ho => ?_)
       replace e111 := (ho 111 (by decide)).trans e111
       have e124 := hu 124 (by decide) (by decide)
       clear h61 ho hu
       refine si_v (v := ?_) 125 75 rfl h74 wanted_p ?_ (hzA 125 (by decide)) (fun B E h75 e125 ho => ?_)
       rotate_left
       · (have hc := h74.c; go_simp <;> (try with_reducible rfl))
       clear h74 ho e124 e111
       refine si_v (v := ?_) 126 76 rfl h75 wanted_p ?_ (hzA 126 (by decide)) (fun B E h76 e126 ho => ?_)
       rotate_left
       · (go_simp <;> (try with_reducible rfl))
       clear h75 ho e125
       refine si_nb 75 7 83 133 h76 e126 (hzA 133 (by decide)) (fun B E h83 hu ho => ?_)
       replace e126 := (ho 126 (by decide)).trans e126
       have e133 := hu 133 (by decide) (by decide)
       clear h76 ho hu
       refine si_v (v := ?_) 134 84 rfl h83 wanted_p ?_ (hzA 134 (by decide)) (fun B E h84 e134 ho => ?_)
       rotate_left
       · (have hc := h83.c; go_simp <;> (try with_reducible rfl))
       clear h83 ho e133 e126
       refine wpI.done rfl ?_
       exact hQ _ _ _ h84.x h84.v (e134.trans (by rw [HN.out]; rfl)) HB.out
    ·
     rw [hx1] at e63
     refine si_v (v := ?_) 64 14 rfl h13 (wanted_g h13.v 10 61 false e61) ?_ (hzA 64 (by decide)) (fun B E h14 e64 ho => ?_)
     rotate_left
     · (go_simp <;> (try with_reducible rfl))
     replace e61 := (ho 61 (by decide)).trans e61
     clear h13 ho e63
     refine si_v (v := ?_) 65 15 rfl h14 (wanted_g h14.v 10 61 false e61) ?_ (hzA 65 (by decide)) (fun B E h15 e65 ho => ?_)
     rotate_left
     · (go_simp <;> (try with_reducible rfl))
     replace e61 := (ho 61 (by decide)).trans e61
     clear h14 ho e64
     refine si_v (v := ?_) 66 16 rfl h15 (wanted_g h15.v 14 65 true e65) ?_ (hzA 66 (by decide)) (fun B E h16 e66 ho => ?_)
     rotate_left
     · (have hO := h15.o; go_simp <;> (try with_reducible rfl))
     replace e61 := (ho 61 (by decide)).trans e61
     replace e65 := (ho 65 (by decide)).trans e65
     clear h15 ho
     refine si_v (v := ?_) 67 17 rfl h16 (wanted_g h16.v 14 65 true e65) ?_ (hzA 67 (by decide)) (fun B E h17 e67 ho => ?_)
     rotate_left
     · (go_simp <;> (try with_reducible rfl))
     replace e61 := (ho 61 (by decide)).trans e61
     replace e65 := (ho 65 (by decide)).trans e65
     clear h16 ho e66
     refine si_v (v := ?_) 68 18 rfl h17 (wanted_g h17.v 14 65 true e65) ?_ (hzA 68 (by decide)) (fun B E h18 e68 ho => ?_)
     rotate_left
     · (have hc := h17.c; go_simp <;> (try with_reducible rfl))
     replace e61 := (ho 61 (by decide)).trans e61
     replace e65 := (ho 65 (by decide)).trans e65
     clear h17 ho e67
     cases c2 : x2.toList.isEmpty
     ·
      rw [c2] at e68
      have HN : Hid (tf (opR ck nc x0 x1 x2 x3 x4 x5 x6 x7 x8 x9) = false) := Hid.intro (tf_no (fun q => by rcases q.2.2.1 with e | e; (· rw [hx1] at e; cases e); rw [empty_iff.2 e] at c2; cases c2))
      refine si_v (v := ?_) 69 19 rfl h18 (wanted_g h18.v 10 61 false e61) ?_ (hzA 69 (by decide)) (fun B E h19 e69 ho => ?_)
      rotate_left
      · (have hc := h18.c; go_simp <;> (try with_reducible rfl))
      replace e61 := (ho 61 (by decide)).trans e61
      clear h18 ho e65 e68
      refine si_v (v := ?_) 70 20 rfl h19 wanted_p ?_ (hzA 70 (by decide)) (fun B E h20 e70 ho => ?_)
      rotate_left
      · (have hc := h19.c; go_simp <;> (try with_reducible rfl))
      clear h19 ho e69 e61
      refine si_v (v := ?_) 71 21 rfl h20 wanted_p ?_ (hzA 71 (by decide)) (fun B E h21 e71 ho => ?_)
      rotate_left
      · (go_simp <;> (try with_reducible rfl))
      clear h20 ho e70
      refine si_nb 20 4 25 75 h21 e71 (hzA 75 (by decide)) (fun B E h25 hu ho => ?_)
      replace e71 := (ho 71 (by decide)).trans e71
      have e75 := hu 75 (by decide) (by decide)
      clear h21 ho hu
      refine si_v (v := ?_) 76 26 rfl h25 wanted_p ?_ (hzA 76 (by decide)) (fun B E h26 e76 ho => ?_)
      rotate_left
      · (have hc := h25.c; go_simp <;> (try with_reducible rfl))
      clear h25 ho e71 e75
      refine si_v (v := ?_) 77 27 rfl h26 wanted_p ?_ (hzA 77 (by decide)) (fun B E h27 e77 ho => ?_)
      rotate_left
      · (go_simp <;> (try with_reducible rfl))
      clear h26 ho e76
      refine si_nb 26 4 31 81 h27 e77 (hzA 81 (by decide)) (fun B E h31 hu ho => ?_)
      replace e77 := (ho 77 (by decide)).trans e77
      have e81 := hu 81 (by decide) (by decide)
      clear h27 ho hu
      refine si_v (v := ?_) 82 32 rfl h31 wanted_p ?_ (hzA 82 (by decide)) (fun B E h32 e82 ho => ?_)
      rotate_left
      · (have hc := h31.c; go_simp <;> (try with_reducible rfl))
      clear h31 ho e81 e77
      refine si_v (v := ?_) 83 33 rfl h32 wanted_p ?_ (hzA 83 (by decide)) (fun B E h33 e83 ho => ?_)
      rotate_left
      · (go_simp <;> (try with_reducible rfl))
      clear h32 ho e82
      refine si_nb 32 7 40 90 h33 e83 (hzA 90 (by decide)) (fun B E h40 hu ho => ?_)
      replace e83 := (ho 83 (by decide)).trans e83
      have e90 := hu 90 (by decide) (by decide)
      clear h33 ho hu
      refine si_v (v := ?_) 91 41 rfl h40 wanted_p ?_ (hzA 91 (by decide)) (fun B E h41 e91 ho => ?_)
      rotate_left
      · (have hc := h40.c; go_simp <;> (try with_reducible rfl))
      clear h40 ho e83 e90
      refine si_v (v := ?_) 92 42 rfl h41 wanted_p ?_ (hzA 92 (by decide)) (fun B E h42 e92 ho => ?_)
      rotate_left
      · (go_simp <;> (try with_reducible rfl))
      clear h41 ho e91
      refine si_nb 41 8 50 100 h42 e92 (hzA 100 (by decide)) (fun B E h50 hu ho => ?_)
      replace e92 := (ho 92 (by decide)).trans e92
      have e100 := hu 100 (by decide) (by decide)
      clear h42 ho hu
      refine si_v (v := ?_) 101 51 rfl h50 wanted_p ?_ (hzA 101 (by decide)) (fun B E h51 e101 ho => ?_)
      rotate_left
      · (have hc := h50.c; go_simp <;> (try with_reducible rfl))
      clear h50 ho e100 e92
      refine si_v (v := ?_) 102 52 rfl h51 wanted_p ?_ (hzA 102 (by decide)) (fun B E h52 e102 ho => ?_)
      rotate_left
      · (go_simp <;> (try with_reducible rfl))
      clear h51 ho e101
      refine si_nb 51 7 59 109 h52 e102 (hzA 109 (by decide)) (fun B E h59 hu ho => ?_)
      replace e102 := (ho 102 (by decide)).trans e102
      have e109 := hu 109 (by decide) (by decide)
      clear h52 ho hu
      refine si_v (v := ?_) 110 60 rfl h59 wanted_p ?_ (hzA 110 (by decide)) (fun B E h60 e110 ho => ?_)
      rotate_left
      · (have hc := h59.c; go_simp <;> (try with_reducible rfl))
      clear h59 ho e102 e109
      refine si_v (v := ?_) 111 61 rfl h60 wanted_p ?_ (hzA 111 (by decide)) (fun B E h61 e111 ho => ?_)
      rotate_left
      · (go_simp <;> (try with_reducible rfl))
      clear h60 ho e110
      refine si_nb 60 13 74 124 h61 e111 (hzA 124 (by decide)) (fun B E h74 hu ho => ?_)
      replace e111 := (ho 111 (by decide)).trans e111
      have e124 := hu 124 (by decide) (by decide)
      clear h61 ho hu
      refine si_v (v := ?_) 125 75 rfl h74 wanted_p ?_ (hzA 125 (by decide)) (fun B E h75 e125 ho => ?_)
      rotate_left
      · (have hc := h74.c; go_simp <;> (try with_reducible rfl))
      clear h74 ho e124 e111
      refine si_v (v := ?_) 126 76 rfl h75 wanted_p ?_ (hzA 126 (by decide)) (fun B E h76 e126 ho => ?_)
      rotate_left
      · (go_simp <;> (try with_reducible rfl))
      clear h75 ho e125
      refine si_nb 75 7 83 133 h76 e126 (hzA 133 (by decide)) (fun B E h83 hu ho => ?_)
      replace e126 := (ho 126 (by decide)).trans e126
      have e133 := hu 133 (by decide) (by decide)
      clear h76 ho hu
      refine si_v (v := ?_) 134 84 rfl h83 wanted_p ?_ (hzA 134 (by decide)) (fun B E h84 e134 ho => ?_)
      rotate_left
      · (have hc := h83.c; go_simp <;> (try with_reducible rfl))
      clear h83 ho e133 e126
      refine wpI.done rfl ?_
      exact hQ _ _ _ h84.x h84.v (e134.trans (by rw [HN.out]; rfl)) HB.out
     ·
      rw [c2] at e68
      have HX1 : Hid (x1 = true ∨ x2.size = 0) := Or.inr (empty_iff.1 c2)
      clear hx1
      refine si_v (v := ?_) 69 19 rfl h18 (wanted_g h18.v 10 61 false e61) ?_ (hzA 69 (by decide)) (fun B E h19 e69 ho => ?_)
      rotate_left
      · (have hc := h18.c; go_simp <;> (try with_reducible rfl))
      replace e61 := (ho 61 (by decide)).trans e61
      clear h18 ho e65 e68
      refine si_v (v := ?_) 70 20 rfl h19 wanted_p ?_ (hzA 70 (by decide)) (fun B E h20 e70 ho => ?_)
      rotate_left
      · (have hc := h19.c; go_simp <;> (try with_reducible rfl))
      clear h19 ho e69 e61
      refine si_v (v := ?_) 71 21 rfl h20 wanted_p ?_ (hzA 71 (by decide)) (fun B E h21 e71 ho => ?_)
      rotate_left
      · (go_simp <;> (try with_reducible rfl))
      clear h20 ho e70
      refine si_v (v := ?_) 72 22 rfl h21 (wanted_g h21.v 20 71 false e71) ?_ (hzA 72 (by decide)) (fun B E h22 e72 ho => ?_)
      rotate_left
      · (have hO := h21.o; go_simp <;> (try with_reducible rfl))
      replace e71 := (ho 71 (by decide)).trans e71
      clear h21 ho
      refine si_v (v := ?_) 73 23 rfl h22 (wanted_g h22.v 20 71 false e71) ?_ (hzA 73 (by decide)) (fun B E h23 e73 ho => ?_)
      rotate_left
      · (go_simp <;> (try with_reducible rfl))
      replace e71 := (ho 71 (by decide)).trans e71
      clear h22 ho e72
      refine si_c 74 24 rfl h23 (wanted_g h23.v 20 71 false e71) (l1In_any x3 1 3 _) ?_ (hzA 74 (by decide)) ?_
      · (have hc := h23.c; have hf := h23.f; go_simp <;> (try with_reducible rfl))
      rintro r w' ⟨rfl, rfl⟩
      refine ⟨_, rfl, (fun B E h24 e74 ho => ?_)⟩
      replace e71 := (ho 71 (by decide)).trans e71
      clear h23 ho e73
      cases c3 : inR x3 1 3
      ·
       rw [c3] at e74
       have HN : Hid (tf (opR ck nc x0 x1 x2 x3 x4 x5 x6 x7 x8 x9) = false) := Hid.intro (tf_no (fun q => by rw [inR_iff.2 q.2.2.2.1] at c3; cases c3))
       refine si_v (v := ?_) 75 25 rfl h24 (wanted_g h24.v 20 71 false e71) ?_ (hzA 75 (by decide)) (fun B E h25 e75 ho => ?_)
       rotate_left
       · (go_simp <;> (try with_reducible rfl))
       replace e71 := (ho 71 (by decide)).trans e71
       clear h24 ho e74
       refine si_v (v := ?_) 76 26 rfl h25 wanted_p ?_ (hzA 76 (by decide)) (fun B E h26 e76 ho => ?_)
       rotate_left
       · (have hc := h25.c; go_simp <;> (try with_reducible rfl))
       clear h25 ho e71 e75
       refine si_v (v := ?_) 77 27 rfl h26 wanted_p ?_ (hzA 77 (by decide)) (fun B E h27 e77 ho => ?_)
       rotate_left
       · (go_simp <;> (try with_reducible rfl))
       clear h26 ho e76
       refine si_nb 26 4 31 81 h27 e77 (hzA 81 (by decide)) (fun B E h31 hu ho => ?_)
       replace e77 := (ho 77 (by decide)).trans e77
       have e81 := hu 81 (by decide) (by decide)
       clear h27 ho hu
       refine si_v (v := ?_) 82 32 rfl h31 wanted_p ?_ (hzA 82 (by decide)) (fun B E h32 e82 ho => ?_)
       rotate_left
       · (have hc := h31.c; go_simp <;> (try with_reducible rfl))
       clear h31 ho e81 e77
       refine si_v (v := ?_) 83 33 rfl h32 wanted_p ?_ (hzA 83 (by decide)) (fun B E h33 e83 ho => ?_)
       rotate_left
       · (go_simp <;> (try with_reducible rfl))
       clear h32 ho e82
       refine si_nb 32 7 40 90 h33 e83 (hzA 90 (by decide)) (fun B E h40 hu ho => ?_)
       replace e83 := (ho 83 (by decide)).trans e83
       have e90 := hu 90 (by decide) (by decide)
       clear h33 ho hu
       refine si_v (v := ?_) 91 41 rfl h40 wanted_p ?_ (hzA 91 (by decide)) (fun B E h41 e91 ho => ?_)
       rotate_left
       · (have hc := h40.c; go_simp <;> (try with_reducible rfl))
       clear h40 ho e83 e90
       refine si_v (v := ?_) 92 42 rfl h41 wanted_p ?_ (hzA 92 (by decide)) (fun B E h42 e92 ho => ?_)
       rotate_left
       · (go_simp <;> (try with_reducible rfl))
       clear h41 ho e91
       refine si_nb 41 8 50 100 h42 e92 (hzA 100 (by decide)) (fun B E h50 hu ho => ?_)
       replace e92 := (ho 92 (by decide)).trans e92
       have e100 := hu 100 (by decide) (by decide)
       clear h42 ho hu
       refine si_v (v := ?_) 101 51 rfl h50 wanted_p ?_ (hzA 101 (by decide)) (fun B E h51 e101 ho => ?_)
       rotate_left
       · (have hc := h50.c; go_simp <;> (try with_reducible rfl))
       clear h50 ho e100 e92
       refine si_v (v := ?_) 102 52 rfl h51 wanted_p ?_ (hzA 102 (by decide)) (fun B E h52 e102 ho => ?_)
       rotate_left
       · (go_simp <;> (try with_reducible rfl))
       clear h51 ho e101
       refine si_nb 51 7 59 109 h52 e102 (hzA 109 (by decide)) (fun B E h59 hu ho => ?_)
       replace e102 := (ho 102 (by decide)).trans e102
       have e109 := hu 109 (by decide) (by decide)
       clear h52 ho hu
       refine si_v (v := ?_) 110 60 rfl h59 wanted_p ?_ (hzA 110 (by decide)) (fun B E h60 e110 ho => ?_)
       rotate_left
       · (have hc := h59.c; go_simp <;> (try with_reducible rfl))
       clear h59 ho e102 e109
       refine si_v (v := ?_) 111 61 rfl h60 wanted_p ?_ (hzA 111 (by decide)) (fun B E h61 e111 ho => ?_)
       rotate_left
       · (go_simp <;> (try with_reducible rfl))
       clear h60 ho e110
       refine si_nb 60 13 74 124 h61 e111 (hzA 124 (by decide)) (fun B E h74 hu ho => ?_)
       replace e111 := (ho 111 (by decide)).trans e111
       have e124 := hu 124 (by decide) (by decide)
       clear h61 ho hu
       refine si_v (v := ?_) 125 75 rfl h74 wanted_p ?_ (hzA 125 (by decide)) (fun B E h75 e125 ho => ?_)
       rotate_left
       · (have hc := h74.c; go_simp <;> (try with_reducible rfl))
       clear h74 ho e124 e111
       refine si_v (v := ?_) 126 76 rfl h75 wanted_p ?_ (hzA 126 (by decide)) (fun B E h76 e126 ho => ?_)
       rotate_left
       · (go_simp <;> (try with_reducible rfl))
       clear h75 ho e125
       refine si_nb 75 7 83 133 h76 e126 (hzA 133 (by decide)) (fun B E h83 hu ho => ?_)
       replace e126 := (ho 126 (by decide)).trans e126
       have e133 := hu 133 (by decide) (by decide)
       clear h76 ho hu
       refine si_v (v := ?_) 134 84 rfl h83 wanted_p ?_ (hzA 134 (by decide)) (fun B E h84 e134 ho => ?_)
       rotate_left
       · (have hc := h83.c; go_simp <;> (try with_reducible rfl))
       clear h83 ho e133 e126
       refine wpI.done rfl ?_
       exact hQ _ _ _ h84.x h84.v (e134.trans (by rw [HN.out]; rfl)) HB.out
      ·
       rw [c3] at e74
       refine si_v (v := ?_) 75 25 rfl h24 (wanted_g h24.v 20 71 false e71) ?_ (hzA 75 (by decide)) (fun B E h25 e75 ho => ?_)
       rotate_left
       · (go_simp <;> (try with_reducible rfl))
       replace e71 := (ho 71 (by decide)).trans e71
       clear h24 ho e74
       refine si_v (v := ?_) 76 26 rfl h25 wanted_p ?_ (hzA 76 (by decide)) (fun B E h26 e76 ho => ?_)
       rotate_left
       · (have hc := h25.c; go_simp <;> (try with_reducible rfl))
       clear h25 ho e71 e75
       refine si_v (v := ?_) 77 27 rfl h26 wanted_p ?_ (hzA 77 (by decide)) (fun B E h27 e77 ho => ?_)
       rotate_left
       · (go_simp <;> (try with_reducible rfl))
       clear h26 ho e76
       refine si_v (v := ?_) 78 28 rfl h27 (wanted_g h27.v 26 77 false e77) ?_ (hzA 78 (by decide)) (fun B E h28 e78 ho => ?_)
       rotate_left
       · (have hO := h27.o; go_simp <;> (try with_reducible rfl))
       replace e77 := (ho 77 (by decide)).trans e77
       clear h27 ho
       refine si_v (v := ?_) 79 29 rfl h28 (wanted_g h28.v 26 77 false e77) ?_ (hzA 79 (by decide)) (fun B E h29 e79 ho => ?_)
       rotate_left
       · (go_simp <;> (try with_reducible rfl))
       replace e77 := (ho 77 (by decide)).trans e77
       clear h28 ho e78
       refine si_c 80 30 rfl h29 (wanted_g h29.v 26 77 false e77) (l9Copy_n x5 x6 x7 _ h7) ?_ (hzA 80 (by decide)) ?_
       · (have hf := h29.f; go_simp <;> (try with_reducible rfl))
       rintro r w' ⟨rfl, hb⟩
       have d0 := (HB.out.1.next hb).cell 0 rfl; have d1 := (HB.out.1.next hb).cell 1 rfl; have d2 := (HB.out.1.next hb).cell 2 rfl; have d3 := (HB.out.1.next hb).cell 3 rfl; have d4 := (HB.out.1.next hb).cell 4 rfl; have d5 := (HB.out.1.next hb).cell 5 rfl; have d6 := (HB.out.1.next hb).cell 6 rfl; have d7 := (HB.out.1.next hb).cell 7 rfl; have d8 := (HB.out.1.next hb).cell 8 rfl; have d9 := (HB.out.1.next hb).cell 9 rfl; have dz := (HB.out.1.next hb).2
       have s0 := (HB.out.2.1.next hb).cell 0 rfl; have s1 := (HB.out.2.1.next hb).cell 1 rfl; have s2 := (HB.out.2.1.next hb).cell 2 rfl; have sz := (HB.out.2.1.next hb).2
       have HB : Hid (Bx w' bo [.int .i64 x0, .bool x1, .string x2, .int .i64 x3, .slice xa1 x4.length xk1, .int .i64 x5, .int .i64 x6, .string x7, .int .i64 x8, .int .i64 x9] ∧ Bx w' br [.int .i64 ck, .slice a1 nc k1, .slice a2 no k2] ∧ Below b.heap.size b w') := ⟨HB.out.1.next hb, HB.out.2.1.next hb, below_next HB.out.2.2 hb⟩
       clear hb
       refine ⟨_, rfl, (fun B E h30 e80 ho => ?_)⟩
       replace e77 := (ho 77 (by decide)).trans e77
       clear h29 ho e79
       by_cases e : copP x5 x6 x7
       ·
        rw [tf_yes e] at e80
        refine si_v (v := ?_) 81 31 rfl h30 (wanted_g h30.v 26 77 false e77) ?_ (hzA 81 (by decide)) (fun B E h31 e81 ho => ?_)
        rotate_left
        · (go_simp <;> (try with_reducible rfl))
        replace e77 := (ho 77 (by decide)).trans e77
        clear h30 ho e80
        refine si_v (v := ?_) 82 32 rfl h31 wanted_p ?_ (hzA 82 (by decide)) (fun B E h32 e82 ho => ?_)
        rotate_left
        · (have hc := h31.c; go_simp <;> (try with_reducible rfl))
        clear h31 ho e81 e77
        refine si_v (v := ?_) 83 33 rfl h32 wanted_p ?_ (hzA 83 (by decide)) (fun B E h33 e83 ho => ?_)
        rotate_left
        · (go_simp <;> (try with_reducible rfl))
        clear h32 ho e82
        refine si_v (v := ?_) 84 34 rfl h33 (wanted_g h33.v 32 83 false e83) ?_ (hzA 84 (by decide)) (fun B E h34 e84 ho => ?_)
        rotate_left
        · (have hO := h33.o; go_simp <;> (try with_reducible rfl))
        replace e83 := (ho 83 (by decide)).trans e83
        clear h33 ho
        refine si_v (v := ?_) 85 35 rfl h34 (wanted_g h34.v 32 83 false e83) ?_ (hzA 85 (by decide)) (fun B E h35 e85 ho => ?_)
        rotate_left
        · (go_simp <;> (try with_reducible rfl))
        replace e83 := (ho 83 (by decide)).trans e83
        clear h34 ho e84
        refine si_v (v := ?_) 86 36 rfl h35 (wanted_g h35.v 32 83 false e83) ?_ (hzA 86 (by decide)) (fun B E h36 e86 ho => ?_)
        rotate_left
        · (have hO := h35.o; go_simp <;> (try with_reducible rfl))
        replace e83 := (ho 83 (by decide)).trans e83
        replace e85 := (ho 85 (by decide)).trans e85
        clear h35 ho
        refine si_v (v := ?_) 87 37 rfl h36 (wanted_g h36.v 32 83 false e83) ?_ (hzA 87 (by decide)) (fun B E h37 e87 ho => ?_)
        rotate_left
        · (go_simp <;> (try with_reducible rfl))
        replace e83 := (ho 83 (by decide)).trans e83
        replace e85 := (ho 85 (by decide)).trans e85
        clear h36 ho e86
        refine si_v (v := ?_) 88 38 rfl h37 (wanted_g h37.v 32 83 false e83) ?_ (hzA 88 (by decide)) (fun B E h38 e88 ho => ?_)
        rotate_left
        · (have hc := h37.c; go_simp <;> (try with_reducible rfl))
        replace e83 := (ho 83 (by decide)).trans e83
        replace e85 := (ho 85 (by decide)).trans e85
        clear h37 ho e87
        refine si_c 89 39 rfl h38 (wanted_g h38.v 32 83 false e83) (l1In_any x8 0 (ck - 1) _) ?_ (hzA 89 (by decide)) ?_
        · (have hc := h38.c; have hf := h38.f; go_simp <;> (try with_reducible rfl))
        rintro r w' ⟨rfl, rfl⟩
        refine ⟨_, rfl, (fun B E h39 e89 ho => ?_)⟩
        replace e83 := (ho 83 (by decide)).trans e83
        clear h38 ho e85 e88
        cases c5 : inR x8 0 (ck - 1)
        ·
         rw [c5] at e89
         have HN : Hid (tf (opR ck nc x0 x1 x2 x3 x4 x5 x6 x7 x8 x9) = false) := Hid.intro (tf_no (fun q => by rw [inR_iff.2 q.2.2.2.2.2.1] at c5; cases c5))
         refine si_v (v := ?_) 90 40 rfl h39 (wanted_g h39.v 32 83 false e83) ?_ (hzA 90 (by decide)) (fun B E h40 e90 ho => ?_)
         rotate_left
         · (go_simp <;> (try with_reducible rfl))
         replace e83 := (ho 83 (by decide)).trans e83
         clear h39 ho e89
         refine si_v (v := ?_) 91 41 rfl h40 wanted_p ?_ (hzA 91 (by decide)) (fun B E h41 e91 ho => ?_)
         rotate_left
         · (have hc := h40.c; go_simp <;> (try with_reducible rfl))
         clear h40 ho e83 e90
         refine si_v (v := ?_) 92 42 rfl h41 wanted_p ?_ (hzA 92 (by decide)) (fun B E h42 e92 ho => ?_)
         rotate_left
         · (go_simp <;> (try with_reducible rfl))
         clear h41 ho e91
         refine si_nb 41 8 50 100 h42 e92 (hzA 100 (by decide)) (fun B E h50 hu ho => ?_)
         replace e92 := (ho 92 (by decide)).trans e92
         have e100 := hu 100 (by decide) (by decide)
         clear h42 ho hu
         refine si_v (v := ?_) 101 51 rfl h50 wanted_p ?_ (hzA 101 (by decide)) (fun B E h51 e101 ho => ?_)
         rotate_left
         · (have hc := h50.c; go_simp <;> (try with_reducible rfl))
         clear h50 ho e100 e92
         refine si_v (v := ?_) 102 52 rfl h51 wanted_p ?_ (hzA 102 (by decide)) (fun B E h52 e102 ho => ?_)
         rotate_left
         · (go_simp <;> (try with_reducible rfl))
         clear h51 ho e101
         refine si_nb 51 7 59 109 h52 e102 (hzA 109 (by decide)) (fun B E h59 hu ho => ?_)
         replace e102 := (ho 102 (by decide)).trans e102
         have e109 := hu 109 (by decide) (by decide)
         clear h52 ho hu
         refine si_v (v := ?_) 110 60 rfl h59 wanted_p ?_ (hzA 110 (by decide)) (fun B E h60 e110 ho => ?_)
         rotate_left
         · (have hc := h59.c; go_simp <;> (try with_reducible rfl))
         clear h59 ho e102 e109
         refine si_v (v := ?_) 111 61 rfl h60 wanted_p ?_ (hzA 111 (by decide)) (fun B E h61 e111 ho => ?_)
         rotate_left
         · (go_simp <;> (try with_reducible rfl))
         clear h60 ho e110
         refine si_nb 60 13 74 124 h61 e111 (hzA 124 (by decide)) (fun B E h74 hu ho => ?_)
         replace e111 := (ho 111 (by decide)).trans e111
         have e124 := hu 124 (by decide) (by decide)
         clear h61 ho hu
         refine si_v (v := ?_) 125 75 rfl h74 wanted_p ?_ (hzA 125 (by decide)) (fun B E h75 e125 ho => ?_)
         rotate_left
         · (have hc := h74.c; go_simp <;> (try with_reducible rfl))
         clear h74 ho e124 e111
         refine si_v (v := ?_) 126 76 rfl h75 wanted_p ?_ (hzA 126 (by decide)) (fun B E h76 e126 ho => ?_)
         rotate_left
         · (go_simp <;> (try with_reducible rfl))
         clear h75 ho e125
         refine si_nb 75 7 83 133 h76 e126 (hzA 133 (by decide)) (fun B E h83 hu ho => ?_)
         replace e126 := (ho 126 (by decide)).trans e126
         have e133 := hu 133 (by decide) (by decide)
         clear h76 ho hu
         refine si_v (v := ?_) 134 84 rfl h83 wanted_p ?_ (hzA 134 (by decide)) (fun B E h84 e134 ho => ?_)
         rotate_left
         · (have hc := h83.c; go_simp <;> (try with_reducible rfl))
         clear h83 ho e133 e126
         refine wpI.done rfl ?_
         exact hQ _ _ _ h84.x h84.v (e134.trans (by rw [HN.out]; rfl)) HB.out
        ·
         rw [c5] at e89
         have hx8 := inR_iff.1 c5
         have hw3 : IntKind.i64.wrap (x8 + 1) = x8 + 1 := w64 (by omega) (by omega)
         refine si_v (v := ?_) 90 40 rfl h39 (wanted_g h39.v 32 83 false e83) ?_ (hzA 90 (by decide)) (fun B E h40 e90 ho => ?_)
         rotate_left
         · (go_simp <;> (try with_reducible rfl))
         replace e83 := (ho 83 (by decide)).trans e83
         clear h39 ho e89
         refine si_v (v := ?_) 91 41 rfl h40 wanted_p ?_ (hzA 91 (by decide)) (fun B E h41 e91 ho => ?_)
         rotate_left
         · (have hc := h40.c; go_simp <;> (try with_reducible rfl))
         clear h40 ho e83 e90
         refine si_v (v := ?_) 92 42 rfl h41 wanted_p ?_ (hzA 92 (by decide)) (fun B E h42 e92 ho => ?_)
         rotate_left
         · (go_simp <;> (try with_reducible rfl))
         clear h41 ho e91
         refine si_v (v := ?_) 93 43 rfl h42 (wanted_g h42.v 41 92 false e92) ?_ (hzA 93 (by decide)) (fun B E h43 e93 ho => ?_)
         rotate_left
         · (have hO := h42.o; go_simp <;> (try with_reducible rfl))
         replace e92 := (ho 92 (by decide)).trans e92
         clear h42 ho
         refine si_v (v := ?_) 94 44 rfl h43 (wanted_g h43.v 41 92 false e92) ?_ (hzA 94 (by decide)) (fun B E h44 e94 ho => ?_)
         rotate_left
         · (go_simp <;> (try with_reducible rfl))
         replace e92 := (ho 92 (by decide)).trans e92
         clear h43 ho e93
         refine si_v (v := ?_) 95 45 rfl h44 (wanted_g h44.v 41 92 false e92) ?_ (hzA 95 (by decide)) (fun B E h45 e95 ho => ?_)
         rotate_left
         · (go_simp <;> (try with_reducible rfl))
         replace e92 := (ho 92 (by decide)).trans e92
         clear h44 ho e94
         refine si_v (v := ?_) 96 46 rfl h45 (wanted_g h45.v 41 92 false e92) ?_ (hzA 96 (by decide)) (fun B E h46 e96 ho => ?_)
         rotate_left
         · (have hc := h45.c; go_simp <;> (try with_reducible rfl))
         replace e92 := (ho 92 (by decide)).trans e92
         clear h45 ho e95
         refine si_v (v := ?_) 97 47 rfl h46 (wanted_g h46.v 41 92 false e92) ?_ (hzA 97 (by decide)) (fun B E h47 e97 ho => ?_)
         rotate_left
         · (have hO := h46.o; go_simp <;> (try with_reducible rfl))
         replace e92 := (ho 92 (by decide)).trans e92
         replace e96 := (ho 96 (by decide)).trans e96
         clear h46 ho
         refine si_v (v := ?_) 98 48 rfl h47 (wanted_g h47.v 41 92 false e92) ?_ (hzA 98 (by decide)) (fun B E h48 e98 ho => ?_)
         rotate_left
         · (go_simp <;> (try with_reducible rfl))
         replace e92 := (ho 92 (by decide)).trans e92
         replace e96 := (ho 96 (by decide)).trans e96
         clear h47 ho e97
         refine si_v (v := ?_) 99 49 rfl h48 (wanted_g h48.v 41 92 false e92) ?_ (hzA 99 (by decide)) (fun B E h49 e99 ho => ?_)
         rotate_left
         · (go_simp <;> (try with_reducible rfl))
         replace e92 := (ho 92 (by decide)).trans e92
         replace e96 := (ho 96 (by decide)).trans e96
         clear h48 ho e98
         refine si_v (v := ?_) 100 50 rfl h49 (wanted_g h49.v 41 92 false e92) ?_ (hzA 100 (by decide)) (fun B E h50 e100 ho => ?_)
         rotate_left
         · (go_simp <;> (try with_reducible rfl))
         replace e92 := (ho 92 (by decide)).trans e92
         clear h49 ho e96 e99
         by_cases c6 : (nc : Int) < 2 * (x4.length : Int)
         ·
          replace e100 := e100.trans (congrArg Value.bool (decide_eq_true c6))
          have HN : Hid (tf (opR ck nc x0 x1 x2 x3 x4 x5 x6 x7 x8 x9) = false) := Hid.intro (tf_no (fun q => by have := q.2.2.2.2.2.2.1; omega))
          refine si_v (v := ?_) 101 51 rfl h50 wanted_p ?_ (hzA 101 (by decide)) (fun B E h51 e101 ho => ?_)
          rotate_left
          · (have hc := h50.c; go_simp <;> (try with_reducible rfl))
          clear h50 ho e100 e92
          refine si_v (v := ?_) 102 52 rfl h51 wanted_p ?_ (hzA 102 (by decide)) (fun B E h52 e102 ho => ?_)
          rotate_left
          · (go_simp <;> (try with_reducible rfl))
          clear h51 ho e101
          refine si_nb 51 7 59 109 h52 e102 (hzA 109 (by decide)) (fun B E h59 hu ho => ?_)
          replace e102 := (ho 102 (by decide)).trans e102
          have e109 := hu 109 (by decide) (by decide)
          clear h52 ho hu
          refine si_v (v := ?_) 110 60 rfl h59 wanted_p ?_ (hzA 110 (by decide)) (fun B E h60 e110 ho => ?_)
          rotate_left
          · (have hc := h59.c; go_simp <;> (try with_reducible rfl))
          clear h59 ho e102 e109
          refine si_v (v := ?_) 111 61 rfl h60 wanted_p ?_ (hzA 111 (by decide)) (fun B E h61 e111 ho => ?_)
          rotate_left
          · (go_simp <;> (try with_reducible rfl))
          clear h60 ho e110
          refine si_nb 60 13 74 124 h61 e111 (hzA 124 (by decide)) (fun B E h74 hu ho => ?_)
          replace e111 := (ho 111 (by decide)).trans e111
          have e124 := hu 124 (by decide) (by decide)
          clear h61 ho hu
          refine si_v (v := ?_) 125 75 rfl h74 wanted_p ?_ (hzA 125 (by decide)) (fun B E h75 e125 ho => ?_)
          rotate_left
          · (have hc := h74.c; go_simp <;> (try with_reducible rfl))
          clear h74 ho e124 e111
          refine si_v (v := ?_) 126 76 rfl h75 wanted_p ?_ (hzA 126 (by decide)) (fun B E h76 e126 ho => ?_)
          rotate_left
          · (go_simp <;> (try with_reducible rfl))
          clear h75 ho e125
          refine si_nb 75 7 83 133 h76 e126 (hzA 133 (by decide)) (fun B E h83 hu ho => ?_)
          replace e126 := (ho 126 (by decide)).trans e126
          have e133 := hu 133 (by decide) (by decide)
          clear h76 ho hu
          refine si_v (v := ?_) 134 84 rfl h83 wanted_p ?_ (hzA 134 (by decide)) (fun B E h84 e134 ho => ?_)
          rotate_left
          · (have hc := h83.c; go_simp <;> (try with_reducible rfl))
          clear h83 ho e133 e126
          refine wpI.done rfl ?_
          exact hQ _ _ _ h84.x h84.v (e134.trans (by rw [HN.out]; rfl)) HB.out
         ·
          replace e100 := e100.trans (congrArg Value.bool (decide_eq_false c6))
          refine si_v (v := ?_) 101 51 rfl h50 wanted_p ?_ (hzA 101 (by decide)) (fun B E h51 e101 ho => ?_)
          rotate_left
          · (have hc := h50.c; go_simp <;> (try with_reducible rfl))
          clear h50 ho e100 e92
          refine si_v (v := ?_) 102 52 rfl h51 wanted_p ?_ (hzA 102 (by decide)) (fun B E h52 e102 ho => ?_)
          rotate_left
          · (go_simp <;> (try with_reducible rfl))
          clear h51 ho e101
          refine si_v (v := ?_) 103 53 rfl h52 (wanted_g h52.v 51 102 false e102) ?_ (hzA 103 (by decide)) (fun B E h53 e103 ho => ?_)
          rotate_left
          · (have hO := h52.o; go_simp <;> (try with_reducible rfl))
          replace e102 := (ho 102 (by decide)).trans e102
          clear h52 ho
          by_cases c7 : x3 = 3
          ·
           have c7a : (x3 == 3) = true := by simpa using c7
           rw [c7a] at e7 e103
           refine si_v (v := ?_) 104 54 rfl h53 (wanted_g h53.v 51 102 false e102) ?_ (hzA 104 (by decide)) (fun B E h54 e104 ho => ?_)
           rotate_left
           · (go_simp <;> (try with_reducible rfl))
           replace e102 := (ho 102 (by decide)).trans e102
           clear h53 ho e103
           refine si_v (v := ?_) 105 55 rfl h54 (wanted_g h54.v 53 104 true e104) ?_ (hzA 105 (by decide)) (fun B E h55 e105 ho => ?_)
           rotate_left
           · (have hO := h54.o; go_simp <;> (try with_reducible rfl))
           replace e102 := (ho 102 (by decide)).trans e102
           replace e104 := (ho 104 (by decide)).trans e104
           clear h54 ho
           refine si_v (v := ?_) 106 56 rfl h55 (wanted_g h55.v 53 104 true e104) ?_ (hzA 106 (by decide)) (fun B E h56 e106 ho => ?_)
           rotate_left
           · (go_simp <;> (try with_reducible rfl))
           replace e102 := (ho 102 (by decide)).trans e102
           replace e104 := (ho 104 (by decide)).trans e104
           clear h55 ho e105
           refine si_v (v := ?_) 107 57 rfl h56 (wanted_g h56.v 53 104 true e104) ?_ (hzA 107 (by decide)) (fun B E h57 e107 ho => ?_)
           rotate_left
           · (go_simp <;> (try with_reducible rfl))
           replace e102 := (ho 102 (by decide)).trans e102
           replace e104 := (ho 104 (by decide)).trans e104
           clear h56 ho e106
           refine si_v (v := ?_) 108 58 rfl h57 (wanted_g h57.v 53 104 true e104) ?_ (hzA 108 (by decide)) (fun B E h58 e108 ho => ?_)
           rotate_left
           · (have hc := h57.c; go_simp <;> (try with_reducible rfl))
           replace e102 := (ho 102 (by decide)).trans e102
           replace e104 := (ho 104 (by decide)).trans e104
           clear h57 ho e107
           by_cases c8 : 0 < x4.length
           ·
            replace e108 := e108.trans (congrArg Value.bool (decide_eq_true c8))
            have HN : Hid (tf (opR ck nc x0 x1 x2 x3 x4 x5 x6 x7 x8 x9) = false) := Hid.intro (tf_no (fun q => by have := q.2.2.2.2.2.2.2.1 c7; omega))
            refine si_v (v := ?_) 109 59 rfl h58 (wanted_g h58.v 51 102 false e102) ?_ (hzA 109 (by decide)) (fun B E h59 e109 ho => ?_)
            rotate_left
            · (have hc := h58.c; go_simp <;> (try with_reducible rfl))
            replace e102 := (ho 102 (by decide)).trans e102
            clear h58 ho e108 e104
            refine si_v (v := ?_) 110 60 rfl h59 wanted_p ?_ (hzA 110 (by decide)) (fun B E h60 e110 ho => ?_)
            rotate_left
            · (have hc := h59.c; go_simp <;> (try with_reducible rfl))
            clear h59 ho e102 e109
            refine si_v (v := ?_) 111 61 rfl h60 wanted_p ?_ (hzA 111 (by decide)) (fun B E h61 e111 ho => ?_)
            rotate_left
            · (go_simp <;> (try with_reducible rfl))
            clear h60 ho e110
            refine si_nb 60 13 74 124 h61 e111 (hzA 124 (by decide)) (fun B E h74 hu ho => ?_)
            replace e111 := (ho 111 (by decide)).trans e111
            have e124 := hu 124 (by decide) (by decide)
            clear h61 ho hu
            refine si_v (v := ?_) 125 75 rfl h74 wanted_p ?_ (hzA 125 (by decide)) (fun B E h75 e125 ho => ?_)
            rotate_left
            · (have hc := h74.c; go_simp <;> (try with_reducible rfl))
            clear h74 ho e124 e111
            refine si_v (v := ?_) 126 76 rfl h75 wanted_p ?_ (hzA 126 (by decide)) (fun B E h76 e126 ho => ?_)
            rotate_left
            · (go_simp <;> (try with_reducible rfl))
            clear h75 ho e125
            refine si_nb 75 7 83 133 h76 e126 (hzA 133 (by decide)) (fun B E h83 hu ho => ?_)
            replace e126 := (ho 126 (by decide)).trans e126
            have e133 := hu 133 (by decide) (by decide)
            clear h76 ho hu
            refine si_v (v := ?_) 134 84 rfl h83 wanted_p ?_ (hzA 134 (by decide)) (fun B E h84 e134 ho => ?_)
            rotate_left
            · (have hc := h83.c; go_simp <;> (try with_reducible rfl))
            clear h83 ho e133 e126
            refine wpI.done rfl ?_
            exact hQ _ _ _ h84.x h84.v (e134.trans (by rw [HN.out]; rfl)) HB.out
           ·
            replace e108 := e108.trans (congrArg Value.bool (decide_eq_false c8))
            refine si_v (v := ?_) 109 59 rfl h58 (wanted_g h58.v 51 102 false e102) ?_ (hzA 109 (by decide)) (fun B E h59 e109 ho => ?_)
            rotate_left
            · (have hc := h58.c; go_simp <;> (try with_reducible rfl))
            replace e102 := (ho 102 (by decide)).trans e102
            clear h58 ho e108 e104
            refine si_v (v := ?_) 110 60 rfl h59 wanted_p ?_ (hzA 110 (by decide)) (fun B E h60 e110 ho => ?_)
            rotate_left
            · (have hc := h59.c; go_simp <;> (try with_reducible rfl))
            clear h59 ho e102 e109
            refine si_v (v := ?_) 111 61 rfl h60 wanted_p ?_ (hzA 111 (by decide)) (fun B E h61 e111 ho => ?_)
            rotate_left
            · (go_simp <;> (try with_reducible rfl))
            clear h60 ho e110
            refine si_v (v := ?_) 112 62 rfl h61 (wanted_g h61.v 60 111 false e111) ?_ (hzA 112 (by decide)) (fun B E h62 e112 ho => ?_)
            rotate_left
            · (have hO := h61.o; go_simp <;> (try with_reducible rfl))
            replace e111 := (ho 111 (by decide)).trans e111
            clear h61 ho
            refine si_v (v := ?_) 113 63 rfl h62 (wanted_g h62.v 60 111 false e111) ?_ (hzA 113 (by decide)) (fun B E h63 e113 ho => ?_)
            rotate_left
            · (go_simp <;> (try with_reducible rfl))
            replace e111 := (ho 111 (by decide)).trans e111
            clear h62 ho e112
            refine si_v (v := ?_) 114 64 rfl h63 (wanted_g h63.v 62 113 true e113) ?_ (hzA 114 (by decide)) (fun B E h64 e114 ho => ?_)
            rotate_left
            · (have hO := h63.o; go_simp <;> (try with_reducible rfl))
            replace e111 := (ho 111 (by decide)).trans e111
            replace e113 := (ho 113 (by decide)).trans e113
            clear h63 ho
            refine si_v (v := ?_) 115 65 rfl h64 (wanted_g h64.v 62 113 true e113) ?_ (hzA 115 (by decide)) (fun B E h65 e115 ho => ?_)
            rotate_left
            · (go_simp <;> (try with_reducible rfl))
            replace e111 := (ho 111 (by decide)).trans e111
            replace e113 := (ho 113 (by decide)).trans e113
            clear h64 ho e114
            refine si_v (v := ?_) 116 66 rfl h65 (wanted_g h65.v 62 113 true e113) ?_ (hzA 116 (by decide)) (fun B E h66 e116 ho => ?_)
            rotate_left
            · (have hO := h65.o; go_simp <;> (try with_reducible rfl))
            replace e111 := (ho 111 (by decide)).trans e111
            replace e113 := (ho 113 (by decide)).trans e113
            replace e115 := (ho 115 (by decide)).trans e115
            clear h65 ho
            refine si_v (v := ?_) 117 67 rfl h66 (wanted_g h66.v 62 113 true e113) ?_ (hzA 117 (by decide)) (fun B E h67 e117 ho => ?_)
            rotate_left
            · (go_simp <;> (try with_reducible rfl))
            replace e111 := (ho 111 (by decide)).trans e111
            replace e113 := (ho 113 (by decide)).trans e113
            replace e115 := (ho 115 (by decide)).trans e115
            clear h66 ho e116
            refine si_v (v := ?_) 118 68 rfl h67 (wanted_g h67.v 62 113 true e113) ?_ (hzA 118 (by decide)) (fun B E h68 e118 ho => ?_)
            rotate_left
            · (have hc := h67.c; go_simp <;> (try with_reducible rfl))
            replace e111 := (ho 111 (by decide)).trans e111
            replace e113 := (ho 113 (by decide)).trans e113
            replace e115 := (ho 115 (by decide)).trans e115
            clear h67 ho e117
            refine si_v (v := ?_) 119 69 rfl h68 (wanted_g h68.v 62 113 true e113) ?_ (hzA 119 (by decide)) (fun B E h69 e119 ho => ?_)
            rotate_left
            · (have hO := h68.o; go_simp <;> (try with_reducible rfl))
            replace e111 := (ho 111 (by decide)).trans e111
            replace e113 := (ho 113 (by decide)).trans e113
            replace e115 := (ho 115 (by decide)).trans e115
            replace e118 := (ho 118 (by decide)).trans e118
            clear h68 ho
            refine si_v (v := ?_) 120 70 rfl h69 (wanted_g h69.v 62 113 true e113) ?_ (hzA 120 (by decide)) (fun B E h70 e120 ho => ?_)
            rotate_left
            · (go_simp <;> (try with_reducible rfl))
            replace e111 := (ho 111 (by decide)).trans e111
            replace e113 := (ho 113 (by decide)).trans e113
            replace e115 := (ho 115 (by decide)).trans e115
            replace e118 := (ho 118 (by decide)).trans e118
            clear h69 ho e119
            refine si_v (v := ?_) 121 71 rfl h70 (wanted_g h70.v 62 113 true e113) ?_ (hzA 121 (by decide)) (fun B E h71 e121 ho => ?_)
            rotate_left
            · (have hc := h70.c; go_simp <;> (try with_reducible rfl))
            replace e111 := (ho 111 (by decide)).trans e111
            replace e113 := (ho 113 (by decide)).trans e113
            replace e115 := (ho 115 (by decide)).trans e115
            replace e118 := (ho 118 (by decide)).trans e118
            clear h70 ho e120
            refine si_c 122 72 rfl h71 (wanted_g h71.v 62 113 true e113) (l1In_any x9 (x8 + 1) (ck - 1) _) ?_ (hzA 122 (by decide)) ?_
            · (have hf := h71.f; go_simp <;> (try with_reducible rfl))
            rintro r w' ⟨rfl, rfl⟩
            refine ⟨_, rfl, (fun B E h72 e122 ho => ?_)⟩
            replace e111 := (ho 111 (by decide)).trans e111
            replace e113 := (ho 113 (by decide)).trans e113
            clear h71 ho e115 e118 e121
            cases c9 : inR x9 (x8 + 1) (ck - 1)
            ·
             rw [c9] at e122
             have HN : Hid (tf (opR ck nc x0 x1 x2 x3 x4 x5 x6 x7 x8 x9) = false) := Hid.intro (tf_no (fun q => by rw [inR_iff.2 (q.2.2.2.2.2.2.2.2.1 c7)] at c9; cases c9))
             refine si_v (v := ?_) 123 73 rfl h72 (wanted_g h72.v 62 113 true e113) ?_ (hzA 123 (by decide)) (fun B E h73 e123 ho => ?_)
             rotate_left
             · (go_simp <;> (try with_reducible rfl))
             replace e111 := (ho 111 (by decide)).trans e111
             replace e113 := (ho 113 (by decide)).trans e113
             clear h72 ho e122
             refine si_v (v := ?_) 124 74 rfl h73 (wanted_g h73.v 60 111 false e111) ?_ (hzA 124 (by decide)) (fun B E h74 e124 ho => ?_)
             rotate_left
             · (have hc := h73.c; go_simp <;> (try with_reducible rfl))
             replace e111 := (ho 111 (by decide)).trans e111
             clear h73 ho e113 e123
             refine si_v (v := ?_) 125 75 rfl h74 wanted_p ?_ (hzA 125 (by decide)) (fun B E h75 e125 ho => ?_)
             rotate_left
             · (have hc := h74.c; go_simp <;> (try with_reducible rfl))
             clear h74 ho e124 e111
             refine si_v (v := ?_) 126 76 rfl h75 wanted_p ?_ (hzA 126 (by decide)) (fun B E h76 e126 ho => ?_)
             rotate_left
             · (go_simp <;> (try with_reducible rfl))
             clear h75 ho e125
             refine si_nb 75 7 83 133 h76 e126 (hzA 133 (by decide)) (fun B E h83 hu ho => ?_)
             replace e126 := (ho 126 (by decide)).trans e126
             have e133 := hu 133 (by decide) (by decide)
             clear h76 ho hu
             refine si_v (v := ?_) 134 84 rfl h83 wanted_p ?_ (hzA 134 (by decide)) (fun B E h84 e134 ho => ?_)
             rotate_left
             · (have hc := h83.c; go_simp <;> (try with_reducible rfl))
             clear h83 ho e133 e126
             refine wpI.done rfl ?_
             exact hQ _ _ _ h84.x h84.v (e134.trans (by rw [HN.out]; rfl)) HB.out
            ·
             rw [c9] at e122
             have HN : Hid (tf (opR ck nc x0 x1 x2 x3 x4 x5 x6 x7 x8 x9) = true) := Hid.intro (tf_yes ⟨inR_iff.1 c0, c1, HX1.out, inR_iff.1 c3, e, hx8, by omega, fun _ => by omega, fun _ => inR_iff.1 c9, fun q => absurd c7 q⟩)
             refine si_v (v := ?_) 123 73 rfl h72 (wanted_g h72.v 62 113 true e113) ?_ (hzA 123 (by decide)) (fun B E h73 e123 ho => ?_)
             rotate_left
             · (go_simp <;> (try with_reducible rfl))
             replace e111 := (ho 111 (by decide)).trans e111
             replace e113 := (ho 113 (by decide)).trans e113
             clear h72 ho e122
             refine si_v (v := ?_) 124 74 rfl h73 (wanted_g h73.v 60 111 false e111) ?_ (hzA 124 (by decide)) (fun B E h74 e124 ho => ?_)
             rotate_left
             · (have hc := h73.c; go_simp <;> (try with_reducible rfl))
             replace e111 := (ho 111 (by decide)).trans e111
             clear h73 ho e113 e123
             refine si_v (v := ?_) 125 75 rfl h74 wanted_p ?_ (hzA 125 (by decide)) (fun B E h75 e125 ho => ?_)
             rotate_left
             · (have hc := h74.c; go_simp <;> (try with_reducible rfl))
             clear h74 ho e124 e111
             refine si_v (v := ?_) 126 76 rfl h75 wanted_p ?_ (hzA 126 (by decide)) (fun B E h76 e126 ho => ?_)
             rotate_left
             · (go_simp <;> (try with_reducible rfl))
             clear h75 ho e125
             refine si_v (v := ?_) 127 77 rfl h76 (wanted_g h76.v 75 126 false e126) ?_ (hzA 127 (by decide)) (fun B E h77 e127 ho => ?_)
             rotate_left
             · (have hO := h76.o; go_simp <;> (try with_reducible rfl))
             replace e126 := (ho 126 (by decide)).trans e126
             clear h76 ho
             refine si_v (v := ?_) 128 78 rfl h77 (wanted_g h77.v 75 126 false e126) ?_ (hzA 128 (by decide)) (fun B E h78 e128 ho => ?_)
             rotate_left
             · (go_simp <;> (try with_reducible rfl))
             replace e126 := (ho 126 (by decide)).trans e126
             clear h77 ho e127
             refine si_v (v := ?_) 129 79 rfl h78 (wanted_g h78.v 75 126 false e126) ?_ (hzA 129 (by decide)) (fun B E h79 e129 ho => ?_)
             rotate_left
             · (go_simp <;> (try with_reducible rfl))
             replace e126 := (ho 126 (by decide)).trans e126
             clear h78 ho e128
             refine si_nb 78 3 82 132 h79 e129 (hzA 132 (by decide)) (fun B E h82 hu ho => ?_)
             replace e126 := (ho 126 (by decide)).trans e126
             replace e129 := (ho 129 (by decide)).trans e129
             have e132 := hu 132 (by decide) (by decide)
             clear h79 ho hu
             refine si_v (v := ?_) 133 83 rfl h82 (wanted_g h82.v 75 126 false e126) ?_ (hzA 133 (by decide)) (fun B E h83 e133 ho => ?_)
             rotate_left
             · (have hc := h82.c; go_simp <;> (try with_reducible rfl))
             replace e126 := (ho 126 (by decide)).trans e126
             clear h82 ho e129 e132
             refine si_v (v := ?_) 134 84 rfl h83 wanted_p ?_ (hzA 134 (by decide)) (fun B E h84 e134 ho => ?_)
             rotate_left
             · (have hc := h83.c; go_simp <;> (try with_reducible rfl))
             clear h83 ho e133 e126
             refine wpI.done rfl ?_
             exact hQ _ _ _ h84.x h84.v (e134.trans (by rw [HN.out]; rfl)) HB.out
          ·
           have c7a : (x3 == 3) = false := by simpa using c7
           rw [c7a] at e7 e103
           refine si_v (v := ?_) 104 54 rfl h53 (wanted_g h53.v 51 102 false e102) ?_ (hzA 104 (by decide)) (fun B E h54 e104 ho => ?_)
           rotate_left
           · (go_simp <;> (try with_reducible rfl))
           replace e102 := (ho 102 (by decide)).trans e102
           clear h53 ho e103
           refine si_nb 53 4 58 108 h54 e104 (hzA 108 (by decide)) (fun B E h58 hu ho => ?_)
           replace e102 := (ho 102 (by decide)).trans e102
           replace e104 := (ho 104 (by decide)).trans e104
           have e108 := hu 108 (by decide) (by decide)
           clear h54 ho hu
           refine si_v (v := ?_) 109 59 rfl h58 (wanted_g h58.v 51 102 false e102) ?_ (hzA 109 (by decide)) (fun B E h59 e109 ho => ?_)
           rotate_left
           · (have hc := h58.c; go_simp <;> (try with_reducible rfl))
           replace e102 := (ho 102 (by decide)).trans e102
           clear h58 ho e108 e104
           refine si_v (v := ?_) 110 60 rfl h59 wanted_p ?_ (hzA 110 (by decide)) (fun B E h60 e110 ho => ?_)
           rotate_left
           · (have hc := h59.c; go_simp <;> (try with_reducible rfl))
           clear h59 ho e102 e109
           refine si_v (v := ?_) 111 61 rfl h60 wanted_p ?_ (hzA 111 (by decide)) (fun B E h61 e111 ho => ?_)
           rotate_left
           · (go_simp <;> (try with_reducible rfl))
           clear h60 ho e110
           refine si_v (v := ?_) 112 62 rfl h61 (wanted_g h61.v 60 111 false e111) ?_ (hzA 112 (by decide)) (fun B E h62 e112 ho => ?_)
           rotate_left
           · (have hO := h61.o; go_simp <;> (try with_reducible rfl))
           replace e111 := (ho 111 (by decide)).trans e111
           clear h61 ho
           refine si_v (v := ?_) 113 63 rfl h62 (wanted_g h62.v 60 111 false e111) ?_ (hzA 113 (by decide)) (fun B E h63 e113 ho => ?_)
           rotate_left
           · (go_simp <;> (try with_reducible rfl))
           replace e111 := (ho 111 (by decide)).trans e111
           clear h62 ho e112
           refine si_nb 62 10 73 123 h63 e113 (hzA 123 (by decide)) (fun B E h73 hu ho => ?_)
           replace e111 := (ho 111 (by decide)).trans e111
           replace e113 := (ho 113 (by decide)).trans e113
           have e123 := hu 123 (by decide) (by decide)
           clear h63 ho hu
           refine si_v (v := ?_) 124 74 rfl h73 (wanted_g h73.v 60 111 false e111) ?_ (hzA 124 (by decide)) (fun B E h74 e124 ho => ?_)
           rotate_left
           · (have hc := h73.c; go_simp <;> (try with_reducible rfl))
           replace e111 := (ho 111 (by decide)).trans e111
           clear h73 ho e113 e123
           refine si_v (v := ?_) 125 75 rfl h74 wanted_p ?_ (hzA 125 (by decide)) (fun B E h75 e125 ho => ?_)
           rotate_left
           · (have hc := h74.c; go_simp <;> (try with_reducible rfl))
           clear h74 ho e124 e111
           refine si_v (v := ?_) 126 76 rfl h75 wanted_p ?_ (hzA 126 (by decide)) (fun B E h76 e126 ho => ?_)
           rotate_left
           · (go_simp <;> (try with_reducible rfl))
           clear h75 ho e125
           refine si_v (v := ?_) 127 77 rfl h76 (wanted_g h76.v 75 126 false e126) ?_ (hzA 127 (by decide)) (fun B E h77 e127 ho => ?_)
           rotate_left
           · (have hO := h76.o; go_simp <;> (try with_reducible rfl))
           replace e126 := (ho 126 (by decide)).trans e126
           clear h76 ho
           refine si_v (v := ?_) 128 78 rfl h77 (wanted_g h77.v 75 126 false e126) ?_ (hzA 128 (by decide)) (fun B E h78 e128 ho => ?_)
           rotate_left
           · (go_simp <;> (try with_reducible rfl))
           replace e126 := (ho 126 (by decide)).trans e126
           clear h77 ho e127
           refine si_v (v := ?_) 129 79 rfl h78 (wanted_g h78.v 75 126 false e126) ?_ (hzA 129 (by decide)) (fun B E h79 e129 ho => ?_)
           rotate_left
           · (go_simp <;> (try with_reducible rfl))
           replace e126 := (ho 126 (by decide)).trans e126
           clear h78 ho e128
           refine si_v (v := ?_) 130 80 rfl h79 (wanted_g h79.v 78 129 true e129) ?_ (hzA 130 (by decide)) (fun B E h80 e130 ho => ?_)
           rotate_left
           · (have hO := h79.o; go_simp <;> (try with_reducible rfl))
           replace e126 := (ho 126 (by decide)).trans e126
           replace e129 := (ho 129 (by decide)).trans e129
           clear h79 ho
           refine si_v (v := ?_) 131 81 rfl h80 (wanted_g h80.v 78 129 true e129) ?_ (hzA 131 (by decide)) (fun B E h81 e131 ho => ?_)
           rotate_left
           · (go_simp <;> (try with_reducible rfl))
           replace e126 := (ho 126 (by decide)).trans e126
           replace e129 := (ho 129 (by decide)).trans e129
           clear h80 ho e130
           refine si_v (v := ?_) 132 82 rfl h81 (wanted_g h81.v 78 129 true e129) ?_ (hzA 132 (by decide)) (fun B E h82 e132 ho => ?_)
           rotate_left
           · (have hc := h81.c; go_simp <;> (try with_reducible rfl))
           replace e126 := (ho 126 (by decide)).trans e126
           replace e129 := (ho 129 (by decide)).trans e129
           clear h81 ho e131
           by_cases c8 : x9 = 0
           ·
            replace e132 : _ = Value.bool false := e132.trans (by simp [c8])
            have HN : Hid (tf (opR ck nc x0 x1 x2 x3 x4 x5 x6 x7 x8 x9) = true) := Hid.intro (tf_yes ⟨inR_iff.1 c0, c1, HX1.out, inR_iff.1 c3, e, hx8, by omega, fun q => absurd q c7, fun q => absurd q c7, fun _ => c8⟩)
            refine si_v (v := ?_) 133 83 rfl h82 (wanted_g h82.v 75 126 false e126) ?_ (hzA 133 (by decide)) (fun B E h83 e133 ho => ?_)
            rotate_left
            · (have hc := h82.c; go_simp <;> (try with_reducible rfl))
            replace e126 := (ho 126 (by decide)).trans e126
            clear h82 ho e129 e132
            refine si_v (v := ?_) 134 84 rfl h83 wanted_p ?_ (hzA 134 (by decide)) (fun B E h84 e134 ho => ?_)
            rotate_left
            · (have hc := h83.c; go_simp <;> (try with_reducible rfl))
            clear h83 ho e133 e126
            refine wpI.done rfl ?_
            exact hQ _ _ _ h84.x h84.v (e134.trans (by rw [HN.out]; rfl)) HB.out
           ·
            replace e132 : _ = Value.bool true := e132.trans (by simp [c8])
            have HN : Hid (tf (opR ck nc x0 x1 x2 x3 x4 x5 x6 x7 x8 x9) = false) := Hid.intro (tf_no (fun q => c8 (q.2.2.2.2.2.2.2.2.2 c7)))
            refine si_v (v := ?_) 133 83 rfl h82 (wanted_g h82.v 75 126 false e126) ?_ (hzA 133 (by decide)) (fun B E h83 e133 ho => ?_)
            rotate_left
            · (have hc := h82.c; go_simp <;> (try with_reducible rfl))
            replace e126 := (ho 126 (by decide)).trans e126
            clear h82 ho e129 e132
            refine si_v (v := ?_) 134 84 rfl h83 wanted_p ?_ (hzA 134 (by decide)) (fun B E h84 e134 ho => ?_)
            rotate_left
            · (have hc := h83.c; go_simp <;> (try with_reducible rfl))
            clear h83 ho e133 e126
            refine wpI.done rfl ?_
            exact hQ _ _ _ h84.x h84.v (e134.trans (by rw [HN.out]; rfl)) HB.out
       ·
        rw [tf_no e] at e80
        have HN : Hid (tf (opR ck nc x0 x1 x2 x3 x4 x5 x6 x7 x8 x9) = false) := Hid.intro (tf_no (fun q => e q.2.2.2.2.1))
        refine si_v (v := ?_) 81 31 rfl h30 (wanted_g h30.v 26 77 false e77) ?_ (hzA 81 (by decide)) (fun B E h31 e81 ho => ?_)
        rotate_left
        · (go_simp <;> (try with_reducible rfl))
        replace e77 := (ho 77 (by decide)).trans e77
        clear h30 ho e80
        refine si_v (v := ?_) 82 32 rfl h31 wanted_p ?_ (hzA 82 (by decide)) (fun B E h32 e82 ho => ?_)
        rotate_left
        · (have hc := h31.c; go_simp <;> (try with_reducible rfl))
        clear h31 ho e81 e77
        refine si_v (v := ?_) 83 33 rfl h32 wanted_p ?_ (hzA 83 (by decide)) (fun B E h33 e83 ho => ?_)
        rotate_left
        · (go_simp <;> (try with_reducible rfl))
        clear h32 ho e82
        refine si_nb 32 7 40 90 h33 e83 (hzA 90 (by decide)) (fun B E h40 hu ho => ?_)
        replace e83 := (ho 83 (by decide)).trans e83
        have e90 := hu 90 (by decide) (by decide)
        clear h33 ho hu
        refine si_v (v := ?_) 91 41 rfl h40 wanted_p ?_ (hzA 91 (by decide)) (fun B E h41 e91 ho => ?_)
        rotate_left
        · (have hc := h40.c; go_simp <;> (try with_reducible rfl))
        clear h40 ho e83 e90
        refine si_v (v := ?_) 92 42 rfl h41 wanted_p ?_ (hzA 92 (by decide)) (fun B E h42 e92 ho => ?_)
        rotate_left
        · (go_simp <;> (try with_reducible rfl))
        clear h41 ho e91
        refine si_nb 41 8 50 100 h42 e92 (hzA 100 (by decide)) (fun B E h50 hu ho => ?_)
        replace e92 := (ho 92 (by decide)).trans e92
        have e100 := hu 100 (by decide) (by decide)
        clear h42 ho hu
        refine si_v (v := ?_) 101 51 rfl h50 wanted_p ?_ (hzA 101 (by decide)) (fun B E h51 e101 ho => ?_)
        rotate_left
        · (have hc := h50.c; go_simp <;> (try with_reducible rfl))
        clear h50 ho e100 e92
        refine si_v (v := ?_) 102 52 rfl h51 wanted_p ?_ (hzA 102 (by decide)) (fun B E h52 e102 ho => ?_)
        rotate_left
        · (go_simp <;> (try with_reducible rfl))
        clear h51 ho e101
        refine si_nb 51 7 59 109 h52 e102 (hzA 109 (by decide)) (fun B E h59 hu ho => ?_)
        replace e102 := (ho 102 (by decide)).trans e102
        have e109 := hu 109 (by decide) (by decide)
        clear h52 ho hu
        refine si_v (v := ?_) 110 60 rfl h59 wanted_p ?_ (hzA 110 (by decide)) (fun B E h60 e110 ho => ?_)
        rotate_left
        · (have hc := h59.c; go_simp <;> (try with_reducible rfl))
        clear h59 ho e102 e109
        refine si_v (v := ?_) 111 61 rfl h60 wanted_p ?_ (hzA 111 (by decide)) (fun B E h61 e111 ho => ?_)
        rotate_left
        · (go_simp <;> (try with_reducible rfl))
        clear h60 ho e110
        refine si_nb 60 13 74 124 h61 e111 (hzA 124 (by decide)) (fun B E h74 hu ho => ?_)
        replace e111 := (ho 111 (by decide)).trans e111
        have e124 := hu 124 (by decide) (by decide)
        clear h61 ho hu
        refine si_v (v := ?_) 125 75 rfl h74 wanted_p ?_ (hzA 125 (by decide)) (fun B E h75 e125 ho => ?_)
        rotate_left
        · (have hc := h74.c; go_simp <;> (try with_reducible rfl))
        clear h74 ho e124 e111
        refine si_v (v := ?_) 126 76 rfl h75 wanted_p ?_ (hzA 126 (by decide)) (fun B E h76 e126 ho => ?_)
        rotate_left
        · (go_simp <;> (try with_reducible rfl))
        clear h75 ho e125
        refine si_nb 75 7 83 133 h76 e126 (hzA 133 (by decide)) (fun B E h83 hu ho => ?_)
        replace e126 := (ho 126 (by decide)).trans e126
        have e133 := hu 133 (by decide) (by decide)
        clear h76 ho hu
        refine si_v (v := ?_) 134 84 rfl h83 wanted_p ?_ (hzA 134 (by decide)) (fun B E h84 e134 ho => ?_)
        rotate_left
        · (have hc := h83.c; go_simp <;> (try with_reducible rfl))
        clear h83 ho e133 e126
        refine wpI.done rfl ?_
        exact hQ _ _ _ h84.x h84.v (e134.trans (by rw [HN.out]; rfl)) HB.out
end Go.Proofs.Ytaofolbnommpgaa
