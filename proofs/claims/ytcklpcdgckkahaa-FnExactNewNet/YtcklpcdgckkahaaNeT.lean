/- Nets: the great condition of the specification's GoodNet. Written by tools/mkNeT.py. -/
import Derived.Test.YtcklpcdgckkahaaNeD
import Derived.Test.YtcklpcdgckkahaaSr
namespace Go.Proofs.Ytcklpcdgckkahaa
open Go.RowKit
set_option linter.unusedVariables false

/-- What the last condition asks: f and t the ends, q how many marks, wb whether the way is to be watched. -/
def netR (x0 x1 : Int) (f t n2 n4 q : Nat) (fm tm wt wb : Bool) : Prop := (x0 = (f : Int) ∧ x1 = (t : Int)) ∧ n2 ≤ 20 ∧ n4 ≤ 200 ∧ q ≤ 1 ∧ (0 < q → fm = true) ∧ wt = wb ∧ (tm = false → n4 = 0 ∧ (fm = true → 0 < q))
/-- What is known of a slot: a boolean, or that it was passed by. -/
def kv : Option Bool → Value
  | some b => .bool b
  | none => undef
def dstIs (o : Option Oper) (d : Nat) : Bool := match o with
  | some o => match o.dst with | some x => Nat.beq x d | none => false
  | none => false
def notW (v : Option Bool) (b : Bool) : Bool := match v with
  | some true => !b
  | some false => b
  | none => true
def knows (l : List Oper) (s j : Nat) (b : Bool) : List (Nat × Option Bool) → Bool
  | [] => false
  | p :: K => (Nat.beq p.1 j && notW p.2 b && dstIs l[j]? (s + j)) || knows l s j b K
/-- The operations k .. k + m are passed by, for what is known of slots ahead. -/
def skips (l : List Oper) (s : Nat) : Nat → Nat → List (Nat × Option Bool) → Bool
  | _, 0, _ => true
  | k, m + 1, K => (match l[k]? with
    | some o => dstIs (some o) (s + k) && (match o.guard with | some (j, b) => knows l s j b K | none => false)
    | none => false) && skips l s (k + 1) m ((k, none) :: K)
theorem dstIs_of {o : Oper} {d : Nat} (h : dstIs (some o) d = true) : o.dst = some d := by
  unfold dstIs at h
  cases e : o.dst with
  | none => simp [e] at h
  | some x => simp [e] at h; rw [h]
theorem knows_of {l : List Oper} {s j : Nat} {b : Bool} : ∀ {K : List (Nat × Option Bool)}, knows l s j b K = true → ∃ p ∈ K, p.1 = j ∧ notW p.2 b = true ∧ dstIs l[j]? (s + j) = true
  | [], h => by cases h
  | p :: K, h => by
    unfold knows at h
    rcases Bool.or_eq_true_iff.1 h with h | h
    · rw [Bool.and_eq_true, Bool.and_eq_true] at h
      exact ⟨p, List.mem_cons_self, Nat.eq_of_beq_eq_true h.1.1, h.1.2, h.2⟩
    · obtain ⟨q, hq, e⟩ := knows_of h; exact ⟨q, List.mem_cons_of_mem _ hq, e⟩
theorem si_ns {P : Program} {l : List Oper} {Q : Exit → Act → World → Prop} {A : Act} {E0 : Operand → Value} {w : World} {s : Nat} : ∀ (m k : Nat) (B : Act) (E : Operand → Value) (K : List (Nat × Option Bool)), St A B E0 E s k → (∀ p ∈ K, p.1 < k ∧ E (.tmp (s + p.1)) = kv p.2) → skips l s k m K = true → s + (k + m) ≤ A.tmps.size →
    (∀ B' E', St A B' E0 E' s (k + m) → (∀ d, s + k ≤ d → d < s + (k + m) → E' (.tmp d) = undef) → (∀ d, d < s + k → E' (.tmp d) = E (.tmp d)) → wpI P l Q (k + m) B' w) → wpI P l Q k B w
  | 0, k, B, E, K, hS, _, _, _, h => h B E hS (fun d h1 h2 => by omega) (fun _ _ => rfl)
  | m + 1, k, B, E, K, hS, hK, hc, hz, h => by
    unfold skips at hc
    rw [Bool.and_eq_true] at hc
    obtain ⟨hc, hc'⟩ := hc
    cases hi : l[k]? with
    | none => rw [hi] at hc; cases hc
    | some o =>
      rw [hi] at hc
      replace hc := Bool.and_eq_true_iff.1 hc
      obtain ⟨hd, hg⟩ := hc
      replace hd := dstIs_of hd
      cases e : o.guard with
      | none => rw [e] at hg; cases hg
      | some q =>
        obtain ⟨j, b⟩ := q
        rw [e] at hg
        obtain ⟨p, hp, hj, hn, hdj⟩ := knows_of hg
        obtain ⟨hlt, hv⟩ := hK p hp
        rw [hj] at hv
        have hdj' : (l.toArray[j]?).bind (·.dst) = some (s + j) := by
          rw [List.getElem?_toArray]
          cases ej : l[j]? with
          | none => rw [ej] at hdj; cases hdj
          | some x => rw [ej] at hdj; exact dstIs_of hdj
        have hw : Region.wanted o (yielded l.toArray B.tmps) = false := by
          cases ep : p.2 with
          | none => rw [ep] at hv; exact wanted_u hS.v j (s + j) b hv e hdj'
          | some v =>
            rw [ep] at hv hn
            rw [wanted_g hS.v j (s + j) b hv e hdj']
            cases v <;> cases b <;> first | rfl | cases hn
        refine wpI.at hi (sr_n (s + k) hS.x hS.v hw (by omega) rfl (fun B' E' h1 h2 h3 h4 h5 h6 => ?_) hd)
        refine si_ns m (k + 1) B' E' ((k, none) :: K) ⟨h1, h2, h5, h6, fun x hx => (h4 x (by omega)).trans (hS.o x hx)⟩ ?_ hc' (by omega) ?_
        · intro r hr
          rcases List.mem_cons.1 hr with rfl | hr
          · exact ⟨by simp, h3⟩
          · have := hK r hr
            exact ⟨by omega, (h4 _ (by omega)).trans this.2⟩
        · intro B2 E2 g1 g2 g3
          rw [show k + 1 + m = k + (m + 1) by omega] at g1 g2 ⊢
          refine h B2 E2 g1 (fun d a1 a2 => ?_) (fun d a1 => (g3 d (by omega)).trans (h4 d (by omega)))
          rcases Nat.lt_or_ge d (s + (k + 1)) with a3 | a3
          · obtain rfl : d = s + k := by omega
            exact (g3 _ a3).trans h3
          · exact g2 d a3 a2
theorem si_nb {P : Program} {l : List Oper} {Q : Exit → Act → World → Prop} {A B : Act} {E0 E : Operand → Value} {w : World} {s k x : Nat} {v : Bool} (j m k' d : Nat) (hS : St A B E0 E s k) (he : E (.tmp x) = .bool v) (hz : d < A.tmps.size)
    (h : ∀ B' E', St A B' E0 E' s k' → (∀ d, s + k ≤ d → d < s + k' → E' (.tmp d) = undef) → (∀ d, d < s + k → E' (.tmp d) = E (.tmp d)) → wpI P l Q k' B' w) (hx : s + j = x := by rfl) (hk : k + m = k' := by rfl) (hd : s + k' = d + 1 := by rfl) (hj : Nat.blt j k = true := by rfl) (hc : skips l s k m [(j, some v)] = true := by rfl) : wpI P l Q k B w := by
  subst hx; subst hk
  exact si_ns m k B E _ hS (fun p hp => by cases List.mem_singleton.1 hp; exact ⟨by simpa using hj, he⟩) hc (by omega) h
theorem si_nu {P : Program} {l : List Oper} {Q : Exit → Act → World → Prop} {A B : Act} {E0 E : Operand → Value} {w : World} {s k x : Nat} (j m k' d : Nat) (hS : St A B E0 E s k) (he : E (.tmp x) = undef) (hz : d < A.tmps.size)
    (h : ∀ B' E', St A B' E0 E' s k' → (∀ d, s + k ≤ d → d < s + k' → E' (.tmp d) = undef) → (∀ d, d < s + k → E' (.tmp d) = E (.tmp d)) → wpI P l Q k' B' w) (hx : s + j = x := by rfl) (hk : k + m = k' := by rfl) (hd : s + k' = d + 1 := by rfl) (hj : Nat.blt j k = true := by rfl) (hc : skips l s k m [(j, none)] = true := by rfl) : wpI P l Q k B w := by
  subst hx; subst hk
  exact si_ns m k B E _ hS (fun p hp => by cases List.mem_singleton.1 hp; exact ⟨by simpa using hj, he⟩) hc (by omega) h

def ops37 : List Oper := [{ dst := some 142, op := Op.fieldAddr 83 (Operand.tmp 9) 0, type := 0, pos := "l13_snapshot.go:70", after := #[], guard := none }, { dst := some 143, op := Op.load 3 (Operand.tmp 142), type := 3, pos := "l13_snapshot.go:70", after := #[{ on := 0, ground := Ground.data }], guard := none }, { dst := some 144, op := Op.move (Operand.tmp 7), type := 3, pos := "l13_snapshot.go:70", after := #[], guard := none }, { dst := some 145, op := Op.binOp BinOp.neq 3 (Operand.tmp 143) (Operand.tmp 144) 3, type := 4, pos := "l13_snapshot.go:70", after := #[{ on := 1, ground := Ground.data }, { on := 2, ground := Ground.data }], guard := none }, { dst := some 146, op := Op.move (Operand.tmp 145), type := 4, pos := "l13_snapshot.go:70", after := #[{ on := 3, ground := Ground.data }], guard := none }, { dst := some 147, op := Op.fieldAddr 83 (Operand.tmp 9) 1, type := 0, pos := "l13_snapshot.go:70", after := #[{ on := 4, ground := Ground.guard }], guard := some (4, false) }, { dst := some 148, op := Op.load 3 (Operand.tmp 147), type := 3, pos := "l13_snapshot.go:70", after := #[{ on := 5, ground := Ground.data }, { on := 4, ground := Ground.guard }], guard := some (4, false) }, { dst := some 149, op := Op.move (Operand.tmp 8), type := 3, pos := "l13_snapshot.go:70", after := #[{ on := 4, ground := Ground.guard }], guard := some (4, false) }, { dst := some 150, op := Op.binOp BinOp.neq 3 (Operand.tmp 148) (Operand.tmp 149) 3, type := 4, pos := "l13_snapshot.go:70", after := #[{ on := 6, ground := Ground.data }, { on := 7, ground := Ground.data }, { on := 4, ground := Ground.guard }], guard := some (4, false) }, { dst := some 151, op := Op.pick (Operand.tmp 146) (Operand.const (Value.bool true)) (Operand.tmp 150), type := 4, pos := "l13_snapshot.go:70", after := #[{ on := 4, ground := Ground.data }, { on := 8, ground := Ground.data }], guard := none }, { dst := some 152, op := Op.move (Operand.tmp 151), type := 4, pos := "l13_snapshot.go:70", after := #[{ on := 9, ground := Ground.data }, { on := 4, ground := Ground.chain }], guard := none }, { dst := some 153, op := Op.fieldAddr 83 (Operand.tmp 9) 2, type := 0, pos := "l13_snapshot.go:70", after := #[{ on := 10, ground := Ground.guard }], guard := some (10, false) }, { dst := some 154, op := Op.load 81 (Operand.tmp 153), type := 81, pos := "l13_snapshot.go:70", after := #[{ on := 11, ground := Ground.data }, { on := 10, ground := Ground.guard }], guard := some (10, false) }, { dst := some 155, op := Op.call { callee := Callee.builtin Builtin.len, args := #[Operand.tmp 154], argTypes := #[81] }, type := 3, pos := "l13_snapshot.go:70", after := #[{ on := 12, ground := Ground.data }, { on := 10, ground := Ground.guard }], guard := some (10, false) }, { dst := some 156, op := Op.binOp BinOp.gtr 3 (Operand.tmp 155) (Operand.const (Value.int IntKind.i64 20)) 3, type := 4, pos := "l13_snapshot.go:70", after := #[{ on := 13, ground := Ground.data }, { on := 10, ground := Ground.guard }], guard := some (10, false) }, { dst := some 157, op := Op.pick (Operand.tmp 152) (Operand.const (Value.bool true)) (Operand.tmp 156), type := 4, pos := "l13_snapshot.go:70", after := #[{ on := 10, ground := Ground.data }, { on := 14, ground := Ground.data }], guard := none }, { dst := some 158, op := Op.move (Operand.tmp 157), type := 4, pos := "l13_snapshot.go:70", after := #[{ on := 15, ground := Ground.data }, { on := 10, ground := Ground.chain }], guard := none }, { dst := some 159, op := Op.fieldAddr 83 (Operand.tmp 9) 4, type := 0, pos := "l13_snapshot.go:70", after := #[{ on := 16, ground := Ground.guard }], guard := some (16, false) }, { dst := some 160, op := Op.load 23 (Operand.tmp 159), type := 23, pos := "l13_snapshot.go:70", after := #[{ on := 17, ground := Ground.data }, { on := 16, ground := Ground.guard }], guard := some (16, false) }, { dst := some 161, op := Op.call { callee := Callee.builtin Builtin.len, args := #[Operand.tmp 160], argTypes := #[23] }, type := 3, pos := "l13_snapshot.go:70", after := #[{ on := 18, ground := Ground.data }, { on := 16, ground := Ground.guard }], guard := some (16, false) }, { dst := some 162, op := Op.binOp BinOp.gtr 3 (Operand.tmp 161) (Operand.const (Value.int IntKind.i64 200)) 3, type := 4, pos := "l13_snapshot.go:70", after := #[{ on := 19, ground := Ground.data }, { on := 16, ground := Ground.guard }], guard := some (16, false) }, { dst := some 163, op := Op.pick (Operand.tmp 158) (Operand.const (Value.bool true)) (Operand.tmp 162), type := 4, pos := "l13_snapshot.go:70", after := #[{ on := 16, ground := Ground.data }, { on := 20, ground := Ground.data }], guard := none }, { dst := some 164, op := Op.move (Operand.tmp 163), type := 4, pos := "l13_snapshot.go:70", after := #[{ on := 21, ground := Ground.data }, { on := 16, ground := Ground.chain }], guard := none }, { dst := some 165, op := Op.move (Operand.tmp 10), type := 3, pos := "l13_snapshot.go:70", after := #[{ on := 22, ground := Ground.guard }], guard := some (22, false) }, { dst := some 166, op := Op.binOp BinOp.gtr 3 (Operand.tmp 165) (Operand.const (Value.int IntKind.i64 1)) 3, type := 4, pos := "l13_snapshot.go:70", after := #[{ on := 23, ground := Ground.data }, { on := 22, ground := Ground.guard }], guard := some (22, false) }, { dst := some 167, op := Op.pick (Operand.tmp 164) (Operand.const (Value.bool true)) (Operand.tmp 166), type := 4, pos := "l13_snapshot.go:70", after := #[{ on := 22, ground := Ground.data }, { on := 24, ground := Ground.data }], guard := none }, { dst := some 168, op := Op.move (Operand.tmp 167), type := 4, pos := "l13_snapshot.go:70", after := #[{ on := 25, ground := Ground.data }, { on := 22, ground := Ground.chain }], guard := none }, { dst := some 169, op := Op.move (Operand.tmp 10), type := 3, pos := "l13_snapshot.go:70", after := #[{ on := 26, ground := Ground.guard }], guard := some (26, false) }, { dst := some 170, op := Op.binOp BinOp.gtr 3 (Operand.tmp 169) (Operand.const (Value.int IntKind.i64 0)) 3, type := 4, pos := "l13_snapshot.go:70", after := #[{ on := 27, ground := Ground.data }, { on := 26, ground := Ground.guard }], guard := some (26, false) }, { dst := some 171, op := Op.move (Operand.tmp 170), type := 4, pos := "l13_snapshot.go:70", after := #[{ on := 28, ground := Ground.data }, { on := 26, ground := Ground.chain }, { on := 26, ground := Ground.guard }], guard := some (26, false) }, { dst := some 172, op := Op.fieldAddr 30 (Operand.tmp 1) 0, type := 0, pos := "l13_snapshot.go:70", after := #[{ on := 29, ground := Ground.guard }], guard := some (29, true) }, { dst := some 173, op := Op.load 27 (Operand.tmp 172), type := 27, pos := "l13_snapshot.go:70", after := #[{ on := 30, ground := Ground.data }, { on := 29, ground := Ground.guard }], guard := some (29, true) }, { dst := some 174, op := Op.move (Operand.tmp 7), type := 3, pos := "l13_snapshot.go:70", after := #[{ on := 29, ground := Ground.guard }], guard := some (29, true) }].append [{ dst := some 175, op := Op.indexAddr 27 (Operand.tmp 173) (Operand.tmp 174), type := 0, pos := "l13_snapshot.go:70", after := #[{ on := 31, ground := Ground.data }, { on := 32, ground := Ground.data }, { on := 29, ground := Ground.guard }], guard := some (29, true) }, { dst := some 176, op := Op.fieldAddr 80 (Operand.tmp 175) 1, type := 0, pos := "l13_snapshot.go:70", after := #[{ on := 33, ground := Ground.data }, { on := 29, ground := Ground.guard }], guard := some (29, true) }, { dst := some 177, op := Op.load 4 (Operand.tmp 176), type := 4, pos := "l13_snapshot.go:70", after := #[{ on := 34, ground := Ground.data }, { on := 29, ground := Ground.guard }], guard := some (29, true) }, { dst := some 178, op := Op.unOp UnOp.not 4 (Operand.tmp 177), type := 4, pos := "l13_snapshot.go:70", after := #[{ on := 35, ground := Ground.data }, { on := 29, ground := Ground.guard }], guard := some (29, true) }, { dst := some 179, op := Op.pick (Operand.tmp 171) (Operand.tmp 178) (Operand.const (Value.bool false)), type := 4, pos := "l13_snapshot.go:70", after := #[{ on := 29, ground := Ground.data }, { on := 36, ground := Ground.data }, { on := 26, ground := Ground.guard }], guard := some (26, false) }, { dst := some 180, op := Op.pick (Operand.tmp 168) (Operand.const (Value.bool true)) (Operand.tmp 179), type := 4, pos := "l13_snapshot.go:70", after := #[{ on := 26, ground := Ground.data }, { on := 37, ground := Ground.data }], guard := none }, { dst := some 181, op := Op.move (Operand.tmp 180), type := 4, pos := "l13_snapshot.go:70", after := #[{ on := 38, ground := Ground.data }, { on := 29, ground := Ground.chain }], guard := none }, { dst := some 182, op := Op.fieldAddr 83 (Operand.tmp 9) 3, type := 0, pos := "l13_snapshot.go:70", after := #[{ on := 39, ground := Ground.guard }], guard := some (39, false) }, { dst := some 183, op := Op.load 4 (Operand.tmp 182), type := 4, pos := "l13_snapshot.go:70", after := #[{ on := 40, ground := Ground.data }, { on := 39, ground := Ground.guard }], guard := some (39, false) }, { dst := some 184, op := Op.move (Operand.tmp 16), type := 4, pos := "l13_snapshot.go:70", after := #[{ on := 39, ground := Ground.guard }], guard := some (39, false) }, { dst := some 185, op := Op.binOp BinOp.neq 4 (Operand.tmp 183) (Operand.tmp 184) 4, type := 4, pos := "l13_snapshot.go:70", after := #[{ on := 41, ground := Ground.data }, { on := 42, ground := Ground.data }, { on := 39, ground := Ground.guard }], guard := some (39, false) }, { dst := some 186, op := Op.pick (Operand.tmp 181) (Operand.const (Value.bool true)) (Operand.tmp 185), type := 4, pos := "l13_snapshot.go:70", after := #[{ on := 39, ground := Ground.data }, { on := 43, ground := Ground.data }], guard := none }, { dst := some 187, op := Op.move (Operand.tmp 186), type := 4, pos := "l13_snapshot.go:70", after := #[{ on := 44, ground := Ground.data }, { on := 39, ground := Ground.chain }], guard := none }, { dst := some 188, op := Op.move (Operand.tmp 15), type := 4, pos := "l13_snapshot.go:70", after := #[{ on := 45, ground := Ground.guard }], guard := some (45, false) }, { dst := some 189, op := Op.unOp UnOp.not 4 (Operand.tmp 188), type := 4, pos := "l13_snapshot.go:70", after := #[{ on := 46, ground := Ground.data }, { on := 45, ground := Ground.guard }], guard := some (45, false) }, { dst := some 190, op := Op.move (Operand.tmp 189), type := 4, pos := "l13_snapshot.go:70", after := #[{ on := 47, ground := Ground.data }, { on := 45, ground := Ground.chain }, { on := 45, ground := Ground.guard }], guard := some (45, false) }, { dst := some 191, op := Op.fieldAddr 83 (Operand.tmp 9) 4, type := 0, pos := "l13_snapshot.go:70", after := #[{ on := 48, ground := Ground.guard }], guard := some (48, true) }, { dst := some 192, op := Op.load 23 (Operand.tmp 191), type := 23, pos := "l13_snapshot.go:70", after := #[{ on := 49, ground := Ground.data }, { on := 48, ground := Ground.guard }], guard := some (48, true) }, { dst := some 193, op := Op.call { callee := Callee.builtin Builtin.len, args := #[Operand.tmp 192], argTypes := #[23] }, type := 3, pos := "l13_snapshot.go:70", after := #[{ on := 50, ground := Ground.data }, { on := 48, ground := Ground.guard }], guard := some (48, true) }, { dst := some 194, op := Op.binOp BinOp.gtr 3 (Operand.tmp 193) (Operand.const (Value.int IntKind.i64 0)) 3, type := 4, pos := "l13_snapshot.go:70", after := #[{ on := 51, ground := Ground.data }, { on := 48, ground := Ground.guard }], guard := some (48, true) }, { dst := some 195, op := Op.move (Operand.tmp 194), type := 4, pos := "l13_snapshot.go:70", after := #[{ on := 52, ground := Ground.data }, { on := 48, ground := Ground.chain }, { on := 48, ground := Ground.guard }], guard := some (48, true) }, { dst := some 196, op := Op.fieldAddr 30 (Operand.tmp 1) 0, type := 0, pos := "l13_snapshot.go:70", after := #[{ on := 53, ground := Ground.guard }], guard := some (53, false) }, { dst := some 197, op := Op.load 27 (Operand.tmp 196), type := 27, pos := "l13_snapshot.go:70", after := #[{ on := 54, ground := Ground.data }, { on := 53, ground := Ground.guard }], guard := some (53, false) }, { dst := some 198, op := Op.move (Operand.tmp 7), type := 3, pos := "l13_snapshot.go:70", after := #[{ on := 53, ground := Ground.guard }], guard := some (53, false) }, { dst := some 199, op := Op.indexAddr 27 (Operand.tmp 197) (Operand.tmp 198), type := 0, pos := "l13_snapshot.go:70", after := #[{ on := 55, ground := Ground.data }, { on := 56, ground := Ground.data }, { on := 53, ground := Ground.guard }], guard := some (53, false) }, { dst := some 200, op := Op.fieldAddr 80 (Operand.tmp 199) 1, type := 0, pos := "l13_snapshot.go:70", after := #[{ on := 57, ground := Ground.data }, { on := 53, ground := Ground.guard }], guard := some (53, false) }, { dst := some 201, op := Op.load 4 (Operand.tmp 200), type := 4, pos := "l13_snapshot.go:70", after := #[{ on := 58, ground := Ground.data }, { on := 53, ground := Ground.guard }], guard := some (53, false) }, { dst := some 202, op := Op.move (Operand.tmp 201), type := 4, pos := "l13_snapshot.go:70", after := #[{ on := 59, ground := Ground.data }, { on := 53, ground := Ground.chain }, { on := 53, ground := Ground.guard }], guard := some (53, false) }, { dst := some 203, op := Op.move (Operand.tmp 10), type := 3, pos := "l13_snapshot.go:70", after := #[{ on := 60, ground := Ground.guard }], guard := some (60, true) }, { dst := some 204, op := Op.binOp BinOp.eql 3 (Operand.tmp 203) (Operand.const (Value.int IntKind.i64 0)) 3, type := 4, pos := "l13_snapshot.go:70", after := #[{ on := 61, ground := Ground.data }, { on := 60, ground := Ground.guard }], guard := some (60, true) }, { dst := some 205, op := Op.pick (Operand.tmp 202) (Operand.tmp 204) (Operand.const (Value.bool false)), type := 4, pos := "l13_snapshot.go:70", after := #[{ on := 60, ground := Ground.data }, { on := 62, ground := Ground.data }, { on := 53, ground := Ground.guard }], guard := some (53, false) }, { dst := some 206, op := Op.pick (Operand.tmp 195) (Operand.const (Value.bool true)) (Operand.tmp 205), type := 4, pos := "l13_snapshot.go:70", after := #[{ on := 53, ground := Ground.data }, { on := 63, ground := Ground.data }, { on := 48, ground := Ground.guard }], guard := some (48, true) }, { dst := some 207, op := Op.pick (Operand.tmp 190) (Operand.tmp 206) (Operand.const (Value.bool false)), type := 4, pos := "l13_snapshot.go:70", after := #[{ on := 48, ground := Ground.data }, { on := 64, ground := Ground.data }, { on := 45, ground := Ground.guard }], guard := some (45, false) }, { dst := some 208, op := Op.pick (Operand.tmp 187) (Operand.const (Value.bool true)) (Operand.tmp 207), type := 4, pos := "l13_snapshot.go:70", after := #[{ on := 45, ground := Ground.data }, { on := 65, ground := Ground.data }], guard := none }]
set_option maxRecDepth 100000 in
set_option maxHeartbeats 8000000 in
theorem reg37 (x0 x1 : Int) (f t n2 n4 q nb nw g1 o1 k1 k2 : Nat) (a2 xa1 xa2 : Option Addr) (xk1 xk2 : Nat) (fm tm wt wb : Bool) (br bo : Nat) (w : World) (A : Act) (E : Operand → Value) (Q : Exit → Act → World → Prop)
    (hf : (f : Int) < (nb : Int)) (hn2 : n2 ≤ 1073741824) (hn4 : n4 ≤ 1073741824) (hwf : IntKind.i64.wrap (f : Int) = (f : Int))
    (HB : Hid (Bx w bo [.int .i64 x0, .int .i64 x1, .slice xa1 n2 xk1, .bool wt, .slice xa2 n4 xk2] ∧ Bx w br [.slice (some ⟨g1, o1, none⟩) nb k1, .slice a2 nw k2])) (hc : w.cell? ⟨g1, o1 + f * 3 + 1, none⟩ = some (.bool fm)) (hg : g1 < w.heap.size)
    (hV : Ev A E) (hzA : ∀ d, d < 209 → d < A.tmps.size)
    (e1 : E (.tmp 1) = .pointer (some ⟨br, 0, none⟩)) (e7 : E (.tmp 7) = .int .i64 f) (e8 : E (.tmp 8) = .int .i64 t) (e9 : E (.tmp 9) = .pointer (some ⟨bo, 0, none⟩)) (e10 : E (.tmp 10) = .int .i64 q) (e15 : E (.tmp 15) = .bool tm) (e16 : E (.tmp 16) = .bool wb)
    (hQ : ∀ B E', Ext A B 142 67 → Ev B E' → E' (.tmp 208) = .bool (!(tf (netR x0 x1 f t n2 n4 q fm tm wt wb))) → Q .normal B w) : wpI Try.prog ops37 Q 0 A w := by
  have h0 : St A A E E 142 0 := St.start hV
  have d0 := (HB.out.1).cell 0 rfl; have d1 := (HB.out.1).cell 1 rfl; have d2 := (HB.out.1).cell 2 rfl; have d3 := (HB.out.1).cell 3 rfl; have d4 := (HB.out.1).cell 4 rfl; have dz := (HB.out.1).2
  have s0 := (HB.out.2).cell 0 rfl; have s1 := (HB.out.2).cell 1 rfl; have sz := (HB.out.2).2
  refine si_v (v := ?_) 142 1 rfl h0 wanted_p ?_ (hzA 142 (by decide)) (fun B E h1 e142 ho => ?_)
  rotate_left
  · (have hO := h0.o; go_simp <;> (try with_reducible rfl))
  clear h0 ho
  refine si_v (v := ?_) 143 2 rfl h1 wanted_p ?_ (hzA 143 (by decide)) (fun B E h2 e143 ho => ?_)
  rotate_left
  · (go_simp <;> (try with_reducible rfl))
  clear h1 ho e142
  refine si_v (v := ?_) 144 3 rfl h2 wanted_p ?_ (hzA 144 (by decide)) (fun B E h3 e144 ho => ?_)
  rotate_left
  · (have hO := h2.o; go_simp <;> (try with_reducible rfl))
  replace e143 := (ho 143 (by decide)).trans e143
  clear h2 ho
  refine si_v (v := ?_) 145 4 rfl h3 wanted_p ?_ (hzA 145 (by decide)) (fun B E h4 e145 ho => ?_)
  rotate_left
  · (go_simp <;> (try with_reducible rfl))
  clear h3 ho e143 e144
  by_cases c1 : x0 = (f : Int)
  ·
   replace e145 := e145.trans (congrArg Value.bool (by simp [c1] : (x0 != (f : Int)) = false))
   refine si_v (v := ?_) 146 5 rfl h4 wanted_p ?_ (hzA 146 (by decide)) (fun B E h5 e146 ho => ?_)
   rotate_left
   · (go_simp <;> (try with_reducible rfl))
   clear h4 ho e145
   refine si_v (v := ?_) 147 6 rfl h5 (wanted_g h5.v 4 146 false e146) ?_ (hzA 147 (by decide)) (fun B E h6 e147 ho => ?_)
   rotate_left
   · (have hO := h5.o; go_simp <;> (try with_reducible rfl))
   replace e146 := (ho 146 (by decide)).trans e146
   clear h5 ho
   refine si_v (v := ?_) 148 7 rfl h6 (wanted_g h6.v 4 146 false e146) ?_ (hzA 148 (by decide)) (fun B E h7 e148 ho => ?_)
   rotate_left
   · (go_simp <;> (try with_reducible rfl))
   replace e146 := (ho 146 (by decide)).trans e146
   clear h6 ho e147
   refine si_v (v := ?_) 149 8 rfl h7 (wanted_g h7.v 4 146 false e146) ?_ (hzA 149 (by decide)) (fun B E h8 e149 ho => ?_)
   rotate_left
   · (have hO := h7.o; go_simp <;> (try with_reducible rfl))
   replace e146 := (ho 146 (by decide)).trans e146
   replace e148 := (ho 148 (by decide)).trans e148
   clear h7 ho
   refine si_v (v := ?_) 150 9 rfl h8 (wanted_g h8.v 4 146 false e146) ?_ (hzA 150 (by decide)) (fun B E h9 e150 ho => ?_)
   rotate_left
   · (go_simp <;> (try with_reducible rfl))
   replace e146 := (ho 146 (by decide)).trans e146
   clear h8 ho e148 e149
   by_cases c2 : x1 = (t : Int)
   ·
    replace e150 := e150.trans (congrArg Value.bool (by simp [c2] : (x1 != (t : Int)) = false))
    refine si_v (v := ?_) 151 10 rfl h9 wanted_p ?_ (hzA 151 (by decide)) (fun B E h10 e151 ho => ?_)
    rotate_left
    · (have hc := h9.c; go_simp <;> (try with_reducible rfl))
    clear h9 ho e146 e150
    refine si_v (v := ?_) 152 11 rfl h10 wanted_p ?_ (hzA 152 (by decide)) (fun B E h11 e152 ho => ?_)
    rotate_left
    · (go_simp <;> (try with_reducible rfl))
    clear h10 ho e151
    refine si_v (v := ?_) 153 12 rfl h11 (wanted_g h11.v 10 152 false e152) ?_ (hzA 153 (by decide)) (fun B E h12 e153 ho => ?_)
    rotate_left
    · (have hO := h11.o; go_simp <;> (try with_reducible rfl))
    replace e152 := (ho 152 (by decide)).trans e152
    clear h11 ho
    refine si_v (v := ?_) 154 13 rfl h12 (wanted_g h12.v 10 152 false e152) ?_ (hzA 154 (by decide)) (fun B E h13 e154 ho => ?_)
    rotate_left
    · (go_simp <;> (try with_reducible rfl))
    replace e152 := (ho 152 (by decide)).trans e152
    clear h12 ho e153
    refine si_v (v := ?_) 155 14 rfl h13 (wanted_g h13.v 10 152 false e152) ?_ (hzA 155 (by decide)) (fun B E h14 e155 ho => ?_)
    rotate_left
    · (go_simp <;> (try with_reducible rfl))
    replace e152 := (ho 152 (by decide)).trans e152
    clear h13 ho e154
    refine si_v (v := ?_) 156 15 rfl h14 (wanted_g h14.v 10 152 false e152) ?_ (hzA 156 (by decide)) (fun B E h15 e156 ho => ?_)
    rotate_left
    · (have hc := h14.c; go_simp <;> (try with_reducible rfl))
    replace e152 := (ho 152 (by decide)).trans e152
    clear h14 ho e155
    by_cases c3 : (20 : Int) < (n2 : Int)
    ·
     replace e156 := e156.trans (congrArg Value.bool (decide_eq_true c3))
     have HN : Hid (tf (netR x0 x1 f t n2 n4 q fm tm wt wb) = false) := Hid.intro (tf_no (fun g => by have := g.2.1; omega))
     refine si_v (v := ?_) 157 16 rfl h15 wanted_p ?_ (hzA 157 (by decide)) (fun B E h16 e157 ho => ?_)
     rotate_left
     · (have hc := h15.c; go_simp <;> (try with_reducible rfl))
     clear h15 ho e152 e156
     refine si_v (v := ?_) 158 17 rfl h16 wanted_p ?_ (hzA 158 (by decide)) (fun B E h17 e158 ho => ?_)
     rotate_left
     · (go_simp <;> (try with_reducible rfl))
     clear h16 ho e157
     refine si_nb 16 4 21 162 h17 e158 (hzA 162 (by decide)) (fun B E h21 hu ho => ?_)
     replace e158 := (ho 158 (by decide)).trans e158
     have e162 := hu 162 (by decide) (by decide)
     clear h17 ho hu
     refine si_v (v := ?_) 163 22 rfl h21 wanted_p ?_ (hzA 163 (by decide)) (fun B E h22 e163 ho => ?_)
     rotate_left
     · (have hc := h21.c; go_simp <;> (try with_reducible rfl))
     clear h21 ho e162 e158
     refine si_v (v := ?_) 164 23 rfl h22 wanted_p ?_ (hzA 164 (by decide)) (fun B E h23 e164 ho => ?_)
     rotate_left
     · (go_simp <;> (try with_reducible rfl))
     clear h22 ho e163
     refine si_nb 22 2 25 166 h23 e164 (hzA 166 (by decide)) (fun B E h25 hu ho => ?_)
     replace e164 := (ho 164 (by decide)).trans e164
     have e166 := hu 166 (by decide) (by decide)
     clear h23 ho hu
     refine si_v (v := ?_) 167 26 rfl h25 wanted_p ?_ (hzA 167 (by decide)) (fun B E h26 e167 ho => ?_)
     rotate_left
     · (have hc := h25.c; go_simp <;> (try with_reducible rfl))
     clear h25 ho e164 e166
     refine si_v (v := ?_) 168 27 rfl h26 wanted_p ?_ (hzA 168 (by decide)) (fun B E h27 e168 ho => ?_)
     rotate_left
     · (go_simp <;> (try with_reducible rfl))
     clear h26 ho e167
     refine si_nb 26 11 38 179 h27 e168 (hzA 179 (by decide)) (fun B E h38 hu ho => ?_)
     replace e168 := (ho 168 (by decide)).trans e168
     have e179 := hu 179 (by decide) (by decide)
     clear h27 ho hu
     refine si_v (v := ?_) 180 39 rfl h38 wanted_p ?_ (hzA 180 (by decide)) (fun B E h39 e180 ho => ?_)
     rotate_left
     · (have hc := h38.c; go_simp <;> (try with_reducible rfl))
     clear h38 ho e168 e179
     refine si_v (v := ?_) 181 40 rfl h39 wanted_p ?_ (hzA 181 (by decide)) (fun B E h40 e181 ho => ?_)
     rotate_left
     · (go_simp <;> (try with_reducible rfl))
     clear h39 ho e180
     refine si_nb 39 4 44 185 h40 e181 (hzA 185 (by decide)) (fun B E h44 hu ho => ?_)
     replace e181 := (ho 181 (by decide)).trans e181
     have e185 := hu 185 (by decide) (by decide)
     clear h40 ho hu
     refine si_v (v := ?_) 186 45 rfl h44 wanted_p ?_ (hzA 186 (by decide)) (fun B E h45 e186 ho => ?_)
     rotate_left
     · (have hc := h44.c; go_simp <;> (try with_reducible rfl))
     clear h44 ho e185 e181
     refine si_v (v := ?_) 187 46 rfl h45 wanted_p ?_ (hzA 187 (by decide)) (fun B E h46 e187 ho => ?_)
     rotate_left
     · (go_simp <;> (try with_reducible rfl))
     clear h45 ho e186
     refine si_nb 45 20 66 207 h46 e187 (hzA 207 (by decide)) (fun B E h66 hu ho => ?_)
     replace e187 := (ho 187 (by decide)).trans e187
     have e207 := hu 207 (by decide) (by decide)
     clear h46 ho hu
     refine si_v (v := ?_) 208 67 rfl h66 wanted_p ?_ (hzA 208 (by decide)) (fun B E h67 e208 ho => ?_)
     rotate_left
     · (have hc := h66.c; go_simp <;> (try with_reducible rfl))
     clear h66 ho e187 e207
     refine wpI.done rfl ?_
     exact hQ _ _ h67.x h67.v (e208.trans (by rw [HN.out]; rfl))
    ·
     replace e156 := e156.trans (congrArg Value.bool (decide_eq_false c3))
     refine si_v (v := ?_) 157 16 rfl h15 wanted_p ?_ (hzA 157 (by decide)) (fun B E h16 e157 ho => ?_)
     rotate_left
     · (have hc := h15.c; go_simp <;> (try with_reducible rfl))
     clear h15 ho e152 e156
     refine si_v (v := ?_) 158 17 rfl h16 wanted_p ?_ (hzA 158 (by decide)) (fun B E h17 e158 ho => ?_)
     rotate_left
     · (go_simp <;> (try with_reducible rfl))
     clear h16 ho e157
     refine si_v (v := ?_) 159 18 rfl h17 (wanted_g h17.v 16 158 false e158) ?_ (hzA 159 (by decide)) (fun B E h18 e159 ho => ?_)
     rotate_left
     · (have hO := h17.o; go_simp <;> (try with_reducible rfl))
     replace e158 := (ho 158 (by decide)).trans e158
     clear h17 ho
     refine si_v (v := ?_) 160 19 rfl h18 (wanted_g h18.v 16 158 false e158) ?_ (hzA 160 (by decide)) (fun B E h19 e160 ho => ?_)
     rotate_left
     · (go_simp <;> (try with_reducible rfl))
     replace e158 := (ho 158 (by decide)).trans e158
     clear h18 ho e159
     refine si_v (v := ?_) 161 20 rfl h19 (wanted_g h19.v 16 158 false e158) ?_ (hzA 161 (by decide)) (fun B E h20 e161 ho => ?_)
     rotate_left
     · (go_simp <;> (try with_reducible rfl))
     replace e158 := (ho 158 (by decide)).trans e158
     clear h19 ho e160
     refine si_v (v := ?_) 162 21 rfl h20 (wanted_g h20.v 16 158 false e158) ?_ (hzA 162 (by decide)) (fun B E h21 e162 ho => ?_)
     rotate_left
     · (have hc := h20.c; go_simp <;> (try with_reducible rfl))
     replace e158 := (ho 158 (by decide)).trans e158
     clear h20 ho e161
     by_cases c4 : (200 : Int) < (n4 : Int)
     ·
      replace e162 := e162.trans (congrArg Value.bool (decide_eq_true c4))
      have HN : Hid (tf (netR x0 x1 f t n2 n4 q fm tm wt wb) = false) := Hid.intro (tf_no (fun g => by have := g.2.2.1; omega))
      refine si_v (v := ?_) 163 22 rfl h21 wanted_p ?_ (hzA 163 (by decide)) (fun B E h22 e163 ho => ?_)
      rotate_left
      · (have hc := h21.c; go_simp <;> (try with_reducible rfl))
      clear h21 ho e162 e158
      refine si_v (v := ?_) 164 23 rfl h22 wanted_p ?_ (hzA 164 (by decide)) (fun B E h23 e164 ho => ?_)
      rotate_left
      · (go_simp <;> (try with_reducible rfl))
      clear h22 ho e163
      refine si_nb 22 2 25 166 h23 e164 (hzA 166 (by decide)) (fun B E h25 hu ho => ?_)
      replace e164 := (ho 164 (by decide)).trans e164
      have e166 := hu 166 (by decide) (by decide)
      clear h23 ho hu
      refine si_v (v := ?_) 167 26 rfl h25 wanted_p ?_ (hzA 167 (by decide)) (fun B E h26 e167 ho => ?_)
      rotate_left
      · (have hc := h25.c; go_simp <;> (try with_reducible rfl))
      clear h25 ho e164 e166
      refine si_v (v := ?_) 168 27 rfl h26 wanted_p ?_ (hzA 168 (by decide)) (fun B E h27 e168 ho => ?_)
      rotate_left
      · (go_simp <;> (try with_reducible rfl))
      clear h26 ho e167
      refine si_nb 26 11 38 179 h27 e168 (hzA 179 (by decide)) (fun B E h38 hu ho => ?_)
      replace e168 := (ho 168 (by decide)).trans e168
      have e179 := hu 179 (by decide) (by decide)
      clear h27 ho hu
      refine si_v (v := ?_) 180 39 rfl h38 wanted_p ?_ (hzA 180 (by decide)) (fun B E h39 e180 ho => ?_)
      rotate_left
      · (have hc := h38.c; go_simp <;> (try with_reducible rfl))
      clear h38 ho e168 e179
      refine si_v (v := ?_) 181 40 rfl h39 wanted_p ?_ (hzA 181 (by decide)) (fun B E h40 e181 ho => ?_)
      rotate_left
      · (go_simp <;> (try with_reducible rfl))
      clear h39 ho e180
      refine si_nb 39 4 44 185 h40 e181 (hzA 185 (by decide)) (fun B E h44 hu ho => ?_)
      replace e181 := (ho 181 (by decide)).trans e181
      have e185 := hu 185 (by decide) (by decide)
      clear h40 ho hu
      refine si_v (v := ?_) 186 45 rfl h44 wanted_p ?_ (hzA 186 (by decide)) (fun B E h45 e186 ho => ?_)
      rotate_left
      · (have hc := h44.c; go_simp <;> (try with_reducible rfl))
      clear h44 ho e185 e181
      refine si_v (v := ?_) 187 46 rfl h45 wanted_p ?_ (hzA 187 (by decide)) (fun B E h46 e187 ho => ?_)
      rotate_left
      · (go_simp <;> (try with_reducible rfl))
      clear h45 ho e186
      refine si_nb 45 20 66 207 h46 e187 (hzA 207 (by decide)) (fun B E h66 hu ho => ?_)
      replace e187 := (ho 187 (by decide)).trans e187
      have e207 := hu 207 (by decide) (by decide)
      clear h46 ho hu
      refine si_v (v := ?_) 208 67 rfl h66 wanted_p ?_ (hzA 208 (by decide)) (fun B E h67 e208 ho => ?_)
      rotate_left
      · (have hc := h66.c; go_simp <;> (try with_reducible rfl))
      clear h66 ho e187 e207
      refine wpI.done rfl ?_
      exact hQ _ _ h67.x h67.v (e208.trans (by rw [HN.out]; rfl))
     ·
      replace e162 := e162.trans (congrArg Value.bool (decide_eq_false c4))
      refine si_v (v := ?_) 163 22 rfl h21 wanted_p ?_ (hzA 163 (by decide)) (fun B E h22 e163 ho => ?_)
      rotate_left
      · (have hc := h21.c; go_simp <;> (try with_reducible rfl))
      clear h21 ho e162 e158
      refine si_v (v := ?_) 164 23 rfl h22 wanted_p ?_ (hzA 164 (by decide)) (fun B E h23 e164 ho => ?_)
      rotate_left
      · (go_simp <;> (try with_reducible rfl))
      clear h22 ho e163
      refine si_v (v := ?_) 165 24 rfl h23 (wanted_g h23.v 22 164 false e164) ?_ (hzA 165 (by decide)) (fun B E h24 e165 ho => ?_)
      rotate_left
      · (have hO := h23.o; go_simp <;> (try with_reducible rfl))
      replace e164 := (ho 164 (by decide)).trans e164
      clear h23 ho
      refine si_v (v := ?_) 166 25 rfl h24 (wanted_g h24.v 22 164 false e164) ?_ (hzA 166 (by decide)) (fun B E h25 e166 ho => ?_)
      rotate_left
      · (have hc := h24.c; go_simp <;> (try with_reducible rfl))
      replace e164 := (ho 164 (by decide)).trans e164
      clear h24 ho e165
      by_cases c5 : (1 : Int) < (q : Int)
      ·
       replace e166 := e166.trans (congrArg Value.bool (decide_eq_true c5))
       have HN : Hid (tf (netR x0 x1 f t n2 n4 q fm tm wt wb) = false) := Hid.intro (tf_no (fun g => by have := g.2.2.2.1; omega))
       refine si_v (v := ?_) 167 26 rfl h25 wanted_p ?_ (hzA 167 (by decide)) (fun B E h26 e167 ho => ?_)
       rotate_left
       · (have hc := h25.c; go_simp <;> (try with_reducible rfl))
       clear h25 ho e164 e166
       refine si_v (v := ?_) 168 27 rfl h26 wanted_p ?_ (hzA 168 (by decide)) (fun B E h27 e168 ho => ?_)
       rotate_left
       · (go_simp <;> (try with_reducible rfl))
       clear h26 ho e167
       refine si_nb 26 11 38 179 h27 e168 (hzA 179 (by decide)) (fun B E h38 hu ho => ?_)
       replace e168 := (ho 168 (by decide)).trans e168
       have e179 := hu 179 (by decide) (by decide)
       clear h27 ho hu
       refine si_v (v := ?_) 180 39 rfl h38 wanted_p ?_ (hzA 180 (by decide)) (fun B E h39 e180 ho => ?_)
       rotate_left
       · (have hc := h38.c; go_simp <;> (try with_reducible rfl))
       clear h38 ho e168 e179
       refine si_v (v := ?_) 181 40 rfl h39 wanted_p ?_ (hzA 181 (by decide)) (fun B E h40 e181 ho => ?_)
       rotate_left
       · (go_simp <;> (try with_reducible rfl))
       clear h39 ho e180
       refine si_nb 39 4 44 185 h40 e181 (hzA 185 (by decide)) (fun B E h44 hu ho => ?_)
       replace e181 := (ho 181 (by decide)).trans e181
       have e185 := hu 185 (by decide) (by decide)
       clear h40 ho hu
       refine si_v (v := ?_) 186 45 rfl h44 wanted_p ?_ (hzA 186 (by decide)) (fun B E h45 e186 ho => ?_)
       rotate_left
       · (have hc := h44.c; go_simp <;> (try with_reducible rfl))
       clear h44 ho e185 e181
       refine si_v (v := ?_) 187 46 rfl h45 wanted_p ?_ (hzA 187 (by decide)) (fun B E h46 e187 ho => ?_)
       rotate_left
       · (go_simp <;> (try with_reducible rfl))
       clear h45 ho e186
       refine si_nb 45 20 66 207 h46 e187 (hzA 207 (by decide)) (fun B E h66 hu ho => ?_)
       replace e187 := (ho 187 (by decide)).trans e187
       have e207 := hu 207 (by decide) (by decide)
       clear h46 ho hu
       refine si_v (v := ?_) 208 67 rfl h66 wanted_p ?_ (hzA 208 (by decide)) (fun B E h67 e208 ho => ?_)
       rotate_left
       · (have hc := h66.c; go_simp <;> (try with_reducible rfl))
       clear h66 ho e187 e207
       refine wpI.done rfl ?_
       exact hQ _ _ h67.x h67.v (e208.trans (by rw [HN.out]; rfl))
      ·
       replace e166 := e166.trans (congrArg Value.bool (decide_eq_false c5))
       refine si_v (v := ?_) 167 26 rfl h25 wanted_p ?_ (hzA 167 (by decide)) (fun B E h26 e167 ho => ?_)
       rotate_left
       · (have hc := h25.c; go_simp <;> (try with_reducible rfl))
       clear h25 ho e164 e166
       refine si_v (v := ?_) 168 27 rfl h26 wanted_p ?_ (hzA 168 (by decide)) (fun B E h27 e168 ho => ?_)
       rotate_left
       · (go_simp <;> (try with_reducible rfl))
       clear h26 ho e167
       refine si_v (v := ?_) 169 28 rfl h27 (wanted_g h27.v 26 168 false e168) ?_ (hzA 169 (by decide)) (fun B E h28 e169 ho => ?_)
       rotate_left
       · (have hO := h27.o; go_simp <;> (try with_reducible rfl))
       replace e168 := (ho 168 (by decide)).trans e168
       clear h27 ho
       refine si_v (v := ?_) 170 29 rfl h28 (wanted_g h28.v 26 168 false e168) ?_ (hzA 170 (by decide)) (fun B E h29 e170 ho => ?_)
       rotate_left
       · (have hc := h28.c; go_simp <;> (try with_reducible rfl))
       replace e168 := (ho 168 (by decide)).trans e168
       clear h28 ho e169
       by_cases c6 : 0 < q
       ·
        replace e170 := e170.trans (congrArg Value.bool (decide_eq_true c6))
        refine si_v (v := ?_) 171 30 rfl h29 (wanted_g h29.v 26 168 false e168) ?_ (hzA 171 (by decide)) (fun B E h30 e171 ho => ?_)
        rotate_left
        · (go_simp <;> (try with_reducible rfl))
        replace e168 := (ho 168 (by decide)).trans e168
        clear h29 ho e170
        refine si_v (v := ?_) 172 31 rfl h30 (wanted_g h30.v 29 171 true e171) ?_ (hzA 172 (by decide)) (fun B E h31 e172 ho => ?_)
        rotate_left
        · (have hO := h30.o; go_simp <;> (try with_reducible rfl))
        replace e168 := (ho 168 (by decide)).trans e168
        replace e171 := (ho 171 (by decide)).trans e171
        clear h30 ho
        refine si_v (v := ?_) 173 32 rfl h31 (wanted_g h31.v 29 171 true e171) ?_ (hzA 173 (by decide)) (fun B E h32 e173 ho => ?_)
        rotate_left
        · (go_simp <;> (try with_reducible rfl))
        replace e168 := (ho 168 (by decide)).trans e168
        replace e171 := (ho 171 (by decide)).trans e171
        clear h31 ho e172
        refine si_v (v := ?_) 174 33 rfl h32 (wanted_g h32.v 29 171 true e171) ?_ (hzA 174 (by decide)) (fun B E h33 e174 ho => ?_)
        rotate_left
        · (have hO := h32.o; go_simp <;> (try with_reducible rfl))
        replace e168 := (ho 168 (by decide)).trans e168
        replace e171 := (ho 171 (by decide)).trans e171
        replace e173 := (ho 173 (by decide)).trans e173
        clear h32 ho
        refine si_v (v := ?_) 175 34 rfl h33 (wanted_g h33.v 29 171 true e171) ?_ (hzA 175 (by decide)) (fun B E h34 e175 ho => ?_)
        rotate_left
        · (go_simp <;> (try with_reducible rfl))
        replace e168 := (ho 168 (by decide)).trans e168
        replace e171 := (ho 171 (by decide)).trans e171
        clear h33 ho e173 e174
        refine si_v (v := ?_) 176 35 rfl h34 (wanted_g h34.v 29 171 true e171) ?_ (hzA 176 (by decide)) (fun B E h35 e176 ho => ?_)
        rotate_left
        · (go_simp <;> (try with_reducible rfl))
        replace e168 := (ho 168 (by decide)).trans e168
        replace e171 := (ho 171 (by decide)).trans e171
        clear h34 ho e175
        refine si_v (v := ?_) 177 36 rfl h35 (wanted_g h35.v 29 171 true e171) ?_ (hzA 177 (by decide)) (fun B E h36 e177 ho => ?_)
        rotate_left
        · (go_simp <;> (try with_reducible rfl))
        replace e168 := (ho 168 (by decide)).trans e168
        replace e171 := (ho 171 (by decide)).trans e171
        clear h35 ho e176
        rcases Bool.eq_false_or_eq_true fm with hfm | hfm
        ·
         rw [hfm] at e177
         refine si_v (v := ?_) 178 37 rfl h36 (wanted_g h36.v 29 171 true e171) ?_ (hzA 178 (by decide)) (fun B E h37 e178 ho => ?_)
         rotate_left
         · (go_simp <;> (try with_reducible rfl))
         replace e168 := (ho 168 (by decide)).trans e168
         replace e171 := (ho 171 (by decide)).trans e171
         clear h36 ho e177
         refine si_v (v := ?_) 179 38 rfl h37 (wanted_g h37.v 26 168 false e168) ?_ (hzA 179 (by decide)) (fun B E h38 e179 ho => ?_)
         rotate_left
         · (have hc := h37.c; go_simp <;> (try with_reducible rfl))
         replace e168 := (ho 168 (by decide)).trans e168
         clear h37 ho e171 e178
         refine si_v (v := ?_) 180 39 rfl h38 wanted_p ?_ (hzA 180 (by decide)) (fun B E h39 e180 ho => ?_)
         rotate_left
         · (have hc := h38.c; go_simp <;> (try with_reducible rfl))
         clear h38 ho e168 e179
         refine si_v (v := ?_) 181 40 rfl h39 wanted_p ?_ (hzA 181 (by decide)) (fun B E h40 e181 ho => ?_)
         rotate_left
         · (go_simp <;> (try with_reducible rfl))
         clear h39 ho e180
         refine si_v (v := ?_) 182 41 rfl h40 (wanted_g h40.v 39 181 false e181) ?_ (hzA 182 (by decide)) (fun B E h41 e182 ho => ?_)
         rotate_left
         · (have hO := h40.o; go_simp <;> (try with_reducible rfl))
         replace e181 := (ho 181 (by decide)).trans e181
         clear h40 ho
         refine si_v (v := ?_) 183 42 rfl h41 (wanted_g h41.v 39 181 false e181) ?_ (hzA 183 (by decide)) (fun B E h42 e183 ho => ?_)
         rotate_left
         · (go_simp <;> (try with_reducible rfl))
         replace e181 := (ho 181 (by decide)).trans e181
         clear h41 ho e182
         refine si_v (v := ?_) 184 43 rfl h42 (wanted_g h42.v 39 181 false e181) ?_ (hzA 184 (by decide)) (fun B E h43 e184 ho => ?_)
         rotate_left
         · (have hO := h42.o; go_simp <;> (try with_reducible rfl))
         replace e181 := (ho 181 (by decide)).trans e181
         replace e183 := (ho 183 (by decide)).trans e183
         clear h42 ho
         refine si_v (v := ?_) 185 44 rfl h43 (wanted_g h43.v 39 181 false e181) ?_ (hzA 185 (by decide)) (fun B E h44 e185 ho => ?_)
         rotate_left
         · (go_simp <;> (try with_reducible rfl))
         replace e181 := (ho 181 (by decide)).trans e181
         clear h43 ho e183 e184
         by_cases c7 : wt = wb
         ·
          replace e185 := e185.trans (congrArg Value.bool (by simp [c7] : (wt != wb) = false))
          refine si_v (v := ?_) 186 45 rfl h44 wanted_p ?_ (hzA 186 (by decide)) (fun B E h45 e186 ho => ?_)
          rotate_left
          · (have hc := h44.c; go_simp <;> (try with_reducible rfl))
          clear h44 ho e185 e181
          refine si_v (v := ?_) 187 46 rfl h45 wanted_p ?_ (hzA 187 (by decide)) (fun B E h46 e187 ho => ?_)
          rotate_left
          · (go_simp <;> (try with_reducible rfl))
          clear h45 ho e186
          refine si_v (v := ?_) 188 47 rfl h46 (wanted_g h46.v 45 187 false e187) ?_ (hzA 188 (by decide)) (fun B E h47 e188 ho => ?_)
          rotate_left
          · (have hO := h46.o; go_simp <;> (try with_reducible rfl))
          replace e187 := (ho 187 (by decide)).trans e187
          clear h46 ho
          rcases Bool.eq_false_or_eq_true tm with htm | htm
          ·
           rw [htm] at e188
           have HN : Hid (tf (netR x0 x1 f t n2 n4 q fm tm wt wb) = true) := Hid.intro (tf_yes ⟨⟨c1, c2⟩, by omega, by omega, by omega, fun _ => hfm, c7, fun h => by rw [htm] at h; cases h⟩)
           refine si_v (v := ?_) 189 48 rfl h47 (wanted_g h47.v 45 187 false e187) ?_ (hzA 189 (by decide)) (fun B E h48 e189 ho => ?_)
           rotate_left
           · (go_simp <;> (try with_reducible rfl))
           replace e187 := (ho 187 (by decide)).trans e187
           clear h47 ho e188
           refine si_v (v := ?_) 190 49 rfl h48 (wanted_g h48.v 45 187 false e187) ?_ (hzA 190 (by decide)) (fun B E h49 e190 ho => ?_)
           rotate_left
           · (go_simp <;> (try with_reducible rfl))
           replace e187 := (ho 187 (by decide)).trans e187
           clear h48 ho e189
           refine si_nb 48 16 65 206 h49 e190 (hzA 206 (by decide)) (fun B E h65 hu ho => ?_)
           replace e187 := (ho 187 (by decide)).trans e187
           replace e190 := (ho 190 (by decide)).trans e190
           have e206 := hu 206 (by decide) (by decide)
           clear h49 ho hu
           refine si_v (v := ?_) 207 66 rfl h65 (wanted_g h65.v 45 187 false e187) ?_ (hzA 207 (by decide)) (fun B E h66 e207 ho => ?_)
           rotate_left
           · (have hc := h65.c; go_simp <;> (try with_reducible rfl))
           replace e187 := (ho 187 (by decide)).trans e187
           clear h65 ho e190 e206
           refine si_v (v := ?_) 208 67 rfl h66 wanted_p ?_ (hzA 208 (by decide)) (fun B E h67 e208 ho => ?_)
           rotate_left
           · (have hc := h66.c; go_simp <;> (try with_reducible rfl))
           clear h66 ho e187 e207
           refine wpI.done rfl ?_
           exact hQ _ _ h67.x h67.v (e208.trans (by rw [HN.out]; rfl))
          ·
           rw [htm] at e188
           refine si_v (v := ?_) 189 48 rfl h47 (wanted_g h47.v 45 187 false e187) ?_ (hzA 189 (by decide)) (fun B E h48 e189 ho => ?_)
           rotate_left
           · (go_simp <;> (try with_reducible rfl))
           replace e187 := (ho 187 (by decide)).trans e187
           clear h47 ho e188
           refine si_v (v := ?_) 190 49 rfl h48 (wanted_g h48.v 45 187 false e187) ?_ (hzA 190 (by decide)) (fun B E h49 e190 ho => ?_)
           rotate_left
           · (go_simp <;> (try with_reducible rfl))
           replace e187 := (ho 187 (by decide)).trans e187
           clear h48 ho e189
           refine si_v (v := ?_) 191 50 rfl h49 (wanted_g h49.v 48 190 true e190) ?_ (hzA 191 (by decide)) (fun B E h50 e191 ho => ?_)
           rotate_left
           · (have hO := h49.o; go_simp <;> (try with_reducible rfl))
           replace e187 := (ho 187 (by decide)).trans e187
           replace e190 := (ho 190 (by decide)).trans e190
           clear h49 ho
           refine si_v (v := ?_) 192 51 rfl h50 (wanted_g h50.v 48 190 true e190) ?_ (hzA 192 (by decide)) (fun B E h51 e192 ho => ?_)
           rotate_left
           · (go_simp <;> (try with_reducible rfl))
           replace e187 := (ho 187 (by decide)).trans e187
           replace e190 := (ho 190 (by decide)).trans e190
           clear h50 ho e191
           refine si_v (v := ?_) 193 52 rfl h51 (wanted_g h51.v 48 190 true e190) ?_ (hzA 193 (by decide)) (fun B E h52 e193 ho => ?_)
           rotate_left
           · (go_simp <;> (try with_reducible rfl))
           replace e187 := (ho 187 (by decide)).trans e187
           replace e190 := (ho 190 (by decide)).trans e190
           clear h51 ho e192
           refine si_v (v := ?_) 194 53 rfl h52 (wanted_g h52.v 48 190 true e190) ?_ (hzA 194 (by decide)) (fun B E h53 e194 ho => ?_)
           rotate_left
           · (have hc := h52.c; go_simp <;> (try with_reducible rfl))
           replace e187 := (ho 187 (by decide)).trans e187
           replace e190 := (ho 190 (by decide)).trans e190
           clear h52 ho e193
           by_cases c8 : 0 < n4
           ·
            replace e194 := e194.trans (congrArg Value.bool (decide_eq_true c8))
            have HN : Hid (tf (netR x0 x1 f t n2 n4 q fm tm wt wb) = false) := Hid.intro (tf_no (fun g => by have := (g.2.2.2.2.2.2 htm).1; omega))
            refine si_v (v := ?_) 195 54 rfl h53 (wanted_g h53.v 48 190 true e190) ?_ (hzA 195 (by decide)) (fun B E h54 e195 ho => ?_)
            rotate_left
            · (go_simp <;> (try with_reducible rfl))
            replace e187 := (ho 187 (by decide)).trans e187
            replace e190 := (ho 190 (by decide)).trans e190
            clear h53 ho e194
            refine si_nb 53 10 64 205 h54 e195 (hzA 205 (by decide)) (fun B E h64 hu ho => ?_)
            replace e187 := (ho 187 (by decide)).trans e187
            replace e190 := (ho 190 (by decide)).trans e190
            replace e195 := (ho 195 (by decide)).trans e195
            have e205 := hu 205 (by decide) (by decide)
            clear h54 ho hu
            refine si_v (v := ?_) 206 65 rfl h64 (wanted_g h64.v 48 190 true e190) ?_ (hzA 206 (by decide)) (fun B E h65 e206 ho => ?_)
            rotate_left
            · (have hc := h64.c; go_simp <;> (try with_reducible rfl))
            replace e187 := (ho 187 (by decide)).trans e187
            replace e190 := (ho 190 (by decide)).trans e190
            clear h64 ho e205 e195
            refine si_v (v := ?_) 207 66 rfl h65 (wanted_g h65.v 45 187 false e187) ?_ (hzA 207 (by decide)) (fun B E h66 e207 ho => ?_)
            rotate_left
            · (have hc := h65.c; go_simp <;> (try with_reducible rfl))
            replace e187 := (ho 187 (by decide)).trans e187
            clear h65 ho e190 e206
            refine si_v (v := ?_) 208 67 rfl h66 wanted_p ?_ (hzA 208 (by decide)) (fun B E h67 e208 ho => ?_)
            rotate_left
            · (have hc := h66.c; go_simp <;> (try with_reducible rfl))
            clear h66 ho e187 e207
            refine wpI.done rfl ?_
            exact hQ _ _ h67.x h67.v (e208.trans (by rw [HN.out]; rfl))
           ·
            replace e194 := e194.trans (congrArg Value.bool (decide_eq_false c8))
            refine si_v (v := ?_) 195 54 rfl h53 (wanted_g h53.v 48 190 true e190) ?_ (hzA 195 (by decide)) (fun B E h54 e195 ho => ?_)
            rotate_left
            · (go_simp <;> (try with_reducible rfl))
            replace e187 := (ho 187 (by decide)).trans e187
            replace e190 := (ho 190 (by decide)).trans e190
            clear h53 ho e194
            refine si_v (v := ?_) 196 55 rfl h54 (wanted_g h54.v 53 195 false e195) ?_ (hzA 196 (by decide)) (fun B E h55 e196 ho => ?_)
            rotate_left
            · (have hO := h54.o; go_simp <;> (try with_reducible rfl))
            replace e187 := (ho 187 (by decide)).trans e187
            replace e190 := (ho 190 (by decide)).trans e190
            replace e195 := (ho 195 (by decide)).trans e195
            clear h54 ho
            refine si_v (v := ?_) 197 56 rfl h55 (wanted_g h55.v 53 195 false e195) ?_ (hzA 197 (by decide)) (fun B E h56 e197 ho => ?_)
            rotate_left
            · (go_simp <;> (try with_reducible rfl))
            replace e187 := (ho 187 (by decide)).trans e187
            replace e190 := (ho 190 (by decide)).trans e190
            replace e195 := (ho 195 (by decide)).trans e195
            clear h55 ho e196
            refine si_v (v := ?_) 198 57 rfl h56 (wanted_g h56.v 53 195 false e195) ?_ (hzA 198 (by decide)) (fun B E h57 e198 ho => ?_)
            rotate_left
            · (have hO := h56.o; go_simp <;> (try with_reducible rfl))
            replace e187 := (ho 187 (by decide)).trans e187
            replace e190 := (ho 190 (by decide)).trans e190
            replace e195 := (ho 195 (by decide)).trans e195
            replace e197 := (ho 197 (by decide)).trans e197
            clear h56 ho
            refine si_v (v := ?_) 199 58 rfl h57 (wanted_g h57.v 53 195 false e195) ?_ (hzA 199 (by decide)) (fun B E h58 e199 ho => ?_)
            rotate_left
            · (go_simp <;> (try with_reducible rfl))
            replace e187 := (ho 187 (by decide)).trans e187
            replace e190 := (ho 190 (by decide)).trans e190
            replace e195 := (ho 195 (by decide)).trans e195
            clear h57 ho e197 e198
            refine si_v (v := ?_) 200 59 rfl h58 (wanted_g h58.v 53 195 false e195) ?_ (hzA 200 (by decide)) (fun B E h59 e200 ho => ?_)
            rotate_left
            · (go_simp <;> (try with_reducible rfl))
            replace e187 := (ho 187 (by decide)).trans e187
            replace e190 := (ho 190 (by decide)).trans e190
            replace e195 := (ho 195 (by decide)).trans e195
            clear h58 ho e199
            refine si_v (v := ?_) 201 60 rfl h59 (wanted_g h59.v 53 195 false e195) ?_ (hzA 201 (by decide)) (fun B E h60 e201 ho => ?_)
            rotate_left
            · (go_simp <;> (try with_reducible rfl))
            replace e187 := (ho 187 (by decide)).trans e187
            replace e190 := (ho 190 (by decide)).trans e190
            replace e195 := (ho 195 (by decide)).trans e195
            clear h59 ho e200
            refine si_v (v := ?_) 202 61 rfl h60 (wanted_g h60.v 53 195 false e195) ?_ (hzA 202 (by decide)) (fun B E h61 e202 ho => ?_)
            rotate_left
            · (go_simp <;> (try with_reducible rfl))
            replace e187 := (ho 187 (by decide)).trans e187
            replace e190 := (ho 190 (by decide)).trans e190
            replace e195 := (ho 195 (by decide)).trans e195
            clear h60 ho e201
            refine si_v (v := ?_) 203 62 rfl h61 (wanted_g h61.v 60 202 true e202) ?_ (hzA 203 (by decide)) (fun B E h62 e203 ho => ?_)
            rotate_left
            · (have hO := h61.o; go_simp <;> (try with_reducible rfl))
            replace e187 := (ho 187 (by decide)).trans e187
            replace e190 := (ho 190 (by decide)).trans e190
            replace e195 := (ho 195 (by decide)).trans e195
            replace e202 := (ho 202 (by decide)).trans e202
            clear h61 ho
            refine si_v (v := ?_) 204 63 rfl h62 (wanted_g h62.v 60 202 true e202) ?_ (hzA 204 (by decide)) (fun B E h63 e204 ho => ?_)
            rotate_left
            · (have hc := h62.c; go_simp <;> (try with_reducible rfl))
            replace e187 := (ho 187 (by decide)).trans e187
            replace e190 := (ho 190 (by decide)).trans e190
            replace e195 := (ho 195 (by decide)).trans e195
            replace e202 := (ho 202 (by decide)).trans e202
            clear h62 ho e203
            skip
            ·
             replace e204 := e204.trans (congrArg Value.bool (by simp; omega : ((q : Int) == 0) = false))
             have HN : Hid (tf (netR x0 x1 f t n2 n4 q fm tm wt wb) = true) := Hid.intro (tf_yes ⟨⟨c1, c2⟩, by omega, by omega, by omega, fun _ => hfm, c7, fun _ => ⟨by omega, fun _ => by omega⟩⟩)
             refine si_v (v := ?_) 205 64 rfl h63 (wanted_g h63.v 53 195 false e195) ?_ (hzA 205 (by decide)) (fun B E h64 e205 ho => ?_)
             rotate_left
             · (have hc := h63.c; go_simp <;> (try with_reducible rfl))
             replace e187 := (ho 187 (by decide)).trans e187
             replace e190 := (ho 190 (by decide)).trans e190
             replace e195 := (ho 195 (by decide)).trans e195
             clear h63 ho e202 e204
             refine si_v (v := ?_) 206 65 rfl h64 (wanted_g h64.v 48 190 true e190) ?_ (hzA 206 (by decide)) (fun B E h65 e206 ho => ?_)
             rotate_left
             · (have hc := h64.c; go_simp <;> (try with_reducible rfl))
             replace e187 := (ho 187 (by decide)).trans e187
             replace e190 := (ho 190 (by decide)).trans e190
             clear h64 ho e205 e195
             refine si_v (v := ?_) 207 66 rfl h65 (wanted_g h65.v 45 187 false e187) ?_ (hzA 207 (by decide)) (fun B E h66 e207 ho => ?_)
             rotate_left
             · (have hc := h65.c; go_simp <;> (try with_reducible rfl))
             replace e187 := (ho 187 (by decide)).trans e187
             clear h65 ho e190 e206
             refine si_v (v := ?_) 208 67 rfl h66 wanted_p ?_ (hzA 208 (by decide)) (fun B E h67 e208 ho => ?_)
             rotate_left
             · (have hc := h66.c; go_simp <;> (try with_reducible rfl))
             clear h66 ho e187 e207
             refine wpI.done rfl ?_
             exact hQ _ _ h67.x h67.v (e208.trans (by rw [HN.out]; rfl))
         ·
          replace e185 := e185.trans (congrArg Value.bool (by simpa using c7 : (wt != wb) = true))
          have HN : Hid (tf (netR x0 x1 f t n2 n4 q fm tm wt wb) = false) := Hid.intro (tf_no (fun g => c7 g.2.2.2.2.2.1))
          refine si_v (v := ?_) 186 45 rfl h44 wanted_p ?_ (hzA 186 (by decide)) (fun B E h45 e186 ho => ?_)
          rotate_left
          · (have hc := h44.c; go_simp <;> (try with_reducible rfl))
          clear h44 ho e185 e181
          refine si_v (v := ?_) 187 46 rfl h45 wanted_p ?_ (hzA 187 (by decide)) (fun B E h46 e187 ho => ?_)
          rotate_left
          · (go_simp <;> (try with_reducible rfl))
          clear h45 ho e186
          refine si_nb 45 20 66 207 h46 e187 (hzA 207 (by decide)) (fun B E h66 hu ho => ?_)
          replace e187 := (ho 187 (by decide)).trans e187
          have e207 := hu 207 (by decide) (by decide)
          clear h46 ho hu
          refine si_v (v := ?_) 208 67 rfl h66 wanted_p ?_ (hzA 208 (by decide)) (fun B E h67 e208 ho => ?_)
          rotate_left
          · (have hc := h66.c; go_simp <;> (try with_reducible rfl))
          clear h66 ho e187 e207
          refine wpI.done rfl ?_
          exact hQ _ _ h67.x h67.v (e208.trans (by rw [HN.out]; rfl))
        ·
         rw [hfm] at e177
         have HN : Hid (tf (netR x0 x1 f t n2 n4 q fm tm wt wb) = false) := Hid.intro (tf_no (fun g => by have := g.2.2.2.2.1 (by omega); rw [hfm] at this; cases this))
         refine si_v (v := ?_) 178 37 rfl h36 (wanted_g h36.v 29 171 true e171) ?_ (hzA 178 (by decide)) (fun B E h37 e178 ho => ?_)
         rotate_left
         · (go_simp <;> (try with_reducible rfl))
         replace e168 := (ho 168 (by decide)).trans e168
         replace e171 := (ho 171 (by decide)).trans e171
         clear h36 ho e177
         refine si_v (v := ?_) 179 38 rfl h37 (wanted_g h37.v 26 168 false e168) ?_ (hzA 179 (by decide)) (fun B E h38 e179 ho => ?_)
         rotate_left
         · (have hc := h37.c; go_simp <;> (try with_reducible rfl))
         replace e168 := (ho 168 (by decide)).trans e168
         clear h37 ho e171 e178
         refine si_v (v := ?_) 180 39 rfl h38 wanted_p ?_ (hzA 180 (by decide)) (fun B E h39 e180 ho => ?_)
         rotate_left
         · (have hc := h38.c; go_simp <;> (try with_reducible rfl))
         clear h38 ho e168 e179
         refine si_v (v := ?_) 181 40 rfl h39 wanted_p ?_ (hzA 181 (by decide)) (fun B E h40 e181 ho => ?_)
         rotate_left
         · (go_simp <;> (try with_reducible rfl))
         clear h39 ho e180
         refine si_nb 39 4 44 185 h40 e181 (hzA 185 (by decide)) (fun B E h44 hu ho => ?_)
         replace e181 := (ho 181 (by decide)).trans e181
         have e185 := hu 185 (by decide) (by decide)
         clear h40 ho hu
         refine si_v (v := ?_) 186 45 rfl h44 wanted_p ?_ (hzA 186 (by decide)) (fun B E h45 e186 ho => ?_)
         rotate_left
         · (have hc := h44.c; go_simp <;> (try with_reducible rfl))
         clear h44 ho e185 e181
         refine si_v (v := ?_) 187 46 rfl h45 wanted_p ?_ (hzA 187 (by decide)) (fun B E h46 e187 ho => ?_)
         rotate_left
         · (go_simp <;> (try with_reducible rfl))
         clear h45 ho e186
         refine si_nb 45 20 66 207 h46 e187 (hzA 207 (by decide)) (fun B E h66 hu ho => ?_)
         replace e187 := (ho 187 (by decide)).trans e187
         have e207 := hu 207 (by decide) (by decide)
         clear h46 ho hu
         refine si_v (v := ?_) 208 67 rfl h66 wanted_p ?_ (hzA 208 (by decide)) (fun B E h67 e208 ho => ?_)
         rotate_left
         · (have hc := h66.c; go_simp <;> (try with_reducible rfl))
         clear h66 ho e187 e207
         refine wpI.done rfl ?_
         exact hQ _ _ h67.x h67.v (e208.trans (by rw [HN.out]; rfl))
       ·
        replace e170 := e170.trans (congrArg Value.bool (decide_eq_false c6))
        refine si_v (v := ?_) 171 30 rfl h29 (wanted_g h29.v 26 168 false e168) ?_ (hzA 171 (by decide)) (fun B E h30 e171 ho => ?_)
        rotate_left
        · (go_simp <;> (try with_reducible rfl))
        replace e168 := (ho 168 (by decide)).trans e168
        clear h29 ho e170
        refine si_nb 29 7 37 178 h30 e171 (hzA 178 (by decide)) (fun B E h37 hu ho => ?_)
        replace e168 := (ho 168 (by decide)).trans e168
        replace e171 := (ho 171 (by decide)).trans e171
        have e178 := hu 178 (by decide) (by decide)
        clear h30 ho hu
        refine si_v (v := ?_) 179 38 rfl h37 (wanted_g h37.v 26 168 false e168) ?_ (hzA 179 (by decide)) (fun B E h38 e179 ho => ?_)
        rotate_left
        · (have hc := h37.c; go_simp <;> (try with_reducible rfl))
        replace e168 := (ho 168 (by decide)).trans e168
        clear h37 ho e171 e178
        refine si_v (v := ?_) 180 39 rfl h38 wanted_p ?_ (hzA 180 (by decide)) (fun B E h39 e180 ho => ?_)
        rotate_left
        · (have hc := h38.c; go_simp <;> (try with_reducible rfl))
        clear h38 ho e168 e179
        refine si_v (v := ?_) 181 40 rfl h39 wanted_p ?_ (hzA 181 (by decide)) (fun B E h40 e181 ho => ?_)
        rotate_left
        · (go_simp <;> (try with_reducible rfl))
        clear h39 ho e180
        refine si_v (v := ?_) 182 41 rfl h40 (wanted_g h40.v 39 181 false e181) ?_ (hzA 182 (by decide)) (fun B E h41 e182 ho => ?_)
        rotate_left
        · (have hO := h40.o; go_simp <;> (try with_reducible rfl))
        replace e181 := (ho 181 (by decide)).trans e181
        clear h40 ho
        refine si_v (v := ?_) 183 42 rfl h41 (wanted_g h41.v 39 181 false e181) ?_ (hzA 183 (by decide)) (fun B E h42 e183 ho => ?_)
        rotate_left
        · (go_simp <;> (try with_reducible rfl))
        replace e181 := (ho 181 (by decide)).trans e181
        clear h41 ho e182
        refine si_v (v := ?_) 184 43 rfl h42 (wanted_g h42.v 39 181 false e181) ?_ (hzA 184 (by decide)) (fun B E h43 e184 ho => ?_)
        rotate_left
        · (have hO := h42.o; go_simp <;> (try with_reducible rfl))
        replace e181 := (ho 181 (by decide)).trans e181
        replace e183 := (ho 183 (by decide)).trans e183
        clear h42 ho
        refine si_v (v := ?_) 185 44 rfl h43 (wanted_g h43.v 39 181 false e181) ?_ (hzA 185 (by decide)) (fun B E h44 e185 ho => ?_)
        rotate_left
        · (go_simp <;> (try with_reducible rfl))
        replace e181 := (ho 181 (by decide)).trans e181
        clear h43 ho e183 e184
        by_cases c7 : wt = wb
        ·
         replace e185 := e185.trans (congrArg Value.bool (by simp [c7] : (wt != wb) = false))
         refine si_v (v := ?_) 186 45 rfl h44 wanted_p ?_ (hzA 186 (by decide)) (fun B E h45 e186 ho => ?_)
         rotate_left
         · (have hc := h44.c; go_simp <;> (try with_reducible rfl))
         clear h44 ho e185 e181
         refine si_v (v := ?_) 187 46 rfl h45 wanted_p ?_ (hzA 187 (by decide)) (fun B E h46 e187 ho => ?_)
         rotate_left
         · (go_simp <;> (try with_reducible rfl))
         clear h45 ho e186
         refine si_v (v := ?_) 188 47 rfl h46 (wanted_g h46.v 45 187 false e187) ?_ (hzA 188 (by decide)) (fun B E h47 e188 ho => ?_)
         rotate_left
         · (have hO := h46.o; go_simp <;> (try with_reducible rfl))
         replace e187 := (ho 187 (by decide)).trans e187
         clear h46 ho
         rcases Bool.eq_false_or_eq_true tm with htm | htm
         ·
          rw [htm] at e188
          have HN : Hid (tf (netR x0 x1 f t n2 n4 q fm tm wt wb) = true) := Hid.intro (tf_yes ⟨⟨c1, c2⟩, by omega, by omega, by omega, fun h => absurd h (by omega), c7, fun h => by rw [htm] at h; cases h⟩)
          refine si_v (v := ?_) 189 48 rfl h47 (wanted_g h47.v 45 187 false e187) ?_ (hzA 189 (by decide)) (fun B E h48 e189 ho => ?_)
          rotate_left
          · (go_simp <;> (try with_reducible rfl))
          replace e187 := (ho 187 (by decide)).trans e187
          clear h47 ho e188
          refine si_v (v := ?_) 190 49 rfl h48 (wanted_g h48.v 45 187 false e187) ?_ (hzA 190 (by decide)) (fun B E h49 e190 ho => ?_)
          rotate_left
          · (go_simp <;> (try with_reducible rfl))
          replace e187 := (ho 187 (by decide)).trans e187
          clear h48 ho e189
          refine si_nb 48 16 65 206 h49 e190 (hzA 206 (by decide)) (fun B E h65 hu ho => ?_)
          replace e187 := (ho 187 (by decide)).trans e187
          replace e190 := (ho 190 (by decide)).trans e190
          have e206 := hu 206 (by decide) (by decide)
          clear h49 ho hu
          refine si_v (v := ?_) 207 66 rfl h65 (wanted_g h65.v 45 187 false e187) ?_ (hzA 207 (by decide)) (fun B E h66 e207 ho => ?_)
          rotate_left
          · (have hc := h65.c; go_simp <;> (try with_reducible rfl))
          replace e187 := (ho 187 (by decide)).trans e187
          clear h65 ho e190 e206
          refine si_v (v := ?_) 208 67 rfl h66 wanted_p ?_ (hzA 208 (by decide)) (fun B E h67 e208 ho => ?_)
          rotate_left
          · (have hc := h66.c; go_simp <;> (try with_reducible rfl))
          clear h66 ho e187 e207
          refine wpI.done rfl ?_
          exact hQ _ _ h67.x h67.v (e208.trans (by rw [HN.out]; rfl))
         ·
          rw [htm] at e188
          refine si_v (v := ?_) 189 48 rfl h47 (wanted_g h47.v 45 187 false e187) ?_ (hzA 189 (by decide)) (fun B E h48 e189 ho => ?_)
          rotate_left
          · (go_simp <;> (try with_reducible rfl))
          replace e187 := (ho 187 (by decide)).trans e187
          clear h47 ho e188
          refine si_v (v := ?_) 190 49 rfl h48 (wanted_g h48.v 45 187 false e187) ?_ (hzA 190 (by decide)) (fun B E h49 e190 ho => ?_)
          rotate_left
          · (go_simp <;> (try with_reducible rfl))
          replace e187 := (ho 187 (by decide)).trans e187
          clear h48 ho e189
          refine si_v (v := ?_) 191 50 rfl h49 (wanted_g h49.v 48 190 true e190) ?_ (hzA 191 (by decide)) (fun B E h50 e191 ho => ?_)
          rotate_left
          · (have hO := h49.o; go_simp <;> (try with_reducible rfl))
          replace e187 := (ho 187 (by decide)).trans e187
          replace e190 := (ho 190 (by decide)).trans e190
          clear h49 ho
          refine si_v (v := ?_) 192 51 rfl h50 (wanted_g h50.v 48 190 true e190) ?_ (hzA 192 (by decide)) (fun B E h51 e192 ho => ?_)
          rotate_left
          · (go_simp <;> (try with_reducible rfl))
          replace e187 := (ho 187 (by decide)).trans e187
          replace e190 := (ho 190 (by decide)).trans e190
          clear h50 ho e191
          refine si_v (v := ?_) 193 52 rfl h51 (wanted_g h51.v 48 190 true e190) ?_ (hzA 193 (by decide)) (fun B E h52 e193 ho => ?_)
          rotate_left
          · (go_simp <;> (try with_reducible rfl))
          replace e187 := (ho 187 (by decide)).trans e187
          replace e190 := (ho 190 (by decide)).trans e190
          clear h51 ho e192
          refine si_v (v := ?_) 194 53 rfl h52 (wanted_g h52.v 48 190 true e190) ?_ (hzA 194 (by decide)) (fun B E h53 e194 ho => ?_)
          rotate_left
          · (have hc := h52.c; go_simp <;> (try with_reducible rfl))
          replace e187 := (ho 187 (by decide)).trans e187
          replace e190 := (ho 190 (by decide)).trans e190
          clear h52 ho e193
          by_cases c8 : 0 < n4
          ·
           replace e194 := e194.trans (congrArg Value.bool (decide_eq_true c8))
           have HN : Hid (tf (netR x0 x1 f t n2 n4 q fm tm wt wb) = false) := Hid.intro (tf_no (fun g => by have := (g.2.2.2.2.2.2 htm).1; omega))
           refine si_v (v := ?_) 195 54 rfl h53 (wanted_g h53.v 48 190 true e190) ?_ (hzA 195 (by decide)) (fun B E h54 e195 ho => ?_)
           rotate_left
           · (go_simp <;> (try with_reducible rfl))
           replace e187 := (ho 187 (by decide)).trans e187
           replace e190 := (ho 190 (by decide)).trans e190
           clear h53 ho e194
           refine si_nb 53 10 64 205 h54 e195 (hzA 205 (by decide)) (fun B E h64 hu ho => ?_)
           replace e187 := (ho 187 (by decide)).trans e187
           replace e190 := (ho 190 (by decide)).trans e190
           replace e195 := (ho 195 (by decide)).trans e195
           have e205 := hu 205 (by decide) (by decide)
           clear h54 ho hu
           refine si_v (v := ?_) 206 65 rfl h64 (wanted_g h64.v 48 190 true e190) ?_ (hzA 206 (by decide)) (fun B E h65 e206 ho => ?_)
           rotate_left
           · (have hc := h64.c; go_simp <;> (try with_reducible rfl))
           replace e187 := (ho 187 (by decide)).trans e187
           replace e190 := (ho 190 (by decide)).trans e190
           clear h64 ho e205 e195
           refine si_v (v := ?_) 207 66 rfl h65 (wanted_g h65.v 45 187 false e187) ?_ (hzA 207 (by decide)) (fun B E h66 e207 ho => ?_)
           rotate_left
           · (have hc := h65.c; go_simp <;> (try with_reducible rfl))
           replace e187 := (ho 187 (by decide)).trans e187
           clear h65 ho e190 e206
           refine si_v (v := ?_) 208 67 rfl h66 wanted_p ?_ (hzA 208 (by decide)) (fun B E h67 e208 ho => ?_)
           rotate_left
           · (have hc := h66.c; go_simp <;> (try with_reducible rfl))
           clear h66 ho e187 e207
           refine wpI.done rfl ?_
           exact hQ _ _ h67.x h67.v (e208.trans (by rw [HN.out]; rfl))
          ·
           replace e194 := e194.trans (congrArg Value.bool (decide_eq_false c8))
           refine si_v (v := ?_) 195 54 rfl h53 (wanted_g h53.v 48 190 true e190) ?_ (hzA 195 (by decide)) (fun B E h54 e195 ho => ?_)
           rotate_left
           · (go_simp <;> (try with_reducible rfl))
           replace e187 := (ho 187 (by decide)).trans e187
           replace e190 := (ho 190 (by decide)).trans e190
           clear h53 ho e194
           refine si_v (v := ?_) 196 55 rfl h54 (wanted_g h54.v 53 195 false e195) ?_ (hzA 196 (by decide)) (fun B E h55 e196 ho => ?_)
           rotate_left
           · (have hO := h54.o; go_simp <;> (try with_reducible rfl))
           replace e187 := (ho 187 (by decide)).trans e187
           replace e190 := (ho 190 (by decide)).trans e190
           replace e195 := (ho 195 (by decide)).trans e195
           clear h54 ho
           refine si_v (v := ?_) 197 56 rfl h55 (wanted_g h55.v 53 195 false e195) ?_ (hzA 197 (by decide)) (fun B E h56 e197 ho => ?_)
           rotate_left
           · (go_simp <;> (try with_reducible rfl))
           replace e187 := (ho 187 (by decide)).trans e187
           replace e190 := (ho 190 (by decide)).trans e190
           replace e195 := (ho 195 (by decide)).trans e195
           clear h55 ho e196
           refine si_v (v := ?_) 198 57 rfl h56 (wanted_g h56.v 53 195 false e195) ?_ (hzA 198 (by decide)) (fun B E h57 e198 ho => ?_)
           rotate_left
           · (have hO := h56.o; go_simp <;> (try with_reducible rfl))
           replace e187 := (ho 187 (by decide)).trans e187
           replace e190 := (ho 190 (by decide)).trans e190
           replace e195 := (ho 195 (by decide)).trans e195
           replace e197 := (ho 197 (by decide)).trans e197
           clear h56 ho
           refine si_v (v := ?_) 199 58 rfl h57 (wanted_g h57.v 53 195 false e195) ?_ (hzA 199 (by decide)) (fun B E h58 e199 ho => ?_)
           rotate_left
           · (go_simp <;> (try with_reducible rfl))
           replace e187 := (ho 187 (by decide)).trans e187
           replace e190 := (ho 190 (by decide)).trans e190
           replace e195 := (ho 195 (by decide)).trans e195
           clear h57 ho e197 e198
           refine si_v (v := ?_) 200 59 rfl h58 (wanted_g h58.v 53 195 false e195) ?_ (hzA 200 (by decide)) (fun B E h59 e200 ho => ?_)
           rotate_left
           · (go_simp <;> (try with_reducible rfl))
           replace e187 := (ho 187 (by decide)).trans e187
           replace e190 := (ho 190 (by decide)).trans e190
           replace e195 := (ho 195 (by decide)).trans e195
           clear h58 ho e199
           refine si_v (v := ?_) 201 60 rfl h59 (wanted_g h59.v 53 195 false e195) ?_ (hzA 201 (by decide)) (fun B E h60 e201 ho => ?_)
           rotate_left
           · (go_simp <;> (try with_reducible rfl))
           replace e187 := (ho 187 (by decide)).trans e187
           replace e190 := (ho 190 (by decide)).trans e190
           replace e195 := (ho 195 (by decide)).trans e195
           clear h59 ho e200
           rcases Bool.eq_false_or_eq_true fm with hfm | hfm
           ·
            rw [hfm] at e201
            refine si_v (v := ?_) 202 61 rfl h60 (wanted_g h60.v 53 195 false e195) ?_ (hzA 202 (by decide)) (fun B E h61 e202 ho => ?_)
            rotate_left
            · (go_simp <;> (try with_reducible rfl))
            replace e187 := (ho 187 (by decide)).trans e187
            replace e190 := (ho 190 (by decide)).trans e190
            replace e195 := (ho 195 (by decide)).trans e195
            clear h60 ho e201
            refine si_v (v := ?_) 203 62 rfl h61 (wanted_g h61.v 60 202 true e202) ?_ (hzA 203 (by decide)) (fun B E h62 e203 ho => ?_)
            rotate_left
            · (have hO := h61.o; go_simp <;> (try with_reducible rfl))
            replace e187 := (ho 187 (by decide)).trans e187
            replace e190 := (ho 190 (by decide)).trans e190
            replace e195 := (ho 195 (by decide)).trans e195
            replace e202 := (ho 202 (by decide)).trans e202
            clear h61 ho
            refine si_v (v := ?_) 204 63 rfl h62 (wanted_g h62.v 60 202 true e202) ?_ (hzA 204 (by decide)) (fun B E h63 e204 ho => ?_)
            rotate_left
            · (have hc := h62.c; go_simp <;> (try with_reducible rfl))
            replace e187 := (ho 187 (by decide)).trans e187
            replace e190 := (ho 190 (by decide)).trans e190
            replace e195 := (ho 195 (by decide)).trans e195
            replace e202 := (ho 202 (by decide)).trans e202
            clear h62 ho e203
            skip
            ·
             replace e204 := e204.trans (congrArg Value.bool (by simp; omega : ((q : Int) == 0) = true))
             have HN : Hid (tf (netR x0 x1 f t n2 n4 q fm tm wt wb) = false) := Hid.intro (tf_no (fun g => by have := (g.2.2.2.2.2.2 htm).2 hfm; omega))
             refine si_v (v := ?_) 205 64 rfl h63 (wanted_g h63.v 53 195 false e195) ?_ (hzA 205 (by decide)) (fun B E h64 e205 ho => ?_)
             rotate_left
             · (have hc := h63.c; go_simp <;> (try with_reducible rfl))
             replace e187 := (ho 187 (by decide)).trans e187
             replace e190 := (ho 190 (by decide)).trans e190
             replace e195 := (ho 195 (by decide)).trans e195
             clear h63 ho e202 e204
             refine si_v (v := ?_) 206 65 rfl h64 (wanted_g h64.v 48 190 true e190) ?_ (hzA 206 (by decide)) (fun B E h65 e206 ho => ?_)
             rotate_left
             · (have hc := h64.c; go_simp <;> (try with_reducible rfl))
             replace e187 := (ho 187 (by decide)).trans e187
             replace e190 := (ho 190 (by decide)).trans e190
             clear h64 ho e205 e195
             refine si_v (v := ?_) 207 66 rfl h65 (wanted_g h65.v 45 187 false e187) ?_ (hzA 207 (by decide)) (fun B E h66 e207 ho => ?_)
             rotate_left
             · (have hc := h65.c; go_simp <;> (try with_reducible rfl))
             replace e187 := (ho 187 (by decide)).trans e187
             clear h65 ho e190 e206
             refine si_v (v := ?_) 208 67 rfl h66 wanted_p ?_ (hzA 208 (by decide)) (fun B E h67 e208 ho => ?_)
             rotate_left
             · (have hc := h66.c; go_simp <;> (try with_reducible rfl))
             clear h66 ho e187 e207
             refine wpI.done rfl ?_
             exact hQ _ _ h67.x h67.v (e208.trans (by rw [HN.out]; rfl))
           ·
            rw [hfm] at e201
            have HN : Hid (tf (netR x0 x1 f t n2 n4 q fm tm wt wb) = true) := Hid.intro (tf_yes ⟨⟨c1, c2⟩, by omega, by omega, by omega, fun h => absurd h (by omega), c7, fun _ => ⟨by omega, fun h => by rw [hfm] at h; cases h⟩⟩)
            refine si_v (v := ?_) 202 61 rfl h60 (wanted_g h60.v 53 195 false e195) ?_ (hzA 202 (by decide)) (fun B E h61 e202 ho => ?_)
            rotate_left
            · (go_simp <;> (try with_reducible rfl))
            replace e187 := (ho 187 (by decide)).trans e187
            replace e190 := (ho 190 (by decide)).trans e190
            replace e195 := (ho 195 (by decide)).trans e195
            clear h60 ho e201
            refine si_nb 60 2 63 204 h61 e202 (hzA 204 (by decide)) (fun B E h63 hu ho => ?_)
            replace e187 := (ho 187 (by decide)).trans e187
            replace e190 := (ho 190 (by decide)).trans e190
            replace e195 := (ho 195 (by decide)).trans e195
            replace e202 := (ho 202 (by decide)).trans e202
            have e204 := hu 204 (by decide) (by decide)
            clear h61 ho hu
            refine si_v (v := ?_) 205 64 rfl h63 (wanted_g h63.v 53 195 false e195) ?_ (hzA 205 (by decide)) (fun B E h64 e205 ho => ?_)
            rotate_left
            · (have hc := h63.c; go_simp <;> (try with_reducible rfl))
            replace e187 := (ho 187 (by decide)).trans e187
            replace e190 := (ho 190 (by decide)).trans e190
            replace e195 := (ho 195 (by decide)).trans e195
            clear h63 ho e202 e204
            refine si_v (v := ?_) 206 65 rfl h64 (wanted_g h64.v 48 190 true e190) ?_ (hzA 206 (by decide)) (fun B E h65 e206 ho => ?_)
            rotate_left
            · (have hc := h64.c; go_simp <;> (try with_reducible rfl))
            replace e187 := (ho 187 (by decide)).trans e187
            replace e190 := (ho 190 (by decide)).trans e190
            clear h64 ho e205 e195
            refine si_v (v := ?_) 207 66 rfl h65 (wanted_g h65.v 45 187 false e187) ?_ (hzA 207 (by decide)) (fun B E h66 e207 ho => ?_)
            rotate_left
            · (have hc := h65.c; go_simp <;> (try with_reducible rfl))
            replace e187 := (ho 187 (by decide)).trans e187
            clear h65 ho e190 e206
            refine si_v (v := ?_) 208 67 rfl h66 wanted_p ?_ (hzA 208 (by decide)) (fun B E h67 e208 ho => ?_)
            rotate_left
            · (have hc := h66.c; go_simp <;> (try with_reducible rfl))
            clear h66 ho e187 e207
            refine wpI.done rfl ?_
            exact hQ _ _ h67.x h67.v (e208.trans (by rw [HN.out]; rfl))
        ·
         replace e185 := e185.trans (congrArg Value.bool (by simpa using c7 : (wt != wb) = true))
         have HN : Hid (tf (netR x0 x1 f t n2 n4 q fm tm wt wb) = false) := Hid.intro (tf_no (fun g => c7 g.2.2.2.2.2.1))
         refine si_v (v := ?_) 186 45 rfl h44 wanted_p ?_ (hzA 186 (by decide)) (fun B E h45 e186 ho => ?_)
         rotate_left
         · (have hc := h44.c; go_simp <;> (try with_reducible rfl))
         clear h44 ho e185 e181
         refine si_v (v := ?_) 187 46 rfl h45 wanted_p ?_ (hzA 187 (by decide)) (fun B E h46 e187 ho => ?_)
         rotate_left
         · (go_simp <;> (try with_reducible rfl))
         clear h45 ho e186
         refine si_nb 45 20 66 207 h46 e187 (hzA 207 (by decide)) (fun B E h66 hu ho => ?_)
         replace e187 := (ho 187 (by decide)).trans e187
         have e207 := hu 207 (by decide) (by decide)
         clear h46 ho hu
         refine si_v (v := ?_) 208 67 rfl h66 wanted_p ?_ (hzA 208 (by decide)) (fun B E h67 e208 ho => ?_)
         rotate_left
         · (have hc := h66.c; go_simp <;> (try with_reducible rfl))
         clear h66 ho e187 e207
         refine wpI.done rfl ?_
         exact hQ _ _ h67.x h67.v (e208.trans (by rw [HN.out]; rfl))
   ·
    replace e150 := e150.trans (congrArg Value.bool (by simpa using c2 : (x1 != (t : Int)) = true))
    have HN : Hid (tf (netR x0 x1 f t n2 n4 q fm tm wt wb) = false) := Hid.intro (tf_no (fun g => c2 g.1.2))
    refine si_v (v := ?_) 151 10 rfl h9 wanted_p ?_ (hzA 151 (by decide)) (fun B E h10 e151 ho => ?_)
    rotate_left
    · (have hc := h9.c; go_simp <;> (try with_reducible rfl))
    clear h9 ho e146 e150
    refine si_v (v := ?_) 152 11 rfl h10 wanted_p ?_ (hzA 152 (by decide)) (fun B E h11 e152 ho => ?_)
    rotate_left
    · (go_simp <;> (try with_reducible rfl))
    clear h10 ho e151
    refine si_nb 10 4 15 156 h11 e152 (hzA 156 (by decide)) (fun B E h15 hu ho => ?_)
    replace e152 := (ho 152 (by decide)).trans e152
    have e156 := hu 156 (by decide) (by decide)
    clear h11 ho hu
    refine si_v (v := ?_) 157 16 rfl h15 wanted_p ?_ (hzA 157 (by decide)) (fun B E h16 e157 ho => ?_)
    rotate_left
    · (have hc := h15.c; go_simp <;> (try with_reducible rfl))
    clear h15 ho e152 e156
    refine si_v (v := ?_) 158 17 rfl h16 wanted_p ?_ (hzA 158 (by decide)) (fun B E h17 e158 ho => ?_)
    rotate_left
    · (go_simp <;> (try with_reducible rfl))
    clear h16 ho e157
    refine si_nb 16 4 21 162 h17 e158 (hzA 162 (by decide)) (fun B E h21 hu ho => ?_)
    replace e158 := (ho 158 (by decide)).trans e158
    have e162 := hu 162 (by decide) (by decide)
    clear h17 ho hu
    refine si_v (v := ?_) 163 22 rfl h21 wanted_p ?_ (hzA 163 (by decide)) (fun B E h22 e163 ho => ?_)
    rotate_left
    · (have hc := h21.c; go_simp <;> (try with_reducible rfl))
    clear h21 ho e162 e158
    refine si_v (v := ?_) 164 23 rfl h22 wanted_p ?_ (hzA 164 (by decide)) (fun B E h23 e164 ho => ?_)
    rotate_left
    · (go_simp <;> (try with_reducible rfl))
    clear h22 ho e163
    refine si_nb 22 2 25 166 h23 e164 (hzA 166 (by decide)) (fun B E h25 hu ho => ?_)
    replace e164 := (ho 164 (by decide)).trans e164
    have e166 := hu 166 (by decide) (by decide)
    clear h23 ho hu
    refine si_v (v := ?_) 167 26 rfl h25 wanted_p ?_ (hzA 167 (by decide)) (fun B E h26 e167 ho => ?_)
    rotate_left
    · (have hc := h25.c; go_simp <;> (try with_reducible rfl))
    clear h25 ho e164 e166
    refine si_v (v := ?_) 168 27 rfl h26 wanted_p ?_ (hzA 168 (by decide)) (fun B E h27 e168 ho => ?_)
    rotate_left
    · (go_simp <;> (try with_reducible rfl))
    clear h26 ho e167
    refine si_nb 26 11 38 179 h27 e168 (hzA 179 (by decide)) (fun B E h38 hu ho => ?_)
    replace e168 := (ho 168 (by decide)).trans e168
    have e179 := hu 179 (by decide) (by decide)
    clear h27 ho hu
    refine si_v (v := ?_) 180 39 rfl h38 wanted_p ?_ (hzA 180 (by decide)) (fun B E h39 e180 ho => ?_)
    rotate_left
    · (have hc := h38.c; go_simp <;> (try with_reducible rfl))
    clear h38 ho e168 e179
    refine si_v (v := ?_) 181 40 rfl h39 wanted_p ?_ (hzA 181 (by decide)) (fun B E h40 e181 ho => ?_)
    rotate_left
    · (go_simp <;> (try with_reducible rfl))
    clear h39 ho e180
    refine si_nb 39 4 44 185 h40 e181 (hzA 185 (by decide)) (fun B E h44 hu ho => ?_)
    replace e181 := (ho 181 (by decide)).trans e181
    have e185 := hu 185 (by decide) (by decide)
    clear h40 ho hu
    refine si_v (v := ?_) 186 45 rfl h44 wanted_p ?_ (hzA 186 (by decide)) (fun B E h45 e186 ho => ?_)
    rotate_left
    · (have hc := h44.c; go_simp <;> (try with_reducible rfl))
    clear h44 ho e185 e181
    refine si_v (v := ?_) 187 46 rfl h45 wanted_p ?_ (hzA 187 (by decide)) (fun B E h46 e187 ho => ?_)
    rotate_left
    · (go_simp <;> (try with_reducible rfl))
    clear h45 ho e186
    refine si_nb 45 20 66 207 h46 e187 (hzA 207 (by decide)) (fun B E h66 hu ho => ?_)
    replace e187 := (ho 187 (by decide)).trans e187
    have e207 := hu 207 (by decide) (by decide)
    clear h46 ho hu
    refine si_v (v := ?_) 208 67 rfl h66 wanted_p ?_ (hzA 208 (by decide)) (fun B E h67 e208 ho => ?_)
    rotate_left
    · (have hc := h66.c; go_simp <;> (try with_reducible rfl))
    clear h66 ho e187 e207
    refine wpI.done rfl ?_
    exact hQ _ _ h67.x h67.v (e208.trans (by rw [HN.out]; rfl))
  ·
   replace e145 := e145.trans (congrArg Value.bool (by simpa using c1 : (x0 != (f : Int)) = true))
   have HN : Hid (tf (netR x0 x1 f t n2 n4 q fm tm wt wb) = false) := Hid.intro (tf_no (fun g => c1 g.1.1))
   refine si_v (v := ?_) 146 5 rfl h4 wanted_p ?_ (hzA 146 (by decide)) (fun B E h5 e146 ho => ?_)
   rotate_left
   · (go_simp <;> (try with_reducible rfl))
   clear h4 ho e145
   refine si_nb 4 4 9 150 h5 e146 (hzA 150 (by decide)) (fun B E h9 hu ho => ?_)
   replace e146 := (ho 146 (by decide)).trans e146
   have e150 := hu 150 (by decide) (by decide)
   clear h5 ho hu
   refine si_v (v := ?_) 151 10 rfl h9 wanted_p ?_ (hzA 151 (by decide)) (fun B E h10 e151 ho => ?_)
   rotate_left
   · (have hc := h9.c; go_simp <;> (try with_reducible rfl))
   clear h9 ho e146 e150
   refine si_v (v := ?_) 152 11 rfl h10 wanted_p ?_ (hzA 152 (by decide)) (fun B E h11 e152 ho => ?_)
   rotate_left
   · (go_simp <;> (try with_reducible rfl))
   clear h10 ho e151
   refine si_nb 10 4 15 156 h11 e152 (hzA 156 (by decide)) (fun B E h15 hu ho => ?_)
   replace e152 := (ho 152 (by decide)).trans e152
   have e156 := hu 156 (by decide) (by decide)
   clear h11 ho hu
   refine si_v (v := ?_) 157 16 rfl h15 wanted_p ?_ (hzA 157 (by decide)) (fun B E h16 e157 ho => ?_)
   rotate_left
   · (have hc := h15.c; go_simp <;> (try with_reducible rfl))
   clear h15 ho e152 e156
   refine si_v (v := ?_) 158 17 rfl h16 wanted_p ?_ (hzA 158 (by decide)) (fun B E h17 e158 ho => ?_)
   rotate_left
   · (go_simp <;> (try with_reducible rfl))
   clear h16 ho e157
   refine si_nb 16 4 21 162 h17 e158 (hzA 162 (by decide)) (fun B E h21 hu ho => ?_)
   replace e158 := (ho 158 (by decide)).trans e158
   have e162 := hu 162 (by decide) (by decide)
   clear h17 ho hu
   refine si_v (v := ?_) 163 22 rfl h21 wanted_p ?_ (hzA 163 (by decide)) (fun B E h22 e163 ho => ?_)
   rotate_left
   · (have hc := h21.c; go_simp <;> (try with_reducible rfl))
   clear h21 ho e162 e158
   refine si_v (v := ?_) 164 23 rfl h22 wanted_p ?_ (hzA 164 (by decide)) (fun B E h23 e164 ho => ?_)
   rotate_left
   · (go_simp <;> (try with_reducible rfl))
   clear h22 ho e163
   refine si_nb 22 2 25 166 h23 e164 (hzA 166 (by decide)) (fun B E h25 hu ho => ?_)
   replace e164 := (ho 164 (by decide)).trans e164
   have e166 := hu 166 (by decide) (by decide)
   clear h23 ho hu
   refine si_v (v := ?_) 167 26 rfl h25 wanted_p ?_ (hzA 167 (by decide)) (fun B E h26 e167 ho => ?_)
   rotate_left
   · (have hc := h25.c; go_simp <;> (try with_reducible rfl))
   clear h25 ho e164 e166
   refine si_v (v := ?_) 168 27 rfl h26 wanted_p ?_ (hzA 168 (by decide)) (fun B E h27 e168 ho => ?_)
   rotate_left
   · (go_simp <;> (try with_reducible rfl))
   clear h26 ho e167
   refine si_nb 26 11 38 179 h27 e168 (hzA 179 (by decide)) (fun B E h38 hu ho => ?_)
   replace e168 := (ho 168 (by decide)).trans e168
   have e179 := hu 179 (by decide) (by decide)
   clear h27 ho hu
   refine si_v (v := ?_) 180 39 rfl h38 wanted_p ?_ (hzA 180 (by decide)) (fun B E h39 e180 ho => ?_)
   rotate_left
   · (have hc := h38.c; go_simp <;> (try with_reducible rfl))
   clear h38 ho e168 e179
   refine si_v (v := ?_) 181 40 rfl h39 wanted_p ?_ (hzA 181 (by decide)) (fun B E h40 e181 ho => ?_)
   rotate_left
   · (go_simp <;> (try with_reducible rfl))
   clear h39 ho e180
   refine si_nb 39 4 44 185 h40 e181 (hzA 185 (by decide)) (fun B E h44 hu ho => ?_)
   replace e181 := (ho 181 (by decide)).trans e181
   have e185 := hu 185 (by decide) (by decide)
   clear h40 ho hu
   refine si_v (v := ?_) 186 45 rfl h44 wanted_p ?_ (hzA 186 (by decide)) (fun B E h45 e186 ho => ?_)
   rotate_left
   · (have hc := h44.c; go_simp <;> (try with_reducible rfl))
   clear h44 ho e185 e181
   refine si_v (v := ?_) 187 46 rfl h45 wanted_p ?_ (hzA 187 (by decide)) (fun B E h46 e187 ho => ?_)
   rotate_left
   · (go_simp <;> (try with_reducible rfl))
   clear h45 ho e186
   refine si_nb 45 20 66 207 h46 e187 (hzA 207 (by decide)) (fun B E h66 hu ho => ?_)
   replace e187 := (ho 187 (by decide)).trans e187
   have e207 := hu 207 (by decide) (by decide)
   clear h46 ho hu
   refine si_v (v := ?_) 208 67 rfl h66 wanted_p ?_ (hzA 208 (by decide)) (fun B E h67 e208 ho => ?_)
   rotate_left
   · (have hc := h66.c; go_simp <;> (try with_reducible rfl))
   clear h66 ho e187 e207
   refine wpI.done rfl ?_
   exact hQ _ _ h67.x h67.v (e208.trans (by rw [HN.out]; rfl))
end Go.Proofs.Ytcklpcdgckkahaa
