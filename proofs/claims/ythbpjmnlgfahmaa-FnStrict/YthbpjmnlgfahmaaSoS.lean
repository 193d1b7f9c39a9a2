/- The contract of the specification's SerialOps. -/
import Derived.Test.YthbpjmnlgfahmaaHasI
import Derived.Test.YthbpjmnlgfahmaaCfX
namespace Go.Proofs.Ythbpjmnlgfahmaa
open Go.RowKit
set_option linter.unusedVariables false

/-- The places of the ops, txn after txn. -/
def soT (T O : Nat → Int) (n p : Nat) : List Nat := (List.range p).flatMap fun i => (List.range n).filter fun j => T j == O i
def soP (T O : Nat → Int) (n p m : Nat) : List Nat := soT T O n p ++ (List.range m).filter fun j => T j == O p
theorem soP_yes {T O : Nat → Int} {n p m : Nat} (h : (T m == O p) = true) : soP T O n p (m + 1) = soP T O n p m ++ [m] := by simp only [soP, List.range_succ, List.filter_append, List.filter_cons, h, List.filter_nil, if_true, List.append_assoc]
theorem soP_no {T O : Nat → Int} {n p m : Nat} (h : (T m == O p) = false) : soP T O n p (m + 1) = soP T O n p m := by simp [soP, List.range_succ, List.filter_append, h]
theorem soP_start (T O : Nat → Int) (n p : Nat) : soP T O n p 0 = soT T O n p := by simp [soP]
theorem soP_end (T O : Nat → Int) (n p : Nat) : soP T O n p n = soT T O n (p + 1) := by simp [soP, soT, List.range_succ]
theorem soT_len (T O : Nat → Int) (n : Nat) : ∀ p, (soT T O n p).length ≤ p * n
  | 0 => by simp [soT]
  | p + 1 => by
    have ih := soT_len T O n p
    rw [← soP_end, soP, List.length_append]
    have := List.length_filter_le (fun j => T j == O p) (List.range n)
    rw [List.length_range] at this
    rw [Nat.add_mul]; omega
theorem soP_len {T O : Nat → Int} {n p m : Nat} (hn : n ≤ 60) (hp : p < 9) (hm : m ≤ n) : (soP T O n p m).length ≤ 1000 := by
  have a := soT_len T O n p
  have b := List.length_filter_le (fun j => T j == O p) (List.range m)
  rw [List.length_range] at b
  have c := Nat.mul_le_mul (show p ≤ 9 by omega) hn
  rw [soP, List.length_append]; omega
def opsV (K T : Nat → Int) (S : Nat → ByteArray) (l : List Nat) : List Value := l.flatMap fun i => [.int .i64 (K i), .int .i64 (T i), .string (S i)]
theorem opsV_snoc (K T : Nat → Int) (S : Nat → ByteArray) (l : List Nat) (i : Nat) : opsV K T S (l ++ [i]) = opsV K T S l ++ [.int .i64 (K i), .int .i64 (T i), .string (S i)] := by simp [opsV]
theorem opsV_cons (K T : Nat → Int) (S : Nat → ByteArray) (l : List Nat) (i : Nat) : opsV K T S (i :: l) = .int .i64 (K i) :: .int .i64 (T i) :: .string (S i) :: opsV K T S l := by simp [opsV]
def atL (l : List Nat) (i : Nat) : Nat := l.getD i 0
def opL (K T : Nat → Int) (S : Nat → ByteArray) (l : List Nat) : Nat → Nat → Value := opF (fun i => K (atL l i)) (fun i => T (atL l i)) (fun i => S (atL l i))
theorem opsV_at (K T : Nat → Int) (S : Nat → ByteArray) (l : List Nat) : ∀ i j, i < l.length → j < 3 → (opsV K T S l)[i * 3 + j]? = some (opL K T S l i j) := by
  induction l with
  | nil => intro i j hi; simp at hi
  | cons p l ih =>
    intro i j hi hj
    rw [opsV_cons]
    cases i with
    | zero =>
      match j, hj with
      | 0, _ => simp [opL, opF, atL]
      | 1, _ => simp [opL, opF, atL]
      | 2, _ => simp [opL, opF, atL]
    | succ i =>
      have h := ih i j (by simpa using hi) hj
      rw [show (i + 1) * 3 + j = (i * 3 + j) + 1 + 1 + 1 by omega]
      simp only [List.getElem?_cons_succ]
      rw [h]
      simp [opL, opF, atL]
theorem opsV_len (K T : Nat → Int) (S : Nat → ByteArray) (l : List Nat) : (opsV K T S l).length = l.length * 3 := by
  induction l with
  | nil => rfl
  | cons p l ih => rw [opsV_cons]; simp [ih]; omega
theorem opsV_L (K T : Nat → Int) (S : Nat → ByteArray) (l : List Nat) : opsV K T S l = cellsL (opL K T S l) 3 l.length := by
  apply List.ext_getElem?
  intro k
  rcases Nat.lt_or_ge k (l.length * 3) with h | h
  · have e : k = k / 3 * 3 + k % 3 := by omega
    rw [e, opsV_at K T S l (k / 3) (k % 3) (by omega) (by omega), cellsL_at _ 3 _ (k / 3) (k % 3) (by omega) (by omega)]
  · rw [List.getElem?_eq_none (by rw [opsV_len]; exact h), List.getElem?_eq_none (by rw [cellsL_len]; exact h)]
/-- The order has each txn once. -/
def ordP (T O : Nat → Int) (n n' : Nat) : Prop := n' = (txL T n 9).length ∧ ∀ i, i < n' → hasN (xF (txL T n 9)) (O i) (txL T n 9).length = true ∧ hasN O (O i) i = false
open Classical in
noncomputable def soOk (K T : Nat → Int) (S : Nat → ByteArray) (O : Nat → Int) (n n' : Nat) : Bool := goodO (okO K T S) K T n && decide (ordP T O n n')
noncomputable def soR (K T : Nat → Int) (S : Nat → ByteArray) (O : Nat → Int) (n n' : Nat) : List Nat := if soOk K T S O n n' = true then soT T O n n' else []
def OpsPost (K T : Nat → Int) (S : Nat → ByteArray) (l : List Nat) (g : Bool) (w : World) (r : Ending) (w' : World) : Prop :=
  (∃ a cap, r = .returned (.tuple #[.slice a l.length cap, .bool g]) ∧ SRow w' w.heap.size w'.heap.size a l.length 3 (opL K T S l)) ∧ Below w.heap.size w w'
theorem so_no {K T : Nat → Int} {S : Nat → ByteArray} {O : Nat → Int} {n n' : Nat} {w w' : World} (h : soOk K T S O n n' = false) (hb : Below w.heap.size w w') : OpsPost K T S (soR K T S O n n') (soOk K T S O n n') w (.returned (.tuple #[.slice none 0 0, .bool false])) w' := by
  rw [soR, h]
  exact ⟨⟨none, 0, rfl, Or.inl rfl, Nat.le_refl _⟩, hb⟩
theorem soOk_no {K T : Nat → Int} {S : Nat → ByteArray} {O : Nat → Int} {n n' : Nat} (h : ¬ ordP T O n n') : soOk K T S O n n' = false := by
  unfold soOk; rw [@decide_eq_false _ (Classical.propDecidable _) h, Bool.and_false]
theorem soOk_yes {K T : Nat → Int} {S : Nat → ByteArray} {O : Nat → Int} {n n' : Nat} (hg : goodO (okO K T S) K T n = true) (h : ordP T O n n') : soOk K T S O n n' = true := by
  unfold soOk; rw [@decide_eq_true _ (Classical.propDecidable _) h, hg]; rfl
theorem l1Has_is {n : Nat} {X : Nat → Int} {t : Int} {q : Bool} (a : Option Addr) (cap : Nat) (w : World) (h : hasN X t n = q) (hn : n ≤ 1073741824) (hs : Sl w a n 1 (intF X)) :
    Calls Try.prog 83 #[.slice a n cap, .int .i64 t] w fun r w' => r = .returned (.bool q) ∧ w' = w := h ▸ l1Has_any a n cap X t w hn hs

set_option maxRecDepth 100000 in
set_option maxHeartbeats 8000000 in
theorem specSerialOps_any (a : Option Addr) (n cap : Nat) (K T : Nat → Int) (S : Nat → ByteArray) (a' : Option Addr) (n' cap' : Nat) (O : Nat → Int) (w : World) (hn : n ≤ 1048576) (hn' : n' ≤ 1048576) (hcap : n ≤ cap) (hcap' : n' ≤ cap') (hS : ∀ i, i < n → (S i).size ≤ maxLen) (hs : Sl w a n 3 (opF K T S)) (hl : Sl w a' n' 1 (intF O)) :
    Calls Try.prog 33 #[.slice a n cap, .slice a' n' cap'] w (OpsPost K T S (soR K T S O n n') (soOk K T S O n n') w) := by
  have HS : Hid (Sl w a n 3 (opF K T S) ∧ Sl w a' n' 1 (intF O) ∧ ∀ i, i < n → (S i).size ≤ maxLen) := ⟨hs, hl, hS⟩
  clear hs hl hS
  obtain ⟨i0, hi0, hz0, hz1, hz2⟩ := info_parts info_op
  go_enter Try.func33, Try.ntmps33
  go_wp2_with fail
  refine (l3Txns_any _ _ _ K T S _ hn HS.out.1).mono ?_
  rintro r w1 ⟨⟨a1, cap1, rfl, hX1⟩, hb1⟩
  obtain ⟨X, hX⟩ : ∃ X, X = txL T n 9 := ⟨_, rfl⟩
  have HX : Hid (X = txL T n 9) := hX
  have hX9 : X.length ≤ 9 := by rw [hX]; exact txL_len T n 9
  rw [← hX] at hX1
  have HB1 : Hid (Below w.heap.size w w1 ∧ SRow w1 w.heap.size w1.heap.size a1 X.length 1 (intF (xF X))) := ⟨hb1, hX1⟩
  rw [← hX]
  clear hb1 hX1 hX
  go_wp2_with fail
  refine (specGoodOps_any _ _ _ K T S _ hn hcap HS.out.2.2 (HS.out.1.kept HB1.out.1)).mono ?_
  rintro r w2 ⟨rfl, hb2⟩
  have HB2 : Hid (Below w.heap.size w w2 ∧ SRow w2 w.heap.size w1.heap.size a1 X.length 1 (intF (xF X))) := ⟨below_next HB1.out.1 hb2, HB1.out.2.next hb2⟩
  clear hb2 HB1
  cases hg : goodO (okO K T S) K T n
  · have HN : Hid (soOk K T S O n n' = false) := by show _ = _; simp [soOk, hg]
    go_wp2
    exact bodyPost_ret (v := .tuple #[.slice none 0 0, .bool false]) (by simp [results, Try.results33, go_sem]) rfl (so_no HN.out HB2.out.1)
  have HG : Hid (goodO (okO K T S) K T n = true) := hg
  have h60 : n ≤ 60 := (goodO_out hg).1
  clear hg
  by_cases hnn : n' = X.length
  case neg =>
    have hne : ¬ (n' : Int) = (X.length : Int) := by omega
    have HN : Hid (soOk K T S O n n' = false) := soOk_no (fun h => hnn (by rw [HX.out]; exact h.1))
    clear hnn
    go_wp2
    exact bodyPost_ret (v := .tuple #[.slice none 0 0, .bool false]) (by simp [results, Try.results33, go_sem]) rfl (so_no HN.out HB2.out.1)
  have hn9 : n' ≤ 9 := by omega
  have hcast : (X.length : Int) = (n' : Int) := by omega
  have HNN : Hid (n' = X.length) := hnn
  clear hnn
  go_wp2
  clear hcast
  go_loopw [28] (fun x wr => ∃ k : Nat, k ≤ n' ∧ x = .int .i64 k ∧ wr = w2 ∧ (∀ i, i < k → hasN (xF X) (O i) X.length = true ∧ hasN O (O i) i = false)) (fun x _ => n' - (intOf x).toNat)
  case atStart => exact ⟨0, Nat.zero_le _, rfl, rfl, fun i hi => absurd hi (by omega)⟩
  case round =>
    obtain ⟨k, hk, rfl, rfl, hall⟩ := hrel
    have HA : Hid (∀ i, i < k → hasN (xF X) (O i) X.length = true ∧ hasN O (O i) i = false) := hall
    clear hall
    by_cases hlt : k < n'
    · have hlt' : (k : Int) < (n' : Int) := by omega
      have hkc : (k : Int) ≤ (cap' : Int) := by omega
      have hsl := HS.out.2.1.kept HB2.out.1
      have HLe : Hid (Sl wr a' k 1 (intF O)) := hsl.le (Nat.le_of_lt hlt)
      rcases hsl with h | ⟨b', off', rfl, hbs', hE'⟩
      · omega
      have d0 := int_cell hE' hlt
      clear hE'
      cases h1 : hasN (xF X) (O k) X.length
      · have HN : Hid (soOk K T S O n n' = false) := soOk_no (fun h => by have := (h.2 k hlt).1; rw [← HX.out, h1] at this; cases this)
        have HC : Hid (∀ W : World, Sl W a1 X.length 1 (intF (xF X)) → Calls Try.prog 83 #[.slice a1 X.length cap1, .int .i64 (O k)] W fun r w' => r = .returned (.bool false) ∧ w' = W) := fun W h => l1Has_is _ _ W h1 (by omega) h
        clear h1
        go_wp2_with fail
        refine (HC.out _ HB2.out.2.sl).mono ?_
        rintro r w9 ⟨rfl, rfl⟩
        go_wp2
        exact bodyPost_ret (v := .tuple #[.slice none 0 0, .bool false]) (by simp [results, Try.results33, go_sem]) rfl (so_no HN.out HB2.out.1)
      have HC : Hid (∀ W : World, Sl W a1 X.length 1 (intF (xF X)) → Calls Try.prog 83 #[.slice a1 X.length cap1, .int .i64 (O k)] W fun r w' => r = .returned (.bool true) ∧ w' = W) := fun W h => l1Has_is _ _ W h1 (by omega) h
      have H1 : Hid (hasN (xF X) (O k) X.length = true) := h1
      clear h1
      obtain ⟨q, hq⟩ : ∃ q, q = hasN O (O k) k := ⟨_, rfl⟩
      have HQ : Hid (hasN O (O k) k = q) := hq.symm
      clear hq
      go_wp2_with fail
      refine (HC.out _ HB2.out.2.sl).mono ?_
      rintro r w9 ⟨rfl, rfl⟩
      go_wp2_with fail
      refine (l1Has_is _ _ _ HQ.out (by omega) HLe.out).mono ?_
      rintro r w9 ⟨rfl, rfl⟩
      cases q
      · go_wp2
        go_roundw
        case rel => exact ⟨k + 1, by omega, by go_num, trivial, fun i hi => (Nat.lt_succ_iff_lt_or_eq.1 hi).elim (HA.out i) (fun e => e ▸ ⟨H1.out, HQ.out⟩)⟩
        case measure => simp [intOf]; omega
      · have HN : Hid (soOk K T S O n n' = false) := soOk_no (fun h => by have := (h.2 k hlt).2; rw [HQ.out] at this; cases this)
        go_wp2
        exact bodyPost_ret (v := .tuple #[.slice none 0 0, .bool false]) (by simp [results, Try.results33, go_sem]) rfl (so_no HN.out HB2.out.1)
    · have HY : Hid (soOk K T S O n n' = true) := soOk_yes HG.out (by rw [ordP, ← HX.out]; exact ⟨HNN.out, fun i hi => HA.out i (by omega)⟩)
      have hkn : ¬ (k : Int) < (n' : Int) := by omega
      obtain ⟨w3, hw3⟩ : ∃ x, x = wr := ⟨wr, rfl⟩
      have HB3 : Hid (Below w.heap.size w w3) := by rw [hw3]; exact HB2.out.1
      rw [← hw3]
      clear hw3 HA HB2 hlt
      go_wp2
      go_loopw [47, 9] (fun x v wr => ∃ p : Nat, p ≤ n' ∧ x = .int .i64 p ∧ wr.ownsRow w.heap.size 44 3 v (soT T O n p).length (opsV K T S (soT T O n p)) ∧ Below w.heap.size w wr) (fun x _ _ => n' - (intOf x).toNat)
      case atStart => exact ⟨0, Nat.zero_le _, rfl, World.ownsRow_nil _ _ _ _, HB3.out⟩
      case round =>
        obtain ⟨p, hp, rfl, hown, hBr⟩ := hrel
        clear HB3
        obtain ⟨wo, hwo⟩ : ∃ x, x = wr := ⟨wr, rfl⟩
        subst hwo
        by_cases hlt : p < n'
        · have hlt' : (p : Int) < (n' : Int) := by omega
          rcases HS.out.2.1.kept hBr with h | ⟨b', off', rfl, hbs', hE'⟩
          · omega
          have d0 := int_cell hE' hlt
          have HH : Hid (wo.ownsRow w.heap.size 44 3 u9 (soP T O n p 0).length (opsV K T S (soP T O n p 0)) ∧ Below w.heap.size w wo) := by rw [soP_start]; exact ⟨hown, hBr⟩
          clear hown hBr hE'
          go_wp2
          go_loopw [53, 9] (fun x v wr => ∃ m : Nat, m ≤ n ∧ x = .int .i64 m ∧ wr.ownsRow w.heap.size 44 3 v (soP T O n p m).length (opsV K T S (soP T O n p m)) ∧ Below w.heap.size w wr) (fun x _ _ => n - (intOf x).toNat)
          case atStart => exact ⟨0, Nat.zero_le _, rfl, HH.out.1, HH.out.2⟩
          case round =>
            obtain ⟨m, hm, rfl, hown, hBi⟩ := hrel
            clear HH d0
            by_cases hml : m < n
            · rcases HS.out.1.kept hBi with h | ⟨b, off, rfl, hbs, hE⟩
              · omega
              have hml' : (m : Int) < (n : Int) := by omega
              obtain ⟨c0, c1, c2⟩ := op_cells hE hml
              have hzi : w.heap.size ≤ wr.heap.size := hBi.size
              have hLk : (soP T O n p m).length ≤ 1000 := soP_len h60 (by omega) hm
              have hx0 := Op1.new wr (K m) (T m) (S m) 44
              cases hb : (T m == O p)
              · have HE : Hid (soP T O n p (m + 1) = soP T O n p m) := soP_no hb
                have HH : Hid (wr.ownsRow w.heap.size 44 3 u9 (soP T O n p m).length (opsV K T S (soP T O n p m)) ∧ Below w.heap.size w wr) := ⟨hown, hBi⟩
                clear hown hBi hE hx0
                go_wp2
                go_roundw
                case rel => exact ⟨m + 1, by omega, by go_num, by rw [HE.out]; exact own_keep HH.out.1 (Go.Joins.below_alloc1 _ _), HH.out.2.alloc hzi _⟩
                case measure => simp [intOf]; omega
              · have HE : Hid (soP T O n p (m + 1) = soP T O n p m ++ [m]) := soP_yes hb
                obtain ⟨L, hL⟩ : ∃ L, L = soP T O n p m := ⟨_, rfl⟩
                rw [← hL] at HE hLk hown
                have HW : Hid ((wr.alloc (.cells #[.int .i64 (K m), .int .i64 (T m), .string (S m)] 44)).ownsRow w.heap.size 44 3 u9 L.length (opsV K T S L) ∧ Below w.heap.size w (wr.alloc (.cells #[.int .i64 (K m), .int .i64 (T m), .string (S m)] 44))) := ⟨own_keep hown (Go.Joins.below_alloc1 _ _), hBi.alloc hzi _⟩
                have hnw := cells_new (wr.alloc (.cells #[.int .i64 (K m), .int .i64 (T m), .string (S m)] 44)) [.int .i64 (K m), .int .i64 (T m), .string (S m)] 44
                have HNW : Hid (∀ j u, [Value.int .i64 (K m), .int .i64 (T m), .string (S m)][j]? = some u → ((wr.alloc (.cells #[.int .i64 (K m), .int .i64 (T m), .string (S m)] 44)).alloc (.cells #[.int .i64 (K m), .int .i64 (T m), .string (S m)] 44)).cell? ((⟨wr.heap.size + 1, 0, none⟩ : Addr).add j) = some u) := by rw [World.size_alloc] at hnw; exact hnw
                clear hown hBi hL hE hnw hx0
                go_wp2_with (first
                  | (at_builtin; refine wpList_append_own_at _ rfl (.tmp 61) (.tmp 63) 32 rfl w.heap.size 44 i0 (.agg #[.int .i64 0, .int .i64 0, .string ⟨#[]⟩]) 3 32 Try.underlying32 hi0 hz0 hz1 hz2 rfl (by decide) u9 L.length (opsV K T S L) rfl (World.ownsRow.alloc HW.out.1 _) ⟨wr.heap.size + 1, 0, none⟩ 1 1 [.int .i64 (K m), .int .i64 (T m), .string (S m)] rfl rfl HNW.out (by intro u hu; simp at hu; rcases hu with rfl | rfl | rfl <;> rfl) (by unfold maxLen; omega) (by omega) (by simp <;> omega) ?_; intro v4 w4 hown hgrow hnil hwhere)
                  | go_in)
                have HFF : Hid (w4.ownsRow w.heap.size 44 3 v4 (soP T O n p (m + 1)).length (opsV K T S (soP T O n p (m + 1))) ∧ Below w.heap.size w w4) := by
                  refine ⟨?_, (HW.out.2.alloc HW.out.2.size _).grown hgrow (by simp; omega) (fun j hj => (HW.out.1.lt j hj).1)⟩
                  rw [HE.out, opsV_snoc, List.length_append]; exact hown
                clear hown hgrow hnil hwhere
                go_wp2
                go_roundw
                case rel => exact ⟨m + 1, by omega, by go_num, HFF.out.1, HFF.out.2⟩
                case measure => simp [intOf]; omega
            · have hmn : m = n := by omega
              subst hmn
              have HH : Hid (wr.ownsRow w.heap.size 44 3 u9 (soT T O m (p + 1)).length (opsV K T S (soT T O m (p + 1))) ∧ Below w.heap.size w wr) := by rw [← soP_end]; exact ⟨hown, hBi⟩
              clear hown hBi
              go_wp2
              go_roundw
              case rel => exact ⟨p + 1, by omega, by go_num, HH.out.1, HH.out.2⟩
              case measure => simp [intOf]; omega
        · have hpn : p = n' := by omega
          obtain ⟨l, hl⟩ : ∃ l, l = soT T O n p := ⟨_, rfl⟩
          rw [← hl, opsV_L] at hown
          obtain ⟨a4, cap4, rfl, _, hx⟩ := SRow.of hown
          have HF : Hid (OpsPost K T S (soR K T S O n n') (soOk K T S O n n') w (.returned (.tuple #[.slice a4 l.length cap4, .bool true])) wo) := by
            rw [soR, HY.out, if_pos rfl, ← hpn, ← hl]; exact ⟨⟨a4, cap4, rfl, hx⟩, hBr⟩
          have hpn' : ¬ (p : Int) < (n' : Int) := by omega
          clear hown hBr hx hl hpn hlt
          go_wp2
          exact bodyPost_ret (v := .tuple #[.slice a4 l.length cap4, .bool true]) (by simp [results, Try.results33, go_sem]) rfl HF.out
end Go.Proofs.Ythbpjmnlgfahmaa
