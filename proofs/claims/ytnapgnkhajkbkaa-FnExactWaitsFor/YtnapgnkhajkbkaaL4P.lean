/- spec.l4Pair: a pair is put into its place in a sorted list of pairs, if it is not there. -/
import Derived.Test.YtnapgnkhajkbkaaPwG
import Derived.Test.YtnapgnkhajkbkaaRg
import Derived.Laws.StructEq
import Derived.Laws.AppendOwnNone
import Derived.Maps.AppendAt
import Derived.Lib.SmallJoins
namespace Go.Proofs.Ytnapgnkhajkbkaa
open Go.RowKit
set_option linter.unusedVariables false

theorem add00 (g o j : Nat) : (⟨g, o, none⟩ : Addr).add j = ⟨g, o + j, none⟩ := by simp [Addr.add]
theorem own_gr' {w w' : World} {row : Option Nat} {base : Nat} {e : TypeId} {size : Nat} {v : Value} {n : Nat} {xs : List Value} (h : w.ownsRow base e size v n xs) (hg : w.grownBy w' row) (hne : ∀ b, v.ownBlock = some b → row ≠ some b) : w'.ownsRow base e size v n xs := by
  obtain ⟨h1, h2⟩ := h
  refine ⟨h1, ?_⟩
  rcases h2 with h2 | ⟨g, cap, cur, hv, hb, hh, r⟩
  · exact Or.inl h2
  · have hl : g < w.heap.size := by
      rcases Nat.lt_or_ge g w.heap.size with q | q
      · exact q
      · rw [Array.getElem?_eq_none q] at hh; cases hh
    exact Or.inr ⟨g, cap, cur, hv, hb, by rw [hg.block g hl (fun e => hne g (by rw [hv]; rfl) e.symm)]; exact hh, r⟩
theorem cellsP_append (A B : List (Int × Int)) : cellsP (A ++ B) = cellsP A ++ cellsP B := by simp [cellsP]
theorem cellsP_one' (A : List (Int × Int)) : ∀ u ∈ cellsP A, u.oneCell' = true := by
  intro u hu
  simp only [cellsP, List.mem_flatMap] at hu
  obtain ⟨p, _, h⟩ := hu
  simp at h
  rcases h with rfl | rfl <;> rfl
theorem newsP_take {w : World} {base g cap : Nat} {e : TypeId} {L : List (Int × Int)} {p : Nat} (h : w.ownsRow base e 2 (.slice (some ⟨g, 0, none⟩) L.length cap) L.length (cellsP L)) (hp : p ≤ L.length) : ∀ j u, (cellsP (L.take p))[j]? = some u → w.cell? ((⟨g, 0, none⟩ : Addr).add j) = some u := by
  intro j u hu
  have hl : (cellsP (L.take p)).length = p * 2 := by rw [cellsP_len, List.length_take, Nat.min_eq_left hp]
  have hj : j < p * 2 := by
    rcases Nat.lt_or_ge j (p * 2) with q | q
    · exact q
    · rw [List.getElem?_eq_none (by omega)] at hu; cases hu
  have h1 : cellsP L = cellsP (L.take p) ++ cellsP (L.drop p) := by rw [← cellsP_append, List.take_append_drop]
  rw [add00, Nat.zero_add, World.ownsRow.cellAt h _ (by omega), h1, List.getElem?_append_left (by omega)]
  exact hu
theorem newsP_drop {w : World} {base g cap : Nat} {e : TypeId} {L : List (Int × Int)} {p : Nat} (h : w.ownsRow base e 2 (.slice (some ⟨g, 0, none⟩) L.length cap) L.length (cellsP L)) (hp : p ≤ L.length) : ∀ j u, (cellsP (L.drop p))[j]? = some u → w.cell? ((⟨g, p * 2, none⟩ : Addr).add j) = some u := by
  intro j u hu
  have hl : (cellsP (L.take p)).length = p * 2 := by rw [cellsP_len, List.length_take, Nat.min_eq_left hp]
  have hl2 : (cellsP (L.drop p)).length = (L.length - p) * 2 := by rw [cellsP_len, List.length_drop]
  have hj : j < (L.length - p) * 2 := by
    rcases Nat.lt_or_ge j ((L.length - p) * 2) with q | q
    · exact q
    · rw [List.getElem?_eq_none (by omega)] at hu; cases hu
  have h1 : cellsP L = cellsP (L.take p) ++ cellsP (L.drop p) := by rw [← cellsP_append, List.take_append_drop]
  rw [add00, World.ownsRow.cellAt h _ (by omega), h1, List.getElem?_append_right (by omega), hl, show p * 2 + j - p * 2 = j by omega]
  exact hu
theorem cell_pair {w : World} {base g cap : Nat} {e : TypeId} {L : List (Int × Int)} {p : Nat} (h : w.ownsRow base e 2 (.slice (some ⟨g, 0, none⟩) L.length cap) L.length (cellsP L)) (hp : p < L.length) : w.cell? ⟨g, p * 2, none⟩ = some (.int .i64 (pP L p)) ∧ w.cell? ⟨g, p * 2 + 1, none⟩ = some (.int .i64 (pQ L p)) := by
  have h0 := cellsP_at L p 0 hp (by omega)
  have h1 := cellsP_at L p 1 hp (by omega)
  have hl := cellsP_len L
  constructor
  · rw [World.ownsRow.cellAt h _ (by omega)]; exact h0
  · rw [World.ownsRow.cellAt h _ (by omega)]; exact h1
def pairE (a b a' b' : Int) : Bool := a == a' && b == b'
set_option maxHeartbeats 1000000 in
theorem equal_pair (d : Nat) (e s : Int) (e' s' : Int) (w : World) :
    (Op.equalIn (d + 2) 35 (.agg #[.int .i64 e, .int .i64 s]) (.agg #[.int .i64 e', .int .i64 s'])).run Try.prog w = .ok (pairE e s e' s') w := by
  have u1 := Try.underlying3
  have hS : Try.prog.underlying 35 = some (.struct (Try.prog.fieldsOf 35)) := by kernel_rfl
  have hp : Try.prog.stoodInHeld 35 = false := by kernel_rfl
  have p0 : (Go.part 3 #[.int .i64 e, .int .i64 s] 0).run Try.prog w = .ok (.int .i64 e) w := by kernel_rfl
  have p1 : (Go.part 3 #[.int .i64 e, .int .i64 s] 1).run Try.prog w = .ok (.int .i64 s) w := by kernel_rfl
  have q0 : (Go.part 3 #[.int .i64 e', .int .i64 s'] 0).run Try.prog w = .ok (.int .i64 e') w := by kernel_rfl
  have q1 : (Go.part 3 #[.int .i64 e', .int .i64 s'] 1).run Try.prog w = .ok (.int .i64 s') w := by kernel_rfl
  rw [run_equalIn_agg w (d + 1) _ _ _ hS hp]
  simp only [Program.fieldsOf, Try.underlying35]
  simp only [Op.eqFields, Sem.run_bind, Sem.run_ite, p0, p1, q0, q1, Result.andThen_ok, run_equalIn_int w d 3 .i64 .i64 _ _ u1]
  cases h0 : e == e' <;> cases h1 : s == s' <;> simp [pairE, h0, h1]
theorem run_eqPair (e s : Int) (e' s' : Int) (w : World) :
    (binOp .eql 35 (.agg #[.int .i64 e, .int .i64 s]) (.agg #[.int .i64 e', .int .i64 s'])).run Try.prog w = .ok (.bool (pairE e s e' s')) w := by
  rw [run_eql_struct, show (10000 : Nat) = 9998 + 2 from rfl, equal_pair]; rfl
theorem run_nePair (e s : Int) (e' s' : Int) (w : World) :
    (binOp .neq 35 (.agg #[.int .i64 e, .int .i64 s]) (.agg #[.int .i64 e', .int .i64 s'])).run Try.prog w = .ok (.bool (!pairE e s e' s')) w := by
  rw [run_neq_struct, show (10000 : Nat) = 9998 + 2 from rfl, equal_pair]; rfl
theorem pairE_yes (e s : Int) : pairE e s e s = true := by simp [pairE]
theorem pairE_no {e s e' s' : Int} (h : (e, s) ≠ (e', s')) : pairE e s e' s' = false := by
  cases q : pairE e s e' s'
  · rfl
  · simp only [pairE, Bool.and_eq_true, beq_iff_eq] at q
    exact absurd (Prod.ext q.1 q.2) h

def InsPost (base : Nat) (L : List (Int × Int)) (x : Int × Int) (w : World) (r : Ending) (w' : World) : Prop :=
  ∃ v' R, r = .returned v' ∧ w'.ownsRow base 35 2 v' R.length (cellsP R) ∧ SortP R ∧ (∀ z, z ∈ R ↔ z ∈ L ∨ z = x) ∧ R.length ≤ L.length + 1 ∧ Below w.heap.size w w'

set_option maxRecDepth 100000 in
set_option maxHeartbeats 8000000 in
theorem l4Pair_any (base : Nat) (v : Value) (L : List (Int × Int)) (x y : Int) (w : World) (hn : L.length < 67108864) (hbase : base ≤ w.heap.size) (hs : SortP L) (hown : w.ownsRow base 35 2 v L.length (cellsP L)) :
    Calls Try.prog 84 #[v, .agg #[.int .i64 x, .int .i64 y]] w (InsPost base L (x, y) w) := by
  obtain ⟨i0, hi0, y0, y1, y2⟩ := info_parts info_pair
  have HX : Hid (Bx (w.alloc (.cells #[.int .i64 x, .int .i64 y] 35)) w.heap.size [.int .i64 x, .int .i64 y] ∧ Below w.heap.size w (w.alloc (.cells #[.int .i64 x, .int .i64 y] 35))) := ⟨Bx.new w [.int .i64 x, .int .i64 y] _, Go.Joins.below_alloc1 _ _⟩
  have HSO : Hid (SortP L) := hs
  clear hs
  rcases Go.Joins.ownsRow_forms hown with hf | ⟨g, cap, rfl⟩
  · obtain ⟨rfl, h0⟩ := hf
    have hL : L = [] := List.length_eq_zero_iff.1 h0
    subst hL
    clear hown h0 hn
    go_enter Try.func84, Try.ntmps84
    go_wp2
    go_loopw [5] (fun i wr => i = .int .i64 0 ∧ Bx wr w.heap.size [.int .i64 x, .int .i64 y] ∧ Below w.heap.size w wr) (fun _ _ => 0)
    case atStart => exact ⟨rfl, HX.out.1, HX.out.2⟩
    case round =>
      obtain ⟨rfl, hx, hBr⟩ := hrel
      have H1 : Hid (Bx wr.drew w.heap.size [.int .i64 x, .int .i64 y] ∧ Below w.heap.size w wr.drew) := ⟨hx.next (Below.refl _ _).drew, hBr.drew⟩
      clear hx hBr HX
      go_upto_region 2 with fail
      refine wp_region_noPanic ?_
      refine wp_region_held_drew (S := fun W => Bx W w.heap.size [.int .i64 x, .int .i64 y]) (by kernel_rfl) H1.out.1 (fun hHeld => ?_)
      refine take_v (v := ?_) 0 ⟨some 7, Op.move (Operand.tmp 5), _, _, _, none⟩ rfl (fun _ _ _ h => h) ?_ hHeld ?_
      rotate_left
      · (intro W _; go_simp <;> (try with_reducible rfl))
      refine take_v (v := ?_) 1 ⟨some 8, Op.move (Operand.tmp 0), _, _, _, none⟩ rfl (fun _ _ _ h => h) ?_ hHeld ?_
      rotate_left
      · (intro W _; go_simp <;> (try with_reducible rfl))
      refine take_v (v := ?_) 2 ⟨some 9, Op.call { callee := Callee.builtin Builtin.len, args := #[Operand.tmp 8], argTypes := #[30] }, _, _, _, none⟩ rfl (fun _ _ _ h => h) ?_ hHeld ?_
      rotate_left
      · (intro W _; go_simp <;> (try with_reducible rfl))
      refine take_v (v := ?_) 3 ⟨some 10, Op.binOp BinOp.lss 3 (Operand.tmp 7) (Operand.tmp 9) 3, _, _, _, none⟩ rfl (fun _ _ _ h => h) ?_ hHeld ?_
      rotate_left
      · (intro W _; go_simp <;> (try with_reducible rfl))
      refine take_v (v := ?_) 4 ⟨some 11, Op.move (Operand.tmp 10), _, _, _, none⟩ rfl (fun _ _ _ h => h) ?_ hHeld ?_
      rotate_left
      · (intro W _; go_simp <;> (try with_reducible rfl))
      refine take_n 5 ⟨some 12, Op.move (Operand.tmp 0), _, _, _, some (4, true)⟩ rfl (fun _ _ _ h => h) hHeld ?_
      refine take_n 6 ⟨some 13, Op.move (Operand.tmp 5), _, _, _, some (4, true)⟩ rfl (fun _ _ _ h => h) hHeld ?_
      refine take_n 7 ⟨some 14, Op.indexAddr 30 (Operand.tmp 12) (Operand.tmp 13), _, _, _, some (4, true)⟩ rfl (fun _ _ _ h => h) hHeld ?_
      refine take_n 8 ⟨some 15, Op.fieldAddr 35 (Operand.tmp 14) 0, _, _, _, some (4, true)⟩ rfl (fun _ _ _ h => h) hHeld ?_
      refine take_n 9 ⟨some 16, Op.load 3 (Operand.tmp 15), _, _, _, some (4, true)⟩ rfl (fun _ _ _ h => h) hHeld ?_
      refine take_n 10 ⟨some 17, Op.fieldAddr 35 (Operand.tmp 3) 0, _, _, _, some (4, true)⟩ rfl (fun _ _ _ h => h) hHeld ?_
      refine take_n 11 ⟨some 18, Op.load 3 (Operand.tmp 17), _, _, _, some (4, true)⟩ rfl (fun _ _ _ h => h) hHeld ?_
      refine take_n 12 ⟨some 19, Op.binOp BinOp.lss 3 (Operand.tmp 16) (Operand.tmp 18) 3, _, _, _, some (4, true)⟩ rfl (fun _ _ _ h => h) hHeld ?_
      refine take_n 13 ⟨some 20, Op.move (Operand.tmp 19), _, _, _, some (4, true)⟩ rfl (fun _ _ _ h => h) hHeld ?_
      refine take_n 14 ⟨some 21, Op.move (Operand.tmp 0), _, _, _, some (13, false)⟩ rfl (fun _ _ _ h => h) hHeld ?_
      refine take_n 15 ⟨some 22, Op.move (Operand.tmp 5), _, _, _, some (13, false)⟩ rfl (fun _ _ _ h => h) hHeld ?_
      refine take_n 16 ⟨some 23, Op.indexAddr 30 (Operand.tmp 21) (Operand.tmp 22), _, _, _, some (13, false)⟩ rfl (fun _ _ _ h => h) hHeld ?_
      refine take_n 17 ⟨some 24, Op.fieldAddr 35 (Operand.tmp 23) 0, _, _, _, some (13, false)⟩ rfl (fun _ _ _ h => h) hHeld ?_
      refine take_n 18 ⟨some 25, Op.load 3 (Operand.tmp 24), _, _, _, some (13, false)⟩ rfl (fun _ _ _ h => h) hHeld ?_
      refine take_n 19 ⟨some 26, Op.fieldAddr 35 (Operand.tmp 3) 0, _, _, _, some (13, false)⟩ rfl (fun _ _ _ h => h) hHeld ?_
      refine take_n 20 ⟨some 27, Op.load 3 (Operand.tmp 26), _, _, _, some (13, false)⟩ rfl (fun _ _ _ h => h) hHeld ?_
      refine take_n 21 ⟨some 28, Op.binOp BinOp.eql 3 (Operand.tmp 25) (Operand.tmp 27) 3, _, _, _, some (13, false)⟩ rfl (fun _ _ _ h => h) hHeld ?_
      refine take_n 22 ⟨some 29, Op.move (Operand.tmp 28), _, _, _, some (13, false)⟩ rfl (fun _ _ _ h => h) hHeld ?_
      refine take_n 23 ⟨some 30, Op.move (Operand.tmp 0), _, _, _, some (22, true)⟩ rfl (fun _ _ _ h => h) hHeld ?_
      refine take_n 24 ⟨some 31, Op.move (Operand.tmp 5), _, _, _, some (22, true)⟩ rfl (fun _ _ _ h => h) hHeld ?_
      refine take_n 25 ⟨some 32, Op.indexAddr 30 (Operand.tmp 30) (Operand.tmp 31), _, _, _, some (22, true)⟩ rfl (fun _ _ _ h => h) hHeld ?_
      refine take_n 26 ⟨some 33, Op.fieldAddr 35 (Operand.tmp 32) 1, _, _, _, some (22, true)⟩ rfl (fun _ _ _ h => h) hHeld ?_
      refine take_n 27 ⟨some 34, Op.load 3 (Operand.tmp 33), _, _, _, some (22, true)⟩ rfl (fun _ _ _ h => h) hHeld ?_
      refine take_n 28 ⟨some 35, Op.fieldAddr 35 (Operand.tmp 3) 1, _, _, _, some (22, true)⟩ rfl (fun _ _ _ h => h) hHeld ?_
      refine take_n 29 ⟨some 36, Op.load 3 (Operand.tmp 35), _, _, _, some (22, true)⟩ rfl (fun _ _ _ h => h) hHeld ?_
      refine take_n 30 ⟨some 37, Op.binOp BinOp.lss 3 (Operand.tmp 34) (Operand.tmp 36) 3, _, _, _, some (22, true)⟩ rfl (fun _ _ _ h => h) hHeld ?_
      refine take_n 31 ⟨some 38, Op.pick (Operand.tmp 29) (Operand.tmp 37) (Operand.const (Value.bool false)), _, _, _, some (13, false)⟩ rfl (fun _ _ _ h => h) hHeld ?_
      refine take_n 32 ⟨some 39, Op.pick (Operand.tmp 20) (Operand.const (Value.bool true)) (Operand.tmp 38), _, _, _, some (4, true)⟩ rfl (fun _ _ _ h => h) hHeld ?_
      refine take_v (v := ?_) 33 ⟨some 40, Op.pick (Operand.tmp 11) (Operand.tmp 39) (Operand.const (Value.bool false)), _, _, _, none⟩ rfl (fun _ _ _ h => h) ?_ hHeld ?_
      rotate_left
      · (intro W _; go_simp <;> (try with_reducible rfl))
      refine wpAnyH_done (by kernel_rfl) ?_ _
      refine NoPanic.normal ?_
      clear hHeld
      have H2 : Hid (Bx wr.drew.drew w.heap.size [.int .i64 x, .int .i64 y] ∧ Below w.heap.size w wr.drew.drew) := ⟨H1.out.1.next (Below.refl _ _).drew, H1.out.2.drew⟩
      go_upto_region 4 with fail
      refine wp_region_noPanic ?_
      refine wp_region_held_drew (S := fun W => Bx W w.heap.size [.int .i64 x, .int .i64 y]) (by kernel_rfl) H2.out.1 (fun hHeld => ?_)
      refine take_v (v := ?_) 0 ⟨some 43, Op.move (Operand.tmp 5), _, _, _, none⟩ rfl (fun _ _ _ h => h) ?_ hHeld ?_
      rotate_left
      · (intro W _; go_simp <;> (try with_reducible rfl))
      refine take_v (v := ?_) 1 ⟨some 44, Op.move (Operand.tmp 0), _, _, _, none⟩ rfl (fun _ _ _ h => h) ?_ hHeld ?_
      rotate_left
      · (intro W _; go_simp <;> (try with_reducible rfl))
      refine take_v (v := ?_) 2 ⟨some 45, Op.call { callee := Callee.builtin Builtin.len, args := #[Operand.tmp 44], argTypes := #[30] }, _, _, _, none⟩ rfl (fun _ _ _ h => h) ?_ hHeld ?_
      rotate_left
      · (intro W _; go_simp <;> (try with_reducible rfl))
      refine take_v (v := ?_) 3 ⟨some 46, Op.binOp BinOp.lss 3 (Operand.tmp 43) (Operand.tmp 45) 3, _, _, _, none⟩ rfl (fun _ _ _ h => h) ?_ hHeld ?_
      rotate_left
      · (intro W _; go_simp <;> (try with_reducible rfl))
      refine take_v (v := ?_) 4 ⟨some 47, Op.move (Operand.tmp 46), _, _, _, none⟩ rfl (fun _ _ _ h => h) ?_ hHeld ?_
      rotate_left
      · (intro W _; go_simp <;> (try with_reducible rfl))
      refine take_n 5 ⟨some 48, Op.move (Operand.tmp 0), _, _, _, some (4, true)⟩ rfl (fun _ _ _ h => h) hHeld ?_
      refine take_n 6 ⟨some 49, Op.move (Operand.tmp 5), _, _, _, some (4, true)⟩ rfl (fun _ _ _ h => h) hHeld ?_
      refine take_n 7 ⟨some 50, Op.indexAddr 30 (Operand.tmp 48) (Operand.tmp 49), _, _, _, some (4, true)⟩ rfl (fun _ _ _ h => h) hHeld ?_
      refine take_n 8 ⟨some 51, Op.load 35 (Operand.tmp 50), _, _, _, some (4, true)⟩ rfl (fun _ _ _ h => h) hHeld ?_
      refine take_n 9 ⟨some 52, Op.load 35 (Operand.tmp 3), _, _, _, some (4, true)⟩ rfl (fun _ _ _ h => h) hHeld ?_
      refine take_n 10 ⟨some 53, Op.binOp BinOp.eql 35 (Operand.tmp 51) (Operand.tmp 52) 35, _, _, _, some (4, true)⟩ rfl (fun _ _ _ h => h) hHeld ?_
      refine take_v (v := ?_) 11 ⟨some 54, Op.pick (Operand.tmp 47) (Operand.tmp 53) (Operand.const (Value.bool false)), _, _, _, none⟩ rfl (fun _ _ _ h => h) ?_ hHeld ?_
      rotate_left
      · (intro W _; go_simp <;> (try with_reducible rfl))
      refine wpAnyH_done (by kernel_rfl) ?_ _
      refine NoPanic.normal ?_
      clear hHeld H1
      obtain ⟨wd, hwd⟩ : ∃ y, y = wr.drew.drew := ⟨_, rfl⟩
      rw [← hwd] at H2 ⊢
      clear hwd
      have x0 := H2.out.1.cell 0 rfl
      have x1 := H2.out.1.cell 1 rfl
      have xz := H2.out.1.2
      have HN : Hid (∀ j u, ([.int .i64 x, .int .i64 y] : List Value)[j]? = some u → (wd.alloc (.cells #[.int .i64 x, .int .i64 y] 35)).cell? ((⟨wd.heap.size, 0, none⟩ : Addr).add j) = some u) := cells_new wd [.int .i64 x, .int .i64 y] 35
      go_wp2_with (first
        | (at_builtin; refine wpList_append_own_none rfl (.tmp 56) (.tmp 59) 30 rfl base 35 i0 2 Try.underlying30 hi0 (.slice none 0 0) 0 [] rfl (World.ownsRow_nil _ _ _ _) rfl ?_)
        | (at_builtin; refine wpList_append_own_at _ rfl (.tmp 61) (.tmp 63) 30 rfl base 35 i0 (.agg #[.int .i64 0, .int .i64 0]) 2 16 Try.underlying30 hi0 y0 y1 y2 rfl (by decide) (.slice none 0 0) 0 [] rfl (World.ownsRow_nil _ _ _ _) ⟨wd.heap.size, 0, none⟩ 1 1 [.int .i64 x, .int .i64 y] rfl rfl HN.out (by intro u hu; simp at hu; rcases hu with rfl | rfl <;> rfl) (by unfold maxLen; omega) (by omega) (by simp; omega) ?_; intro v4 w4 hown4 hgrow4 hnil4 hwh4)
        | (at_builtin; refine wpList_append_own_none rfl (.tmp 65) (.tmp 68) 30 rfl base 35 i0 2 Try.underlying30 hi0 v4 (0 + 1) ([] ++ [.int .i64 x, .int .i64 y]) rfl hown4 rfl ?_)
        | go_in)
      go_ret
      have hz : wd.heap.size + 1 ≤ w4.heap.size := by have := hgrow4.size; simpa using this
      exact ⟨v4, [(x, y)], rfl, hown4, List.pairwise_singleton _ _, fun z => by simp, by simp, (H2.out.2.alloc (by omega) _).grown hgrow4 (by simp; omega) (fun j hj => by cases hj)⟩
  · obtain ⟨a', cap', e', hcap, hrow⟩ := SRow.of (F := prF (pP L) (pQ L)) (c := 2) (by rw [← cellsP_L]; exact hown)
    simp only [Value.slice.injEq, true_and] at e'
    obtain ⟨e1, e2⟩ := e'
    subst e1 e2
    have hg := hown.lt g rfl
    have HO : Hid (w.ownsRow base 35 2 (.slice (some ⟨g, 0, none⟩) L.length cap) L.length (cellsP L) ∧ base ≤ g ∧ g < w.heap.size) := ⟨hown, hg.1, hg.2⟩
    clear hown hrow hg
    go_enter Try.func84, Try.ntmps84
    go_wp2
    go_loopw [5] (fun i wr => ∃ p : Nat, i = .int .i64 p ∧ AtP L (x, y) p ∧ Bx wr w.heap.size [.int .i64 x, .int .i64 y] ∧ Below w.heap.size w wr) (fun i _ => L.length - (intOf i).toNat)
    case atStart => exact ⟨0, rfl, ⟨Nat.zero_le _, fun q hq => absurd hq (by omega)⟩, HX.out.1, HX.out.2⟩
    case round =>
      obtain ⟨p, rfl, hA, hx, hBr⟩ := hrel
      clear HX
      have H1 : Hid (Bx wr.drew w.heap.size [.int .i64 x, .int .i64 y] ∧ Below w.heap.size w wr.drew ∧ Bx wr.drew.drew w.heap.size [.int .i64 x, .int .i64 y] ∧ Below w.heap.size w wr.drew.drew) := ⟨hx.next (Below.refl _ _).drew, hBr.drew, (hx.next (Below.refl _ _).drew).next (Below.refl _ _).drew, hBr.drew.drew⟩
      have HA : Hid (AtP L (x, y) p) := hA
      have hp : p ≤ L.length := hA.1
      clear hx hBr hA
      by_cases hpn : p < L.length
      · have hpn' : (p : Int) < (L.length : Int) := by omega
        obtain ⟨P, hP⟩ : ∃ P, P = pP L p := ⟨_, rfl⟩
        obtain ⟨Q, hQ⟩ : ∃ Q, Q = pQ L p := ⟨_, rfl⟩
        have HPQ : Hid (P = pP L p ∧ Q = pQ L p) := ⟨hP, hQ⟩
        have HCk : Hid (wr.drew.cell? ⟨g, p * 2, none⟩ = some (.int .i64 P) ∧ wr.drew.cell? ⟨g, p * 2 + 1, none⟩ = some (.int .i64 Q)) := by rw [hP, hQ]; exact cell_pair (own_keep HO.out.1 H1.out.2.1) hpn
        have HCd : Hid (wr.drew.drew.cell? ⟨g, p * 2, none⟩ = some (.int .i64 P) ∧ wr.drew.drew.cell? ⟨g, p * 2 + 1, none⟩ = some (.int .i64 Q)) := by rw [hP, hQ]; exact cell_pair (own_keep HO.out.1 H1.out.2.2.2) hpn
        clear hP hQ
        by_cases h1 : P < x
        · go_upto_region 2 with fail
          refine wp_region_noPanic ?_
          refine wp_region_held_drew (S := fun W => Bx W w.heap.size [.int .i64 x, .int .i64 y] ∧ W.cell? ⟨g, p * 2, none⟩ = some (.int .i64 P) ∧ W.cell? ⟨g, p * 2 + 1, none⟩ = some (.int .i64 Q)) (by kernel_rfl) ⟨H1.out.1, HCk.out⟩ (fun hHeld => ?_)
          refine take_v (v := ?_) 0 ⟨some 7, Op.move (Operand.tmp 5), _, _, _, none⟩ rfl (fun _ _ _ h => h) ?_ hHeld ?_
          rotate_left
          · (intro W _; go_simp <;> (try with_reducible rfl))
          refine take_v (v := ?_) 1 ⟨some 8, Op.move (Operand.tmp 0), _, _, _, none⟩ rfl (fun _ _ _ h => h) ?_ hHeld ?_
          rotate_left
          · (intro W _; go_simp <;> (try with_reducible rfl))
          refine take_v (v := ?_) 2 ⟨some 9, Op.call { callee := Callee.builtin Builtin.len, args := #[Operand.tmp 8], argTypes := #[30] }, _, _, _, none⟩ rfl (fun _ _ _ h => h) ?_ hHeld ?_
          rotate_left
          · (intro W _; go_simp <;> (try with_reducible rfl))
          refine take_v (v := ?_) 3 ⟨some 10, Op.binOp BinOp.lss 3 (Operand.tmp 7) (Operand.tmp 9) 3, _, _, _, none⟩ rfl (fun _ _ _ h => h) ?_ hHeld ?_
          rotate_left
          · (intro W _; go_simp <;> (try with_reducible rfl))
          refine take_v (v := ?_) 4 ⟨some 11, Op.move (Operand.tmp 10), _, _, _, none⟩ rfl (fun _ _ _ h => h) ?_ hHeld ?_
          rotate_left
          · (intro W _; go_simp <;> (try with_reducible rfl))
          refine take_v (v := ?_) 5 ⟨some 12, Op.move (Operand.tmp 0), _, _, _, some (4, true)⟩ rfl (fun _ _ _ h => h) ?_ hHeld ?_
          rotate_left
          · (intro W _; go_simp <;> (try with_reducible rfl))
          refine take_v (v := ?_) 6 ⟨some 13, Op.move (Operand.tmp 5), _, _, _, some (4, true)⟩ rfl (fun _ _ _ h => h) ?_ hHeld ?_
          rotate_left
          · (intro W _; go_simp <;> (try with_reducible rfl))
          refine take_v (v := ?_) 7 ⟨some 14, Op.indexAddr 30 (Operand.tmp 12) (Operand.tmp 13), _, _, _, some (4, true)⟩ rfl (fun _ _ _ h => h) ?_ hHeld ?_
          rotate_left
          · (intro W _; go_simp <;> (try with_reducible rfl))
          refine take_v (v := ?_) 8 ⟨some 15, Op.fieldAddr 35 (Operand.tmp 14) 0, _, _, _, some (4, true)⟩ rfl (fun _ _ _ h => h) ?_ hHeld ?_
          rotate_left
          · (intro W _; go_simp <;> (try with_reducible rfl))
          refine take_v (v := ?_) 9 ⟨some 16, Op.load 3 (Operand.tmp 15), _, _, _, some (4, true)⟩ rfl (fun _ _ _ h => h) ?_ hHeld ?_
          rotate_left
          · (intro W hSW; (have s0 := hSW.1.cell 0 rfl; have s1 := hSW.1.cell 1 rfl; have sz := hSW.1.2; have s2 := hSW.2.1; have s3 := hSW.2.2); go_simp <;> (try with_reducible rfl))
          refine take_v (v := ?_) 10 ⟨some 17, Op.fieldAddr 35 (Operand.tmp 3) 0, _, _, _, some (4, true)⟩ rfl (fun _ _ _ h => h) ?_ hHeld ?_
          rotate_left
          · (intro W _; go_simp <;> (try with_reducible rfl))
          refine take_v (v := ?_) 11 ⟨some 18, Op.load 3 (Operand.tmp 17), _, _, _, some (4, true)⟩ rfl (fun _ _ _ h => h) ?_ hHeld ?_
          rotate_left
          · (intro W hSW; (have s0 := hSW.1.cell 0 rfl; have s1 := hSW.1.cell 1 rfl; have sz := hSW.1.2; have s2 := hSW.2.1; have s3 := hSW.2.2); go_simp <;> (try with_reducible rfl))
          refine take_v (v := ?_) 12 ⟨some 19, Op.binOp BinOp.lss 3 (Operand.tmp 16) (Operand.tmp 18) 3, _, _, _, some (4, true)⟩ rfl (fun _ _ _ h => h) ?_ hHeld ?_
          rotate_left
          · (intro W _; go_simp <;> (try with_reducible rfl))
          refine take_v (v := ?_) 13 ⟨some 20, Op.move (Operand.tmp 19), _, _, _, some (4, true)⟩ rfl (fun _ _ _ h => h) ?_ hHeld ?_
          rotate_left
          · (intro W _; go_simp <;> (try with_reducible rfl))
          refine take_n 14 ⟨some 21, Op.move (Operand.tmp 0), _, _, _, some (13, false)⟩ rfl (fun _ _ _ h => h) hHeld ?_
          refine take_n 15 ⟨some 22, Op.move (Operand.tmp 5), _, _, _, some (13, false)⟩ rfl (fun _ _ _ h => h) hHeld ?_
          refine take_n 16 ⟨some 23, Op.indexAddr 30 (Operand.tmp 21) (Operand.tmp 22), _, _, _, some (13, false)⟩ rfl (fun _ _ _ h => h) hHeld ?_
          refine take_n 17 ⟨some 24, Op.fieldAddr 35 (Operand.tmp 23) 0, _, _, _, some (13, false)⟩ rfl (fun _ _ _ h => h) hHeld ?_
          refine take_n 18 ⟨some 25, Op.load 3 (Operand.tmp 24), _, _, _, some (13, false)⟩ rfl (fun _ _ _ h => h) hHeld ?_
          refine take_n 19 ⟨some 26, Op.fieldAddr 35 (Operand.tmp 3) 0, _, _, _, some (13, false)⟩ rfl (fun _ _ _ h => h) hHeld ?_
          refine take_n 20 ⟨some 27, Op.load 3 (Operand.tmp 26), _, _, _, some (13, false)⟩ rfl (fun _ _ _ h => h) hHeld ?_
          refine take_n 21 ⟨some 28, Op.binOp BinOp.eql 3 (Operand.tmp 25) (Operand.tmp 27) 3, _, _, _, some (13, false)⟩ rfl (fun _ _ _ h => h) hHeld ?_
          refine take_n 22 ⟨some 29, Op.move (Operand.tmp 28), _, _, _, some (13, false)⟩ rfl (fun _ _ _ h => h) hHeld ?_
          refine take_n 23 ⟨some 30, Op.move (Operand.tmp 0), _, _, _, some (22, true)⟩ rfl (fun _ _ _ h => h) hHeld ?_
          refine take_n 24 ⟨some 31, Op.move (Operand.tmp 5), _, _, _, some (22, true)⟩ rfl (fun _ _ _ h => h) hHeld ?_
          refine take_n 25 ⟨some 32, Op.indexAddr 30 (Operand.tmp 30) (Operand.tmp 31), _, _, _, some (22, true)⟩ rfl (fun _ _ _ h => h) hHeld ?_
          refine take_n 26 ⟨some 33, Op.fieldAddr 35 (Operand.tmp 32) 1, _, _, _, some (22, true)⟩ rfl (fun _ _ _ h => h) hHeld ?_
          refine take_n 27 ⟨some 34, Op.load 3 (Operand.tmp 33), _, _, _, some (22, true)⟩ rfl (fun _ _ _ h => h) hHeld ?_
          refine take_n 28 ⟨some 35, Op.fieldAddr 35 (Operand.tmp 3) 1, _, _, _, some (22, true)⟩ rfl (fun _ _ _ h => h) hHeld ?_
          refine take_n 29 ⟨some 36, Op.load 3 (Operand.tmp 35), _, _, _, some (22, true)⟩ rfl (fun _ _ _ h => h) hHeld ?_
          refine take_n 30 ⟨some 37, Op.binOp BinOp.lss 3 (Operand.tmp 34) (Operand.tmp 36) 3, _, _, _, some (22, true)⟩ rfl (fun _ _ _ h => h) hHeld ?_
          refine take_n 31 ⟨some 38, Op.pick (Operand.tmp 29) (Operand.tmp 37) (Operand.const (Value.bool false)), _, _, _, some (13, false)⟩ rfl (fun _ _ _ h => h) hHeld ?_
          refine take_v (v := ?_) 32 ⟨some 39, Op.pick (Operand.tmp 20) (Operand.const (Value.bool true)) (Operand.tmp 38), _, _, _, some (4, true)⟩ rfl (fun _ _ _ h => h) ?_ hHeld ?_
          rotate_left
          · (intro W _; go_simp <;> (try with_reducible rfl))
          refine take_v (v := ?_) 33 ⟨some 40, Op.pick (Operand.tmp 11) (Operand.tmp 39) (Operand.const (Value.bool false)), _, _, _, none⟩ rfl (fun _ _ _ h => h) ?_ hHeld ?_
          rotate_left
          · (intro W _; go_simp <;> (try with_reducible rfl))
          refine wpAnyH_done (by kernel_rfl) ?_ _
          refine NoPanic.normal ?_
          clear hHeld
          go_wp2
          go_roundw
          case rel => exact ⟨p + 1, by go_num, ⟨by omega, upto_succ HA.out.2 (by rw [← HPQ.out.1, ← HPQ.out.2]; exact Or.inl h1)⟩, H1.out.1, H1.out.2.1⟩
          case measure => simp [intOf]; omega
        · by_cases h2 : P = x
          · have h2 := h2.symm
            subst h2
            by_cases h3 : Q < y
            · go_upto_region 2 with fail
              refine wp_region_noPanic ?_
              refine wp_region_held_drew (S := fun W => Bx W w.heap.size [.int .i64 x, .int .i64 y] ∧ W.cell? ⟨g, p * 2, none⟩ = some (.int .i64 x) ∧ W.cell? ⟨g, p * 2 + 1, none⟩ = some (.int .i64 Q)) (by kernel_rfl) ⟨H1.out.1, HCk.out⟩ (fun hHeld => ?_)
              refine take_v (v := ?_) 0 ⟨some 7, Op.move (Operand.tmp 5), _, _, _, none⟩ rfl (fun _ _ _ h => h) ?_ hHeld ?_
              rotate_left
              · (intro W _; go_simp <;> (try with_reducible rfl))
              refine take_v (v := ?_) 1 ⟨some 8, Op.move (Operand.tmp 0), _, _, _, none⟩ rfl (fun _ _ _ h => h) ?_ hHeld ?_
              rotate_left
              · (intro W _; go_simp <;> (try with_reducible rfl))
              refine take_v (v := ?_) 2 ⟨some 9, Op.call { callee := Callee.builtin Builtin.len, args := #[Operand.tmp 8], argTypes := #[30] }, _, _, _, none⟩ rfl (fun _ _ _ h => h) ?_ hHeld ?_
              rotate_left
              · (intro W _; go_simp <;> (try with_reducible rfl))
              refine take_v (v := ?_) 3 ⟨some 10, Op.binOp BinOp.lss 3 (Operand.tmp 7) (Operand.tmp 9) 3, _, _, _, none⟩ rfl (fun _ _ _ h => h) ?_ hHeld ?_
              rotate_left
              · (intro W _; go_simp <;> (try with_reducible rfl))
              refine take_v (v := ?_) 4 ⟨some 11, Op.move (Operand.tmp 10), _, _, _, none⟩ rfl (fun _ _ _ h => h) ?_ hHeld ?_
              rotate_left
              · (intro W _; go_simp <;> (try with_reducible rfl))
              refine take_v (v := ?_) 5 ⟨some 12, Op.move (Operand.tmp 0), _, _, _, some (4, true)⟩ rfl (fun _ _ _ h => h) ?_ hHeld ?_
              rotate_left
              · (intro W _; go_simp <;> (try with_reducible rfl))
              refine take_v (v := ?_) 6 ⟨some 13, Op.move (Operand.tmp 5), _, _, _, some (4, true)⟩ rfl (fun _ _ _ h => h) ?_ hHeld ?_
              rotate_left
              · (intro W _; go_simp <;> (try with_reducible rfl))
              refine take_v (v := ?_) 7 ⟨some 14, Op.indexAddr 30 (Operand.tmp 12) (Operand.tmp 13), _, _, _, some (4, true)⟩ rfl (fun _ _ _ h => h) ?_ hHeld ?_
              rotate_left
              · (intro W _; go_simp <;> (try with_reducible rfl))
              refine take_v (v := ?_) 8 ⟨some 15, Op.fieldAddr 35 (Operand.tmp 14) 0, _, _, _, some (4, true)⟩ rfl (fun _ _ _ h => h) ?_ hHeld ?_
              rotate_left
              · (intro W _; go_simp <;> (try with_reducible rfl))
              refine take_v (v := ?_) 9 ⟨some 16, Op.load 3 (Operand.tmp 15), _, _, _, some (4, true)⟩ rfl (fun _ _ _ h => h) ?_ hHeld ?_
              rotate_left
              · (intro W hSW; (have s0 := hSW.1.cell 0 rfl; have s1 := hSW.1.cell 1 rfl; have sz := hSW.1.2; have s2 := hSW.2.1; have s3 := hSW.2.2); go_simp <;> (try with_reducible rfl))
              refine take_v (v := ?_) 10 ⟨some 17, Op.fieldAddr 35 (Operand.tmp 3) 0, _, _, _, some (4, true)⟩ rfl (fun _ _ _ h => h) ?_ hHeld ?_
              rotate_left
              · (intro W _; go_simp <;> (try with_reducible rfl))
              refine take_v (v := ?_) 11 ⟨some 18, Op.load 3 (Operand.tmp 17), _, _, _, some (4, true)⟩ rfl (fun _ _ _ h => h) ?_ hHeld ?_
              rotate_left
              · (intro W hSW; (have s0 := hSW.1.cell 0 rfl; have s1 := hSW.1.cell 1 rfl; have sz := hSW.1.2; have s2 := hSW.2.1; have s3 := hSW.2.2); go_simp <;> (try with_reducible rfl))
              refine take_v (v := ?_) 12 ⟨some 19, Op.binOp BinOp.lss 3 (Operand.tmp 16) (Operand.tmp 18) 3, _, _, _, some (4, true)⟩ rfl (fun _ _ _ h => h) ?_ hHeld ?_
              rotate_left
              · (intro W _; go_simp <;> (try with_reducible rfl))
              refine take_v (v := ?_) 13 ⟨some 20, Op.move (Operand.tmp 19), _, _, _, some (4, true)⟩ rfl (fun _ _ _ h => h) ?_ hHeld ?_
              rotate_left
              · (intro W _; go_simp <;> (try with_reducible rfl))
              refine take_v (v := ?_) 14 ⟨some 21, Op.move (Operand.tmp 0), _, _, _, some (13, false)⟩ rfl (fun _ _ _ h => h) ?_ hHeld ?_
              rotate_left
              · (intro W _; go_simp <;> (try with_reducible rfl))
              refine take_v (v := ?_) 15 ⟨some 22, Op.move (Operand.tmp 5), _, _, _, some (13, false)⟩ rfl (fun _ _ _ h => h) ?_ hHeld ?_
              rotate_left
              · (intro W _; go_simp <;> (try with_reducible rfl))
              refine take_v (v := ?_) 16 ⟨some 23, Op.indexAddr 30 (Operand.tmp 21) (Operand.tmp 22), _, _, _, some (13, false)⟩ rfl (fun _ _ _ h => h) ?_ hHeld ?_
              rotate_left
              · (intro W _; go_simp <;> (try with_reducible rfl))
              refine take_v (v := ?_) 17 ⟨some 24, Op.fieldAddr 35 (Operand.tmp 23) 0, _, _, _, some (13, false)⟩ rfl (fun _ _ _ h => h) ?_ hHeld ?_
              rotate_left
              · (intro W _; go_simp <;> (try with_reducible rfl))
              refine take_v (v := ?_) 18 ⟨some 25, Op.load 3 (Operand.tmp 24), _, _, _, some (13, false)⟩ rfl (fun _ _ _ h => h) ?_ hHeld ?_
              rotate_left
              · (intro W hSW; (have s0 := hSW.1.cell 0 rfl; have s1 := hSW.1.cell 1 rfl; have sz := hSW.1.2; have s2 := hSW.2.1; have s3 := hSW.2.2); go_simp <;> (try with_reducible rfl))
              refine take_v (v := ?_) 19 ⟨some 26, Op.fieldAddr 35 (Operand.tmp 3) 0, _, _, _, some (13, false)⟩ rfl (fun _ _ _ h => h) ?_ hHeld ?_
              rotate_left
              · (intro W _; go_simp <;> (try with_reducible rfl))
              refine take_v (v := ?_) 20 ⟨some 27, Op.load 3 (Operand.tmp 26), _, _, _, some (13, false)⟩ rfl (fun _ _ _ h => h) ?_ hHeld ?_
              rotate_left
              · (intro W hSW; (have s0 := hSW.1.cell 0 rfl; have s1 := hSW.1.cell 1 rfl; have sz := hSW.1.2; have s2 := hSW.2.1; have s3 := hSW.2.2); go_simp <;> (try with_reducible rfl))
              refine take_v (v := ?_) 21 ⟨some 28, Op.binOp BinOp.eql 3 (Operand.tmp 25) (Operand.tmp 27) 3, _, _, _, some (13, false)⟩ rfl (fun _ _ _ h => h) ?_ hHeld ?_
              rotate_left
              · (intro W _; go_simp <;> (try with_reducible rfl))
              refine take_v (v := ?_) 22 ⟨some 29, Op.move (Operand.tmp 28), _, _, _, some (13, false)⟩ rfl (fun _ _ _ h => h) ?_ hHeld ?_
              rotate_left
              · (intro W _; go_simp <;> (try with_reducible rfl))
              refine take_v (v := ?_) 23 ⟨some 30, Op.move (Operand.tmp 0), _, _, _, some (22, true)⟩ rfl (fun _ _ _ h => h) ?_ hHeld ?_
              rotate_left
              · (intro W _; go_simp <;> (try with_reducible rfl))
              refine take_v (v := ?_) 24 ⟨some 31, Op.move (Operand.tmp 5), _, _, _, some (22, true)⟩ rfl (fun _ _ _ h => h) ?_ hHeld ?_
              rotate_left
              · (intro W _; go_simp <;> (try with_reducible rfl))
              refine take_v (v := ?_) 25 ⟨some 32, Op.indexAddr 30 (Operand.tmp 30) (Operand.tmp 31), _, _, _, some (22, true)⟩ rfl (fun _ _ _ h => h) ?_ hHeld ?_
              rotate_left
              · (intro W _; go_simp <;> (try with_reducible rfl))
              refine take_v (v := ?_) 26 ⟨some 33, Op.fieldAddr 35 (Operand.tmp 32) 1, _, _, _, some (22, true)⟩ rfl (fun _ _ _ h => h) ?_ hHeld ?_
              rotate_left
              · (intro W _; go_simp <;> (try with_reducible rfl))
              refine take_v (v := ?_) 27 ⟨some 34, Op.load 3 (Operand.tmp 33), _, _, _, some (22, true)⟩ rfl (fun _ _ _ h => h) ?_ hHeld ?_
              rotate_left
              · (intro W hSW; (have s0 := hSW.1.cell 0 rfl; have s1 := hSW.1.cell 1 rfl; have sz := hSW.1.2; have s2 := hSW.2.1; have s3 := hSW.2.2); go_simp <;> (try with_reducible rfl))
              refine take_v (v := ?_) 28 ⟨some 35, Op.fieldAddr 35 (Operand.tmp 3) 1, _, _, _, some (22, true)⟩ rfl (fun _ _ _ h => h) ?_ hHeld ?_
              rotate_left
              · (intro W _; go_simp <;> (try with_reducible rfl))
              refine take_v (v := ?_) 29 ⟨some 36, Op.load 3 (Operand.tmp 35), _, _, _, some (22, true)⟩ rfl (fun _ _ _ h => h) ?_ hHeld ?_
              rotate_left
              · (intro W hSW; (have s0 := hSW.1.cell 0 rfl; have s1 := hSW.1.cell 1 rfl; have sz := hSW.1.2; have s2 := hSW.2.1; have s3 := hSW.2.2); go_simp <;> (try with_reducible rfl))
              refine take_v (v := ?_) 30 ⟨some 37, Op.binOp BinOp.lss 3 (Operand.tmp 34) (Operand.tmp 36) 3, _, _, _, some (22, true)⟩ rfl (fun _ _ _ h => h) ?_ hHeld ?_
              rotate_left
              · (intro W _; go_simp <;> (try with_reducible rfl))
              refine take_v (v := ?_) 31 ⟨some 38, Op.pick (Operand.tmp 29) (Operand.tmp 37) (Operand.const (Value.bool false)), _, _, _, some (13, false)⟩ rfl (fun _ _ _ h => h) ?_ hHeld ?_
              rotate_left
              · (intro W _; go_simp <;> (try with_reducible rfl))
              refine take_v (v := ?_) 32 ⟨some 39, Op.pick (Operand.tmp 20) (Operand.const (Value.bool true)) (Operand.tmp 38), _, _, _, some (4, true)⟩ rfl (fun _ _ _ h => h) ?_ hHeld ?_
              rotate_left
              · (intro W _; go_simp <;> (try with_reducible rfl))
              refine take_v (v := ?_) 33 ⟨some 40, Op.pick (Operand.tmp 11) (Operand.tmp 39) (Operand.const (Value.bool false)), _, _, _, none⟩ rfl (fun _ _ _ h => h) ?_ hHeld ?_
              rotate_left
              · (intro W _; go_simp <;> (try with_reducible rfl))
              refine wpAnyH_done (by kernel_rfl) ?_ _
              refine NoPanic.normal ?_
              clear hHeld
              go_wp2
              go_roundw
              case rel => exact ⟨p + 1, by go_num, ⟨by omega, upto_succ HA.out.2 (by rw [← HPQ.out.1, ← HPQ.out.2]; exact Or.inr ⟨rfl, h3⟩)⟩, H1.out.1, H1.out.2.1⟩
              case measure => simp [intOf]; omega
            · go_upto_region 2 with fail
              refine wp_region_noPanic ?_
              refine wp_region_held_drew (S := fun W => Bx W w.heap.size [.int .i64 x, .int .i64 y] ∧ W.cell? ⟨g, p * 2, none⟩ = some (.int .i64 x) ∧ W.cell? ⟨g, p * 2 + 1, none⟩ = some (.int .i64 Q)) (by kernel_rfl) ⟨H1.out.1, HCk.out⟩ (fun hHeld => ?_)
              refine take_v (v := ?_) 0 ⟨some 7, Op.move (Operand.tmp 5), _, _, _, none⟩ rfl (fun _ _ _ h => h) ?_ hHeld ?_
              rotate_left
              · (intro W _; go_simp <;> (try with_reducible rfl))
              refine take_v (v := ?_) 1 ⟨some 8, Op.move (Operand.tmp 0), _, _, _, none⟩ rfl (fun _ _ _ h => h) ?_ hHeld ?_
              rotate_left
              · (intro W _; go_simp <;> (try with_reducible rfl))
              refine take_v (v := ?_) 2 ⟨some 9, Op.call { callee := Callee.builtin Builtin.len, args := #[Operand.tmp 8], argTypes := #[30] }, _, _, _, none⟩ rfl (fun _ _ _ h => h) ?_ hHeld ?_
              rotate_left
              · (intro W _; go_simp <;> (try with_reducible rfl))
              refine take_v (v := ?_) 3 ⟨some 10, Op.binOp BinOp.lss 3 (Operand.tmp 7) (Operand.tmp 9) 3, _, _, _, none⟩ rfl (fun _ _ _ h => h) ?_ hHeld ?_
              rotate_left
              · (intro W _; go_simp <;> (try with_reducible rfl))
              refine take_v (v := ?_) 4 ⟨some 11, Op.move (Operand.tmp 10), _, _, _, none⟩ rfl (fun _ _ _ h => h) ?_ hHeld ?_
              rotate_left
              · (intro W _; go_simp <;> (try with_reducible rfl))
              refine take_v (v := ?_) 5 ⟨some 12, Op.move (Operand.tmp 0), _, _, _, some (4, true)⟩ rfl (fun _ _ _ h => h) ?_ hHeld ?_
              rotate_left
              · (intro W _; go_simp <;> (try with_reducible rfl))
              refine take_v (v := ?_) 6 ⟨some 13, Op.move (Operand.tmp 5), _, _, _, some (4, true)⟩ rfl (fun _ _ _ h => h) ?_ hHeld ?_
              rotate_left
              · (intro W _; go_simp <;> (try with_reducible rfl))
              refine take_v (v := ?_) 7 ⟨some 14, Op.indexAddr 30 (Operand.tmp 12) (Operand.tmp 13), _, _, _, some (4, true)⟩ rfl (fun _ _ _ h => h) ?_ hHeld ?_
              rotate_left
              · (intro W _; go_simp <;> (try with_reducible rfl))
              refine take_v (v := ?_) 8 ⟨some 15, Op.fieldAddr 35 (Operand.tmp 14) 0, _, _, _, some (4, true)⟩ rfl (fun _ _ _ h => h) ?_ hHeld ?_
              rotate_left
              · (intro W _; go_simp <;> (try with_reducible rfl))
              refine take_v (v := ?_) 9 ⟨some 16, Op.load 3 (Operand.tmp 15), _, _, _, some (4, true)⟩ rfl (fun _ _ _ h => h) ?_ hHeld ?_
              rotate_left
              · (intro W hSW; (have s0 := hSW.1.cell 0 rfl; have s1 := hSW.1.cell 1 rfl; have sz := hSW.1.2; have s2 := hSW.2.1; have s3 := hSW.2.2); go_simp <;> (try with_reducible rfl))
              refine take_v (v := ?_) 10 ⟨some 17, Op.fieldAddr 35 (Operand.tmp 3) 0, _, _, _, some (4, true)⟩ rfl (fun _ _ _ h => h) ?_ hHeld ?_
              rotate_left
              · (intro W _; go_simp <;> (try with_reducible rfl))
              refine take_v (v := ?_) 11 ⟨some 18, Op.load 3 (Operand.tmp 17), _, _, _, some (4, true)⟩ rfl (fun _ _ _ h => h) ?_ hHeld ?_
              rotate_left
              · (intro W hSW; (have s0 := hSW.1.cell 0 rfl; have s1 := hSW.1.cell 1 rfl; have sz := hSW.1.2; have s2 := hSW.2.1; have s3 := hSW.2.2); go_simp <;> (try with_reducible rfl))
              refine take_v (v := ?_) 12 ⟨some 19, Op.binOp BinOp.lss 3 (Operand.tmp 16) (Operand.tmp 18) 3, _, _, _, some (4, true)⟩ rfl (fun _ _ _ h => h) ?_ hHeld ?_
              rotate_left
              · (intro W _; go_simp <;> (try with_reducible rfl))
              refine take_v (v := ?_) 13 ⟨some 20, Op.move (Operand.tmp 19), _, _, _, some (4, true)⟩ rfl (fun _ _ _ h => h) ?_ hHeld ?_
              rotate_left
              · (intro W _; go_simp <;> (try with_reducible rfl))
              refine take_v (v := ?_) 14 ⟨some 21, Op.move (Operand.tmp 0), _, _, _, some (13, false)⟩ rfl (fun _ _ _ h => h) ?_ hHeld ?_
              rotate_left
              · (intro W _; go_simp <;> (try with_reducible rfl))
              refine take_v (v := ?_) 15 ⟨some 22, Op.move (Operand.tmp 5), _, _, _, some (13, false)⟩ rfl (fun _ _ _ h => h) ?_ hHeld ?_
              rotate_left
              · (intro W _; go_simp <;> (try with_reducible rfl))
              refine take_v (v := ?_) 16 ⟨some 23, Op.indexAddr 30 (Operand.tmp 21) (Operand.tmp 22), _, _, _, some (13, false)⟩ rfl (fun _ _ _ h => h) ?_ hHeld ?_
              rotate_left
              · (intro W _; go_simp <;> (try with_reducible rfl))
              refine take_v (v := ?_) 17 ⟨some 24, Op.fieldAddr 35 (Operand.tmp 23) 0, _, _, _, some (13, false)⟩ rfl (fun _ _ _ h => h) ?_ hHeld ?_
              rotate_left
              · (intro W _; go_simp <;> (try with_reducible rfl))
              refine take_v (v := ?_) 18 ⟨some 25, Op.load 3 (Operand.tmp 24), _, _, _, some (13, false)⟩ rfl (fun _ _ _ h => h) ?_ hHeld ?_
              rotate_left
              · (intro W hSW; (have s0 := hSW.1.cell 0 rfl; have s1 := hSW.1.cell 1 rfl; have sz := hSW.1.2; have s2 := hSW.2.1; have s3 := hSW.2.2); go_simp <;> (try with_reducible rfl))
              refine take_v (v := ?_) 19 ⟨some 26, Op.fieldAddr 35 (Operand.tmp 3) 0, _, _, _, some (13, false)⟩ rfl (fun _ _ _ h => h) ?_ hHeld ?_
              rotate_left
              · (intro W _; go_simp <;> (try with_reducible rfl))
              refine take_v (v := ?_) 20 ⟨some 27, Op.load 3 (Operand.tmp 26), _, _, _, some (13, false)⟩ rfl (fun _ _ _ h => h) ?_ hHeld ?_
              rotate_left
              · (intro W hSW; (have s0 := hSW.1.cell 0 rfl; have s1 := hSW.1.cell 1 rfl; have sz := hSW.1.2; have s2 := hSW.2.1; have s3 := hSW.2.2); go_simp <;> (try with_reducible rfl))
              refine take_v (v := ?_) 21 ⟨some 28, Op.binOp BinOp.eql 3 (Operand.tmp 25) (Operand.tmp 27) 3, _, _, _, some (13, false)⟩ rfl (fun _ _ _ h => h) ?_ hHeld ?_
              rotate_left
              · (intro W _; go_simp <;> (try with_reducible rfl))
              refine take_v (v := ?_) 22 ⟨some 29, Op.move (Operand.tmp 28), _, _, _, some (13, false)⟩ rfl (fun _ _ _ h => h) ?_ hHeld ?_
              rotate_left
              · (intro W _; go_simp <;> (try with_reducible rfl))
              refine take_v (v := ?_) 23 ⟨some 30, Op.move (Operand.tmp 0), _, _, _, some (22, true)⟩ rfl (fun _ _ _ h => h) ?_ hHeld ?_
              rotate_left
              · (intro W _; go_simp <;> (try with_reducible rfl))
              refine take_v (v := ?_) 24 ⟨some 31, Op.move (Operand.tmp 5), _, _, _, some (22, true)⟩ rfl (fun _ _ _ h => h) ?_ hHeld ?_
              rotate_left
              · (intro W _; go_simp <;> (try with_reducible rfl))
              refine take_v (v := ?_) 25 ⟨some 32, Op.indexAddr 30 (Operand.tmp 30) (Operand.tmp 31), _, _, _, some (22, true)⟩ rfl (fun _ _ _ h => h) ?_ hHeld ?_
              rotate_left
              · (intro W _; go_simp <;> (try with_reducible rfl))
              refine take_v (v := ?_) 26 ⟨some 33, Op.fieldAddr 35 (Operand.tmp 32) 1, _, _, _, some (22, true)⟩ rfl (fun _ _ _ h => h) ?_ hHeld ?_
              rotate_left
              · (intro W _; go_simp <;> (try with_reducible rfl))
              refine take_v (v := ?_) 27 ⟨some 34, Op.load 3 (Operand.tmp 33), _, _, _, some (22, true)⟩ rfl (fun _ _ _ h => h) ?_ hHeld ?_
              rotate_left
              · (intro W hSW; (have s0 := hSW.1.cell 0 rfl; have s1 := hSW.1.cell 1 rfl; have sz := hSW.1.2; have s2 := hSW.2.1; have s3 := hSW.2.2); go_simp <;> (try with_reducible rfl))
              refine take_v (v := ?_) 28 ⟨some 35, Op.fieldAddr 35 (Operand.tmp 3) 1, _, _, _, some (22, true)⟩ rfl (fun _ _ _ h => h) ?_ hHeld ?_
              rotate_left
              · (intro W _; go_simp <;> (try with_reducible rfl))
              refine take_v (v := ?_) 29 ⟨some 36, Op.load 3 (Operand.tmp 35), _, _, _, some (22, true)⟩ rfl (fun _ _ _ h => h) ?_ hHeld ?_
              rotate_left
              · (intro W hSW; (have s0 := hSW.1.cell 0 rfl; have s1 := hSW.1.cell 1 rfl; have sz := hSW.1.2; have s2 := hSW.2.1; have s3 := hSW.2.2); go_simp <;> (try with_reducible rfl))
              refine take_v (v := ?_) 30 ⟨some 37, Op.binOp BinOp.lss 3 (Operand.tmp 34) (Operand.tmp 36) 3, _, _, _, some (22, true)⟩ rfl (fun _ _ _ h => h) ?_ hHeld ?_
              rotate_left
              · (intro W _; go_simp <;> (try with_reducible rfl))
              refine take_v (v := ?_) 31 ⟨some 38, Op.pick (Operand.tmp 29) (Operand.tmp 37) (Operand.const (Value.bool false)), _, _, _, some (13, false)⟩ rfl (fun _ _ _ h => h) ?_ hHeld ?_
              rotate_left
              · (intro W _; go_simp <;> (try with_reducible rfl))
              refine take_v (v := ?_) 32 ⟨some 39, Op.pick (Operand.tmp 20) (Operand.const (Value.bool true)) (Operand.tmp 38), _, _, _, some (4, true)⟩ rfl (fun _ _ _ h => h) ?_ hHeld ?_
              rotate_left
              · (intro W _; go_simp <;> (try with_reducible rfl))
              refine take_v (v := ?_) 33 ⟨some 40, Op.pick (Operand.tmp 11) (Operand.tmp 39) (Operand.const (Value.bool false)), _, _, _, none⟩ rfl (fun _ _ _ h => h) ?_ hHeld ?_
              rotate_left
              · (intro W _; go_simp <;> (try with_reducible rfl))
              refine wpAnyH_done (by kernel_rfl) ?_ _
              refine NoPanic.normal ?_
              clear hHeld
              by_cases h4 : Q = y
              · have h4 := h4.symm
                subst h4
                have he := pairE_yes x y
                have hr := fun W => run_eqPair x y x y W
                go_upto_region 4 with fail
                refine wp_region_noPanic ?_
                refine wp_region_held_drew (S := fun W => Bx W w.heap.size [.int .i64 x, .int .i64 y] ∧ W.cell? ⟨g, p * 2, none⟩ = some (.int .i64 x) ∧ W.cell? ⟨g, p * 2 + 1, none⟩ = some (.int .i64 y)) (by kernel_rfl) ⟨H1.out.2.2.1, HCd.out⟩ (fun hHeld => ?_)
                refine take_v (v := ?_) 0 ⟨some 43, Op.move (Operand.tmp 5), _, _, _, none⟩ rfl (fun _ _ _ h => h) ?_ hHeld ?_
                rotate_left
                · (intro W _; go_simp <;> (try with_reducible rfl))
                refine take_v (v := ?_) 1 ⟨some 44, Op.move (Operand.tmp 0), _, _, _, none⟩ rfl (fun _ _ _ h => h) ?_ hHeld ?_
                rotate_left
                · (intro W _; go_simp <;> (try with_reducible rfl))
                refine take_v (v := ?_) 2 ⟨some 45, Op.call { callee := Callee.builtin Builtin.len, args := #[Operand.tmp 44], argTypes := #[30] }, _, _, _, none⟩ rfl (fun _ _ _ h => h) ?_ hHeld ?_
                rotate_left
                · (intro W _; go_simp <;> (try with_reducible rfl))
                refine take_v (v := ?_) 3 ⟨some 46, Op.binOp BinOp.lss 3 (Operand.tmp 43) (Operand.tmp 45) 3, _, _, _, none⟩ rfl (fun _ _ _ h => h) ?_ hHeld ?_
                rotate_left
                · (intro W _; go_simp <;> (try with_reducible rfl))
                refine take_v (v := ?_) 4 ⟨some 47, Op.move (Operand.tmp 46), _, _, _, none⟩ rfl (fun _ _ _ h => h) ?_ hHeld ?_
                rotate_left
                · (intro W _; go_simp <;> (try with_reducible rfl))
                refine take_v (v := ?_) 5 ⟨some 48, Op.move (Operand.tmp 0), _, _, _, some (4, true)⟩ rfl (fun _ _ _ h => h) ?_ hHeld ?_
                rotate_left
                · (intro W _; go_simp <;> (try with_reducible rfl))
                refine take_v (v := ?_) 6 ⟨some 49, Op.move (Operand.tmp 5), _, _, _, some (4, true)⟩ rfl (fun _ _ _ h => h) ?_ hHeld ?_
                rotate_left
                · (intro W _; go_simp <;> (try with_reducible rfl))
                refine take_v (v := ?_) 7 ⟨some 50, Op.indexAddr 30 (Operand.tmp 48) (Operand.tmp 49), _, _, _, some (4, true)⟩ rfl (fun _ _ _ h => h) ?_ hHeld ?_
                rotate_left
                · (intro W _; go_simp <;> (try with_reducible rfl))
                refine take_v (v := ?_) 8 ⟨some 51, Op.load 35 (Operand.tmp 50), _, _, _, some (4, true)⟩ rfl (fun _ _ _ h => h) ?_ hHeld ?_
                rotate_left
                · (intro W hSW; (have s0 := hSW.1.cell 0 rfl; have s1 := hSW.1.cell 1 rfl; have sz := hSW.1.2; have s2 := hSW.2.1; have s3 := hSW.2.2); go_simp <;> (try with_reducible rfl))
                refine take_v (v := ?_) 9 ⟨some 52, Op.load 35 (Operand.tmp 3), _, _, _, some (4, true)⟩ rfl (fun _ _ _ h => h) ?_ hHeld ?_
                rotate_left
                · (intro W hSW; (have s0 := hSW.1.cell 0 rfl; have s1 := hSW.1.cell 1 rfl; have sz := hSW.1.2; have s2 := hSW.2.1; have s3 := hSW.2.2); go_simp <;> (try with_reducible rfl))
                refine take_v (v := ?_) 10 ⟨some 53, Op.binOp BinOp.eql 35 (Operand.tmp 51) (Operand.tmp 52) 35, _, _, _, some (4, true)⟩ rfl (fun _ _ _ h => h) ?_ hHeld ?_
                rotate_left
                · (intro W _; go_simp <;> (try with_reducible rfl))
                refine take_v (v := ?_) 11 ⟨some 54, Op.pick (Operand.tmp 47) (Operand.tmp 53) (Operand.const (Value.bool false)), _, _, _, none⟩ rfl (fun _ _ _ h => h) ?_ hHeld ?_
                rotate_left
                · (intro W _; go_simp <;> (try with_reducible rfl))
                refine wpAnyH_done (by kernel_rfl) ?_ _
                refine NoPanic.normal ?_
                clear hHeld
                go_wp2
                go_ret
                exact ⟨_, L, rfl, own_keep HO.out.1 H1.out.2.2.2, HSO.out, here_mem hpn (by rw [← HPQ.out.1, ← HPQ.out.2]), by omega, H1.out.2.2.2⟩
              · have HNE : Hid (p < L.length → ¬ PLt (pP L p, pQ L p) (x, y) ∧ (pP L p, pQ L p) ≠ (x, y)) := by show p < L.length → _; intro _; rw [← HPQ.out.1, ← HPQ.out.2]; exact ⟨fun h => by unfold PLt at h; simp at h; omega, fun h => by simp at h; omega⟩
                have he : pairE x Q x y = false := pairE_no (fun h => h4 (by simpa using h))
                have hr := fun W => run_eqPair x Q x y W
                go_upto_region 4 with fail
                refine wp_region_noPanic ?_
                refine wp_region_held_drew (S := fun W => Bx W w.heap.size [.int .i64 x, .int .i64 y] ∧ W.cell? ⟨g, p * 2, none⟩ = some (.int .i64 x) ∧ W.cell? ⟨g, p * 2 + 1, none⟩ = some (.int .i64 Q)) (by kernel_rfl) ⟨H1.out.2.2.1, HCd.out⟩ (fun hHeld => ?_)
                refine take_v (v := ?_) 0 ⟨some 43, Op.move (Operand.tmp 5), _, _, _, none⟩ rfl (fun _ _ _ h => h) ?_ hHeld ?_
                rotate_left
                · (intro W _; go_simp <;> (try with_reducible rfl))
                refine take_v (v := ?_) 1 ⟨some 44, Op.move (Operand.tmp 0), _, _, _, none⟩ rfl (fun _ _ _ h => h) ?_ hHeld ?_
                rotate_left
                · (intro W _; go_simp <;> (try with_reducible rfl))
                refine take_v (v := ?_) 2 ⟨some 45, Op.call { callee := Callee.builtin Builtin.len, args := #[Operand.tmp 44], argTypes := #[30] }, _, _, _, none⟩ rfl (fun _ _ _ h => h) ?_ hHeld ?_
                rotate_left
                · (intro W _; go_simp <;> (try with_reducible rfl))
                refine take_v (v := ?_) 3 ⟨some 46, Op.binOp BinOp.lss 3 (Operand.tmp 43) (Operand.tmp 45) 3, _, _, _, none⟩ rfl (fun _ _ _ h => h) ?_ hHeld ?_
                rotate_left
                · (intro W _; go_simp <;> (try with_reducible rfl))
                refine take_v (v := ?_) 4 ⟨some 47, Op.move (Operand.tmp 46), _, _, _, none⟩ rfl (fun _ _ _ h => h) ?_ hHeld ?_
                rotate_left
                · (intro W _; go_simp <;> (try with_reducible rfl))
                refine take_v (v := ?_) 5 ⟨some 48, Op.move (Operand.tmp 0), _, _, _, some (4, true)⟩ rfl (fun _ _ _ h => h) ?_ hHeld ?_
                rotate_left
                · (intro W _; go_simp <;> (try with_reducible rfl))
                refine take_v (v := ?_) 6 ⟨some 49, Op.move (Operand.tmp 5), _, _, _, some (4, true)⟩ rfl (fun _ _ _ h => h) ?_ hHeld ?_
                rotate_left
                · (intro W _; go_simp <;> (try with_reducible rfl))
                refine take_v (v := ?_) 7 ⟨some 50, Op.indexAddr 30 (Operand.tmp 48) (Operand.tmp 49), _, _, _, some (4, true)⟩ rfl (fun _ _ _ h => h) ?_ hHeld ?_
                rotate_left
                · (intro W _; go_simp <;> (try with_reducible rfl))
                refine take_v (v := ?_) 8 ⟨some 51, Op.load 35 (Operand.tmp 50), _, _, _, some (4, true)⟩ rfl (fun _ _ _ h => h) ?_ hHeld ?_
                rotate_left
                · (intro W hSW; (have s0 := hSW.1.cell 0 rfl; have s1 := hSW.1.cell 1 rfl; have sz := hSW.1.2; have s2 := hSW.2.1; have s3 := hSW.2.2); go_simp <;> (try with_reducible rfl))
                refine take_v (v := ?_) 9 ⟨some 52, Op.load 35 (Operand.tmp 3), _, _, _, some (4, true)⟩ rfl (fun _ _ _ h => h) ?_ hHeld ?_
                rotate_left
                · (intro W hSW; (have s0 := hSW.1.cell 0 rfl; have s1 := hSW.1.cell 1 rfl; have sz := hSW.1.2; have s2 := hSW.2.1; have s3 := hSW.2.2); go_simp <;> (try with_reducible rfl))
                refine take_v (v := ?_) 10 ⟨some 53, Op.binOp BinOp.eql 35 (Operand.tmp 51) (Operand.tmp 52) 35, _, _, _, some (4, true)⟩ rfl (fun _ _ _ h => h) ?_ hHeld ?_
                rotate_left
                · (intro W _; go_simp <;> (try with_reducible rfl))
                refine take_v (v := ?_) 11 ⟨some 54, Op.pick (Operand.tmp 47) (Operand.tmp 53) (Operand.const (Value.bool false)), _, _, _, none⟩ rfl (fun _ _ _ h => h) ?_ hHeld ?_
                rotate_left
                · (intro W _; go_simp <;> (try with_reducible rfl))
                refine wpAnyH_done (by kernel_rfl) ?_ _
                refine NoPanic.normal ?_
                clear hHeld
                clear he hr
                have hck : ¬ cap = p := by omega
                obtain ⟨wd, hwd⟩ : ∃ y, y = wr.drew.drew := ⟨_, rfl⟩
                have H2 : Hid (Bx wd w.heap.size [.int .i64 x, .int .i64 y] ∧ Below w.heap.size w wd) := hwd ▸ ⟨H1.out.2.2.1, H1.out.2.2.2⟩
                rw [← hwd]
                clear hwd H1
                have hzd : w.heap.size < wd.heap.size := H2.out.1.2
                have HOd : Hid (wd.ownsRow base 35 2 (.slice (some ⟨g, 0, none⟩) L.length cap) L.length (cellsP L)) := own_keep HO.out.1 H2.out.2
                have HNT : Hid (∀ j u, (cellsP (L.take p))[j]? = some u → wd.cell? ((⟨g, 0, none⟩ : Addr).add j) = some u) := newsP_take HOd.out hp
                have hlt1 : (cellsP (L.take p)).length = p * 2 := by rw [cellsP_len, List.length_take, Nat.min_eq_left hp]
                have hld : (cellsP (L.drop p)).length = (L.length - p) * 2 := by rw [cellsP_len, List.length_drop]
                have hpc : (p : Int) ≤ (cap : Int) := by omega
                have hpl : (p : Int) ≤ (L.length : Int) := by omega
                have x0 := H2.out.1.cell 0 rfl
                have x1 := H2.out.1.cell 1 rfl
                have xz := H2.out.1.2
                have HLT : Hid ((cellsP (L.take p)).length = p * 2 ∧ (cellsP (L.drop p)).length = (L.length - p) * 2) := ⟨hlt1, hld⟩
                clear hlt1 hld
                go_wp2_with (first
                  | (at_builtin; refine wpList_append_own_at _ rfl (.tmp 56) (.tmp 59) 30 rfl base 35 i0 (.agg #[.int .i64 0, .int .i64 0]) 2 16 Try.underlying30 hi0 y0 y1 y2 rfl (by decide) (.slice none 0 0) 0 [] rfl (World.ownsRow_nil _ _ _ _) ⟨g, 0, none⟩ p cap (cellsP (L.take p)) rfl HLT.out.1 HNT.out (cellsP_one' _) (by unfold maxLen; omega) (by omega) (by omega) ?_; intro v1 w1 hown1 hgrow1 hnil1 hwh1; have G1 := (H2.out.1.grown hgrow1 hgrow1.size (fun e => by cases e)); have x0' := G1.cell 0 rfl; have x1' := G1.cell 1 rfl; have xz' := G1.2)
                  | (at_builtin; refine wpList_append_own_at _ rfl (.tmp 61) (.tmp 63) 30 rfl base 35 i0 (.agg #[.int .i64 0, .int .i64 0]) 2 16 Try.underlying30 hi0 y0 y1 y2 rfl (by decide) v1 (0 + p) ([] ++ cellsP (L.take p)) rfl (World.ownsRow.alloc hown1 _) ⟨w1.heap.size, 0, none⟩ 1 1 [.int .i64 x, .int .i64 y] rfl rfl (cells_new w1 [.int .i64 x, .int .i64 y] 35) (by intro u hu; simp at hu; rcases hu with rfl | rfl <;> rfl) (by unfold maxLen; omega) (by omega) (by have := hgrow1.size; simp; omega) ?_; intro v2 w2 hown2 hgrow2 hnil2 hwh2; (have hz1 : wd.heap.size ≤ w1.heap.size := hgrow1.size); (have hz2 : w1.heap.size + 1 ≤ w2.heap.size := by have := hgrow2.size; simpa using this); (have hv1 : ∀ b, v1.ownBlock = some b → b = wd.heap.size := fun b hb => by (rcases hwh1 with h | h); (rw [h] at hb; cases hb); (rw [h] at hb; exact (Option.some.inj hb).symm)); (have HF2 : Hid (w2.ownsRow base 35 2 v2 (0 + p + 1) ([] ++ cellsP (L.take p) ++ [.int .i64 x, .int .i64 y]) ∧ w2.ownsRow base 35 2 (.slice (some ⟨g, 0, none⟩) L.length cap) L.length (cellsP L) ∧ Below w.heap.size w w2 ∧ ∀ b, v2.ownBlock = some b → wd.heap.size ≤ b) := by (have hgw := HO.out.2.2); (refine ⟨hown2, own_gr' (own_keep (own_gr' HOd.out hgrow1 (fun b hb e => by cases e)) (Go.Joins.below_alloc1 _ _)) hgrow2 (fun b hb e => by have h1 := hv1 b e; have h2 : b = g := (Option.some.inj hb).symm; omega), ?_, fun b hb => ?_⟩); (have e1 : Below w.heap.size w w1 := H2.out.2.grown hgrow1 (by omega) (fun j hj => by cases hj); exact ((e1.alloc (by omega) _).grown hgrow2 (by simp; omega) (fun j hj => by have := hv1 j hj; omega))); (rcases hwh2 with h | h); (rw [h] at hb; have := hv1 b hb; omega); (rw [h] at hb; have := Option.some.inj hb; simp at this; omega)); (have HND : Hid (∀ j u, (cellsP (L.drop p))[j]? = some u → w2.cell? ((⟨g, p * 2, none⟩ : Addr).add j) = some u) := newsP_drop HF2.out.2.1 hp); clear hown1 hgrow1 hnil1 hwh1 hown2 hgrow2 hnil2 hwh2 G1 x0 x1 xz x0' x1' xz' HNT HOd hv1)
                  | (at_builtin; refine wpList_append_own_at _ rfl (.tmp 65) (.tmp 68) 30 rfl base 35 i0 (.agg #[.int .i64 0, .int .i64 0]) 2 16 Try.underlying30 hi0 y0 y1 y2 rfl (by decide) v2 (0 + p + 1) ([] ++ cellsP (L.take p) ++ [.int .i64 x, .int .i64 y]) rfl HF2.out.1 ⟨g, p * 2, none⟩ (L.length - p) _ (cellsP (L.drop p)) rfl HLT.out.2 HND.out (cellsP_one' _) (by unfold maxLen; omega) (by omega) (by omega) ?_; intro v3 w3 hown3 hgrow3 hnil3 hwh3)
                  | go_in)
                go_ret
                refine ⟨v3, L.take p ++ [(x, y)] ++ L.drop p, rfl, ?_, ins_sort HSO.out HA.out HNE.out, fun z => ins_mem, Nat.le_of_eq (ins_len hp), HF2.out.2.2.1.grown hgrow3 (by omega) (fun j hj => by have := HF2.out.2.2.2 j hj; omega)⟩
                rw [cellsP_append, cellsP_append, ins_len hp, show L.length + 1 = 0 + p + 1 + (L.length - p) by omega]
                exact hown3
          · have h2b : (P == x) = false := by simpa using h2
            go_upto_region 2 with fail
            refine wp_region_noPanic ?_
            refine wp_region_held_drew (S := fun W => Bx W w.heap.size [.int .i64 x, .int .i64 y] ∧ W.cell? ⟨g, p * 2, none⟩ = some (.int .i64 P) ∧ W.cell? ⟨g, p * 2 + 1, none⟩ = some (.int .i64 Q)) (by kernel_rfl) ⟨H1.out.1, HCk.out⟩ (fun hHeld => ?_)
            refine take_v (v := ?_) 0 ⟨some 7, Op.move (Operand.tmp 5), _, _, _, none⟩ rfl (fun _ _ _ h => h) ?_ hHeld ?_
            rotate_left
            · (intro W _; go_simp <;> (try with_reducible rfl))
            refine take_v (v := ?_) 1 ⟨some 8, Op.move (Operand.tmp 0), _, _, _, none⟩ rfl (fun _ _ _ h => h) ?_ hHeld ?_
            rotate_left
            · (intro W _; go_simp <;> (try with_reducible rfl))
            refine take_v (v := ?_) 2 ⟨some 9, Op.call { callee := Callee.builtin Builtin.len, args := #[Operand.tmp 8], argTypes := #[30] }, _, _, _, none⟩ rfl (fun _ _ _ h => h) ?_ hHeld ?_
            rotate_left
            · (intro W _; go_simp <;> (try with_reducible rfl))
            refine take_v (v := ?_) 3 ⟨some 10, Op.binOp BinOp.lss 3 (Operand.tmp 7) (Operand.tmp 9) 3, _, _, _, none⟩ rfl (fun _ _ _ h => h) ?_ hHeld ?_
            rotate_left
            · (intro W _; go_simp <;> (try with_reducible rfl))
            refine take_v (v := ?_) 4 ⟨some 11, Op.move (Operand.tmp 10), _, _, _, none⟩ rfl (fun _ _ _ h => h) ?_ hHeld ?_
            rotate_left
            · (intro W _; go_simp <;> (try with_reducible rfl))
            refine take_v (v := ?_) 5 ⟨some 12, Op.move (Operand.tmp 0), _, _, _, some (4, true)⟩ rfl (fun _ _ _ h => h) ?_ hHeld ?_
            rotate_left
            · (intro W _; go_simp <;> (try with_reducible rfl))
            refine take_v (v := ?_) 6 ⟨some 13, Op.move (Operand.tmp 5), _, _, _, some (4, true)⟩ rfl (fun _ _ _ h => h) ?_ hHeld ?_
            rotate_left
            · (intro W _; go_simp <;> (try with_reducible rfl))
            refine take_v (v := ?_) 7 ⟨some 14, Op.indexAddr 30 (Operand.tmp 12) (Operand.tmp 13), _, _, _, some (4, true)⟩ rfl (fun _ _ _ h => h) ?_ hHeld ?_
            rotate_left
            · (intro W _; go_simp <;> (try with_reducible rfl))
            refine take_v (v := ?_) 8 ⟨some 15, Op.fieldAddr 35 (Operand.tmp 14) 0, _, _, _, some (4, true)⟩ rfl (fun _ _ _ h => h) ?_ hHeld ?_
            rotate_left
            · (intro W _; go_simp <;> (try with_reducible rfl))
            refine take_v (v := ?_) 9 ⟨some 16, Op.load 3 (Operand.tmp 15), _, _, _, some (4, true)⟩ rfl (fun _ _ _ h => h) ?_ hHeld ?_
            rotate_left
            · (intro W hSW; (have s0 := hSW.1.cell 0 rfl; have s1 := hSW.1.cell 1 rfl; have sz := hSW.1.2; have s2 := hSW.2.1; have s3 := hSW.2.2); go_simp <;> (try with_reducible rfl))
            refine take_v (v := ?_) 10 ⟨some 17, Op.fieldAddr 35 (Operand.tmp 3) 0, _, _, _, some (4, true)⟩ rfl (fun _ _ _ h => h) ?_ hHeld ?_
            rotate_left
            · (intro W _; go_simp <;> (try with_reducible rfl))
            refine take_v (v := ?_) 11 ⟨some 18, Op.load 3 (Operand.tmp 17), _, _, _, some (4, true)⟩ rfl (fun _ _ _ h => h) ?_ hHeld ?_
            rotate_left
            · (intro W hSW; (have s0 := hSW.1.cell 0 rfl; have s1 := hSW.1.cell 1 rfl; have sz := hSW.1.2; have s2 := hSW.2.1; have s3 := hSW.2.2); go_simp <;> (try with_reducible rfl))
            refine take_v (v := ?_) 12 ⟨some 19, Op.binOp BinOp.lss 3 (Operand.tmp 16) (Operand.tmp 18) 3, _, _, _, some (4, true)⟩ rfl (fun _ _ _ h => h) ?_ hHeld ?_
            rotate_left
            · (intro W _; go_simp <;> (try with_reducible rfl))
            refine take_v (v := ?_) 13 ⟨some 20, Op.move (Operand.tmp 19), _, _, _, some (4, true)⟩ rfl (fun _ _ _ h => h) ?_ hHeld ?_
            rotate_left
            · (intro W _; go_simp <;> (try with_reducible rfl))
            refine take_v (v := ?_) 14 ⟨some 21, Op.move (Operand.tmp 0), _, _, _, some (13, false)⟩ rfl (fun _ _ _ h => h) ?_ hHeld ?_
            rotate_left
            · (intro W _; go_simp <;> (try with_reducible rfl))
            refine take_v (v := ?_) 15 ⟨some 22, Op.move (Operand.tmp 5), _, _, _, some (13, false)⟩ rfl (fun _ _ _ h => h) ?_ hHeld ?_
            rotate_left
            · (intro W _; go_simp <;> (try with_reducible rfl))
            refine take_v (v := ?_) 16 ⟨some 23, Op.indexAddr 30 (Operand.tmp 21) (Operand.tmp 22), _, _, _, some (13, false)⟩ rfl (fun _ _ _ h => h) ?_ hHeld ?_
            rotate_left
            · (intro W _; go_simp <;> (try with_reducible rfl))
            refine take_v (v := ?_) 17 ⟨some 24, Op.fieldAddr 35 (Operand.tmp 23) 0, _, _, _, some (13, false)⟩ rfl (fun _ _ _ h => h) ?_ hHeld ?_
            rotate_left
            · (intro W _; go_simp <;> (try with_reducible rfl))
            refine take_v (v := ?_) 18 ⟨some 25, Op.load 3 (Operand.tmp 24), _, _, _, some (13, false)⟩ rfl (fun _ _ _ h => h) ?_ hHeld ?_
            rotate_left
            · (intro W hSW; (have s0 := hSW.1.cell 0 rfl; have s1 := hSW.1.cell 1 rfl; have sz := hSW.1.2; have s2 := hSW.2.1; have s3 := hSW.2.2); go_simp <;> (try with_reducible rfl))
            refine take_v (v := ?_) 19 ⟨some 26, Op.fieldAddr 35 (Operand.tmp 3) 0, _, _, _, some (13, false)⟩ rfl (fun _ _ _ h => h) ?_ hHeld ?_
            rotate_left
            · (intro W _; go_simp <;> (try with_reducible rfl))
            refine take_v (v := ?_) 20 ⟨some 27, Op.load 3 (Operand.tmp 26), _, _, _, some (13, false)⟩ rfl (fun _ _ _ h => h) ?_ hHeld ?_
            rotate_left
            · (intro W hSW; (have s0 := hSW.1.cell 0 rfl; have s1 := hSW.1.cell 1 rfl; have sz := hSW.1.2; have s2 := hSW.2.1; have s3 := hSW.2.2); go_simp <;> (try with_reducible rfl))
            refine take_v (v := ?_) 21 ⟨some 28, Op.binOp BinOp.eql 3 (Operand.tmp 25) (Operand.tmp 27) 3, _, _, _, some (13, false)⟩ rfl (fun _ _ _ h => h) ?_ hHeld ?_
            rotate_left
            · (intro W _; go_simp <;> (try with_reducible rfl))
            refine take_v (v := ?_) 22 ⟨some 29, Op.move (Operand.tmp 28), _, _, _, some (13, false)⟩ rfl (fun _ _ _ h => h) ?_ hHeld ?_
            rotate_left
            · (intro W _; go_simp <;> (try with_reducible rfl))
            refine take_n 23 ⟨some 30, Op.move (Operand.tmp 0), _, _, _, some (22, true)⟩ rfl (fun _ _ _ h => h) hHeld ?_
            refine take_n 24 ⟨some 31, Op.move (Operand.tmp 5), _, _, _, some (22, true)⟩ rfl (fun _ _ _ h => h) hHeld ?_
            refine take_n 25 ⟨some 32, Op.indexAddr 30 (Operand.tmp 30) (Operand.tmp 31), _, _, _, some (22, true)⟩ rfl (fun _ _ _ h => h) hHeld ?_
            refine take_n 26 ⟨some 33, Op.fieldAddr 35 (Operand.tmp 32) 1, _, _, _, some (22, true)⟩ rfl (fun _ _ _ h => h) hHeld ?_
            refine take_n 27 ⟨some 34, Op.load 3 (Operand.tmp 33), _, _, _, some (22, true)⟩ rfl (fun _ _ _ h => h) hHeld ?_
            refine take_n 28 ⟨some 35, Op.fieldAddr 35 (Operand.tmp 3) 1, _, _, _, some (22, true)⟩ rfl (fun _ _ _ h => h) hHeld ?_
            refine take_n 29 ⟨some 36, Op.load 3 (Operand.tmp 35), _, _, _, some (22, true)⟩ rfl (fun _ _ _ h => h) hHeld ?_
            refine take_n 30 ⟨some 37, Op.binOp BinOp.lss 3 (Operand.tmp 34) (Operand.tmp 36) 3, _, _, _, some (22, true)⟩ rfl (fun _ _ _ h => h) hHeld ?_
            refine take_v (v := ?_) 31 ⟨some 38, Op.pick (Operand.tmp 29) (Operand.tmp 37) (Operand.const (Value.bool false)), _, _, _, some (13, false)⟩ rfl (fun _ _ _ h => h) ?_ hHeld ?_
            rotate_left
            · (intro W _; go_simp <;> (try with_reducible rfl))
            refine take_v (v := ?_) 32 ⟨some 39, Op.pick (Operand.tmp 20) (Operand.const (Value.bool true)) (Operand.tmp 38), _, _, _, some (4, true)⟩ rfl (fun _ _ _ h => h) ?_ hHeld ?_
            rotate_left
            · (intro W _; go_simp <;> (try with_reducible rfl))
            refine take_v (v := ?_) 33 ⟨some 40, Op.pick (Operand.tmp 11) (Operand.tmp 39) (Operand.const (Value.bool false)), _, _, _, none⟩ rfl (fun _ _ _ h => h) ?_ hHeld ?_
            rotate_left
            · (intro W _; go_simp <;> (try with_reducible rfl))
            refine wpAnyH_done (by kernel_rfl) ?_ _
            refine NoPanic.normal ?_
            clear hHeld
            have HNE : Hid (p < L.length → ¬ PLt (pP L p, pQ L p) (x, y) ∧ (pP L p, pQ L p) ≠ (x, y)) := by show p < L.length → _; intro _; rw [← HPQ.out.1, ← HPQ.out.2]; exact ⟨fun h => by unfold PLt at h; simp at h; omega, fun h => by simp at h; omega⟩
            have he : pairE P Q x y = false := pairE_no (fun h => h2 (by simp at h; exact h.1))
            have hr := fun W => run_eqPair P Q x y W
            go_upto_region 4 with fail
            refine wp_region_noPanic ?_
            refine wp_region_held_drew (S := fun W => Bx W w.heap.size [.int .i64 x, .int .i64 y] ∧ W.cell? ⟨g, p * 2, none⟩ = some (.int .i64 P) ∧ W.cell? ⟨g, p * 2 + 1, none⟩ = some (.int .i64 Q)) (by kernel_rfl) ⟨H1.out.2.2.1, HCd.out⟩ (fun hHeld => ?_)
            refine take_v (v := ?_) 0 ⟨some 43, Op.move (Operand.tmp 5), _, _, _, none⟩ rfl (fun _ _ _ h => h) ?_ hHeld ?_
            rotate_left
            · (intro W _; go_simp <;> (try with_reducible rfl))
            refine take_v (v := ?_) 1 ⟨some 44, Op.move (Operand.tmp 0), _, _, _, none⟩ rfl (fun _ _ _ h => h) ?_ hHeld ?_
            rotate_left
            · (intro W _; go_simp <;> (try with_reducible rfl))
            refine take_v (v := ?_) 2 ⟨some 45, Op.call { callee := Callee.builtin Builtin.len, args := #[Operand.tmp 44], argTypes := #[30] }, _, _, _, none⟩ rfl (fun _ _ _ h => h) ?_ hHeld ?_
            rotate_left
            · (intro W _; go_simp <;> (try with_reducible rfl))
            refine take_v (v := ?_) 3 ⟨some 46, Op.binOp BinOp.lss 3 (Operand.tmp 43) (Operand.tmp 45) 3, _, _, _, none⟩ rfl (fun _ _ _ h => h) ?_ hHeld ?_
            rotate_left
            · (intro W _; go_simp <;> (try with_reducible rfl))
            refine take_v (v := ?_) 4 ⟨some 47, Op.move (Operand.tmp 46), _, _, _, none⟩ rfl (fun _ _ _ h => h) ?_ hHeld ?_
            rotate_left
            · (intro W _; go_simp <;> (try with_reducible rfl))
            refine take_v (v := ?_) 5 ⟨some 48, Op.move (Operand.tmp 0), _, _, _, some (4, true)⟩ rfl (fun _ _ _ h => h) ?_ hHeld ?_
            rotate_left
            · (intro W _; go_simp <;> (try with_reducible rfl))
            refine take_v (v := ?_) 6 ⟨some 49, Op.move (Operand.tmp 5), _, _, _, some (4, true)⟩ rfl (fun _ _ _ h => h) ?_ hHeld ?_
            rotate_left
            · (intro W _; go_simp <;> (try with_reducible rfl))
            refine take_v (v := ?_) 7 ⟨some 50, Op.indexAddr 30 (Operand.tmp 48) (Operand.tmp 49), _, _, _, some (4, true)⟩ rfl (fun _ _ _ h => h) ?_ hHeld ?_
            rotate_left
            · (intro W _; go_simp <;> (try with_reducible rfl))
            refine take_v (v := ?_) 8 ⟨some 51, Op.load 35 (Operand.tmp 50), _, _, _, some (4, true)⟩ rfl (fun _ _ _ h => h) ?_ hHeld ?_
            rotate_left
            · (intro W hSW; (have s0 := hSW.1.cell 0 rfl; have s1 := hSW.1.cell 1 rfl; have sz := hSW.1.2; have s2 := hSW.2.1; have s3 := hSW.2.2); go_simp <;> (try with_reducible rfl))
            refine take_v (v := ?_) 9 ⟨some 52, Op.load 35 (Operand.tmp 3), _, _, _, some (4, true)⟩ rfl (fun _ _ _ h => h) ?_ hHeld ?_
            rotate_left
            · (intro W hSW; (have s0 := hSW.1.cell 0 rfl; have s1 := hSW.1.cell 1 rfl; have sz := hSW.1.2; have s2 := hSW.2.1; have s3 := hSW.2.2); go_simp <;> (try with_reducible rfl))
            refine take_v (v := ?_) 10 ⟨some 53, Op.binOp BinOp.eql 35 (Operand.tmp 51) (Operand.tmp 52) 35, _, _, _, some (4, true)⟩ rfl (fun _ _ _ h => h) ?_ hHeld ?_
            rotate_left
            · (intro W _; go_simp <;> (try with_reducible rfl))
            refine take_v (v := ?_) 11 ⟨some 54, Op.pick (Operand.tmp 47) (Operand.tmp 53) (Operand.const (Value.bool false)), _, _, _, none⟩ rfl (fun _ _ _ h => h) ?_ hHeld ?_
            rotate_left
            · (intro W _; go_simp <;> (try with_reducible rfl))
            refine wpAnyH_done (by kernel_rfl) ?_ _
            refine NoPanic.normal ?_
            clear hHeld
            clear he hr
            have hck : ¬ cap = p := by omega
            obtain ⟨wd, hwd⟩ : ∃ y, y = wr.drew.drew := ⟨_, rfl⟩
            have H2 : Hid (Bx wd w.heap.size [.int .i64 x, .int .i64 y] ∧ Below w.heap.size w wd) := hwd ▸ ⟨H1.out.2.2.1, H1.out.2.2.2⟩
            rw [← hwd]
            clear hwd H1
            have hzd : w.heap.size < wd.heap.size := H2.out.1.2
            have HOd : Hid (wd.ownsRow base 35 2 (.slice (some ⟨g, 0, none⟩) L.length cap) L.length (cellsP L)) := own_keep HO.out.1 H2.out.2
            have HNT : Hid (∀ j u, (cellsP (L.take p))[j]? = some u → wd.cell? ((⟨g, 0, none⟩ : Addr).add j) = some u) := newsP_take HOd.out hp
            have hlt1 : (cellsP (L.take p)).length = p * 2 := by rw [cellsP_len, List.length_take, Nat.min_eq_left hp]
            have hld : (cellsP (L.drop p)).length = (L.length - p) * 2 := by rw [cellsP_len, List.length_drop]
            have hpc : (p : Int) ≤ (cap : Int) := by omega
            have hpl : (p : Int) ≤ (L.length : Int) := by omega
            have x0 := H2.out.1.cell 0 rfl
            have x1 := H2.out.1.cell 1 rfl
            have xz := H2.out.1.2
            have HLT : Hid ((cellsP (L.take p)).length = p * 2 ∧ (cellsP (L.drop p)).length = (L.length - p) * 2) := ⟨hlt1, hld⟩
            clear hlt1 hld
            go_wp2_with (first
              | (at_builtin; refine wpList_append_own_at _ rfl (.tmp 56) (.tmp 59) 30 rfl base 35 i0 (.agg #[.int .i64 0, .int .i64 0]) 2 16 Try.underlying30 hi0 y0 y1 y2 rfl (by decide) (.slice none 0 0) 0 [] rfl (World.ownsRow_nil _ _ _ _) ⟨g, 0, none⟩ p cap (cellsP (L.take p)) rfl HLT.out.1 HNT.out (cellsP_one' _) (by unfold maxLen; omega) (by omega) (by omega) ?_; intro v1 w1 hown1 hgrow1 hnil1 hwh1; have G1 := (H2.out.1.grown hgrow1 hgrow1.size (fun e => by cases e)); have x0' := G1.cell 0 rfl; have x1' := G1.cell 1 rfl; have xz' := G1.2)
              | (at_builtin; refine wpList_append_own_at _ rfl (.tmp 61) (.tmp 63) 30 rfl base 35 i0 (.agg #[.int .i64 0, .int .i64 0]) 2 16 Try.underlying30 hi0 y0 y1 y2 rfl (by decide) v1 (0 + p) ([] ++ cellsP (L.take p)) rfl (World.ownsRow.alloc hown1 _) ⟨w1.heap.size, 0, none⟩ 1 1 [.int .i64 x, .int .i64 y] rfl rfl (cells_new w1 [.int .i64 x, .int .i64 y] 35) (by intro u hu; simp at hu; rcases hu with rfl | rfl <;> rfl) (by unfold maxLen; omega) (by omega) (by have := hgrow1.size; simp; omega) ?_; intro v2 w2 hown2 hgrow2 hnil2 hwh2; (have hz1 : wd.heap.size ≤ w1.heap.size := hgrow1.size); (have hz2 : w1.heap.size + 1 ≤ w2.heap.size := by have := hgrow2.size; simpa using this); (have hv1 : ∀ b, v1.ownBlock = some b → b = wd.heap.size := fun b hb => by (rcases hwh1 with h | h); (rw [h] at hb; cases hb); (rw [h] at hb; exact (Option.some.inj hb).symm)); (have HF2 : Hid (w2.ownsRow base 35 2 v2 (0 + p + 1) ([] ++ cellsP (L.take p) ++ [.int .i64 x, .int .i64 y]) ∧ w2.ownsRow base 35 2 (.slice (some ⟨g, 0, none⟩) L.length cap) L.length (cellsP L) ∧ Below w.heap.size w w2 ∧ ∀ b, v2.ownBlock = some b → wd.heap.size ≤ b) := by (have hgw := HO.out.2.2); (refine ⟨hown2, own_gr' (own_keep (own_gr' HOd.out hgrow1 (fun b hb e => by cases e)) (Go.Joins.below_alloc1 _ _)) hgrow2 (fun b hb e => by have h1 := hv1 b e; have h2 : b = g := (Option.some.inj hb).symm; omega), ?_, fun b hb => ?_⟩); (have e1 : Below w.heap.size w w1 := H2.out.2.grown hgrow1 (by omega) (fun j hj => by cases hj); exact ((e1.alloc (by omega) _).grown hgrow2 (by simp; omega) (fun j hj => by have := hv1 j hj; omega))); (rcases hwh2 with h | h); (rw [h] at hb; have := hv1 b hb; omega); (rw [h] at hb; have := Option.some.inj hb; simp at this; omega)); (have HND : Hid (∀ j u, (cellsP (L.drop p))[j]? = some u → w2.cell? ((⟨g, p * 2, none⟩ : Addr).add j) = some u) := newsP_drop HF2.out.2.1 hp); clear hown1 hgrow1 hnil1 hwh1 hown2 hgrow2 hnil2 hwh2 G1 x0 x1 xz x0' x1' xz' HNT HOd hv1)
              | (at_builtin; refine wpList_append_own_at _ rfl (.tmp 65) (.tmp 68) 30 rfl base 35 i0 (.agg #[.int .i64 0, .int .i64 0]) 2 16 Try.underlying30 hi0 y0 y1 y2 rfl (by decide) v2 (0 + p + 1) ([] ++ cellsP (L.take p) ++ [.int .i64 x, .int .i64 y]) rfl HF2.out.1 ⟨g, p * 2, none⟩ (L.length - p) _ (cellsP (L.drop p)) rfl HLT.out.2 HND.out (cellsP_one' _) (by unfold maxLen; omega) (by omega) (by omega) ?_; intro v3 w3 hown3 hgrow3 hnil3 hwh3)
              | go_in)
            go_ret
            refine ⟨v3, L.take p ++ [(x, y)] ++ L.drop p, rfl, ?_, ins_sort HSO.out HA.out HNE.out, fun z => ins_mem, Nat.le_of_eq (ins_len hp), HF2.out.2.2.1.grown hgrow3 (by omega) (fun j hj => by have := HF2.out.2.2.2 j hj; omega)⟩
            rw [cellsP_append, cellsP_append, ins_len hp, show L.length + 1 = 0 + p + 1 + (L.length - p) by omega]
            exact hown3
      · have hpn' : ¬ (p : Int) < (L.length : Int) := by omega
        go_upto_region 2 with fail
        refine wp_region_noPanic ?_
        refine wp_region_held_drew (S := fun W => Bx W w.heap.size [.int .i64 x, .int .i64 y]) (by kernel_rfl) H1.out.1 (fun hHeld => ?_)
        refine take_v (v := ?_) 0 ⟨some 7, Op.move (Operand.tmp 5), _, _, _, none⟩ rfl (fun _ _ _ h => h) ?_ hHeld ?_
        rotate_left
        · (intro W _; go_simp <;> (try with_reducible rfl))
        refine take_v (v := ?_) 1 ⟨some 8, Op.move (Operand.tmp 0), _, _, _, none⟩ rfl (fun _ _ _ h => h) ?_ hHeld ?_
        rotate_left
        · (intro W _; go_simp <;> (try with_reducible rfl))
        refine take_v (v := ?_) 2 ⟨some 9, Op.call { callee := Callee.builtin Builtin.len, args := #[Operand.tmp 8], argTypes := #[30] }, _, _, _, none⟩ rfl (fun _ _ _ h => h) ?_ hHeld ?_
        rotate_left
        · (intro W _; go_simp <;> (try with_reducible rfl))
        refine take_v (v := ?_) 3 ⟨some 10, Op.binOp BinOp.lss 3 (Operand.tmp 7) (Operand.tmp 9) 3, _, _, _, none⟩ rfl (fun _ _ _ h => h) ?_ hHeld ?_
        rotate_left
        · (intro W _; go_simp <;> (try with_reducible rfl))
        refine take_v (v := ?_) 4 ⟨some 11, Op.move (Operand.tmp 10), _, _, _, none⟩ rfl (fun _ _ _ h => h) ?_ hHeld ?_
        rotate_left
        · (intro W _; go_simp <;> (try with_reducible rfl))
        refine take_n 5 ⟨some 12, Op.move (Operand.tmp 0), _, _, _, some (4, true)⟩ rfl (fun _ _ _ h => h) hHeld ?_
        refine take_n 6 ⟨some 13, Op.move (Operand.tmp 5), _, _, _, some (4, true)⟩ rfl (fun _ _ _ h => h) hHeld ?_
        refine take_n 7 ⟨some 14, Op.indexAddr 30 (Operand.tmp 12) (Operand.tmp 13), _, _, _, some (4, true)⟩ rfl (fun _ _ _ h => h) hHeld ?_
        refine take_n 8 ⟨some 15, Op.fieldAddr 35 (Operand.tmp 14) 0, _, _, _, some (4, true)⟩ rfl (fun _ _ _ h => h) hHeld ?_
        refine take_n 9 ⟨some 16, Op.load 3 (Operand.tmp 15), _, _, _, some (4, true)⟩ rfl (fun _ _ _ h => h) hHeld ?_
        refine take_n 10 ⟨some 17, Op.fieldAddr 35 (Operand.tmp 3) 0, _, _, _, some (4, true)⟩ rfl (fun _ _ _ h => h) hHeld ?_
        refine take_n 11 ⟨some 18, Op.load 3 (Operand.tmp 17), _, _, _, some (4, true)⟩ rfl (fun _ _ _ h => h) hHeld ?_
        refine take_n 12 ⟨some 19, Op.binOp BinOp.lss 3 (Operand.tmp 16) (Operand.tmp 18) 3, _, _, _, some (4, true)⟩ rfl (fun _ _ _ h => h) hHeld ?_
        refine take_n 13 ⟨some 20, Op.move (Operand.tmp 19), _, _, _, some (4, true)⟩ rfl (fun _ _ _ h => h) hHeld ?_
        refine take_n 14 ⟨some 21, Op.move (Operand.tmp 0), _, _, _, some (13, false)⟩ rfl (fun _ _ _ h => h) hHeld ?_
        refine take_n 15 ⟨some 22, Op.move (Operand.tmp 5), _, _, _, some (13, false)⟩ rfl (fun _ _ _ h => h) hHeld ?_
        refine take_n 16 ⟨some 23, Op.indexAddr 30 (Operand.tmp 21) (Operand.tmp 22), _, _, _, some (13, false)⟩ rfl (fun _ _ _ h => h) hHeld ?_
        refine take_n 17 ⟨some 24, Op.fieldAddr 35 (Operand.tmp 23) 0, _, _, _, some (13, false)⟩ rfl (fun _ _ _ h => h) hHeld ?_
        refine take_n 18 ⟨some 25, Op.load 3 (Operand.tmp 24), _, _, _, some (13, false)⟩ rfl (fun _ _ _ h => h) hHeld ?_
        refine take_n 19 ⟨some 26, Op.fieldAddr 35 (Operand.tmp 3) 0, _, _, _, some (13, false)⟩ rfl (fun _ _ _ h => h) hHeld ?_
        refine take_n 20 ⟨some 27, Op.load 3 (Operand.tmp 26), _, _, _, some (13, false)⟩ rfl (fun _ _ _ h => h) hHeld ?_
        refine take_n 21 ⟨some 28, Op.binOp BinOp.eql 3 (Operand.tmp 25) (Operand.tmp 27) 3, _, _, _, some (13, false)⟩ rfl (fun _ _ _ h => h) hHeld ?_
        refine take_n 22 ⟨some 29, Op.move (Operand.tmp 28), _, _, _, some (13, false)⟩ rfl (fun _ _ _ h => h) hHeld ?_
        refine take_n 23 ⟨some 30, Op.move (Operand.tmp 0), _, _, _, some (22, true)⟩ rfl (fun _ _ _ h => h) hHeld ?_
        refine take_n 24 ⟨some 31, Op.move (Operand.tmp 5), _, _, _, some (22, true)⟩ rfl (fun _ _ _ h => h) hHeld ?_
        refine take_n 25 ⟨some 32, Op.indexAddr 30 (Operand.tmp 30) (Operand.tmp 31), _, _, _, some (22, true)⟩ rfl (fun _ _ _ h => h) hHeld ?_
        refine take_n 26 ⟨some 33, Op.fieldAddr 35 (Operand.tmp 32) 1, _, _, _, some (22, true)⟩ rfl (fun _ _ _ h => h) hHeld ?_
        refine take_n 27 ⟨some 34, Op.load 3 (Operand.tmp 33), _, _, _, some (22, true)⟩ rfl (fun _ _ _ h => h) hHeld ?_
        refine take_n 28 ⟨some 35, Op.fieldAddr 35 (Operand.tmp 3) 1, _, _, _, some (22, true)⟩ rfl (fun _ _ _ h => h) hHeld ?_
        refine take_n 29 ⟨some 36, Op.load 3 (Operand.tmp 35), _, _, _, some (22, true)⟩ rfl (fun _ _ _ h => h) hHeld ?_
        refine take_n 30 ⟨some 37, Op.binOp BinOp.lss 3 (Operand.tmp 34) (Operand.tmp 36) 3, _, _, _, some (22, true)⟩ rfl (fun _ _ _ h => h) hHeld ?_
        refine take_n 31 ⟨some 38, Op.pick (Operand.tmp 29) (Operand.tmp 37) (Operand.const (Value.bool false)), _, _, _, some (13, false)⟩ rfl (fun _ _ _ h => h) hHeld ?_
        refine take_n 32 ⟨some 39, Op.pick (Operand.tmp 20) (Operand.const (Value.bool true)) (Operand.tmp 38), _, _, _, some (4, true)⟩ rfl (fun _ _ _ h => h) hHeld ?_
        refine take_v (v := ?_) 33 ⟨some 40, Op.pick (Operand.tmp 11) (Operand.tmp 39) (Operand.const (Value.bool false)), _, _, _, none⟩ rfl (fun _ _ _ h => h) ?_ hHeld ?_
        rotate_left
        · (intro W _; go_simp <;> (try with_reducible rfl))
        refine wpAnyH_done (by kernel_rfl) ?_ _
        refine NoPanic.normal ?_
        clear hHeld
        have HNE : Hid (p < L.length → ¬ PLt (pP L p, pQ L p) (x, y) ∧ (pP L p, pQ L p) ≠ (x, y)) := by show p < L.length → _; exact fun h => absurd h hpn
        go_upto_region 4 with fail
        refine wp_region_noPanic ?_
        refine wp_region_held_drew (S := fun W => Bx W w.heap.size [.int .i64 x, .int .i64 y]) (by kernel_rfl) H1.out.2.2.1 (fun hHeld => ?_)
        refine take_v (v := ?_) 0 ⟨some 43, Op.move (Operand.tmp 5), _, _, _, none⟩ rfl (fun _ _ _ h => h) ?_ hHeld ?_
        rotate_left
        · (intro W _; go_simp <;> (try with_reducible rfl))
        refine take_v (v := ?_) 1 ⟨some 44, Op.move (Operand.tmp 0), _, _, _, none⟩ rfl (fun _ _ _ h => h) ?_ hHeld ?_
        rotate_left
        · (intro W _; go_simp <;> (try with_reducible rfl))
        refine take_v (v := ?_) 2 ⟨some 45, Op.call { callee := Callee.builtin Builtin.len, args := #[Operand.tmp 44], argTypes := #[30] }, _, _, _, none⟩ rfl (fun _ _ _ h => h) ?_ hHeld ?_
        rotate_left
        · (intro W _; go_simp <;> (try with_reducible rfl))
        refine take_v (v := ?_) 3 ⟨some 46, Op.binOp BinOp.lss 3 (Operand.tmp 43) (Operand.tmp 45) 3, _, _, _, none⟩ rfl (fun _ _ _ h => h) ?_ hHeld ?_
        rotate_left
        · (intro W _; go_simp <;> (try with_reducible rfl))
        refine take_v (v := ?_) 4 ⟨some 47, Op.move (Operand.tmp 46), _, _, _, none⟩ rfl (fun _ _ _ h => h) ?_ hHeld ?_
        rotate_left
        · (intro W _; go_simp <;> (try with_reducible rfl))
        refine take_n 5 ⟨some 48, Op.move (Operand.tmp 0), _, _, _, some (4, true)⟩ rfl (fun _ _ _ h => h) hHeld ?_
        refine take_n 6 ⟨some 49, Op.move (Operand.tmp 5), _, _, _, some (4, true)⟩ rfl (fun _ _ _ h => h) hHeld ?_
        refine take_n 7 ⟨some 50, Op.indexAddr 30 (Operand.tmp 48) (Operand.tmp 49), _, _, _, some (4, true)⟩ rfl (fun _ _ _ h => h) hHeld ?_
        refine take_n 8 ⟨some 51, Op.load 35 (Operand.tmp 50), _, _, _, some (4, true)⟩ rfl (fun _ _ _ h => h) hHeld ?_
        refine take_n 9 ⟨some 52, Op.load 35 (Operand.tmp 3), _, _, _, some (4, true)⟩ rfl (fun _ _ _ h => h) hHeld ?_
        refine take_n 10 ⟨some 53, Op.binOp BinOp.eql 35 (Operand.tmp 51) (Operand.tmp 52) 35, _, _, _, some (4, true)⟩ rfl (fun _ _ _ h => h) hHeld ?_
        refine take_v (v := ?_) 11 ⟨some 54, Op.pick (Operand.tmp 47) (Operand.tmp 53) (Operand.const (Value.bool false)), _, _, _, none⟩ rfl (fun _ _ _ h => h) ?_ hHeld ?_
        rotate_left
        · (intro W _; go_simp <;> (try with_reducible rfl))
        refine wpAnyH_done (by kernel_rfl) ?_ _
        refine NoPanic.normal ?_
        clear hHeld
        by_cases hck : cap = p
        · have hck := hck.symm
          subst hck
          obtain ⟨wd, hwd⟩ : ∃ y, y = wr.drew.drew := ⟨_, rfl⟩
          have H2 : Hid (Bx wd w.heap.size [.int .i64 x, .int .i64 y] ∧ Below w.heap.size w wd) := hwd ▸ ⟨H1.out.2.2.1, H1.out.2.2.2⟩
          rw [← hwd]
          clear hwd H1
          have hzd : w.heap.size < wd.heap.size := H2.out.1.2
          have HOd : Hid (wd.ownsRow base 35 2 (.slice (some ⟨g, 0, none⟩) L.length p) L.length (cellsP L)) := own_keep HO.out.1 H2.out.2
          have HNT : Hid (∀ j u, (cellsP (L.take p))[j]? = some u → wd.cell? ((⟨g, 0, none⟩ : Addr).add j) = some u) := newsP_take HOd.out hp
          have hlt1 : (cellsP (L.take p)).length = p * 2 := by rw [cellsP_len, List.length_take, Nat.min_eq_left hp]
          have hld : (cellsP (L.drop p)).length = (L.length - p) * 2 := by rw [cellsP_len, List.length_drop]
          have hpc : (p : Int) ≤ (p : Int) := by omega
          have hpl : (p : Int) ≤ (L.length : Int) := by omega
          have x0 := H2.out.1.cell 0 rfl
          have x1 := H2.out.1.cell 1 rfl
          have xz := H2.out.1.2
          have HLT : Hid ((cellsP (L.take p)).length = p * 2 ∧ (cellsP (L.drop p)).length = (L.length - p) * 2) := ⟨hlt1, hld⟩
          clear hlt1 hld
          go_wp2_with (first
            | (at_builtin; refine wpList_append_own_at _ rfl (.tmp 56) (.tmp 59) 30 rfl base 35 i0 (.agg #[.int .i64 0, .int .i64 0]) 2 16 Try.underlying30 hi0 y0 y1 y2 rfl (by decide) (.slice none 0 0) 0 [] rfl (World.ownsRow_nil _ _ _ _) ⟨g, 0, none⟩ p p (cellsP (L.take p)) rfl HLT.out.1 HNT.out (cellsP_one' _) (by unfold maxLen; omega) (by omega) (by omega) ?_; intro v1 w1 hown1 hgrow1 hnil1 hwh1; have G1 := (H2.out.1.grown hgrow1 hgrow1.size (fun e => by cases e)); have x0' := G1.cell 0 rfl; have x1' := G1.cell 1 rfl; have xz' := G1.2)
            | (at_builtin; refine wpList_append_own_at _ rfl (.tmp 61) (.tmp 63) 30 rfl base 35 i0 (.agg #[.int .i64 0, .int .i64 0]) 2 16 Try.underlying30 hi0 y0 y1 y2 rfl (by decide) v1 (0 + p) ([] ++ cellsP (L.take p)) rfl (World.ownsRow.alloc hown1 _) ⟨w1.heap.size, 0, none⟩ 1 1 [.int .i64 x, .int .i64 y] rfl rfl (cells_new w1 [.int .i64 x, .int .i64 y] 35) (by intro u hu; simp at hu; rcases hu with rfl | rfl <;> rfl) (by unfold maxLen; omega) (by omega) (by have := hgrow1.size; simp; omega) ?_; intro v2 w2 hown2 hgrow2 hnil2 hwh2; (have hz1 : wd.heap.size ≤ w1.heap.size := hgrow1.size); (have hz2 : w1.heap.size + 1 ≤ w2.heap.size := by have := hgrow2.size; simpa using this); (have hv1 : ∀ b, v1.ownBlock = some b → b = wd.heap.size := fun b hb => by (rcases hwh1 with h | h); (rw [h] at hb; cases hb); (rw [h] at hb; exact (Option.some.inj hb).symm)); (have HF2 : Hid (w2.ownsRow base 35 2 v2 (0 + p + 1) ([] ++ cellsP (L.take p) ++ [.int .i64 x, .int .i64 y]) ∧ w2.ownsRow base 35 2 (.slice (some ⟨g, 0, none⟩) L.length p) L.length (cellsP L) ∧ Below w.heap.size w w2 ∧ ∀ b, v2.ownBlock = some b → wd.heap.size ≤ b) := by (have hgw := HO.out.2.2); (refine ⟨hown2, own_gr' (own_keep (own_gr' HOd.out hgrow1 (fun b hb e => by cases e)) (Go.Joins.below_alloc1 _ _)) hgrow2 (fun b hb e => by have h1 := hv1 b e; have h2 : b = g := (Option.some.inj hb).symm; omega), ?_, fun b hb => ?_⟩); (have e1 : Below w.heap.size w w1 := H2.out.2.grown hgrow1 (by omega) (fun j hj => by cases hj); exact ((e1.alloc (by omega) _).grown hgrow2 (by simp; omega) (fun j hj => by have := hv1 j hj; omega))); (rcases hwh2 with h | h); (rw [h] at hb; have := hv1 b hb; omega); (rw [h] at hb; have := Option.some.inj hb; simp at this; omega)); (have HND : Hid (∀ j u, (cellsP (L.drop p))[j]? = some u → w2.cell? ((⟨g, p * 2, none⟩ : Addr).add j) = some u) := newsP_drop HF2.out.2.1 hp); clear hown1 hgrow1 hnil1 hwh1 hown2 hgrow2 hnil2 hwh2 G1 x0 x1 xz x0' x1' xz' HNT HOd hv1)
            | (at_builtin; refine wpList_append_own_at _ rfl (.tmp 65) (.tmp 68) 30 rfl base 35 i0 (.agg #[.int .i64 0, .int .i64 0]) 2 16 Try.underlying30 hi0 y0 y1 y2 rfl (by decide) v2 (0 + p + 1) ([] ++ cellsP (L.take p) ++ [.int .i64 x, .int .i64 y]) rfl HF2.out.1 ⟨g, 0, none⟩ 0 _ [] rfl rfl (fun j u hu => by simp at hu) (fun u hu => by simp at hu) (by unfold maxLen; omega) (by omega) (by omega) ?_; intro v3 w3 hown3 hgrow3 hnil3 hwh3)
            | go_in)
          go_ret
          refine ⟨v3, L.take p ++ [(x, y)] ++ L.drop p, rfl, ?_, ins_sort HSO.out HA.out HNE.out, fun z => ins_mem, Nat.le_of_eq (ins_len hp), HF2.out.2.2.1.grown hgrow3 (by omega) (fun j hj => by have := HF2.out.2.2.2 j hj; omega)⟩
          have hd : L.drop p = [] := List.drop_eq_nil_of_le (by omega)
          have e0 : cellsP ([] : List (Int × Int)) = [] := rfl
          rw [cellsP_append, cellsP_append, ins_len hp, hd, e0, List.append_nil, show L.length + 1 = 0 + p + 1 by omega]
          have h3 := hown3
          rw [List.append_nil] at h3
          exact h3
        · obtain ⟨wd, hwd⟩ : ∃ y, y = wr.drew.drew := ⟨_, rfl⟩
          have H2 : Hid (Bx wd w.heap.size [.int .i64 x, .int .i64 y] ∧ Below w.heap.size w wd) := hwd ▸ ⟨H1.out.2.2.1, H1.out.2.2.2⟩
          rw [← hwd]
          clear hwd H1
          have hzd : w.heap.size < wd.heap.size := H2.out.1.2
          have HOd : Hid (wd.ownsRow base 35 2 (.slice (some ⟨g, 0, none⟩) L.length cap) L.length (cellsP L)) := own_keep HO.out.1 H2.out.2
          have HNT : Hid (∀ j u, (cellsP (L.take p))[j]? = some u → wd.cell? ((⟨g, 0, none⟩ : Addr).add j) = some u) := newsP_take HOd.out hp
          have hlt1 : (cellsP (L.take p)).length = p * 2 := by rw [cellsP_len, List.length_take, Nat.min_eq_left hp]
          have hld : (cellsP (L.drop p)).length = (L.length - p) * 2 := by rw [cellsP_len, List.length_drop]
          have hpc : (p : Int) ≤ (cap : Int) := by omega
          have hpl : (p : Int) ≤ (L.length : Int) := by omega
          have x0 := H2.out.1.cell 0 rfl
          have x1 := H2.out.1.cell 1 rfl
          have xz := H2.out.1.2
          have HLT : Hid ((cellsP (L.take p)).length = p * 2 ∧ (cellsP (L.drop p)).length = (L.length - p) * 2) := ⟨hlt1, hld⟩
          clear hlt1 hld
          go_wp2_with (first
            | (at_builtin; refine wpList_append_own_at _ rfl (.tmp 56) (.tmp 59) 30 rfl base 35 i0 (.agg #[.int .i64 0, .int .i64 0]) 2 16 Try.underlying30 hi0 y0 y1 y2 rfl (by decide) (.slice none 0 0) 0 [] rfl (World.ownsRow_nil _ _ _ _) ⟨g, 0, none⟩ p cap (cellsP (L.take p)) rfl HLT.out.1 HNT.out (cellsP_one' _) (by unfold maxLen; omega) (by omega) (by omega) ?_; intro v1 w1 hown1 hgrow1 hnil1 hwh1; have G1 := (H2.out.1.grown hgrow1 hgrow1.size (fun e => by cases e)); have x0' := G1.cell 0 rfl; have x1' := G1.cell 1 rfl; have xz' := G1.2)
            | (at_builtin; refine wpList_append_own_at _ rfl (.tmp 61) (.tmp 63) 30 rfl base 35 i0 (.agg #[.int .i64 0, .int .i64 0]) 2 16 Try.underlying30 hi0 y0 y1 y2 rfl (by decide) v1 (0 + p) ([] ++ cellsP (L.take p)) rfl (World.ownsRow.alloc hown1 _) ⟨w1.heap.size, 0, none⟩ 1 1 [.int .i64 x, .int .i64 y] rfl rfl (cells_new w1 [.int .i64 x, .int .i64 y] 35) (by intro u hu; simp at hu; rcases hu with rfl | rfl <;> rfl) (by unfold maxLen; omega) (by omega) (by have := hgrow1.size; simp; omega) ?_; intro v2 w2 hown2 hgrow2 hnil2 hwh2; (have hz1 : wd.heap.size ≤ w1.heap.size := hgrow1.size); (have hz2 : w1.heap.size + 1 ≤ w2.heap.size := by have := hgrow2.size; simpa using this); (have hv1 : ∀ b, v1.ownBlock = some b → b = wd.heap.size := fun b hb => by (rcases hwh1 with h | h); (rw [h] at hb; cases hb); (rw [h] at hb; exact (Option.some.inj hb).symm)); (have HF2 : Hid (w2.ownsRow base 35 2 v2 (0 + p + 1) ([] ++ cellsP (L.take p) ++ [.int .i64 x, .int .i64 y]) ∧ w2.ownsRow base 35 2 (.slice (some ⟨g, 0, none⟩) L.length cap) L.length (cellsP L) ∧ Below w.heap.size w w2 ∧ ∀ b, v2.ownBlock = some b → wd.heap.size ≤ b) := by (have hgw := HO.out.2.2); (refine ⟨hown2, own_gr' (own_keep (own_gr' HOd.out hgrow1 (fun b hb e => by cases e)) (Go.Joins.below_alloc1 _ _)) hgrow2 (fun b hb e => by have h1 := hv1 b e; have h2 : b = g := (Option.some.inj hb).symm; omega), ?_, fun b hb => ?_⟩); (have e1 : Below w.heap.size w w1 := H2.out.2.grown hgrow1 (by omega) (fun j hj => by cases hj); exact ((e1.alloc (by omega) _).grown hgrow2 (by simp; omega) (fun j hj => by have := hv1 j hj; omega))); (rcases hwh2 with h | h); (rw [h] at hb; have := hv1 b hb; omega); (rw [h] at hb; have := Option.some.inj hb; simp at this; omega)); (have HND : Hid (∀ j u, (cellsP (L.drop p))[j]? = some u → w2.cell? ((⟨g, p * 2, none⟩ : Addr).add j) = some u) := newsP_drop HF2.out.2.1 hp); clear hown1 hgrow1 hnil1 hwh1 hown2 hgrow2 hnil2 hwh2 G1 x0 x1 xz x0' x1' xz' HNT HOd hv1)
            | (at_builtin; refine wpList_append_own_at _ rfl (.tmp 65) (.tmp 68) 30 rfl base 35 i0 (.agg #[.int .i64 0, .int .i64 0]) 2 16 Try.underlying30 hi0 y0 y1 y2 rfl (by decide) v2 (0 + p + 1) ([] ++ cellsP (L.take p) ++ [.int .i64 x, .int .i64 y]) rfl HF2.out.1 ⟨g, p * 2, none⟩ (L.length - p) _ (cellsP (L.drop p)) rfl HLT.out.2 HND.out (cellsP_one' _) (by unfold maxLen; omega) (by omega) (by omega) ?_; intro v3 w3 hown3 hgrow3 hnil3 hwh3)
            | go_in)
          go_ret
          refine ⟨v3, L.take p ++ [(x, y)] ++ L.drop p, rfl, ?_, ins_sort HSO.out HA.out HNE.out, fun z => ins_mem, Nat.le_of_eq (ins_len hp), HF2.out.2.2.1.grown hgrow3 (by omega) (fun j hj => by have := HF2.out.2.2.2 j hj; omega)⟩
          rw [cellsP_append, cellsP_append, ins_len hp, show L.length + 1 = 0 + p + 1 + (L.length - p) by omega]
          exact hown3
end Go.Proofs.Ytnapgnkhajkbkaa

