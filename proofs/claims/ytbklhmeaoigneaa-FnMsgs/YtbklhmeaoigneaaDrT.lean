/- Draws of tids: the cursor's tid, DrawCompareTid, DrawUnpackTid. -/
import Derived.Test.YtbklhmeaoigneaaDrW
import Derived.Test.YtbklhmeaoigneaaTidC
namespace Go.Proofs.Ytbklhmeaoigneaa
open Go.RowKit
set_option linter.unusedVariables false

/-- Block g holds a tid that may be written. -/
def T3 (w : World) (g : Nat) (e s : Int) (b : Bool) : Prop := w.cell? ⟨g, 0, none⟩ = some (.int .i64 e) ∧ w.cell? ⟨g, 1, none⟩ = some (.int .i64 s) ∧ w.cell? ⟨g, 2, none⟩ = some (.bool b) ∧ w.frozen? ⟨g, 0, none⟩ = false ∧ w.frozen? ⟨g, 1, none⟩ = false ∧ w.frozen? ⟨g, 2, none⟩ = false ∧ g < w.heap.size
theorem T3.new (w : World) (e s : Int) (b : Bool) (y : TypeId) : T3 (w.alloc (.cells #[.int .i64 e, .int .i64 s, .bool b] y)) w.heap.size e s b := ⟨by simp, by simp, by simp, by simp, by simp, by simp, by simp⟩
theorem T3.same {w w' : World} {g : Nat} {e s : Int} {b : Bool} (h : T3 w g e s b) (k : w'.heap[g]? = w.heap[g]?) (hs : w.heap.size ≤ w'.heap.size) : T3 w' g e s b :=
  ⟨(World.cell?_of_block (a := ⟨g, 0, none⟩) k).trans h.1, (World.cell?_of_block (a := ⟨g, 1, none⟩) k).trans h.2.1, (World.cell?_of_block (a := ⟨g, 2, none⟩) k).trans h.2.2.1, (World.frozen?_of_block (a := ⟨g, 0, none⟩) k).trans h.2.2.2.1, (World.frozen?_of_block (a := ⟨g, 1, none⟩) k).trans h.2.2.2.2.1, (World.frozen?_of_block (a := ⟨g, 2, none⟩) k).trans h.2.2.2.2.2.1, Nat.lt_of_lt_of_le h.2.2.2.2.2.2 hs⟩
theorem T3.next {w w' : World} {g : Nat} {e s : Int} {b : Bool} (h : T3 w g e s b) (hb : Below w.heap.size w w') : T3 w' g e s b := h.same (hb.block g h.2.2.2.2.2.2) hb.size
theorem T3.trn {w w' : World} {g B C : Nat} {e s : Int} {b : Bool} (h : T3 w g e s b) (ht : Trn B C w w') (hg : g < B ∨ C ≤ g) : T3 w' g e s b := h.same (ht.2.2.2.2 g h.2.2.2.2.2.2 hg) ht.2.2.2.1
theorem Trn.alloc {B C : Nat} {a w : World} (h : Trn B C a w) (o : Obj) : Trn B C a (w.alloc o) := h.next (Go.Joins.below_alloc1 _ _)

theorem Cur.out {w : World} {g k q : Nat} {a : Option Addr} {n cap : Nat} {X : Nat → Int} {t : Nat} (h : Cur w g a n cap X t) (hk : g < k) (v : Value) : Cur (w.setCell ⟨k, q, none⟩ v) g a n cap X t := by
  obtain ⟨h0, ⟨p, hp, h1⟩, ⟨s, hs, h2⟩, f1, f2, hg, hE, hn, hX⟩ := h
  refine ⟨?_, ⟨p, hp, ?_⟩, ⟨s, hs, ?_⟩, by simpa using f1, by simpa using f2, by simpa using hg, ?_, hn, hX⟩
  · rw [World.cell?_setCell_other _ _ _ _ (addr_ne' (by omega))]; exact h0
  · rw [World.cell?_setCell_other _ _ _ _ (addr_ne' (by omega))]; exact h1
  · rw [World.cell?_setCell_other _ _ _ _ (addr_ne' (by omega))]; exact h2
  · rcases hE with h | ⟨b, off, e, hl, hE⟩
    · exact Or.inl h
    · exact Or.inr ⟨b, off, e, hl, fun i hi j hj => by rw [World.cell?_setCell_other _ _ _ _ (addr_ne' (by omega))]; exact hE i hi j hj⟩
theorem Trn.out {B C : Nat} {a w : World} (h : Trn B C a w) {p : Addr} (hp : a.heap.size ≤ p.block) (v : Value) : Trn B C a (w.setCell p v) :=
  ⟨h.1, h.2.1, h.2.2.1, by simpa using h.2.2.2.1, fun k hk hx => (Below.heap_setCell _ _ _ _ (by omega)).trans (h.2.2.2.2 k hk hx)⟩
theorem Drew.out {w w' : World} {g k q : Nat} {a : Option Addr} {n cap : Nat} {X : Nat → Int} {t : Nat} (h : Drew g a n cap X t w w') (hg : g < w.heap.size) (hk : w.heap.size ≤ k) (v : Value) : Drew g a n cap X t w (w'.setCell ⟨k, q, none⟩ v) :=
  ⟨h.1.out (by omega) v, h.2.out (p := ⟨k, q, none⟩) hk v⟩

set_option maxRecDepth 100000 in
set_option maxHeartbeats 1000000 in
theorem tid_any (g : Nat) (a : Option Addr) (n cap : Nat) (X : Nat → Int) (t : Nat) (w : World) (ht : t ≤ 900000) (hc : Cur w g a n cap X t) :
    Calls Try.prog 54 #[.pointer (some ⟨g, 0, none⟩)] w fun r w' => ∃ (e s : Int) (b : Bool), r = .returned (.agg #[.int .i64 e, .int .i64 s, .bool b]) ∧ Drew g a n cap X (t + 10) w w' := by
  have hg : g < w.heap.size := hc.2.2.2.2.2.1
  have HC : Hid (Cur w g a n cap X t) := hc
  clear hc
  go_enter Try.func54, Try.ntmps54
  go_wp2_with fail
  refine (pick_any _ _ _ _ _ _ _ _ (by omega) (by omega) (HC.out.next (Go.Joins.below_alloc1 _ _))).mono ?_
  rintro r w1 ⟨e, _, rfl, hd⟩
  have H1 : Hid (Drew g a n cap X (t + 2) w w1 ∧ T3 w1 w.heap.size 0 0 false) := ⟨⟨hd.1, ((Trn.refl _ _ _).alloc _).trans hd.2⟩, (T3.new _ _ _ _ _).trn hd.2 (by omega)⟩
  clear hd HC
  go_wp2_with fail
  refine (pick_any _ _ _ _ _ _ _ _ (by omega) (by omega) H1.out.1.1).mono ?_
  rintro r w2 ⟨s, _, rfl, hd⟩
  have H2 : Hid (Drew g a n cap X (t + 4) w w2 ∧ T3 w2 w.heap.size 0 0 false) := ⟨H1.out.1.trans hd, H1.out.2.trn hd.2 (by omega)⟩
  clear hd H1
  go_wp2_with fail
  refine (one_any _ _ _ _ _ _ _ _ (by omega) (by omega) H2.out.1.1).mono ?_
  rintro r w3 ⟨b, rfl, hd⟩
  have H3 : Hid (Drew g a n cap X (t + 6) w w3 ∧ T3 w3 w.heap.size 0 0 false) := ⟨H2.out.1.trans hd, H2.out.2.trn hd.2 (by omega)⟩
  have hz3 : g < w3.heap.size := Nat.lt_of_lt_of_le hg H3.out.1.2.2.2.2.1
  clear hd H2
  go_wp2_with fail
  refine (pick_any _ _ _ _ _ _ _ _ (by omega) (by omega) (H3.out.1.1.next (Go.Joins.below_alloc1 _ _))).mono ?_
  rintro r w4 ⟨x, hx, rfl, hd⟩
  have H4 : Hid (Drew g a n cap X (t + 8) w w4 ∧ T3 w4 w.heap.size 0 0 false ∧ T3 w4 w3.heap.size e s b) := ⟨⟨hd.1, (H3.out.1.2.alloc _).trans hd.2⟩, (H3.out.2.next (Go.Joins.below_alloc1 _ _)).trn hd.2 (by omega), (T3.new _ _ _ _ _).trn hd.2 (by omega)⟩
  clear hd
  have hz4 : w3.heap.size < w4.heap.size := H4.out.2.2.2.2.2.2.2.2
  have hr3 : w.heap.size < w3.heap.size := H3.out.2.2.2.2.2.2.2
  clear H3
  by_cases h0 : x = 0
  · subst h0
    go_wp2_with fail
    refine (among_any g a n cap X (t + 8) w4.heap.size _ (-1) 1048575 1048576 _ (by omega) (H4.out.1.1.next (Go.Joins.below_alloc1 _ _)) (by omega) (by simp) (by simp) (by simp) (by simp)).mono ?_
    rintro r w5 ⟨y, rfl, hd⟩
    have H5 : Hid (Drew g a n cap X (t + 10) w w5) := ⟨hd.1, (H4.out.1.2.alloc _).trans hd.2⟩
    obtain ⟨r0, r1, r2, q0, q1, q2, hrz⟩ := (H4.out.2.1.next (Go.Joins.below_alloc1 _ _)).trn hd.2 (by omega)
    obtain ⟨c0, c1, c2, f0, f1, f2, hcz⟩ := (H4.out.2.2.next (Go.Joins.below_alloc1 _ _)).trn hd.2 (by omega)
    clear hd H4
    go_wp2
    exact bodyPost_ret (v := .agg #[.int .i64 y, .int .i64 s, .bool b]) (by simp [results, Try.results54, go_sem, *]) rfl ⟨_, _, _, rfl, (((H5.out.out hg (by omega) _).out hg (Nat.le_refl _) _).out hg (Nat.le_refl _) _).out hg (Nat.le_refl _) _⟩
  by_cases h1 : x = 1
  · subst h1
    go_wp2_with fail
    refine (among_any g a n cap X (t + 8) w4.heap.size _ (-1) 16777215 16777216 _ (by omega) (H4.out.1.1.next (Go.Joins.below_alloc1 _ _)) (by omega) (by simp) (by simp) (by simp) (by simp)).mono ?_
    rintro r w5 ⟨y, rfl, hd⟩
    have H5 : Hid (Drew g a n cap X (t + 10) w w5) := ⟨hd.1, (H4.out.1.2.alloc _).trans hd.2⟩
    obtain ⟨r0, r1, r2, q0, q1, q2, hrz⟩ := (H4.out.2.1.next (Go.Joins.below_alloc1 _ _)).trn hd.2 (by omega)
    obtain ⟨c0, c1, c2, f0, f1, f2, hcz⟩ := (H4.out.2.2.next (Go.Joins.below_alloc1 _ _)).trn hd.2 (by omega)
    clear hd H4
    go_wp2
    exact bodyPost_ret (v := .agg #[.int .i64 e, .int .i64 y, .bool b]) (by simp [results, Try.results54, go_sem, *]) rfl ⟨_, _, _, rfl, (((H5.out.out hg (by omega) _).out hg (Nat.le_refl _) _).out hg (Nat.le_refl _) _).out hg (Nat.le_refl _) _⟩
  · obtain ⟨r0, r1, r2, q0, q1, q2, hrz⟩ := H4.out.2.1
    obtain ⟨c0, c1, c2, f0, f1, f2, hcz⟩ := H4.out.2.2
    have H5 : Hid (Drew g a n cap X (t + 10) w w4) := H4.out.1.up (by omega)
    clear H4
    go_wp2
    exact bodyPost_ret (v := .agg #[.int .i64 e, .int .i64 s, .bool b]) (by simp [results, Try.results54, go_sem, *]) rfl ⟨_, _, _, rfl, ((H5.out.out hg (Nat.le_refl _) _).out hg (Nat.le_refl _) _).out hg (Nat.le_refl _) _⟩
theorem Cur.new {w : World} {a : Option Addr} {n cap : Nat} {X : Nat → Int} (y : TypeId) (hs : Sl w a n 1 (byF X)) (hn : n ≤ 9223372036854775807) (hX : ∀ i, i < n → 0 ≤ X i ∧ X i ≤ 255) : Cur (w.alloc (.cells #[.slice a n cap, .int .i64 0, .int .u64 0] y)) w.heap.size a n cap X 0 := by
  refine ⟨by simp, ⟨0, by omega, by simp⟩, ⟨0, by omega, by simp⟩, by simp, by simp, by simp, ?_, hn, hX⟩
  rcases hs with h | ⟨b, off, rfl, hb, hE⟩
  · exact Or.inl h
  · exact Or.inr ⟨b, off, rfl, hb, hE.below (Go.Joins.below_alloc1 _ _) hb⟩

set_option maxRecDepth 100000 in
set_option maxHeartbeats 1000000 in
theorem drawCompare_any (a : Option Addr) (n cap : Nat) (X : Nat → Int) (w : World) (hn : n ≤ 9223372036854775807) (hs : Sl w a n 1 (byF X)) (hX : ∀ i, i < n → 0 ≤ X i ∧ X i ≤ 255) :
    Calls Try.prog 16 #[.slice a n cap] w fun r w' => ∃ (e s : Int) (b : Bool) (e' s' : Int) (b' : Bool), r = .returned (.tuple #[.agg #[.int .i64 e, .int .i64 s, .bool b], .agg #[.int .i64 e', .int .i64 s', .bool b']]) ∧ Below w.heap.size w w' := by
  have HS : Hid (Sl w a n 1 (byF X) ∧ ∀ i, i < n → 0 ≤ X i ∧ X i ≤ 255) := ⟨hs, hX⟩
  clear hs hX
  obtain ⟨W0, hW0⟩ : ∃ z, z = (w.alloc (.cells #[.int .i64 0, .int .i64 0, .bool false] 24)).alloc (.cells #[.int .i64 0, .int .i64 0, .bool false] 24) := ⟨_, rfl⟩
  have hz0 : W0.heap.size = w.heap.size + 1 + 1 := by rw [hW0]; simp
  have hb0 : Below w.heap.size w W0 := by rw [hW0]; exact ((Below.refl _ _).alloc (Nat.le_refl _) _).alloc (by simp) _
  have hT0 : T3 W0 w.heap.size 0 0 false := by rw [hW0]; exact (T3.new _ _ _ _ _).next (Go.Joins.below_alloc1 _ _)
  have hT1 : T3 W0 (w.heap.size + 1) 0 0 false := by rw [hW0]; have := T3.new (w.alloc (.cells #[.int .i64 0, .int .i64 0, .bool false] 24)) 0 0 false 24; simpa using this
  have hC0 : Cur (W0.alloc (.cells #[.slice a n cap, .int .i64 0, .int .u64 0] 82)) W0.heap.size a n cap X 0 := Cur.new _ (HS.out.1.below hb0 (Nat.le_refl _)) hn HS.out.2
  have hbN := Go.Joins.below_alloc1 W0 (.cells #[.slice a n cap, .int .i64 0, .int .u64 0] 82)
  obtain ⟨W1, hW1⟩ : ∃ z, z = W0.alloc (.cells #[.slice a n cap, .int .i64 0, .int .u64 0] 82) := ⟨_, rfl⟩
  rw [← hW1] at hC0 hbN
  have H0 : Hid (Cur W1 W0.heap.size a n cap X 0 ∧ T3 W1 w.heap.size 0 0 false ∧ T3 W1 (w.heap.size + 1) 0 0 false ∧ Below w.heap.size w W1) := ⟨hC0, hT0.next hbN, hT1.next hbN, hb0.trans (hbN.mono hb0.size)⟩
  clear hT0 hT1 hC0 hbN hb0
  rw [hz0] at H0
  clear hz0
  subst hW1
  subst hW0
  clear HS
  go_enter Try.func16, Try.ntmps16
  go_wp2_with fail
  refine (tid_any _ _ _ _ _ _ _ (by omega) H0.out.1).mono ?_
  rintro r w1 ⟨e, s, b, rfl, hd⟩
  have H1 : Hid (Cur w1 (w.heap.size + 1 + 1) a n cap X 10 ∧ T3 w1 w.heap.size 0 0 false ∧ T3 w1 (w.heap.size + 1) 0 0 false ∧ Below w.heap.size w w1) := ⟨hd.1, H0.out.2.1.trn hd.2 (by omega), H0.out.2.2.1.trn hd.2 (by omega), below_trn H0.out.2.2.2 hd.2 (by omega)⟩
  clear hd H0
  go_wp2_with fail
  refine (tid_any _ _ _ _ _ _ _ (by omega) H1.out.1).mono ?_
  rintro r w2 ⟨e', s', b', rfl, hd⟩
  have H2 : Hid (Below w.heap.size w w2) := below_trn H1.out.2.2.2 hd.2 (by omega)
  obtain ⟨r0, r1, r2, q0, q1, q2, hrz⟩ := H1.out.2.1.trn hd.2 (by omega)
  obtain ⟨c0, c1, c2, f0, f1, f2, hcz⟩ := H1.out.2.2.1.trn hd.2 (by omega)
  clear hd H1
  go_wp2
  exact bodyPost_ret (v := .tuple #[.agg #[.int .i64 e, .int .i64 s, .bool b], .agg #[.int .i64 e', .int .i64 s', .bool b']]) (by simp [results, Try.results16, go_sem, *]) rfl ⟨e, s, b, e', s', b', rfl, ((((((H2.out.setCell (p := ⟨w.heap.size, 0, none⟩) (Nat.le_refl _) _).setCell (p := ⟨w.heap.size, 1, none⟩) (Nat.le_refl _) _).setCell (p := ⟨w.heap.size, 2, none⟩) (Nat.le_refl _) _).setCell (p := ⟨w.heap.size + 1, 0, none⟩) (Nat.le_succ _) _).setCell (p := ⟨w.heap.size + 1, 1, none⟩) (Nat.le_succ _) _).setCell (p := ⟨w.heap.size + 1, 2, none⟩) (Nat.le_succ _) _)⟩
theorem or_add (k a b : Nat) (hb : b < 2 ^ k) : (a * 2 ^ k) ||| b = a * 2 ^ k + b := by
  rw [Nat.mul_comm, Nat.two_pow_add_eq_or_of_lt hb]
theorem good_iff (e s : Int) : goodT e s = true ↔ (0 ≤ e ∧ e ≤ 1048575) ∧ 0 ≤ s ∧ s ≤ 16777215 := by unfold goodT inR; simp
theorem pack_val (e s : Int) (b : Bool) (h : goodT e s = true) : packW e s b = e * 33554432 + s * 2 + (if b then 1 else 0) := by
  obtain ⟨⟨e0, e1⟩, s0, s1⟩ := (good_iff e s).1 h
  have hI : packI e s = e * 33554432 + s * 2 := by
    unfold packI
    simp only [IntKind.wrap_u64]
    rw [show e % 18446744073709551616 = e by omega, show s % 18446744073709551616 = s by omega, show e * 33554432 % 18446744073709551616 = e * 33554432 by omega, show s * 2 % 18446744073709551616 = s * 2 by omega]
    have h := bits_or_u64_nat (e.toNat * 33554432) (s.toNat * 2) (by omega) (by omega)
    rw [show (33554432 : Nat) = 2 ^ 25 by rfl, or_add 25 _ _ (by omega)] at h
    rw [show ((e.toNat * 2 ^ 25 : Nat) : Int) = e * 33554432 by omega, show ((s.toNat * 2 : Nat) : Int) = s * 2 by omega] at h
    rw [h]; omega
  cases b
  · simp [packW, hI]
  · have h := bits_or_u64_nat ((e.toNat * 16777216 + s.toNat) * 2) 1 (by omega) (by omega)
    rw [show (e.toNat * 16777216 + s.toNat) * 2 ||| 1 = (e.toNat * 16777216 + s.toNat) * 2 + 1 from or_add 1 _ _ (by omega)] at h
    simp only [packW, hI, if_true]
    rw [show e * 33554432 + s * 2 = (((e.toNat * 16777216 + s.toNat) * 2 : Nat) : Int) by omega]
    exact h.trans (by omega)

set_option maxRecDepth 100000 in
set_option maxHeartbeats 1000000 in
theorem drawUnpack_any (a : Option Addr) (n cap : Nat) (X : Nat → Int) (w : World) (hn : n ≤ 9223372036854775807) (hs : Sl w a n 1 (byF X)) (hX : ∀ i, i < n → 0 ≤ X i ∧ X i ≤ 255) :
    Calls Try.prog 21 #[.slice a n cap] w fun r w' => ∃ x : Int, (0 ≤ x ∧ x ≤ 18446744073709551615) ∧ r = .returned (.int .u64 x) ∧ Below w.heap.size w w' := by
  have H0 : Hid (Cur (w.alloc (.cells #[.slice a n cap, .int .i64 0, .int .u64 0] 82)) w.heap.size a n cap X 0 ∧ Below w.heap.size w (w.alloc (.cells #[.slice a n cap, .int .i64 0, .int .u64 0] 82))) := ⟨Cur.new _ hs hn hX, Go.Joins.below_alloc1 _ _⟩
  clear hs hX
  go_enter Try.func21, Try.ntmps21
  go_wp2_with fail
  refine (tid_any _ _ _ _ _ _ _ (by omega) H0.out.1).mono ?_
  rintro r w1 ⟨e, s, b, rfl, hd⟩
  have H1 : Hid (Cur w1 w.heap.size a n cap X 10 ∧ Below w.heap.size w w1) := ⟨hd.1, below_trn H0.out.2 hd.2 (Nat.le_refl _)⟩
  clear hd H0
  have hp : Calls Try.prog 37 #[.agg #[.int .i64 e, .int .i64 s, .bool b]] w1 fun r w' => ∃ (x : Int) (c : Bool), (0 ≤ x ∧ x ≤ 18446744073709551615) ∧ r = .returned (.tuple #[.int .u64 x, .bool c]) ∧ Below w1.heap.size w1 w' := by
    cases hg : goodT e s
    · refine (specPack_no e s b w1 hg).mono ?_
      rintro r w' ⟨rfl, hb⟩
      exact ⟨0, false, by omega, rfl, hb⟩
    · refine (specPack_yes e s b w1 hg).mono ?_
      rintro r w' ⟨rfl, hb⟩
      obtain ⟨⟨e0, e1⟩, s0, s1⟩ := (good_iff e s).1 hg
      refine ⟨packW e s b, true, ?_, rfl, hb⟩
      rw [pack_val e s b hg]
      split <;> omega
  have HP : Hid (Calls Try.prog 37 #[.agg #[.int .i64 e, .int .i64 s, .bool b]] w1 fun r w' => ∃ (x : Int) (c : Bool), (0 ≤ x ∧ x ≤ 18446744073709551615) ∧ r = .returned (.tuple #[.int .u64 x, .bool c]) ∧ Below w1.heap.size w1 w') := hp
  clear hp
  go_wp2_with fail
  refine HP.out.mono ?_
  rintro r w2 ⟨x, c, hx, rfl, hb⟩
  have H2 : Hid (Cur w2 w.heap.size a n cap X 10 ∧ Below w.heap.size w w2) := ⟨H1.out.1.next hb, H1.out.2.trans (hb.mono H1.out.2.size)⟩
  clear hb H1 HP
  go_wp2_with fail
  refine (one_any _ _ _ _ _ _ _ _ (by omega) (by omega) H2.out.1).mono ?_
  rintro r w3 ⟨d, rfl, hd⟩
  have H3 : Hid (Cur w3 w.heap.size a n cap X 12 ∧ Below w.heap.size w w3) := ⟨hd.1, below_trn H2.out.2 hd.2 (Nat.le_refl _)⟩
  clear hd H2
  cases d
  · go_wp2
    go_ret
    exact ⟨x, hx, rfl, H3.out.2⟩
  · go_wp2_with fail
    refine (wide_any _ _ _ _ _ _ _ (by omega) H3.out.1).mono ?_
    rintro r w4 ⟨y, rfl, hd⟩
    have H4 : Hid (Below w.heap.size w w4) := below_trn H3.out.2 hd.2 (Nat.le_refl _)
    clear hd H3
    go_wp2
    go_ret
    exact ⟨_, wrap_bd y, rfl, H4.out⟩
end Go.Proofs.Ytbklhmeaoigneaa
