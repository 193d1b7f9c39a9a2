/- Draws of messages: the cursor's value and msg. -/
import Derived.Test.YtbklhmeaoigneaaDrM
namespace Go.Proofs.Ytbklhmeaoigneaa
open Go.RowKit
set_option linter.unusedVariables false

set_option maxRecDepth 100000 in
set_option maxHeartbeats 1000000 in
theorem value_any (g : Nat) (a : Option Addr) (n cap : Nat) (X : Nat → Int) (t : Nat) (w : World) (ht : t ≤ 900000) (hc : Cur w g a n cap X t) :
    Calls Try.prog 84 #[.pointer (some ⟨g, 0, none⟩)] w fun r w' => ∃ s : ByteArray, s.size ≤ 21 ∧ r = .returned (.string s) ∧ Drew g a n cap X (t + 4) w w' := by
  have hg : g < w.heap.size := hc.2.2.2.2.2.1
  have HC : Hid (Cur w g a n cap X t) := hc
  clear hc
  go_enter Try.func84, Try.ntmps84
  go_wp2_with fail
  refine (one_any _ _ _ _ _ _ _ _ (by omega) (by omega) HC.out).mono ?_
  rintro r w1 ⟨b, rfl, hd⟩
  have H1 : Hid (Drew g a n cap X (t + 2) w w1) := hd
  have hz1 : g < w1.heap.size := hd.1.2.2.2.2.2.1
  clear hd HC
  cases b
  · go_wp2_with fail
    refine (of_any g a n cap X (t + 2) w1.heap.size _ 5 (fun i => [⟨#[49]⟩, ⟨#[50]⟩, ⟨#[]⟩, ⟨#[118, 32, 119]⟩, ⟨#[120]⟩].getD i ⟨#[]⟩) _ (by omega) (H1.out.1.next (Go.Joins.below_alloc1 _ _)) (by omega) (by simp) (by omega) (by omega) (str_new w1 [⟨#[49]⟩, ⟨#[50]⟩, ⟨#[]⟩, ⟨#[118, 32, 119]⟩, ⟨#[120]⟩] _) (str_small (L := [⟨#[49]⟩, ⟨#[50]⟩, ⟨#[]⟩, ⟨#[118, 32, 119]⟩, ⟨#[120]⟩]) rfl)).mono ?_
    rintro r w2 ⟨s, hs, rfl, hd⟩
    have H2 : Hid (Drew g a n cap X (t + 4) w w2) := ⟨hd.1, (H1.out.2.alloc _).trans hd.2⟩
    clear hd H1
    go_wp2
    go_ret
    exact ⟨s, hs, rfl, H2.out⟩
  · go_wp2_with fail
    refine (of_any g a n cap X (t + 2) w1.heap.size _ 3 (fun i => [⟨#[97, 59, 98]⟩, ⟨#[10]⟩, ⟨#[49, 50, 51, 52, 53, 54, 55, 56, 57, 48, 49, 50, 51, 52, 53, 54, 55, 56, 57, 48, 49]⟩].getD i ⟨#[]⟩) _ (by omega) (H1.out.1.next (Go.Joins.below_alloc1 _ _)) (by omega) (by simp) (by omega) (by omega) (str_new w1 [⟨#[97, 59, 98]⟩, ⟨#[10]⟩, ⟨#[49, 50, 51, 52, 53, 54, 55, 56, 57, 48, 49, 50, 51, 52, 53, 54, 55, 56, 57, 48, 49]⟩] _) (str_small (L := [⟨#[97, 59, 98]⟩, ⟨#[10]⟩, ⟨#[49, 50, 51, 52, 53, 54, 55, 56, 57, 48, 49, 50, 51, 52, 53, 54, 55, 56, 57, 48, 49]⟩]) rfl)).mono ?_
    rintro r w2 ⟨s, hs, rfl, hd⟩
    have H2 : Hid (Drew g a n cap X (t + 4) w w2) := ⟨hd.1, (H1.out.2.alloc _).trans hd.2⟩
    clear hd H1
    go_wp2
    go_ret
    exact ⟨s, hs, rfl, H2.out⟩
/-- Block g holds the nine cells of a message that may be written. -/
def T9 (w : World) (g : Nat) (vs : List Value) : Prop := (∀ j v, vs[j]? = some v → w.cell? ⟨g, j, none⟩ = some v ∧ w.frozen? ⟨g, j, none⟩ = false) ∧ g < w.heap.size
theorem T9.new (w : World) (vs : List Value) (y : TypeId) : T9 (w.alloc (.cells vs.toArray y)) w.heap.size vs := by
  refine ⟨fun j v hv => ⟨?_, by simp⟩, by simp⟩
  have := cells_new w vs y j v hv
  have e1 : ((⟨w.heap.size, 0, none⟩ : Addr).add j) = ⟨w.heap.size, j, none⟩ := by unfold Addr.add; split <;> simp_all
  rw [e1] at this
  exact this
theorem T9.same {w w' : World} {g : Nat} {vs : List Value} (h : T9 w g vs) (k : w'.heap[g]? = w.heap[g]?) (hs : w.heap.size ≤ w'.heap.size) : T9 w' g vs :=
  ⟨fun j v hv => ⟨(World.cell?_of_block (a := ⟨g, j, none⟩) k).trans (h.1 j v hv).1, (World.frozen?_of_block (a := ⟨g, j, none⟩) k).trans (h.1 j v hv).2⟩, Nat.lt_of_lt_of_le h.2 hs⟩
theorem T9.next {w w' : World} {g : Nat} {vs : List Value} (h : T9 w g vs) (hb : Below w.heap.size w w') : T9 w' g vs := h.same (hb.block g h.2) hb.size
theorem T9.trn {w w' : World} {g B C : Nat} {vs : List Value} (h : T9 w g vs) (ht : Trn B C w w') (hg : g < B ∨ C ≤ g) : T9 w' g vs := h.same (ht.2.2.2.2 g h.2 hg) ht.2.2.2.1
theorem T9.all {w : World} {g : Nat} {a b c d e f h i j : Value} (q : T9 w g [a, b, c, d, e, f, h, i, j]) :
    (w.cell? ⟨g, 0, none⟩ = some a ∧ w.cell? ⟨g, 1, none⟩ = some b ∧ w.cell? ⟨g, 2, none⟩ = some c ∧ w.cell? ⟨g, 3, none⟩ = some d ∧ w.cell? ⟨g, 4, none⟩ = some e ∧ w.cell? ⟨g, 5, none⟩ = some f ∧ w.cell? ⟨g, 6, none⟩ = some h ∧ w.cell? ⟨g, 7, none⟩ = some i ∧ w.cell? ⟨g, 8, none⟩ = some j) ∧
    (w.frozen? ⟨g, 0, none⟩ = false ∧ w.frozen? ⟨g, 1, none⟩ = false ∧ w.frozen? ⟨g, 2, none⟩ = false ∧ w.frozen? ⟨g, 3, none⟩ = false ∧ w.frozen? ⟨g, 4, none⟩ = false ∧ w.frozen? ⟨g, 5, none⟩ = false ∧ w.frozen? ⟨g, 6, none⟩ = false ∧ w.frozen? ⟨g, 7, none⟩ = false ∧ w.frozen? ⟨g, 8, none⟩ = false) ∧ g < w.heap.size :=
  ⟨⟨(q.1 0 _ rfl).1, (q.1 1 _ rfl).1, (q.1 2 _ rfl).1, (q.1 3 _ rfl).1, (q.1 4 _ rfl).1, (q.1 5 _ rfl).1, (q.1 6 _ rfl).1, (q.1 7 _ rfl).1, (q.1 8 _ rfl).1⟩, ⟨(q.1 0 _ rfl).2, (q.1 1 _ rfl).2, (q.1 2 _ rfl).2, (q.1 3 _ rfl).2, (q.1 4 _ rfl).2, (q.1 5 _ rfl).2, (q.1 6 _ rfl).2, (q.1 7 _ rfl).2, (q.1 8 _ rfl).2⟩, q.2⟩
/-- A message as its cells. -/
def msgA (kd fr dt tx : Int) (key val : ByteArray) (e s : Int) (b : Bool) : Value := .agg #[.int .i64 kd, .int .i64 fr, .int .i64 dt, .int .i64 tx, .string key, .string val, .int .i64 e, .int .i64 s, .bool b]
theorem int_new (w : World) (L : List Int) (e : TypeId) : ∀ i, i < L.length → (w.alloc (.cells (L.map (Value.int .i64)).toArray e)).cell? ⟨w.heap.size, i, none⟩ = some (.int .i64 (L.getD i 0)) := by
  intro i hi
  have := cells_new w (L.map (Value.int .i64)) e i (.int .i64 (L.getD i 0)) (by simp [List.getD, hi])
  have e1 : ((⟨w.heap.size, 0, none⟩ : Addr).add i) = ⟨w.heap.size, i, none⟩ := by unfold Addr.add; split <;> simp_all
  rw [e1] at this
  exact this

set_option maxRecDepth 100000 in
set_option maxHeartbeats 4000000 in
theorem msg_any (g : Nat) (a : Option Addr) (n cap : Nat) (X : Nat → Int) (t : Nat) (w : World) (ht : t ≤ 800000) (hc : Cur w g a n cap X t) :
    Calls Try.prog 69 #[.pointer (some ⟨g, 0, none⟩)] w fun r w' => ∃ (kd fr dt tx : Int) (key val : ByteArray) (e s : Int) (b : Bool), (key.size ≤ 21 ∧ val.size ≤ 21) ∧ r = .returned (msgA kd fr dt tx key val e s b) ∧ Drew g a n cap X (t + 40) w w' := by
  have hg : g < w.heap.size := hc.2.2.2.2.2.1
  have HC : Hid (Cur w g a n cap X t) := hc
  clear hc
  obtain ⟨Z, hZ⟩ : ∃ Z : List Value, Z = [.int .i64 0, .int .i64 0, .int .i64 0, .int .i64 0, .string ⟨#[]⟩, .string ⟨#[]⟩, .int .i64 0, .int .i64 0, .bool false] := ⟨_, rfl⟩
  have H0 : Hid (T9 (w.alloc (.cells #[.int .i64 0, .int .i64 0, .int .i64 0, .int .i64 0, .string ⟨#[]⟩, .string ⟨#[]⟩, .int .i64 0, .int .i64 0, .bool false] 43)) w.heap.size Z) := by have := T9.new w Z 43; rw [hZ] at this ⊢; exact this
  have HZ : Hid (Z = [.int .i64 0, .int .i64 0, .int .i64 0, .int .i64 0, .string ⟨#[]⟩, .string ⟨#[]⟩, .int .i64 0, .int .i64 0, .bool false]) := hZ
  clear hZ
  go_enter Try.func69, Try.ntmps69
  go_wp2_with fail
  refine (pick_any _ _ _ _ _ _ _ _ (by omega) (by omega) (HC.out.next (Go.Joins.below_alloc1 _ _))).mono ?_
  rintro r w1 ⟨x0, _, rfl, hd⟩
  have H1 : Hid (Drew g a n cap X (t + 2) w w1 ∧ T9 w1 w.heap.size Z) := ⟨⟨hd.1, ((Trn.refl _ _ _).alloc _).trans hd.2⟩, H0.out.trn hd.2 (by omega)⟩
  clear hd HC H0
  go_wp2_with fail
  refine (pick_any _ _ _ _ _ _ _ _ (by omega) (by omega) H1.out.1.1).mono ?_
  rintro r w2 ⟨fr, _, rfl, hd⟩
  have H2 : Hid (Drew g a n cap X (t + 4) w w2 ∧ T9 w2 w.heap.size Z) := ⟨H1.out.1.trans hd, H1.out.2.trn hd.2 (by omega)⟩
  clear hd H1
  go_wp2_with fail
  refine (pick_any _ _ _ _ _ _ _ _ (by omega) (by omega) H2.out.1.1).mono ?_
  rintro r w3 ⟨dt, _, rfl, hd⟩
  have H3 : Hid (Drew g a n cap X (t + 6) w w3 ∧ T9 w3 w.heap.size Z) := ⟨H2.out.1.trans hd, H2.out.2.trn hd.2 (by omega)⟩
  clear hd H2
  go_wp2_with fail
  refine (pick_any _ _ _ _ _ _ _ _ (by omega) (by omega) H3.out.1.1).mono ?_
  rintro r w4 ⟨tx, _, rfl, hd⟩
  have H4 : Hid (Drew g a n cap X (t + 8) w w4 ∧ T9 w4 w.heap.size Z) := ⟨H3.out.1.trans hd, H3.out.2.trn hd.2 (by omega)⟩
  clear hd H3
  go_wp2_with fail
  refine (key_any _ _ _ _ _ _ _ (by omega) H4.out.1.1).mono ?_
  rintro r w5 ⟨key, hkey, rfl, hd⟩
  have H5 : Hid (Drew g a n cap X (t + 12) w w5 ∧ T9 w5 w.heap.size Z) := ⟨H4.out.1.trans hd, H4.out.2.trn hd.2 (by omega)⟩
  clear hd H4
  go_wp2_with fail
  refine (value_any _ _ _ _ _ _ _ (by omega) H5.out.1.1).mono ?_
  rintro r w6 ⟨val, hval, rfl, hd⟩
  have H6 : Hid (Drew g a n cap X (t + 16) w w6 ∧ T9 w6 w.heap.size Z) := ⟨H5.out.1.trans hd, H5.out.2.trn hd.2 (by omega)⟩
  clear hd H5
  go_wp2_with fail
  refine (tid_any _ _ _ _ _ _ _ (by omega) H6.out.1.1).mono ?_
  rintro r w7 ⟨e, s, b, rfl, hd⟩
  have H7 : Hid (Drew g a n cap X (t + 26) w w7 ∧ T9 w7 w.heap.size Z) := ⟨H6.out.1.trans hd, H6.out.2.trn hd.2 (by omega)⟩
  clear hd H6
  have hz7 : g < w7.heap.size := Nat.lt_of_lt_of_le hg H7.out.1.2.2.2.2.1
  go_wp2_with fail
  refine (pick_any _ _ _ _ _ _ _ _ (by omega) (by omega) (H7.out.1.1.next (Go.Joins.below_alloc1 _ _))).mono ?_
  rintro r w8 ⟨x8, _, rfl, hd⟩
  have H8 : Hid (Drew g a n cap X (t + 28) w w8 ∧ T9 w8 w.heap.size Z ∧ T9 w8 w7.heap.size [.int .i64 (1 + x0), .int .i64 fr, .int .i64 dt, .int .i64 tx, .string key, .string val, .int .i64 e, .int .i64 s, .bool b]) := ⟨⟨hd.1, (H7.out.1.2.alloc _).trans hd.2⟩, (H7.out.2.next (Go.Joins.below_alloc1 _ _)).trn hd.2 (by omega), (T9.new w7 [.int .i64 (1 + x0), .int .i64 fr, .int .i64 dt, .int .i64 tx, .string key, .string val, .int .i64 e, .int .i64 s, .bool b] 43).trn hd.2 (by omega)⟩
  clear hd
  have hz8 : w7.heap.size < w8.heap.size := H8.out.2.2.2
  have hr7 : w.heap.size < w7.heap.size := H7.out.2.2
  clear H7
  by_cases h0 : x8 = 0
  · subst h0
    go_wp2_with fail
    refine (amongN_any g a n cap X (t + 28) w8.heap.size _ 2 (fun i => [0, 9].getD i 0) _ (by omega) (H8.out.1.1.next (Go.Joins.below_alloc1 _ _)) (by omega) (by simp) (by omega) (by omega) (int_new w8 [0, 9] _)).mono ?_
    rintro r w9 ⟨y, rfl, hd⟩
    have H9 : Hid (Drew g a n cap X (t + 40) w w9) := (Drew.up (t := t + 28 + 2) ⟨hd.1, (H8.out.1.2.alloc _).trans hd.2⟩ (by omega))
    have hR := (H8.out.2.1.next (Go.Joins.below_alloc1 w8 _)).trn hd.2 (by omega)
    rw [HZ.out] at hR
    obtain ⟨⟨r0, r1, r2, r3, r4, r5, r6, r7, r8⟩, ⟨q0, q1, q2, q3, q4, q5, q6, q7, q8⟩, hrz⟩ := hR.all
    obtain ⟨⟨c0, c1, c2, c3, c4, c5, c6, c7, c8⟩, ⟨f0, f1, f2, f3, f4, f5, f6, f7, f8⟩, hcz⟩ := ((H8.out.2.2.next (Go.Joins.below_alloc1 w8 _)).trn hd.2 (by omega)).all
    clear hd H8 hR HZ
    go_wp2
    exact bodyPost_ret (v := .agg #[.int .i64 y, .int .i64 fr, .int .i64 dt, .int .i64 tx, .string key, .string val, .int .i64 e, .int .i64 s, .bool b]) (by simp [results, Try.results69, go_sem, *]) rfl ⟨_, _, _, _, _, _, _, _, _, ⟨hkey, hval⟩, rfl, ((((((((((H9.out.out hg (by omega) _).out hg (Nat.le_refl _) _).out hg (Nat.le_refl _) _).out hg (Nat.le_refl _) _).out hg (Nat.le_refl _) _).out hg (Nat.le_refl _) _).out hg (Nat.le_refl _) _).out hg (Nat.le_refl _) _).out hg (Nat.le_refl _) _).out hg (Nat.le_refl _) _)⟩
  by_cases h1 : x8 = 1
  · subst h1
    go_wp2_with fail
    refine (amongN_any g a n cap X (t + 28) w8.heap.size _ 3 (fun i => [(-1), 65535, 65536].getD i 0) _ (by omega) (H8.out.1.1.next (Go.Joins.below_alloc1 _ _)) (by omega) (by simp) (by omega) (by omega) (int_new w8 [(-1), 65535, 65536] _)).mono ?_
    rintro r w9 ⟨y, rfl, hd⟩
    have H9 : Hid (Drew g a n cap X (t + 40) w w9) := (Drew.up (t := t + 28 + 2) ⟨hd.1, (H8.out.1.2.alloc _).trans hd.2⟩ (by omega))
    have hR := (H8.out.2.1.next (Go.Joins.below_alloc1 w8 _)).trn hd.2 (by omega)
    rw [HZ.out] at hR
    obtain ⟨⟨r0, r1, r2, r3, r4, r5, r6, r7, r8⟩, ⟨q0, q1, q2, q3, q4, q5, q6, q7, q8⟩, hrz⟩ := hR.all
    obtain ⟨⟨c0, c1, c2, c3, c4, c5, c6, c7, c8⟩, ⟨f0, f1, f2, f3, f4, f5, f6, f7, f8⟩, hcz⟩ := ((H8.out.2.2.next (Go.Joins.below_alloc1 w8 _)).trn hd.2 (by omega)).all
    clear hd H8 hR HZ
    go_wp2
    exact bodyPost_ret (v := .agg #[.int .i64 (1 + x0), .int .i64 fr, .int .i64 dt, .int .i64 y, .string key, .string val, .int .i64 e, .int .i64 s, .bool b]) (by simp [results, Try.results69, go_sem, *]) rfl ⟨_, _, _, _, _, _, _, _, _, ⟨hkey, hval⟩, rfl, ((((((((((H9.out.out hg (by omega) _).out hg (Nat.le_refl _) _).out hg (Nat.le_refl _) _).out hg (Nat.le_refl _) _).out hg (Nat.le_refl _) _).out hg (Nat.le_refl _) _).out hg (Nat.le_refl _) _).out hg (Nat.le_refl _) _).out hg (Nat.le_refl _) _).out hg (Nat.le_refl _) _)⟩
  by_cases h2 : x8 = 2
  · subst h2
    go_wp2_with fail
    refine (amongN_any g a n cap X (t + 28) w8.heap.size _ 3 (fun i => [(-1), 255, 256].getD i 0) _ (by omega) (H8.out.1.1.next (Go.Joins.below_alloc1 _ _)) (by omega) (by simp) (by omega) (by omega) (int_new w8 [(-1), 255, 256] _)).mono ?_
    rintro r w9 ⟨y, rfl, hd⟩
    have H9 : Hid (Drew g a n cap X (t + 40) w w9) := (Drew.up (t := t + 28 + 2) ⟨hd.1, (H8.out.1.2.alloc _).trans hd.2⟩ (by omega))
    have hR := (H8.out.2.1.next (Go.Joins.below_alloc1 w8 _)).trn hd.2 (by omega)
    rw [HZ.out] at hR
    obtain ⟨⟨r0, r1, r2, r3, r4, r5, r6, r7, r8⟩, ⟨q0, q1, q2, q3, q4, q5, q6, q7, q8⟩, hrz⟩ := hR.all
    obtain ⟨⟨c0, c1, c2, c3, c4, c5, c6, c7, c8⟩, ⟨f0, f1, f2, f3, f4, f5, f6, f7, f8⟩, hcz⟩ := ((H8.out.2.2.next (Go.Joins.below_alloc1 w8 _)).trn hd.2 (by omega)).all
    clear hd H8 hR HZ
    go_wp2
    exact bodyPost_ret (v := .agg #[.int .i64 (1 + x0), .int .i64 y, .int .i64 dt, .int .i64 tx, .string key, .string val, .int .i64 e, .int .i64 s, .bool b]) (by simp [results, Try.results69, go_sem, *]) rfl ⟨_, _, _, _, _, _, _, _, _, ⟨hkey, hval⟩, rfl, ((((((((((H9.out.out hg (by omega) _).out hg (Nat.le_refl _) _).out hg (Nat.le_refl _) _).out hg (Nat.le_refl _) _).out hg (Nat.le_refl _) _).out hg (Nat.le_refl _) _).out hg (Nat.le_refl _) _).out hg (Nat.le_refl _) _).out hg (Nat.le_refl _) _).out hg (Nat.le_refl _) _)⟩
  have hR := H8.out.2.1
  rw [HZ.out] at hR
  obtain ⟨⟨r0, r1, r2, r3, r4, r5, r6, r7, r8⟩, ⟨q0, q1, q2, q3, q4, q5, q6, q7, q8⟩, hrz⟩ := hR.all
  obtain ⟨⟨c0, c1, c2, c3, c4, c5, c6, c7, c8⟩, ⟨f0, f1, f2, f3, f4, f5, f6, f7, f8⟩, hcz⟩ := H8.out.2.2.all
  have H9 : Hid (Drew g a n cap X (t + 40) w w8) := H8.out.1.up (by omega)
  clear H8 hR HZ
  go_wp2
  exact bodyPost_ret (v := .agg #[.int .i64 (1 + x0), .int .i64 fr, .int .i64 dt, .int .i64 tx, .string key, .string val, .int .i64 e, .int .i64 s, .bool b]) (by simp [results, Try.results69, go_sem, *]) rfl ⟨_, _, _, _, _, _, _, _, _, ⟨hkey, hval⟩, rfl, (((((((((H9.out.out hg (Nat.le_refl _) _).out hg (Nat.le_refl _) _).out hg (Nat.le_refl _) _).out hg (Nat.le_refl _) _).out hg (Nat.le_refl _) _).out hg (Nat.le_refl _) _).out hg (Nat.le_refl _) _).out hg (Nat.le_refl _) _).out hg (Nat.le_refl _) _)⟩
end Go.Proofs.Ytbklhmeaoigneaa
