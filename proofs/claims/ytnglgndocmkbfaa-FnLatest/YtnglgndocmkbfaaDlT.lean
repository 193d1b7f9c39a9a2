/- Draws of latest ones: value, latest, DrawMergeLatest. -/
import Derived.Test.YtnglgndocmkbfaaDrA
import Derived.Test.YtnglgndocmkbfaaShDv
namespace Go.Proofs.Ytnglgndocmkbfaa
open Go.RowKit
set_option linter.unusedVariables false
set_option linter.unusedSimpArgs false

set_option maxHeartbeats 400000 in
theorem of_any (g : Nat) (a : Option Addr) (n cap : Nat) (X : Nat → Int) (t : Nat) (l lc m : Nat) (Z : Nat → ByteArray) (w : World) (ht : t ≤ 999990) (hc : Cur w g a n cap X t) (hl : l ≠ g) (hls : l < w.heap.size) (hm : 0 < m) (hm5 : m ≤ 5)
    (cs : ∀ i, i < m → w.cell? ⟨l, i, none⟩ = some (.string (Z i))) (zs : ∀ i, i < m → (Z i).size ≤ 21) :
    Calls Try.prog 124 #[.pointer (some ⟨g, 0, none⟩), .slice (some ⟨l, 0, none⟩) m lc] w fun r w' => ∃ s : ByteArray, s.size ≤ 21 ∧ r = .returned (.string s) ∧ Drew g a n cap X (t + 2) w w' := by
  have HC : Hid (Cur w g a n cap X t) := hc
  have HZ : Hid ((∀ i, i < m → w.cell? ⟨l, i, none⟩ = some (.string (Z i))) ∧ ∀ i, i < m → (Z i).size ≤ 21) := ⟨cs, zs⟩
  clear hc cs zs
  go_enter Try.func124, Try.ntmps124
  go_wp2_with fail
  refine (pick_any _ _ _ _ _ _ _ _ ht (by omega) HC.out).mono ?_
  rintro r w1 ⟨x, hx, rfl, hd⟩
  obtain ⟨i, him, hix⟩ : ∃ i : Nat, i < m ∧ x = (i : Int) := ⟨x.toNat, by omega, by omega⟩
  subst hix
  have H1 : Hid (Drew g a n cap X (t + 2) w w1) := hd
  have c0 := (World.cell?_of_block (a := ⟨l, i, none⟩) (hd.2.2.2.2.2 l hls (by omega))).trans (HZ.out.1 i him)
  have hz := HZ.out.2 i him
  have him' : (i : Int) < (m : Int) := by omega
  clear hd HC HZ
  go_wp2
  go_ret
  exact ⟨Z i, hz, rfl, H1.out⟩
/-- The cells of a list of texts that was just laid. -/
theorem str_new (w : World) (L : List ByteArray) (e : TypeId) : ∀ i, i < L.length → (w.alloc (.cells (L.map Value.string).toArray e)).cell? ⟨w.heap.size, i, none⟩ = some (.string (L.getD i ⟨#[]⟩)) := by
  intro i hi
  have := cells_new w (L.map Value.string) e i (.string (L.getD i ⟨#[]⟩)) (by simp [List.getD, hi])
  have e1 : ((⟨w.heap.size, 0, none⟩ : Addr).add i) = ⟨w.heap.size, i, none⟩ := by unfold Addr.add; split <;> simp_all
  rw [e1] at this
  exact this
theorem str_small {L : List ByteArray} (h : L.all (fun s => decide (s.size ≤ 21)) = true) : ∀ i, i < L.length → (L.getD i ⟨#[]⟩).size ≤ 21 := by
  intro i hi
  have := List.all_eq_true.1 h (L[i]) (List.getElem_mem hi)
  simpa [List.getD, hi] using this
set_option maxRecDepth 100000 in
set_option maxHeartbeats 1000000 in
theorem value_any (g : Nat) (a : Option Addr) (n cap : Nat) (X : Nat → Int) (t : Nat) (w : World) (ht : t ≤ 900000) (hc : Cur w g a n cap X t) :
    Calls Try.prog 88 #[.pointer (some ⟨g, 0, none⟩)] w fun r w' => ∃ s : ByteArray, s.size ≤ 21 ∧ r = .returned (.string s) ∧ Drew g a n cap X (t + 4) w w' := by
  have hg : g < w.heap.size := hc.2.2.2.2.2.1
  have HC : Hid (Cur w g a n cap X t) := hc
  clear hc
  go_enter Try.func88, Try.ntmps88
  go_wp2_with fail
  refine (one_any _ _ _ _ _ _ _ _ (by omega) (by omega) HC.out).mono ?_
  rintro r w1 ⟨b, rfl, hd⟩
  have H1 : Hid (Drew g a n cap X (t + 2) w w1) := hd
  have hz1 : g < w1.heap.size := hd.1.2.2.2.2.2.1
  clear hd HC
  cases b
  · go_wp2_with fail
    refine (of_any g a n cap X (t + 2) w1.heap.size _ 5 (fun i => [⟨#[49]⟩, ⟨#[50]⟩, ⟨#[]⟩, ⟨#[118, 32, 119]⟩, ⟨#[120]⟩].getD i ⟨#[]⟩) _ (by omega) (H1.out.1.next (Go.Joins.below_alloc1 _ _)) (by omega) (by simp) (by omega) (by omega) (str_new w1 [⟨#[49]⟩, ⟨#[50]⟩, ⟨#[]⟩, ⟨#[118, 32, 119]⟩, ⟨#[120]⟩] _) (str_small (L := [⟨#[49]⟩, ⟨#[50]⟩, ⟨#[]⟩, ⟨#[118, 32, 119]⟩, ⟨#[120]⟩]) rfl)).mono ?_
    rintro r w2 ⟨s, hs, rfl, hd⟩
    have H2 : Hid (Drew g a n cap X (t + 4) w w2) := ⟨hd.1, (H1.out.2.alloc _).trans hd.2⟩
    clear hd H1
    go_wp2
    go_ret
    exact ⟨s, hs, rfl, H2.out⟩
  · go_wp2_with fail
    refine (of_any g a n cap X (t + 2) w1.heap.size _ 3 (fun i => [⟨#[97, 59, 98]⟩, ⟨#[10]⟩, ⟨#[49, 50, 51, 52, 53, 54, 55, 56, 57, 48, 49, 50, 51, 52, 53, 54, 55, 56, 57, 48, 49]⟩].getD i ⟨#[]⟩) _ (by omega) (H1.out.1.next (Go.Joins.below_alloc1 _ _)) (by omega) (by simp) (by omega) (by omega) (str_new w1 [⟨#[97, 59, 98]⟩, ⟨#[10]⟩, ⟨#[49, 50, 51, 52, 53, 54, 55, 56, 57, 48, 49, 50, 51, 52, 53, 54, 55, 56, 57, 48, 49]⟩] _) (str_small (L := [⟨#[97, 59, 98]⟩, ⟨#[10]⟩, ⟨#[49, 50, 51, 52, 53, 54, 55, 56, 57, 48, 49, 50, 51, 52, 53, 54, 55, 56, 57, 48, 49]⟩]) rfl)).mono ?_
    rintro r w2 ⟨s, hs, rfl, hd⟩
    have H2 : Hid (Drew g a n cap X (t + 4) w w2) := ⟨hd.1, (H1.out.2.alloc _).trans hd.2⟩
    clear hd H1
    go_wp2
    go_ret
    exact ⟨s, hs, rfl, H2.out⟩

theorem drew_turn {g : Nat} {a : Option Addr} {n cap : Nat} {X : Nat → Int} {t : Nat} {w w' : World} (h : Drew g a n cap X t w w') : TurnS (fun k => k = g) w w' := ⟨h.2.1, h.2.2.1, h.2.2.2.1, h.2.2.2.2.1, fun k hk hx => h.2.2.2.2.2 k hk (by have hx : k ≠ g := hx; omega)⟩

set_option maxRecDepth 100000 in
set_option maxHeartbeats 1000000 in
theorem latest_any (g : Nat) (a : Option Addr) (n cap : Nat) (X : Nat → Int) (t : Nat) (w : World) (ht : t ≤ 900000) (hc : Cur w g a n cap X t) :
    Calls Try.prog 71 #[.pointer (some ⟨g, 0, none⟩)] w fun r w' => ∃ (s : ByteArray) (x y : Int), s.size ≤ 21 ∧ r = .returned (.agg #[.string s, .int .i64 x, .int .i64 y]) ∧ Drew g a n cap X (t + 16) w w' := by
  have hg : g < w.heap.size := hc.2.2.2.2.2.1
  obtain ⟨w0, hw0⟩ : ∃ x, x = w.alloc (.cells #[.string ⟨#[]⟩, .int .i64 0, .int .i64 0] 39) := ⟨_, rfl⟩
  have hb0 : Below w.heap.size w w0 := hw0 ▸ Go.Joins.below_alloc1 _ _
  have HZ : Hid (Bx w0 w.heap.size [.string ⟨#[]⟩, .int .i64 0, .int .i64 0] ∧ Drew g a n cap X t w w0) := ⟨hw0 ▸ Bx.new w [_, _, _] _, hc.next hb0, (Trn.refl _ _ _).next hb0⟩
  clear hc hb0
  go_enter Try.func71, Try.ntmps71
  go_wp2_with fail
  rw [← hw0]
  clear hw0
  refine (value_any g a n cap X t _ (by omega) HZ.out.2.1).mono ?_
  rintro r w1 ⟨s, hs, rfl, hd⟩
  have H1 : Hid (Bx w1 w.heap.size [.string ⟨#[]⟩, .int .i64 0, .int .i64 0] ∧ Drew g a n cap X (t + 4) w w1) := ⟨HZ.out.1.trn hd.2 (by omega), HZ.out.2.trans hd⟩
  clear hd HZ
  go_wp2_with fail
  refine (pick_any g a n cap X (t + 4) _ _ (by omega) (by omega) H1.out.2.1).mono ?_
  rintro r w2 ⟨x, hx, rfl, hd⟩
  have H2 : Hid (Bx w2 w.heap.size [.string ⟨#[]⟩, .int .i64 0, .int .i64 0] ∧ Drew g a n cap X (t + 6) w w2) := ⟨H1.out.1.trn hd.2 (by omega), H1.out.2.trans hd⟩
  clear hd H1 hx
  go_wp2_with fail
  refine (pick_any g a n cap X (t + 6) _ _ (by omega) (by omega) H2.out.2.1).mono ?_
  rintro r w3 ⟨y, hy, rfl, hd⟩
  have H3 : Hid (Bx w3 w.heap.size [.string ⟨#[]⟩, .int .i64 0, .int .i64 0] ∧ Drew g a n cap X (t + 8) w w3) := ⟨H2.out.1.trn hd.2 (by omega), H2.out.2.trans hd⟩
  clear hd H2 hy
  have hgw3 : g < w3.heap.size := H3.out.2.1.2.2.2.2.2.1
  have hw3 : w.heap.size < w3.heap.size := H3.out.1.2
  obtain ⟨w4, hw4⟩ : ∃ q, q = w3.alloc (.cells #[.string s, .int .i64 x, .int .i64 y] 39) := ⟨_, rfl⟩
  obtain ⟨b4, hb4⟩ : ∃ q, q = w3.heap.size := ⟨_, rfl⟩
  have hb : Below w3.heap.size w3 w4 := hw4 ▸ Go.Joins.below_alloc1 _ _
  have H4 : Hid (Bx w4 b4 [.string s, .int .i64 x, .int .i64 y] ∧ Bx w4 w.heap.size [.string ⟨#[]⟩, .int .i64 0, .int .i64 0] ∧ Drew g a n cap X (t + 8) w w4) := ⟨hb4 ▸ hw4 ▸ Bx.new w3 [_, _, _] _, H3.out.1.next hb, H3.out.2.1.next hb, H3.out.2.2.next hb⟩
  have hb4g : g < b4 := by omega
  have hb4w : w.heap.size < b4 := by omega
  clear hb H3 hw3 hgw3
  go_upto_region 2 with fail
  rw [← hw4, ← hb4]
  clear hw4 hb4
  go_wp2_with fail
  refine (one_any g a n cap X (t + 8) _ _ (by omega) (by omega) H4.out.2.2.1).mono ?_
  rintro r w5 ⟨b, rfl, hd⟩
  have H5 : Hid (Bx w5 b4 [.string s, .int .i64 x, .int .i64 y] ∧ Bx w5 w.heap.size [.string ⟨#[]⟩, .int .i64 0, .int .i64 0] ∧ Drew g a n cap X (t + 10) w w5) := ⟨H4.out.1.trn hd.2 (by omega), H4.out.2.1.trn hd.2 (by omega), H4.out.2.2.trans hd⟩
  clear hd H4
  cases b
  · have s0 := (H5.out.1).cell 0 rfl; have s1 := (H5.out.1).cell 1 rfl; have s2 := (H5.out.1).cell 2 rfl; have sz := (H5.out.1).2
    have r0 := (H5.out.2.1).cell 0 rfl; have r1 := (H5.out.2.1).cell 1 rfl; have r2 := (H5.out.2.1).cell 2 rfl; have rz := (H5.out.2.1).2
    have f0 := H5.out.2.1.frz 0 (by simp)
    have f1 := H5.out.2.1.frz 1 (by simp)
    have f2 := H5.out.2.1.frz 2 (by simp)
    have hne : b4 ≠ w.heap.size := by omega
    have HF : Hid (∀ u0 u1 u2, Drew g a n cap X (t + 16) w (((w5.setCell ⟨w.heap.size, 0, none⟩ u0).setCell ⟨w.heap.size, 1, none⟩ u1).setCell ⟨w.heap.size, 2, none⟩ u2)) := Hid.intro (fun u0 u1 u2 => (((H5.out.2.2.out hg (Nat.le_refl _) u0).out hg (Nat.le_refl _) u1).out hg (Nat.le_refl _) u2).up (by omega))
    go_wp2
    exact bodyPost_ret (v := .agg #[.string s, .int .i64 x, .int .i64 y]) (by simp [results, Try.results71, go_sem, *]) rfl ⟨s, x, y, hs, rfl, HF.out _ _ _⟩
  · have hz5 : b4 < w5.heap.size := H5.out.1.2
    obtain ⟨w6, hw6⟩ : ∃ q, q = w5.alloc (.cells #[.int .i64 (-1), .int .i64 1000000, .int .i64 1000001] 3) := ⟨_, rfl⟩
    obtain ⟨b6, hb6⟩ : ∃ q, q = w5.heap.size := ⟨_, rfl⟩
    have hb : Below w5.heap.size w5 w6 := hw6 ▸ Go.Joins.below_alloc1 _ _
    have H6 : Hid (Bx w6 b6 [.int .i64 (-1), .int .i64 1000000, .int .i64 1000001] ∧ Bx w6 b4 [.string s, .int .i64 x, .int .i64 y] ∧ Bx w6 w.heap.size [.string ⟨#[]⟩, .int .i64 0, .int .i64 0] ∧ Drew g a n cap X (t + 10) w w6) := ⟨hb6 ▸ hw6 ▸ Bx.new w5 [_, _, _] _, H5.out.1.next hb, H5.out.2.1.next hb, H5.out.2.2.1.next hb, H5.out.2.2.2.next hb⟩
    have hb6g : b6 ≠ g := by omega
    clear hb H5 hz5
    go_wp2_with fail
    rw [← hw6, ← hb6]
    clear hw6 hb6
    refine (among_any g a n cap X (t + 10) b6 _ (-1) 1000000 1000001 _ (by omega) H6.out.2.2.2.1 hb6g H6.out.1.2 (H6.out.1.cell 0 rfl) (H6.out.1.cell 1 rfl) (H6.out.1.cell 2 rfl)).mono ?_
    rintro r w7 ⟨z, rfl, hd⟩
    have H7 : Hid (Bx w7 b4 [.string s, .int .i64 x, .int .i64 y] ∧ Bx w7 w.heap.size [.string ⟨#[]⟩, .int .i64 0, .int .i64 0] ∧ Drew g a n cap X (t + 12) w w7) := ⟨H6.out.2.1.trn hd.2 (by omega), H6.out.2.2.1.trn hd.2 (by omega), H6.out.2.2.2.trans hd⟩
    clear hd H6
    have s0 := (H7.out.1).cell 0 rfl; have s1 := (H7.out.1).cell 1 rfl; have s2 := (H7.out.1).cell 2 rfl; have sz := (H7.out.1).2
    have g1 := H7.out.1.frz 1 (by simp)
    have r0 := (H7.out.2.1).cell 0 rfl; have r1 := (H7.out.2.1).cell 1 rfl; have r2 := (H7.out.2.1).cell 2 rfl; have rz := (H7.out.2.1).2
    have f0 := H7.out.2.1.frz 0 (by simp)
    have f1 := H7.out.2.1.frz 1 (by simp)
    have f2 := H7.out.2.1.frz 2 (by simp)
    have hne : b4 ≠ w.heap.size := by omega
    have HF : Hid (∀ v u0 u1 u2, Drew g a n cap X (t + 16) w ((((w7.setCell ⟨b4, 1, none⟩ v).setCell ⟨w.heap.size, 0, none⟩ u0).setCell ⟨w.heap.size, 1, none⟩ u1).setCell ⟨w.heap.size, 2, none⟩ u2)) := Hid.intro (fun v u0 u1 u2 => ((((H7.out.2.2.out hg (Nat.le_of_lt hb4w) v).out hg (Nat.le_refl _) u0).out hg (Nat.le_refl _) u1).out hg (Nat.le_refl _) u2).up (by omega))
    go_wp2
    exact bodyPost_ret (v := .agg #[.string s, .int .i64 z, .int .i64 y]) (by simp [results, Try.results71, go_sem, *]) rfl ⟨s, z, y, hs, rfl, HF.out _ _ _ _⟩

set_option maxRecDepth 100000 in
set_option maxHeartbeats 1000000 in
theorem drawLatest_any (a : Option Addr) (n cap : Nat) (X : Nat → Int) (w : World) (hn : n ≤ 9223372036854775807) (hs : Sl w a n 1 (byF X)) (hX : ∀ i, i < n → 0 ≤ X i ∧ X i ≤ 255) :
    Calls Try.prog 25 #[.slice a n cap] w fun r w' => (∃ (s : ByteArray) (x y : Int) (s' : ByteArray) (x' y' : Int), s.size ≤ 21 ∧ s'.size ≤ 21 ∧ r = .returned (.tuple #[.agg #[.string s, .int .i64 x, .int .i64 y], .agg #[.string s', .int .i64 x', .int .i64 y']])) ∧ Below w.heap.size w w' := by
  obtain ⟨w0, hw0⟩ : ∃ x, x = ((w.alloc (.cells #[.string ⟨#[]⟩, .int .i64 0, .int .i64 0] 39)).alloc (.cells #[.string ⟨#[]⟩, .int .i64 0, .int .i64 0] 39)).alloc (.cells #[.slice a n cap, .int .i64 0, .int .u64 0] 90) := ⟨_, rfl⟩
  obtain ⟨wb, hwb⟩ : ∃ x, x = (w.alloc (.cells #[.string ⟨#[]⟩, .int .i64 0, .int .i64 0] 39)).alloc (.cells #[.string ⟨#[]⟩, .int .i64 0, .int .i64 0] 39) := ⟨_, rfl⟩
  have hbz : wb.heap.size = w.heap.size + 1 + 1 := by rw [hwb]; simp
  have hbb : Below w.heap.size w wb := hwb ▸ ((Below.refl _ _).alloc (Nat.le_refl _) _).alloc (by simp) _
  have hb0 : Below wb.heap.size wb w0 := by rw [hw0, ← hwb]; exact Go.Joins.below_alloc1 _ _
  have hC : Cur w0 (w.heap.size + 1 + 1) a n cap X 0 := by rw [hw0, ← hwb, ← hbz]; exact Cur.new _ (hs.kept hbb) hn hX
  have HZ : Hid (Cur w0 (w.heap.size + 1 + 1) a n cap X 0 ∧ Bx w0 w.heap.size [.string ⟨#[]⟩, .int .i64 0, .int .i64 0] ∧ Bx w0 (w.heap.size + 1) [.string ⟨#[]⟩, .int .i64 0, .int .i64 0] ∧ Below w.heap.size w w0) := ⟨hC, (hwb ▸ (Bx.new w [_, _, _] _).alloc _ : Bx wb _ _).next hb0, (hwb ▸ Bx.newAt (by simp) : Bx wb (w.heap.size + 1) _).next hb0, below_next hbb hb0⟩
  clear hs hX hC hb0 hbb hwb hbz wb
  go_enter Try.func25, Try.ntmps25
  go_wp2_with fail
  rw [← hw0]
  clear hw0
  refine (latest_any _ a n cap X 0 _ (by omega) HZ.out.1).mono ?_
  rintro r w1 ⟨s, x, y, hs, rfl, hd⟩
  have H1 : Hid (Cur w1 (w.heap.size + 1 + 1) a n cap X 16 ∧ Bx w1 w.heap.size [.string ⟨#[]⟩, .int .i64 0, .int .i64 0] ∧ Bx w1 (w.heap.size + 1) [.string ⟨#[]⟩, .int .i64 0, .int .i64 0] ∧ Below w.heap.size w w1) := ⟨hd.1, HZ.out.2.1.trn hd.2 (by omega), HZ.out.2.2.1.trn hd.2 (by omega), HZ.out.2.2.2.trans (TurnS.below (S := fun k => k = w.heap.size + 1 + 1) (drew_turn hd) (fun k e => by have e : k = w.heap.size + 1 + 1 := e; omega) HZ.out.2.2.2.size)⟩
  clear hd HZ
  go_wp2_with fail
  refine (latest_any _ a n cap X 16 _ (by omega) H1.out.1).mono ?_
  rintro r w2 ⟨s', x', y', hs', rfl, hd⟩
  have H2 : Hid (Bx w2 w.heap.size [.string ⟨#[]⟩, .int .i64 0, .int .i64 0] ∧ Bx w2 (w.heap.size + 1) [.string ⟨#[]⟩, .int .i64 0, .int .i64 0] ∧ Below w.heap.size w w2) := ⟨H1.out.2.1.trn hd.2 (by omega), H1.out.2.2.1.trn hd.2 (by omega), H1.out.2.2.2.trans (TurnS.below (S := fun k => k = w.heap.size + 1 + 1) (drew_turn hd) (fun k e => by have e : k = w.heap.size + 1 + 1 := e; omega) H1.out.2.2.2.size)⟩
  clear hd H1
  have s0 := (H2.out.1).cell 0 rfl; have s1 := (H2.out.1).cell 1 rfl; have s2 := (H2.out.1).cell 2 rfl; have sz := (H2.out.1).2
  have f0 := H2.out.1.frz 0 (by simp)
  have f1 := H2.out.1.frz 1 (by simp)
  have f2 := H2.out.1.frz 2 (by simp)
  have r0 := (H2.out.2.1).cell 0 rfl; have r1 := (H2.out.2.1).cell 1 rfl; have r2 := (H2.out.2.1).cell 2 rfl; have rz := (H2.out.2.1).2
  have g0 := H2.out.2.1.frz 0 (by simp)
  have g1 := H2.out.2.1.frz 1 (by simp)
  have g2 := H2.out.2.1.frz 2 (by simp)
  have HF : Hid (∀ u0 u1 u2 v0 v1 v2, Below w.heap.size w ((((((w2.setCell ⟨w.heap.size, 0, none⟩ u0).setCell ⟨w.heap.size, 1, none⟩ u1).setCell ⟨w.heap.size, 2, none⟩ u2).setCell ⟨w.heap.size + 1, 0, none⟩ v0).setCell ⟨w.heap.size + 1, 1, none⟩ v1).setCell ⟨w.heap.size + 1, 2, none⟩ v2)) := Hid.intro (fun u0 u1 u2 v0 v1 v2 => (((((H2.out.2.2.setCell (p := ⟨_, _, none⟩) (Nat.le_refl _) _).setCell (p := ⟨_, _, none⟩) (Nat.le_refl _) _).setCell (p := ⟨_, _, none⟩) (Nat.le_refl _) _).setCell (p := ⟨_, _, none⟩) (Nat.le_succ _) _).setCell (p := ⟨_, _, none⟩) (Nat.le_succ _) _).setCell (p := ⟨_, _, none⟩) (Nat.le_succ _) _)
  go_wp2
  exact bodyPost_ret (v := .tuple #[.agg #[.string s, .int .i64 x, .int .i64 y], .agg #[.string s', .int .i64 x', .int .i64 y']]) (by simp [results, Try.results25, go_sem, *]) rfl ⟨⟨s, x, y, s', x', y', hs, hs', rfl⟩, HF.out _ _ _ _ _ _⟩
end Go.Proofs.Ytnglgndocmkbfaa
