/- The contract of AheadOf. -/
import Derived.Test.YtjophhiccbkpjaaVcW
import Derived.BigQuiet
import Derived.Deep.QuietTactic
namespace Go.Proofs.Ytjophhiccbkpjaa
open Go.RowKit
set_option linter.unusedVariables false

def ahOk (K P M : Nat → Int) (n : Nat) (i j : Int) : Bool := goodE K P M n && (inR i 0 ((n : Int) - 1) && inR j 0 ((n : Int) - 1))
def ahB (K P M : Nat → Int) (n : Nat) (i j : Int) : Bool := ahOk K P M n i j && ahd K P M i.toNat j.toNat
def AhPost (K P M : Nat → Int) (n : Nat) (i j : Int) (w : World) (r : Ending) (w' : World) : Prop := r = .returned (.tuple #[.bool (ahB K P M n i j), .bool (ahOk K P M n i j)]) ∧ Below w.heap.size w w'
theorem ah_no {K P M : Nat → Int} {n : Nat} {i j : Int} {w w' : World} (h : ahOk K P M n i j = false) (hb : Below w.heap.size w w') : AhPost K P M n i j w (.returned (.tuple #[.bool false, .bool false])) w' := ⟨by simp [ahB, h], hb⟩
theorem ah_yes {K P M : Nat → Int} {n i j : Nat} {w w' : World} {b : Bool} (h : ahOk K P M n i j = true) (e : b = ahd K P M i j) (hb : Below w.heap.size w w') : AhPost K P M n i j w (.returned (.tuple #[.bool b, .bool true])) w' := ⟨by simp [ahB, h, e], hb⟩
theorem vec_row {w : World} {B C : Nat} {a : Option Addr} {n k : Nat} {K P M : Nat → Int} (h : SRow w B C a n 6 (vecF K P M)) (hk : k < n) : ∃ g, a = some ⟨g, 0, none⟩ ∧ g < w.heap.size ∧ w.cell? ⟨g, k * 6, none⟩ = some (.int .i64 (vc K P M (k + 1) 0)) ∧ w.cell? ⟨g, k * 6 + 1, none⟩ = some (.int .i64 (vc K P M (k + 1) 1)) ∧ w.cell? ⟨g, k * 6 + 2, none⟩ = some (.int .i64 (vc K P M (k + 1) 2)) ∧ w.cell? ⟨g, k * 6 + 3, none⟩ = some (.int .i64 (vc K P M (k + 1) 3)) ∧ w.cell? ⟨g, k * 6 + 4, none⟩ = some (.int .i64 (vc K P M (k + 1) 4)) ∧ w.cell? ⟨g, k * 6 + 5, none⟩ = some (.int .i64 (vc K P M (k + 1) 5)) := by
  rcases h.1 with h | ⟨g, ha, _, _, hg, hE, _⟩
  · omega
  · have e : ∀ j, j < 6 → w.cell? ⟨g, k * 6 + j, none⟩ = some (.int .i64 (vc K P M (k + 1) j)) := fun j hj => by have := hE k hk j hj; rwa [Nat.zero_add] at this
    exact ⟨g, ha, hg, e 0 (by omega), e 1 (by omega), e 2 (by omega), e 3 (by omega), e 4 (by omega), e 5 (by omega)⟩

set_option maxRecDepth 100000 in
set_option maxHeartbeats 4000000 in
theorem aheadOf_any (a : Option Addr) (n cap : Nat) (K P M : Nat → Int) (i j : Int) (w : World) (hn : n ≤ 1048576) (hM : ∀ i, i < n → -9223372036854775808 ≤ M i ∧ M i ≤ 9223372036854775807) (hs : Sl w a n 3 (evF K P M)) :
    Calls Try.prog 18 #[.slice a n cap, .int .i64 i, .int .i64 j] w fun r w' => AhPost K P M n i j w r w' := by
  have HM : Hid (∀ i, i < n → -9223372036854775808 ≤ M i ∧ M i ≤ 9223372036854775807) := hM
  have HS : Hid (Sl w a n 3 (evF K P M)) := hs
  clear hs hM
  go_enter Try.func18, Try.ntmps18
  go_wp2_with fail
  refine (goodEvents_any _ _ _ K P M _ hn HM.out HS.out).mono ?_
  rintro r w1 ⟨rfl, hb1⟩
  have HB1 : Hid (Below w.heap.size w w1) := hb1
  clear hb1
  cases hg : goodE K P M n
  · have HN : Hid (ahOk K P M n i j = false) := by show _ = _; simp [ahOk, hg]
    go_wp2
    exact bodyPost_ret (v := .tuple #[.bool false, .bool false]) (by simp [results, Try.results18, go_sem]) rfl (ah_no HN.out HB1.out)
  cases hi : inR i 0 ((n : Int) - 1)
  · have HN : Hid (ahOk K P M n i j = false) := by show _ = _; simp [ahOk, hi]
    go_wp2_with (go_at_call 54; refine (inRange_any _ _ _ _).mono ?_; rintro e w' ⟨rfl, rfl⟩)
    exact bodyPost_ret (v := .tuple #[.bool false, .bool false]) (by simp [results, Try.results18, go_sem]) rfl (ah_no HN.out HB1.out)
  cases hj : inR j 0 ((n : Int) - 1)
  · have HN : Hid (ahOk K P M n i j = false) := by show _ = _; simp [ahOk, hj]
    go_wp2_with (go_at_call 54; refine (inRange_any _ _ _ _).mono ?_; rintro e w' ⟨rfl, rfl⟩)
    exact bodyPost_ret (v := .tuple #[.bool false, .bool false]) (by simp [results, Try.results18, go_sem]) rfl (ah_no HN.out HB1.out)
  have HY : Hid (ahOk K P M n i j = true) := by show _ = _; simp [ahOk, hg, hi, hj]
  obtain ⟨h60, hev⟩ := good_ev hg
  have HE : Hid (∀ i, i < n → evOk K P M i = true) := hev
  have bi := inR_iff.1 hi
  have bj := inR_iff.1 hj
  obtain ⟨i', rfl⟩ : ∃ i' : Nat, i = i' := ⟨i.toNat, by omega⟩
  obtain ⟨j', rfl⟩ : ∃ j' : Nat, j = j' := ⟨j.toNat, by omega⟩
  clear hev hg
  go_wp2_with (go_at_call 54; refine (inRange_any _ _ _ _).mono ?_; rintro e w' ⟨rfl, hw⟩; have hw := hw.symm; subst hw)
  refine (vectors_any _ _ _ K P M _ h60 HM.out HE.out (HS.out.kept HB1.out)).mono ?_
  rintro r w2 ⟨⟨a2, cap2, rfl, hR⟩, hb2⟩
  have H2 : Hid (SRow w2 w1.heap.size w2.heap.size a2 n 6 (vecF K P M) ∧ Below w.heap.size w w2) := ⟨hR, below_next HB1.out hb2⟩
  clear hR hb2
  obtain ⟨g, rfl, hgl, c0, c1, c2, c3, c4, c5⟩ := vec_row H2.out.1 (show i' < n by omega)
  obtain ⟨g', eg, hgl', d0, d1, d2, d3, d4, d5⟩ := vec_row H2.out.1 (show j' < n by omega)
  have eg : g' = g := by simpa using eg.symm
  subst eg
  have hi' : (i' : Int) < (n : Int) := by omega
  have hj' : (j' : Int) < (n : Int) := by omega
  have HC : Hid ((cmpV (vc K P M (i' + 1)) (vc K P M (j' + 1)) == -1) = ahd K P M i' j') := ahd_cmp (ev_kind (HE.out i' (by omega))).1 (ev_kind (HE.out j' (by omega))).1
  have hB2 : Below w.heap.size w w2 := H2.out.2
  have HV : ∀ x y : Nat → Int, ∀ W : World, Calls Try.prog 56 #[.agg #[.int .i64 (x 0), .int .i64 (x 1), .int .i64 (x 2), .int .i64 (x 3), .int .i64 (x 4), .int .i64 (x 5)], .agg #[.int .i64 (y 0), .int .i64 (y 1), .int .i64 (y 2), .int .i64 (y 3), .int .i64 (y 4), .int .i64 (y 5)]] W fun r w' => r = .returned (.int .i64 (cmpV x y)) ∧ Below W.heap.size W w' := fun x y W => compare_any x y W
  have HVV : Hid (∀ x y : Nat → Int, ∀ W : World, Calls Try.prog 56 #[.agg #[.int .i64 (x 0), .int .i64 (x 1), .int .i64 (x 2), .int .i64 (x 3), .int .i64 (x 4), .int .i64 (x 5)], .agg #[.int .i64 (y 0), .int .i64 (y 1), .int .i64 (y 2), .int .i64 (y 3), .int .i64 (y 4), .int .i64 (y 5)]] W fun r w' => r = .returned (.int .i64 (cmpV x y)) ∧ Below W.heap.size W w') := HV
  clear HV hi hj bi bj
  generalize vc K P M (i' + 1) = x at *
  generalize vc K P M (j' + 1) = y at *
  go_upto_region 4 with fail
  go_cut [6, 7] (fun s6 s7 wx => s6 = .bool (cmpV x y == -1) ∧ s7 = .bool true ∧ Below w2.heap.size w2 wx)
  case first =>
    go_region_with (go_at_call 56; refine (HVV.out x y _).mono ?_; rintro r w3 ⟨rfl, hb3⟩)
    all_goals (go_wp2_with fail; go_meet; exact ⟨rfl, rfl, by first | exact hb3 | exact (Below.refl _ _).drew.trans hb3⟩)
  case rest =>
    obtain ⟨rfl, rfl, hb3⟩ := hcut
    have HF : Hid (Below w.heap.size w wc) := below_next hB2 hb3
    clear hb3
    go_wp2
    exact bodyPost_ret (v := .tuple #[.bool (cmpV x y == -1), .bool true]) (by simp [results, Try.results18, go_sem]) rfl (ah_yes HY.out HC.out HF.out)
end Go.Proofs.Ytjophhiccbkpjaa
