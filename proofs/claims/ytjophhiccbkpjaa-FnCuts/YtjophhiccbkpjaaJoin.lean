/- The contracts of JoinCuts and of the specification's own. -/
import Derived.Test.YtjophhiccbkpjaaRow
namespace Go.Proofs.Ytjophhiccbkpjaa
open Go.RowKit
set_option linter.unusedVariables false

def joinV (meet : Bool) (X Y : Nat → Int) (i : Nat) : Int := if meet then min (X i) (Y i) else max (X i) (Y i)
def jOk (X : Nat → Int) (n : Nat) (Y : Nat → Int) (m : Nat) : Bool := vfOk X n 9223372036854775807 && vfOk Y m 9223372036854775807
def jN (X : Nat → Int) (n : Nat) (Y : Nat → Int) (m : Nat) : Nat := if jOk X n Y m then 6 else 0
def JoinPost (X : Nat → Int) (n : Nat) (Y : Nat → Int) (m : Nat) (meet : Bool) (w : World) (r : Ending) (w' : World) : Prop :=
  (∃ a cap, r = .returned (.tuple #[.slice a (jN X n Y m) cap, .bool (jOk X n Y m)]) ∧ IntS w' w.heap.size w'.heap.size a (jN X n Y m) (joinV meet X Y)) ∧ Below w.heap.size w w'
theorem join_no {X : Nat → Int} {n : Nat} {Y : Nat → Int} {m : Nat} {meet : Bool} {w w' : World} (h : jOk X n Y m = false) (hb : Below w.heap.size w w') : JoinPost X n Y m meet w (.returned (.tuple #[.slice none 0 0, .bool false])) w' :=
  ⟨⟨none, 0, by simp [jN, h], Or.inl (by simp [jN, h])⟩, hb⟩
theorem join_yes {X : Nat → Int} {n : Nat} {Y : Nat → Int} {m : Nat} {meet : Bool} {w w' : World} {a : Option Addr} {cap : Nat} {Z : Nat → Int} (h : jOk X n Y m = true) (hx : IntS w' w.heap.size w'.heap.size a 6 Z) (hz : ∀ i, i < 6 → Z i = joinV meet X Y i) (hb : Below w.heap.size w w') : JoinPost X n Y m meet w (.returned (.tuple #[.slice a 6 cap, .bool true])) w' :=
  ⟨⟨a, cap, by simp [jN, h], by simpa [jN, h] using hx.congr hz⟩, hb⟩

set_option maxHeartbeats 1000000 in
theorem join_any (a : Option Addr) (n cap : Nat) (X : Nat → Int) (a' : Option Addr) (n' cap' : Nat) (Y : Nat → Int) (meet : Bool) (w : World) (hn : n ≤ 1048576) (hn' : n' ≤ 1048576) (hs : Sl w a n 1 (intF X)) (hs' : Sl w a' n' 1 (intF Y)) :
    Calls Try.prog 31 #[.slice a n cap, .slice a' n' cap', .bool meet] w fun r w' => JoinPost X n Y n' meet w r w' := by
  have HS' : Hid (Sl w a' n' 1 (intF Y)) := hs'
  go_enter Try.func31, Try.ntmps31
  clear hs'
  go_wp2_with fail
  refine (vectorFrom_any _ _ _ X _ _ hn hs).mono ?_
  rintro r w1 ⟨rfl, hb1⟩
  clear hs
  have HP : Hid (∀ i, i < 6 → vfOk X n 9223372036854775807 = true → vfV X n 9223372036854775807 i = X i) := fun i _ h => by simp [vfV, h]
  have HJ : Hid (jOk X n Y n' = (vfOk X n 9223372036854775807 && vfOk Y n' 9223372036854775807)) := rfl
  generalize vfV X n 9223372036854775807 = U at *
  generalize vfOk X n 9223372036854775807 = p at *
  have HB1 : Hid (Below w.heap.size w w1) := hb1
  clear hb1
  unfold vec
  go_wp2_with fail
  have hba : Below w.heap.size w (w1.alloc (.cells #[.int .i64 (U 0), .int .i64 (U 1), .int .i64 (U 2), .int .i64 (U 3), .int .i64 (U 4), .int .i64 (U 5)] 73)) := HB1.out.alloc HB1.out.size _
  refine (vectorFrom_any _ _ _ Y _ _ hn' (HS'.out.below hba (Nat.le_refl _))).mono ?_
  rintro r w2 ⟨rfl, hb2⟩
  have HV1 : Hid (Vec w2 w1.heap.size U) := (Vec.new w1 U 73).below hb2 (by simp)
  have HB2 : Hid (Below w.heap.size w w2) := hba.trans (hb2.mono (by have := HB1.out.size; simp; omega))
  have hz2 : w1.heap.size < w2.heap.size := by have := hb2.size; simp at this; omega
  have hz1 : w.heap.size ≤ w1.heap.size := HB1.out.size
  clear hba hb2 HB1 HS'
  have HQ : Hid (∀ i, i < 6 → vfOk Y n' 9223372036854775807 = true → vfV Y n' 9223372036854775807 i = Y i) := fun i _ h => by simp [vfV, h]
  generalize vfV Y n' 9223372036854775807 = V at *
  generalize vfOk Y n' 9223372036854775807 = q at *
  unfold vec
  cases p
  · have HN : Hid (jOk X n Y n' = false) := HJ.out
    clear HJ
    go_wp2
    have hb := HB2.out
    exact bodyPost_ret (v := .tuple #[.slice none 0 0, .bool false]) (by simp [results, Try.results31, go_sem]) rfl (join_no HN.out (by repeat (first | refine Below.setCell ?_ (by (try simp) <;> omega) _ | refine Below.alloc ?_ (by (try simp) <;> omega) _ | refine Below.drew ?_ | assumption | exact Below.refl _ _ | refine Below.trans ?_ (Below.mono (by assumption) (by (try simp) <;> omega)))))
  cases q
  · have HN : Hid (jOk X n Y n' = false) := HJ.out
    clear HJ
    go_wp2
    have hb := HB2.out
    exact bodyPost_ret (v := .tuple #[.slice none 0 0, .bool false]) (by simp [results, Try.results31, go_sem]) rfl (join_no HN.out (by repeat (first | refine Below.setCell ?_ (by (try simp) <;> omega) _ | refine Below.alloc ?_ (by (try simp) <;> omega) _ | refine Below.drew ?_ | assumption | exact Below.refl _ _ | refine Below.trans ?_ (Below.mono (by assumption) (by (try simp) <;> omega)))))
  have HN : Hid (jOk X n Y n' = true) := HJ.out
  have ha : Below w2.heap.size w2 (w2.alloc (.cells #[.int .i64 (V 0), .int .i64 (V 1), .int .i64 (V 2), .int .i64 (V 3), .int .i64 (V 4), .int .i64 (V 5)] 73)) := Go.Joins.below_alloc1 _ _
  obtain ⟨⟨c0, c1, c2, c3, c4, c5⟩, _⟩ := HV1.out.six
  have HB3 : Hid (Below w.heap.size w (w2.alloc (.cells #[.int .i64 (V 0), .int .i64 (V 1), .int .i64 (V 2), .int .i64 (V 3), .int .i64 (V 4), .int .i64 (V 5)] 73))) := HB2.out.trans (ha.mono (by omega))
  clear HJ HV1 ha
  cases meet
  · go_wp2_with fail
    refine (greater_any U V _).mono ?_
    rintro r w3 ⟨rfl, hb3⟩
    have HB4 : Hid (Below w.heap.size w w3) := HB3.out.trans (hb3.mono HB3.out.size)
    clear hb3 c0 c1 c2 c3 c4 c5
    go_wp2_with fail
    refine (listFrom_any _ _).mono ?_
    rintro r w4 ⟨⟨a4, cap4, rfl, hx⟩, hb4⟩
    have HF : Hid (IntS w4 w.heap.size w4.heap.size a4 6 (fun i => max (U i) (V i)) ∧ Below w.heap.size w w4) := ⟨hx.wide HB4.out.size (Nat.le_refl _), HB4.out.trans (hb4.mono HB4.out.size)⟩
    clear hx hb4
    go_wp2
    exact bodyPost_ret (v := .tuple #[.slice a4 6 cap4, .bool true]) (by simp [results, Try.results31, go_sem]) rfl (join_yes HN.out HF.out.1 (fun i hi => by rw [HP.out i hi (by simp), HQ.out i hi (by simp)]; simp [joinV]) HF.out.2)
  · go_wp2_with fail
    refine (lesser_any U V _).mono ?_
    rintro r w3 ⟨rfl, hb3⟩
    have HB4 : Hid (Below w.heap.size w w3) := HB3.out.trans (hb3.mono HB3.out.size)
    clear hb3 c0 c1 c2 c3 c4 c5
    go_wp2_with fail
    refine (listFrom_any _ _).mono ?_
    rintro r w4 ⟨⟨a4, cap4, rfl, hx⟩, hb4⟩
    have HF : Hid (IntS w4 w.heap.size w4.heap.size a4 6 (fun i => min (U i) (V i)) ∧ Below w.heap.size w w4) := ⟨hx.wide HB4.out.size (Nat.le_refl _), HB4.out.trans (hb4.mono HB4.out.size)⟩
    clear hx hb4
    go_wp2
    exact bodyPost_ret (v := .tuple #[.slice a4 6 cap4, .bool true]) (by simp [results, Try.results31, go_sem]) rfl (join_yes HN.out HF.out.1 (fun i hi => by rw [HP.out i hi (by simp), HQ.out i hi (by simp)]; simp [joinV]) HF.out.2)

theorem vf_len {X : Nat → Int} {n : Nat} {g : Int} (h : n ≠ 6) : vfOk X n g = false := by simp [vfOk, h]
theorem vf_neg {X : Nat → Int} {n k : Nat} {g : Int} (hk : k < 6) (h : X k < 0) : vfOk X n g = false := vf_bad hk (by simp [inR]; omega)
theorem vf_all {X : Nat → Int} (h : ∀ i, i < 6 → 0 ≤ X i) (hb : ∀ i, i < 6 → X i ≤ 9223372036854775807) : vfOk X 6 9223372036854775807 = true := by
  simp only [vfOk, decide_true, Bool.true_and]
  exact (allIn_iff X _ 6).2 (fun i hi => by simp [inR, h i hi, hb i hi])

set_option maxHeartbeats 2000000 in
theorem specJoin_any (a : Option Addr) (n cap : Nat) (X : Nat → Int) (a' : Option Addr) (n' cap' : Nat) (Y : Nat → Int) (meet : Bool) (w : World) (hn : n ≤ 1048576) (hn' : n' ≤ 1048576) (hs : Sl w a n 1 (intF X)) (hs' : Sl w a' n' 1 (intF Y))
    (hX : ∀ i, i < n → X i ≤ 9223372036854775807) (hY : ∀ i, i < n' → Y i ≤ 9223372036854775807) :
    Calls Try.prog 32 #[.slice a n cap, .slice a' n' cap', .bool meet] w fun r w' => JoinPost X n Y n' meet w r w' := by
  by_cases h6 : n = 6
  case neg =>
    have h6' : ((n : Int) == 6) = false := by simp; omega
    have HN : Hid (jOk X n Y n' = false) := by show jOk X n Y n' = false; simp [jOk, vf_len h6]
    clear hs hs' hX hY h6
    go_enter Try.func32, Try.ntmps32
    go_wp2
    exact bodyPost_ret (v := .tuple #[.slice none 0 0, .bool false]) (by simp [results, Try.results32, go_sem]) rfl (join_no HN.out (Below.refl _ _))
  case pos =>
  subst h6
  by_cases h6 : n' = 6
  case neg =>
    have h6' : ((n' : Int) == 6) = false := by simp; omega
    have HN : Hid (jOk X 6 Y n' = false) := by show jOk X 6 Y n' = false; simp [jOk, vf_len h6]
    clear hs hs' hX hY h6
    go_enter Try.func32, Try.ntmps32
    go_wp2
    exact bodyPost_ret (v := .tuple #[.slice none 0 0, .bool false]) (by simp [results, Try.results32, go_sem]) rfl (join_no HN.out (Below.refl _ _))
  case pos =>
  subst h6
  obtain ⟨i0, hi, hz0, hz1, hz2⟩ := info_parts info_int
  have HX : Hid ((∀ i, i < 6 → X i ≤ 9223372036854775807) ∧ (∀ i, i < 6 → Y i ≤ 9223372036854775807)) := ⟨hX, hY⟩
  clear hX hY
  go_enter Try.func32, Try.ntmps32
  go_wp2
  go_loopw [20, 8] (fun i v wr => ∃ k : Nat, k ≤ 6 ∧ i = .int .i64 k ∧ wr.ownsRow w.heap.size 3 1 v k (ints (joinV meet X Y) k) ∧ (∀ i, i < k → 0 ≤ X i ∧ 0 ≤ Y i) ∧ Below w.heap.size w wr) (fun i _ _ => 6 - (intOf i).toNat)
  case atStart => exact ⟨0, Nat.zero_le _, rfl, World.ownsRow_nil _ _ _ _, fun i hi => absurd hi (by omega), Below.refl _ _⟩
  case round =>
    obtain ⟨k, hk, rfl, hown, hall, hBr⟩ := hrel
    by_cases hlt : k < 6
    · rcases hs.below hBr (Nat.le_refl _) with h | ⟨b, off, rfl, hbs, hE⟩
      · omega
      rcases hs'.below hBr (Nat.le_refl _) with h | ⟨b', off', rfl, hbs', hE'⟩
      · omega
      have hlt' : (k : Int) < 6 := by omega
      have hc := int_cell hE hlt
      have hc' := int_cell hE' hlt
      have HH : Hid (wr.ownsRow w.heap.size 3 1 u8 k (ints (joinV meet X Y) k) ∧ (∀ i, i < k → 0 ≤ X i ∧ 0 ≤ Y i) ∧ Below w.heap.size w wr) := ⟨hown, hall, hBr⟩
      clear hown hall hBr hs hs' hE hE'
      by_cases hx : X k < 0
      · have HN : Hid (jOk X 6 Y 6 = false) := by show jOk X 6 Y 6 = false; simp [jOk, vf_neg hlt hx]
        go_wp2
        exact bodyPost_ret (v := .tuple #[.slice none 0 0, .bool false]) (by simp [results, Try.results32, go_sem]) rfl (join_no HN.out HH.out.2.2)
      by_cases hy : Y k < 0
      · have HN : Hid (jOk X 6 Y 6 = false) := by show jOk X 6 Y 6 = false; simp [jOk, vf_neg hlt hy]
        go_wp2
        exact bodyPost_ret (v := .tuple #[.slice none 0 0, .bool false]) (by simp [results, Try.results32, go_sem]) rfl (join_no HN.out HH.out.2.2)
      go_upto_region 9 with fail
      go_cut [45] (fun s45 wx => s45 = .bool (decide (X k < Y k) == meet) ∧ Below wr.heap.size wr wx)
      case first =>
        go_region
        all_goals (go_wp2_with fail; go_meet; exact ⟨by first | rfl | (cases meet <;> simp), (Below.refl _ _).drew⟩)
      case rest =>
        obtain ⟨rfl, hb2⟩ := hcut
        have HO : Hid (wc.ownsRow w.heap.size 3 1 u8 k (ints (joinV meet X Y) k)) := own_keep HH.out.1 hb2
        have HB : Hid (Below w.heap.size w wc) := HH.out.2.2.trans (hb2.mono HH.out.2.2.size)
        have hz : w.heap.size ≤ wc.heap.size := HB.out.size
        have hd : wc.cell? ⟨b, off + k, none⟩ = some (.int .i64 (X k)) := (hb2.cell (p := ⟨b, off + k, none⟩) hbs).trans hc
        have hd' : wc.cell? ⟨b', off' + k, none⟩ = some (.int .i64 (Y k)) := (hb2.cell (p := ⟨b', off' + k, none⟩) hbs').trans hc'
        clear hb2 hc hc'
        cases ht : (decide (X k < Y k) == meet)
        · have hj : joinV meet X Y k = Y k := by
            by_cases hq : X k < Y k <;> cases meet <;> simp [hq] at ht <;> simp [joinV] <;> omega
          have HJ : Hid (joinV meet X Y k = Y k) := hj
          clear hj ht
          have hj := HJ
          go_wp2_with (at_builtin; refine wpList_append_own _ rfl (.tmp 53) (.tmp 58) 25 rfl w.heap.size 3 i0 (.int .i64 0) 1 8 Try.underlying25 hi hz0 hz1 hz2 rfl (by decide) u8 k (ints (joinV meet X Y) k) rfl (World.ownsRow.alloc HO.out _) ⟨wc.heap.size, 0, none⟩ 1 1 [.int .i64 (Y k)] rfl rfl (one_new _ _ _) (by intro u hu; simp at hu; subst hu; rfl) (by unfold maxLen; omega) (by omega) (by simp; omega) ?_; intro v1 w1 hown hgrow hnil)
          have hb3 : Below w.heap.size w w1 := (HB.out.alloc (by omega) _).grown hgrow (by simp; omega) (own_base HO.out)
          have HF : Hid (w1.ownsRow w.heap.size 3 1 v1 (k + 1) (ints (joinV meet X Y) (k + 1)) ∧ Below w.heap.size w w1) := ⟨by rw [ints_succ, hj.out]; exact hown, hb3⟩
          clear hown hgrow hnil hb3
          go_wp2
          go_roundw
          case rel => exact ⟨k + 1, by omega, by go_num, HF.out.1, upto_succ HH.out.2.1 ⟨by omega, by omega⟩, HF.out.2⟩
          case measure => simp [intOf]; omega

        · have hj : joinV meet X Y k = X k := by
            by_cases hq : X k < Y k <;> cases meet <;> simp [hq] at ht <;> simp [joinV] <;> omega
          have HJ : Hid (joinV meet X Y k = X k) := hj
          clear hj ht
          have hj := HJ
          go_wp2_with (at_builtin; refine wpList_append_own _ rfl (.tmp 46) (.tmp 51) 25 rfl w.heap.size 3 i0 (.int .i64 0) 1 8 Try.underlying25 hi hz0 hz1 hz2 rfl (by decide) u8 k (ints (joinV meet X Y) k) rfl (World.ownsRow.alloc HO.out _) ⟨wc.heap.size, 0, none⟩ 1 1 [.int .i64 (X k)] rfl rfl (one_new _ _ _) (by intro u hu; simp at hu; subst hu; rfl) (by unfold maxLen; omega) (by omega) (by simp; omega) ?_; intro v1 w1 hown hgrow hnil)
          have hb3 : Below w.heap.size w w1 := (HB.out.alloc (by omega) _).grown hgrow (by simp; omega) (own_base HO.out)
          have HF : Hid (w1.ownsRow w.heap.size 3 1 v1 (k + 1) (ints (joinV meet X Y) (k + 1)) ∧ Below w.heap.size w w1) := ⟨by rw [ints_succ, hj.out]; exact hown, hb3⟩
          clear hown hgrow hnil hb3
          go_wp2
          go_roundw
          case rel => exact ⟨k + 1, by omega, by go_num, HF.out.1, upto_succ HH.out.2.1 ⟨by omega, by omega⟩, HF.out.2⟩
          case measure => simp [intOf]; omega

    · have hk6 : k = 6 := by omega
      subst hk6
      have HN : Hid (jOk X 6 Y 6 = true) := by
        show jOk X 6 Y 6 = true
        simp [jOk, vf_all (fun i hi => (hall i hi).1) HX.out.1, vf_all (fun i hi => (hall i hi).2) HX.out.2]
      obtain ⟨a4, cap4, rfl, hx⟩ := ints_row hown
      have HF : Hid (IntS wr w.heap.size wr.heap.size a4 6 (joinV meet X Y) ∧ Below w.heap.size w wr) := ⟨hx, hBr⟩
      clear hs hs' hown hall hBr hx
      go_wp2
      exact bodyPost_ret (v := .tuple #[.slice a4 6 cap4, .bool true]) (by simp [results, Try.results32, go_sem]) rfl (join_yes HN.out HF.out.1 (fun i hi => rfl) HF.out.2)
end Go.Proofs.Ytjophhiccbkpjaa
