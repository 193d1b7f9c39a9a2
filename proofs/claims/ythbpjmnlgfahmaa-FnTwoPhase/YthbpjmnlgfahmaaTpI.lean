/- The contract of IsTwoPhase. -/
import Derived.Test.YthbpjmnlgfahmaaTpH
namespace Go.Proofs.Ythbpjmnlgfahmaa
open Go.RowKit
set_option linter.unusedVariables false

def TwPost (K T : Nat → Int) (S : Nat → ByteArray) (L : Nat → Int) (n n' : Nat) (w : World) (r : Ending) (w' : World) : Prop :=
  r = .returned (.tuple #[.bool (twV K T S L n n'), .bool (twOk K T S L n n')]) ∧ Below w.heap.size w w'
theorem tw_no {K T : Nat → Int} {S : Nat → ByteArray} {L : Nat → Int} {n n' : Nat} {w w' : World} (h : twOk K T S L n n' = false) (hb : Below w.heap.size w w') : TwPost K T S L n n' w (.returned (.tuple #[.bool false, .bool false])) w' := by
  refine ⟨?_, hb⟩; simp [twV, h]
theorem tw_bad {K T : Nat → Int} {S : Nat → ByteArray} {L : Nat → Int} {n n' : Nat} {w w' : World} (h : twOk K T S L n n' = true) (hp : badP K T S L n) (hb : Below w.heap.size w w') : TwPost K T S L n n' w (.returned (.tuple #[.bool false, .bool true])) w' := by
  refine ⟨?_, hb⟩; simp [twV, h, twB, hp]
theorem tw_good {K T : Nat → Int} {S : Nat → ByteArray} {L : Nat → Int} {n n' : Nat} {w w' : World} (h : twOk K T S L n n' = true) (hp : ¬ badP K T S L n) (hb : Below w.heap.size w w') : TwPost K T S L n n' w (.returned (.tuple #[.bool true, .bool true])) w' := by
  refine ⟨?_, hb⟩; simp [twV, h, twB, hp]
theorem lkO_out {K L : Nat → Int} {n n' : Nat} (h : lkO K L n n' = true) : lkP K L n n' := by
  unfold lkO at h; exact @of_decide_eq_true _ (Classical.propDecidable _) h
def ho5 (x : Ho) : List Value := [.int .i64 x.t, .string x.s, .int .i64 x.f, .int .i64 x.z, .bool x.w]

set_option maxRecDepth 100000 in
set_option maxHeartbeats 8000000 in
theorem isTwoPhase_any (a : Option Addr) (n cap : Nat) (K T : Nat → Int) (S : Nat → ByteArray) (a' : Option Addr) (n' cap' : Nat) (L : Nat → Int) (w : World) (hn : n ≤ 1048576) (hn' : n' ≤ 1048576) (hS : ∀ i, i < n → (S i).size ≤ maxLen) (hs : Sl w a n 3 (opF K T S)) (hl : Sl w a' n' 1 (intF L)) :
    Calls Try.prog 23 #[.slice a n cap, .slice a' n' cap'] w (TwPost K T S L n n' w) := by
  have HS : Hid (Sl w a n 3 (opF K T S) ∧ Sl w a' n' 1 (intF L) ∧ ∀ i, i < n → (S i).size ≤ maxLen) := ⟨hs, hl, hS⟩
  clear hs hl hS
  go_enter Try.func23, Try.ntmps23
  go_wp2_with fail
  refine (goodOps_any _ _ _ K T S _ hn HS.out.2.2 HS.out.1).mono ?_
  rintro r w1 ⟨rfl, hb1⟩
  have HB1 : Hid (Below w.heap.size w w1) := hb1
  clear hb1
  cases hg : goodO (okO K T S) K T n
  · have HN : Hid (twOk K T S L n n' = false) := by show _ = _; simp [twOk, hg]
    go_wp2
    exact bodyPost_ret (v := .tuple #[.bool false, .bool false]) (by simp [results, Try.results23, go_sem]) rfl (tw_no HN.out HB1.out)
  have HGP : Hid (goodP (okO K T S) K T n ∧ goodO (okO K T S) K T n = true) := ⟨goodO_out hg, hg⟩
  clear hg
  go_wp2_with fail
  refine (areLocks_any _ _ _ K T S _ _ _ L _ hn hn' (HS.out.1.kept HB1.out) (HS.out.2.1.kept HB1.out)).mono ?_
  rintro r w2 ⟨rfl, hb2⟩
  have HB2 : Hid (Below w.heap.size w w2) := below_next HB1.out hb2
  clear hb2 HB1
  cases hk : lkO K L n n'
  · have HN : Hid (twOk K T S L n n' = false) := by show _ = _; simp [twOk, hk]
    go_wp2
    exact bodyPost_ret (v := .tuple #[.bool false, .bool false]) (by simp [results, Try.results23, go_sem]) rfl (tw_no HN.out HB2.out)
  have HK : Hid (lkP K L n n' ∧ twOk K T S L n n' = true) := ⟨lkO_out hk, by simp [twOk, hk, HGP.out.2]⟩
  have hnn : n' = n := HK.out.1.1
  subst hnn
  clear hk
  go_wp2_with fail
  refine (holdingsOf_any _ _ _ K T S _ _ L _ hn HGP.out.1 HK.out.1 (HS.out.1.kept HB2.out) (HS.out.2.1.kept HB2.out)).mono ?_
  rintro r w3 ⟨⟨a3, c, cap3, H, rfl, hI, hrow⟩, hb3⟩
  have hc : c ≤ 1048576 := by have := hI.2.2.2; omega
  have HB3 : Hid (Below w.heap.size w w3 ∧ HoI K T S L H c n' ∧ SRow w3 w2.heap.size w3.heap.size a3 c 5 (hoF H)) := ⟨below_next HB2.out hb3, hI, hrow⟩
  clear hb3 hI hrow HB2
  go_wp2
  go_loopw [25] (fun x wr => ∃ k : Nat, k ≤ c ∧ x = .int .i64 k ∧ (∀ i j, i < k → j < c → bdH (H i) (H j) = false) ∧ Below w3.heap.size w3 wr) (fun x _ => c - (intOf x).toNat)
  case atStart => exact ⟨0, Nat.zero_le _, rfl, fun i j hi => absurd hi (by omega), Below.refl _ _⟩
  case round =>
    obtain ⟨k, hk, rfl, hno, hBr⟩ := hrel
    obtain ⟨wo, hwo⟩ : ∃ x, x = wr := ⟨wr, rfl⟩
    subst hwo
    by_cases hlt : k < c
    · have hlt' : (k : Int) < (c : Int) := by omega
      rcases (HB3.out.2.2.next hBr).1 with h | ⟨g, rfl, hgB, hgC, hgl, hE, hRm⟩
      · omega
      obtain ⟨e0, e1, e2, e3, e4⟩ := ho_cells hE hlt
      have HW : Hid ((∀ i j, i < k → j < c → bdH (H i) (H j) = false) ∧ Below w3.heap.size w3 wo) := ⟨hno, hBr⟩
      clear hno hBr hE hRm
      go_wp2
      go_loopw [31] (fun x wr => ∃ m : Nat, m ≤ c ∧ x = .int .i64 m ∧ (∀ j, j < m → bdH (H k) (H j) = false) ∧ Bx wr wo.heap.size (ho5 (H k)) ∧ Below wo.heap.size wo wr) (fun x _ => c - (intOf x).toNat)
      case atStart => exact ⟨0, Nat.zero_le _, rfl, fun j hj => absurd hj (by omega), Bx.new _ (ho5 (H k)) _, Go.Joins.below_alloc1 _ _⟩
      case round =>
        obtain ⟨m, hm, rfl, hno, hx, hBi⟩ := hrel
        clear e0 e1 e2 e3 e4
        by_cases hml : m < c
        · have hml' : (m : Int) < (c : Int) := by omega
          have hB3 := below_next HW.out.2 hBi
          rcases (HB3.out.2.2.next hB3).1 with h | ⟨g', eg, hgB', hgC', hgl', hE, hRm⟩
          · omega
          cases eg
          obtain ⟨e0, e1, e2, e3, e4⟩ := ho_cells hE hml
          have g0 := hx.cell 0 rfl
          have g1 := hx.cell 1 rfl
          have g2 := hx.cell 2 rfl
          have g3 := hx.cell 3 rfl
          have g4 := hx.cell 4 rfl
          have gl := hx.2
          have hzi : wo.heap.size ≤ wr.heap.size := hBi.size
          have HM : Hid ((∀ j, j < m → bdH (H k) (H j) = false) ∧ Bx wr wo.heap.size (ho5 (H k)) ∧ Below wo.heap.size wo wr) := ⟨hno, hx, hBi⟩
          clear hno hx hBi hB3 hE hRm
          obtain ⟨cb, hcb⟩ : ∃ cb, cb = clH (H k) (H m) := ⟨_, rfl⟩
          have HCl : Hid (∀ W : World, Calls Try.prog 71 #[.agg #[.int .i64 (H k).t, .string (H k).s, .int .i64 (H k).f, .int .i64 (H k).z, .bool (H k).w], .agg #[.int .i64 (H m).t, .string (H m).s, .int .i64 (H m).f, .int .i64 (H m).z, .bool (H m).w]] W fun r w' => r = .returned (.bool cb) ∧ Below W.heap.size W w') := fun W => hcb ▸ clashes_any _ _ W
          have HBD : Hid (bdH (H k) (H m) = (cb || ((H k).t == (H m).t && decide ((H m).z < (H k).f)))) := by show _ = _; rw [hcb]; rfl
          have HP : Hid (bdH (H k) (H m) = true → badP K T S L n') := fun h => (bad_same HB3.out.2.1 HGP.out.1).1 ⟨k, m, hlt, hml, h⟩
          clear hcb
          go_wp2_with fail
          refine (HCl.out _).mono ?_
          rintro r w5 ⟨rfl, hb5⟩
          have HB5 : Hid (Below wr.heap.size wr w5) := below_next (Go.Joins.below_alloc1 _ _) hb5
          have m0 : w5.cell? ⟨wr.heap.size, 0, none⟩ = some (.int .i64 (H m).t) := (hb5.cell (p := ⟨wr.heap.size, 0, none⟩) (by simp)).trans (by simp)
          have m3 : w5.cell? ⟨wr.heap.size, 3, none⟩ = some (.int .i64 (H m).z) := (hb5.cell (p := ⟨wr.heap.size, 3, none⟩) (by simp)).trans (by simp)
          have hz5 : wr.heap.size < w5.heap.size := by have := hb5.size; simp at this; omega
          have hx5 := HM.out.2.1.next HB5.out
          have n0 := hx5.cell 0 rfl
          have n2 := hx5.cell 2 rfl
          have nl := hx5.2
          have HBw : Hid (Below w.heap.size w w5) := below_next (below_next (below_next HB3.out.1 HW.out.2) HM.out.2.2) HB5.out
          clear hb5 hx5 e0 e1 e2 e3 e4 g0 g1 g2 g3 g4
          cases cb
          case true =>
            go_wp2
            exact bodyPost_ret (v := .tuple #[.bool false, .bool true]) (by simp [results, Try.results23, go_sem]) rfl (tw_bad HK.out.2 (HP.out (by rw [HBD.out]; rfl)) HBw.out)
          cases ht : ((H k).t == (H m).t)
          · have HN : Hid (bdH (H k) (H m) = false) := by show _ = _; rw [HBD.out, ht]; rfl
            go_wp2
            go_roundw
            case rel => exact ⟨m + 1, by omega, by go_num, fun i hi => (Nat.lt_succ_iff_lt_or_eq.1 hi).elim (HM.out.1 i) (fun e => e ▸ HN.out), HM.out.2.1.next HB5.out, below_next HM.out.2.2 HB5.out⟩
            case measure => simp [intOf]; omega
          by_cases hzf : (H m).z < (H k).f
          · have HN : Hid (bdH (H k) (H m) = true) := by show _ = _; rw [HBD.out, ht]; simp [hzf]
            go_wp2
            exact bodyPost_ret (v := .tuple #[.bool false, .bool true]) (by simp [results, Try.results23, go_sem]) rfl (tw_bad HK.out.2 (HP.out HN.out) HBw.out)
          · have HN : Hid (bdH (H k) (H m) = false) := by show _ = _; rw [HBD.out, ht, decide_eq_false hzf]; rfl
            go_wp2
            go_roundw
            case rel => exact ⟨m + 1, by omega, by go_num, fun i hi => (Nat.lt_succ_iff_lt_or_eq.1 hi).elim (HM.out.1 i) (fun e => e ▸ HN.out), HM.out.2.1.next HB5.out, below_next HM.out.2.2 HB5.out⟩
            case measure => simp [intOf]; omega
        · have hmc : m = c := by omega
          subst hmc
          have HM : Hid ((∀ j, j < m → bdH (H k) (H j) = false) ∧ Below wo.heap.size wo wr) := ⟨hno, hBi⟩
          clear hno hx hBi
          go_wp2
          go_roundw
          case rel => exact ⟨k + 1, by omega, by go_num, fun i j hi hj => (Nat.lt_succ_iff_lt_or_eq.1 hi).elim (fun h => HW.out.1 i j h hj) (fun e => e ▸ HM.out.1 j hj), below_next HW.out.2 HM.out.2⟩
          case measure => simp [intOf]; omega
    · have hkc : k = c := by omega
      subst hkc
      have HN : Hid (¬ badP K T S L n' ∧ Below w.heap.size w wo) := by
        refine ⟨fun h => ?_, below_next HB3.out.1 hBr⟩
        obtain ⟨i, j, hi, hj, hb⟩ := (bad_same HB3.out.2.1 HGP.out.1).2 h
        rw [hno i j hi hj] at hb; cases hb
      clear hno hBr
      go_wp2
      exact bodyPost_ret (v := .tuple #[.bool true, .bool true]) (by simp [results, Try.results23, go_sem]) rfl (tw_good HK.out.2 HN.out.1 HN.out.2)
end Go.Proofs.Ythbpjmnlgfahmaa
