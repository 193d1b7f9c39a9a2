/- The law's own functions that mark lists. Written by tools/nest.py. -/
import Derived.Test.YtnglgndocmkbfaaNtS
import Derived.Test.YtnglgndocmkbfaaProg
import Derived.Test.YtnglgndocmkbfaaBx
import Derived.WalkKit
import Derived.WalkSpells
import Derived.WalkLawsBesides
import Derived.Test.YtnglgndocmkbfaaShP
import Derived.Test.YtnglgndocmkbfaaShM
namespace Go.Proofs.Ytnglgndocmkbfaa
open Go.RowKit
set_option linter.unusedVariables false
set_option linter.unusedSimpArgs false

theorem mkeq_Add (x0 : ByteArray) (x1 : Int) (x2 : Int) (y : Int) : mkD shAdd (x0, x1, x2, ()) y = ((mtx (y)), (y + 1), (y + 1 + 1), ()) := by
  rfl
set_option maxRecDepth 100000 in
set_option maxHeartbeats 4000000 in
theorem markIntS_n (a : Option Addr) (cap : Nat) (x : List (Sh.T .int)) (q : Int) (S : Nat → Prop) (w : World) (h0 : 0 < q) (h1 : q + (cntD (.list .int) x : Nat) ≤ 8796000000000) (hz : szD (.list .int) x ≤ 1073741824) (h : Own w (.list .int) [.slice a x.length cap] x S) :
    Calls Try.prog 97 #[.slice a x.length cap, .int .i64 q] w (MkP (.list .int) [.slice a x.length cap] (mkD (.list .int) x q) (q + (cntD (.list .int) x : Nat)) S w) := by
  have hn : x.length ≤ 1073741824 := by simp only [szD] at hz; omega
  rcases own_list h with ⟨hx, _⟩ | ⟨g, cap', B, hcs, hcap, hO⟩
  · subst hx
    have HO : Hid (Own w (.list .int) [.slice a 0 cap] [] S) := h
    clear h hz hn
    go_enter Try.func97, Try.ntmps97
    go_wp2
    go_loopw [5, 1] (fun i q' wr => i = .int .i64 0 ∧ q' = .int .i64 q ∧ wr = w) (fun _ _ _ => 0)
    case atStart => exact ⟨rfl, rfl, rfl⟩
    case round =>
      obtain ⟨rfl, rfl, rfl⟩ := hrel
      go_wp2
      go_ret
      exact ⟨by simp [cntD], HO.out, TurnS.refl _ _⟩
  simp only [List.cons.injEq, Value.slice.injEq, and_true] at hcs
  obtain ⟨rfl, _, rfl⟩ := hcs
  have HZ : Hid (szD (.list .int) x ≤ 1073741824 ∧ q + (cntD (.list .int) x : Nat) ≤ 8796000000000) := ⟨hz, h1⟩
  have HI : Hid (OwnK w .int g x.length x.length x S B) := hO
  have hc1 : q ≤ 8796000000000 := by omega
  have HCP : Hid (x.length ≤ cap ∧ cap ≤ maxLen) := hcap
  clear h hz hO h1 hcap
  obtain ⟨n, hnn⟩ : ∃ n, n = x.length := ⟨_, rfl⟩
  have HN : Hid (n = x.length) := hnn
  rw [← hnn] at hn HI ⊢
  clear hnn
  go_enter Try.func97, Try.ntmps97
  go_wp2
  go_loopw [5, 1] (fun i q' wr => ∃ k : Nat, k ≤ n ∧ i = .int .i64 k ∧ q' = .int .i64 (q + (cntU .int x k : Nat)) ∧ OwnK wr .int g n n (mkU .int x q k) S B ∧ TurnS S w wr) (fun i _ _ => n - (intOf i).toNat)
  case atStart => exact ⟨0, Nat.zero_le _, rfl, by simp [cntU], by rw [mkU_zero]; exact HI.out, TurnS.refl _ _⟩
  case round =>
    obtain ⟨k, hk, rfl, rfl, hO, ht⟩ := hrel
    clear HI
    by_cases hlt : k < n
    · have hlx : k < x.length := by have := HN.out; omega
      have hlt' : (k : Int) < (n : Int) := by omega
      obtain ⟨y, hy⟩ : ∃ y, y = q + (cntU .int x k : Nat) := ⟨_, rfl⟩
      rw [← hy]
      have hcs := cntU_succ .int x k hlx
      have hcl := cntU_le .int x (k + 1)
      have HYE : Hid (y = q + (cntU .int x k : Nat) ∧ cntU .int x (k + 1) = cntU .int x k + cntD .int x[k]) := ⟨hy, hcs⟩
      have hce : y + (cntD .int x[k] : Nat) ≤ 8796000000000 := by have := HZ.out.2; omega
      have hy0 : 0 < y := by omega
      clear hcs hcl hy
      obtain ⟨ec, hel, hec, hoe⟩ := hO.2.2.2.2.2 k (by rw [mkU_len]; exact hlx) hlt
      rw [mkU_at _ _ _ _ hlx] at hoe
      have hev : ec = [.int .i64 x[k]] := hoe
      subst hev
      have hce2 : y + 1 ≤ 8796000000000 := by have : cntD .int x[k] = 1 := rfl; omega
      have HW : Hid (OwnK wr .int g n n (mkU .int x q k) S B ∧ TurnS S w wr) := ⟨hO, ht⟩
      have P0 : Hid (∀ vs, PartD wr wr g n 1 k 0 vs (B k)) := fun vs => PartD.start hO.2.2.2.2.1 hO.1
      have hgz := hO.1
      clear hec hel hO ht hoe
      have hrm : Room wr g (n * 1) := (P0.out []).2.1
      obtain ⟨⟨e0, r0⟩, f0⟩ := hrm k (by omega)
      have HF : Hid (OwnK (wr.setCell ⟨g, k, none⟩ (.int .i64 (y))) .int g n n (mkU .int x q (k + 1)) S B ∧ TurnS S w (wr.setCell ⟨g, k, none⟩ (.int .i64 (y)))) := by
        have hP : PartD wr (wr.setCell ⟨g, k, none⟩ (.int .i64 (y))) g n 1 k 1 [.int .i64 (y)] (B k) := (by have := ((P0.out [.int .i64 (y)]).set (v := .int .i64 (y)) hlt (by omega) rfl); simpa using this)
        have hd := PartD.done (e := .int) (l := mkU .int x q k) (y := mkD .int x[k] y) hP HW.out.1 hlt rfl rfl
        have hms := mkU_set .int x q k hlx
        rw [← HYE.out.1] at hms
        rw [hms] at hd
        exact ⟨hd.1, HW.out.2.trans hd.2⟩
      have HQ : Hid (y + 1 = q + (cntU .int x (k + 1) : Nat)) := Hid.intro (by have h1 := HYE.out; have h2 : cntD .int x[k] = 1 := rfl; omega)
      clear P0 HW
      go_wp2
      go_roundw
      case rel => exact ⟨k + 1, by omega, by go_num, by rw [← HQ.out], HF.out⟩
      case measure => simp [intOf]; omega
    · have hkn : k = n := by omega
      subst hkn
      have HP : Hid (MkP (.list .int) [.slice (some ⟨g, 0, none⟩) k cap] (mkD (.list .int) x q) (q + (cntD (.list .int) x : Nat)) S w (.returned (.int .i64 (q + (cntU .int x k : Nat)))) wr) := by
        have e := HN.out
        subst e
        refine ⟨by rw [cntU_all], ?_, ht⟩
        rw [mkU_all] at hO
        have hO' : OwnK wr .int g (mkD (.list .int) x q).length (mkD (.list .int) x q).length (mkD (.list .int) x q) S B := by rw [mkD_len]; exact hO
        have := hO'.list (cap := cap) (by rw [mkD_len]; exact HCP.out.1) HCP.out.2
        rwa [mkD_len] at this
      clear hO ht
      go_wp2
      go_ret
      exact HP.out
set_option maxRecDepth 100000 in
set_option maxHeartbeats 4000000 in
theorem markAddS_n (a : Option Addr) (cap : Nat) (x : List (Sh.T shAdd)) (q : Int) (S : Nat → Prop) (w : World) (h0 : 0 < q) (h1 : q + (cntD (.list shAdd) x : Nat) ≤ 8796000000000) (hz : szD (.list shAdd) x ≤ 1073741824) (h : Own w (.list shAdd) [.slice a x.length cap] x S) :
    Calls Try.prog 105 #[.slice a x.length cap, .int .i64 q] w (MkP (.list shAdd) [.slice a x.length cap] (mkD (.list shAdd) x q) (q + (cntD (.list shAdd) x : Nat)) S w) := by
  have hn : x.length ≤ 1073741824 := by simp only [szD] at hz; omega
  rcases own_list h with ⟨hx, _⟩ | ⟨g, cap', B, hcs, hcap, hO⟩
  · subst hx
    have HO : Hid (Own w (.list shAdd) [.slice a 0 cap] [] S) := h
    clear h hz hn
    go_enter Try.func105, Try.ntmps105
    go_wp2
    go_loopw [5, 1] (fun i q' wr => i = .int .i64 0 ∧ q' = .int .i64 q ∧ wr = w) (fun _ _ _ => 0)
    case atStart => exact ⟨rfl, rfl, rfl⟩
    case round =>
      obtain ⟨rfl, rfl, rfl⟩ := hrel
      go_wp2
      go_ret
      exact ⟨by simp [cntD], HO.out, TurnS.refl _ _⟩
  simp only [List.cons.injEq, Value.slice.injEq, and_true] at hcs
  obtain ⟨rfl, _, rfl⟩ := hcs
  have HZ : Hid (szD (.list shAdd) x ≤ 1073741824 ∧ q + (cntD (.list shAdd) x : Nat) ≤ 8796000000000) := ⟨hz, h1⟩
  have HI : Hid (OwnK w shAdd g x.length x.length x S B) := hO
  have hc1 : q ≤ 8796000000000 := by omega
  have HCP : Hid (x.length ≤ cap ∧ cap ≤ maxLen) := hcap
  clear h hz hO h1 hcap
  obtain ⟨n, hnn⟩ : ∃ n, n = x.length := ⟨_, rfl⟩
  have HN : Hid (n = x.length) := hnn
  rw [← hnn] at hn HI ⊢
  clear hnn
  go_enter Try.func105, Try.ntmps105
  go_wp2
  go_loopw [5, 1] (fun i q' wr => ∃ k : Nat, k ≤ n ∧ i = .int .i64 k ∧ q' = .int .i64 (q + (cntU shAdd x k : Nat)) ∧ OwnK wr shAdd g n n (mkU shAdd x q k) S B ∧ TurnS S w wr) (fun i _ _ => n - (intOf i).toNat)
  case atStart => exact ⟨0, Nat.zero_le _, rfl, by simp [cntU], by rw [mkU_zero]; exact HI.out, TurnS.refl _ _⟩
  case round =>
    obtain ⟨k, hk, rfl, rfl, hO, ht⟩ := hrel
    clear HI
    by_cases hlt : k < n
    · have hlx : k < x.length := by have := HN.out; omega
      have hlt' : (k : Int) < (n : Int) := by omega
      obtain ⟨y, hy⟩ : ∃ y, y = q + (cntU shAdd x k : Nat) := ⟨_, rfl⟩
      rw [← hy]
      have hcs := cntU_succ shAdd x k hlx
      have hcl := cntU_le shAdd x (k + 1)
      have HYE : Hid (y = q + (cntU shAdd x k : Nat) ∧ cntU shAdd x (k + 1) = cntU shAdd x k + cntD shAdd x[k]) := ⟨hy, hcs⟩
      have hce : y + (cntD shAdd x[k] : Nat) ≤ 8796000000000 := by have := HZ.out.2; omega
      have hy0 : 0 < y := by omega
      clear hcs hcl hy
      obtain ⟨ec, hel, hec, hoe⟩ := hO.2.2.2.2.2 k (by rw [mkU_len]; exact hlx) hlt
      rw [mkU_at _ _ _ _ hlx] at hoe
      obtain hev := own_Add (x0 := x[k].1) (x1 := x[k].2.1) (x2 := x[k].2.2.1) hoe
      subst hev
      have hcE : cntD shAdd x[k] = (1 + (1 + (1 + 0))) := rfl
      have hce2 : y + 3 ≤ 8796000000000 := by omega
      clear hcE
      have HW : Hid (OwnK wr shAdd g n n (mkU shAdd x q k) S B ∧ TurnS S w wr) := ⟨hO, ht⟩
      have P0 : Hid (∀ vs, PartD wr wr g n 3 k 0 vs (B k)) := fun vs => PartD.start hO.2.2.2.2.1 hO.1
      have hgz := hO.1
      clear hec hel hO ht hoe hce
      have hrm : Room wr g (n * 3) := (P0.out []).2.1
      have Q1 := P0
      clear P0
      go_wp2_with fail
      refine (markText_any _ _ (by omega) (by omega)).mono ?_
      rintro r w1 ⟨rfl, hb⟩
      have P1 : Hid (∀ vs : List Value, PartD wr w1 g n 3 k 0 vs (B k)) := fun vs => (Q1.out vs).next hb
      clear hb Q1 hrm
      have hrm : Room w1 g (n * 3) := (P1.out [.bool false, .bool false, .bool false]).2.1
      have hgz1 := (P1.out [.bool false, .bool false, .bool false]).2.2.2.2
      obtain ⟨⟨e0, r0⟩, f0⟩ := hrm (k * 3) (by omega)
      obtain ⟨⟨e1, r1⟩, f1⟩ := hrm (k * 3 + 1) (by omega)
      obtain ⟨⟨e2, r2⟩, f2⟩ := hrm (k * 3 + 2) (by omega)
      have HF : Hid (OwnK (((w1.setCell ⟨g, k * 3, none⟩ (.string (mtx (y)))).setCell ⟨g, k * 3 + 1, none⟩ (.int .i64 (y + 1))).setCell ⟨g, k * 3 + 2, none⟩ (.int .i64 (y + 1 + 1))) shAdd g n n (mkU shAdd x q (k + 1)) S B ∧ TurnS S w (((w1.setCell ⟨g, k * 3, none⟩ (.string (mtx (y)))).setCell ⟨g, k * 3 + 1, none⟩ (.int .i64 (y + 1))).setCell ⟨g, k * 3 + 2, none⟩ (.int .i64 (y + 1 + 1)))) := by
        have hP : PartD wr (((w1.setCell ⟨g, k * 3, none⟩ (.string (mtx (y)))).setCell ⟨g, k * 3 + 1, none⟩ (.int .i64 (y + 1))).setCell ⟨g, k * 3 + 2, none⟩ (.int .i64 (y + 1 + 1))) g n 3 k 3 [.string (mtx (y)), .int .i64 (y + 1), .int .i64 (y + 1 + 1)] (B k) := ((((P1.out [.string (mtx (y)), .int .i64 (y + 1), .int .i64 (y + 1 + 1)]).set (v := .string (mtx (y))) hlt (by omega) rfl).set (v := .int .i64 (y + 1)) hlt (by omega) rfl).set (v := .int .i64 (y + 1 + 1)) hlt (by omega) rfl)
        have hd := PartD.done (e := shAdd) (l := mkU shAdd x q k) (y := mkD shAdd x[k] y) hP HW.out.1 hlt rfl (by have hq : mkD shAdd x[k] y = ((mtx (y)), (y + 1), (y + 1 + 1), ()) := mkeq_Add x[k].1 x[k].2.1 x[k].2.2.1 y; rw [hq]; exact mkown_Add)
        have hms := mkU_set shAdd x q k hlx
        rw [← HYE.out.1] at hms
        rw [hms] at hd
        exact ⟨hd.1, HW.out.2.trans hd.2⟩
      have HQ : Hid (y + 1 + 1 + 1 = q + (cntU shAdd x (k + 1) : Nat)) := Hid.intro (by have h1 := HYE.out; have h2 : cntD shAdd x[k] = (1 + (1 + (1 + 0))) := rfl; omega)
      clear P1 HW
      go_wp2
      go_roundw
      case rel => exact ⟨k + 1, by omega, by go_num, by rw [← HQ.out], HF.out⟩
      case measure => simp [intOf]; omega
    · have hkn : k = n := by omega
      subst hkn
      have HP : Hid (MkP (.list shAdd) [.slice (some ⟨g, 0, none⟩) k cap] (mkD (.list shAdd) x q) (q + (cntD (.list shAdd) x : Nat)) S w (.returned (.int .i64 (q + (cntU shAdd x k : Nat)))) wr) := by
        have e := HN.out
        subst e
        refine ⟨by rw [cntU_all], ?_, ht⟩
        rw [mkU_all] at hO
        have hO' : OwnK wr shAdd g (mkD (.list shAdd) x q).length (mkD (.list shAdd) x q).length (mkD (.list shAdd) x q) S B := by rw [mkD_len]; exact hO
        have := hO'.list (cap := cap) (by rw [mkD_len]; exact HCP.out.1) HCP.out.2
        rwa [mkD_len] at this
      clear hO ht
      go_wp2
      go_ret
      exact HP.out
set_option maxRecDepth 100000 in
set_option maxHeartbeats 4000000 in
theorem markStringS_n (a : Option Addr) (cap : Nat) (x : List (Sh.T .str)) (q : Int) (S : Nat → Prop) (w : World) (h0 : 0 < q) (h1 : q + (cntD (.list .str) x : Nat) ≤ 8796000000000) (hz : szD (.list .str) x ≤ 1073741824) (h : Own w (.list .str) [.slice a x.length cap] x S) :
    Calls Try.prog 59 #[.slice a x.length cap, .int .i64 q] w (MkP (.list .str) [.slice a x.length cap] (mkD (.list .str) x q) (q + (cntD (.list .str) x : Nat)) S w) := by
  have hn : x.length ≤ 1073741824 := by simp only [szD] at hz; omega
  rcases own_list h with ⟨hx, _⟩ | ⟨g, cap', B, hcs, hcap, hO⟩
  · subst hx
    have HO : Hid (Own w (.list .str) [.slice a 0 cap] [] S) := h
    clear h hz hn
    go_enter Try.func59, Try.ntmps59
    go_wp2
    go_loopw [5, 1] (fun i q' wr => i = .int .i64 0 ∧ q' = .int .i64 q ∧ wr = w) (fun _ _ _ => 0)
    case atStart => exact ⟨rfl, rfl, rfl⟩
    case round =>
      obtain ⟨rfl, rfl, rfl⟩ := hrel
      go_wp2
      go_ret
      exact ⟨by simp [cntD], HO.out, TurnS.refl _ _⟩
  simp only [List.cons.injEq, Value.slice.injEq, and_true] at hcs
  obtain ⟨rfl, _, rfl⟩ := hcs
  have HZ : Hid (szD (.list .str) x ≤ 1073741824 ∧ q + (cntD (.list .str) x : Nat) ≤ 8796000000000) := ⟨hz, h1⟩
  have HI : Hid (OwnK w .str g x.length x.length x S B) := hO
  have hc1 : q ≤ 8796000000000 := by omega
  have HCP : Hid (x.length ≤ cap ∧ cap ≤ maxLen) := hcap
  clear h hz hO h1 hcap
  obtain ⟨n, hnn⟩ : ∃ n, n = x.length := ⟨_, rfl⟩
  have HN : Hid (n = x.length) := hnn
  rw [← hnn] at hn HI ⊢
  clear hnn
  go_enter Try.func59, Try.ntmps59
  go_wp2
  go_loopw [5, 1] (fun i q' wr => ∃ k : Nat, k ≤ n ∧ i = .int .i64 k ∧ q' = .int .i64 (q + (cntU .str x k : Nat)) ∧ OwnK wr .str g n n (mkU .str x q k) S B ∧ TurnS S w wr) (fun i _ _ => n - (intOf i).toNat)
  case atStart => exact ⟨0, Nat.zero_le _, rfl, by simp [cntU], by rw [mkU_zero]; exact HI.out, TurnS.refl _ _⟩
  case round =>
    obtain ⟨k, hk, rfl, rfl, hO, ht⟩ := hrel
    clear HI
    by_cases hlt : k < n
    · have hlx : k < x.length := by have := HN.out; omega
      have hlt' : (k : Int) < (n : Int) := by omega
      obtain ⟨y, hy⟩ : ∃ y, y = q + (cntU .str x k : Nat) := ⟨_, rfl⟩
      rw [← hy]
      have hcs := cntU_succ .str x k hlx
      have hcl := cntU_le .str x (k + 1)
      have HYE : Hid (y = q + (cntU .str x k : Nat) ∧ cntU .str x (k + 1) = cntU .str x k + cntD .str x[k]) := ⟨hy, hcs⟩
      have hce : y + (cntD .str x[k] : Nat) ≤ 8796000000000 := by have := HZ.out.2; omega
      have hy0 : 0 < y := by omega
      clear hcs hcl hy
      obtain ⟨ec, hel, hec, hoe⟩ := hO.2.2.2.2.2 k (by rw [mkU_len]; exact hlx) hlt
      rw [mkU_at _ _ _ _ hlx] at hoe
      have hev : ec = [.string x[k]] := hoe
      subst hev
      have hce2 : y + 1 ≤ 8796000000000 := by have : cntD .str x[k] = 1 := rfl; omega
      have HW : Hid (OwnK wr .str g n n (mkU .str x q k) S B ∧ TurnS S w wr) := ⟨hO, ht⟩
      have P0 : Hid (∀ vs, PartD wr wr g n 1 k 0 vs (B k)) := fun vs => PartD.start hO.2.2.2.2.1 hO.1
      have hgz := hO.1
      clear hec hel hO ht hoe
      have hrm : Room wr g (n * 1) := (P0.out []).2.1
      have Q1 := P0
      clear P0
      go_wp2_with fail
      refine (markText_any _ _ (by omega) (by omega)).mono ?_
      rintro r w1 ⟨rfl, hb⟩
      have P1 : Hid (∀ vs : List Value, PartD wr w1 g n 1 k 0 vs (B k)) := fun vs => (Q1.out vs).next hb
      clear hb Q1 hrm
      have hrm : Room w1 g (n * 1) := (P1.out [.bool false]).2.1
      have hgz1 := (P1.out [.bool false]).2.2.2.2
      obtain ⟨⟨e0, r0⟩, f0⟩ := hrm k (by omega)
      have HF : Hid (OwnK (w1.setCell ⟨g, k, none⟩ (.string (mtx (y)))) .str g n n (mkU .str x q (k + 1)) S B ∧ TurnS S w (w1.setCell ⟨g, k, none⟩ (.string (mtx (y))))) := by
        have hP : PartD wr (w1.setCell ⟨g, k, none⟩ (.string (mtx (y)))) g n 1 k 1 [.string (mtx (y))] (B k) := (by have := ((P1.out [.string (mtx (y))]).set (v := .string (mtx (y))) hlt (by omega) rfl); simpa using this)
        have hd := PartD.done (e := .str) (l := mkU .str x q k) (y := mkD .str x[k] y) hP HW.out.1 hlt rfl rfl
        have hms := mkU_set .str x q k hlx
        rw [← HYE.out.1] at hms
        rw [hms] at hd
        exact ⟨hd.1, HW.out.2.trans hd.2⟩
      have HQ : Hid (y + 1 = q + (cntU .str x (k + 1) : Nat)) := Hid.intro (by have h1 := HYE.out; have h2 : cntD .str x[k] = 1 := rfl; omega)
      clear P1 HW
      go_wp2
      go_roundw
      case rel => exact ⟨k + 1, by omega, by go_num, by rw [← HQ.out], HF.out⟩
      case measure => simp [intOf]; omega
    · have hkn : k = n := by omega
      subst hkn
      have HP : Hid (MkP (.list .str) [.slice (some ⟨g, 0, none⟩) k cap] (mkD (.list .str) x q) (q + (cntD (.list .str) x : Nat)) S w (.returned (.int .i64 (q + (cntU .str x k : Nat)))) wr) := by
        have e := HN.out
        subst e
        refine ⟨by rw [cntU_all], ?_, ht⟩
        rw [mkU_all] at hO
        have hO' : OwnK wr .str g (mkD (.list .str) x q).length (mkD (.list .str) x q).length (mkD (.list .str) x q) S B := by rw [mkD_len]; exact hO
        have := hO'.list (cap := cap) (by rw [mkD_len]; exact HCP.out.1) HCP.out.2
        rwa [mkD_len] at this
      clear hO ht
      go_wp2
      go_ret
      exact HP.out
theorem mkTeq_Counter (x0 : List (Sh.T .int)) (x1 : List (Sh.T .int)) (q : Int) (z1 : Int) (z2 : Int) (hz1 : z1 = q + (cntD (.list .int) x0 : Nat)) (hz2 : z2 = z1 + (cntD (.list .int) x1 : Nat)) : mkT shCounter (x0, x1, ()) q = (mkD (.list .int) x0 q, mkD (.list .int) x1 z1, ()) := by
  subst hz2 hz1
  simp [shCounter, mkT, cntT, Int.add_assoc]
theorem cntTeq_Counter (x0 : List (Sh.T .int)) (x1 : List (Sh.T .int)) : cntT shCounter (x0, x1, ()) = cntD (.list .int) x0 + cntD (.list .int) x1 := by
  simp [shCounter, cntT]
set_option maxRecDepth 100000 in
set_option maxHeartbeats 4000000 in
theorem markCounter_n (cs : List Value) (x0 : List (Sh.T .int)) (x1 : List (Sh.T .int)) (q : Int) (S : Nat → Prop) (w : World) (h0 : 0 < q) (h1 : q + (cntT shCounter (x0, x1, ()) : Nat) ≤ 8796000000000) (hz : szD shCounter (x0, x1, ()) ≤ 1073741824) (hS : ∀ k, S k → k < w.heap.size) (h : Own w shCounter cs (x0, x1, ()) S) :
    Calls Try.prog 44 #[.agg cs.toArray, .int .i64 q] w (MkP shCounter cs (mkT shCounter (x0, x1, ()) q) (q + (cntT shCounter (x0, x1, ()) : Nat)) S w) := by
  obtain ⟨a1, k1, S1, a2, k2, S2, hev, o1, o2, s1, s2, d1_2⟩ := own_Counter h
  subst hev
  rw [cntTeq_Counter] at h1 ⊢
  have HE : Hid (szD shCounter (x0, x1, ()) = (szD (.list .int) x0 + (szD (.list .int) x1 + 0))) := rfl
  have HZ : Hid (szD shCounter (x0, x1, ()) ≤ 1073741824) := hz
  obtain ⟨c1, hc1⟩ : ∃ y, y = cntD (.list .int) x0 := ⟨_, rfl⟩
  obtain ⟨c2, hc2⟩ : ∃ y, y = cntD (.list .int) x1 := ⟨_, rfl⟩
  rw [← hc1, ← hc2] at h1 ⊢
  have HK1 : Hid (c1 = cntD (.list .int) x0) := hc1
  clear hc1
  have HK2 : Hid (c2 = cntD (.list .int) x1) := hc2
  clear hc2
  have O1 : Hid (Own w (.list .int) [.slice a1 x0.length k1] x0 S1) := o1
  clear o1
  have O2 : Hid (Own w (.list .int) [.slice a2 x1.length k2] x1 S2) := o2
  clear o2
  have hSw : Hid (∀ k, S k → k = w.heap.size → False) := fun k h1 h2 => by have := hS k h1; omega
  clear h hz hS
  go_enter Try.func44, Try.ntmps44
  go_wp2_with fail
  obtain ⟨w0, hW⟩ : ∃ x, x = w.alloc (.cells #[.slice a1 x0.length k1, .slice a2 x1.length k2] 25) := ⟨_, rfl⟩
  have hb0 : Below w.heap.size w w0 := hW ▸ Go.Joins.below_alloc1 _ _
  have HB : Hid (Bx w0 w.heap.size [.slice a1 x0.length k1, .slice a2 x1.length k2] ∧ TurnS S w w0 ∧ (∀ k, S k → k < w.heap.size → True)) := ⟨hW ▸ Bx.new w [.slice a1 x0.length k1, .slice a2 x1.length k2] _, TurnS.of_below hb0, fun _ _ _ => trivial⟩
  have O1 : Hid (Own w0 (.list .int) [.slice a1 x0.length k1] x0 S1) := O1.out.next hb0
  have O2 : Hid (Own w0 (.list .int) [.slice a2 x1.length k2] x1 S2) := O2.out.next hb0
  rw [← hW]
  clear hW hb0
  refine (markIntS_n _ _ _ _ S1 _ (by omega) (by rw [← HK1.out]; omega) (by have := HZ.out; rw [HE.out] at this; omega) O1.out).mono ?_
  rintro r w1 ⟨hr, ho, hb⟩
  rw [← HK1.out] at hr
  obtain ⟨z1, hz1⟩ : ∃ zz, zz = q + (c1 : Int) := ⟨_, rfl⟩
  rw [← hz1] at hr
  subst hr
  have HZ1 : Hid (z1 = q + (c1 : Int)) := hz1
  have hzb1 : 0 < z1 ∧ z1 + (c2 : Int) ≤ 8796000000000 := by omega
  clear hz1
  have HB : Hid (Bx w1 w.heap.size [.slice a1 x0.length k1, .slice a2 x1.length k2] ∧ TurnS S w w1 ∧ (∀ k, S k → k < w.heap.size → True)) := ⟨HB.out.1.turnS hb (fun q => hSw.out w.heap.size (s1 _ q) rfl), HB.out.2.1.trans (hb.wide s1), fun _ _ _ => trivial⟩
  have O1 : Hid (Own w1 (.list .int) [.slice a1 x0.length k1] (mkD (.list .int) x0 q) S1) := ho
  have O2 : Hid (Own w1 (.list .int) [.slice a2 x1.length k2] x1 S2) := O2.out.turn hb (fun k e f => d1_2 k f e)
  clear ho hb
  have dz := HB.out.1
  have d0 := HB.out.1.cell 0 rfl
  have d1 := HB.out.1.cell 1 rfl
  have dz := HB.out.1.2
  go_wp2_with fail
  clear dz d0 d1
  refine (markIntS_n _ _ _ _ S2 _ (by omega) (by rw [← HK2.out]; omega) (by have := HZ.out; rw [HE.out] at this; omega) O2.out).mono ?_
  rintro r w2 ⟨hr, ho, hb⟩
  rw [← HK2.out] at hr
  obtain ⟨z2, hz2⟩ : ∃ zz, zz = z1 + (c2 : Int) := ⟨_, rfl⟩
  rw [← hz2] at hr
  subst hr
  have HZ2 : Hid (z2 = z1 + (c2 : Int)) := hz2
  have hzb2 : 0 < z2 ∧ z2 ≤ 8796000000000 := by omega
  clear hz2
  have HB : Hid (Bx w2 w.heap.size [.slice a1 x0.length k1, .slice a2 x1.length k2] ∧ TurnS S w w2 ∧ (∀ k, S k → k < w.heap.size → True)) := ⟨HB.out.1.turnS hb (fun q => hSw.out w.heap.size (s2 _ q) rfl), HB.out.2.1.trans (hb.wide s2), fun _ _ _ => trivial⟩
  have O1 : Hid (Own w2 (.list .int) [.slice a1 x0.length k1] (mkD (.list .int) x0 q) S1) := O1.out.turn hb d1_2
  have O2 : Hid (Own w2 (.list .int) [.slice a2 x1.length k2] (mkD (.list .int) x1 z1) S2) := ho
  clear ho hb
  have d0 := HB.out.1.cell 0 rfl
  have d1 := HB.out.1.cell 1 rfl
  have dz := HB.out.1.2
  go_wp2
  go_ret
  refine ⟨congrArg (fun t => Ending.returned (.int .i64 t)) (by have := HZ1.out; have := HZ2.out; omega), ?_, HB.out.2.1⟩
  rw [mkTeq_Counter x0 x1 q z1 z2 (by rw [← HK1.out]; exact HZ1.out) (by rw [← HK2.out]; exact HZ2.out)]
  exact mkown_Counter O1.out O2.out s1 s2 d1_2
theorem mkTeq_Bag (x0 : List (Sh.T shAdd)) (x1 : List (Sh.T shAdd)) (q : Int) (z1 : Int) (z2 : Int) (hz1 : z1 = q + (cntD (.list shAdd) x0 : Nat)) (hz2 : z2 = z1 + (cntD (.list shAdd) x1 : Nat)) : mkT shBag (x0, x1, ()) q = (mkD (.list shAdd) x0 q, mkD (.list shAdd) x1 z1, ()) := by
  subst hz2 hz1
  simp [shBag, mkT, cntT, Int.add_assoc]
theorem cntTeq_Bag (x0 : List (Sh.T shAdd)) (x1 : List (Sh.T shAdd)) : cntT shBag (x0, x1, ()) = cntD (.list shAdd) x0 + cntD (.list shAdd) x1 := by
  simp [shBag, cntT]
set_option maxRecDepth 100000 in
set_option maxHeartbeats 4000000 in
theorem markBag_n (cs : List Value) (x0 : List (Sh.T shAdd)) (x1 : List (Sh.T shAdd)) (q : Int) (S : Nat → Prop) (w : World) (h0 : 0 < q) (h1 : q + (cntT shBag (x0, x1, ()) : Nat) ≤ 8796000000000) (hz : szD shBag (x0, x1, ()) ≤ 1073741824) (hS : ∀ k, S k → k < w.heap.size) (h : Own w shBag cs (x0, x1, ()) S) :
    Calls Try.prog 55 #[.agg cs.toArray, .int .i64 q] w (MkP shBag cs (mkT shBag (x0, x1, ()) q) (q + (cntT shBag (x0, x1, ()) : Nat)) S w) := by
  obtain ⟨a1, k1, S1, a2, k2, S2, hev, o1, o2, s1, s2, d1_2⟩ := own_Bag h
  subst hev
  rw [cntTeq_Bag] at h1 ⊢
  have HE : Hid (szD shBag (x0, x1, ()) = (szD (.list shAdd) x0 + (szD (.list shAdd) x1 + 0))) := rfl
  have HZ : Hid (szD shBag (x0, x1, ()) ≤ 1073741824) := hz
  obtain ⟨c1, hc1⟩ : ∃ y, y = cntD (.list shAdd) x0 := ⟨_, rfl⟩
  obtain ⟨c2, hc2⟩ : ∃ y, y = cntD (.list shAdd) x1 := ⟨_, rfl⟩
  rw [← hc1, ← hc2] at h1 ⊢
  have HK1 : Hid (c1 = cntD (.list shAdd) x0) := hc1
  clear hc1
  have HK2 : Hid (c2 = cntD (.list shAdd) x1) := hc2
  clear hc2
  have O1 : Hid (Own w (.list shAdd) [.slice a1 x0.length k1] x0 S1) := o1
  clear o1
  have O2 : Hid (Own w (.list shAdd) [.slice a2 x1.length k2] x1 S2) := o2
  clear o2
  have hSw : Hid (∀ k, S k → k = w.heap.size → False) := fun k h1 h2 => by have := hS k h1; omega
  clear h hz hS
  go_enter Try.func55, Try.ntmps55
  go_wp2_with fail
  obtain ⟨w0, hW⟩ : ∃ x, x = w.alloc (.cells #[.slice a1 x0.length k1, .slice a2 x1.length k2] 46) := ⟨_, rfl⟩
  have hb0 : Below w.heap.size w w0 := hW ▸ Go.Joins.below_alloc1 _ _
  have HB : Hid (Bx w0 w.heap.size [.slice a1 x0.length k1, .slice a2 x1.length k2] ∧ TurnS S w w0 ∧ (∀ k, S k → k < w.heap.size → True)) := ⟨hW ▸ Bx.new w [.slice a1 x0.length k1, .slice a2 x1.length k2] _, TurnS.of_below hb0, fun _ _ _ => trivial⟩
  have O1 : Hid (Own w0 (.list shAdd) [.slice a1 x0.length k1] x0 S1) := O1.out.next hb0
  have O2 : Hid (Own w0 (.list shAdd) [.slice a2 x1.length k2] x1 S2) := O2.out.next hb0
  rw [← hW]
  clear hW hb0
  refine (markAddS_n _ _ _ _ S1 _ (by omega) (by rw [← HK1.out]; omega) (by have := HZ.out; rw [HE.out] at this; omega) O1.out).mono ?_
  rintro r w1 ⟨hr, ho, hb⟩
  rw [← HK1.out] at hr
  obtain ⟨z1, hz1⟩ : ∃ zz, zz = q + (c1 : Int) := ⟨_, rfl⟩
  rw [← hz1] at hr
  subst hr
  have HZ1 : Hid (z1 = q + (c1 : Int)) := hz1
  have hzb1 : 0 < z1 ∧ z1 + (c2 : Int) ≤ 8796000000000 := by omega
  clear hz1
  have HB : Hid (Bx w1 w.heap.size [.slice a1 x0.length k1, .slice a2 x1.length k2] ∧ TurnS S w w1 ∧ (∀ k, S k → k < w.heap.size → True)) := ⟨HB.out.1.turnS hb (fun q => hSw.out w.heap.size (s1 _ q) rfl), HB.out.2.1.trans (hb.wide s1), fun _ _ _ => trivial⟩
  have O1 : Hid (Own w1 (.list shAdd) [.slice a1 x0.length k1] (mkD (.list shAdd) x0 q) S1) := ho
  have O2 : Hid (Own w1 (.list shAdd) [.slice a2 x1.length k2] x1 S2) := O2.out.turn hb (fun k e f => d1_2 k f e)
  clear ho hb
  have dz := HB.out.1
  have d0 := HB.out.1.cell 0 rfl
  have d1 := HB.out.1.cell 1 rfl
  have dz := HB.out.1.2
  go_wp2_with fail
  clear dz d0 d1
  refine (markAddS_n _ _ _ _ S2 _ (by omega) (by rw [← HK2.out]; omega) (by have := HZ.out; rw [HE.out] at this; omega) O2.out).mono ?_
  rintro r w2 ⟨hr, ho, hb⟩
  rw [← HK2.out] at hr
  obtain ⟨z2, hz2⟩ : ∃ zz, zz = z1 + (c2 : Int) := ⟨_, rfl⟩
  rw [← hz2] at hr
  subst hr
  have HZ2 : Hid (z2 = z1 + (c2 : Int)) := hz2
  have hzb2 : 0 < z2 ∧ z2 ≤ 8796000000000 := by omega
  clear hz2
  have HB : Hid (Bx w2 w.heap.size [.slice a1 x0.length k1, .slice a2 x1.length k2] ∧ TurnS S w w2 ∧ (∀ k, S k → k < w.heap.size → True)) := ⟨HB.out.1.turnS hb (fun q => hSw.out w.heap.size (s2 _ q) rfl), HB.out.2.1.trans (hb.wide s2), fun _ _ _ => trivial⟩
  have O1 : Hid (Own w2 (.list shAdd) [.slice a1 x0.length k1] (mkD (.list shAdd) x0 q) S1) := O1.out.turn hb d1_2
  have O2 : Hid (Own w2 (.list shAdd) [.slice a2 x1.length k2] (mkD (.list shAdd) x1 z1) S2) := ho
  clear ho hb
  have d0 := HB.out.1.cell 0 rfl
  have d1 := HB.out.1.cell 1 rfl
  have dz := HB.out.1.2
  go_wp2
  go_ret
  refine ⟨congrArg (fun t => Ending.returned (.int .i64 t)) (by have := HZ1.out; have := HZ2.out; omega), ?_, HB.out.2.1⟩
  rw [mkTeq_Bag x0 x1 q z1 z2 (by rw [← HK1.out]; exact HZ1.out) (by rw [← HK2.out]; exact HZ2.out)]
  exact mkown_Bag O1.out O2.out s1 s2 d1_2
end Go.Proofs.Ytnglgndocmkbfaa
