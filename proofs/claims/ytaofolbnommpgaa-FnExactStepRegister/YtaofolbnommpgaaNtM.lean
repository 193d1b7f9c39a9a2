/- The law's own functions that mark lists. Written by tools/nest.py. -/
import Derived.Test.YtaofolbnommpgaaMgA
import Derived.Test.YtaofolbnommpgaaProg
import Derived.WalkKit
import Derived.WalkSpells
import Derived.WalkLawsBesides
import Derived.Test.YtaofolbnommpgaaShM
namespace Go.Proofs.Ytaofolbnommpgaa
open Go.RowKit
set_option linter.unusedVariables false
set_option linter.unusedSimpArgs false

theorem mkeq_Copy (x0 : Int) (x1 : Int) (x2 : ByteArray) (y : Int) : mkD shCopy (x0, x1, x2, ()) y = ((y), (y + 1), (mtx (y + 1 + 1)), ()) := by
  rfl
theorem mkeq_RegOp (x0 : Int) (x1 : Bool) (x2 : ByteArray) (x3 : Int) (x4 : List (Sh.T .int)) (x5 : Int) (x6 : Int) (x7 : ByteArray) (x8 : Int) (x9 : Int) (y : Int) (z1 : Int) (hz1 : z1 = y + 1 + 1 + 1 + 1 + (cntD (.list .int) x4 : Nat)) : mkD shRegOp (x0, x1, x2, x3, x4, (x5, x6, x7, ()), x8, x9, ()) y = ((y), ((y + 1) % 3 == 0), (mtx (y + 1 + 1)), (y + 1 + 1 + 1), mkD (.list .int) x4 (y + 1 + 1 + 1 + 1), ((z1), (z1 + 1), (mtx (z1 + 1 + 1)), ()), (z1 + 1 + 1 + 1), (z1 + 1 + 1 + 1 + 1), ()) := by
  have h : mkD shRegOp (x0, x1, x2, x3, x4, (x5, x6, x7, ()), x8, x9, ()) y = ((y), ((y + 1) % 3 == 0), (mtx (y + 1 + 1)), (y + 1 + 1 + 1), mkD (.list .int) x4 (y + 1 + 1 + 1 + 1), ((z1), (z1 + 1), (mtx (z1 + 1 + 1)), ()), ((z1 + ((cntD shCopy (x5, x6, x7, ()) : Nat) : Int))), ((z1 + ((cntD shCopy (x5, x6, x7, ()) : Nat) : Int)) + 1), ()) := by subst hz1; rfl
  have e0 : z1 + ((cntD shCopy (x5, x6, x7, ()) : Nat) : Int) = z1 + 1 + 1 + 1 := by have : cntD shCopy (x5, x6, x7, ()) = 3 := rfl; omega
  rw [h, e0]
set_option maxRecDepth 100000 in
set_option maxHeartbeats 4000000 in
theorem markIntS_n (a : Option Addr) (cap : Nat) (x : List (Sh.T .int)) (q : Int) (S : Nat → Prop) (w : World) (h0 : 0 < q) (h1 : q + (cntD (.list .int) x : Nat) ≤ 8796000000000) (hz : szD (.list .int) x ≤ 1073741824) (h : Own w (.list .int) [.slice a x.length cap] x S) :
    Calls Try.prog 106 #[.slice a x.length cap, .int .i64 q] w (MkP (.list .int) [.slice a x.length cap] (mkD (.list .int) x q) (q + (cntD (.list .int) x : Nat)) S w) := by
  have hn : x.length ≤ 1073741824 := by simp only [szD] at hz; omega
  rcases own_list h with ⟨hx, _⟩ | ⟨g, cap', B, hcs, hcap, hO⟩
  · subst hx
    have HO : Hid (Own w (.list .int) [.slice a 0 cap] [] S) := h
    clear h hz hn
    go_enter Try.func106, Try.ntmps106
    go_wp2
    go_loopw [5, 1] (fun i q' wr => i = .int .i64 0 ∧ q' = .int .i64 q ∧ wr = w) (fun _ _ _ => 0)
    case atStart => exact ⟨rfl, rfl, rfl⟩
    case round =>
      obtain ⟨rfl, rfl, rfl⟩ := hrel
      go_wp2
      go_ret
      exact ⟨by simp [cntD], HO.out, TurnS.refl _ _⟩
  simp only [List.cons.injEq, Value.slice.injEq, and_true] at hcs
  obtain ⟨rfl, _, rfl⟩ := hcs
  have HZ : Hid (szD (.list .int) x ≤ 1073741824 ∧ q + (cntD (.list .int) x : Nat) ≤ 8796000000000) := ⟨hz, h1⟩
  have HI : Hid (OwnK w .int g x.length x.length x S B) := hO
  have hc1 : q ≤ 8796000000000 := by omega
  have HCP : Hid (x.length ≤ cap ∧ cap ≤ maxLen) := hcap
  clear h hz hO h1 hcap
  obtain ⟨n, hnn⟩ : ∃ n, n = x.length := ⟨_, rfl⟩
  have HN : Hid (n = x.length) := hnn
  rw [← hnn] at hn HI ⊢
  clear hnn
  go_enter Try.func106, Try.ntmps106
  go_wp2
  go_loopw [5, 1] (fun i q' wr => ∃ k : Nat, k ≤ n ∧ i = .int .i64 k ∧ q' = .int .i64 (q + (cntU .int x k : Nat)) ∧ OwnK wr .int g n n (mkU .int x q k) S B ∧ TurnS S w wr) (fun i _ _ => n - (intOf i).toNat)
  case atStart => exact ⟨0, Nat.zero_le _, rfl, by simp [cntU], by rw [mkU_zero]; exact HI.out, TurnS.refl _ _⟩
  case round =>
    obtain ⟨k, hk, rfl, rfl, hO, ht⟩ := hrel
    clear HI
    by_cases hlt : k < n
    · have hlx : k < x.length := by have := HN.out; omega
      have hlt' : (k : Int) < (n : Int) := by omega
      obtain ⟨y, hy⟩ : ∃ y, y = q + (cntU .int x k : Nat) := ⟨_, rfl⟩
      rw [← hy]
      have hcs := cntU_succ .int x k hlx
      have hcl := cntU_le .int x (k + 1)
      have HYE : Hid (y = q + (cntU .int x k : Nat) ∧ cntU .int x (k + 1) = cntU .int x k + cntD .int x[k]) := ⟨hy, hcs⟩
      have hce : y + (cntD .int x[k] : Nat) ≤ 8796000000000 := by have := HZ.out.2; omega
      have hy0 : 0 < y := by omega
      clear hcs hcl hy
      obtain ⟨ec, hel, hec, hoe⟩ := hO.2.2.2.2.2 k (by rw [mkU_len]; exact hlx) hlt
      rw [mkU_at _ _ _ _ hlx] at hoe
      have hev : ec = [.int .i64 x[k]] := hoe
      subst hev
      have hce2 : y + 1 ≤ 8796000000000 := by have : cntD .int x[k] = 1 := rfl; omega
      have HW : Hid (OwnK wr .int g n n (mkU .int x q k) S B ∧ TurnS S w wr) := ⟨hO, ht⟩
      have P0 : Hid (∀ vs, PartD wr wr g n 1 k 0 vs (B k)) := fun vs => PartD.start hO.2.2.2.2.1 hO.1
      have hgz := hO.1
      clear hec hel hO ht hoe
      have hrm : Room wr g (n * 1) := (P0.out []).2.1
      obtain ⟨⟨e0, r0⟩, f0⟩ := hrm k (by omega)
      have HF : Hid (OwnK (wr.setCell ⟨g, k, none⟩ (.int .i64 (y))) .int g n n (mkU .int x q (k + 1)) S B ∧ TurnS S w (wr.setCell ⟨g, k, none⟩ (.int .i64 (y)))) := by
        have hP : PartD wr (wr.setCell ⟨g, k, none⟩ (.int .i64 (y))) g n 1 k 1 [.int .i64 (y)] (B k) := (by have := ((P0.out [.int .i64 (y)]).set (v := .int .i64 (y)) hlt (by omega) rfl); simpa using this)
        have hd := PartD.done (e := .int) (l := mkU .int x q k) (y := mkD .int x[k] y) hP HW.out.1 hlt rfl rfl
        have hms := mkU_set .int x q k hlx
        rw [← HYE.out.1] at hms
        rw [hms] at hd
        exact ⟨hd.1, HW.out.2.trans hd.2⟩
      have HQ : Hid (y + 1 = q + (cntU .int x (k + 1) : Nat)) := Hid.intro (by have h1 := HYE.out; have h2 : cntD .int x[k] = 1 := rfl; omega)
      clear P0 HW
      go_wp2
      go_roundw
      case rel => exact ⟨k + 1, by omega, by go_num, by rw [← HQ.out], HF.out⟩
      case measure => simp [intOf]; omega
    · have hkn : k = n := by omega
      subst hkn
      have HP : Hid (MkP (.list .int) [.slice (some ⟨g, 0, none⟩) k cap] (mkD (.list .int) x q) (q + (cntD (.list .int) x : Nat)) S w (.returned (.int .i64 (q + (cntU .int x k : Nat)))) wr) := by
        have e := HN.out
        subst e
        refine ⟨by rw [cntU_all], ?_, ht⟩
        rw [mkU_all] at hO
        have hO' : OwnK wr .int g (mkD (.list .int) x q).length (mkD (.list .int) x q).length (mkD (.list .int) x q) S B := by rw [mkD_len]; exact hO
        have := hO'.list (cap := cap) (by rw [mkD_len]; exact HCP.out.1) HCP.out.2
        rwa [mkD_len] at this
      clear hO ht
      go_wp2
      go_ret
      exact HP.out
set_option maxRecDepth 100000 in
set_option maxHeartbeats 4000000 in
theorem markCopyS_n (a : Option Addr) (cap : Nat) (x : List (Sh.T shCopy)) (q : Int) (S : Nat → Prop) (w : World) (h0 : 0 < q) (h1 : q + (cntD (.list shCopy) x : Nat) ≤ 8796000000000) (hz : szD (.list shCopy) x ≤ 1073741824) (h : Own w (.list shCopy) [.slice a x.length cap] x S) :
    Calls Try.prog 75 #[.slice a x.length cap, .int .i64 q] w (MkP (.list shCopy) [.slice a x.length cap] (mkD (.list shCopy) x q) (q + (cntD (.list shCopy) x : Nat)) S w) := by
  have hn : x.length ≤ 1073741824 := by simp only [szD] at hz; omega
  rcases own_list h with ⟨hx, _⟩ | ⟨g, cap', B, hcs, hcap, hO⟩
  · subst hx
    have HO : Hid (Own w (.list shCopy) [.slice a 0 cap] [] S) := h
    clear h hz hn
    go_enter Try.func75, Try.ntmps75
    go_wp2
    go_loopw [5, 1] (fun i q' wr => i = .int .i64 0 ∧ q' = .int .i64 q ∧ wr = w) (fun _ _ _ => 0)
    case atStart => exact ⟨rfl, rfl, rfl⟩
    case round =>
      obtain ⟨rfl, rfl, rfl⟩ := hrel
      go_wp2
      go_ret
      exact ⟨by simp [cntD], HO.out, TurnS.refl _ _⟩
  simp only [List.cons.injEq, Value.slice.injEq, and_true] at hcs
  obtain ⟨rfl, _, rfl⟩ := hcs
  have HZ : Hid (szD (.list shCopy) x ≤ 1073741824 ∧ q + (cntD (.list shCopy) x : Nat) ≤ 8796000000000) := ⟨hz, h1⟩
  have HI : Hid (OwnK w shCopy g x.length x.length x S B) := hO
  have hc1 : q ≤ 8796000000000 := by omega
  have HCP : Hid (x.length ≤ cap ∧ cap ≤ maxLen) := hcap
  clear h hz hO h1 hcap
  obtain ⟨n, hnn⟩ : ∃ n, n = x.length := ⟨_, rfl⟩
  have HN : Hid (n = x.length) := hnn
  rw [← hnn] at hn HI ⊢
  clear hnn
  go_enter Try.func75, Try.ntmps75
  go_wp2
  go_loopw [5, 1] (fun i q' wr => ∃ k : Nat, k ≤ n ∧ i = .int .i64 k ∧ q' = .int .i64 (q + (cntU shCopy x k : Nat)) ∧ OwnK wr shCopy g n n (mkU shCopy x q k) S B ∧ TurnS S w wr) (fun i _ _ => n - (intOf i).toNat)
  case atStart => exact ⟨0, Nat.zero_le _, rfl, by simp [cntU], by rw [mkU_zero]; exact HI.out, TurnS.refl _ _⟩
  case round =>
    obtain ⟨k, hk, rfl, rfl, hO, ht⟩ := hrel
    clear HI
    by_cases hlt : k < n
    · have hlx : k < x.length := by have := HN.out; omega
      have hlt' : (k : Int) < (n : Int) := by omega
      obtain ⟨y, hy⟩ : ∃ y, y = q + (cntU shCopy x k : Nat) := ⟨_, rfl⟩
      rw [← hy]
      have hcs := cntU_succ shCopy x k hlx
      have hcl := cntU_le shCopy x (k + 1)
      have HYE : Hid (y = q + (cntU shCopy x k : Nat) ∧ cntU shCopy x (k + 1) = cntU shCopy x k + cntD shCopy x[k]) := ⟨hy, hcs⟩
      have hce : y + (cntD shCopy x[k] : Nat) ≤ 8796000000000 := by have := HZ.out.2; omega
      have hy0 : 0 < y := by omega
      clear hcs hcl hy
      obtain ⟨ec, hel, hec, hoe⟩ := hO.2.2.2.2.2 k (by rw [mkU_len]; exact hlx) hlt
      rw [mkU_at _ _ _ _ hlx] at hoe
      obtain hev := own_Copy (x0 := x[k].1) (x1 := x[k].2.1) (x2 := x[k].2.2.1) hoe
      subst hev
      have hcE : cntD shCopy x[k] = (1 + (1 + (1 + 0))) := rfl
      have hce2 : y + 3 ≤ 8796000000000 := by omega
      clear hcE
      have HW : Hid (OwnK wr shCopy g n n (mkU shCopy x q k) S B ∧ TurnS S w wr) := ⟨hO, ht⟩
      have P0 : Hid (∀ vs, PartD wr wr g n 3 k 0 vs (B k)) := fun vs => PartD.start hO.2.2.2.2.1 hO.1
      have hgz := hO.1
      clear hec hel hO ht hoe hce
      have hrm : Room wr g (n * 3) := (P0.out []).2.1
      obtain ⟨⟨e0, r0⟩, f0⟩ := hrm (k * 3) (by omega)
      obtain ⟨⟨e1, r1⟩, f1⟩ := hrm (k * 3 + 1) (by omega)
      have Q1 : Hid (∀ vs : List Value, vs[0]? = some (.int .i64 (y)) → vs[1]? = some (.int .i64 (y + 1)) → PartD wr ((wr.setCell ⟨g, k * 3, none⟩ (.int .i64 (y))).setCell ⟨g, k * 3 + 1, none⟩ (.int .i64 (y + 1))) g n 3 k 2 vs (B k)) := fun vs h0 h1 => (((P0.out vs).set (v := .int .i64 (y)) hlt (by omega) h0).set (v := .int .i64 (y + 1)) hlt (by omega) h1)
      clear P0
      go_wp2_with fail
      refine (markText_any _ _ (by omega) (by omega)).mono ?_
      rintro r w1 ⟨rfl, hb⟩
      have P1 : Hid (∀ vs : List Value, vs[0]? = some (.int .i64 (y)) → vs[1]? = some (.int .i64 (y + 1)) → PartD wr w1 g n 3 k 2 vs (B k)) := fun vs h0 h1 => (Q1.out vs h0 h1).next hb
      clear hb Q1 hrm r0 f0 r1 f1
      have hrm : Room w1 g (n * 3) := (P1.out [.int .i64 (y), .int .i64 (y + 1), .bool false] rfl rfl).2.1
      have hgz1 := (P1.out [.int .i64 (y), .int .i64 (y + 1), .bool false] rfl rfl).2.2.2.2
      obtain ⟨⟨e2, r2⟩, f2⟩ := hrm (k * 3 + 2) (by omega)
      have HF : Hid (OwnK (w1.setCell ⟨g, k * 3 + 2, none⟩ (.string (mtx (y + 1 + 1)))) shCopy g n n (mkU shCopy x q (k + 1)) S B ∧ TurnS S w (w1.setCell ⟨g, k * 3 + 2, none⟩ (.string (mtx (y + 1 + 1))))) := by
        have hP : PartD wr (w1.setCell ⟨g, k * 3 + 2, none⟩ (.string (mtx (y + 1 + 1)))) g n 3 k 3 [.int .i64 (y), .int .i64 (y + 1), .string (mtx (y + 1 + 1))] (B k) := ((P1.out [.int .i64 (y), .int .i64 (y + 1), .string (mtx (y + 1 + 1))] rfl rfl).set (v := .string (mtx (y + 1 + 1))) hlt (by omega) rfl)
        have hd := PartD.done (e := shCopy) (l := mkU shCopy x q k) (y := mkD shCopy x[k] y) hP HW.out.1 hlt rfl (by have hq : mkD shCopy x[k] y = ((y), (y + 1), (mtx (y + 1 + 1)), ()) := mkeq_Copy x[k].1 x[k].2.1 x[k].2.2.1 y; rw [hq]; exact mkown_Copy)
        have hms := mkU_set shCopy x q k hlx
        rw [← HYE.out.1] at hms
        rw [hms] at hd
        exact ⟨hd.1, HW.out.2.trans hd.2⟩
      have HQ : Hid (y + 1 + 1 + 1 = q + (cntU shCopy x (k + 1) : Nat)) := Hid.intro (by have h1 := HYE.out; have h2 : cntD shCopy x[k] = (1 + (1 + (1 + 0))) := rfl; omega)
      clear P1 HW
      go_wp2
      go_roundw
      case rel => exact ⟨k + 1, by omega, by go_num, by rw [← HQ.out], HF.out⟩
      case measure => simp [intOf]; omega
    · have hkn : k = n := by omega
      subst hkn
      have HP : Hid (MkP (.list shCopy) [.slice (some ⟨g, 0, none⟩) k cap] (mkD (.list shCopy) x q) (q + (cntD (.list shCopy) x : Nat)) S w (.returned (.int .i64 (q + (cntU shCopy x k : Nat)))) wr) := by
        have e := HN.out
        subst e
        refine ⟨by rw [cntU_all], ?_, ht⟩
        rw [mkU_all] at hO
        have hO' : OwnK wr shCopy g (mkD (.list shCopy) x q).length (mkD (.list shCopy) x q).length (mkD (.list shCopy) x q) S B := by rw [mkD_len]; exact hO
        have := hO'.list (cap := cap) (by rw [mkD_len]; exact HCP.out.1) HCP.out.2
        rwa [mkD_len] at this
      clear hO ht
      go_wp2
      go_ret
      exact HP.out
set_option maxRecDepth 100000 in
set_option maxHeartbeats 4000000 in
theorem markRegOpS_n (a : Option Addr) (cap : Nat) (x : List (Sh.T shRegOp)) (q : Int) (S : Nat → Prop) (w : World) (h0 : 0 < q) (h1 : q + (cntD (.list shRegOp) x : Nat) ≤ 8796000000000) (hz : szD (.list shRegOp) x ≤ 1073741824) (h : Own w (.list shRegOp) [.slice a x.length cap] x S) :
    Calls Try.prog 76 #[.slice a x.length cap, .int .i64 q] w (MkP (.list shRegOp) [.slice a x.length cap] (mkD (.list shRegOp) x q) (q + (cntD (.list shRegOp) x : Nat)) S w) := by
  have hn : x.length ≤ 1073741824 := by simp only [szD] at hz; omega
  rcases own_list h with ⟨hx, _⟩ | ⟨g, cap', B, hcs, hcap, hO⟩
  · subst hx
    have HO : Hid (Own w (.list shRegOp) [.slice a 0 cap] [] S) := h
    clear h hz hn
    go_enter Try.func76, Try.ntmps76
    go_wp2
    go_loopw [5, 1] (fun i q' wr => i = .int .i64 0 ∧ q' = .int .i64 q ∧ wr = w) (fun _ _ _ => 0)
    case atStart => exact ⟨rfl, rfl, rfl⟩
    case round =>
      obtain ⟨rfl, rfl, rfl⟩ := hrel
      go_wp2
      go_ret
      exact ⟨by simp [cntD], HO.out, TurnS.refl _ _⟩
  simp only [List.cons.injEq, Value.slice.injEq, and_true] at hcs
  obtain ⟨rfl, _, rfl⟩ := hcs
  have HZ : Hid (szD (.list shRegOp) x ≤ 1073741824 ∧ q + (cntD (.list shRegOp) x : Nat) ≤ 8796000000000) := ⟨hz, h1⟩
  have HI : Hid (OwnK w shRegOp g x.length x.length x S B) := hO
  have hc1 : q ≤ 8796000000000 := by omega
  have HCP : Hid (x.length ≤ cap ∧ cap ≤ maxLen) := hcap
  clear h hz hO h1 hcap
  obtain ⟨n, hnn⟩ : ∃ n, n = x.length := ⟨_, rfl⟩
  have HN : Hid (n = x.length) := hnn
  rw [← hnn] at hn HI ⊢
  clear hnn
  go_enter Try.func76, Try.ntmps76
  go_wp2
  go_loopw [5, 1] (fun i q' wr => ∃ k : Nat, k ≤ n ∧ i = .int .i64 k ∧ q' = .int .i64 (q + (cntU shRegOp x k : Nat)) ∧ OwnK wr shRegOp g n n (mkU shRegOp x q k) S B ∧ TurnS S w wr) (fun i _ _ => n - (intOf i).toNat)
  case atStart => exact ⟨0, Nat.zero_le _, rfl, by simp [cntU], by rw [mkU_zero]; exact HI.out, TurnS.refl _ _⟩
  case round =>
    obtain ⟨k, hk, rfl, rfl, hO, ht⟩ := hrel
    clear HI
    by_cases hlt : k < n
    · have hlx : k < x.length := by have := HN.out; omega
      have hlt' : (k : Int) < (n : Int) := by omega
      obtain ⟨y, hy⟩ : ∃ y, y = q + (cntU shRegOp x k : Nat) := ⟨_, rfl⟩
      rw [← hy]
      have hcs := cntU_succ shRegOp x k hlx
      have hcl := cntU_le shRegOp x (k + 1)
      have HYE : Hid (y = q + (cntU shRegOp x k : Nat) ∧ cntU shRegOp x (k + 1) = cntU shRegOp x k + cntD shRegOp x[k]) := ⟨hy, hcs⟩
      have hce : y + (cntD shRegOp x[k] : Nat) ≤ 8796000000000 := by have := HZ.out.2; omega
      have hy0 : 0 < y := by omega
      clear hcs hcl hy
      obtain ⟨ec, hel, hec, hoe⟩ := hO.2.2.2.2.2 k (by rw [mkU_len]; exact hlx) hlt
      rw [mkU_at _ _ _ _ hlx] at hoe
      obtain ⟨a1, k1, S1, hev, o1, s1⟩ := own_RegOp (x0 := x[k].1) (x1 := x[k].2.1) (x2 := x[k].2.2.1) (x3 := x[k].2.2.2.1) (x4 := x[k].2.2.2.2.1) (x5 := x[k].2.2.2.2.2.1.1) (x6 := x[k].2.2.2.2.2.1.2.1) (x7 := x[k].2.2.2.2.2.1.2.2.1) (x8 := x[k].2.2.2.2.2.2.1) (x9 := x[k].2.2.2.2.2.2.2.1) hoe
      subst hev
      have hcE : cntD shRegOp x[k] = (1 + (1 + (1 + (1 + (cntD (.list .int) x[k].2.2.2.2.1 + ((1 + (1 + (1 + 0))) + (1 + (1 + 0)))))))) := rfl
      have HC1 : Hid (szD (.list .int) x[k].2.2.2.2.1 ≤ 1073741824) := Hid.intro (by have h1 := sz_mem (List.getElem_mem hlx); have h2 := HZ.out.1; have h3 : szD shRegOp x[k] = (0 + (0 + (x[k].2.2.1.size + (0 + (szD (.list .int) x[k].2.2.2.2.1 + (szD shCopy x[k].2.2.2.2.2.1 + (0 + (0 + 0)))))))) := rfl; omega)
      obtain ⟨c1, hc1⟩ : ∃ y, y = cntD (.list .int) x[k].2.2.2.2.1 := ⟨_, rfl⟩
      rw [← hc1] at hcE
      have HK1 : Hid (c1 = cntD (.list .int) x[k].2.2.2.2.1) := hc1
      clear hc1
      have hce2 : y + 9 + (c1 : Int) ≤ 8796000000000 := by omega
      clear hcE
      have hg1 : ¬ S1 g := fun q => (hO.2.2.1 k hlt g (s1 g q)).2 rfl
      have O1 : Hid (Own wr (.list .int) [.slice a1 x[k].2.2.2.2.1.length k1] x[k].2.2.2.2.1 S1) := o1
      have w1c : wr.cell? ⟨g, k * 10 + 4, none⟩ = some (.slice a1 x[k].2.2.2.2.1.length k1) := hec 4 (by simp)
      clear o1
      have HW : Hid (OwnK wr shRegOp g n n (mkU shRegOp x q k) S B ∧ TurnS S w wr) := ⟨hO, ht⟩
      have P0 : Hid (∀ vs, PartD wr wr g n 10 k 0 vs (B k)) := fun vs => PartD.start hO.2.2.2.2.1 hO.1
      have hgz := hO.1
      clear hec hel hO ht hoe hce
      have hrm : Room wr g (n * 10) := (P0.out []).2.1
      obtain ⟨⟨e0, r0⟩, f0⟩ := hrm (k * 10) (by omega)
      obtain ⟨⟨e1, r1⟩, f1⟩ := hrm (k * 10 + 1) (by omega)
      have Q1 : Hid (∀ vs : List Value, vs[0]? = some (.int .i64 (y)) → vs[1]? = some (.bool ((y + 1) % 3 == 0)) → PartD wr ((wr.setCell ⟨g, k * 10, none⟩ (.int .i64 (y))).setCell ⟨g, k * 10 + 1, none⟩ (.bool ((y + 1) % 3 == 0))) g n 10 k 2 vs (B k)) := fun vs h0 h1 => (((P0.out vs).set (v := .int .i64 (y)) hlt (by omega) h0).set (v := .bool ((y + 1) % 3 == 0)) hlt (by omega) h1)
      have O1 : Hid (Own ((wr.setCell ⟨g, k * 10, none⟩ (.int .i64 (y))).setCell ⟨g, k * 10 + 1, none⟩ (.bool ((y + 1) % 3 == 0))) (.list .int) [.slice a1 x[k].2.2.2.2.1.length k1] x[k].2.2.2.2.1 S1) := ((O1.out.set (p := ⟨g, k * 10, none⟩) hg1 (.int .i64 (y))).set (p := ⟨g, k * 10 + 1, none⟩) hg1 (.bool ((y + 1) % 3 == 0)))
      clear P0
      go_wp2_with fail
      refine (markText_any _ _ (by omega) (by omega)).mono ?_
      rintro r w1 ⟨rfl, hb⟩
      have P1 : Hid (∀ vs : List Value, vs[0]? = some (.int .i64 (y)) → vs[1]? = some (.bool ((y + 1) % 3 == 0)) → PartD wr w1 g n 10 k 2 vs (B k)) := fun vs h0 h1 => (Q1.out vs h0 h1).next hb
      have O1 : Hid (Own w1 (.list .int) [.slice a1 x[k].2.2.2.2.1.length k1] x[k].2.2.2.2.1 S1) := O1.out.next hb
      clear hb Q1 hrm r0 f0 r1 f1
      have hrm : Room w1 g (n * 10) := (P1.out [.int .i64 (y), .bool ((y + 1) % 3 == 0), .bool false, .bool false, .bool false, .bool false, .bool false, .bool false, .bool false, .bool false] rfl rfl).2.1
      have hgz1 := (P1.out [.int .i64 (y), .bool ((y + 1) % 3 == 0), .bool false, .bool false, .bool false, .bool false, .bool false, .bool false, .bool false, .bool false] rfl rfl).2.2.2.2
      obtain ⟨⟨e2, r2⟩, f2⟩ := hrm (k * 10 + 2) (by omega)
      obtain ⟨⟨e3, r3⟩, f3⟩ := hrm (k * 10 + 3) (by omega)
      have Q2 : Hid (∀ vs : List Value, vs[0]? = some (.int .i64 (y)) → vs[1]? = some (.bool ((y + 1) % 3 == 0)) → vs[2]? = some (.string (mtx (y + 1 + 1))) → vs[3]? = some (.int .i64 (y + 1 + 1 + 1)) → PartD wr ((w1.setCell ⟨g, k * 10 + 2, none⟩ (.string (mtx (y + 1 + 1)))).setCell ⟨g, k * 10 + 3, none⟩ (.int .i64 (y + 1 + 1 + 1))) g n 10 k 4 vs (B k)) := fun vs h0 h1 h2 h3 => (((P1.out vs h0 h1).set (v := .string (mtx (y + 1 + 1))) hlt (by omega) h2).set (v := .int .i64 (y + 1 + 1 + 1)) hlt (by omega) h3)
      have O1 : Hid (Own ((w1.setCell ⟨g, k * 10 + 2, none⟩ (.string (mtx (y + 1 + 1)))).setCell ⟨g, k * 10 + 3, none⟩ (.int .i64 (y + 1 + 1 + 1))) (.list .int) [.slice a1 x[k].2.2.2.2.1.length k1] x[k].2.2.2.2.1 S1) := ((O1.out.set (p := ⟨g, k * 10 + 2, none⟩) hg1 (.string (mtx (y + 1 + 1)))).set (p := ⟨g, k * 10 + 3, none⟩) hg1 (.int .i64 (y + 1 + 1 + 1)))
      clear P1
      have u1c := (Q2.out [.int .i64 (y), .bool ((y + 1) % 3 == 0), .string (mtx (y + 1 + 1)), .int .i64 (y + 1 + 1 + 1), .bool false, .bool false, .bool false, .bool false, .bool false, .bool false] rfl rfl rfl rfl).old (Nat.le_refl _) w1c
      have ugz := (Q2.out [.int .i64 (y), .bool ((y + 1) % 3 == 0), .string (mtx (y + 1 + 1)), .int .i64 (y + 1 + 1 + 1), .bool false, .bool false, .bool false, .bool false, .bool false, .bool false] rfl rfl rfl rfl).2.2.2.2
      go_wp2_with fail
      refine (markIntS_n _ _ _ _ S1 _ (by omega) (by rw [← HK1.out]; omega) HC1.out O1.out).mono ?_
      rintro r w2 ⟨hr, ho, hb⟩
      rw [← HK1.out] at hr
      obtain ⟨z1, hz1⟩ : ∃ zz, zz = y + 1 + 1 + 1 + 1 + (c1 : Int) := ⟨_, rfl⟩
      rw [← hz1] at hr
      subst hr
      have HZ1 : Hid (z1 = y + 1 + 1 + 1 + 1 + (c1 : Int)) := hz1
      have hzb1 : 0 < z1 ∧ z1 + 5 ≤ 8796000000000 := by omega
      clear hz1
      have P2 : Hid (∀ vs : List Value, vs[0]? = some (.int .i64 (y)) → vs[1]? = some (.bool ((y + 1) % 3 == 0)) → vs[2]? = some (.string (mtx (y + 1 + 1))) → vs[3]? = some (.int .i64 (y + 1 + 1 + 1)) → vs[4]? = some (.slice a1 x[k].2.2.2.2.1.length k1) → PartD wr w2 g n 10 k 5 vs (B k)) := fun vs h0 h1 h2 h3 h4 => ((Q2.out vs h0 h1 h2 h3).turn hb s1 hg1).skip (w1c.trans h4.symm)
      have O1 : Hid (Own w2 (.list .int) [.slice a1 x[k].2.2.2.2.1.length k1] (mkD (.list .int) x[k].2.2.2.2.1 (y + 1 + 1 + 1 + 1)) S1) := ho
      clear ho u1c ugz
      clear hb Q2 hrm r2 f2 r3 f3
      have hrm : Room w2 g (n * 10) := (P2.out [.int .i64 (y), .bool ((y + 1) % 3 == 0), .string (mtx (y + 1 + 1)), .int .i64 (y + 1 + 1 + 1), .slice a1 x[k].2.2.2.2.1.length k1, .bool false, .bool false, .bool false, .bool false, .bool false] rfl rfl rfl rfl rfl).2.1
      have hgz2 := (P2.out [.int .i64 (y), .bool ((y + 1) % 3 == 0), .string (mtx (y + 1 + 1)), .int .i64 (y + 1 + 1 + 1), .slice a1 x[k].2.2.2.2.1.length k1, .bool false, .bool false, .bool false, .bool false, .bool false] rfl rfl rfl rfl rfl).2.2.2.2
      obtain ⟨⟨e5, r5⟩, f5⟩ := hrm (k * 10 + 5) (by omega)
      obtain ⟨⟨e6, r6⟩, f6⟩ := hrm (k * 10 + 6) (by omega)
      have Q3 : Hid (∀ vs : List Value, vs[0]? = some (.int .i64 (y)) → vs[1]? = some (.bool ((y + 1) % 3 == 0)) → vs[2]? = some (.string (mtx (y + 1 + 1))) → vs[3]? = some (.int .i64 (y + 1 + 1 + 1)) → vs[4]? = some (.slice a1 x[k].2.2.2.2.1.length k1) → vs[5]? = some (.int .i64 (z1)) → vs[6]? = some (.int .i64 (z1 + 1)) → PartD wr ((w2.setCell ⟨g, k * 10 + 5, none⟩ (.int .i64 (z1))).setCell ⟨g, k * 10 + 6, none⟩ (.int .i64 (z1 + 1))) g n 10 k 7 vs (B k)) := fun vs h0 h1 h2 h3 h4 h5 h6 => (((P2.out vs h0 h1 h2 h3 h4).set (v := .int .i64 (z1)) hlt (by omega) h5).set (v := .int .i64 (z1 + 1)) hlt (by omega) h6)
      have O1 : Hid (Own ((w2.setCell ⟨g, k * 10 + 5, none⟩ (.int .i64 (z1))).setCell ⟨g, k * 10 + 6, none⟩ (.int .i64 (z1 + 1))) (.list .int) [.slice a1 x[k].2.2.2.2.1.length k1] (mkD (.list .int) x[k].2.2.2.2.1 (y + 1 + 1 + 1 + 1)) S1) := ((O1.out.set (p := ⟨g, k * 10 + 5, none⟩) hg1 (.int .i64 (z1))).set (p := ⟨g, k * 10 + 6, none⟩) hg1 (.int .i64 (z1 + 1)))
      clear P2
      go_wp2_with fail
      refine (markText_any _ _ (by omega) (by omega)).mono ?_
      rintro r w3 ⟨rfl, hb⟩
      have P3 : Hid (∀ vs : List Value, vs[0]? = some (.int .i64 (y)) → vs[1]? = some (.bool ((y + 1) % 3 == 0)) → vs[2]? = some (.string (mtx (y + 1 + 1))) → vs[3]? = some (.int .i64 (y + 1 + 1 + 1)) → vs[4]? = some (.slice a1 x[k].2.2.2.2.1.length k1) → vs[5]? = some (.int .i64 (z1)) → vs[6]? = some (.int .i64 (z1 + 1)) → PartD wr w3 g n 10 k 7 vs (B k)) := fun vs h0 h1 h2 h3 h4 h5 h6 => (Q3.out vs h0 h1 h2 h3 h4 h5 h6).next hb
      have O1 : Hid (Own w3 (.list .int) [.slice a1 x[k].2.2.2.2.1.length k1] (mkD (.list .int) x[k].2.2.2.2.1 (y + 1 + 1 + 1 + 1)) S1) := O1.out.next hb
      clear hb Q3 hrm r5 f5 r6 f6
      have hrm : Room w3 g (n * 10) := (P3.out [.int .i64 (y), .bool ((y + 1) % 3 == 0), .string (mtx (y + 1 + 1)), .int .i64 (y + 1 + 1 + 1), .slice a1 x[k].2.2.2.2.1.length k1, .int .i64 (z1), .int .i64 (z1 + 1), .bool false, .bool false, .bool false] rfl rfl rfl rfl rfl rfl rfl).2.1
      have hgz3 := (P3.out [.int .i64 (y), .bool ((y + 1) % 3 == 0), .string (mtx (y + 1 + 1)), .int .i64 (y + 1 + 1 + 1), .slice a1 x[k].2.2.2.2.1.length k1, .int .i64 (z1), .int .i64 (z1 + 1), .bool false, .bool false, .bool false] rfl rfl rfl rfl rfl rfl rfl).2.2.2.2
      obtain ⟨⟨e7, r7⟩, f7⟩ := hrm (k * 10 + 7) (by omega)
      obtain ⟨⟨e8, r8⟩, f8⟩ := hrm (k * 10 + 8) (by omega)
      obtain ⟨⟨e9, r9⟩, f9⟩ := hrm (k * 10 + 9) (by omega)
      have O1 : Hid (Own (((w3.setCell ⟨g, k * 10 + 7, none⟩ (.string (mtx (z1 + 1 + 1)))).setCell ⟨g, k * 10 + 8, none⟩ (.int .i64 (z1 + 1 + 1 + 1))).setCell ⟨g, k * 10 + 9, none⟩ (.int .i64 (z1 + 1 + 1 + 1 + 1))) (.list .int) [.slice a1 x[k].2.2.2.2.1.length k1] (mkD (.list .int) x[k].2.2.2.2.1 (y + 1 + 1 + 1 + 1)) S1) := (((O1.out.set (p := ⟨g, k * 10 + 7, none⟩) hg1 (.string (mtx (z1 + 1 + 1)))).set (p := ⟨g, k * 10 + 8, none⟩) hg1 (.int .i64 (z1 + 1 + 1 + 1))).set (p := ⟨g, k * 10 + 9, none⟩) hg1 (.int .i64 (z1 + 1 + 1 + 1 + 1)))
      have HF : Hid (OwnK (((w3.setCell ⟨g, k * 10 + 7, none⟩ (.string (mtx (z1 + 1 + 1)))).setCell ⟨g, k * 10 + 8, none⟩ (.int .i64 (z1 + 1 + 1 + 1))).setCell ⟨g, k * 10 + 9, none⟩ (.int .i64 (z1 + 1 + 1 + 1 + 1))) shRegOp g n n (mkU shRegOp x q (k + 1)) S B ∧ TurnS S w (((w3.setCell ⟨g, k * 10 + 7, none⟩ (.string (mtx (z1 + 1 + 1)))).setCell ⟨g, k * 10 + 8, none⟩ (.int .i64 (z1 + 1 + 1 + 1))).setCell ⟨g, k * 10 + 9, none⟩ (.int .i64 (z1 + 1 + 1 + 1 + 1)))) := by
        have hP : PartD wr (((w3.setCell ⟨g, k * 10 + 7, none⟩ (.string (mtx (z1 + 1 + 1)))).setCell ⟨g, k * 10 + 8, none⟩ (.int .i64 (z1 + 1 + 1 + 1))).setCell ⟨g, k * 10 + 9, none⟩ (.int .i64 (z1 + 1 + 1 + 1 + 1))) g n 10 k 10 [.int .i64 (y), .bool ((y + 1) % 3 == 0), .string (mtx (y + 1 + 1)), .int .i64 (y + 1 + 1 + 1), .slice a1 x[k].2.2.2.2.1.length k1, .int .i64 (z1), .int .i64 (z1 + 1), .string (mtx (z1 + 1 + 1)), .int .i64 (z1 + 1 + 1 + 1), .int .i64 (z1 + 1 + 1 + 1 + 1)] (B k) := ((((P3.out [.int .i64 (y), .bool ((y + 1) % 3 == 0), .string (mtx (y + 1 + 1)), .int .i64 (y + 1 + 1 + 1), .slice a1 x[k].2.2.2.2.1.length k1, .int .i64 (z1), .int .i64 (z1 + 1), .string (mtx (z1 + 1 + 1)), .int .i64 (z1 + 1 + 1 + 1), .int .i64 (z1 + 1 + 1 + 1 + 1)] rfl rfl rfl rfl rfl rfl rfl).set (v := .string (mtx (z1 + 1 + 1))) hlt (by omega) rfl).set (v := .int .i64 (z1 + 1 + 1 + 1)) hlt (by omega) rfl).set (v := .int .i64 (z1 + 1 + 1 + 1 + 1)) hlt (by omega) rfl)
        have hd := PartD.done (e := shRegOp) (l := mkU shRegOp x q k) (y := mkD shRegOp x[k] y) hP HW.out.1 hlt rfl (by have hq : mkD shRegOp x[k] y = ((y), ((y + 1) % 3 == 0), (mtx (y + 1 + 1)), (y + 1 + 1 + 1), mkD (.list .int) x[k].2.2.2.2.1 (y + 1 + 1 + 1 + 1), ((z1), (z1 + 1), (mtx (z1 + 1 + 1)), ()), (z1 + 1 + 1 + 1), (z1 + 1 + 1 + 1 + 1), ()) := mkeq_RegOp x[k].1 x[k].2.1 x[k].2.2.1 x[k].2.2.2.1 x[k].2.2.2.2.1 x[k].2.2.2.2.2.1.1 x[k].2.2.2.2.2.1.2.1 x[k].2.2.2.2.2.1.2.2.1 x[k].2.2.2.2.2.2.1 x[k].2.2.2.2.2.2.2.1 y z1 (by rw [← HK1.out]; exact HZ1.out); rw [hq]; exact mkown_RegOp O1.out s1)
        have hms := mkU_set shRegOp x q k hlx
        rw [← HYE.out.1] at hms
        rw [hms] at hd
        exact ⟨hd.1, HW.out.2.trans hd.2⟩
      have HQ : Hid (z1 + 1 + 1 + 1 + 1 + 1 = q + (cntU shRegOp x (k + 1) : Nat)) := Hid.intro (by have h1 := HYE.out; have h2 : cntD shRegOp x[k] = (1 + (1 + (1 + (1 + (cntD (.list .int) x[k].2.2.2.2.1 + ((1 + (1 + (1 + 0))) + (1 + (1 + 0)))))))) := rfl; have := HK1.out; have := HZ1.out; omega)
      clear P3 HW O1
      go_wp2
      go_roundw
      case rel => exact ⟨k + 1, by omega, by go_num, by rw [← HQ.out], HF.out⟩
      case measure => simp [intOf]; omega
    · have hkn : k = n := by omega
      subst hkn
      have HP : Hid (MkP (.list shRegOp) [.slice (some ⟨g, 0, none⟩) k cap] (mkD (.list shRegOp) x q) (q + (cntD (.list shRegOp) x : Nat)) S w (.returned (.int .i64 (q + (cntU shRegOp x k : Nat)))) wr) := by
        have e := HN.out
        subst e
        refine ⟨by rw [cntU_all], ?_, ht⟩
        rw [mkU_all] at hO
        have hO' : OwnK wr shRegOp g (mkD (.list shRegOp) x q).length (mkD (.list shRegOp) x q).length (mkD (.list shRegOp) x q) S B := by rw [mkD_len]; exact hO
        have := hO'.list (cap := cap) (by rw [mkD_len]; exact HCP.out.1) HCP.out.2
        rwa [mkD_len] at this
      clear hO ht
      go_wp2
      go_ret
      exact HP.out
theorem mkTeq_Register (x0 : Int) (x1 : List (Sh.T shCopy)) (x2 : List (Sh.T shRegOp)) (q : Int) (z1 : Int) (z2 : Int) (hz1 : z1 = q + (cntD (.list shCopy) x1 : Nat)) (hz2 : z2 = z1 + (cntD (.list shRegOp) x2 : Nat)) : mkT shRegister (x0, x1, x2, ()) q = (x0, mkD (.list shCopy) x1 q, mkD (.list shRegOp) x2 z1, ()) := by
  subst hz2 hz1
  simp [shRegister, mkT, cntT, Int.add_assoc]
theorem cntTeq_Register (x0 : Int) (x1 : List (Sh.T shCopy)) (x2 : List (Sh.T shRegOp)) : cntT shRegister (x0, x1, x2, ()) = cntD (.list shCopy) x1 + cntD (.list shRegOp) x2 := by
  simp [shRegister, cntT]
set_option maxRecDepth 100000 in
set_option maxHeartbeats 4000000 in
theorem markRegister_n (cs : List Value) (x0 : Int) (x1 : List (Sh.T shCopy)) (x2 : List (Sh.T shRegOp)) (q : Int) (S : Nat → Prop) (w : World) (h0 : 0 < q) (h1 : q + (cntT shRegister (x0, x1, x2, ()) : Nat) ≤ 8796000000000) (hz : szD shRegister (x0, x1, x2, ()) ≤ 1073741824) (hS : ∀ k, S k → k < w.heap.size) (h : Own w shRegister cs (x0, x1, x2, ()) S) :
    Calls Try.prog 26 #[.agg cs.toArray, .int .i64 q] w (MkP shRegister cs (mkT shRegister (x0, x1, x2, ()) q) (q + (cntT shRegister (x0, x1, x2, ()) : Nat)) S w) := by
  obtain ⟨a1, k1, S1, a2, k2, S2, hev, o1, o2, s1, s2, d1_2⟩ := own_Register h
  subst hev
  rw [cntTeq_Register] at h1 ⊢
  have HE : Hid (szD shRegister (x0, x1, x2, ()) = (0 + (szD (.list shCopy) x1 + (szD (.list shRegOp) x2 + 0)))) := rfl
  have HZ : Hid (szD shRegister (x0, x1, x2, ()) ≤ 1073741824) := hz
  obtain ⟨c1, hc1⟩ : ∃ y, y = cntD (.list shCopy) x1 := ⟨_, rfl⟩
  obtain ⟨c2, hc2⟩ : ∃ y, y = cntD (.list shRegOp) x2 := ⟨_, rfl⟩
  rw [← hc1, ← hc2] at h1 ⊢
  have HK1 : Hid (c1 = cntD (.list shCopy) x1) := hc1
  clear hc1
  have HK2 : Hid (c2 = cntD (.list shRegOp) x2) := hc2
  clear hc2
  have O1 : Hid (Own w (.list shCopy) [.slice a1 x1.length k1] x1 S1) := o1
  clear o1
  have O2 : Hid (Own w (.list shRegOp) [.slice a2 x2.length k2] x2 S2) := o2
  clear o2
  have hSw : Hid (∀ k, S k → k = w.heap.size → False) := fun k h1 h2 => by have := hS k h1; omega
  clear h hz hS
  go_enter Try.func26, Try.ntmps26
  go_wp2_with fail
  obtain ⟨w0, hW⟩ : ∃ x, x = w.alloc (.cells #[.int .i64 x0, .slice a1 x1.length k1, .slice a2 x2.length k2] 29) := ⟨_, rfl⟩
  have hb0 : Below w.heap.size w w0 := hW ▸ Go.Joins.below_alloc1 _ _
  have HB : Hid (Bx w0 w.heap.size [.int .i64 x0, .slice a1 x1.length k1, .slice a2 x2.length k2] ∧ TurnS S w w0 ∧ (∀ k, S k → k < w.heap.size → True)) := ⟨hW ▸ Bx.new w [.int .i64 x0, .slice a1 x1.length k1, .slice a2 x2.length k2] _, TurnS.of_below hb0, fun _ _ _ => trivial⟩
  have O1 : Hid (Own w0 (.list shCopy) [.slice a1 x1.length k1] x1 S1) := O1.out.next hb0
  have O2 : Hid (Own w0 (.list shRegOp) [.slice a2 x2.length k2] x2 S2) := O2.out.next hb0
  rw [← hW]
  clear hW hb0
  refine (markCopyS_n _ _ _ _ S1 _ (by omega) (by rw [← HK1.out]; omega) (by have := HZ.out; rw [HE.out] at this; omega) O1.out).mono ?_
  rintro r w1 ⟨hr, ho, hb⟩
  rw [← HK1.out] at hr
  obtain ⟨z1, hz1⟩ : ∃ zz, zz = q + (c1 : Int) := ⟨_, rfl⟩
  rw [← hz1] at hr
  subst hr
  have HZ1 : Hid (z1 = q + (c1 : Int)) := hz1
  have hzb1 : 0 < z1 ∧ z1 + (c2 : Int) ≤ 8796000000000 := by omega
  clear hz1
  have HB : Hid (Bx w1 w.heap.size [.int .i64 x0, .slice a1 x1.length k1, .slice a2 x2.length k2] ∧ TurnS S w w1 ∧ (∀ k, S k → k < w.heap.size → True)) := ⟨HB.out.1.turnS hb (fun q => hSw.out w.heap.size (s1 _ q) rfl), HB.out.2.1.trans (hb.wide s1), fun _ _ _ => trivial⟩
  have O1 : Hid (Own w1 (.list shCopy) [.slice a1 x1.length k1] (mkD (.list shCopy) x1 q) S1) := ho
  have O2 : Hid (Own w1 (.list shRegOp) [.slice a2 x2.length k2] x2 S2) := O2.out.turn hb (fun k e f => d1_2 k f e)
  clear ho hb
  have dz := HB.out.1
  have d0 := HB.out.1.cell 0 rfl
  have d1 := HB.out.1.cell 1 rfl
  have d2 := HB.out.1.cell 2 rfl
  have dz := HB.out.1.2
  go_wp2_with fail
  clear dz d0 d1 d2
  refine (markRegOpS_n _ _ _ _ S2 _ (by omega) (by rw [← HK2.out]; omega) (by have := HZ.out; rw [HE.out] at this; omega) O2.out).mono ?_
  rintro r w2 ⟨hr, ho, hb⟩
  rw [← HK2.out] at hr
  obtain ⟨z2, hz2⟩ : ∃ zz, zz = z1 + (c2 : Int) := ⟨_, rfl⟩
  rw [← hz2] at hr
  subst hr
  have HZ2 : Hid (z2 = z1 + (c2 : Int)) := hz2
  have hzb2 : 0 < z2 ∧ z2 ≤ 8796000000000 := by omega
  clear hz2
  have HB : Hid (Bx w2 w.heap.size [.int .i64 x0, .slice a1 x1.length k1, .slice a2 x2.length k2] ∧ TurnS S w w2 ∧ (∀ k, S k → k < w.heap.size → True)) := ⟨HB.out.1.turnS hb (fun q => hSw.out w.heap.size (s2 _ q) rfl), HB.out.2.1.trans (hb.wide s2), fun _ _ _ => trivial⟩
  have O1 : Hid (Own w2 (.list shCopy) [.slice a1 x1.length k1] (mkD (.list shCopy) x1 q) S1) := O1.out.turn hb d1_2
  have O2 : Hid (Own w2 (.list shRegOp) [.slice a2 x2.length k2] (mkD (.list shRegOp) x2 z1) S2) := ho
  clear ho hb
  have d0 := HB.out.1.cell 0 rfl
  have d1 := HB.out.1.cell 1 rfl
  have d2 := HB.out.1.cell 2 rfl
  have dz := HB.out.1.2
  go_wp2
  go_ret
  refine ⟨congrArg (fun t => Ending.returned (.int .i64 t)) (by have := HZ1.out; have := HZ2.out; omega), ?_, HB.out.2.1⟩
  rw [mkTeq_Register x0 x1 x2 q z1 z2 (by rw [← HK1.out]; exact HZ1.out) (by rw [← HK2.out]; exact HZ2.out)]
  exact mkown_Register O1.out O2.out s1 s2 d1_2
end Go.Proofs.Ytaofolbnommpgaa
