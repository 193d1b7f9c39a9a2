/- The law's own functions that mark lists. Written by tools/nest.py. -/
import Derived.Test.YtmhkfangfhanlaaMgA
import Derived.Test.YtmhkfangfhanlaaProg
import Derived.WalkKit
import Derived.WalkSpells
import Derived.WalkLawsBesides
import Derived.Test.YtmhkfangfhanlaaMgC
import Derived.Test.YtmhkfangfhanlaaShM
namespace Go.Proofs.Ytmhkfangfhanlaa
open Go.RowKit
set_option linter.unusedVariables false
set_option linter.unusedSimpArgs false

theorem mkeq_Promise (x0 : Int) (x1 : Int) (x2 : ByteArray) (y : Int) : mkD shPromise (x0, x1, x2, ()) y = ((y), (y + 1), (mtx (y + 1 + 1)), ()) := by
  rfl
theorem mkeq_Proposer (x0 : ByteArray) (x1 : List (Sh.T shPromise)) (x2 : Bool) (x3 : ByteArray) (x4 : List (Sh.T .int)) (y : Int) (z1 : Int) (z2 : Int) (hz1 : z1 = y + 1 + (cntD (.list shPromise) x1 : Nat)) (hz2 : z2 = z1 + 1 + 1 + (cntD (.list .int) x4 : Nat)) : mkD shProposer (x0, x1, x2, x3, x4, ()) y = ((mtx (y)), mkD (.list shPromise) x1 (y + 1), ((z1) % 3 == 0), (mtx (z1 + 1)), mkD (.list .int) x4 (z1 + 1 + 1), ()) := by
  subst hz1; subst hz2; rfl
theorem mkeq_Acceptor (x0 : Int) (x1 : Int) (x2 : ByteArray) (y : Int) : mkD shAcceptor (x0, x1, x2, ()) y = ((y), (y + 1), (mtx (y + 1 + 1)), ()) := by
  rfl
theorem mkeq_SynodStep (x0 : Bool) (x1 : Int) (x2 : Int) (y : Int) : mkD shSynodStep (x0, x1, x2, ()) y = (((y) % 3 == 0), (y + 1), (y + 1 + 1), ()) := by
  rfl
set_option maxRecDepth 100000 in
set_option maxHeartbeats 4000000 in
theorem markStringS_n (a : Option Addr) (cap : Nat) (x : List (Sh.T .str)) (q : Int) (S : Nat → Prop) (w : World) (h0 : 0 < q) (h1 : q + (cntD (.list .str) x : Nat) ≤ 8796000000000) (hz : szD (.list .str) x ≤ 1073741824) (h : Own w (.list .str) [.slice a x.length cap] x S) :
    Calls Try.prog 28 #[.slice a x.length cap, .int .i64 q] w (MkP (.list .str) [.slice a x.length cap] (mkD (.list .str) x q) (q + (cntD (.list .str) x : Nat)) S w) := by
  have hn : x.length ≤ 1073741824 := by simp only [szD] at hz; omega
  rcases own_list h with ⟨hx, _⟩ | ⟨g, cap', B, hcs, hcap, hO⟩
  · subst hx
    have HO : Hid (Own w (.list .str) [.slice a 0 cap] [] S) := h
    clear h hz hn
    go_enter Try.func28, Try.ntmps28
    go_wp2
    go_loopw [5, 1] (fun i q' wr => i = .int .i64 0 ∧ q' = .int .i64 q ∧ wr = w) (fun _ _ _ => 0)
    case atStart => exact ⟨rfl, rfl, rfl⟩
    case round =>
      obtain ⟨rfl, rfl, rfl⟩ := hrel
      go_wp2
      go_ret
      exact ⟨by simp [cntD], HO.out, TurnS.refl _ _⟩
  simp only [List.cons.injEq, Value.slice.injEq, and_true] at hcs
  obtain ⟨rfl, _, rfl⟩ := hcs
  have HZ : Hid (szD (.list .str) x ≤ 1073741824 ∧ q + (cntD (.list .str) x : Nat) ≤ 8796000000000) := ⟨hz, h1⟩
  have HI : Hid (OwnK w .str g x.length x.length x S B) := hO
  have hc1 : q ≤ 8796000000000 := by omega
  have HCP : Hid (x.length ≤ cap ∧ cap ≤ maxLen) := hcap
  clear h hz hO h1 hcap
  obtain ⟨n, hnn⟩ : ∃ n, n = x.length := ⟨_, rfl⟩
  have HN : Hid (n = x.length) := hnn
  rw [← hnn] at hn HI ⊢
  clear hnn
  go_enter Try.func28, Try.ntmps28
  go_wp2
  go_loopw [5, 1] (fun i q' wr => ∃ k : Nat, k ≤ n ∧ i = .int .i64 k ∧ q' = .int .i64 (q + (cntU .str x k : Nat)) ∧ OwnK wr .str g n n (mkU .str x q k) S B ∧ TurnS S w wr) (fun i _ _ => n - (intOf i).toNat)
  case atStart => exact ⟨0, Nat.zero_le _, rfl, by simp [cntU], by rw [mkU_zero]; exact HI.out, TurnS.refl _ _⟩
  case round =>
    obtain ⟨k, hk, rfl, rfl, hO, ht⟩ := hrel
    clear HI
    by_cases hlt : k < n
    · have hlx : k < x.length := by have := HN.out; omega
      have hlt' : (k : Int) < (n : Int) := by omega
      obtain ⟨y, hy⟩ : ∃ y, y = q + (cntU .str x k : Nat) := ⟨_, rfl⟩
      rw [← hy]
      have hcs := cntU_succ .str x k hlx
      have hcl := cntU_le .str x (k + 1)
      have HYE : Hid (y = q + (cntU .str x k : Nat) ∧ cntU .str x (k + 1) = cntU .str x k + cntD .str x[k]) := ⟨hy, hcs⟩
      have hce : y + (cntD .str x[k] : Nat) ≤ 8796000000000 := by have := HZ.out.2; omega
      have hy0 : 0 < y := by omega
      clear hcs hcl hy
      obtain ⟨ec, hel, hec, hoe⟩ := hO.2.2.2.2.2 k (by rw [mkU_len]; exact hlx) hlt
      rw [mkU_at _ _ _ _ hlx] at hoe
      have hev : ec = [.string x[k]] := hoe
      subst hev
      have hce2 : y + 1 ≤ 8796000000000 := by have : cntD .str x[k] = 1 := rfl; omega
      have HW : Hid (OwnK wr .str g n n (mkU .str x q k) S B ∧ TurnS S w wr) := ⟨hO, ht⟩
      have P0 : Hid (∀ vs, PartD wr wr g n 1 k 0 vs (B k)) := fun vs => PartD.start hO.2.2.2.2.1 hO.1
      have hgz := hO.1
      clear hec hel hO ht hoe
      have hrm : Room wr g (n * 1) := (P0.out []).2.1
      have Q1 := P0
      clear P0
      go_wp2_with fail
      refine (markText_any _ _ (by omega) (by omega)).mono ?_
      rintro r w1 ⟨rfl, hb⟩
      have P1 : Hid (∀ vs : List Value, PartD wr w1 g n 1 k 0 vs (B k)) := fun vs => (Q1.out vs).next hb
      clear hb Q1 hrm
      have hrm : Room w1 g (n * 1) := (P1.out [.bool false]).2.1
      have hgz1 := (P1.out [.bool false]).2.2.2.2
      obtain ⟨⟨e0, r0⟩, f0⟩ := hrm k (by omega)
      have HF : Hid (OwnK (w1.setCell ⟨g, k, none⟩ (.string (mtx (y)))) .str g n n (mkU .str x q (k + 1)) S B ∧ TurnS S w (w1.setCell ⟨g, k, none⟩ (.string (mtx (y))))) := by
        have hP : PartD wr (w1.setCell ⟨g, k, none⟩ (.string (mtx (y)))) g n 1 k 1 [.string (mtx (y))] (B k) := (by have := ((P1.out [.string (mtx (y))]).set (v := .string (mtx (y))) hlt (by omega) rfl); simpa using this)
        have hd := PartD.done (e := .str) (l := mkU .str x q k) (y := mkD .str x[k] y) hP HW.out.1 hlt rfl rfl
        have hms := mkU_set .str x q k hlx
        rw [← HYE.out.1] at hms
        rw [hms] at hd
        exact ⟨hd.1, HW.out.2.trans hd.2⟩
      have HQ : Hid (y + 1 = q + (cntU .str x (k + 1) : Nat)) := Hid.intro (by have h1 := HYE.out; have h2 : cntD .str x[k] = 1 := rfl; omega)
      clear P1 HW
      go_wp2
      go_roundw
      case rel => exact ⟨k + 1, by omega, by go_num, by rw [← HQ.out], HF.out⟩
      case measure => simp [intOf]; omega
    · have hkn : k = n := by omega
      subst hkn
      have HP : Hid (MkP (.list .str) [.slice (some ⟨g, 0, none⟩) k cap] (mkD (.list .str) x q) (q + (cntD (.list .str) x : Nat)) S w (.returned (.int .i64 (q + (cntU .str x k : Nat)))) wr) := by
        have e := HN.out
        subst e
        refine ⟨by rw [cntU_all], ?_, ht⟩
        rw [mkU_all] at hO
        have hO' : OwnK wr .str g (mkD (.list .str) x q).length (mkD (.list .str) x q).length (mkD (.list .str) x q) S B := by rw [mkD_len]; exact hO
        have := hO'.list (cap := cap) (by rw [mkD_len]; exact HCP.out.1) HCP.out.2
        rwa [mkD_len] at this
      clear hO ht
      go_wp2
      go_ret
      exact HP.out
set_option maxRecDepth 100000 in
set_option maxHeartbeats 4000000 in
theorem markIntS_n (a : Option Addr) (cap : Nat) (x : List (Sh.T .int)) (q : Int) (S : Nat → Prop) (w : World) (h0 : 0 < q) (h1 : q + (cntD (.list .int) x : Nat) ≤ 8796000000000) (hz : szD (.list .int) x ≤ 1073741824) (h : Own w (.list .int) [.slice a x.length cap] x S) :
    Calls Try.prog 97 #[.slice a x.length cap, .int .i64 q] w (MkP (.list .int) [.slice a x.length cap] (mkD (.list .int) x q) (q + (cntD (.list .int) x : Nat)) S w) := by
  have hn : x.length ≤ 1073741824 := by simp only [szD] at hz; omega
  rcases own_list h with ⟨hx, _⟩ | ⟨g, cap', B, hcs, hcap, hO⟩
  · subst hx
    have HO : Hid (Own w (.list .int) [.slice a 0 cap] [] S) := h
    clear h hz hn
    go_enter Try.func97, Try.ntmps97
    go_wp2
    go_loopw [5, 1] (fun i q' wr => i = .int .i64 0 ∧ q' = .int .i64 q ∧ wr = w) (fun _ _ _ => 0)
    case atStart => exact ⟨rfl, rfl, rfl⟩
    case round =>
      obtain ⟨rfl, rfl, rfl⟩ := hrel
      go_wp2
      go_ret
      exact ⟨by simp [cntD], HO.out, TurnS.refl _ _⟩
  simp only [List.cons.injEq, Value.slice.injEq, and_true] at hcs
  obtain ⟨rfl, _, rfl⟩ := hcs
  have HZ : Hid (szD (.list .int) x ≤ 1073741824 ∧ q + (cntD (.list .int) x : Nat) ≤ 8796000000000) := ⟨hz, h1⟩
  have HI : Hid (OwnK w .int g x.length x.length x S B) := hO
  have hc1 : q ≤ 8796000000000 := by omega
  have HCP : Hid (x.length ≤ cap ∧ cap ≤ maxLen) := hcap
  clear h hz hO h1 hcap
  obtain ⟨n, hnn⟩ : ∃ n, n = x.length := ⟨_, rfl⟩
  have HN : Hid (n = x.length) := hnn
  rw [← hnn] at hn HI ⊢
  clear hnn
  go_enter Try.func97, Try.ntmps97
  go_wp2
  go_loopw [5, 1] (fun i q' wr => ∃ k : Nat, k ≤ n ∧ i = .int .i64 k ∧ q' = .int .i64 (q + (cntU .int x k : Nat)) ∧ OwnK wr .int g n n (mkU .int x q k) S B ∧ TurnS S w wr) (fun i _ _ => n - (intOf i).toNat)
  case atStart => exact ⟨0, Nat.zero_le _, rfl, by simp [cntU], by rw [mkU_zero]; exact HI.out, TurnS.refl _ _⟩
  case round =>
    obtain ⟨k, hk, rfl, rfl, hO, ht⟩ := hrel
    clear HI
    by_cases hlt : k < n
    · have hlx : k < x.length := by have := HN.out; omega
      have hlt' : (k : Int) < (n : Int) := by omega
      obtain ⟨y, hy⟩ : ∃ y, y = q + (cntU .int x k : Nat) := ⟨_, rfl⟩
      rw [← hy]
      have hcs := cntU_succ .int x k hlx
      have hcl := cntU_le .int x (k + 1)
      have HYE : Hid (y = q + (cntU .int x k : Nat) ∧ cntU .int x (k + 1) = cntU .int x k + cntD .int x[k]) := ⟨hy, hcs⟩
      have hce : y + (cntD .int x[k] : Nat) ≤ 8796000000000 := by have := HZ.out.2; omega
      have hy0 : 0 < y := by omega
      clear hcs hcl hy
      obtain ⟨ec, hel, hec, hoe⟩ := hO.2.2.2.2.2 k (by rw [mkU_len]; exact hlx) hlt
      rw [mkU_at _ _ _ _ hlx] at hoe
      have hev : ec = [.int .i64 x[k]] := hoe
      subst hev
      have hce2 : y + 1 ≤ 8796000000000 := by have : cntD .int x[k] = 1 := rfl; omega
      have HW : Hid (OwnK wr .int g n n (mkU .int x q k) S B ∧ TurnS S w wr) := ⟨hO, ht⟩
      have P0 : Hid (∀ vs, PartD wr wr g n 1 k 0 vs (B k)) := fun vs => PartD.start hO.2.2.2.2.1 hO.1
      have hgz := hO.1
      clear hec hel hO ht hoe
      have hrm : Room wr g (n * 1) := (P0.out []).2.1
      obtain ⟨⟨e0, r0⟩, f0⟩ := hrm k (by omega)
      have HF : Hid (OwnK (wr.setCell ⟨g, k, none⟩ (.int .i64 (y))) .int g n n (mkU .int x q (k + 1)) S B ∧ TurnS S w (wr.setCell ⟨g, k, none⟩ (.int .i64 (y)))) := by
        have hP : PartD wr (wr.setCell ⟨g, k, none⟩ (.int .i64 (y))) g n 1 k 1 [.int .i64 (y)] (B k) := (by have := ((P0.out [.int .i64 (y)]).set (v := .int .i64 (y)) hlt (by omega) rfl); simpa using this)
        have hd := PartD.done (e := .int) (l := mkU .int x q k) (y := mkD .int x[k] y) hP HW.out.1 hlt rfl rfl
        have hms := mkU_set .int x q k hlx
        rw [← HYE.out.1] at hms
        rw [hms] at hd
        exact ⟨hd.1, HW.out.2.trans hd.2⟩
      have HQ : Hid (y + 1 = q + (cntU .int x (k + 1) : Nat)) := Hid.intro (by have h1 := HYE.out; have h2 : cntD .int x[k] = 1 := rfl; omega)
      clear P0 HW
      go_wp2
      go_roundw
      case rel => exact ⟨k + 1, by omega, by go_num, by rw [← HQ.out], HF.out⟩
      case measure => simp [intOf]; omega
    · have hkn : k = n := by omega
      subst hkn
      have HP : Hid (MkP (.list .int) [.slice (some ⟨g, 0, none⟩) k cap] (mkD (.list .int) x q) (q + (cntD (.list .int) x : Nat)) S w (.returned (.int .i64 (q + (cntU .int x k : Nat)))) wr) := by
        have e := HN.out
        subst e
        refine ⟨by rw [cntU_all], ?_, ht⟩
        rw [mkU_all] at hO
        have hO' : OwnK wr .int g (mkD (.list .int) x q).length (mkD (.list .int) x q).length (mkD (.list .int) x q) S B := by rw [mkD_len]; exact hO
        have := hO'.list (cap := cap) (by rw [mkD_len]; exact HCP.out.1) HCP.out.2
        rwa [mkD_len] at this
      clear hO ht
      go_wp2
      go_ret
      exact HP.out
set_option maxRecDepth 100000 in
set_option maxHeartbeats 4000000 in
theorem markPromiseS_n (a : Option Addr) (cap : Nat) (x : List (Sh.T shPromise)) (q : Int) (S : Nat → Prop) (w : World) (h0 : 0 < q) (h1 : q + (cntD (.list shPromise) x : Nat) ≤ 8796000000000) (hz : szD (.list shPromise) x ≤ 1073741824) (h : Own w (.list shPromise) [.slice a x.length cap] x S) :
    Calls Try.prog 96 #[.slice a x.length cap, .int .i64 q] w (MkP (.list shPromise) [.slice a x.length cap] (mkD (.list shPromise) x q) (q + (cntD (.list shPromise) x : Nat)) S w) := by
  have hn : x.length ≤ 1073741824 := by simp only [szD] at hz; omega
  rcases own_list h with ⟨hx, _⟩ | ⟨g, cap', B, hcs, hcap, hO⟩
  · subst hx
    have HO : Hid (Own w (.list shPromise) [.slice a 0 cap] [] S) := h
    clear h hz hn
    go_enter Try.func96, Try.ntmps96
    go_wp2
    go_loopw [5, 1] (fun i q' wr => i = .int .i64 0 ∧ q' = .int .i64 q ∧ wr = w) (fun _ _ _ => 0)
    case atStart => exact ⟨rfl, rfl, rfl⟩
    case round =>
      obtain ⟨rfl, rfl, rfl⟩ := hrel
      go_wp2
      go_ret
      exact ⟨by simp [cntD], HO.out, TurnS.refl _ _⟩
  simp only [List.cons.injEq, Value.slice.injEq, and_true] at hcs
  obtain ⟨rfl, _, rfl⟩ := hcs
  have HZ : Hid (szD (.list shPromise) x ≤ 1073741824 ∧ q + (cntD (.list shPromise) x : Nat) ≤ 8796000000000) := ⟨hz, h1⟩
  have HI : Hid (OwnK w shPromise g x.length x.length x S B) := hO
  have hc1 : q ≤ 8796000000000 := by omega
  have HCP : Hid (x.length ≤ cap ∧ cap ≤ maxLen) := hcap
  clear h hz hO h1 hcap
  obtain ⟨n, hnn⟩ : ∃ n, n = x.length := ⟨_, rfl⟩
  have HN : Hid (n = x.length) := hnn
  rw [← hnn] at hn HI ⊢
  clear hnn
  go_enter Try.func96, Try.ntmps96
  go_wp2
  go_loopw [5, 1] (fun i q' wr => ∃ k : Nat, k ≤ n ∧ i = .int .i64 k ∧ q' = .int .i64 (q + (cntU shPromise x k : Nat)) ∧ OwnK wr shPromise g n n (mkU shPromise x q k) S B ∧ TurnS S w wr) (fun i _ _ => n - (intOf i).toNat)
  case atStart => exact ⟨0, Nat.zero_le _, rfl, by simp [cntU], by rw [mkU_zero]; exact HI.out, TurnS.refl _ _⟩
  case round =>
    obtain ⟨k, hk, rfl, rfl, hO, ht⟩ := hrel
    clear HI
    by_cases hlt : k < n
    · have hlx : k < x.length := by have := HN.out; omega
      have hlt' : (k : Int) < (n : Int) := by omega
      obtain ⟨y, hy⟩ : ∃ y, y = q + (cntU shPromise x k : Nat) := ⟨_, rfl⟩
      rw [← hy]
      have hcs := cntU_succ shPromise x k hlx
      have hcl := cntU_le shPromise x (k + 1)
      have HYE : Hid (y = q + (cntU shPromise x k : Nat) ∧ cntU shPromise x (k + 1) = cntU shPromise x k + cntD shPromise x[k]) := ⟨hy, hcs⟩
      have hce : y + (cntD shPromise x[k] : Nat) ≤ 8796000000000 := by have := HZ.out.2; omega
      have hy0 : 0 < y := by omega
      clear hcs hcl hy
      obtain ⟨ec, hel, hec, hoe⟩ := hO.2.2.2.2.2 k (by rw [mkU_len]; exact hlx) hlt
      rw [mkU_at _ _ _ _ hlx] at hoe
      obtain hev := own_Promise (x0 := x[k].1) (x1 := x[k].2.1) (x2 := x[k].2.2.1) hoe
      subst hev
      have hcE : cntD shPromise x[k] = (1 + (1 + (1 + 0))) := rfl
      have hce2 : y + 3 ≤ 8796000000000 := by omega
      clear hcE
      have HW : Hid (OwnK wr shPromise g n n (mkU shPromise x q k) S B ∧ TurnS S w wr) := ⟨hO, ht⟩
      have P0 : Hid (∀ vs, PartD wr wr g n 3 k 0 vs (B k)) := fun vs => PartD.start hO.2.2.2.2.1 hO.1
      have hgz := hO.1
      clear hec hel hO ht hoe hce
      have hrm : Room wr g (n * 3) := (P0.out []).2.1
      obtain ⟨⟨e0, r0⟩, f0⟩ := hrm (k * 3) (by omega)
      obtain ⟨⟨e1, r1⟩, f1⟩ := hrm (k * 3 + 1) (by omega)
      have Q1 : Hid (∀ vs : List Value, vs[0]? = some (.int .i64 (y)) → vs[1]? = some (.int .i64 (y + 1)) → PartD wr ((wr.setCell ⟨g, k * 3, none⟩ (.int .i64 (y))).setCell ⟨g, k * 3 + 1, none⟩ (.int .i64 (y + 1))) g n 3 k 2 vs (B k)) := fun vs h0 h1 => (((P0.out vs).set (v := .int .i64 (y)) hlt (by omega) h0).set (v := .int .i64 (y + 1)) hlt (by omega) h1)
      clear P0
      go_wp2_with fail
      refine (markText_any _ _ (by omega) (by omega)).mono ?_
      rintro r w1 ⟨rfl, hb⟩
      have P1 : Hid (∀ vs : List Value, vs[0]? = some (.int .i64 (y)) → vs[1]? = some (.int .i64 (y + 1)) → PartD wr w1 g n 3 k 2 vs (B k)) := fun vs h0 h1 => (Q1.out vs h0 h1).next hb
      clear hb Q1 hrm r0 f0 r1 f1
      have hrm : Room w1 g (n * 3) := (P1.out [.int .i64 (y), .int .i64 (y + 1), .bool false] rfl rfl).2.1
      have hgz1 := (P1.out [.int .i64 (y), .int .i64 (y + 1), .bool false] rfl rfl).2.2.2.2
      obtain ⟨⟨e2, r2⟩, f2⟩ := hrm (k * 3 + 2) (by omega)
      have HF : Hid (OwnK (w1.setCell ⟨g, k * 3 + 2, none⟩ (.string (mtx (y + 1 + 1)))) shPromise g n n (mkU shPromise x q (k + 1)) S B ∧ TurnS S w (w1.setCell ⟨g, k * 3 + 2, none⟩ (.string (mtx (y + 1 + 1))))) := by
        have hP : PartD wr (w1.setCell ⟨g, k * 3 + 2, none⟩ (.string (mtx (y + 1 + 1)))) g n 3 k 3 [.int .i64 (y), .int .i64 (y + 1), .string (mtx (y + 1 + 1))] (B k) := ((P1.out [.int .i64 (y), .int .i64 (y + 1), .string (mtx (y + 1 + 1))] rfl rfl).set (v := .string (mtx (y + 1 + 1))) hlt (by omega) rfl)
        have hd := PartD.done (e := shPromise) (l := mkU shPromise x q k) (y := mkD shPromise x[k] y) hP HW.out.1 hlt rfl (by have hq : mkD shPromise x[k] y = ((y), (y + 1), (mtx (y + 1 + 1)), ()) := mkeq_Promise x[k].1 x[k].2.1 x[k].2.2.1 y; rw [hq]; exact mkown_Promise)
        have hms := mkU_set shPromise x q k hlx
        rw [← HYE.out.1] at hms
        rw [hms] at hd
        exact ⟨hd.1, HW.out.2.trans hd.2⟩
      have HQ : Hid (y + 1 + 1 + 1 = q + (cntU shPromise x (k + 1) : Nat)) := Hid.intro (by have h1 := HYE.out; have h2 : cntD shPromise x[k] = (1 + (1 + (1 + 0))) := rfl; omega)
      clear P1 HW
      go_wp2
      go_roundw
      case rel => exact ⟨k + 1, by omega, by go_num, by rw [← HQ.out], HF.out⟩
      case measure => simp [intOf]; omega
    · have hkn : k = n := by omega
      subst hkn
      have HP : Hid (MkP (.list shPromise) [.slice (some ⟨g, 0, none⟩) k cap] (mkD (.list shPromise) x q) (q + (cntD (.list shPromise) x : Nat)) S w (.returned (.int .i64 (q + (cntU shPromise x k : Nat)))) wr) := by
        have e := HN.out
        subst e
        refine ⟨by rw [cntU_all], ?_, ht⟩
        rw [mkU_all] at hO
        have hO' : OwnK wr shPromise g (mkD (.list shPromise) x q).length (mkD (.list shPromise) x q).length (mkD (.list shPromise) x q) S B := by rw [mkD_len]; exact hO
        have := hO'.list (cap := cap) (by rw [mkD_len]; exact HCP.out.1) HCP.out.2
        rwa [mkD_len] at this
      clear hO ht
      go_wp2
      go_ret
      exact HP.out
set_option maxRecDepth 100000 in
set_option maxHeartbeats 4000000 in
theorem markProposerS_n (a : Option Addr) (cap : Nat) (x : List (Sh.T shProposer)) (q : Int) (S : Nat → Prop) (w : World) (h0 : 0 < q) (h1 : q + (cntD (.list shProposer) x : Nat) ≤ 8796000000000) (hz : szD (.list shProposer) x ≤ 1073741824) (h : Own w (.list shProposer) [.slice a x.length cap] x S) :
    Calls Try.prog 67 #[.slice a x.length cap, .int .i64 q] w (MkP (.list shProposer) [.slice a x.length cap] (mkD (.list shProposer) x q) (q + (cntD (.list shProposer) x : Nat)) S w) := by
  have hn : x.length ≤ 1073741824 := by simp only [szD] at hz; omega
  rcases own_list h with ⟨hx, _⟩ | ⟨g, cap', B, hcs, hcap, hO⟩
  · subst hx
    have HO : Hid (Own w (.list shProposer) [.slice a 0 cap] [] S) := h
    clear h hz hn
    go_enter Try.func67, Try.ntmps67
    go_wp2
    go_loopw [5, 1] (fun i q' wr => i = .int .i64 0 ∧ q' = .int .i64 q ∧ wr = w) (fun _ _ _ => 0)
    case atStart => exact ⟨rfl, rfl, rfl⟩
    case round =>
      obtain ⟨rfl, rfl, rfl⟩ := hrel
      go_wp2
      go_ret
      exact ⟨by simp [cntD], HO.out, TurnS.refl _ _⟩
  simp only [List.cons.injEq, Value.slice.injEq, and_true] at hcs
  obtain ⟨rfl, _, rfl⟩ := hcs
  have HZ : Hid (szD (.list shProposer) x ≤ 1073741824 ∧ q + (cntD (.list shProposer) x : Nat) ≤ 8796000000000) := ⟨hz, h1⟩
  have HI : Hid (OwnK w shProposer g x.length x.length x S B) := hO
  have hc1 : q ≤ 8796000000000 := by omega
  have HCP : Hid (x.length ≤ cap ∧ cap ≤ maxLen) := hcap
  clear h hz hO h1 hcap
  obtain ⟨n, hnn⟩ : ∃ n, n = x.length := ⟨_, rfl⟩
  have HN : Hid (n = x.length) := hnn
  rw [← hnn] at hn HI ⊢
  clear hnn
  go_enter Try.func67, Try.ntmps67
  go_wp2
  go_loopw [5, 1] (fun i q' wr => ∃ k : Nat, k ≤ n ∧ i = .int .i64 k ∧ q' = .int .i64 (q + (cntU shProposer x k : Nat)) ∧ OwnK wr shProposer g n n (mkU shProposer x q k) S B ∧ TurnS S w wr) (fun i _ _ => n - (intOf i).toNat)
  case atStart => exact ⟨0, Nat.zero_le _, rfl, by simp [cntU], by rw [mkU_zero]; exact HI.out, TurnS.refl _ _⟩
  case round =>
    obtain ⟨k, hk, rfl, rfl, hO, ht⟩ := hrel
    clear HI
    by_cases hlt : k < n
    · have hlx : k < x.length := by have := HN.out; omega
      have hlt' : (k : Int) < (n : Int) := by omega
      obtain ⟨y, hy⟩ : ∃ y, y = q + (cntU shProposer x k : Nat) := ⟨_, rfl⟩
      rw [← hy]
      have hcs := cntU_succ shProposer x k hlx
      have hcl := cntU_le shProposer x (k + 1)
      have HYE : Hid (y = q + (cntU shProposer x k : Nat) ∧ cntU shProposer x (k + 1) = cntU shProposer x k + cntD shProposer x[k]) := ⟨hy, hcs⟩
      have hce : y + (cntD shProposer x[k] : Nat) ≤ 8796000000000 := by have := HZ.out.2; omega
      have hy0 : 0 < y := by omega
      clear hcs hcl hy
      obtain ⟨ec, hel, hec, hoe⟩ := hO.2.2.2.2.2 k (by rw [mkU_len]; exact hlx) hlt
      rw [mkU_at _ _ _ _ hlx] at hoe
      obtain ⟨a1, k1, S1, a2, k2, S2, hev, o1, o2, s1, s2, d1_2⟩ := own_Proposer (x0 := x[k].1) (x1 := x[k].2.1) (x2 := x[k].2.2.1) (x3 := x[k].2.2.2.1) (x4 := x[k].2.2.2.2.1) hoe
      subst hev
      have hcE : cntD shProposer x[k] = (1 + (cntD (.list shPromise) x[k].2.1 + (1 + (1 + (cntD (.list .int) x[k].2.2.2.2.1 + 0))))) := rfl
      have HC1 : Hid (szD (.list shPromise) x[k].2.1 ≤ 1073741824) := Hid.intro (by have h1 := sz_mem (List.getElem_mem hlx); have h2 := HZ.out.1; have h3 : szD shProposer x[k] = (x[k].1.size + (szD (.list shPromise) x[k].2.1 + (0 + (x[k].2.2.2.1.size + (szD (.list .int) x[k].2.2.2.2.1 + 0))))) := rfl; omega)
      have HC2 : Hid (szD (.list .int) x[k].2.2.2.2.1 ≤ 1073741824) := Hid.intro (by have h1 := sz_mem (List.getElem_mem hlx); have h2 := HZ.out.1; have h3 : szD shProposer x[k] = (x[k].1.size + (szD (.list shPromise) x[k].2.1 + (0 + (x[k].2.2.2.1.size + (szD (.list .int) x[k].2.2.2.2.1 + 0))))) := rfl; omega)
      obtain ⟨c1, hc1⟩ : ∃ y, y = cntD (.list shPromise) x[k].2.1 := ⟨_, rfl⟩
      obtain ⟨c2, hc2⟩ : ∃ y, y = cntD (.list .int) x[k].2.2.2.2.1 := ⟨_, rfl⟩
      rw [← hc1, ← hc2] at hcE
      have HK1 : Hid (c1 = cntD (.list shPromise) x[k].2.1) := hc1
      clear hc1
      have HK2 : Hid (c2 = cntD (.list .int) x[k].2.2.2.2.1) := hc2
      clear hc2
      have hce2 : y + 3 + (c1 : Int) + (c2 : Int) ≤ 8796000000000 := by omega
      clear hcE
      have hg1 : ¬ S1 g := fun q => (hO.2.2.1 k hlt g (s1 g q)).2 rfl
      have O1 : Hid (Own wr (.list shPromise) [.slice a1 x[k].2.1.length k1] x[k].2.1 S1) := o1
      have w1c : wr.cell? ⟨g, k * 5 + 1, none⟩ = some (.slice a1 x[k].2.1.length k1) := hec 1 (by simp)
      clear o1
      have hg2 : ¬ S2 g := fun q => (hO.2.2.1 k hlt g (s2 g q)).2 rfl
      have O2 : Hid (Own wr (.list .int) [.slice a2 x[k].2.2.2.2.1.length k2] x[k].2.2.2.2.1 S2) := o2
      have w2c : wr.cell? ⟨g, k * 5 + 4, none⟩ = some (.slice a2 x[k].2.2.2.2.1.length k2) := hec 4 (by simp)
      clear o2
      have HW : Hid (OwnK wr shProposer g n n (mkU shProposer x q k) S B ∧ TurnS S w wr) := ⟨hO, ht⟩
      have P0 : Hid (∀ vs, PartD wr wr g n 5 k 0 vs (B k)) := fun vs => PartD.start hO.2.2.2.2.1 hO.1
      have hgz := hO.1
      clear hec hel hO ht hoe hce
      have hrm : Room wr g (n * 5) := (P0.out []).2.1
      have Q1 := P0
      clear P0
      go_wp2_with fail
      refine (markText_any _ _ (by omega) (by omega)).mono ?_
      rintro r w1 ⟨rfl, hb⟩
      have P1 : Hid (∀ vs : List Value, PartD wr w1 g n 5 k 0 vs (B k)) := fun vs => (Q1.out vs).next hb
      have O1 : Hid (Own w1 (.list shPromise) [.slice a1 x[k].2.1.length k1] x[k].2.1 S1) := O1.out.next hb
      have O2 : Hid (Own w1 (.list .int) [.slice a2 x[k].2.2.2.2.1.length k2] x[k].2.2.2.2.1 S2) := O2.out.next hb
      clear hb Q1 hrm
      have hrm : Room w1 g (n * 5) := (P1.out [.bool false, .bool false, .bool false, .bool false, .bool false]).2.1
      have hgz1 := (P1.out [.bool false, .bool false, .bool false, .bool false, .bool false]).2.2.2.2
      obtain ⟨⟨e0, r0⟩, f0⟩ := hrm (k * 5) (by omega)
      have Q2 : Hid (∀ vs : List Value, vs[0]? = some (.string (mtx (y))) → PartD wr (w1.setCell ⟨g, k * 5, none⟩ (.string (mtx (y)))) g n 5 k 1 vs (B k)) := fun vs h0 => ((P1.out vs).set (v := .string (mtx (y))) hlt (by omega) h0)
      have O1 : Hid (Own (w1.setCell ⟨g, k * 5, none⟩ (.string (mtx (y)))) (.list shPromise) [.slice a1 x[k].2.1.length k1] x[k].2.1 S1) := (O1.out.set (p := ⟨g, k * 5, none⟩) hg1 (.string (mtx (y))))
      have O2 : Hid (Own (w1.setCell ⟨g, k * 5, none⟩ (.string (mtx (y)))) (.list .int) [.slice a2 x[k].2.2.2.2.1.length k2] x[k].2.2.2.2.1 S2) := (O2.out.set (p := ⟨g, k * 5, none⟩) hg2 (.string (mtx (y))))
      clear P1
      have u1c := (Q2.out [.string (mtx (y)), .bool false, .bool false, .bool false, .bool false] rfl).old (Nat.le_refl _) w1c
      have ugz := (Q2.out [.string (mtx (y)), .bool false, .bool false, .bool false, .bool false] rfl).2.2.2.2
      go_wp2_with fail
      refine (markPromiseS_n _ _ _ _ S1 _ (by omega) (by rw [← HK1.out]; omega) HC1.out O1.out).mono ?_
      rintro r w2 ⟨hr, ho, hb⟩
      rw [← HK1.out] at hr
      obtain ⟨z1, hz1⟩ : ∃ zz, zz = y + 1 + (c1 : Int) := ⟨_, rfl⟩
      rw [← hz1] at hr
      subst hr
      have HZ1 : Hid (z1 = y + 1 + (c1 : Int)) := hz1
      have hzb1 : 0 < z1 ∧ z1 + 2 + (c2 : Int) ≤ 8796000000000 := by omega
      clear hz1
      have P2 : Hid (∀ vs : List Value, vs[0]? = some (.string (mtx (y))) → vs[1]? = some (.slice a1 x[k].2.1.length k1) → PartD wr w2 g n 5 k 2 vs (B k)) := fun vs h0 h1 => ((Q2.out vs h0).turn hb s1 hg1).skip (w1c.trans h1.symm)
      have O1 : Hid (Own w2 (.list shPromise) [.slice a1 x[k].2.1.length k1] (mkD (.list shPromise) x[k].2.1 (y + 1)) S1) := ho
      have O2 : Hid (Own w2 (.list .int) [.slice a2 x[k].2.2.2.2.1.length k2] x[k].2.2.2.2.1 S2) := O2.out.turn hb (fun k e f => d1_2 k f e)
      clear ho u1c ugz
      clear hb Q2 hrm r0 f0
      have hrm : Room w2 g (n * 5) := (P2.out [.string (mtx (y)), .slice a1 x[k].2.1.length k1, .bool false, .bool false, .bool false] rfl rfl).2.1
      have hgz2 := (P2.out [.string (mtx (y)), .slice a1 x[k].2.1.length k1, .bool false, .bool false, .bool false] rfl rfl).2.2.2.2
      obtain ⟨⟨e2, r2⟩, f2⟩ := hrm (k * 5 + 2) (by omega)
      have Q3 : Hid (∀ vs : List Value, vs[0]? = some (.string (mtx (y))) → vs[1]? = some (.slice a1 x[k].2.1.length k1) → vs[2]? = some (.bool ((z1) % 3 == 0)) → PartD wr (w2.setCell ⟨g, k * 5 + 2, none⟩ (.bool ((z1) % 3 == 0))) g n 5 k 3 vs (B k)) := fun vs h0 h1 h2 => ((P2.out vs h0 h1).set (v := .bool ((z1) % 3 == 0)) hlt (by omega) h2)
      have O1 : Hid (Own (w2.setCell ⟨g, k * 5 + 2, none⟩ (.bool ((z1) % 3 == 0))) (.list shPromise) [.slice a1 x[k].2.1.length k1] (mkD (.list shPromise) x[k].2.1 (y + 1)) S1) := (O1.out.set (p := ⟨g, k * 5 + 2, none⟩) hg1 (.bool ((z1) % 3 == 0)))
      have O2 : Hid (Own (w2.setCell ⟨g, k * 5 + 2, none⟩ (.bool ((z1) % 3 == 0))) (.list .int) [.slice a2 x[k].2.2.2.2.1.length k2] x[k].2.2.2.2.1 S2) := (O2.out.set (p := ⟨g, k * 5 + 2, none⟩) hg2 (.bool ((z1) % 3 == 0)))
      clear P2
      go_wp2_with fail
      refine (markText_any _ _ (by omega) (by omega)).mono ?_
      rintro r w3 ⟨rfl, hb⟩
      have P3 : Hid (∀ vs : List Value, vs[0]? = some (.string (mtx (y))) → vs[1]? = some (.slice a1 x[k].2.1.length k1) → vs[2]? = some (.bool ((z1) % 3 == 0)) → PartD wr w3 g n 5 k 3 vs (B k)) := fun vs h0 h1 h2 => (Q3.out vs h0 h1 h2).next hb
      have O1 : Hid (Own w3 (.list shPromise) [.slice a1 x[k].2.1.length k1] (mkD (.list shPromise) x[k].2.1 (y + 1)) S1) := O1.out.next hb
      have O2 : Hid (Own w3 (.list .int) [.slice a2 x[k].2.2.2.2.1.length k2] x[k].2.2.2.2.1 S2) := O2.out.next hb
      clear hb Q3 hrm r2 f2
      have hrm : Room w3 g (n * 5) := (P3.out [.string (mtx (y)), .slice a1 x[k].2.1.length k1, .bool ((z1) % 3 == 0), .bool false, .bool false] rfl rfl rfl).2.1
      have hgz3 := (P3.out [.string (mtx (y)), .slice a1 x[k].2.1.length k1, .bool ((z1) % 3 == 0), .bool false, .bool false] rfl rfl rfl).2.2.2.2
      obtain ⟨⟨e3, r3⟩, f3⟩ := hrm (k * 5 + 3) (by omega)
      have Q4 : Hid (∀ vs : List Value, vs[0]? = some (.string (mtx (y))) → vs[1]? = some (.slice a1 x[k].2.1.length k1) → vs[2]? = some (.bool ((z1) % 3 == 0)) → vs[3]? = some (.string (mtx (z1 + 1))) → PartD wr (w3.setCell ⟨g, k * 5 + 3, none⟩ (.string (mtx (z1 + 1)))) g n 5 k 4 vs (B k)) := fun vs h0 h1 h2 h3 => ((P3.out vs h0 h1 h2).set (v := .string (mtx (z1 + 1))) hlt (by omega) h3)
      have O1 : Hid (Own (w3.setCell ⟨g, k * 5 + 3, none⟩ (.string (mtx (z1 + 1)))) (.list shPromise) [.slice a1 x[k].2.1.length k1] (mkD (.list shPromise) x[k].2.1 (y + 1)) S1) := (O1.out.set (p := ⟨g, k * 5 + 3, none⟩) hg1 (.string (mtx (z1 + 1))))
      have O2 : Hid (Own (w3.setCell ⟨g, k * 5 + 3, none⟩ (.string (mtx (z1 + 1)))) (.list .int) [.slice a2 x[k].2.2.2.2.1.length k2] x[k].2.2.2.2.1 S2) := (O2.out.set (p := ⟨g, k * 5 + 3, none⟩) hg2 (.string (mtx (z1 + 1))))
      clear P3
      have u2c := (Q4.out [.string (mtx (y)), .slice a1 x[k].2.1.length k1, .bool ((z1) % 3 == 0), .string (mtx (z1 + 1)), .bool false] rfl rfl rfl rfl).old (Nat.le_refl _) w2c
      have ugz := (Q4.out [.string (mtx (y)), .slice a1 x[k].2.1.length k1, .bool ((z1) % 3 == 0), .string (mtx (z1 + 1)), .bool false] rfl rfl rfl rfl).2.2.2.2
      go_wp2_with fail
      refine (markIntS_n _ _ _ _ S2 _ (by omega) (by rw [← HK2.out]; omega) HC2.out O2.out).mono ?_
      rintro r w4 ⟨hr, ho, hb⟩
      rw [← HK2.out] at hr
      obtain ⟨z2, hz2⟩ : ∃ zz, zz = z1 + 1 + 1 + (c2 : Int) := ⟨_, rfl⟩
      rw [← hz2] at hr
      subst hr
      have HZ2 : Hid (z2 = z1 + 1 + 1 + (c2 : Int)) := hz2
      have hzb2 : 0 < z2 ∧ z2 + 0 ≤ 8796000000000 := by omega
      clear hz2
      have P4 : Hid (∀ vs : List Value, vs[0]? = some (.string (mtx (y))) → vs[1]? = some (.slice a1 x[k].2.1.length k1) → vs[2]? = some (.bool ((z1) % 3 == 0)) → vs[3]? = some (.string (mtx (z1 + 1))) → vs[4]? = some (.slice a2 x[k].2.2.2.2.1.length k2) → PartD wr w4 g n 5 k 5 vs (B k)) := fun vs h0 h1 h2 h3 h4 => ((Q4.out vs h0 h1 h2 h3).turn hb s2 hg2).skip (w2c.trans h4.symm)
      have O1 : Hid (Own w4 (.list shPromise) [.slice a1 x[k].2.1.length k1] (mkD (.list shPromise) x[k].2.1 (y + 1)) S1) := O1.out.turn hb d1_2
      have O2 : Hid (Own w4 (.list .int) [.slice a2 x[k].2.2.2.2.1.length k2] (mkD (.list .int) x[k].2.2.2.2.1 (z1 + 1 + 1)) S2) := ho
      clear ho u2c ugz
      clear hb Q4 hrm r3 f3
      have hrm : Room w4 g (n * 5) := (P4.out [.string (mtx (y)), .slice a1 x[k].2.1.length k1, .bool ((z1) % 3 == 0), .string (mtx (z1 + 1)), .slice a2 x[k].2.2.2.2.1.length k2] rfl rfl rfl rfl rfl).2.1
      have hgz4 := (P4.out [.string (mtx (y)), .slice a1 x[k].2.1.length k1, .bool ((z1) % 3 == 0), .string (mtx (z1 + 1)), .slice a2 x[k].2.2.2.2.1.length k2] rfl rfl rfl rfl rfl).2.2.2.2
      have O1 : Hid (Own w4 (.list shPromise) [.slice a1 x[k].2.1.length k1] (mkD (.list shPromise) x[k].2.1 (y + 1)) S1) := O1.out
      have O2 : Hid (Own w4 (.list .int) [.slice a2 x[k].2.2.2.2.1.length k2] (mkD (.list .int) x[k].2.2.2.2.1 (z1 + 1 + 1)) S2) := O2.out
      have HF : Hid (OwnK w4 shProposer g n n (mkU shProposer x q (k + 1)) S B ∧ TurnS S w w4) := by
        have hP : PartD wr w4 g n 5 k 5 [.string (mtx (y)), .slice a1 x[k].2.1.length k1, .bool ((z1) % 3 == 0), .string (mtx (z1 + 1)), .slice a2 x[k].2.2.2.2.1.length k2] (B k) := (P4.out [.string (mtx (y)), .slice a1 x[k].2.1.length k1, .bool ((z1) % 3 == 0), .string (mtx (z1 + 1)), .slice a2 x[k].2.2.2.2.1.length k2] rfl rfl rfl rfl rfl)
        have hd := PartD.done (e := shProposer) (l := mkU shProposer x q k) (y := mkD shProposer x[k] y) hP HW.out.1 hlt rfl (by have hq : mkD shProposer x[k] y = ((mtx (y)), mkD (.list shPromise) x[k].2.1 (y + 1), ((z1) % 3 == 0), (mtx (z1 + 1)), mkD (.list .int) x[k].2.2.2.2.1 (z1 + 1 + 1), ()) := mkeq_Proposer x[k].1 x[k].2.1 x[k].2.2.1 x[k].2.2.2.1 x[k].2.2.2.2.1 y z1 z2 (by rw [← HK1.out]; exact HZ1.out) (by rw [← HK2.out]; exact HZ2.out); rw [hq]; exact mkown_Proposer O1.out O2.out s1 s2 d1_2)
        have hms := mkU_set shProposer x q k hlx
        rw [← HYE.out.1] at hms
        rw [hms] at hd
        exact ⟨hd.1, HW.out.2.trans hd.2⟩
      have HQ : Hid (z2 = q + (cntU shProposer x (k + 1) : Nat)) := Hid.intro (by have h1 := HYE.out; have h2 : cntD shProposer x[k] = (1 + (cntD (.list shPromise) x[k].2.1 + (1 + (1 + (cntD (.list .int) x[k].2.2.2.2.1 + 0))))) := rfl; have := HK1.out; have := HZ1.out; have := HK2.out; have := HZ2.out; omega)
      clear P4 HW O1 O2
      go_wp2
      go_roundw
      case rel => exact ⟨k + 1, by omega, by go_num, by rw [← HQ.out], HF.out⟩
      case measure => simp [intOf]; omega
    · have hkn : k = n := by omega
      subst hkn
      have HP : Hid (MkP (.list shProposer) [.slice (some ⟨g, 0, none⟩) k cap] (mkD (.list shProposer) x q) (q + (cntD (.list shProposer) x : Nat)) S w (.returned (.int .i64 (q + (cntU shProposer x k : Nat)))) wr) := by
        have e := HN.out
        subst e
        refine ⟨by rw [cntU_all], ?_, ht⟩
        rw [mkU_all] at hO
        have hO' : OwnK wr shProposer g (mkD (.list shProposer) x q).length (mkD (.list shProposer) x q).length (mkD (.list shProposer) x q) S B := by rw [mkD_len]; exact hO
        have := hO'.list (cap := cap) (by rw [mkD_len]; exact HCP.out.1) HCP.out.2
        rwa [mkD_len] at this
      clear hO ht
      go_wp2
      go_ret
      exact HP.out
set_option maxRecDepth 100000 in
set_option maxHeartbeats 4000000 in
theorem markAcceptorS_n (a : Option Addr) (cap : Nat) (x : List (Sh.T shAcceptor)) (q : Int) (S : Nat → Prop) (w : World) (h0 : 0 < q) (h1 : q + (cntD (.list shAcceptor) x : Nat) ≤ 8796000000000) (hz : szD (.list shAcceptor) x ≤ 1073741824) (h : Own w (.list shAcceptor) [.slice a x.length cap] x S) :
    Calls Try.prog 66 #[.slice a x.length cap, .int .i64 q] w (MkP (.list shAcceptor) [.slice a x.length cap] (mkD (.list shAcceptor) x q) (q + (cntD (.list shAcceptor) x : Nat)) S w) := by
  have hn : x.length ≤ 1073741824 := by simp only [szD] at hz; omega
  rcases own_list h with ⟨hx, _⟩ | ⟨g, cap', B, hcs, hcap, hO⟩
  · subst hx
    have HO : Hid (Own w (.list shAcceptor) [.slice a 0 cap] [] S) := h
    clear h hz hn
    go_enter Try.func66, Try.ntmps66
    go_wp2
    go_loopw [5, 1] (fun i q' wr => i = .int .i64 0 ∧ q' = .int .i64 q ∧ wr = w) (fun _ _ _ => 0)
    case atStart => exact ⟨rfl, rfl, rfl⟩
    case round =>
      obtain ⟨rfl, rfl, rfl⟩ := hrel
      go_wp2
      go_ret
      exact ⟨by simp [cntD], HO.out, TurnS.refl _ _⟩
  simp only [List.cons.injEq, Value.slice.injEq, and_true] at hcs
  obtain ⟨rfl, _, rfl⟩ := hcs
  have HZ : Hid (szD (.list shAcceptor) x ≤ 1073741824 ∧ q + (cntD (.list shAcceptor) x : Nat) ≤ 8796000000000) := ⟨hz, h1⟩
  have HI : Hid (OwnK w shAcceptor g x.length x.length x S B) := hO
  have hc1 : q ≤ 8796000000000 := by omega
  have HCP : Hid (x.length ≤ cap ∧ cap ≤ maxLen) := hcap
  clear h hz hO h1 hcap
  obtain ⟨n, hnn⟩ : ∃ n, n = x.length := ⟨_, rfl⟩
  have HN : Hid (n = x.length) := hnn
  rw [← hnn] at hn HI ⊢
  clear hnn
  go_enter Try.func66, Try.ntmps66
  go_wp2
  go_loopw [5, 1] (fun i q' wr => ∃ k : Nat, k ≤ n ∧ i = .int .i64 k ∧ q' = .int .i64 (q + (cntU shAcceptor x k : Nat)) ∧ OwnK wr shAcceptor g n n (mkU shAcceptor x q k) S B ∧ TurnS S w wr) (fun i _ _ => n - (intOf i).toNat)
  case atStart => exact ⟨0, Nat.zero_le _, rfl, by simp [cntU], by rw [mkU_zero]; exact HI.out, TurnS.refl _ _⟩
  case round =>
    obtain ⟨k, hk, rfl, rfl, hO, ht⟩ := hrel
    clear HI
    by_cases hlt : k < n
    · have hlx : k < x.length := by have := HN.out; omega
      have hlt' : (k : Int) < (n : Int) := by omega
      obtain ⟨y, hy⟩ : ∃ y, y = q + (cntU shAcceptor x k : Nat) := ⟨_, rfl⟩
      rw [← hy]
      have hcs := cntU_succ shAcceptor x k hlx
      have hcl := cntU_le shAcceptor x (k + 1)
      have HYE : Hid (y = q + (cntU shAcceptor x k : Nat) ∧ cntU shAcceptor x (k + 1) = cntU shAcceptor x k + cntD shAcceptor x[k]) := ⟨hy, hcs⟩
      have hce : y + (cntD shAcceptor x[k] : Nat) ≤ 8796000000000 := by have := HZ.out.2; omega
      have hy0 : 0 < y := by omega
      clear hcs hcl hy
      obtain ⟨ec, hel, hec, hoe⟩ := hO.2.2.2.2.2 k (by rw [mkU_len]; exact hlx) hlt
      rw [mkU_at _ _ _ _ hlx] at hoe
      obtain hev := own_Acceptor (x0 := x[k].1) (x1 := x[k].2.1) (x2 := x[k].2.2.1) hoe
      subst hev
      have hcE : cntD shAcceptor x[k] = (1 + (1 + (1 + 0))) := rfl
      have hce2 : y + 3 ≤ 8796000000000 := by omega
      clear hcE
      have HW : Hid (OwnK wr shAcceptor g n n (mkU shAcceptor x q k) S B ∧ TurnS S w wr) := ⟨hO, ht⟩
      have P0 : Hid (∀ vs, PartD wr wr g n 3 k 0 vs (B k)) := fun vs => PartD.start hO.2.2.2.2.1 hO.1
      have hgz := hO.1
      clear hec hel hO ht hoe hce
      have hrm : Room wr g (n * 3) := (P0.out []).2.1
      obtain ⟨⟨e0, r0⟩, f0⟩ := hrm (k * 3) (by omega)
      obtain ⟨⟨e1, r1⟩, f1⟩ := hrm (k * 3 + 1) (by omega)
      have Q1 : Hid (∀ vs : List Value, vs[0]? = some (.int .i64 (y)) → vs[1]? = some (.int .i64 (y + 1)) → PartD wr ((wr.setCell ⟨g, k * 3, none⟩ (.int .i64 (y))).setCell ⟨g, k * 3 + 1, none⟩ (.int .i64 (y + 1))) g n 3 k 2 vs (B k)) := fun vs h0 h1 => (((P0.out vs).set (v := .int .i64 (y)) hlt (by omega) h0).set (v := .int .i64 (y + 1)) hlt (by omega) h1)
      clear P0
      go_wp2_with fail
      refine (markText_any _ _ (by omega) (by omega)).mono ?_
      rintro r w1 ⟨rfl, hb⟩
      have P1 : Hid (∀ vs : List Value, vs[0]? = some (.int .i64 (y)) → vs[1]? = some (.int .i64 (y + 1)) → PartD wr w1 g n 3 k 2 vs (B k)) := fun vs h0 h1 => (Q1.out vs h0 h1).next hb
      clear hb Q1 hrm r0 f0 r1 f1
      have hrm : Room w1 g (n * 3) := (P1.out [.int .i64 (y), .int .i64 (y + 1), .bool false] rfl rfl).2.1
      have hgz1 := (P1.out [.int .i64 (y), .int .i64 (y + 1), .bool false] rfl rfl).2.2.2.2
      obtain ⟨⟨e2, r2⟩, f2⟩ := hrm (k * 3 + 2) (by omega)
      have HF : Hid (OwnK (w1.setCell ⟨g, k * 3 + 2, none⟩ (.string (mtx (y + 1 + 1)))) shAcceptor g n n (mkU shAcceptor x q (k + 1)) S B ∧ TurnS S w (w1.setCell ⟨g, k * 3 + 2, none⟩ (.string (mtx (y + 1 + 1))))) := by
        have hP : PartD wr (w1.setCell ⟨g, k * 3 + 2, none⟩ (.string (mtx (y + 1 + 1)))) g n 3 k 3 [.int .i64 (y), .int .i64 (y + 1), .string (mtx (y + 1 + 1))] (B k) := ((P1.out [.int .i64 (y), .int .i64 (y + 1), .string (mtx (y + 1 + 1))] rfl rfl).set (v := .string (mtx (y + 1 + 1))) hlt (by omega) rfl)
        have hd := PartD.done (e := shAcceptor) (l := mkU shAcceptor x q k) (y := mkD shAcceptor x[k] y) hP HW.out.1 hlt rfl (by have hq : mkD shAcceptor x[k] y = ((y), (y + 1), (mtx (y + 1 + 1)), ()) := mkeq_Acceptor x[k].1 x[k].2.1 x[k].2.2.1 y; rw [hq]; exact mkown_Acceptor)
        have hms := mkU_set shAcceptor x q k hlx
        rw [← HYE.out.1] at hms
        rw [hms] at hd
        exact ⟨hd.1, HW.out.2.trans hd.2⟩
      have HQ : Hid (y + 1 + 1 + 1 = q + (cntU shAcceptor x (k + 1) : Nat)) := Hid.intro (by have h1 := HYE.out; have h2 : cntD shAcceptor x[k] = (1 + (1 + (1 + 0))) := rfl; omega)
      clear P1 HW
      go_wp2
      go_roundw
      case rel => exact ⟨k + 1, by omega, by go_num, by rw [← HQ.out], HF.out⟩
      case measure => simp [intOf]; omega
    · have hkn : k = n := by omega
      subst hkn
      have HP : Hid (MkP (.list shAcceptor) [.slice (some ⟨g, 0, none⟩) k cap] (mkD (.list shAcceptor) x q) (q + (cntD (.list shAcceptor) x : Nat)) S w (.returned (.int .i64 (q + (cntU shAcceptor x k : Nat)))) wr) := by
        have e := HN.out
        subst e
        refine ⟨by rw [cntU_all], ?_, ht⟩
        rw [mkU_all] at hO
        have hO' : OwnK wr shAcceptor g (mkD (.list shAcceptor) x q).length (mkD (.list shAcceptor) x q).length (mkD (.list shAcceptor) x q) S B := by rw [mkD_len]; exact hO
        have := hO'.list (cap := cap) (by rw [mkD_len]; exact HCP.out.1) HCP.out.2
        rwa [mkD_len] at this
      clear hO ht
      go_wp2
      go_ret
      exact HP.out
set_option maxRecDepth 100000 in
set_option maxHeartbeats 4000000 in
theorem markBoolS_n (a : Option Addr) (cap : Nat) (x : List (Sh.T .bool)) (q : Int) (S : Nat → Prop) (w : World) (h0 : 0 < q) (h1 : q + (cntD (.list .bool) x : Nat) ≤ 8796000000000) (hz : szD (.list .bool) x ≤ 1073741824) (h : Own w (.list .bool) [.slice a x.length cap] x S) :
    Calls Try.prog 41 #[.slice a x.length cap, .int .i64 q] w (MkP (.list .bool) [.slice a x.length cap] (mkD (.list .bool) x q) (q + (cntD (.list .bool) x : Nat)) S w) := by
  have hn : x.length ≤ 1073741824 := by simp only [szD] at hz; omega
  rcases own_list h with ⟨hx, _⟩ | ⟨g, cap', B, hcs, hcap, hO⟩
  · subst hx
    have HO : Hid (Own w (.list .bool) [.slice a 0 cap] [] S) := h
    clear h hz hn
    go_enter Try.func41, Try.ntmps41
    go_wp2
    go_loopw [5, 1] (fun i q' wr => i = .int .i64 0 ∧ q' = .int .i64 q ∧ wr = w) (fun _ _ _ => 0)
    case atStart => exact ⟨rfl, rfl, rfl⟩
    case round =>
      obtain ⟨rfl, rfl, rfl⟩ := hrel
      go_wp2
      go_ret
      exact ⟨by simp [cntD], HO.out, TurnS.refl _ _⟩
  simp only [List.cons.injEq, Value.slice.injEq, and_true] at hcs
  obtain ⟨rfl, _, rfl⟩ := hcs
  have HZ : Hid (szD (.list .bool) x ≤ 1073741824 ∧ q + (cntD (.list .bool) x : Nat) ≤ 8796000000000) := ⟨hz, h1⟩
  have HI : Hid (OwnK w .bool g x.length x.length x S B) := hO
  have hc1 : q ≤ 8796000000000 := by omega
  have HCP : Hid (x.length ≤ cap ∧ cap ≤ maxLen) := hcap
  clear h hz hO h1 hcap
  obtain ⟨n, hnn⟩ : ∃ n, n = x.length := ⟨_, rfl⟩
  have HN : Hid (n = x.length) := hnn
  rw [← hnn] at hn HI ⊢
  clear hnn
  go_enter Try.func41, Try.ntmps41
  go_wp2
  go_loopw [5, 1] (fun i q' wr => ∃ k : Nat, k ≤ n ∧ i = .int .i64 k ∧ q' = .int .i64 (q + (cntU .bool x k : Nat)) ∧ OwnK wr .bool g n n (mkU .bool x q k) S B ∧ TurnS S w wr) (fun i _ _ => n - (intOf i).toNat)
  case atStart => exact ⟨0, Nat.zero_le _, rfl, by simp [cntU], by rw [mkU_zero]; exact HI.out, TurnS.refl _ _⟩
  case round =>
    obtain ⟨k, hk, rfl, rfl, hO, ht⟩ := hrel
    clear HI
    by_cases hlt : k < n
    · have hlx : k < x.length := by have := HN.out; omega
      have hlt' : (k : Int) < (n : Int) := by omega
      obtain ⟨y, hy⟩ : ∃ y, y = q + (cntU .bool x k : Nat) := ⟨_, rfl⟩
      rw [← hy]
      have hcs := cntU_succ .bool x k hlx
      have hcl := cntU_le .bool x (k + 1)
      have HYE : Hid (y = q + (cntU .bool x k : Nat) ∧ cntU .bool x (k + 1) = cntU .bool x k + cntD .bool x[k]) := ⟨hy, hcs⟩
      have hce : y + (cntD .bool x[k] : Nat) ≤ 8796000000000 := by have := HZ.out.2; omega
      have hy0 : 0 < y := by omega
      clear hcs hcl hy
      obtain ⟨ec, hel, hec, hoe⟩ := hO.2.2.2.2.2 k (by rw [mkU_len]; exact hlx) hlt
      rw [mkU_at _ _ _ _ hlx] at hoe
      have hev : ec = [.bool x[k]] := hoe
      subst hev
      have hce2 : y + 1 ≤ 8796000000000 := by have : cntD .bool x[k] = 1 := rfl; omega
      have HW : Hid (OwnK wr .bool g n n (mkU .bool x q k) S B ∧ TurnS S w wr) := ⟨hO, ht⟩
      have P0 : Hid (∀ vs, PartD wr wr g n 1 k 0 vs (B k)) := fun vs => PartD.start hO.2.2.2.2.1 hO.1
      have hgz := hO.1
      clear hec hel hO ht hoe
      have hrm : Room wr g (n * 1) := (P0.out []).2.1
      obtain ⟨⟨e0, r0⟩, f0⟩ := hrm k (by omega)
      have HF : Hid (OwnK (wr.setCell ⟨g, k, none⟩ (.bool ((y) % 3 == 0))) .bool g n n (mkU .bool x q (k + 1)) S B ∧ TurnS S w (wr.setCell ⟨g, k, none⟩ (.bool ((y) % 3 == 0)))) := by
        have hP : PartD wr (wr.setCell ⟨g, k, none⟩ (.bool ((y) % 3 == 0))) g n 1 k 1 [.bool ((y) % 3 == 0)] (B k) := (by have := ((P0.out [.bool ((y) % 3 == 0)]).set (v := .bool ((y) % 3 == 0)) hlt (by omega) rfl); simpa using this)
        have hd := PartD.done (e := .bool) (l := mkU .bool x q k) (y := mkD .bool x[k] y) hP HW.out.1 hlt rfl rfl
        have hms := mkU_set .bool x q k hlx
        rw [← HYE.out.1] at hms
        rw [hms] at hd
        exact ⟨hd.1, HW.out.2.trans hd.2⟩
      have HQ : Hid (y + 1 = q + (cntU .bool x (k + 1) : Nat)) := Hid.intro (by have h1 := HYE.out; have h2 : cntD .bool x[k] = 1 := rfl; omega)
      clear P0 HW
      go_wp2
      go_roundw
      case rel => exact ⟨k + 1, by omega, by go_num, by rw [← HQ.out], HF.out⟩
      case measure => simp [intOf]; omega
    · have hkn : k = n := by omega
      subst hkn
      have HP : Hid (MkP (.list .bool) [.slice (some ⟨g, 0, none⟩) k cap] (mkD (.list .bool) x q) (q + (cntD (.list .bool) x : Nat)) S w (.returned (.int .i64 (q + (cntU .bool x k : Nat)))) wr) := by
        have e := HN.out
        subst e
        refine ⟨by rw [cntU_all], ?_, ht⟩
        rw [mkU_all] at hO
        have hO' : OwnK wr .bool g (mkD (.list .bool) x q).length (mkD (.list .bool) x q).length (mkD (.list .bool) x q) S B := by rw [mkD_len]; exact hO
        have := hO'.list (cap := cap) (by rw [mkD_len]; exact HCP.out.1) HCP.out.2
        rwa [mkD_len] at this
      clear hO ht
      go_wp2
      go_ret
      exact HP.out
set_option maxRecDepth 100000 in
set_option maxHeartbeats 4000000 in
theorem markSynodStepS_n (a : Option Addr) (cap : Nat) (x : List (Sh.T shSynodStep)) (q : Int) (S : Nat → Prop) (w : World) (h0 : 0 < q) (h1 : q + (cntD (.list shSynodStep) x : Nat) ≤ 8796000000000) (hz : szD (.list shSynodStep) x ≤ 1073741824) (h : Own w (.list shSynodStep) [.slice a x.length cap] x S) :
    Calls Try.prog 40 #[.slice a x.length cap, .int .i64 q] w (MkP (.list shSynodStep) [.slice a x.length cap] (mkD (.list shSynodStep) x q) (q + (cntD (.list shSynodStep) x : Nat)) S w) := by
  have hn : x.length ≤ 1073741824 := by simp only [szD] at hz; omega
  rcases own_list h with ⟨hx, _⟩ | ⟨g, cap', B, hcs, hcap, hO⟩
  · subst hx
    have HO : Hid (Own w (.list shSynodStep) [.slice a 0 cap] [] S) := h
    clear h hz hn
    go_enter Try.func40, Try.ntmps40
    go_wp2
    go_loopw [5, 1] (fun i q' wr => i = .int .i64 0 ∧ q' = .int .i64 q ∧ wr = w) (fun _ _ _ => 0)
    case atStart => exact ⟨rfl, rfl, rfl⟩
    case round =>
      obtain ⟨rfl, rfl, rfl⟩ := hrel
      go_wp2
      go_ret
      exact ⟨by simp [cntD], HO.out, TurnS.refl _ _⟩
  simp only [List.cons.injEq, Value.slice.injEq, and_true] at hcs
  obtain ⟨rfl, _, rfl⟩ := hcs
  have HZ : Hid (szD (.list shSynodStep) x ≤ 1073741824 ∧ q + (cntD (.list shSynodStep) x : Nat) ≤ 8796000000000) := ⟨hz, h1⟩
  have HI : Hid (OwnK w shSynodStep g x.length x.length x S B) := hO
  have hc1 : q ≤ 8796000000000 := by omega
  have HCP : Hid (x.length ≤ cap ∧ cap ≤ maxLen) := hcap
  clear h hz hO h1 hcap
  obtain ⟨n, hnn⟩ : ∃ n, n = x.length := ⟨_, rfl⟩
  have HN : Hid (n = x.length) := hnn
  rw [← hnn] at hn HI ⊢
  clear hnn
  go_enter Try.func40, Try.ntmps40
  go_wp2
  go_loopw [5, 1] (fun i q' wr => ∃ k : Nat, k ≤ n ∧ i = .int .i64 k ∧ q' = .int .i64 (q + (cntU shSynodStep x k : Nat)) ∧ OwnK wr shSynodStep g n n (mkU shSynodStep x q k) S B ∧ TurnS S w wr) (fun i _ _ => n - (intOf i).toNat)
  case atStart => exact ⟨0, Nat.zero_le _, rfl, by simp [cntU], by rw [mkU_zero]; exact HI.out, TurnS.refl _ _⟩
  case round =>
    obtain ⟨k, hk, rfl, rfl, hO, ht⟩ := hrel
    clear HI
    by_cases hlt : k < n
    · have hlx : k < x.length := by have := HN.out; omega
      have hlt' : (k : Int) < (n : Int) := by omega
      obtain ⟨y, hy⟩ : ∃ y, y = q + (cntU shSynodStep x k : Nat) := ⟨_, rfl⟩
      rw [← hy]
      have hcs := cntU_succ shSynodStep x k hlx
      have hcl := cntU_le shSynodStep x (k + 1)
      have HYE : Hid (y = q + (cntU shSynodStep x k : Nat) ∧ cntU shSynodStep x (k + 1) = cntU shSynodStep x k + cntD shSynodStep x[k]) := ⟨hy, hcs⟩
      have hce : y + (cntD shSynodStep x[k] : Nat) ≤ 8796000000000 := by have := HZ.out.2; omega
      have hy0 : 0 < y := by omega
      clear hcs hcl hy
      obtain ⟨ec, hel, hec, hoe⟩ := hO.2.2.2.2.2 k (by rw [mkU_len]; exact hlx) hlt
      rw [mkU_at _ _ _ _ hlx] at hoe
      obtain hev := own_SynodStep (x0 := x[k].1) (x1 := x[k].2.1) (x2 := x[k].2.2.1) hoe
      subst hev
      have hcE : cntD shSynodStep x[k] = (1 + (1 + (1 + 0))) := rfl
      have hce2 : y + 3 ≤ 8796000000000 := by omega
      clear hcE
      have HW : Hid (OwnK wr shSynodStep g n n (mkU shSynodStep x q k) S B ∧ TurnS S w wr) := ⟨hO, ht⟩
      have P0 : Hid (∀ vs, PartD wr wr g n 3 k 0 vs (B k)) := fun vs => PartD.start hO.2.2.2.2.1 hO.1
      have hgz := hO.1
      clear hec hel hO ht hoe hce
      have hrm : Room wr g (n * 3) := (P0.out []).2.1
      obtain ⟨⟨e0, r0⟩, f0⟩ := hrm (k * 3) (by omega)
      obtain ⟨⟨e1, r1⟩, f1⟩ := hrm (k * 3 + 1) (by omega)
      obtain ⟨⟨e2, r2⟩, f2⟩ := hrm (k * 3 + 2) (by omega)
      have HF : Hid (OwnK (((wr.setCell ⟨g, k * 3, none⟩ (.bool ((y) % 3 == 0))).setCell ⟨g, k * 3 + 1, none⟩ (.int .i64 (y + 1))).setCell ⟨g, k * 3 + 2, none⟩ (.int .i64 (y + 1 + 1))) shSynodStep g n n (mkU shSynodStep x q (k + 1)) S B ∧ TurnS S w (((wr.setCell ⟨g, k * 3, none⟩ (.bool ((y) % 3 == 0))).setCell ⟨g, k * 3 + 1, none⟩ (.int .i64 (y + 1))).setCell ⟨g, k * 3 + 2, none⟩ (.int .i64 (y + 1 + 1)))) := by
        have hP : PartD wr (((wr.setCell ⟨g, k * 3, none⟩ (.bool ((y) % 3 == 0))).setCell ⟨g, k * 3 + 1, none⟩ (.int .i64 (y + 1))).setCell ⟨g, k * 3 + 2, none⟩ (.int .i64 (y + 1 + 1))) g n 3 k 3 [.bool ((y) % 3 == 0), .int .i64 (y + 1), .int .i64 (y + 1 + 1)] (B k) := ((((P0.out [.bool ((y) % 3 == 0), .int .i64 (y + 1), .int .i64 (y + 1 + 1)]).set (v := .bool ((y) % 3 == 0)) hlt (by omega) rfl).set (v := .int .i64 (y + 1)) hlt (by omega) rfl).set (v := .int .i64 (y + 1 + 1)) hlt (by omega) rfl)
        have hd := PartD.done (e := shSynodStep) (l := mkU shSynodStep x q k) (y := mkD shSynodStep x[k] y) hP HW.out.1 hlt rfl (by have hq : mkD shSynodStep x[k] y = (((y) % 3 == 0), (y + 1), (y + 1 + 1), ()) := mkeq_SynodStep x[k].1 x[k].2.1 x[k].2.2.1 y; rw [hq]; exact mkown_SynodStep)
        have hms := mkU_set shSynodStep x q k hlx
        rw [← HYE.out.1] at hms
        rw [hms] at hd
        exact ⟨hd.1, HW.out.2.trans hd.2⟩
      have HQ : Hid (y + 1 + 1 + 1 = q + (cntU shSynodStep x (k + 1) : Nat)) := Hid.intro (by have h1 := HYE.out; have h2 : cntD shSynodStep x[k] = (1 + (1 + (1 + 0))) := rfl; omega)
      clear P0 HW
      go_wp2
      go_roundw
      case rel => exact ⟨k + 1, by omega, by go_num, by rw [← HQ.out], HF.out⟩
      case measure => simp [intOf]; omega
    · have hkn : k = n := by omega
      subst hkn
      have HP : Hid (MkP (.list shSynodStep) [.slice (some ⟨g, 0, none⟩) k cap] (mkD (.list shSynodStep) x q) (q + (cntD (.list shSynodStep) x : Nat)) S w (.returned (.int .i64 (q + (cntU shSynodStep x k : Nat)))) wr) := by
        have e := HN.out
        subst e
        refine ⟨by rw [cntU_all], ?_, ht⟩
        rw [mkU_all] at hO
        have hO' : OwnK wr shSynodStep g (mkD (.list shSynodStep) x q).length (mkD (.list shSynodStep) x q).length (mkD (.list shSynodStep) x q) S B := by rw [mkD_len]; exact hO
        have := hO'.list (cap := cap) (by rw [mkD_len]; exact HCP.out.1) HCP.out.2
        rwa [mkD_len] at this
      clear hO ht
      go_wp2
      go_ret
      exact HP.out
theorem mkTeq_Synod (x0 : List (Sh.T shAcceptor)) (x1 : List (Sh.T shProposer)) (q : Int) (z1 : Int) (z2 : Int) (hz1 : z1 = q + (cntD (.list shAcceptor) x0 : Nat)) (hz2 : z2 = z1 + (cntD (.list shProposer) x1 : Nat)) : mkT shSynod (x0, x1, ()) q = (mkD (.list shAcceptor) x0 q, mkD (.list shProposer) x1 z1, ()) := by
  subst hz2 hz1
  simp [shSynod, mkT, cntT, Int.add_assoc]
theorem cntTeq_Synod (x0 : List (Sh.T shAcceptor)) (x1 : List (Sh.T shProposer)) : cntT shSynod (x0, x1, ()) = cntD (.list shAcceptor) x0 + cntD (.list shProposer) x1 := by
  simp [shSynod, cntT]
set_option maxRecDepth 100000 in
set_option maxHeartbeats 4000000 in
theorem markSynod_n (cs : List Value) (x0 : List (Sh.T shAcceptor)) (x1 : List (Sh.T shProposer)) (q : Int) (S : Nat → Prop) (w : World) (h0 : 0 < q) (h1 : q + (cntT shSynod (x0, x1, ()) : Nat) ≤ 8796000000000) (hz : szD shSynod (x0, x1, ()) ≤ 1073741824) (hS : ∀ k, S k → k < w.heap.size) (h : Own w shSynod cs (x0, x1, ()) S) :
    Calls Try.prog 29 #[.agg cs.toArray, .int .i64 q] w (MkP shSynod cs (mkT shSynod (x0, x1, ()) q) (q + (cntT shSynod (x0, x1, ()) : Nat)) S w) := by
  obtain ⟨a1, k1, S1, a2, k2, S2, hev, o1, o2, s1, s2, d1_2⟩ := own_Synod h
  subst hev
  rw [cntTeq_Synod] at h1 ⊢
  have HE : Hid (szD shSynod (x0, x1, ()) = (szD (.list shAcceptor) x0 + (szD (.list shProposer) x1 + 0))) := rfl
  have HZ : Hid (szD shSynod (x0, x1, ()) ≤ 1073741824) := hz
  obtain ⟨c1, hc1⟩ : ∃ y, y = cntD (.list shAcceptor) x0 := ⟨_, rfl⟩
  obtain ⟨c2, hc2⟩ : ∃ y, y = cntD (.list shProposer) x1 := ⟨_, rfl⟩
  rw [← hc1, ← hc2] at h1 ⊢
  have HK1 : Hid (c1 = cntD (.list shAcceptor) x0) := hc1
  clear hc1
  have HK2 : Hid (c2 = cntD (.list shProposer) x1) := hc2
  clear hc2
  have O1 : Hid (Own w (.list shAcceptor) [.slice a1 x0.length k1] x0 S1) := o1
  clear o1
  have O2 : Hid (Own w (.list shProposer) [.slice a2 x1.length k2] x1 S2) := o2
  clear o2
  have hSw : Hid (∀ k, S k → k = w.heap.size → False) := fun k h1 h2 => by have := hS k h1; omega
  clear h hz hS
  go_enter Try.func29, Try.ntmps29
  go_wp2_with fail
  obtain ⟨w0, hW⟩ : ∃ x, x = w.alloc (.cells #[.slice a1 x0.length k1, .slice a2 x1.length k2] 30) := ⟨_, rfl⟩
  have hb0 : Below w.heap.size w w0 := hW ▸ Go.Joins.below_alloc1 _ _
  have HB : Hid (Bx w0 w.heap.size [.slice a1 x0.length k1, .slice a2 x1.length k2] ∧ TurnS S w w0 ∧ (∀ k, S k → k < w.heap.size → True)) := ⟨hW ▸ Bx.new w [.slice a1 x0.length k1, .slice a2 x1.length k2] _, TurnS.of_below hb0, fun _ _ _ => trivial⟩
  have O1 : Hid (Own w0 (.list shAcceptor) [.slice a1 x0.length k1] x0 S1) := O1.out.next hb0
  have O2 : Hid (Own w0 (.list shProposer) [.slice a2 x1.length k2] x1 S2) := O2.out.next hb0
  rw [← hW]
  clear hW hb0
  refine (markAcceptorS_n _ _ _ _ S1 _ (by omega) (by rw [← HK1.out]; omega) (by have := HZ.out; rw [HE.out] at this; omega) O1.out).mono ?_
  rintro r w1 ⟨hr, ho, hb⟩
  rw [← HK1.out] at hr
  obtain ⟨z1, hz1⟩ : ∃ zz, zz = q + (c1 : Int) := ⟨_, rfl⟩
  rw [← hz1] at hr
  subst hr
  have HZ1 : Hid (z1 = q + (c1 : Int)) := hz1
  have hzb1 : 0 < z1 ∧ z1 + (c2 : Int) ≤ 8796000000000 := by omega
  clear hz1
  have HB : Hid (Bx w1 w.heap.size [.slice a1 x0.length k1, .slice a2 x1.length k2] ∧ TurnS S w w1 ∧ (∀ k, S k → k < w.heap.size → True)) := ⟨HB.out.1.turnS hb (fun q => hSw.out w.heap.size (s1 _ q) rfl), HB.out.2.1.trans (hb.wide s1), fun _ _ _ => trivial⟩
  have O1 : Hid (Own w1 (.list shAcceptor) [.slice a1 x0.length k1] (mkD (.list shAcceptor) x0 q) S1) := ho
  have O2 : Hid (Own w1 (.list shProposer) [.slice a2 x1.length k2] x1 S2) := O2.out.turn hb (fun k e f => d1_2 k f e)
  clear ho hb
  have dz := HB.out.1
  have d0 := HB.out.1.cell 0 rfl
  have d1 := HB.out.1.cell 1 rfl
  have dz := HB.out.1.2
  go_wp2_with fail
  clear dz d0 d1
  refine (markProposerS_n _ _ _ _ S2 _ (by omega) (by rw [← HK2.out]; omega) (by have := HZ.out; rw [HE.out] at this; omega) O2.out).mono ?_
  rintro r w2 ⟨hr, ho, hb⟩
  rw [← HK2.out] at hr
  obtain ⟨z2, hz2⟩ : ∃ zz, zz = z1 + (c2 : Int) := ⟨_, rfl⟩
  rw [← hz2] at hr
  subst hr
  have HZ2 : Hid (z2 = z1 + (c2 : Int)) := hz2
  have hzb2 : 0 < z2 ∧ z2 ≤ 8796000000000 := by omega
  clear hz2
  have HB : Hid (Bx w2 w.heap.size [.slice a1 x0.length k1, .slice a2 x1.length k2] ∧ TurnS S w w2 ∧ (∀ k, S k → k < w.heap.size → True)) := ⟨HB.out.1.turnS hb (fun q => hSw.out w.heap.size (s2 _ q) rfl), HB.out.2.1.trans (hb.wide s2), fun _ _ _ => trivial⟩
  have O1 : Hid (Own w2 (.list shAcceptor) [.slice a1 x0.length k1] (mkD (.list shAcceptor) x0 q) S1) := O1.out.turn hb d1_2
  have O2 : Hid (Own w2 (.list shProposer) [.slice a2 x1.length k2] (mkD (.list shProposer) x1 z1) S2) := ho
  clear ho hb
  have d0 := HB.out.1.cell 0 rfl
  have d1 := HB.out.1.cell 1 rfl
  have dz := HB.out.1.2
  go_wp2
  go_ret
  refine ⟨congrArg (fun t => Ending.returned (.int .i64 t)) (by have := HZ1.out; have := HZ2.out; omega), ?_, HB.out.2.1⟩
  rw [mkTeq_Synod x0 x1 q z1 z2 (by rw [← HK1.out]; exact HZ1.out) (by rw [← HK2.out]; exact HZ2.out)]
  exact mkown_Synod O1.out O2.out s1 s2 d1_2
end Go.Proofs.Ytmhkfangfhanlaa
