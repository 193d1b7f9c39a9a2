/- The law's own functions that mark lists. Written by tools/nest.py. -/
import Derived.Test.YtcklpcdgckkahaaNtS
import Derived.Test.YtcklpcdgckkahaaProg
import Derived.Test.YtcklpcdgckkahaaBx
import Derived.WalkKit
import Derived.WalkSpells
import Derived.WalkLawsBesides
import Derived.Test.YtcklpcdgckkahaaShP
import Derived.Test.YtcklpcdgckkahaaShM
namespace Go.Proofs.Ytcklpcdgckkahaa
open Go.RowKit
set_option linter.unusedVariables false
set_option linter.unusedSimpArgs false

theorem mkeq_Parcel (x0 : Bool) (x1 : Int) (y : Int) : mkD shParcel (x0, x1, ()) y = (((y) % 3 == 0), (y + 1), ()) := by
  rfl
theorem mkeq_Bank (x0 : Int) (x1 : Bool) (x2 : Int) (y : Int) : mkD shBank (x0, x1, x2, ()) y = ((y), ((y + 1) % 3 == 0), (y + 1 + 1), ()) := by
  rfl
theorem mkeq_Way (x0 : Int) (x1 : Int) (x2 : List (Sh.T shParcel)) (x3 : Bool) (x4 : List (Sh.T .int)) (y : Int) (z1 : Int) (z2 : Int) (hz1 : z1 = y + 1 + 1 + (cntD (.list shParcel) x2 : Nat)) (hz2 : z2 = z1 + 1 + (cntD (.list .int) x4 : Nat)) : mkD shWay (x0, x1, x2, x3, x4, ()) y = ((y), (y + 1), mkD (.list shParcel) x2 (y + 1 + 1), ((z1) % 3 == 0), mkD (.list .int) x4 (z1 + 1), ()) := by
  subst hz1; subst hz2; rfl
theorem mkeq_BankStep (x0 : Int) (x1 : Int) (x2 : Int) (x3 : Int) (y : Int) : mkD shBankStep (x0, x1, x2, x3, ()) y = ((y), (y + 1), (y + 1 + 1), (y + 1 + 1 + 1), ()) := by
  rfl
set_option maxRecDepth 100000 in
set_option maxHeartbeats 4000000 in
theorem markIntS_n (a : Option Addr) (cap : Nat) (x : List (Sh.T .int)) (q : Int) (S : Nat → Prop) (w : World) (h0 : 0 < q) (h1 : q + (cntD (.list .int) x : Nat) ≤ 8796000000000) (hz : szD (.list .int) x ≤ 1073741824) (h : Own w (.list .int) [.slice a x.length cap] x S) :
    Calls Try.prog 32 #[.slice a x.length cap, .int .i64 q] w (MkP (.list .int) [.slice a x.length cap] (mkD (.list .int) x q) (q + (cntD (.list .int) x : Nat)) S w) := by
  have hn : x.length ≤ 1073741824 := by simp only [szD] at hz; omega
  rcases own_list h with ⟨hx, _⟩ | ⟨g, cap', B, hcs, hcap, hO⟩
  · subst hx
    have HO : Hid (Own w (.list .int) [.slice a 0 cap] [] S) := h
    clear h hz hn
    go_enter Try.func32, Try.ntmps32
    go_wp2
    go_loopw [5, 1] (fun i q' wr => i = .int .i64 0 ∧ q' = .int .i64 q ∧ wr = w) (fun _ _ _ => 0)
    case atStart => exact ⟨rfl, rfl, rfl⟩
    case round =>
      obtain ⟨rfl, rfl, rfl⟩ := hrel
      go_wp2
      go_ret
      exact ⟨by simp [cntD], HO.out, TurnS.refl _ _⟩
  simp only [List.cons.injEq, Value.slice.injEq, and_true] at hcs
  obtain ⟨rfl, _, rfl⟩ := hcs
  have HZ : Hid (szD (.list .int) x ≤ 1073741824 ∧ q + (cntD (.list .int) x : Nat) ≤ 8796000000000) := ⟨hz, h1⟩
  have HI : Hid (OwnK w .int g x.length x.length x S B) := hO
  have hc1 : q ≤ 8796000000000 := by omega
  have HCP : Hid (x.length ≤ cap ∧ cap ≤ maxLen) := hcap
  clear h hz hO h1 hcap
  obtain ⟨n, hnn⟩ : ∃ n, n = x.length := ⟨_, rfl⟩
  have HN : Hid (n = x.length) := hnn
  rw [← hnn] at hn HI ⊢
  clear hnn
  go_enter Try.func32, Try.ntmps32
  go_wp2
  go_loopw [5, 1] (fun i q' wr => ∃ k : Nat, k ≤ n ∧ i = .int .i64 k ∧ q' = .int .i64 (q + (cntU .int x k : Nat)) ∧ OwnK wr .int g n n (mkU .int x q k) S B ∧ TurnS S w wr) (fun i _ _ => n - (intOf i).toNat)
  case atStart => exact ⟨0, Nat.zero_le _, rfl, by simp [cntU], by rw [mkU_zero]; exact HI.out, TurnS.refl _ _⟩
  case round =>
    obtain ⟨k, hk, rfl, rfl, hO, ht⟩ := hrel
    clear HI
    by_cases hlt : k < n
    · have hlx : k < x.length := by have := HN.out; omega
      have hlt' : (k : Int) < (n : Int) := by omega
      obtain ⟨y, hy⟩ : ∃ y, y = q + (cntU .int x k : Nat) := ⟨_, rfl⟩
      rw [← hy]
      have hcs := cntU_succ .int x k hlx
      have hcl := cntU_le .int x (k + 1)
      have HYE : Hid (y = q + (cntU .int x k : Nat) ∧ cntU .int x (k + 1) = cntU .int x k + cntD .int x[k]) := ⟨hy, hcs⟩
      have hce : y + (cntD .int x[k] : Nat) ≤ 8796000000000 := by have := HZ.out.2; omega
      have hy0 : 0 < y := by omega
      clear hcs hcl hy
      obtain ⟨ec, hel, hec, hoe⟩ := hO.2.2.2.2.2 k (by rw [mkU_len]; exact hlx) hlt
      rw [mkU_at _ _ _ _ hlx] at hoe
      have hev : ec = [.int .i64 x[k]] := hoe
      subst hev
      have hce2 : y + 1 ≤ 8796000000000 := by have : cntD .int x[k] = 1 := rfl; omega
      have HW : Hid (OwnK wr .int g n n (mkU .int x q k) S B ∧ TurnS S w wr) := ⟨hO, ht⟩
      have P0 : Hid (∀ vs, PartD wr wr g n 1 k 0 vs (B k)) := fun vs => PartD.start hO.2.2.2.2.1 hO.1
      have hgz := hO.1
      clear hec hel hO ht hoe
      have hrm : Room wr g (n * 1) := (P0.out []).2.1
      obtain ⟨⟨e0, r0⟩, f0⟩ := hrm k (by omega)
      have HF : Hid (OwnK (wr.setCell ⟨g, k, none⟩ (.int .i64 (y))) .int g n n (mkU .int x q (k + 1)) S B ∧ TurnS S w (wr.setCell ⟨g, k, none⟩ (.int .i64 (y)))) := by
        have hP : PartD wr (wr.setCell ⟨g, k, none⟩ (.int .i64 (y))) g n 1 k 1 [.int .i64 (y)] (B k) := (by have := ((P0.out [.int .i64 (y)]).set (v := .int .i64 (y)) hlt (by omega) rfl); simpa using this)
        have hd := PartD.done (e := .int) (l := mkU .int x q k) (y := mkD .int x[k] y) hP HW.out.1 hlt rfl rfl
        have hms := mkU_set .int x q k hlx
        rw [← HYE.out.1] at hms
        rw [hms] at hd
        exact ⟨hd.1, HW.out.2.trans hd.2⟩
      have HQ : Hid (y + 1 = q + (cntU .int x (k + 1) : Nat)) := Hid.intro (by have h1 := HYE.out; have h2 : cntD .int x[k] = 1 := rfl; omega)
      clear P0 HW
      go_wp2
      go_roundw
      case rel => exact ⟨k + 1, by omega, by go_num, by rw [← HQ.out], HF.out⟩
      case measure => simp [intOf]; omega
    · have hkn : k = n := by omega
      subst hkn
      have HP : Hid (MkP (.list .int) [.slice (some ⟨g, 0, none⟩) k cap] (mkD (.list .int) x q) (q + (cntD (.list .int) x : Nat)) S w (.returned (.int .i64 (q + (cntU .int x k : Nat)))) wr) := by
        have e := HN.out
        subst e
        refine ⟨by rw [cntU_all], ?_, ht⟩
        rw [mkU_all] at hO
        have hO' : OwnK wr .int g (mkD (.list .int) x q).length (mkD (.list .int) x q).length (mkD (.list .int) x q) S B := by rw [mkD_len]; exact hO
        have := hO'.list (cap := cap) (by rw [mkD_len]; exact HCP.out.1) HCP.out.2
        rwa [mkD_len] at this
      clear hO ht
      go_wp2
      go_ret
      exact HP.out
set_option maxRecDepth 100000 in
set_option maxHeartbeats 4000000 in
theorem markParcelS_n (a : Option Addr) (cap : Nat) (x : List (Sh.T shParcel)) (q : Int) (S : Nat → Prop) (w : World) (h0 : 0 < q) (h1 : q + (cntD (.list shParcel) x : Nat) ≤ 8796000000000) (hz : szD (.list shParcel) x ≤ 1073741824) (h : Own w (.list shParcel) [.slice a x.length cap] x S) :
    Calls Try.prog 92 #[.slice a x.length cap, .int .i64 q] w (MkP (.list shParcel) [.slice a x.length cap] (mkD (.list shParcel) x q) (q + (cntD (.list shParcel) x : Nat)) S w) := by
  have hn : x.length ≤ 1073741824 := by simp only [szD] at hz; omega
  rcases own_list h with ⟨hx, _⟩ | ⟨g, cap', B, hcs, hcap, hO⟩
  · subst hx
    have HO : Hid (Own w (.list shParcel) [.slice a 0 cap] [] S) := h
    clear h hz hn
    go_enter Try.func92, Try.ntmps92
    go_wp2
    go_loopw [5, 1] (fun i q' wr => i = .int .i64 0 ∧ q' = .int .i64 q ∧ wr = w) (fun _ _ _ => 0)
    case atStart => exact ⟨rfl, rfl, rfl⟩
    case round =>
      obtain ⟨rfl, rfl, rfl⟩ := hrel
      go_wp2
      go_ret
      exact ⟨by simp [cntD], HO.out, TurnS.refl _ _⟩
  simp only [List.cons.injEq, Value.slice.injEq, and_true] at hcs
  obtain ⟨rfl, _, rfl⟩ := hcs
  have HZ : Hid (szD (.list shParcel) x ≤ 1073741824 ∧ q + (cntD (.list shParcel) x : Nat) ≤ 8796000000000) := ⟨hz, h1⟩
  have HI : Hid (OwnK w shParcel g x.length x.length x S B) := hO
  have hc1 : q ≤ 8796000000000 := by omega
  have HCP : Hid (x.length ≤ cap ∧ cap ≤ maxLen) := hcap
  clear h hz hO h1 hcap
  obtain ⟨n, hnn⟩ : ∃ n, n = x.length := ⟨_, rfl⟩
  have HN : Hid (n = x.length) := hnn
  rw [← hnn] at hn HI ⊢
  clear hnn
  go_enter Try.func92, Try.ntmps92
  go_wp2
  go_loopw [5, 1] (fun i q' wr => ∃ k : Nat, k ≤ n ∧ i = .int .i64 k ∧ q' = .int .i64 (q + (cntU shParcel x k : Nat)) ∧ OwnK wr shParcel g n n (mkU shParcel x q k) S B ∧ TurnS S w wr) (fun i _ _ => n - (intOf i).toNat)
  case atStart => exact ⟨0, Nat.zero_le _, rfl, by simp [cntU], by rw [mkU_zero]; exact HI.out, TurnS.refl _ _⟩
  case round =>
    obtain ⟨k, hk, rfl, rfl, hO, ht⟩ := hrel
    clear HI
    by_cases hlt : k < n
    · have hlx : k < x.length := by have := HN.out; omega
      have hlt' : (k : Int) < (n : Int) := by omega
      obtain ⟨y, hy⟩ : ∃ y, y = q + (cntU shParcel x k : Nat) := ⟨_, rfl⟩
      rw [← hy]
      have hcs := cntU_succ shParcel x k hlx
      have hcl := cntU_le shParcel x (k + 1)
      have HYE : Hid (y = q + (cntU shParcel x k : Nat) ∧ cntU shParcel x (k + 1) = cntU shParcel x k + cntD shParcel x[k]) := ⟨hy, hcs⟩
      have hce : y + (cntD shParcel x[k] : Nat) ≤ 8796000000000 := by have := HZ.out.2; omega
      have hy0 : 0 < y := by omega
      clear hcs hcl hy
      obtain ⟨ec, hel, hec, hoe⟩ := hO.2.2.2.2.2 k (by rw [mkU_len]; exact hlx) hlt
      rw [mkU_at _ _ _ _ hlx] at hoe
      obtain hev := own_Parcel (x0 := x[k].1) (x1 := x[k].2.1) hoe
      subst hev
      have hcE : cntD shParcel x[k] = (1 + (1 + 0)) := rfl
      have hce2 : y + 2 ≤ 8796000000000 := by omega
      clear hcE
      have HW : Hid (OwnK wr shParcel g n n (mkU shParcel x q k) S B ∧ TurnS S w wr) := ⟨hO, ht⟩
      have P0 : Hid (∀ vs, PartD wr wr g n 2 k 0 vs (B k)) := fun vs => PartD.start hO.2.2.2.2.1 hO.1
      have hgz := hO.1
      clear hec hel hO ht hoe hce
      have hrm : Room wr g (n * 2) := (P0.out []).2.1
      obtain ⟨⟨e0, r0⟩, f0⟩ := hrm (k * 2) (by omega)
      obtain ⟨⟨e1, r1⟩, f1⟩ := hrm (k * 2 + 1) (by omega)
      have HF : Hid (OwnK ((wr.setCell ⟨g, k * 2, none⟩ (.bool ((y) % 3 == 0))).setCell ⟨g, k * 2 + 1, none⟩ (.int .i64 (y + 1))) shParcel g n n (mkU shParcel x q (k + 1)) S B ∧ TurnS S w ((wr.setCell ⟨g, k * 2, none⟩ (.bool ((y) % 3 == 0))).setCell ⟨g, k * 2 + 1, none⟩ (.int .i64 (y + 1)))) := by
        have hP : PartD wr ((wr.setCell ⟨g, k * 2, none⟩ (.bool ((y) % 3 == 0))).setCell ⟨g, k * 2 + 1, none⟩ (.int .i64 (y + 1))) g n 2 k 2 [.bool ((y) % 3 == 0), .int .i64 (y + 1)] (B k) := (((P0.out [.bool ((y) % 3 == 0), .int .i64 (y + 1)]).set (v := .bool ((y) % 3 == 0)) hlt (by omega) rfl).set (v := .int .i64 (y + 1)) hlt (by omega) rfl)
        have hd := PartD.done (e := shParcel) (l := mkU shParcel x q k) (y := mkD shParcel x[k] y) hP HW.out.1 hlt rfl (by have hq : mkD shParcel x[k] y = (((y) % 3 == 0), (y + 1), ()) := mkeq_Parcel x[k].1 x[k].2.1 y; rw [hq]; exact mkown_Parcel)
        have hms := mkU_set shParcel x q k hlx
        rw [← HYE.out.1] at hms
        rw [hms] at hd
        exact ⟨hd.1, HW.out.2.trans hd.2⟩
      have HQ : Hid (y + 1 + 1 = q + (cntU shParcel x (k + 1) : Nat)) := Hid.intro (by have h1 := HYE.out; have h2 : cntD shParcel x[k] = (1 + (1 + 0)) := rfl; omega)
      clear P0 HW
      go_wp2
      go_roundw
      case rel => exact ⟨k + 1, by omega, by go_num, by rw [← HQ.out], HF.out⟩
      case measure => simp [intOf]; omega
    · have hkn : k = n := by omega
      subst hkn
      have HP : Hid (MkP (.list shParcel) [.slice (some ⟨g, 0, none⟩) k cap] (mkD (.list shParcel) x q) (q + (cntD (.list shParcel) x : Nat)) S w (.returned (.int .i64 (q + (cntU shParcel x k : Nat)))) wr) := by
        have e := HN.out
        subst e
        refine ⟨by rw [cntU_all], ?_, ht⟩
        rw [mkU_all] at hO
        have hO' : OwnK wr shParcel g (mkD (.list shParcel) x q).length (mkD (.list shParcel) x q).length (mkD (.list shParcel) x q) S B := by rw [mkD_len]; exact hO
        have := hO'.list (cap := cap) (by rw [mkD_len]; exact HCP.out.1) HCP.out.2
        rwa [mkD_len] at this
      clear hO ht
      go_wp2
      go_ret
      exact HP.out
set_option maxRecDepth 100000 in
set_option maxHeartbeats 4000000 in
theorem markBankS_n (a : Option Addr) (cap : Nat) (x : List (Sh.T shBank)) (q : Int) (S : Nat → Prop) (w : World) (h0 : 0 < q) (h1 : q + (cntD (.list shBank) x : Nat) ≤ 8796000000000) (hz : szD (.list shBank) x ≤ 1073741824) (h : Own w (.list shBank) [.slice a x.length cap] x S) :
    Calls Try.prog 67 #[.slice a x.length cap, .int .i64 q] w (MkP (.list shBank) [.slice a x.length cap] (mkD (.list shBank) x q) (q + (cntD (.list shBank) x : Nat)) S w) := by
  have hn : x.length ≤ 1073741824 := by simp only [szD] at hz; omega
  rcases own_list h with ⟨hx, _⟩ | ⟨g, cap', B, hcs, hcap, hO⟩
  · subst hx
    have HO : Hid (Own w (.list shBank) [.slice a 0 cap] [] S) := h
    clear h hz hn
    go_enter Try.func67, Try.ntmps67
    go_wp2
    go_loopw [5, 1] (fun i q' wr => i = .int .i64 0 ∧ q' = .int .i64 q ∧ wr = w) (fun _ _ _ => 0)
    case atStart => exact ⟨rfl, rfl, rfl⟩
    case round =>
      obtain ⟨rfl, rfl, rfl⟩ := hrel
      go_wp2
      go_ret
      exact ⟨by simp [cntD], HO.out, TurnS.refl _ _⟩
  simp only [List.cons.injEq, Value.slice.injEq, and_true] at hcs
  obtain ⟨rfl, _, rfl⟩ := hcs
  have HZ : Hid (szD (.list shBank) x ≤ 1073741824 ∧ q + (cntD (.list shBank) x : Nat) ≤ 8796000000000) := ⟨hz, h1⟩
  have HI : Hid (OwnK w shBank g x.length x.length x S B) := hO
  have hc1 : q ≤ 8796000000000 := by omega
  have HCP : Hid (x.length ≤ cap ∧ cap ≤ maxLen) := hcap
  clear h hz hO h1 hcap
  obtain ⟨n, hnn⟩ : ∃ n, n = x.length := ⟨_, rfl⟩
  have HN : Hid (n = x.length) := hnn
  rw [← hnn] at hn HI ⊢
  clear hnn
  go_enter Try.func67, Try.ntmps67
  go_wp2
  go_loopw [5, 1] (fun i q' wr => ∃ k : Nat, k ≤ n ∧ i = .int .i64 k ∧ q' = .int .i64 (q + (cntU shBank x k : Nat)) ∧ OwnK wr shBank g n n (mkU shBank x q k) S B ∧ TurnS S w wr) (fun i _ _ => n - (intOf i).toNat)
  case atStart => exact ⟨0, Nat.zero_le _, rfl, by simp [cntU], by rw [mkU_zero]; exact HI.out, TurnS.refl _ _⟩
  case round =>
    obtain ⟨k, hk, rfl, rfl, hO, ht⟩ := hrel
    clear HI
    by_cases hlt : k < n
    · have hlx : k < x.length := by have := HN.out; omega
      have hlt' : (k : Int) < (n : Int) := by omega
      obtain ⟨y, hy⟩ : ∃ y, y = q + (cntU shBank x k : Nat) := ⟨_, rfl⟩
      rw [← hy]
      have hcs := cntU_succ shBank x k hlx
      have hcl := cntU_le shBank x (k + 1)
      have HYE : Hid (y = q + (cntU shBank x k : Nat) ∧ cntU shBank x (k + 1) = cntU shBank x k + cntD shBank x[k]) := ⟨hy, hcs⟩
      have hce : y + (cntD shBank x[k] : Nat) ≤ 8796000000000 := by have := HZ.out.2; omega
      have hy0 : 0 < y := by omega
      clear hcs hcl hy
      obtain ⟨ec, hel, hec, hoe⟩ := hO.2.2.2.2.2 k (by rw [mkU_len]; exact hlx) hlt
      rw [mkU_at _ _ _ _ hlx] at hoe
      obtain hev := own_Bank (x0 := x[k].1) (x1 := x[k].2.1) (x2 := x[k].2.2.1) hoe
      subst hev
      have hcE : cntD shBank x[k] = (1 + (1 + (1 + 0))) := rfl
      have hce2 : y + 3 ≤ 8796000000000 := by omega
      clear hcE
      have HW : Hid (OwnK wr shBank g n n (mkU shBank x q k) S B ∧ TurnS S w wr) := ⟨hO, ht⟩
      have P0 : Hid (∀ vs, PartD wr wr g n 3 k 0 vs (B k)) := fun vs => PartD.start hO.2.2.2.2.1 hO.1
      have hgz := hO.1
      clear hec hel hO ht hoe hce
      have hrm : Room wr g (n * 3) := (P0.out []).2.1
      obtain ⟨⟨e0, r0⟩, f0⟩ := hrm (k * 3) (by omega)
      obtain ⟨⟨e1, r1⟩, f1⟩ := hrm (k * 3 + 1) (by omega)
      obtain ⟨⟨e2, r2⟩, f2⟩ := hrm (k * 3 + 2) (by omega)
      have HF : Hid (OwnK (((wr.setCell ⟨g, k * 3, none⟩ (.int .i64 (y))).setCell ⟨g, k * 3 + 1, none⟩ (.bool ((y + 1) % 3 == 0))).setCell ⟨g, k * 3 + 2, none⟩ (.int .i64 (y + 1 + 1))) shBank g n n (mkU shBank x q (k + 1)) S B ∧ TurnS S w (((wr.setCell ⟨g, k * 3, none⟩ (.int .i64 (y))).setCell ⟨g, k * 3 + 1, none⟩ (.bool ((y + 1) % 3 == 0))).setCell ⟨g, k * 3 + 2, none⟩ (.int .i64 (y + 1 + 1)))) := by
        have hP : PartD wr (((wr.setCell ⟨g, k * 3, none⟩ (.int .i64 (y))).setCell ⟨g, k * 3 + 1, none⟩ (.bool ((y + 1) % 3 == 0))).setCell ⟨g, k * 3 + 2, none⟩ (.int .i64 (y + 1 + 1))) g n 3 k 3 [.int .i64 (y), .bool ((y + 1) % 3 == 0), .int .i64 (y + 1 + 1)] (B k) := ((((P0.out [.int .i64 (y), .bool ((y + 1) % 3 == 0), .int .i64 (y + 1 + 1)]).set (v := .int .i64 (y)) hlt (by omega) rfl).set (v := .bool ((y + 1) % 3 == 0)) hlt (by omega) rfl).set (v := .int .i64 (y + 1 + 1)) hlt (by omega) rfl)
        have hd := PartD.done (e := shBank) (l := mkU shBank x q k) (y := mkD shBank x[k] y) hP HW.out.1 hlt rfl (by have hq : mkD shBank x[k] y = ((y), ((y + 1) % 3 == 0), (y + 1 + 1), ()) := mkeq_Bank x[k].1 x[k].2.1 x[k].2.2.1 y; rw [hq]; exact mkown_Bank)
        have hms := mkU_set shBank x q k hlx
        rw [← HYE.out.1] at hms
        rw [hms] at hd
        exact ⟨hd.1, HW.out.2.trans hd.2⟩
      have HQ : Hid (y + 1 + 1 + 1 = q + (cntU shBank x (k + 1) : Nat)) := Hid.intro (by have h1 := HYE.out; have h2 : cntD shBank x[k] = (1 + (1 + (1 + 0))) := rfl; omega)
      clear P0 HW
      go_wp2
      go_roundw
      case rel => exact ⟨k + 1, by omega, by go_num, by rw [← HQ.out], HF.out⟩
      case measure => simp [intOf]; omega
    · have hkn : k = n := by omega
      subst hkn
      have HP : Hid (MkP (.list shBank) [.slice (some ⟨g, 0, none⟩) k cap] (mkD (.list shBank) x q) (q + (cntD (.list shBank) x : Nat)) S w (.returned (.int .i64 (q + (cntU shBank x k : Nat)))) wr) := by
        have e := HN.out
        subst e
        refine ⟨by rw [cntU_all], ?_, ht⟩
        rw [mkU_all] at hO
        have hO' : OwnK wr shBank g (mkD (.list shBank) x q).length (mkD (.list shBank) x q).length (mkD (.list shBank) x q) S B := by rw [mkD_len]; exact hO
        have := hO'.list (cap := cap) (by rw [mkD_len]; exact HCP.out.1) HCP.out.2
        rwa [mkD_len] at this
      clear hO ht
      go_wp2
      go_ret
      exact HP.out
set_option maxRecDepth 100000 in
set_option maxHeartbeats 4000000 in
theorem markWayS_n (a : Option Addr) (cap : Nat) (x : List (Sh.T shWay)) (q : Int) (S : Nat → Prop) (w : World) (h0 : 0 < q) (h1 : q + (cntD (.list shWay) x : Nat) ≤ 8796000000000) (hz : szD (.list shWay) x ≤ 1073741824) (h : Own w (.list shWay) [.slice a x.length cap] x S) :
    Calls Try.prog 68 #[.slice a x.length cap, .int .i64 q] w (MkP (.list shWay) [.slice a x.length cap] (mkD (.list shWay) x q) (q + (cntD (.list shWay) x : Nat)) S w) := by
  have hn : x.length ≤ 1073741824 := by simp only [szD] at hz; omega
  rcases own_list h with ⟨hx, _⟩ | ⟨g, cap', B, hcs, hcap, hO⟩
  · subst hx
    have HO : Hid (Own w (.list shWay) [.slice a 0 cap] [] S) := h
    clear h hz hn
    go_enter Try.func68, Try.ntmps68
    go_wp2
    go_loopw [5, 1] (fun i q' wr => i = .int .i64 0 ∧ q' = .int .i64 q ∧ wr = w) (fun _ _ _ => 0)
    case atStart => exact ⟨rfl, rfl, rfl⟩
    case round =>
      obtain ⟨rfl, rfl, rfl⟩ := hrel
      go_wp2
      go_ret
      exact ⟨by simp [cntD], HO.out, TurnS.refl _ _⟩
  simp only [List.cons.injEq, Value.slice.injEq, and_true] at hcs
  obtain ⟨rfl, _, rfl⟩ := hcs
  have HZ : Hid (szD (.list shWay) x ≤ 1073741824 ∧ q + (cntD (.list shWay) x : Nat) ≤ 8796000000000) := ⟨hz, h1⟩
  have HI : Hid (OwnK w shWay g x.length x.length x S B) := hO
  have hc1 : q ≤ 8796000000000 := by omega
  have HCP : Hid (x.length ≤ cap ∧ cap ≤ maxLen) := hcap
  clear h hz hO h1 hcap
  obtain ⟨n, hnn⟩ : ∃ n, n = x.length := ⟨_, rfl⟩
  have HN : Hid (n = x.length) := hnn
  rw [← hnn] at hn HI ⊢
  clear hnn
  go_enter Try.func68, Try.ntmps68
  go_wp2
  go_loopw [5, 1] (fun i q' wr => ∃ k : Nat, k ≤ n ∧ i = .int .i64 k ∧ q' = .int .i64 (q + (cntU shWay x k : Nat)) ∧ OwnK wr shWay g n n (mkU shWay x q k) S B ∧ TurnS S w wr) (fun i _ _ => n - (intOf i).toNat)
  case atStart => exact ⟨0, Nat.zero_le _, rfl, by simp [cntU], by rw [mkU_zero]; exact HI.out, TurnS.refl _ _⟩
  case round =>
    obtain ⟨k, hk, rfl, rfl, hO, ht⟩ := hrel
    clear HI
    by_cases hlt : k < n
    · have hlx : k < x.length := by have := HN.out; omega
      have hlt' : (k : Int) < (n : Int) := by omega
      obtain ⟨y, hy⟩ : ∃ y, y = q + (cntU shWay x k : Nat) := ⟨_, rfl⟩
      rw [← hy]
      have hcs := cntU_succ shWay x k hlx
      have hcl := cntU_le shWay x (k + 1)
      have HYE : Hid (y = q + (cntU shWay x k : Nat) ∧ cntU shWay x (k + 1) = cntU shWay x k + cntD shWay x[k]) := ⟨hy, hcs⟩
      have hce : y + (cntD shWay x[k] : Nat) ≤ 8796000000000 := by have := HZ.out.2; omega
      have hy0 : 0 < y := by omega
      clear hcs hcl hy
      obtain ⟨ec, hel, hec, hoe⟩ := hO.2.2.2.2.2 k (by rw [mkU_len]; exact hlx) hlt
      rw [mkU_at _ _ _ _ hlx] at hoe
      obtain ⟨a1, k1, S1, a2, k2, S2, hev, o1, o2, s1, s2, d1_2⟩ := own_Way (x0 := x[k].1) (x1 := x[k].2.1) (x2 := x[k].2.2.1) (x3 := x[k].2.2.2.1) (x4 := x[k].2.2.2.2.1) hoe
      subst hev
      have hcE : cntD shWay x[k] = (1 + (1 + (cntD (.list shParcel) x[k].2.2.1 + (1 + (cntD (.list .int) x[k].2.2.2.2.1 + 0))))) := rfl
      have HC1 : Hid (szD (.list shParcel) x[k].2.2.1 ≤ 1073741824) := Hid.intro (by have h1 := sz_mem (List.getElem_mem hlx); have h2 := HZ.out.1; have h3 : szD shWay x[k] = (0 + (0 + (szD (.list shParcel) x[k].2.2.1 + (0 + (szD (.list .int) x[k].2.2.2.2.1 + 0))))) := rfl; omega)
      have HC2 : Hid (szD (.list .int) x[k].2.2.2.2.1 ≤ 1073741824) := Hid.intro (by have h1 := sz_mem (List.getElem_mem hlx); have h2 := HZ.out.1; have h3 : szD shWay x[k] = (0 + (0 + (szD (.list shParcel) x[k].2.2.1 + (0 + (szD (.list .int) x[k].2.2.2.2.1 + 0))))) := rfl; omega)
      obtain ⟨c1, hc1⟩ : ∃ y, y = cntD (.list shParcel) x[k].2.2.1 := ⟨_, rfl⟩
      obtain ⟨c2, hc2⟩ : ∃ y, y = cntD (.list .int) x[k].2.2.2.2.1 := ⟨_, rfl⟩
      rw [← hc1, ← hc2] at hcE
      have HK1 : Hid (c1 = cntD (.list shParcel) x[k].2.2.1) := hc1
      clear hc1
      have HK2 : Hid (c2 = cntD (.list .int) x[k].2.2.2.2.1) := hc2
      clear hc2
      have hce2 : y + 3 + (c1 : Int) + (c2 : Int) ≤ 8796000000000 := by omega
      clear hcE
      have hg1 : ¬ S1 g := fun q => (hO.2.2.1 k hlt g (s1 g q)).2 rfl
      have O1 : Hid (Own wr (.list shParcel) [.slice a1 x[k].2.2.1.length k1] x[k].2.2.1 S1) := o1
      have w1c : wr.cell? ⟨g, k * 5 + 2, none⟩ = some (.slice a1 x[k].2.2.1.length k1) := hec 2 (by simp)
      clear o1
      have hg2 : ¬ S2 g := fun q => (hO.2.2.1 k hlt g (s2 g q)).2 rfl
      have O2 : Hid (Own wr (.list .int) [.slice a2 x[k].2.2.2.2.1.length k2] x[k].2.2.2.2.1 S2) := o2
      have w2c : wr.cell? ⟨g, k * 5 + 4, none⟩ = some (.slice a2 x[k].2.2.2.2.1.length k2) := hec 4 (by simp)
      clear o2
      have HW : Hid (OwnK wr shWay g n n (mkU shWay x q k) S B ∧ TurnS S w wr) := ⟨hO, ht⟩
      have P0 : Hid (∀ vs, PartD wr wr g n 5 k 0 vs (B k)) := fun vs => PartD.start hO.2.2.2.2.1 hO.1
      have hgz := hO.1
      clear hec hel hO ht hoe hce
      have hrm : Room wr g (n * 5) := (P0.out []).2.1
      obtain ⟨⟨e0, r0⟩, f0⟩ := hrm (k * 5) (by omega)
      obtain ⟨⟨e1, r1⟩, f1⟩ := hrm (k * 5 + 1) (by omega)
      have Q1 : Hid (∀ vs : List Value, vs[0]? = some (.int .i64 (y)) → vs[1]? = some (.int .i64 (y + 1)) → PartD wr ((wr.setCell ⟨g, k * 5, none⟩ (.int .i64 (y))).setCell ⟨g, k * 5 + 1, none⟩ (.int .i64 (y + 1))) g n 5 k 2 vs (B k)) := fun vs h0 h1 => (((P0.out vs).set (v := .int .i64 (y)) hlt (by omega) h0).set (v := .int .i64 (y + 1)) hlt (by omega) h1)
      have O1 : Hid (Own ((wr.setCell ⟨g, k * 5, none⟩ (.int .i64 (y))).setCell ⟨g, k * 5 + 1, none⟩ (.int .i64 (y + 1))) (.list shParcel) [.slice a1 x[k].2.2.1.length k1] x[k].2.2.1 S1) := ((O1.out.set (p := ⟨g, k * 5, none⟩) hg1 (.int .i64 (y))).set (p := ⟨g, k * 5 + 1, none⟩) hg1 (.int .i64 (y + 1)))
      have O2 : Hid (Own ((wr.setCell ⟨g, k * 5, none⟩ (.int .i64 (y))).setCell ⟨g, k * 5 + 1, none⟩ (.int .i64 (y + 1))) (.list .int) [.slice a2 x[k].2.2.2.2.1.length k2] x[k].2.2.2.2.1 S2) := ((O2.out.set (p := ⟨g, k * 5, none⟩) hg2 (.int .i64 (y))).set (p := ⟨g, k * 5 + 1, none⟩) hg2 (.int .i64 (y + 1)))
      clear P0
      have u1c := (Q1.out [.int .i64 (y), .int .i64 (y + 1), .bool false, .bool false, .bool false] rfl rfl).old (Nat.le_refl _) w1c
      have ugz := (Q1.out [.int .i64 (y), .int .i64 (y + 1), .bool false, .bool false, .bool false] rfl rfl).2.2.2.2
      go_wp2_with fail
      refine (markParcelS_n _ _ _ _ S1 _ (by omega) (by rw [← HK1.out]; omega) HC1.out O1.out).mono ?_
      rintro r w1 ⟨hr, ho, hb⟩
      rw [← HK1.out] at hr
      obtain ⟨z1, hz1⟩ : ∃ zz, zz = y + 1 + 1 + (c1 : Int) := ⟨_, rfl⟩
      rw [← hz1] at hr
      subst hr
      have HZ1 : Hid (z1 = y + 1 + 1 + (c1 : Int)) := hz1
      have hzb1 : 0 < z1 ∧ z1 + 1 + (c2 : Int) ≤ 8796000000000 := by omega
      clear hz1
      have P1 : Hid (∀ vs : List Value, vs[0]? = some (.int .i64 (y)) → vs[1]? = some (.int .i64 (y + 1)) → vs[2]? = some (.slice a1 x[k].2.2.1.length k1) → PartD wr w1 g n 5 k 3 vs (B k)) := fun vs h0 h1 h2 => ((Q1.out vs h0 h1).turn hb s1 hg1).skip (w1c.trans h2.symm)
      have O1 : Hid (Own w1 (.list shParcel) [.slice a1 x[k].2.2.1.length k1] (mkD (.list shParcel) x[k].2.2.1 (y + 1 + 1)) S1) := ho
      have O2 : Hid (Own w1 (.list .int) [.slice a2 x[k].2.2.2.2.1.length k2] x[k].2.2.2.2.1 S2) := O2.out.turn hb (fun k e f => d1_2 k f e)
      clear ho u1c ugz
      clear hb Q1 hrm r0 f0 r1 f1
      have hrm : Room w1 g (n * 5) := (P1.out [.int .i64 (y), .int .i64 (y + 1), .slice a1 x[k].2.2.1.length k1, .bool false, .bool false] rfl rfl rfl).2.1
      have hgz1 := (P1.out [.int .i64 (y), .int .i64 (y + 1), .slice a1 x[k].2.2.1.length k1, .bool false, .bool false] rfl rfl rfl).2.2.2.2
      obtain ⟨⟨e3, r3⟩, f3⟩ := hrm (k * 5 + 3) (by omega)
      have Q2 : Hid (∀ vs : List Value, vs[0]? = some (.int .i64 (y)) → vs[1]? = some (.int .i64 (y + 1)) → vs[2]? = some (.slice a1 x[k].2.2.1.length k1) → vs[3]? = some (.bool ((z1) % 3 == 0)) → PartD wr (w1.setCell ⟨g, k * 5 + 3, none⟩ (.bool ((z1) % 3 == 0))) g n 5 k 4 vs (B k)) := fun vs h0 h1 h2 h3 => ((P1.out vs h0 h1 h2).set (v := .bool ((z1) % 3 == 0)) hlt (by omega) h3)
      have O1 : Hid (Own (w1.setCell ⟨g, k * 5 + 3, none⟩ (.bool ((z1) % 3 == 0))) (.list shParcel) [.slice a1 x[k].2.2.1.length k1] (mkD (.list shParcel) x[k].2.2.1 (y + 1 + 1)) S1) := (O1.out.set (p := ⟨g, k * 5 + 3, none⟩) hg1 (.bool ((z1) % 3 == 0)))
      have O2 : Hid (Own (w1.setCell ⟨g, k * 5 + 3, none⟩ (.bool ((z1) % 3 == 0))) (.list .int) [.slice a2 x[k].2.2.2.2.1.length k2] x[k].2.2.2.2.1 S2) := (O2.out.set (p := ⟨g, k * 5 + 3, none⟩) hg2 (.bool ((z1) % 3 == 0)))
      clear P1
      have u2c := (Q2.out [.int .i64 (y), .int .i64 (y + 1), .slice a1 x[k].2.2.1.length k1, .bool ((z1) % 3 == 0), .bool false] rfl rfl rfl rfl).old (Nat.le_refl _) w2c
      have ugz := (Q2.out [.int .i64 (y), .int .i64 (y + 1), .slice a1 x[k].2.2.1.length k1, .bool ((z1) % 3 == 0), .bool false] rfl rfl rfl rfl).2.2.2.2
      go_wp2_with fail
      refine (markIntS_n _ _ _ _ S2 _ (by omega) (by rw [← HK2.out]; omega) HC2.out O2.out).mono ?_
      rintro r w2 ⟨hr, ho, hb⟩
      rw [← HK2.out] at hr
      obtain ⟨z2, hz2⟩ : ∃ zz, zz = z1 + 1 + (c2 : Int) := ⟨_, rfl⟩
      rw [← hz2] at hr
      subst hr
      have HZ2 : Hid (z2 = z1 + 1 + (c2 : Int)) := hz2
      have hzb2 : 0 < z2 ∧ z2 + 0 ≤ 8796000000000 := by omega
      clear hz2
      have P2 : Hid (∀ vs : List Value, vs[0]? = some (.int .i64 (y)) → vs[1]? = some (.int .i64 (y + 1)) → vs[2]? = some (.slice a1 x[k].2.2.1.length k1) → vs[3]? = some (.bool ((z1) % 3 == 0)) → vs[4]? = some (.slice a2 x[k].2.2.2.2.1.length k2) → PartD wr w2 g n 5 k 5 vs (B k)) := fun vs h0 h1 h2 h3 h4 => ((Q2.out vs h0 h1 h2 h3).turn hb s2 hg2).skip (w2c.trans h4.symm)
      have O1 : Hid (Own w2 (.list shParcel) [.slice a1 x[k].2.2.1.length k1] (mkD (.list shParcel) x[k].2.2.1 (y + 1 + 1)) S1) := O1.out.turn hb d1_2
      have O2 : Hid (Own w2 (.list .int) [.slice a2 x[k].2.2.2.2.1.length k2] (mkD (.list .int) x[k].2.2.2.2.1 (z1 + 1)) S2) := ho
      clear ho u2c ugz
      clear hb Q2 hrm r3 f3
      have hrm : Room w2 g (n * 5) := (P2.out [.int .i64 (y), .int .i64 (y + 1), .slice a1 x[k].2.2.1.length k1, .bool ((z1) % 3 == 0), .slice a2 x[k].2.2.2.2.1.length k2] rfl rfl rfl rfl rfl).2.1
      have hgz2 := (P2.out [.int .i64 (y), .int .i64 (y + 1), .slice a1 x[k].2.2.1.length k1, .bool ((z1) % 3 == 0), .slice a2 x[k].2.2.2.2.1.length k2] rfl rfl rfl rfl rfl).2.2.2.2
      have O1 : Hid (Own w2 (.list shParcel) [.slice a1 x[k].2.2.1.length k1] (mkD (.list shParcel) x[k].2.2.1 (y + 1 + 1)) S1) := O1.out
      have O2 : Hid (Own w2 (.list .int) [.slice a2 x[k].2.2.2.2.1.length k2] (mkD (.list .int) x[k].2.2.2.2.1 (z1 + 1)) S2) := O2.out
      have HF : Hid (OwnK w2 shWay g n n (mkU shWay x q (k + 1)) S B ∧ TurnS S w w2) := by
        have hP : PartD wr w2 g n 5 k 5 [.int .i64 (y), .int .i64 (y + 1), .slice a1 x[k].2.2.1.length k1, .bool ((z1) % 3 == 0), .slice a2 x[k].2.2.2.2.1.length k2] (B k) := (P2.out [.int .i64 (y), .int .i64 (y + 1), .slice a1 x[k].2.2.1.length k1, .bool ((z1) % 3 == 0), .slice a2 x[k].2.2.2.2.1.length k2] rfl rfl rfl rfl rfl)
        have hd := PartD.done (e := shWay) (l := mkU shWay x q k) (y := mkD shWay x[k] y) hP HW.out.1 hlt rfl (by have hq : mkD shWay x[k] y = ((y), (y + 1), mkD (.list shParcel) x[k].2.2.1 (y + 1 + 1), ((z1) % 3 == 0), mkD (.list .int) x[k].2.2.2.2.1 (z1 + 1), ()) := mkeq_Way x[k].1 x[k].2.1 x[k].2.2.1 x[k].2.2.2.1 x[k].2.2.2.2.1 y z1 z2 (by rw [← HK1.out]; exact HZ1.out) (by rw [← HK2.out]; exact HZ2.out); rw [hq]; exact mkown_Way O1.out O2.out s1 s2 d1_2)
        have hms := mkU_set shWay x q k hlx
        rw [← HYE.out.1] at hms
        rw [hms] at hd
        exact ⟨hd.1, HW.out.2.trans hd.2⟩
      have HQ : Hid (z2 = q + (cntU shWay x (k + 1) : Nat)) := Hid.intro (by have h1 := HYE.out; have h2 : cntD shWay x[k] = (1 + (1 + (cntD (.list shParcel) x[k].2.2.1 + (1 + (cntD (.list .int) x[k].2.2.2.2.1 + 0))))) := rfl; have := HK1.out; have := HZ1.out; have := HK2.out; have := HZ2.out; omega)
      clear P2 HW O1 O2
      go_wp2
      go_roundw
      case rel => exact ⟨k + 1, by omega, by go_num, by rw [← HQ.out], HF.out⟩
      case measure => simp [intOf]; omega
    · have hkn : k = n := by omega
      subst hkn
      have HP : Hid (MkP (.list shWay) [.slice (some ⟨g, 0, none⟩) k cap] (mkD (.list shWay) x q) (q + (cntD (.list shWay) x : Nat)) S w (.returned (.int .i64 (q + (cntU shWay x k : Nat)))) wr) := by
        have e := HN.out
        subst e
        refine ⟨by rw [cntU_all], ?_, ht⟩
        rw [mkU_all] at hO
        have hO' : OwnK wr shWay g (mkD (.list shWay) x q).length (mkD (.list shWay) x q).length (mkD (.list shWay) x q) S B := by rw [mkD_len]; exact hO
        have := hO'.list (cap := cap) (by rw [mkD_len]; exact HCP.out.1) HCP.out.2
        rwa [mkD_len] at this
      clear hO ht
      go_wp2
      go_ret
      exact HP.out
set_option maxRecDepth 100000 in
set_option maxHeartbeats 4000000 in
theorem markBoolS_n (a : Option Addr) (cap : Nat) (x : List (Sh.T .bool)) (q : Int) (S : Nat → Prop) (w : World) (h0 : 0 < q) (h1 : q + (cntD (.list .bool) x : Nat) ≤ 8796000000000) (hz : szD (.list .bool) x ≤ 1073741824) (h : Own w (.list .bool) [.slice a x.length cap] x S) :
    Calls Try.prog 43 #[.slice a x.length cap, .int .i64 q] w (MkP (.list .bool) [.slice a x.length cap] (mkD (.list .bool) x q) (q + (cntD (.list .bool) x : Nat)) S w) := by
  have hn : x.length ≤ 1073741824 := by simp only [szD] at hz; omega
  rcases own_list h with ⟨hx, _⟩ | ⟨g, cap', B, hcs, hcap, hO⟩
  · subst hx
    have HO : Hid (Own w (.list .bool) [.slice a 0 cap] [] S) := h
    clear h hz hn
    go_enter Try.func43, Try.ntmps43
    go_wp2
    go_loopw [5, 1] (fun i q' wr => i = .int .i64 0 ∧ q' = .int .i64 q ∧ wr = w) (fun _ _ _ => 0)
    case atStart => exact ⟨rfl, rfl, rfl⟩
    case round =>
      obtain ⟨rfl, rfl, rfl⟩ := hrel
      go_wp2
      go_ret
      exact ⟨by simp [cntD], HO.out, TurnS.refl _ _⟩
  simp only [List.cons.injEq, Value.slice.injEq, and_true] at hcs
  obtain ⟨rfl, _, rfl⟩ := hcs
  have HZ : Hid (szD (.list .bool) x ≤ 1073741824 ∧ q + (cntD (.list .bool) x : Nat) ≤ 8796000000000) := ⟨hz, h1⟩
  have HI : Hid (OwnK w .bool g x.length x.length x S B) := hO
  have hc1 : q ≤ 8796000000000 := by omega
  have HCP : Hid (x.length ≤ cap ∧ cap ≤ maxLen) := hcap
  clear h hz hO h1 hcap
  obtain ⟨n, hnn⟩ : ∃ n, n = x.length := ⟨_, rfl⟩
  have HN : Hid (n = x.length) := hnn
  rw [← hnn] at hn HI ⊢
  clear hnn
  go_enter Try.func43, Try.ntmps43
  go_wp2
  go_loopw [5, 1] (fun i q' wr => ∃ k : Nat, k ≤ n ∧ i = .int .i64 k ∧ q' = .int .i64 (q + (cntU .bool x k : Nat)) ∧ OwnK wr .bool g n n (mkU .bool x q k) S B ∧ TurnS S w wr) (fun i _ _ => n - (intOf i).toNat)
  case atStart => exact ⟨0, Nat.zero_le _, rfl, by simp [cntU], by rw [mkU_zero]; exact HI.out, TurnS.refl _ _⟩
  case round =>
    obtain ⟨k, hk, rfl, rfl, hO, ht⟩ := hrel
    clear HI
    by_cases hlt : k < n
    · have hlx : k < x.length := by have := HN.out; omega
      have hlt' : (k : Int) < (n : Int) := by omega
      obtain ⟨y, hy⟩ : ∃ y, y = q + (cntU .bool x k : Nat) := ⟨_, rfl⟩
      rw [← hy]
      have hcs := cntU_succ .bool x k hlx
      have hcl := cntU_le .bool x (k + 1)
      have HYE : Hid (y = q + (cntU .bool x k : Nat) ∧ cntU .bool x (k + 1) = cntU .bool x k + cntD .bool x[k]) := ⟨hy, hcs⟩
      have hce : y + (cntD .bool x[k] : Nat) ≤ 8796000000000 := by have := HZ.out.2; omega
      have hy0 : 0 < y := by omega
      clear hcs hcl hy
      obtain ⟨ec, hel, hec, hoe⟩ := hO.2.2.2.2.2 k (by rw [mkU_len]; exact hlx) hlt
      rw [mkU_at _ _ _ _ hlx] at hoe
      have hev : ec = [.bool x[k]] := hoe
      subst hev
      have hce2 : y + 1 ≤ 8796000000000 := by have : cntD .bool x[k] = 1 := rfl; omega
      have HW : Hid (OwnK wr .bool g n n (mkU .bool x q k) S B ∧ TurnS S w wr) := ⟨hO, ht⟩
      have P0 : Hid (∀ vs, PartD wr wr g n 1 k 0 vs (B k)) := fun vs => PartD.start hO.2.2.2.2.1 hO.1
      have hgz := hO.1
      clear hec hel hO ht hoe
      have hrm : Room wr g (n * 1) := (P0.out []).2.1
      obtain ⟨⟨e0, r0⟩, f0⟩ := hrm k (by omega)
      have HF : Hid (OwnK (wr.setCell ⟨g, k, none⟩ (.bool ((y) % 3 == 0))) .bool g n n (mkU .bool x q (k + 1)) S B ∧ TurnS S w (wr.setCell ⟨g, k, none⟩ (.bool ((y) % 3 == 0)))) := by
        have hP : PartD wr (wr.setCell ⟨g, k, none⟩ (.bool ((y) % 3 == 0))) g n 1 k 1 [.bool ((y) % 3 == 0)] (B k) := (by have := ((P0.out [.bool ((y) % 3 == 0)]).set (v := .bool ((y) % 3 == 0)) hlt (by omega) rfl); simpa using this)
        have hd := PartD.done (e := .bool) (l := mkU .bool x q k) (y := mkD .bool x[k] y) hP HW.out.1 hlt rfl rfl
        have hms := mkU_set .bool x q k hlx
        rw [← HYE.out.1] at hms
        rw [hms] at hd
        exact ⟨hd.1, HW.out.2.trans hd.2⟩
      have HQ : Hid (y + 1 = q + (cntU .bool x (k + 1) : Nat)) := Hid.intro (by have h1 := HYE.out; have h2 : cntD .bool x[k] = 1 := rfl; omega)
      clear P0 HW
      go_wp2
      go_roundw
      case rel => exact ⟨k + 1, by omega, by go_num, by rw [← HQ.out], HF.out⟩
      case measure => simp [intOf]; omega
    · have hkn : k = n := by omega
      subst hkn
      have HP : Hid (MkP (.list .bool) [.slice (some ⟨g, 0, none⟩) k cap] (mkD (.list .bool) x q) (q + (cntD (.list .bool) x : Nat)) S w (.returned (.int .i64 (q + (cntU .bool x k : Nat)))) wr) := by
        have e := HN.out
        subst e
        refine ⟨by rw [cntU_all], ?_, ht⟩
        rw [mkU_all] at hO
        have hO' : OwnK wr .bool g (mkD (.list .bool) x q).length (mkD (.list .bool) x q).length (mkD (.list .bool) x q) S B := by rw [mkD_len]; exact hO
        have := hO'.list (cap := cap) (by rw [mkD_len]; exact HCP.out.1) HCP.out.2
        rwa [mkD_len] at this
      clear hO ht
      go_wp2
      go_ret
      exact HP.out
set_option maxRecDepth 100000 in
set_option maxHeartbeats 4000000 in
theorem markBankStepS_n (a : Option Addr) (cap : Nat) (x : List (Sh.T shBankStep)) (q : Int) (S : Nat → Prop) (w : World) (h0 : 0 < q) (h1 : q + (cntD (.list shBankStep) x : Nat) ≤ 8796000000000) (hz : szD (.list shBankStep) x ≤ 1073741824) (h : Own w (.list shBankStep) [.slice a x.length cap] x S) :
    Calls Try.prog 42 #[.slice a x.length cap, .int .i64 q] w (MkP (.list shBankStep) [.slice a x.length cap] (mkD (.list shBankStep) x q) (q + (cntD (.list shBankStep) x : Nat)) S w) := by
  have hn : x.length ≤ 1073741824 := by simp only [szD] at hz; omega
  rcases own_list h with ⟨hx, _⟩ | ⟨g, cap', B, hcs, hcap, hO⟩
  · subst hx
    have HO : Hid (Own w (.list shBankStep) [.slice a 0 cap] [] S) := h
    clear h hz hn
    go_enter Try.func42, Try.ntmps42
    go_wp2
    go_loopw [5, 1] (fun i q' wr => i = .int .i64 0 ∧ q' = .int .i64 q ∧ wr = w) (fun _ _ _ => 0)
    case atStart => exact ⟨rfl, rfl, rfl⟩
    case round =>
      obtain ⟨rfl, rfl, rfl⟩ := hrel
      go_wp2
      go_ret
      exact ⟨by simp [cntD], HO.out, TurnS.refl _ _⟩
  simp only [List.cons.injEq, Value.slice.injEq, and_true] at hcs
  obtain ⟨rfl, _, rfl⟩ := hcs
  have HZ : Hid (szD (.list shBankStep) x ≤ 1073741824 ∧ q + (cntD (.list shBankStep) x : Nat) ≤ 8796000000000) := ⟨hz, h1⟩
  have HI : Hid (OwnK w shBankStep g x.length x.length x S B) := hO
  have hc1 : q ≤ 8796000000000 := by omega
  have HCP : Hid (x.length ≤ cap ∧ cap ≤ maxLen) := hcap
  clear h hz hO h1 hcap
  obtain ⟨n, hnn⟩ : ∃ n, n = x.length := ⟨_, rfl⟩
  have HN : Hid (n = x.length) := hnn
  rw [← hnn] at hn HI ⊢
  clear hnn
  go_enter Try.func42, Try.ntmps42
  go_wp2
  go_loopw [5, 1] (fun i q' wr => ∃ k : Nat, k ≤ n ∧ i = .int .i64 k ∧ q' = .int .i64 (q + (cntU shBankStep x k : Nat)) ∧ OwnK wr shBankStep g n n (mkU shBankStep x q k) S B ∧ TurnS S w wr) (fun i _ _ => n - (intOf i).toNat)
  case atStart => exact ⟨0, Nat.zero_le _, rfl, by simp [cntU], by rw [mkU_zero]; exact HI.out, TurnS.refl _ _⟩
  case round =>
    obtain ⟨k, hk, rfl, rfl, hO, ht⟩ := hrel
    clear HI
    by_cases hlt : k < n
    · have hlx : k < x.length := by have := HN.out; omega
      have hlt' : (k : Int) < (n : Int) := by omega
      obtain ⟨y, hy⟩ : ∃ y, y = q + (cntU shBankStep x k : Nat) := ⟨_, rfl⟩
      rw [← hy]
      have hcs := cntU_succ shBankStep x k hlx
      have hcl := cntU_le shBankStep x (k + 1)
      have HYE : Hid (y = q + (cntU shBankStep x k : Nat) ∧ cntU shBankStep x (k + 1) = cntU shBankStep x k + cntD shBankStep x[k]) := ⟨hy, hcs⟩
      have hce : y + (cntD shBankStep x[k] : Nat) ≤ 8796000000000 := by have := HZ.out.2; omega
      have hy0 : 0 < y := by omega
      clear hcs hcl hy
      obtain ⟨ec, hel, hec, hoe⟩ := hO.2.2.2.2.2 k (by rw [mkU_len]; exact hlx) hlt
      rw [mkU_at _ _ _ _ hlx] at hoe
      obtain hev := own_BankStep (x0 := x[k].1) (x1 := x[k].2.1) (x2 := x[k].2.2.1) (x3 := x[k].2.2.2.1) hoe
      subst hev
      have hcE : cntD shBankStep x[k] = (1 + (1 + (1 + (1 + 0)))) := rfl
      have hce2 : y + 4 ≤ 8796000000000 := by omega
      clear hcE
      have HW : Hid (OwnK wr shBankStep g n n (mkU shBankStep x q k) S B ∧ TurnS S w wr) := ⟨hO, ht⟩
      have P0 : Hid (∀ vs, PartD wr wr g n 4 k 0 vs (B k)) := fun vs => PartD.start hO.2.2.2.2.1 hO.1
      have hgz := hO.1
      clear hec hel hO ht hoe hce
      have hrm : Room wr g (n * 4) := (P0.out []).2.1
      obtain ⟨⟨e0, r0⟩, f0⟩ := hrm (k * 4) (by omega)
      obtain ⟨⟨e1, r1⟩, f1⟩ := hrm (k * 4 + 1) (by omega)
      obtain ⟨⟨e2, r2⟩, f2⟩ := hrm (k * 4 + 2) (by omega)
      obtain ⟨⟨e3, r3⟩, f3⟩ := hrm (k * 4 + 3) (by omega)
      have HF : Hid (OwnK ((((wr.setCell ⟨g, k * 4, none⟩ (.int .i64 (y))).setCell ⟨g, k * 4 + 1, none⟩ (.int .i64 (y + 1))).setCell ⟨g, k * 4 + 2, none⟩ (.int .i64 (y + 1 + 1))).setCell ⟨g, k * 4 + 3, none⟩ (.int .i64 (y + 1 + 1 + 1))) shBankStep g n n (mkU shBankStep x q (k + 1)) S B ∧ TurnS S w ((((wr.setCell ⟨g, k * 4, none⟩ (.int .i64 (y))).setCell ⟨g, k * 4 + 1, none⟩ (.int .i64 (y + 1))).setCell ⟨g, k * 4 + 2, none⟩ (.int .i64 (y + 1 + 1))).setCell ⟨g, k * 4 + 3, none⟩ (.int .i64 (y + 1 + 1 + 1)))) := by
        have hP : PartD wr ((((wr.setCell ⟨g, k * 4, none⟩ (.int .i64 (y))).setCell ⟨g, k * 4 + 1, none⟩ (.int .i64 (y + 1))).setCell ⟨g, k * 4 + 2, none⟩ (.int .i64 (y + 1 + 1))).setCell ⟨g, k * 4 + 3, none⟩ (.int .i64 (y + 1 + 1 + 1))) g n 4 k 4 [.int .i64 (y), .int .i64 (y + 1), .int .i64 (y + 1 + 1), .int .i64 (y + 1 + 1 + 1)] (B k) := (((((P0.out [.int .i64 (y), .int .i64 (y + 1), .int .i64 (y + 1 + 1), .int .i64 (y + 1 + 1 + 1)]).set (v := .int .i64 (y)) hlt (by omega) rfl).set (v := .int .i64 (y + 1)) hlt (by omega) rfl).set (v := .int .i64 (y + 1 + 1)) hlt (by omega) rfl).set (v := .int .i64 (y + 1 + 1 + 1)) hlt (by omega) rfl)
        have hd := PartD.done (e := shBankStep) (l := mkU shBankStep x q k) (y := mkD shBankStep x[k] y) hP HW.out.1 hlt rfl (by have hq : mkD shBankStep x[k] y = ((y), (y + 1), (y + 1 + 1), (y + 1 + 1 + 1), ()) := mkeq_BankStep x[k].1 x[k].2.1 x[k].2.2.1 x[k].2.2.2.1 y; rw [hq]; exact mkown_BankStep)
        have hms := mkU_set shBankStep x q k hlx
        rw [← HYE.out.1] at hms
        rw [hms] at hd
        exact ⟨hd.1, HW.out.2.trans hd.2⟩
      have HQ : Hid (y + 1 + 1 + 1 + 1 = q + (cntU shBankStep x (k + 1) : Nat)) := Hid.intro (by have h1 := HYE.out; have h2 : cntD shBankStep x[k] = (1 + (1 + (1 + (1 + 0)))) := rfl; omega)
      clear P0 HW
      go_wp2
      go_roundw
      case rel => exact ⟨k + 1, by omega, by go_num, by rw [← HQ.out], HF.out⟩
      case measure => simp [intOf]; omega
    · have hkn : k = n := by omega
      subst hkn
      have HP : Hid (MkP (.list shBankStep) [.slice (some ⟨g, 0, none⟩) k cap] (mkD (.list shBankStep) x q) (q + (cntD (.list shBankStep) x : Nat)) S w (.returned (.int .i64 (q + (cntU shBankStep x k : Nat)))) wr) := by
        have e := HN.out
        subst e
        refine ⟨by rw [cntU_all], ?_, ht⟩
        rw [mkU_all] at hO
        have hO' : OwnK wr shBankStep g (mkD (.list shBankStep) x q).length (mkD (.list shBankStep) x q).length (mkD (.list shBankStep) x q) S B := by rw [mkD_len]; exact hO
        have := hO'.list (cap := cap) (by rw [mkD_len]; exact HCP.out.1) HCP.out.2
        rwa [mkD_len] at this
      clear hO ht
      go_wp2
      go_ret
      exact HP.out
theorem mkTeq_Net (x0 : List (Sh.T shBank)) (x1 : List (Sh.T shWay)) (q : Int) (z1 : Int) (z2 : Int) (hz1 : z1 = q + (cntD (.list shBank) x0 : Nat)) (hz2 : z2 = z1 + (cntD (.list shWay) x1 : Nat)) : mkT shNet (x0, x1, ()) q = (mkD (.list shBank) x0 q, mkD (.list shWay) x1 z1, ()) := by
  subst hz2 hz1
  simp [shNet, mkT, cntT, Int.add_assoc]
theorem cntTeq_Net (x0 : List (Sh.T shBank)) (x1 : List (Sh.T shWay)) : cntT shNet (x0, x1, ()) = cntD (.list shBank) x0 + cntD (.list shWay) x1 := by
  simp [shNet, cntT]
set_option maxRecDepth 100000 in
set_option maxHeartbeats 4000000 in
theorem markNet_n (cs : List Value) (x0 : List (Sh.T shBank)) (x1 : List (Sh.T shWay)) (q : Int) (S : Nat → Prop) (w : World) (h0 : 0 < q) (h1 : q + (cntT shNet (x0, x1, ()) : Nat) ≤ 8796000000000) (hz : szD shNet (x0, x1, ()) ≤ 1073741824) (hS : ∀ k, S k → k < w.heap.size) (h : Own w shNet cs (x0, x1, ()) S) :
    Calls Try.prog 33 #[.agg cs.toArray, .int .i64 q] w (MkP shNet cs (mkT shNet (x0, x1, ()) q) (q + (cntT shNet (x0, x1, ()) : Nat)) S w) := by
  obtain ⟨a1, k1, S1, a2, k2, S2, hev, o1, o2, s1, s2, d1_2⟩ := own_Net h
  subst hev
  rw [cntTeq_Net] at h1 ⊢
  have HE : Hid (szD shNet (x0, x1, ()) = (szD (.list shBank) x0 + (szD (.list shWay) x1 + 0))) := rfl
  have HZ : Hid (szD shNet (x0, x1, ()) ≤ 1073741824) := hz
  obtain ⟨c1, hc1⟩ : ∃ y, y = cntD (.list shBank) x0 := ⟨_, rfl⟩
  obtain ⟨c2, hc2⟩ : ∃ y, y = cntD (.list shWay) x1 := ⟨_, rfl⟩
  rw [← hc1, ← hc2] at h1 ⊢
  have HK1 : Hid (c1 = cntD (.list shBank) x0) := hc1
  clear hc1
  have HK2 : Hid (c2 = cntD (.list shWay) x1) := hc2
  clear hc2
  have O1 : Hid (Own w (.list shBank) [.slice a1 x0.length k1] x0 S1) := o1
  clear o1
  have O2 : Hid (Own w (.list shWay) [.slice a2 x1.length k2] x1 S2) := o2
  clear o2
  have hSw : Hid (∀ k, S k → k = w.heap.size → False) := fun k h1 h2 => by have := hS k h1; omega
  clear h hz hS
  go_enter Try.func33, Try.ntmps33
  go_wp2_with fail
  obtain ⟨w0, hW⟩ : ∃ x, x = w.alloc (.cells #[.slice a1 x0.length k1, .slice a2 x1.length k2] 30) := ⟨_, rfl⟩
  have hb0 : Below w.heap.size w w0 := hW ▸ Go.Joins.below_alloc1 _ _
  have HB : Hid (Bx w0 w.heap.size [.slice a1 x0.length k1, .slice a2 x1.length k2] ∧ TurnS S w w0 ∧ (∀ k, S k → k < w.heap.size → True)) := ⟨hW ▸ Bx.new w [.slice a1 x0.length k1, .slice a2 x1.length k2] _, TurnS.of_below hb0, fun _ _ _ => trivial⟩
  have O1 : Hid (Own w0 (.list shBank) [.slice a1 x0.length k1] x0 S1) := O1.out.next hb0
  have O2 : Hid (Own w0 (.list shWay) [.slice a2 x1.length k2] x1 S2) := O2.out.next hb0
  rw [← hW]
  clear hW hb0
  refine (markBankS_n _ _ _ _ S1 _ (by omega) (by rw [← HK1.out]; omega) (by have := HZ.out; rw [HE.out] at this; omega) O1.out).mono ?_
  rintro r w1 ⟨hr, ho, hb⟩
  rw [← HK1.out] at hr
  obtain ⟨z1, hz1⟩ : ∃ zz, zz = q + (c1 : Int) := ⟨_, rfl⟩
  rw [← hz1] at hr
  subst hr
  have HZ1 : Hid (z1 = q + (c1 : Int)) := hz1
  have hzb1 : 0 < z1 ∧ z1 + (c2 : Int) ≤ 8796000000000 := by omega
  clear hz1
  have HB : Hid (Bx w1 w.heap.size [.slice a1 x0.length k1, .slice a2 x1.length k2] ∧ TurnS S w w1 ∧ (∀ k, S k → k < w.heap.size → True)) := ⟨HB.out.1.turnS hb (fun q => hSw.out w.heap.size (s1 _ q) rfl), HB.out.2.1.trans (hb.wide s1), fun _ _ _ => trivial⟩
  have O1 : Hid (Own w1 (.list shBank) [.slice a1 x0.length k1] (mkD (.list shBank) x0 q) S1) := ho
  have O2 : Hid (Own w1 (.list shWay) [.slice a2 x1.length k2] x1 S2) := O2.out.turn hb (fun k e f => d1_2 k f e)
  clear ho hb
  have dz := HB.out.1
  have d0 := HB.out.1.cell 0 rfl
  have d1 := HB.out.1.cell 1 rfl
  have dz := HB.out.1.2
  go_wp2_with fail
  clear dz d0 d1
  refine (markWayS_n _ _ _ _ S2 _ (by omega) (by rw [← HK2.out]; omega) (by have := HZ.out; rw [HE.out] at this; omega) O2.out).mono ?_
  rintro r w2 ⟨hr, ho, hb⟩
  rw [← HK2.out] at hr
  obtain ⟨z2, hz2⟩ : ∃ zz, zz = z1 + (c2 : Int) := ⟨_, rfl⟩
  rw [← hz2] at hr
  subst hr
  have HZ2 : Hid (z2 = z1 + (c2 : Int)) := hz2
  have hzb2 : 0 < z2 ∧ z2 ≤ 8796000000000 := by omega
  clear hz2
  have HB : Hid (Bx w2 w.heap.size [.slice a1 x0.length k1, .slice a2 x1.length k2] ∧ TurnS S w w2 ∧ (∀ k, S k → k < w.heap.size → True)) := ⟨HB.out.1.turnS hb (fun q => hSw.out w.heap.size (s2 _ q) rfl), HB.out.2.1.trans (hb.wide s2), fun _ _ _ => trivial⟩
  have O1 : Hid (Own w2 (.list shBank) [.slice a1 x0.length k1] (mkD (.list shBank) x0 q) S1) := O1.out.turn hb d1_2
  have O2 : Hid (Own w2 (.list shWay) [.slice a2 x1.length k2] (mkD (.list shWay) x1 z1) S2) := ho
  clear ho hb
  have d0 := HB.out.1.cell 0 rfl
  have d1 := HB.out.1.cell 1 rfl
  have dz := HB.out.1.2
  go_wp2
  go_ret
  refine ⟨congrArg (fun t => Ending.returned (.int .i64 t)) (by have := HZ1.out; have := HZ2.out; omega), ?_, HB.out.2.1⟩
  rw [mkTeq_Net x0 x1 q z1 z2 (by rw [← HK1.out]; exact HZ1.out) (by rw [← HK2.out]; exact HZ2.out)]
  exact mkown_Net O1.out O2.out s1 s2 d1_2
end Go.Proofs.Ytcklpcdgckkahaa
