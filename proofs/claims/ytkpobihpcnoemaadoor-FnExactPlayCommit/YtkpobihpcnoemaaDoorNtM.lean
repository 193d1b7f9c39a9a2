/- The law's own functions that mark lists. Written by tools/nest.py. -/
import Derived.Test.YtkpobihpcnoemaaDoorGaE
import Derived.Test.YtkpobihpcnoemaaDoorProg
import Derived.Test.YtkpobihpcnoemaaDoorBx
import Derived.WalkKit
import Derived.WalkSpells
import Derived.WalkLawsBesides
import Derived.Test.YtkpobihpcnoemaaDoorGaD
import Derived.Test.YtkpobihpcnoemaaDoorGaF
namespace Go.Proofs.YtkpobihpcnoemaaDoor
open Go.RowKit
set_option linter.unusedVariables false
set_option linter.unusedSimpArgs false

theorem mkeq_Replica (x0 : Bool) (x1 : Int) (y : Int) : mkD shReplica (x0, x1, ()) y = (((y) % 3 == 0), (y + 1), ()) := by
  rfl
theorem mkeq_Shard (x0 : List (Sh.T shReplica)) (y : Int) (z1 : Int) (hz1 : z1 = y + (cntD (.list shReplica) x0 : Nat)) : mkD shShard (x0, ()) y = (mkD (.list shReplica) x0 (y), ()) := by
  subst hz1; rfl
theorem mkeq_CommitStep (x0 : Int) (x1 : Int) (x2 : Int) (y : Int) : mkD shCommitStep (x0, x1, x2, ()) y = ((y), (y + 1), (y + 1 + 1), ()) := by
  rfl
set_option maxRecDepth 100000 in
set_option maxHeartbeats 4000000 in
theorem markIntS_n (a : Option Addr) (cap : Nat) (x : List (Sh.T .int)) (q : Int) (S : Nat → Prop) (w : World) (h0 : 0 < q) (h1 : q + (cntD (.list .int) x : Nat) ≤ 8796000000000) (hz : szD (.list .int) x ≤ 1073741824) (h : Own w (.list .int) [.slice a x.length cap] x S) :
    Calls Tryd.prog 30 #[.slice a x.length cap, .int .i64 q] w (MkP (.list .int) [.slice a x.length cap] (mkD (.list .int) x q) (q + (cntD (.list .int) x : Nat)) S w) := by
  have hn : x.length ≤ 1073741824 := by simp only [szD] at hz; omega
  rcases own_list h with ⟨hx, _⟩ | ⟨g, cap', B, hcs, hcap, hO⟩
  · subst hx
    have HO : Hid (Own w (.list .int) [.slice a 0 cap] [] S) := h
    clear h hz hn
    go_enter Tryd.func30, Tryd.ntmps30
    go_wp2
    go_loopw [5, 1] (fun i q' wr => i = .int .i64 0 ∧ q' = .int .i64 q ∧ wr = w) (fun _ _ _ => 0)
    case atStart => exact ⟨rfl, rfl, rfl⟩
    case round =>
      obtain ⟨rfl, rfl, rfl⟩ := hrel
      go_wp2
      go_ret
      exact ⟨by simp [cntD], HO.out, TurnS.refl _ _⟩
  simp only [List.cons.injEq, Value.slice.injEq, and_true] at hcs
  obtain ⟨rfl, _, rfl⟩ := hcs
  have HZ : Hid (szD (.list .int) x ≤ 1073741824 ∧ q + (cntD (.list .int) x : Nat) ≤ 8796000000000) := ⟨hz, h1⟩
  have HI : Hid (OwnK w .int g x.length x.length x S B) := hO
  have hc1 : q ≤ 8796000000000 := by omega
  have HCP : Hid (x.length ≤ cap ∧ cap ≤ maxLen) := hcap
  clear h hz hO h1 hcap
  obtain ⟨n, hnn⟩ : ∃ n, n = x.length := ⟨_, rfl⟩
  have HN : Hid (n = x.length) := hnn
  rw [← hnn] at hn HI ⊢
  clear hnn
  go_enter Tryd.func30, Tryd.ntmps30
  go_wp2
  go_loopw [5, 1] (fun i q' wr => ∃ k : Nat, k ≤ n ∧ i = .int .i64 k ∧ q' = .int .i64 (q + (cntU .int x k : Nat)) ∧ OwnK wr .int g n n (mkU .int x q k) S B ∧ TurnS S w wr) (fun i _ _ => n - (intOf i).toNat)
  case atStart => exact ⟨0, Nat.zero_le _, rfl, by simp [cntU], by rw [mkU_zero]; exact HI.out, TurnS.refl _ _⟩
  case round =>
    obtain ⟨k, hk, rfl, rfl, hO, ht⟩ := hrel
    clear HI
    by_cases hlt : k < n
    · have hlx : k < x.length := by have := HN.out; omega
      have hlt' : (k : Int) < (n : Int) := by omega
      obtain ⟨y, hy⟩ : ∃ y, y = q + (cntU .int x k : Nat) := ⟨_, rfl⟩
      rw [← hy]
      have hcs := cntU_succ .int x k hlx
      have hcl := cntU_le .int x (k + 1)
      have HYE : Hid (y = q + (cntU .int x k : Nat) ∧ cntU .int x (k + 1) = cntU .int x k + cntD .int x[k]) := ⟨hy, hcs⟩
      have hce : y + (cntD .int x[k] : Nat) ≤ 8796000000000 := by have := HZ.out.2; omega
      have hy0 : 0 < y := by omega
      clear hcs hcl hy
      obtain ⟨ec, hel, hec, hoe⟩ := hO.2.2.2.2.2 k (by rw [mkU_len]; exact hlx) hlt
      rw [mkU_at _ _ _ _ hlx] at hoe
      have hev : ec = [.int .i64 x[k]] := hoe
      subst hev
      have hce2 : y + 1 ≤ 8796000000000 := by have : cntD .int x[k] = 1 := rfl; omega
      have HW : Hid (OwnK wr .int g n n (mkU .int x q k) S B ∧ TurnS S w wr) := ⟨hO, ht⟩
      have P0 : Hid (∀ vs, PartD wr wr g n 1 k 0 vs (B k)) := fun vs => PartD.start hO.2.2.2.2.1 hO.1
      have hgz := hO.1
      clear hec hel hO ht hoe
      have hrm : Room wr g (n * 1) := (P0.out []).2.1
      obtain ⟨⟨e0, r0⟩, f0⟩ := hrm k (by omega)
      have HF : Hid (OwnK (wr.setCell ⟨g, k, none⟩ (.int .i64 (y))) .int g n n (mkU .int x q (k + 1)) S B ∧ TurnS S w (wr.setCell ⟨g, k, none⟩ (.int .i64 (y)))) := by
        have hP : PartD wr (wr.setCell ⟨g, k, none⟩ (.int .i64 (y))) g n 1 k 1 [.int .i64 (y)] (B k) := (by have := ((P0.out [.int .i64 (y)]).set (v := .int .i64 (y)) hlt (by omega) rfl); simpa using this)
        have hd := PartD.done (e := .int) (l := mkU .int x q k) (y := mkD .int x[k] y) hP HW.out.1 hlt rfl rfl
        have hms := mkU_set .int x q k hlx
        rw [← HYE.out.1] at hms
        rw [hms] at hd
        exact ⟨hd.1, HW.out.2.trans hd.2⟩
      have HQ : Hid (y + 1 = q + (cntU .int x (k + 1) : Nat)) := Hid.intro (by have h1 := HYE.out; have h2 : cntD .int x[k] = 1 := rfl; omega)
      clear P0 HW
      go_wp2
      go_roundw
      case rel => exact ⟨k + 1, by omega, by go_num, by rw [← HQ.out], HF.out⟩
      case measure => simp [intOf]; omega
    · have hkn : k = n := by omega
      subst hkn
      have HP : Hid (MkP (.list .int) [.slice (some ⟨g, 0, none⟩) k cap] (mkD (.list .int) x q) (q + (cntD (.list .int) x : Nat)) S w (.returned (.int .i64 (q + (cntU .int x k : Nat)))) wr) := by
        have e := HN.out
        subst e
        refine ⟨by rw [cntU_all], ?_, ht⟩
        rw [mkU_all] at hO
        have hO' : OwnK wr .int g (mkD (.list .int) x q).length (mkD (.list .int) x q).length (mkD (.list .int) x q) S B := by rw [mkD_len]; exact hO
        have := hO'.list (cap := cap) (by rw [mkD_len]; exact HCP.out.1) HCP.out.2
        rwa [mkD_len] at this
      clear hO ht
      go_wp2
      go_ret
      exact HP.out
set_option maxRecDepth 100000 in
set_option maxHeartbeats 4000000 in
theorem markReplicaS_n (a : Option Addr) (cap : Nat) (x : List (Sh.T shReplica)) (q : Int) (S : Nat → Prop) (w : World) (h0 : 0 < q) (h1 : q + (cntD (.list shReplica) x : Nat) ≤ 8796000000000) (hz : szD (.list shReplica) x ≤ 1073741824) (h : Own w (.list shReplica) [.slice a x.length cap] x S) :
    Calls Tryd.prog 74 #[.slice a x.length cap, .int .i64 q] w (MkP (.list shReplica) [.slice a x.length cap] (mkD (.list shReplica) x q) (q + (cntD (.list shReplica) x : Nat)) S w) := by
  have hn : x.length ≤ 1073741824 := by simp only [szD] at hz; omega
  rcases own_list h with ⟨hx, _⟩ | ⟨g, cap', B, hcs, hcap, hO⟩
  · subst hx
    have HO : Hid (Own w (.list shReplica) [.slice a 0 cap] [] S) := h
    clear h hz hn
    go_enter Tryd.func74, Tryd.ntmps74
    go_wp2
    go_loopw [5, 1] (fun i q' wr => i = .int .i64 0 ∧ q' = .int .i64 q ∧ wr = w) (fun _ _ _ => 0)
    case atStart => exact ⟨rfl, rfl, rfl⟩
    case round =>
      obtain ⟨rfl, rfl, rfl⟩ := hrel
      go_wp2
      go_ret
      exact ⟨by simp [cntD], HO.out, TurnS.refl _ _⟩
  simp only [List.cons.injEq, Value.slice.injEq, and_true] at hcs
  obtain ⟨rfl, _, rfl⟩ := hcs
  have HZ : Hid (szD (.list shReplica) x ≤ 1073741824 ∧ q + (cntD (.list shReplica) x : Nat) ≤ 8796000000000) := ⟨hz, h1⟩
  have HI : Hid (OwnK w shReplica g x.length x.length x S B) := hO
  have hc1 : q ≤ 8796000000000 := by omega
  have HCP : Hid (x.length ≤ cap ∧ cap ≤ maxLen) := hcap
  clear h hz hO h1 hcap
  obtain ⟨n, hnn⟩ : ∃ n, n = x.length := ⟨_, rfl⟩
  have HN : Hid (n = x.length) := hnn
  rw [← hnn] at hn HI ⊢
  clear hnn
  go_enter Tryd.func74, Tryd.ntmps74
  go_wp2
  go_loopw [5, 1] (fun i q' wr => ∃ k : Nat, k ≤ n ∧ i = .int .i64 k ∧ q' = .int .i64 (q + (cntU shReplica x k : Nat)) ∧ OwnK wr shReplica g n n (mkU shReplica x q k) S B ∧ TurnS S w wr) (fun i _ _ => n - (intOf i).toNat)
  case atStart => exact ⟨0, Nat.zero_le _, rfl, by simp [cntU], by rw [mkU_zero]; exact HI.out, TurnS.refl _ _⟩
  case round =>
    obtain ⟨k, hk, rfl, rfl, hO, ht⟩ := hrel
    clear HI
    by_cases hlt : k < n
    · have hlx : k < x.length := by have := HN.out; omega
      have hlt' : (k : Int) < (n : Int) := by omega
      obtain ⟨y, hy⟩ : ∃ y, y = q + (cntU shReplica x k : Nat) := ⟨_, rfl⟩
      rw [← hy]
      have hcs := cntU_succ shReplica x k hlx
      have hcl := cntU_le shReplica x (k + 1)
      have HYE : Hid (y = q + (cntU shReplica x k : Nat) ∧ cntU shReplica x (k + 1) = cntU shReplica x k + cntD shReplica x[k]) := ⟨hy, hcs⟩
      have hce : y + (cntD shReplica x[k] : Nat) ≤ 8796000000000 := by have := HZ.out.2; omega
      have hy0 : 0 < y := by omega
      clear hcs hcl hy
      obtain ⟨ec, hel, hec, hoe⟩ := hO.2.2.2.2.2 k (by rw [mkU_len]; exact hlx) hlt
      rw [mkU_at _ _ _ _ hlx] at hoe
      obtain hev := own_Replica (x0 := x[k].1) (x1 := x[k].2.1) hoe
      subst hev
      have hcE : cntD shReplica x[k] = (1 + (1 + 0)) := rfl
      have hce2 : y + 2 ≤ 8796000000000 := by omega
      clear hcE
      have HW : Hid (OwnK wr shReplica g n n (mkU shReplica x q k) S B ∧ TurnS S w wr) := ⟨hO, ht⟩
      have P0 : Hid (∀ vs, PartD wr wr g n 2 k 0 vs (B k)) := fun vs => PartD.start hO.2.2.2.2.1 hO.1
      have hgz := hO.1
      clear hec hel hO ht hoe hce
      have hrm : Room wr g (n * 2) := (P0.out []).2.1
      obtain ⟨⟨e0, r0⟩, f0⟩ := hrm (k * 2) (by omega)
      obtain ⟨⟨e1, r1⟩, f1⟩ := hrm (k * 2 + 1) (by omega)
      have HF : Hid (OwnK ((wr.setCell ⟨g, k * 2, none⟩ (.bool ((y) % 3 == 0))).setCell ⟨g, k * 2 + 1, none⟩ (.int .i64 (y + 1))) shReplica g n n (mkU shReplica x q (k + 1)) S B ∧ TurnS S w ((wr.setCell ⟨g, k * 2, none⟩ (.bool ((y) % 3 == 0))).setCell ⟨g, k * 2 + 1, none⟩ (.int .i64 (y + 1)))) := by
        have hP : PartD wr ((wr.setCell ⟨g, k * 2, none⟩ (.bool ((y) % 3 == 0))).setCell ⟨g, k * 2 + 1, none⟩ (.int .i64 (y + 1))) g n 2 k 2 [.bool ((y) % 3 == 0), .int .i64 (y + 1)] (B k) := (((P0.out [.bool ((y) % 3 == 0), .int .i64 (y + 1)]).set (v := .bool ((y) % 3 == 0)) hlt (by omega) rfl).set (v := .int .i64 (y + 1)) hlt (by omega) rfl)
        have hd := PartD.done (e := shReplica) (l := mkU shReplica x q k) (y := mkD shReplica x[k] y) hP HW.out.1 hlt rfl (by have hq : mkD shReplica x[k] y = (((y) % 3 == 0), (y + 1), ()) := mkeq_Replica x[k].1 x[k].2.1 y; rw [hq]; exact mkown_Replica)
        have hms := mkU_set shReplica x q k hlx
        rw [← HYE.out.1] at hms
        rw [hms] at hd
        exact ⟨hd.1, HW.out.2.trans hd.2⟩
      have HQ : Hid (y + 1 + 1 = q + (cntU shReplica x (k + 1) : Nat)) := Hid.intro (by have h1 := HYE.out; have h2 : cntD shReplica x[k] = (1 + (1 + 0)) := rfl; omega)
      clear P0 HW
      go_wp2
      go_roundw
      case rel => exact ⟨k + 1, by omega, by go_num, by rw [← HQ.out], HF.out⟩
      case measure => simp [intOf]; omega
    · have hkn : k = n := by omega
      subst hkn
      have HP : Hid (MkP (.list shReplica) [.slice (some ⟨g, 0, none⟩) k cap] (mkD (.list shReplica) x q) (q + (cntD (.list shReplica) x : Nat)) S w (.returned (.int .i64 (q + (cntU shReplica x k : Nat)))) wr) := by
        have e := HN.out
        subst e
        refine ⟨by rw [cntU_all], ?_, ht⟩
        rw [mkU_all] at hO
        have hO' : OwnK wr shReplica g (mkD (.list shReplica) x q).length (mkD (.list shReplica) x q).length (mkD (.list shReplica) x q) S B := by rw [mkD_len]; exact hO
        have := hO'.list (cap := cap) (by rw [mkD_len]; exact HCP.out.1) HCP.out.2
        rwa [mkD_len] at this
      clear hO ht
      go_wp2
      go_ret
      exact HP.out
set_option maxRecDepth 100000 in
set_option maxHeartbeats 4000000 in
theorem markShardS_n (a : Option Addr) (cap : Nat) (x : List (Sh.T shShard)) (q : Int) (S : Nat → Prop) (w : World) (h0 : 0 < q) (h1 : q + (cntD (.list shShard) x : Nat) ≤ 8796000000000) (hz : szD (.list shShard) x ≤ 1073741824) (h : Own w (.list shShard) [.slice a x.length cap] x S) :
    Calls Tryd.prog 55 #[.slice a x.length cap, .int .i64 q] w (MkP (.list shShard) [.slice a x.length cap] (mkD (.list shShard) x q) (q + (cntD (.list shShard) x : Nat)) S w) := by
  have hn : x.length ≤ 1073741824 := by simp only [szD] at hz; omega
  rcases own_list h with ⟨hx, _⟩ | ⟨g, cap', B, hcs, hcap, hO⟩
  · subst hx
    have HO : Hid (Own w (.list shShard) [.slice a 0 cap] [] S) := h
    clear h hz hn
    go_enter Tryd.func55, Tryd.ntmps55
    go_wp2
    go_loopw [5, 1] (fun i q' wr => i = .int .i64 0 ∧ q' = .int .i64 q ∧ wr = w) (fun _ _ _ => 0)
    case atStart => exact ⟨rfl, rfl, rfl⟩
    case round =>
      obtain ⟨rfl, rfl, rfl⟩ := hrel
      go_wp2
      go_ret
      exact ⟨by simp [cntD], HO.out, TurnS.refl _ _⟩
  simp only [List.cons.injEq, Value.slice.injEq, and_true] at hcs
  obtain ⟨rfl, _, rfl⟩ := hcs
  have HZ : Hid (szD (.list shShard) x ≤ 1073741824 ∧ q + (cntD (.list shShard) x : Nat) ≤ 8796000000000) := ⟨hz, h1⟩
  have HI : Hid (OwnK w shShard g x.length x.length x S B) := hO
  have hc1 : q ≤ 8796000000000 := by omega
  have HCP : Hid (x.length ≤ cap ∧ cap ≤ maxLen) := hcap
  clear h hz hO h1 hcap
  obtain ⟨n, hnn⟩ : ∃ n, n = x.length := ⟨_, rfl⟩
  have HN : Hid (n = x.length) := hnn
  rw [← hnn] at hn HI ⊢
  clear hnn
  go_enter Tryd.func55, Tryd.ntmps55
  go_wp2
  go_loopw [5, 1] (fun i q' wr => ∃ k : Nat, k ≤ n ∧ i = .int .i64 k ∧ q' = .int .i64 (q + (cntU shShard x k : Nat)) ∧ OwnK wr shShard g n n (mkU shShard x q k) S B ∧ TurnS S w wr) (fun i _ _ => n - (intOf i).toNat)
  case atStart => exact ⟨0, Nat.zero_le _, rfl, by simp [cntU], by rw [mkU_zero]; exact HI.out, TurnS.refl _ _⟩
  case round =>
    obtain ⟨k, hk, rfl, rfl, hO, ht⟩ := hrel
    clear HI
    by_cases hlt : k < n
    · have hlx : k < x.length := by have := HN.out; omega
      have hlt' : (k : Int) < (n : Int) := by omega
      obtain ⟨y, hy⟩ : ∃ y, y = q + (cntU shShard x k : Nat) := ⟨_, rfl⟩
      rw [← hy]
      have hcs := cntU_succ shShard x k hlx
      have hcl := cntU_le shShard x (k + 1)
      have HYE : Hid (y = q + (cntU shShard x k : Nat) ∧ cntU shShard x (k + 1) = cntU shShard x k + cntD shShard x[k]) := ⟨hy, hcs⟩
      have hce : y + (cntD shShard x[k] : Nat) ≤ 8796000000000 := by have := HZ.out.2; omega
      have hy0 : 0 < y := by omega
      clear hcs hcl hy
      obtain ⟨ec, hel, hec, hoe⟩ := hO.2.2.2.2.2 k (by rw [mkU_len]; exact hlx) hlt
      rw [mkU_at _ _ _ _ hlx] at hoe
      obtain ⟨a1, k1, S1, hev, o1, s1⟩ := own_Shard (x0 := x[k].1) hoe
      subst hev
      have hcE : cntD shShard x[k] = (cntD (.list shReplica) x[k].1 + 0) := rfl
      have HC1 : Hid (szD (.list shReplica) x[k].1 ≤ 1073741824) := Hid.intro (by have h1 := sz_mem (List.getElem_mem hlx); have h2 := HZ.out.1; have h3 : szD shShard x[k] = (szD (.list shReplica) x[k].1 + 0) := rfl; omega)
      obtain ⟨c1, hc1⟩ : ∃ y, y = cntD (.list shReplica) x[k].1 := ⟨_, rfl⟩
      rw [← hc1] at hcE
      have HK1 : Hid (c1 = cntD (.list shReplica) x[k].1) := hc1
      clear hc1
      have hce2 : y + 0 + (c1 : Int) ≤ 8796000000000 := by omega
      clear hcE
      have hg1 : ¬ S1 g := fun q => (hO.2.2.1 k hlt g (s1 g q)).2 rfl
      have O1 : Hid (Own wr (.list shReplica) [.slice a1 x[k].1.length k1] x[k].1 S1) := o1
      have w1c : wr.cell? ⟨g, k * 1 + 0, none⟩ = some (.slice a1 x[k].1.length k1) := hec 0 (by simp)
      clear o1
      have HW : Hid (OwnK wr shShard g n n (mkU shShard x q k) S B ∧ TurnS S w wr) := ⟨hO, ht⟩
      have P0 : Hid (∀ vs, PartD wr wr g n 1 k 0 vs (B k)) := fun vs => PartD.start hO.2.2.2.2.1 hO.1
      have hgz := hO.1
      clear hec hel hO ht hoe hce
      have hrm : Room wr g (n * 1) := (P0.out []).2.1
      have Q1 := P0
      clear P0
      have u1c := (Q1.out [.bool false]).old (Nat.le_refl _) w1c
      have ugz := (Q1.out [.bool false]).2.2.2.2
      simp only [Nat.mul_one, Nat.add_zero] at u1c
      go_wp2_with fail
      refine (markReplicaS_n _ _ _ _ S1 _ (by omega) (by rw [← HK1.out]; omega) HC1.out O1.out).mono ?_
      rintro r w1 ⟨hr, ho, hb⟩
      rw [← HK1.out] at hr
      obtain ⟨z1, hz1⟩ : ∃ zz, zz = y + (c1 : Int) := ⟨_, rfl⟩
      rw [← hz1] at hr
      subst hr
      have HZ1 : Hid (z1 = y + (c1 : Int)) := hz1
      have hzb1 : 0 < z1 ∧ z1 + 0 ≤ 8796000000000 := by omega
      clear hz1
      have P1 : Hid (∀ vs : List Value, vs[0]? = some (.slice a1 x[k].1.length k1) → PartD wr w1 g n 1 k 1 vs (B k)) := fun vs h0 => ((Q1.out vs).turn hb s1 hg1).skip (w1c.trans h0.symm)
      have O1 : Hid (Own w1 (.list shReplica) [.slice a1 x[k].1.length k1] (mkD (.list shReplica) x[k].1 (y)) S1) := ho
      clear ho u1c ugz
      clear hb Q1 hrm
      have hrm : Room w1 g (n * 1) := (P1.out [.slice a1 x[k].1.length k1] rfl).2.1
      have hgz1 := (P1.out [.slice a1 x[k].1.length k1] rfl).2.2.2.2
      have O1 : Hid (Own w1 (.list shReplica) [.slice a1 x[k].1.length k1] (mkD (.list shReplica) x[k].1 (y)) S1) := O1.out
      have HF : Hid (OwnK w1 shShard g n n (mkU shShard x q (k + 1)) S B ∧ TurnS S w w1) := by
        have hP : PartD wr w1 g n 1 k 1 [.slice a1 x[k].1.length k1] (B k) := (by have := (P1.out [.slice a1 x[k].1.length k1] rfl); simpa using this)
        have hd := PartD.done (e := shShard) (l := mkU shShard x q k) (y := mkD shShard x[k] y) hP HW.out.1 hlt rfl (by have hq : mkD shShard x[k] y = (mkD (.list shReplica) x[k].1 (y), ()) := mkeq_Shard x[k].1 y z1 (by rw [← HK1.out]; exact HZ1.out); rw [hq]; exact mkown_Shard O1.out s1)
        have hms := mkU_set shShard x q k hlx
        rw [← HYE.out.1] at hms
        rw [hms] at hd
        exact ⟨hd.1, HW.out.2.trans hd.2⟩
      have HQ : Hid (z1 = q + (cntU shShard x (k + 1) : Nat)) := Hid.intro (by have h1 := HYE.out; have h2 : cntD shShard x[k] = (cntD (.list shReplica) x[k].1 + 0) := rfl; have := HK1.out; have := HZ1.out; omega)
      clear P1 HW O1
      go_wp2
      go_roundw
      case rel => exact ⟨k + 1, by omega, by go_num, by rw [← HQ.out], HF.out⟩
      case measure => simp [intOf]; omega
    · have hkn : k = n := by omega
      subst hkn
      have HP : Hid (MkP (.list shShard) [.slice (some ⟨g, 0, none⟩) k cap] (mkD (.list shShard) x q) (q + (cntD (.list shShard) x : Nat)) S w (.returned (.int .i64 (q + (cntU shShard x k : Nat)))) wr) := by
        have e := HN.out
        subst e
        refine ⟨by rw [cntU_all], ?_, ht⟩
        rw [mkU_all] at hO
        have hO' : OwnK wr shShard g (mkD (.list shShard) x q).length (mkD (.list shShard) x q).length (mkD (.list shShard) x q) S B := by rw [mkD_len]; exact hO
        have := hO'.list (cap := cap) (by rw [mkD_len]; exact HCP.out.1) HCP.out.2
        rwa [mkD_len] at this
      clear hO ht
      go_wp2
      go_ret
      exact HP.out
set_option maxRecDepth 100000 in
set_option maxHeartbeats 4000000 in
theorem markBoolS_n (a : Option Addr) (cap : Nat) (x : List (Sh.T .bool)) (q : Int) (S : Nat → Prop) (w : World) (h0 : 0 < q) (h1 : q + (cntD (.list .bool) x : Nat) ≤ 8796000000000) (hz : szD (.list .bool) x ≤ 1073741824) (h : Own w (.list .bool) [.slice a x.length cap] x S) :
    Calls Tryd.prog 32 #[.slice a x.length cap, .int .i64 q] w (MkP (.list .bool) [.slice a x.length cap] (mkD (.list .bool) x q) (q + (cntD (.list .bool) x : Nat)) S w) := by
  have hn : x.length ≤ 1073741824 := by simp only [szD] at hz; omega
  rcases own_list h with ⟨hx, _⟩ | ⟨g, cap', B, hcs, hcap, hO⟩
  · subst hx
    have HO : Hid (Own w (.list .bool) [.slice a 0 cap] [] S) := h
    clear h hz hn
    go_enter Tryd.func32, Tryd.ntmps32
    go_wp2
    go_loopw [5, 1] (fun i q' wr => i = .int .i64 0 ∧ q' = .int .i64 q ∧ wr = w) (fun _ _ _ => 0)
    case atStart => exact ⟨rfl, rfl, rfl⟩
    case round =>
      obtain ⟨rfl, rfl, rfl⟩ := hrel
      go_wp2
      go_ret
      exact ⟨by simp [cntD], HO.out, TurnS.refl _ _⟩
  simp only [List.cons.injEq, Value.slice.injEq, and_true] at hcs
  obtain ⟨rfl, _, rfl⟩ := hcs
  have HZ : Hid (szD (.list .bool) x ≤ 1073741824 ∧ q + (cntD (.list .bool) x : Nat) ≤ 8796000000000) := ⟨hz, h1⟩
  have HI : Hid (OwnK w .bool g x.length x.length x S B) := hO
  have hc1 : q ≤ 8796000000000 := by omega
  have HCP : Hid (x.length ≤ cap ∧ cap ≤ maxLen) := hcap
  clear h hz hO h1 hcap
  obtain ⟨n, hnn⟩ : ∃ n, n = x.length := ⟨_, rfl⟩
  have HN : Hid (n = x.length) := hnn
  rw [← hnn] at hn HI ⊢
  clear hnn
  go_enter Tryd.func32, Tryd.ntmps32
  go_wp2
  go_loopw [5, 1] (fun i q' wr => ∃ k : Nat, k ≤ n ∧ i = .int .i64 k ∧ q' = .int .i64 (q + (cntU .bool x k : Nat)) ∧ OwnK wr .bool g n n (mkU .bool x q k) S B ∧ TurnS S w wr) (fun i _ _ => n - (intOf i).toNat)
  case atStart => exact ⟨0, Nat.zero_le _, rfl, by simp [cntU], by rw [mkU_zero]; exact HI.out, TurnS.refl _ _⟩
  case round =>
    obtain ⟨k, hk, rfl, rfl, hO, ht⟩ := hrel
    clear HI
    by_cases hlt : k < n
    · have hlx : k < x.length := by have := HN.out; omega
      have hlt' : (k : Int) < (n : Int) := by omega
      obtain ⟨y, hy⟩ : ∃ y, y = q + (cntU .bool x k : Nat) := ⟨_, rfl⟩
      rw [← hy]
      have hcs := cntU_succ .bool x k hlx
      have hcl := cntU_le .bool x (k + 1)
      have HYE : Hid (y = q + (cntU .bool x k : Nat) ∧ cntU .bool x (k + 1) = cntU .bool x k + cntD .bool x[k]) := ⟨hy, hcs⟩
      have hce : y + (cntD .bool x[k] : Nat) ≤ 8796000000000 := by have := HZ.out.2; omega
      have hy0 : 0 < y := by omega
      clear hcs hcl hy
      obtain ⟨ec, hel, hec, hoe⟩ := hO.2.2.2.2.2 k (by rw [mkU_len]; exact hlx) hlt
      rw [mkU_at _ _ _ _ hlx] at hoe
      have hev : ec = [.bool x[k]] := hoe
      subst hev
      have hce2 : y + 1 ≤ 8796000000000 := by have : cntD .bool x[k] = 1 := rfl; omega
      have HW : Hid (OwnK wr .bool g n n (mkU .bool x q k) S B ∧ TurnS S w wr) := ⟨hO, ht⟩
      have P0 : Hid (∀ vs, PartD wr wr g n 1 k 0 vs (B k)) := fun vs => PartD.start hO.2.2.2.2.1 hO.1
      have hgz := hO.1
      clear hec hel hO ht hoe
      have hrm : Room wr g (n * 1) := (P0.out []).2.1
      obtain ⟨⟨e0, r0⟩, f0⟩ := hrm k (by omega)
      have HF : Hid (OwnK (wr.setCell ⟨g, k, none⟩ (.bool ((y) % 3 == 0))) .bool g n n (mkU .bool x q (k + 1)) S B ∧ TurnS S w (wr.setCell ⟨g, k, none⟩ (.bool ((y) % 3 == 0)))) := by
        have hP : PartD wr (wr.setCell ⟨g, k, none⟩ (.bool ((y) % 3 == 0))) g n 1 k 1 [.bool ((y) % 3 == 0)] (B k) := (by have := ((P0.out [.bool ((y) % 3 == 0)]).set (v := .bool ((y) % 3 == 0)) hlt (by omega) rfl); simpa using this)
        have hd := PartD.done (e := .bool) (l := mkU .bool x q k) (y := mkD .bool x[k] y) hP HW.out.1 hlt rfl rfl
        have hms := mkU_set .bool x q k hlx
        rw [← HYE.out.1] at hms
        rw [hms] at hd
        exact ⟨hd.1, HW.out.2.trans hd.2⟩
      have HQ : Hid (y + 1 = q + (cntU .bool x (k + 1) : Nat)) := Hid.intro (by have h1 := HYE.out; have h2 : cntD .bool x[k] = 1 := rfl; omega)
      clear P0 HW
      go_wp2
      go_roundw
      case rel => exact ⟨k + 1, by omega, by go_num, by rw [← HQ.out], HF.out⟩
      case measure => simp [intOf]; omega
    · have hkn : k = n := by omega
      subst hkn
      have HP : Hid (MkP (.list .bool) [.slice (some ⟨g, 0, none⟩) k cap] (mkD (.list .bool) x q) (q + (cntD (.list .bool) x : Nat)) S w (.returned (.int .i64 (q + (cntU .bool x k : Nat)))) wr) := by
        have e := HN.out
        subst e
        refine ⟨by rw [cntU_all], ?_, ht⟩
        rw [mkU_all] at hO
        have hO' : OwnK wr .bool g (mkD (.list .bool) x q).length (mkD (.list .bool) x q).length (mkD (.list .bool) x q) S B := by rw [mkD_len]; exact hO
        have := hO'.list (cap := cap) (by rw [mkD_len]; exact HCP.out.1) HCP.out.2
        rwa [mkD_len] at this
      clear hO ht
      go_wp2
      go_ret
      exact HP.out
set_option maxRecDepth 100000 in
set_option maxHeartbeats 4000000 in
theorem markCommitStepS_n (a : Option Addr) (cap : Nat) (x : List (Sh.T shCommitStep)) (q : Int) (S : Nat → Prop) (w : World) (h0 : 0 < q) (h1 : q + (cntD (.list shCommitStep) x : Nat) ≤ 8796000000000) (hz : szD (.list shCommitStep) x ≤ 1073741824) (h : Own w (.list shCommitStep) [.slice a x.length cap] x S) :
    Calls Tryd.prog 31 #[.slice a x.length cap, .int .i64 q] w (MkP (.list shCommitStep) [.slice a x.length cap] (mkD (.list shCommitStep) x q) (q + (cntD (.list shCommitStep) x : Nat)) S w) := by
  have hn : x.length ≤ 1073741824 := by simp only [szD] at hz; omega
  rcases own_list h with ⟨hx, _⟩ | ⟨g, cap', B, hcs, hcap, hO⟩
  · subst hx
    have HO : Hid (Own w (.list shCommitStep) [.slice a 0 cap] [] S) := h
    clear h hz hn
    go_enter Tryd.func31, Tryd.ntmps31
    go_wp2
    go_loopw [5, 1] (fun i q' wr => i = .int .i64 0 ∧ q' = .int .i64 q ∧ wr = w) (fun _ _ _ => 0)
    case atStart => exact ⟨rfl, rfl, rfl⟩
    case round =>
      obtain ⟨rfl, rfl, rfl⟩ := hrel
      go_wp2
      go_ret
      exact ⟨by simp [cntD], HO.out, TurnS.refl _ _⟩
  simp only [List.cons.injEq, Value.slice.injEq, and_true] at hcs
  obtain ⟨rfl, _, rfl⟩ := hcs
  have HZ : Hid (szD (.list shCommitStep) x ≤ 1073741824 ∧ q + (cntD (.list shCommitStep) x : Nat) ≤ 8796000000000) := ⟨hz, h1⟩
  have HI : Hid (OwnK w shCommitStep g x.length x.length x S B) := hO
  have hc1 : q ≤ 8796000000000 := by omega
  have HCP : Hid (x.length ≤ cap ∧ cap ≤ maxLen) := hcap
  clear h hz hO h1 hcap
  obtain ⟨n, hnn⟩ : ∃ n, n = x.length := ⟨_, rfl⟩
  have HN : Hid (n = x.length) := hnn
  rw [← hnn] at hn HI ⊢
  clear hnn
  go_enter Tryd.func31, Tryd.ntmps31
  go_wp2
  go_loopw [5, 1] (fun i q' wr => ∃ k : Nat, k ≤ n ∧ i = .int .i64 k ∧ q' = .int .i64 (q + (cntU shCommitStep x k : Nat)) ∧ OwnK wr shCommitStep g n n (mkU shCommitStep x q k) S B ∧ TurnS S w wr) (fun i _ _ => n - (intOf i).toNat)
  case atStart => exact ⟨0, Nat.zero_le _, rfl, by simp [cntU], by rw [mkU_zero]; exact HI.out, TurnS.refl _ _⟩
  case round =>
    obtain ⟨k, hk, rfl, rfl, hO, ht⟩ := hrel
    clear HI
    by_cases hlt : k < n
    · have hlx : k < x.length := by have := HN.out; omega
      have hlt' : (k : Int) < (n : Int) := by omega
      obtain ⟨y, hy⟩ : ∃ y, y = q + (cntU shCommitStep x k : Nat) := ⟨_, rfl⟩
      rw [← hy]
      have hcs := cntU_succ shCommitStep x k hlx
      have hcl := cntU_le shCommitStep x (k + 1)
      have HYE : Hid (y = q + (cntU shCommitStep x k : Nat) ∧ cntU shCommitStep x (k + 1) = cntU shCommitStep x k + cntD shCommitStep x[k]) := ⟨hy, hcs⟩
      have hce : y + (cntD shCommitStep x[k] : Nat) ≤ 8796000000000 := by have := HZ.out.2; omega
      have hy0 : 0 < y := by omega
      clear hcs hcl hy
      obtain ⟨ec, hel, hec, hoe⟩ := hO.2.2.2.2.2 k (by rw [mkU_len]; exact hlx) hlt
      rw [mkU_at _ _ _ _ hlx] at hoe
      obtain hev := own_CommitStep (x0 := x[k].1) (x1 := x[k].2.1) (x2 := x[k].2.2.1) hoe
      subst hev
      have hcE : cntD shCommitStep x[k] = (1 + (1 + (1 + 0))) := rfl
      have hce2 : y + 3 ≤ 8796000000000 := by omega
      clear hcE
      have HW : Hid (OwnK wr shCommitStep g n n (mkU shCommitStep x q k) S B ∧ TurnS S w wr) := ⟨hO, ht⟩
      have P0 : Hid (∀ vs, PartD wr wr g n 3 k 0 vs (B k)) := fun vs => PartD.start hO.2.2.2.2.1 hO.1
      have hgz := hO.1
      clear hec hel hO ht hoe hce
      have hrm : Room wr g (n * 3) := (P0.out []).2.1
      obtain ⟨⟨e0, r0⟩, f0⟩ := hrm (k * 3) (by omega)
      obtain ⟨⟨e1, r1⟩, f1⟩ := hrm (k * 3 + 1) (by omega)
      obtain ⟨⟨e2, r2⟩, f2⟩ := hrm (k * 3 + 2) (by omega)
      have HF : Hid (OwnK (((wr.setCell ⟨g, k * 3, none⟩ (.int .i64 (y))).setCell ⟨g, k * 3 + 1, none⟩ (.int .i64 (y + 1))).setCell ⟨g, k * 3 + 2, none⟩ (.int .i64 (y + 1 + 1))) shCommitStep g n n (mkU shCommitStep x q (k + 1)) S B ∧ TurnS S w (((wr.setCell ⟨g, k * 3, none⟩ (.int .i64 (y))).setCell ⟨g, k * 3 + 1, none⟩ (.int .i64 (y + 1))).setCell ⟨g, k * 3 + 2, none⟩ (.int .i64 (y + 1 + 1)))) := by
        have hP : PartD wr (((wr.setCell ⟨g, k * 3, none⟩ (.int .i64 (y))).setCell ⟨g, k * 3 + 1, none⟩ (.int .i64 (y + 1))).setCell ⟨g, k * 3 + 2, none⟩ (.int .i64 (y + 1 + 1))) g n 3 k 3 [.int .i64 (y), .int .i64 (y + 1), .int .i64 (y + 1 + 1)] (B k) := ((((P0.out [.int .i64 (y), .int .i64 (y + 1), .int .i64 (y + 1 + 1)]).set (v := .int .i64 (y)) hlt (by omega) rfl).set (v := .int .i64 (y + 1)) hlt (by omega) rfl).set (v := .int .i64 (y + 1 + 1)) hlt (by omega) rfl)
        have hd := PartD.done (e := shCommitStep) (l := mkU shCommitStep x q k) (y := mkD shCommitStep x[k] y) hP HW.out.1 hlt rfl (by have hq : mkD shCommitStep x[k] y = ((y), (y + 1), (y + 1 + 1), ()) := mkeq_CommitStep x[k].1 x[k].2.1 x[k].2.2.1 y; rw [hq]; exact mkown_CommitStep)
        have hms := mkU_set shCommitStep x q k hlx
        rw [← HYE.out.1] at hms
        rw [hms] at hd
        exact ⟨hd.1, HW.out.2.trans hd.2⟩
      have HQ : Hid (y + 1 + 1 + 1 = q + (cntU shCommitStep x (k + 1) : Nat)) := Hid.intro (by have h1 := HYE.out; have h2 : cntD shCommitStep x[k] = (1 + (1 + (1 + 0))) := rfl; omega)
      clear P0 HW
      go_wp2
      go_roundw
      case rel => exact ⟨k + 1, by omega, by go_num, by rw [← HQ.out], HF.out⟩
      case measure => simp [intOf]; omega
    · have hkn : k = n := by omega
      subst hkn
      have HP : Hid (MkP (.list shCommitStep) [.slice (some ⟨g, 0, none⟩) k cap] (mkD (.list shCommitStep) x q) (q + (cntD (.list shCommitStep) x : Nat)) S w (.returned (.int .i64 (q + (cntU shCommitStep x k : Nat)))) wr) := by
        have e := HN.out
        subst e
        refine ⟨by rw [cntU_all], ?_, ht⟩
        rw [mkU_all] at hO
        have hO' : OwnK wr shCommitStep g (mkD (.list shCommitStep) x q).length (mkD (.list shCommitStep) x q).length (mkD (.list shCommitStep) x q) S B := by rw [mkD_len]; exact hO
        have := hO'.list (cap := cap) (by rw [mkD_len]; exact HCP.out.1) HCP.out.2
        rwa [mkD_len] at this
      clear hO ht
      go_wp2
      go_ret
      exact HP.out
theorem mkTeq_Commit (x0 : List (Sh.T shShard)) (x1 : Int) (x2 : Int) (q : Int) (z1 : Int) (hz1 : z1 = q + (cntD (.list shShard) x0 : Nat)) : mkT shCommit (x0, x1, x2, ()) q = (mkD (.list shShard) x0 q, x1, x2, ()) := by
  subst hz1
  simp [shCommit, mkT, cntT, Int.add_assoc]
theorem cntTeq_Commit (x0 : List (Sh.T shShard)) (x1 : Int) (x2 : Int) : cntT shCommit (x0, x1, x2, ()) = cntD (.list shShard) x0 := by
  simp [shCommit, cntT]
set_option maxRecDepth 100000 in
set_option maxHeartbeats 4000000 in
theorem markCommit_n (cs : List Value) (x0 : List (Sh.T shShard)) (x1 : Int) (x2 : Int) (q : Int) (S : Nat → Prop) (w : World) (h0 : 0 < q) (h1 : q + (cntT shCommit (x0, x1, x2, ()) : Nat) ≤ 8796000000000) (hz : szD shCommit (x0, x1, x2, ()) ≤ 1073741824) (hS : ∀ k, S k → k < w.heap.size) (h : Own w shCommit cs (x0, x1, x2, ()) S) :
    Calls Tryd.prog 22 #[.agg cs.toArray, .int .i64 q] w (MkP shCommit cs (mkT shCommit (x0, x1, x2, ()) q) (q + (cntT shCommit (x0, x1, x2, ()) : Nat)) S w) := by
  obtain ⟨a1, k1, S1, hev, o1, s1⟩ := own_Commit h
  subst hev
  rw [cntTeq_Commit] at h1 ⊢
  have HE : Hid (szD shCommit (x0, x1, x2, ()) = (szD (.list shShard) x0 + (0 + (0 + 0)))) := rfl
  have HZ : Hid (szD shCommit (x0, x1, x2, ()) ≤ 1073741824) := hz
  obtain ⟨c1, hc1⟩ : ∃ y, y = cntD (.list shShard) x0 := ⟨_, rfl⟩
  rw [← hc1] at h1 ⊢
  have HK1 : Hid (c1 = cntD (.list shShard) x0) := hc1
  clear hc1
  have O1 : Hid (Own w (.list shShard) [.slice a1 x0.length k1] x0 S1) := o1
  clear o1
  have hSw : Hid (∀ k, S k → k = w.heap.size → False) := fun k h1 h2 => by have := hS k h1; omega
  clear h hz hS
  go_enter Tryd.func22, Tryd.ntmps22
  go_wp2_with fail
  obtain ⟨w0, hW⟩ : ∃ x, x = w.alloc (.cells #[.slice a1 x0.length k1, .int .i64 x1, .int .i64 x2] 29) := ⟨_, rfl⟩
  have hb0 : Below w.heap.size w w0 := hW ▸ Go.Joins.below_alloc1 _ _
  have HB : Hid (Bx w0 w.heap.size [.slice a1 x0.length k1, .int .i64 x1, .int .i64 x2] ∧ TurnS S w w0 ∧ (∀ k, S k → k < w.heap.size → True)) := ⟨hW ▸ Bx.new w [.slice a1 x0.length k1, .int .i64 x1, .int .i64 x2] _, TurnS.of_below hb0, fun _ _ _ => trivial⟩
  have O1 : Hid (Own w0 (.list shShard) [.slice a1 x0.length k1] x0 S1) := O1.out.next hb0
  rw [← hW]
  clear hW hb0
  refine (markShardS_n _ _ _ _ S1 _ (by omega) (by rw [← HK1.out]; omega) (by have := HZ.out; rw [HE.out] at this; omega) O1.out).mono ?_
  rintro r w1 ⟨hr, ho, hb⟩
  rw [← HK1.out] at hr
  obtain ⟨z1, hz1⟩ : ∃ zz, zz = q + (c1 : Int) := ⟨_, rfl⟩
  rw [← hz1] at hr
  subst hr
  have HZ1 : Hid (z1 = q + (c1 : Int)) := hz1
  have hzb1 : 0 < z1 ∧ z1 ≤ 8796000000000 := by omega
  clear hz1
  have HB : Hid (Bx w1 w.heap.size [.slice a1 x0.length k1, .int .i64 x1, .int .i64 x2] ∧ TurnS S w w1 ∧ (∀ k, S k → k < w.heap.size → True)) := ⟨HB.out.1.turnS hb (fun q => hSw.out w.heap.size (s1 _ q) rfl), HB.out.2.1.trans (hb.wide s1), fun _ _ _ => trivial⟩
  have O1 : Hid (Own w1 (.list shShard) [.slice a1 x0.length k1] (mkD (.list shShard) x0 q) S1) := ho
  clear ho hb
  have d0 := HB.out.1.cell 0 rfl
  have d1 := HB.out.1.cell 1 rfl
  have d2 := HB.out.1.cell 2 rfl
  have dz := HB.out.1.2
  go_wp2
  go_ret
  refine ⟨congrArg (fun t => Ending.returned (.int .i64 t)) (by have := HZ1.out; omega), ?_, HB.out.2.1⟩
  rw [mkTeq_Commit x0 x1 x2 q z1 (by rw [← HK1.out]; exact HZ1.out)]
  exact mkown_Commit O1.out s1
end Go.Proofs.YtkpobihpcnoemaaDoor
