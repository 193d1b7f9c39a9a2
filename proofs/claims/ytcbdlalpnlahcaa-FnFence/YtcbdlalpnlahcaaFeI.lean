/- Fences: a new one, on the program's side; sizes and counts of marks. -/
import Derived.Test.YtcbdlalpnlahcaaFeN
import Derived.Test.YtcbdlalpnlahcaaShC
import Derived.Test.YtcbdlalpnlahcaaFeZ
namespace Go.Proofs.Ytcbdlalpnlahcaa
open Go.RowKit
set_option linter.unusedVariables false
set_option linter.unusedSimpArgs false

theorem cnt_fe {ep du : Int} {ms : List (Sh.T shMember)} {en : List (Sh.T .int)} (h : szD shFence (ep, du, ms, en, ()) ≤ 1073741824) : cntT shFence (ep, du, ms, en, ()) ≤ 100000000000 := by
  have h1 := cntT_le shFence (ep, du, ms, en, ())
  have h2 := cnt_le shFence (ep, du, ms, en, ()) (by simp [Small, shFence, shMember, Sh.c])
  have h3 : shFence.c = 4 := rfl
  omega
theorem sz_nf (m : Int) : szD shFence (nfE m, 0, nfM m, [], ()) ≤ 1073741824 := by
  by_cases c : 1 ≤ m ∧ m ≤ 8
  · obtain ⟨e1, e2, _⟩ := nf_some c
    rw [e1, e2]
    have hn : ((m.toNat : Nat) : Int) = m := by omega
    have := good_sz (new_good (n := m.toNat) (by omega)).1
    omega
  · obtain ⟨e1, e2, _⟩ := nf_none c
    rw [e1, e2]; exact Nat.zero_le _
/-- These are the parts of an answer. -/
def partsN (m : Int) (EP DU : Int) (MS : List (Sh.T shMember)) (EN : List (Sh.T .int)) (z : Bool) : Prop := nfE m = EP ∧ 0 = DU ∧ nfM m = MS ∧ [] = EN ∧ tf (1 ≤ m ∧ m ≤ 8) = z
theorem partsN_sz {m EP DU : Int} {MS : List (Sh.T shMember)} {EN : List (Sh.T .int)} {z : Bool} (h : partsN m EP DU MS EN z) : szD shFence (EP, DU, MS, EN, ()) ≤ 1073741824 := by
  obtain ⟨h1, h2, h3, h4, h5⟩ := h
  subst h1 h2 h3 h4
  exact sz_nf m

set_option maxRecDepth 100000 in
set_option maxHeartbeats 4000000 in
theorem newFence_n (m : Int) (w : World) : Calls Try.prog 25 #[.int .i64 m] w (AnsP shFence (nfE m, 0, nfM m, [], ()) (tf (1 ≤ m ∧ m ≤ 8)) w) := by
  cases c0 : inR m 1 8
  · obtain ⟨e1, e2, e3⟩ := nf_none (m := m) (fun q => by rw [inR_iff.2 q] at c0; cases c0)
    rw [e1, e2, e3]
    clear e1 e2 e3
    go_enter Try.func25, Try.ntmps25
    go_wp2_with (go_at_call 43; refine (inRange_any _ _ _ _).mono ?_; rintro e w' ⟨rfl, hw⟩; have hw := hw.symm; subst hw; rw [c0])
    exact bodyPost_ret (v := .tuple #[.agg #[.int .i64 0, .int .i64 0, .slice none 0 0, .slice none 0 0], .bool false]) (by simp [results, Try.results25, go_sem, *]) rfl ⟨[.int .i64 0, .int .i64 0, .slice none 0 0, .slice none 0 0], rfl, own_feZ, (by repeat (first | refine Below.setCell ?_ (by (try simp) <;> omega) _ | refine Below.alloc ?_ (by (try simp) <;> omega) _ | refine Below.drew ?_ | assumption | exact Below.refl _ _ | refine Below.trans ?_ (Below.mono (by assumption) (by (try simp) <;> omega))))⟩
  have hb := inR_iff.1 c0
  obtain ⟨n, rfl⟩ : ∃ n : Nat, m = (n : Int) := ⟨m.toNat, by omega⟩
  obtain ⟨e1, e2, e3⟩ := nf_some hb
  rw [e1, e2, e3, Int.toNat_natCast]
  clear e1 e2 e3
  obtain ⟨i0, hi0, hz0, hz1, hz2⟩ := info_parts inf_Member
  go_enter Try.func25, Try.ntmps25
  go_wp2_with (go_at_call 43; refine (inRange_any _ _ _ _).mono ?_; rintro e w' ⟨rfl, hw⟩; have hw := hw.symm; subst hw; rw [c0])
  go_loopw [12] (fun i wr => ∃ (k : Nat) (v : Value), k ≤ n ∧ i = .int .i64 k ∧ FnS w wr v (newMs k)) (fun i _ => n - (intOf i).toNat)
  case atStart =>
    exact ⟨0, .slice none 0 0, Nat.zero_le _, rfl, (Bx.new w [_, _, _, _] _).alloc _, Bx.newAt (by simp), AppB.nil _ _ _ _, ((Below.refl _ _).alloc (Nat.le_refl _) _).alloc (by simp) _, by simp⟩
  case round =>
    obtain ⟨k, v, hk, rfl, hS⟩ := hrel
    have HS := Hid.intro hS
    by_cases hlt : k < n
    · have hlt' : (k : Int) < (n : Int) := by omega
      have HML := Hid.intro (newMs_len k)
      have HPT := Hid.intro (newMs_succ k)
      obtain ⟨M, hM⟩ : ∃ M, M = newMs k := ⟨_, rfl⟩
      rw [← hM] at HS HPT HML
      have hml : M.length ≤ 1000 := by have := HML.out; omega
      clear hM hS
      have hS3 := HS.out.next (Go.Joins.below_alloc1 wr (.cells #[.int .i64 (k : Int), .int .i64 1, .slice none 0 0, .int .i64 0] 37))
      obtain ⟨xs, B, ho, hR⟩ := hS3.2.2.1
      have HR : Hid (FnS w (wr.alloc (.cells #[.int .i64 (k : Int), .int .i64 1, .slice none 0 0, .int .i64 0] 37)) v M ∧ AppR (wr.alloc (.cells #[.int .i64 (k : Int), .int .i64 1, .slice none 0 0, .int .i64 0] 37)) (w.heap.size + 2) shMember v M xs B ∧ (wr.alloc (.cells #[.int .i64 (k : Int), .int .i64 1, .slice none 0 0, .int .i64 0] 37)).ownsRow (w.heap.size + 2) 37 4 v M.length xs) := ⟨hS3, hR, ho⟩
      have HNW := Hid.intro (cells_new wr [.int .i64 (k : Int), .int .i64 1, .slice none 0 0, .int .i64 0] 37)
      have hzb : w.heap.size + 2 ≤ wr.heap.size := HS.out.2.2.2.2
      have s0 := (HS.out.2.1).cell 0 rfl; have s1 := (HS.out.2.1).cell 1 rfl; have s2 := (HS.out.2.1).cell 2 rfl; have s3 := (HS.out.2.1).cell 3 rfl; have sz := (HS.out.2.1).2
      clear hS3 ho hR
      go_wp2_with (first | (at_builtin; refine wpList_append_own_at _ rfl (.tmp 16) (.tmp 19) 26 rfl (w.heap.size + 2) 37 i0 (.agg #[.int .i64 0, .int .i64 0, .slice none 0 0, .int .i64 0]) 4 48 Try.underlying26 hi0 hz0 hz1 hz2 rfl (by decide) v M.length (xs) rfl (HR.out.2.2) ⟨wr.heap.size, 0, none⟩ 1 1 [.int .i64 (k : Int), .int .i64 1, .slice none 0 0, .int .i64 0] rfl rfl (HNW.out) (by intro u hu; simp at hu; rcases hu with rfl | rfl | rfl | rfl <;> rfl) (by unfold maxLen; omega) (by omega) (by simp <;> omega) ?_; intro v9 w9 hown9 hgrow9 hnil9 hwh9; have HF := Hid.intro (FnS.app HR.out.1 HR.out.2.1 HR.out.2.2 hown9 hgrow9 hwh9); obtain ⟨a9, c9, hv9, _, _⟩ := HF.out.1.2.2.1.own; rw [List.length_append, List.length_singleton] at hv9; subst hv9; clear s0 s1 s2 s3 sz; have r0 := HF.out.2.cell 0 rfl; have r1 := HF.out.2.cell 1 rfl; have r2 := HF.out.2.cell 2 rfl; have r3 := HF.out.2.cell 3 rfl; have rz := HF.out.2.2; have q2 := HF.out.2.frz 2 (by simp); clear hown9 hgrow9 hnil9 hwh9))
      go_roundw
      case rel => exact ⟨k + 1, _, by omega, by go_num, by rw [HPT.out]; exact HF.out.1⟩
      case measure => simp [intOf]; omega
    · have hkn : k = n := by omega
      subst hkn
      obtain ⟨av, cv, hve, hO⟩ := hS.done (set4 wr w.heap.size (.int .i64 1) (.int .i64 0) v (.slice none 0 0))
      subst hve
      have s0 := (hS.1).cell 0 rfl; have s1 := (hS.1).cell 1 rfl; have s2 := (hS.1).cell 2 rfl; have s3 := (hS.1).cell 3 rfl; have sz := (hS.1).2
      have f0 := hS.1.frz 0 (by simp)
      have f1 := hS.1.frz 1 (by simp)
      have f2 := hS.1.frz 2 (by simp)
      have f3 := hS.1.frz 3 (by simp)
      have p0 := (hS.2.1).cell 0 rfl; have p1 := (hS.2.1).cell 1 rfl; have p2 := (hS.2.1).cell 2 rfl; have p3 := (hS.2.1).cell 3 rfl; have pz := (hS.2.1).2
      have HF : Hid (Below w.heap.size w wr) := hS.2.2.2.1
      have HO := Hid.intro hO
      clear hS HS hO
      go_wp2
      refine bodyPost_ret (v := .tuple #[.agg #[.int .i64 1, .int .i64 0, .slice av (newMs k).length cv, .slice none 0 0], .bool true]) (by simp [results, Try.results25, go_sem, *]) rfl ?_
      exact ⟨[.int .i64 1, .int .i64 0, .slice av (newMs k).length cv, .slice none 0 0], rfl, HO.out, HF.out.trans ((set4 wr w.heap.size _ _ _ _).below (fun k e => Nat.le_of_eq e.symm) HF.out.size)⟩

theorem newFence_l (m : Int) (w : World) (EP DU : Int) (MS : List (Sh.T shMember)) (EN : List (Sh.T .int)) (z : Bool) (hA : partsN m EP DU MS EN z) : Calls Try.prog 25 #[.int .i64 m] w (AnsP shFence (EP, DU, MS, EN, ()) z w) := by
  obtain ⟨h1, h2, h3, h4, h5⟩ := hA
  subst h1 h2 h3 h4 h5
  exact newFence_n m w

theorem specNewFence_l (m : Int) (w : World) (EP DU : Int) (MS : List (Sh.T shMember)) (EN : List (Sh.T .int)) (z : Bool) (hA : partsN m EP DU MS EN z) : Calls Try.prog 24 #[.int .i64 m] w (AnsP shFence (EP, DU, MS, EN, ()) z w) := by
  obtain ⟨h1, h2, h3, h4, h5⟩ := hA
  subst h1 h2 h3 h4 h5
  exact specNewFence_n m w

end Go.Proofs.Ytcbdlalpnlahcaa
