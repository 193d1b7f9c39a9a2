/- Fences: a new one, on the specification's side. -/
import Derived.Test.YtcbdlalpnlahcaaFeA
import Derived.Test.YtcbdlalpnlahcaaShB
import Derived.Test.YtcbdlalpnlahcaaNtT
import Derived.Test.YtcbdlalpnlahcaaShM
namespace Go.Proofs.Ytcbdlalpnlahcaa
open Go.RowKit
set_option linter.unusedVariables false
set_option linter.unusedSimpArgs false

def mkMem (i : Nat) : Sh.T shMember := ((i : Int), 1, [], 0, ())
def newMs (n : Nat) : List (Sh.T shMember) := (List.range n).map mkMem
theorem newMs_succ (n : Nat) : newMs (n + 1) = newMs n ++ [mkMem n] := by unfold newMs; rw [List.range_succ, List.map_append]; rfl
theorem newMs_len (n : Nat) : (newMs n).length = n := by unfold newMs; simp
/-- What a new fence is. -/
noncomputable def nfE (m : Int) : Int := if tf (1 ≤ m ∧ m ≤ 8) then 1 else 0
noncomputable def nfM (m : Int) : List (Sh.T shMember) := if tf (1 ≤ m ∧ m ≤ 8) then newMs m.toNat else []
theorem nf_none {m : Int} (h : ¬ (1 ≤ m ∧ m ≤ 8)) : nfE m = 0 ∧ nfM m = [] ∧ tf (1 ≤ m ∧ m ≤ 8) = false := by unfold nfE nfM; rw [tf_no h]; exact ⟨rfl, rfl, rfl⟩
theorem nf_some {m : Int} (h : 1 ≤ m ∧ m ≤ 8) : nfE m = 1 ∧ nfM m = newMs m.toNat ∧ tf (1 ≤ m ∧ m ≤ 8) = true := by unfold nfE nfM; rw [tf_yes h]; exact ⟨rfl, rfl, rfl⟩
abbrev feZ : List Value := [.int .i64 0, .int .i64 0, .slice none 0 0, .slice none 0 0]
theorem own_feZ {w : World} {S : Nat → Prop} : Own w shFence [.int .i64 0, .int .i64 0, .slice none 0 0, .slice none 0 0] (0, 0, [], [], ()) S :=
  mkown_Fence (x0 := 0) (x1 := 0) (Own.none (S := fun _ => False) (Nat.zero_le _)) (Own.none (S := fun _ => False) (Nat.zero_le _)) (fun k e => e.elim) (fun k e => e.elim) (fun k e => e.elim)
/-- Between the rounds: the answer's cells, the variable f. -/
def FnS (w wr : World) (v : Value) (l : List (Sh.T shMember)) : Prop :=
  Bx wr w.heap.size [.int .i64 0, .int .i64 0, .slice none 0 0, .slice none 0 0] ∧ Bx wr (w.heap.size + 1) [.int .i64 1, .int .i64 0, v, .slice none 0 0] ∧ AppB wr (w.heap.size + 2) 37 shMember v l ∧ Below w.heap.size w wr ∧ w.heap.size + 2 ≤ wr.heap.size
theorem FnS.next {w wr wr' : World} {v : Value} {l : List (Sh.T shMember)} (h : FnS w wr v l) (hb : Below wr.heap.size wr wr') : FnS w wr' v l :=
  ⟨h.1.next hb, h.2.1.next hb, h.2.2.1.next hb, below_next h.2.2.2.1 hb, Nat.le_trans h.2.2.2.2 hb.size⟩
theorem own_mkMem {w : World} {i : Nat} {S : Nat → Prop} : Own w shMember [.int .i64 (i : Int), .int .i64 1, .slice none 0 0, .int .i64 0] (mkMem i) S :=
  mkown_Member (x0 := (i : Int)) (x1 := 1) (x3 := 0) (Own.none (S := fun _ => False) (Nat.zero_le _)) (fun k e => e.elim)
theorem FnS.app {w W W9 : World} {v v9 : Value} {l : List (Sh.T shMember)} {xs : List Value} {B : Nat → Nat → Prop} {i : Nat} (h : FnS w W v l) (hR : AppR W (w.heap.size + 2) shMember v l xs B) (ho : W.ownsRow (w.heap.size + 2) 37 4 v l.length xs)
    (h2 : W9.ownsRow (w.heap.size + 2) 37 4 v9 (l.length + 1) (xs ++ [.int .i64 (i : Int), .int .i64 1, .slice none 0 0, .int .i64 0])) (hg : W.grownBy W9 v.ownBlock) (hwh : v9.ownBlock = v.ownBlock ∨ v9.ownBlock = some W.heap.size) :
    FnS w (W9.setCell ⟨w.heap.size + 1, 2, none⟩ v9) v9 (l ++ [mkMem i]) ∧ Bx W9 (w.heap.size + 1) [.int .i64 1, .int .i64 0, v, .slice none 0 0] := by
  have hlt : ∀ k, v.ownBlock = some k → w.heap.size + 2 ≤ k := fun k hk => (ho.lt k hk).1
  have hA : AppB W9 (w.heap.size + 2) 37 shMember v9 (l ++ [mkMem i]) := AppR.app (ec := [.int .i64 (i : Int), .int .i64 1, .slice none 0 0, .int .i64 0]) hR ho (Below.refl _ _) rfl h.2.2.2.2 own_mkMem h2 hg hwh
  have h0 := h.1.grow hg (fun q => by have := hlt _ q.symm; omega)
  have h3 := h.2.1.grow hg (fun q => by have := hlt _ q.symm; omega)
  have hB : Below w.heap.size w W9 := h.2.2.2.1.grown hg h.2.2.2.1.size (fun k hk => by have := hlt k hk; omega)
  exact ⟨⟨h0.other (by omega), h3.set (k := 2) (by simp) v9, hA.other (p := ⟨w.heap.size + 1, 2, none⟩) (by simp) _, hB.setCell (p := ⟨w.heap.size + 1, 2, none⟩) (by simp) _, by have := hg.size; have := h.2.2.2.2; simp; omega⟩, h3⟩
theorem FnS.done {w wr W : World} {v : Value} {l : List (Sh.T shMember)} (h : FnS w wr v l) (hW : TurnS (fun k => k = w.heap.size) wr W) : ∃ a cap, v = .slice a l.length cap ∧ Own W shFence [.int .i64 1, .int .i64 0, .slice a l.length cap, .slice none 0 0] (1, 0, l, [], ()) (Btw w.heap.size W.heap.size) := by
  obtain ⟨a, cap, e, _, hO⟩ := (h.2.2.1.turn hW (fun k e => by omega)).own
  refine ⟨a, cap, e, ?_⟩
  exact mkown_Fence (x0 := 1) (x1 := 0) hO (Own.none (S := fun _ => False) (Nat.zero_le _)) (fun k e => by simp only [Btw] at e ⊢; omega) (fun k e => e.elim) (fun k e f => f.elim)
theorem set4 (W : World) (g : Nat) (u0 u1 u2 u3 : Value) : TurnS (fun k => k = g) W ((((W.setCell ⟨g, 0, none⟩ u0).setCell ⟨g, 1, none⟩ u1).setCell ⟨g, 2, none⟩ u2).setCell ⟨g, 3, none⟩ u3) :=
  ((((TurnS.refl (fun k => k = g) W).set (S := fun k => k = g) (p := ⟨g, 0, none⟩) rfl _).set (S := fun k => k = g) (p := ⟨g, 1, none⟩) rfl _).set (S := fun k => k = g) (p := ⟨g, 2, none⟩) rfl _).set (S := fun k => k = g) (p := ⟨g, 3, none⟩) rfl _

set_option maxRecDepth 100000 in
set_option maxHeartbeats 4000000 in
theorem specNewFence_n (m : Int) (w : World) : Calls Try.prog 24 #[.int .i64 m] w (AnsP shFence (nfE m, 0, nfM m, [], ()) (tf (1 ≤ m ∧ m ≤ 8)) w) := by
  cases c0 : inR m 1 8
  · obtain ⟨e1, e2, e3⟩ := nf_none (m := m) (fun q => by rw [inR_iff.2 q] at c0; cases c0)
    rw [e1, e2, e3]
    clear e1 e2 e3
    go_enter Try.func24, Try.ntmps24
    go_wp2_with (go_at_call 46; refine (l1In_any _ _ _ _).mono ?_; rintro e w' ⟨rfl, hw⟩; have hw := hw.symm; subst hw; rw [c0])
    exact bodyPost_ret (v := .tuple #[.agg #[.int .i64 0, .int .i64 0, .slice none 0 0, .slice none 0 0], .bool false]) (by simp [results, Try.results24, go_sem, *]) rfl ⟨[.int .i64 0, .int .i64 0, .slice none 0 0, .slice none 0 0], rfl, own_feZ, (by repeat (first | refine Below.setCell ?_ (by (try simp) <;> omega) _ | refine Below.alloc ?_ (by (try simp) <;> omega) _ | refine Below.drew ?_ | assumption | exact Below.refl _ _ | refine Below.trans ?_ (Below.mono (by assumption) (by (try simp) <;> omega))))⟩
  have hb := inR_iff.1 c0
  obtain ⟨n, rfl⟩ : ∃ n : Nat, m = (n : Int) := ⟨m.toNat, by omega⟩
  obtain ⟨e1, e2, e3⟩ := nf_some hb
  rw [e1, e2, e3, Int.toNat_natCast]
  clear e1 e2 e3
  obtain ⟨i0, hi0, hz0, hz1, hz2⟩ := info_parts inf_Member
  go_enter Try.func24, Try.ntmps24
  go_wp2_with (go_at_call 46; refine (l1In_any _ _ _ _).mono ?_; rintro e w' ⟨rfl, hw⟩; have hw := hw.symm; subst hw; rw [c0])
  go_loopw [5] (fun i wr => ∃ (k : Nat) (v : Value), k ≤ n ∧ i = .int .i64 k ∧ FnS w wr v (newMs k)) (fun i _ => n - (intOf i).toNat)
  case atStart =>
    exact ⟨0, .slice none 0 0, Nat.zero_le _, rfl, (Bx.new w [_, _, _, _] _).alloc _, Bx.newAt (by simp), AppB.nil _ _ _ _, ((Below.refl _ _).alloc (Nat.le_refl _) _).alloc (by simp) _, by simp⟩
  case round =>
    obtain ⟨k, v, hk, rfl, hS⟩ := hrel
    have HS := Hid.intro hS
    by_cases hlt : k < n
    · have hlt' : (k : Int) < (n : Int) := by omega
      have HML := Hid.intro (newMs_len k)
      have HPT := Hid.intro (newMs_succ k)
      obtain ⟨M, hM⟩ : ∃ M, M = newMs k := ⟨_, rfl⟩
      rw [← hM] at HS HPT HML
      have hml : M.length ≤ 1000 := by have := HML.out; omega
      clear hM hS
      have hS3 := HS.out.next (Go.Joins.below_alloc1 wr (.cells #[.int .i64 (k : Int), .int .i64 1, .slice none 0 0, .int .i64 0] 37))
      obtain ⟨xs, B, ho, hR⟩ := hS3.2.2.1
      have HR : Hid (FnS w (wr.alloc (.cells #[.int .i64 (k : Int), .int .i64 1, .slice none 0 0, .int .i64 0] 37)) v M ∧ AppR (wr.alloc (.cells #[.int .i64 (k : Int), .int .i64 1, .slice none 0 0, .int .i64 0] 37)) (w.heap.size + 2) shMember v M xs B ∧ (wr.alloc (.cells #[.int .i64 (k : Int), .int .i64 1, .slice none 0 0, .int .i64 0] 37)).ownsRow (w.heap.size + 2) 37 4 v M.length xs) := ⟨hS3, hR, ho⟩
      have HNW := Hid.intro (cells_new wr [.int .i64 (k : Int), .int .i64 1, .slice none 0 0, .int .i64 0] 37)
      have hzb : w.heap.size + 2 ≤ wr.heap.size := HS.out.2.2.2.2
      have s0 := (HS.out.2.1).cell 0 rfl; have s1 := (HS.out.2.1).cell 1 rfl; have s2 := (HS.out.2.1).cell 2 rfl; have s3 := (HS.out.2.1).cell 3 rfl; have sz := (HS.out.2.1).2
      clear hS3 ho hR
      go_wp2_with (first | (at_builtin; refine wpList_append_own_at _ rfl (.tmp 17) (.tmp 20) 26 rfl (w.heap.size + 2) 37 i0 (.agg #[.int .i64 0, .int .i64 0, .slice none 0 0, .int .i64 0]) 4 48 Try.underlying26 hi0 hz0 hz1 hz2 rfl (by decide) v M.length (xs) rfl (HR.out.2.2) ⟨wr.heap.size, 0, none⟩ 1 1 [.int .i64 (k : Int), .int .i64 1, .slice none 0 0, .int .i64 0] rfl rfl (HNW.out) (by intro u hu; simp at hu; rcases hu with rfl | rfl | rfl | rfl <;> rfl) (by unfold maxLen; omega) (by omega) (by simp <;> omega) ?_; intro v9 w9 hown9 hgrow9 hnil9 hwh9; have HF := Hid.intro (FnS.app HR.out.1 HR.out.2.1 HR.out.2.2 hown9 hgrow9 hwh9); obtain ⟨a9, c9, hv9, _, _⟩ := HF.out.1.2.2.1.own; rw [List.length_append, List.length_singleton] at hv9; subst hv9; clear s0 s1 s2 s3 sz; have r0 := HF.out.2.cell 0 rfl; have r1 := HF.out.2.cell 1 rfl; have r2 := HF.out.2.cell 2 rfl; have r3 := HF.out.2.cell 3 rfl; have rz := HF.out.2.2; have q2 := HF.out.2.frz 2 (by simp); clear hown9 hgrow9 hnil9 hwh9))
      go_roundw
      case rel => exact ⟨k + 1, _, by omega, by go_num, by rw [HPT.out]; exact HF.out.1⟩
      case measure => simp [intOf]; omega
    · have hkn : k = n := by omega
      subst hkn
      obtain ⟨av, cv, hve, hO⟩ := hS.done (set4 wr w.heap.size (.int .i64 1) (.int .i64 0) v (.slice none 0 0))
      subst hve
      have s0 := (hS.1).cell 0 rfl; have s1 := (hS.1).cell 1 rfl; have s2 := (hS.1).cell 2 rfl; have s3 := (hS.1).cell 3 rfl; have sz := (hS.1).2
      have f0 := hS.1.frz 0 (by simp)
      have f1 := hS.1.frz 1 (by simp)
      have f2 := hS.1.frz 2 (by simp)
      have f3 := hS.1.frz 3 (by simp)
      have p0 := (hS.2.1).cell 0 rfl; have p1 := (hS.2.1).cell 1 rfl; have p2 := (hS.2.1).cell 2 rfl; have p3 := (hS.2.1).cell 3 rfl; have pz := (hS.2.1).2
      have HF : Hid (Below w.heap.size w wr) := hS.2.2.2.1
      have HO := Hid.intro hO
      clear hS HS hO
      go_wp2
      refine bodyPost_ret (v := .tuple #[.agg #[.int .i64 1, .int .i64 0, .slice av (newMs k).length cv, .slice none 0 0], .bool true]) (by simp [results, Try.results24, go_sem, *]) rfl ?_
      exact ⟨[.int .i64 1, .int .i64 0, .slice av (newMs k).length cv, .slice none 0 0], rfl, HO.out, HF.out.trans ((set4 wr w.heap.size _ _ _ _).below (fun k e => Nat.le_of_eq e.symm) HF.out.size)⟩

end Go.Proofs.Ytcbdlalpnlahcaa
