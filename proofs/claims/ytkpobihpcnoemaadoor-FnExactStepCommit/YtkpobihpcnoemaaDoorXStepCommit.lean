/- At every argument impl.StepCommit answers as the specification does, field by field, writes into no argument, its answer owns its memory, and each argument reads behind the call as it read before. No condition. -/
import Derived.Test.YtkpobihpcnoemaaDoorGaH
import Derived.Test.YtkpobihpcnoemaaDoorShD
import Derived.Test.YtkpobihpcnoemaaDoorNtZ
import Derived.Test.YtkpobihpcnoemaaDoorNtT
import Derived.Test.YtkpobihpcnoemaaDoorNtE
import Derived.Test.YtkpobihpcnoemaaDoorNtO
import Derived.Test.YtkpobihpcnoemaaDoorNtM
import Derived.Test.YtkpobihpcnoemaaDoorNtH
import Derived.LaidLaws
import Derived.RowKitTokens
import Derived.ChangeVars
import Derived.ChangeSame
import Derived.JoinedOf
import Derived.Stop.LaidErr
import Derived.SevenTiedAt
import Derived.Test.YtkpobihpcnoemaaDoorTie
import Derived.Test.YtkpobihpcnoemaaDoorCards
import Derived.Test.YtkpobihpcnoemaaDoorWords
import Derived.ProofKit
import Derived.OpenShut
import Derived.ShutString
import Derived.ChangeOld
import Derived.Below
import Derived.Lib.SmallJoins
namespace Go.Proofs.YtkpobihpcnoemaaDoor.xStepCommit
open Go.ChangeShapes Go.WideShapes Go.ChangeAt Go.RowKit
open Go.ChangeMaps (open_string shut_string)
set_option linter.unusedVariables false

set_option maxRecDepth 100000 in
set_option maxHeartbeats 4000000 in
theorem walk (w : World) (hfl : Flt w) (cs0 : List Value) (X0 : Sh.T shCommit) (li0 : Lies w shCommit cs0 X0) (fi0 : Fits shCommit X0) (cs1 : List Value) (X1 : Sh.T shCommitStep) (li1 : Lies w shCommitStep cs1 X1) (fi1 : Fits shCommitStep X1) :
    Calls Tryd.prog 5 #[.agg cs0.toArray, .agg cs1.toArray] w fun r w' => r = .returned (.bool true) ∧ Below w.heap.size w w' := by
  have HFL := Hid.intro hfl
  clear hfl
  obtain ⟨ss, dr, rc, ⟨⟩⟩ := X0
  obtain ⟨a0_1, k0_1, rfl, l0_1⟩ := lies_Commit li0
  have HL0 : Hid (Lies w shCommit [.slice a0_1 ss.length k0_1, .int .i64 dr, .int .i64 rc] (ss, dr, rc, ())) := li0
  have HF0 : Hid (Fits shCommit (ss, dr, rc, ())) := fi0
  clear li0 fi0 l0_1
  obtain ⟨sk, si, sj, ⟨⟩⟩ := X1
  obtain rfl := lies_CommitStep li1
  have HL1 : Hid (Lies w shCommitStep [.int .i64 sk, .int .i64 si, .int .i64 sj] (sk, si, sj, ())) := li1
  have HF1 : Hid (Fits shCommitStep (sk, si, sj, ())) := fi1
  clear li1 fi1
  obtain ⟨NS, nd, nr, z, hA⟩ : ∃ NS nd nr z, partsC (stS ss dr rc sk si sj) NS nd nr z := ⟨_, _, _, _, rfl, rfl, rfl, rfl⟩
  have HA : Hid (partsC (stS ss dr rc sk si sj) NS nd nr z) := hA
  clear hA
  go_enter Tryd.func5, Tryd.ntmps5
  go_wp2_with fail
  obtain ⟨w1, hw1⟩ : ∃ x, x = w.alloc (.cells #[.slice a0_1 ss.length k0_1, .int .i64 dr, .int .i64 rc] 54) := ⟨_, rfl⟩
  have hb : Below w.heap.size w w1 := hw1 ▸ Go.Joins.below_alloc1 _ _
  have HB1 : Hid (Below w.heap.size w w1) := below_next (Below.refl _ _) hb
  have sz1 : w.heap.size < w1.heap.size := by rw [hw1]; simp
  have A0_1 : Hid (Bx w1 w.heap.size [.slice a0_1 ss.length k0_1, .int .i64 dr, .int .i64 rc]) := hw1 ▸ Bx.new w [.slice a0_1 ss.length k0_1, .int .i64 dr, .int .i64 rc] _
  have HZ1 : Hid (w1.heap.size = w.heap.size + 1) := Hid.intro (by rw [hw1]; simp)
  rw [← hw1]
  clear hb hw1 
  obtain ⟨w2, hw2⟩ : ∃ x, x = w1.alloc (.cells #[.int .i64 sk, .int .i64 si, .int .i64 sj] 55) := ⟨_, rfl⟩
  have hb : Below w1.heap.size w1 w2 := hw2 ▸ Go.Joins.below_alloc1 _ _
  have HB2 : Hid (Below w.heap.size w w2) := below_next HB1.out hb
  have sz2 : w1.heap.size < w2.heap.size := by rw [hw2]; simp
  have A0_2 : Hid (Bx w2 w.heap.size [.slice a0_1 ss.length k0_1, .int .i64 dr, .int .i64 rc]) := A0_1.out.next hb
  have A1_2 : Hid (Bx w2 (w.heap.size + 1) [.int .i64 sk, .int .i64 si, .int .i64 sj]) := hw2 ▸ Bx.newAt HZ1.out
  rw [← hw2]
  clear hb hw2 A0_1 HB1
  refine (szCommit_n [.slice a0_1 ss.length k0_1, .int .i64 dr, .int .i64 rc] ss dr rc _ _ (by omega) (by omega) HF0.out (HL0.out.next HB2.out)).mono ?_
  rintro r w3 ⟨⟨y0, rfl, hy0⟩, hb⟩
  have HB3 : Hid (Below w.heap.size w w3) := below_next HB2.out hb
  have sz3 : w2.heap.size ≤ w3.heap.size := hb.size
  have A0_3 : Hid (Bx w3 w.heap.size [.slice a0_1 ss.length k0_1, .int .i64 dr, .int .i64 rc]) := A0_2.out.next hb
  have A1_3 : Hid (Bx w3 (w.heap.size + 1) [.int .i64 sk, .int .i64 si, .int .i64 sj]) := A1_2.out.next hb
  clear hb A0_2 A1_2 HB2
  by_cases ng0 : y0 < 0
  · clear hy0
    go_wp2
    go_ret
    exact ⟨rfl, HB3.out⟩
  have HS0 : Hid (szD shCommit (ss, dr, rc, ()) ≤ 1073741824) := Hid.intro (by rcases hy0 with e | e <;> omega)
  have hb0 : 0 ≤ y0 ∧ y0 ≤ 1048576 := by rcases hy0 with e | e <;> omega
  clear hy0
  have HT : Hid (szD shCommit (NS, nd, nr, ()) ≤ 1073741824) := Hid.intro (partsC_sz HA.out HS0.out)
  obtain ⟨cn, hcn⟩ : ∃ c : Nat, c = cntT shCommit (NS, nd, nr, ()) := ⟨_, rfl⟩
  have HCN : Hid (cn = cntT shCommit (NS, nd, nr, ())) := hcn
  have hcb : cn ≤ 100000000000 := by rw [hcn]; exact cnt_cm HT.out
  clear hcn
  have hng : ¬ (1 + (cn : Int)) < 0 := by omega
  obtain ⟨cx, hcx⟩ : ∃ c : Nat, c = cntT shCommit (ss, dr, rc, ()) := ⟨_, rfl⟩
  have HCX : Hid (cx = cntT shCommit (ss, dr, rc, ())) := hcx
  have hcxb : cx ≤ 100000000000 := by rw [hcx]; exact cnt_cm HS0.out
  have hnx : ¬ (1 + (cx : Int)) < 0 := by omega
  clear hcx
  go_upto_region 5 with fail
  go_cut [6, 7] (fun s6 s7 wx => ∃ (b : Nat) (a3_1 : Option Addr) (k3_1 : Nat) (lo hi : Nat), s6 = .pointer (some ⟨b, 0, none⟩) ∧ s7 = .bool z ∧ Bx wx b [.slice a3_1 NS.length k3_1, .int .i64 nd, .int .i64 nr] ∧ Own wx shCommit [.slice a3_1 NS.length k3_1, .int .i64 nd, .int .i64 nr] (NS, nd, nr, ()) (Btw lo hi) ∧ w3.heap.size ≤ lo ∧ lo ≤ hi ∧ hi ≤ wx.heap.size ∧ w3.heap.size ≤ b ∧ b < wx.heap.size ∧ (b < lo ∨ hi ≤ b) ∧ Below w3.heap.size w3 wx)
  case first =>
    have hb : Below w3.heap.size w3 w3.drew := below_drew _
    have HD : Hid (Bx w3.drew w.heap.size [.slice a0_1 ss.length k0_1, .int .i64 dr, .int .i64 rc] ∧ Bx w3.drew (w.heap.size + 1) [.int .i64 sk, .int .i64 si, .int .i64 sj] ∧ Below w3.heap.size w3 w3.drew) := ⟨A0_3.out.next hb, A1_3.out.next hb, hb⟩
    clear hb
    refine wp_region_noPanic ?_
    refine wp_region_held_drew (S := fun W => Bx W w.heap.size [.slice a0_1 ss.length k0_1, .int .i64 dr, .int .i64 rc] ∧ Bx W (w.heap.size + 1) [.int .i64 sk, .int .i64 si, .int .i64 sj]) (by kernel_rfl) ⟨HD.out.1, HD.out.2.1⟩ (fun hHeld => ?_)
    obtain ⟨X0, hX0⟩ : ∃ x, x = w3.drew := ⟨_, rfl⟩
    rw [← hX0] at HD hHeld ⊢
    clear hX0
    refine take_v (v := ?_) 0 ⟨some 22, Op.load 54 (Operand.tmp 2), _, _, _, none⟩ rfl (fun _ _ _ h => h) ?_ hHeld ?_
    rotate_left
    · (intro W hSW; (have s0_0 := hSW.1.cell 0 rfl; have s0_1 := hSW.1.cell 1 rfl; have s0_2 := hSW.1.cell 2 rfl; have s0z := hSW.1.2; have s1_0 := hSW.2.cell 0 rfl; have s1_1 := hSW.2.cell 1 rfl; have s1_2 := hSW.2.cell 2 rfl; have s1z := hSW.2.2); go_simp <;> (try with_reducible rfl))
    refine take_v (v := ?_) 2 ⟨some 24, Op.load 55 (Operand.tmp 3), _, _, _, none⟩ rfl (fun _ _ _ h => h) ?_ hHeld ?_
    rotate_left
    · (intro W hSW; (have s0_0 := hSW.1.cell 0 rfl; have s0_1 := hSW.1.cell 1 rfl; have s0_2 := hSW.1.cell 2 rfl; have s0z := hSW.1.2; have s1_0 := hSW.2.cell 0 rfl; have s1_1 := hSW.2.cell 1 rfl; have s1_2 := hSW.2.cell 2 rfl; have s1z := hSW.2.2); go_simp <;> (try with_reducible rfl))
    refine ready_two 1 8 ⟨some 23, Op.call { callee := Callee.value (Operand.func 19), args := #[Operand.tmp 22], argTypes := #[54] }, _, _, _, none⟩ ⟨some 6, Op.alloc 29, _, _, _, none⟩ (by kernel_rfl) rfl rfl (by kernel_rfl) (by kernel_rfl) (fun KC hK => ?_) (fun KC hK => ?_)
    ·
      go_wp2_with fail
      refine (toCommit_n [.slice a0_1 ss.length k0_1, .int .i64 dr, .int .i64 rc] ss dr rc _ HS0.out (HL0.out.next (below_next HB3.out HD.out.2.2))).mono ?_
      rintro r W1 ⟨cs9, rfl, ho, hb⟩
      obtain ⟨p1_1, q1_1, _, hev, _⟩ := own_Commit ho
      subst hev
      (first | (have HO1 := Hid.intro (HO1.out.next hb)) | skip); (first | (have HO2 := Hid.intro (HO2.out.next hb)) | skip)
      have HO1 := Hid.intro ho.lies
      have HD := (show Hid (Bx W1 w.heap.size [.slice a0_1 ss.length k0_1, .int .i64 dr, .int .i64 rc] ∧ Bx W1 (w.heap.size + 1) [.int .i64 sk, .int .i64 si, .int .i64 sj] ∧ Below w3.heap.size w3 W1) from ⟨HD.out.1.next hb, HD.out.2.1.next hb, below_next HD.out.2.2 hb⟩)
      (first | (have H8 := (show Hid (Bx W1 b8 [.slice none 0 0, .int .i64 0, .int .i64 0] ∧ w3.heap.size ≤ b8) from ⟨H8.out.1.next hb, H8.out.2⟩)) | skip)
      clear ho hb
      refine hK.out _ _ ⟨HD.out.1, HD.out.2.1⟩ (fun hHeld => ?_)
      clear hK KC
      refine ready_two 3 8 ⟨some 25, Op.call { callee := Callee.value (Operand.func 20), args := #[Operand.tmp 24], argTypes := #[55] }, _, _, _, none⟩ ⟨some 6, Op.alloc 29, _, _, _, none⟩ (by kernel_rfl) rfl rfl (by kernel_rfl) (by kernel_rfl) (fun KC hK => ?_) (fun KC hK => ?_)
      ·
        go_wp2_with fail
        refine (toCommitStep_n [.int .i64 sk, .int .i64 si, .int .i64 sj] sk si sj _ (by first | (show _ ≤ 1073741824; decide) | (simp [szD]) | (exact Nat.zero_le _)) (HL1.out.next (below_next HB3.out HD.out.2.2))).mono ?_
        rintro r W2 ⟨cs9, rfl, ho, hb⟩
        obtain hev := own_CommitStep ho
        subst hev
        (first | (have HO1 := Hid.intro (HO1.out.next hb)) | skip); (first | (have HO2 := Hid.intro (HO2.out.next hb)) | skip)
        have HO2 := Hid.intro ho.lies
        have HD := (show Hid (Bx W2 w.heap.size [.slice a0_1 ss.length k0_1, .int .i64 dr, .int .i64 rc] ∧ Bx W2 (w.heap.size + 1) [.int .i64 sk, .int .i64 si, .int .i64 sj] ∧ Below w3.heap.size w3 W2) from ⟨HD.out.1.next hb, HD.out.2.1.next hb, below_next HD.out.2.2 hb⟩)
        (first | (have H8 := (show Hid (Bx W2 b8 [.slice none 0 0, .int .i64 0, .int .i64 0] ∧ w3.heap.size ≤ b8) from ⟨H8.out.1.next hb, H8.out.2⟩)) | skip)
        clear ho hb
        refine hK.out _ _ ⟨HD.out.1, HD.out.2.1⟩ (fun hHeld => ?_)
        clear hK KC
        refine ready_two 4 8 ⟨some 26, Op.call { callee := Callee.value (Operand.func 17), args := #[Operand.tmp 23, Operand.tmp 25], argTypes := #[29, 48] }, _, _, _, none⟩ ⟨some 6, Op.alloc 29, _, _, _, none⟩ (by kernel_rfl) rfl rfl (by kernel_rfl) (by kernel_rfl) (fun KC hK => ?_) (fun KC hK => ?_)
        ·
          go_wp2_with fail
          refine (specStepCommit_l [.slice p1_1 ss.length q1_1, .int .i64 dr, .int .i64 rc] ss dr rc sk si sj _ NS nd nr z HA.out HS0.out HO1.out).mono ?_
          intro r W9 hT
          obtain ⟨cs9, lo, hi, rfl, ho, hlo, hlh, hhi, hb⟩ := ansG_out hT
          obtain ⟨a3_1, k3_1, _, hev, _⟩ := own_Commit ho
          subst hev
          have hol : w3.heap.size ≤ lo := Nat.le_trans HD.out.2.2.size hlo
          (first | (have HO9 := (show Hid (Own W9 shCommit [.slice a3_1 NS.length k3_1, .int .i64 nd, .int .i64 nr] (NS, nd, nr, ()) (Btw lo hi) ∧ w3.heap.size ≤ lo ∧ lo ≤ hi ∧ hi ≤ W9.heap.size ∧ (b8 < lo ∨ hi ≤ b8)) from ⟨ho, hol, hlh, hhi, Or.inl (Nat.lt_of_lt_of_le H8.out.1.2 hlo)⟩)) | (have HO9 := (show Hid (Own W9 shCommit [.slice a3_1 NS.length k3_1, .int .i64 nd, .int .i64 nr] (NS, nd, nr, ()) (Btw lo hi) ∧ w3.heap.size ≤ lo ∧ lo ≤ hi ∧ hi ≤ W9.heap.size) from ⟨ho, hol, hlh, hhi⟩)))
          have HD := (show Hid (Bx W9 w.heap.size [.slice a0_1 ss.length k0_1, .int .i64 dr, .int .i64 rc] ∧ Bx W9 (w.heap.size + 1) [.int .i64 sk, .int .i64 si, .int .i64 sj] ∧ Below w3.heap.size w3 W9) from ⟨HD.out.1.next hb, HD.out.2.1.next hb, below_next HD.out.2.2 hb⟩)
          (first | (have H8 := (show Hid (Bx W9 b8 [.slice none 0 0, .int .i64 0, .int .i64 0] ∧ w3.heap.size ≤ b8) from ⟨H8.out.1.next hb, H8.out.2⟩)) | skip)
          clear ho hlo hlh hhi hol hb hT
          refine hK.out _ _ ⟨HD.out.1, HD.out.2.1⟩ (fun hHeld => ?_)
          clear hK KC
          refine take_v (v := ?_) 5 ⟨some 21, Op.move (Operand.tmp 26), _, _, _, none⟩ rfl (fun _ _ _ h => h) ?_ hHeld ?_
          rotate_left
          · (intro W _; go_simp <;> (try with_reducible rfl))
          refine take_v (v := ?_) 6 ⟨some 27, Op.extract (Operand.tmp 21) 0, _, _, _, none⟩ rfl (fun _ _ _ h => h) ?_ hHeld ?_
          rotate_left
          · (intro W _; go_simp <;> (try with_reducible rfl))
          refine take_v (v := ?_) 7 ⟨some 28, Op.extract (Operand.tmp 21) 1, _, _, _, none⟩ rfl (fun _ _ _ h => h) ?_ hHeld ?_
          rotate_left
          · (intro W _; go_simp <;> (try with_reducible rfl))
          refine ready_call 8 ⟨some 6, Op.alloc 29, _, _, _, none⟩ (by kernel_rfl) rfl (by kernel_rfl) (fun KC hK => ?_)
          go_wp2_with fail
          (first | (obtain ⟨W8, hW8⟩ : ∃ x, x = W9.alloc (.cells #[.slice none 0 0, .int .i64 0, .int .i64 0] 29) := ⟨_, rfl⟩; have hb : Below W9.heap.size W9 W8 := hW8 ▸ Go.Joins.below_alloc1 _ _; obtain ⟨b8, hb8⟩ : ∃ b, b = W9.heap.size := ⟨_, rfl⟩; have H8 : Hid (Bx W8 b8 [.slice none 0 0, .int .i64 0, .int .i64 0] ∧ w3.heap.size ≤ b8) := ⟨hb8 ▸ hW8 ▸ Bx.new W9 [.slice none 0 0, .int .i64 0, .int .i64 0] _, by rw [hb8]; exact HD.out.2.2.size⟩; have HO9 := (show Hid (Own W8 shCommit [.slice a3_1 NS.length k3_1, .int .i64 nd, .int .i64 nr] (NS, nd, nr, ()) (Btw lo hi) ∧ w3.heap.size ≤ lo ∧ lo ≤ hi ∧ hi ≤ W8.heap.size ∧ (b8 < lo ∨ hi ≤ b8)) from ⟨HO9.out.1.next hb, HO9.out.2.1, HO9.out.2.2.1, Nat.le_trans HO9.out.2.2.2 hb.size, Or.inr (by rw [hb8]; exact HO9.out.2.2.2)⟩); have HD := (show Hid (Bx W8 w.heap.size [.slice a0_1 ss.length k0_1, .int .i64 dr, .int .i64 rc] ∧ Bx W8 (w.heap.size + 1) [.int .i64 sk, .int .i64 si, .int .i64 sj] ∧ Below w3.heap.size w3 W8) from ⟨HD.out.1.next hb, HD.out.2.1.next hb, below_next HD.out.2.2 hb⟩); rw [← hW8, ← hb8]; clear hW8 hb8 hb) | (obtain ⟨W8, hW8⟩ : ∃ x, x = W2.alloc (.cells #[.slice none 0 0, .int .i64 0, .int .i64 0] 29) := ⟨_, rfl⟩; have hb : Below W2.heap.size W2 W8 := hW8 ▸ Go.Joins.below_alloc1 _ _; obtain ⟨b8, hb8⟩ : ∃ b, b = W2.heap.size := ⟨_, rfl⟩; have H8 : Hid (Bx W8 b8 [.slice none 0 0, .int .i64 0, .int .i64 0] ∧ w3.heap.size ≤ b8) := ⟨hb8 ▸ hW8 ▸ Bx.new W2 [.slice none 0 0, .int .i64 0, .int .i64 0] _, by rw [hb8]; exact HD.out.2.2.size⟩; (first | (have HO1 := Hid.intro (HO1.out.next hb)) | skip); (first | (have HO2 := Hid.intro (HO2.out.next hb)) | skip); have HD := (show Hid (Bx W8 w.heap.size [.slice a0_1 ss.length k0_1, .int .i64 dr, .int .i64 rc] ∧ Bx W8 (w.heap.size + 1) [.int .i64 sk, .int .i64 si, .int .i64 sj] ∧ Below w3.heap.size w3 W8) from ⟨HD.out.1.next hb, HD.out.2.1.next hb, below_next HD.out.2.2 hb⟩); rw [← hW8, ← hb8]; clear hW8 hb8 hb) | (obtain ⟨W8, hW8⟩ : ∃ x, x = W1.alloc (.cells #[.slice none 0 0, .int .i64 0, .int .i64 0] 29) := ⟨_, rfl⟩; have hb : Below W1.heap.size W1 W8 := hW8 ▸ Go.Joins.below_alloc1 _ _; obtain ⟨b8, hb8⟩ : ∃ b, b = W1.heap.size := ⟨_, rfl⟩; have H8 : Hid (Bx W8 b8 [.slice none 0 0, .int .i64 0, .int .i64 0] ∧ w3.heap.size ≤ b8) := ⟨hb8 ▸ hW8 ▸ Bx.new W1 [.slice none 0 0, .int .i64 0, .int .i64 0] _, by rw [hb8]; exact HD.out.2.2.size⟩; (first | (have HO1 := Hid.intro (HO1.out.next hb)) | skip); (first | (have HO2 := Hid.intro (HO2.out.next hb)) | skip); have HD := (show Hid (Bx W8 w.heap.size [.slice a0_1 ss.length k0_1, .int .i64 dr, .int .i64 rc] ∧ Bx W8 (w.heap.size + 1) [.int .i64 sk, .int .i64 si, .int .i64 sj] ∧ Below w3.heap.size w3 W8) from ⟨HD.out.1.next hb, HD.out.2.1.next hb, below_next HD.out.2.2 hb⟩); rw [← hW8, ← hb8]; clear hW8 hb8 hb) | (obtain ⟨W8, hW8⟩ : ∃ x, x = X0.alloc (.cells #[.slice none 0 0, .int .i64 0, .int .i64 0] 29) := ⟨_, rfl⟩; have hb : Below X0.heap.size X0 W8 := hW8 ▸ Go.Joins.below_alloc1 _ _; obtain ⟨b8, hb8⟩ : ∃ b, b = X0.heap.size := ⟨_, rfl⟩; have H8 : Hid (Bx W8 b8 [.slice none 0 0, .int .i64 0, .int .i64 0] ∧ w3.heap.size ≤ b8) := ⟨hb8 ▸ hW8 ▸ Bx.new X0 [.slice none 0 0, .int .i64 0, .int .i64 0] _, by rw [hb8]; exact HD.out.2.2.size⟩; (first | (have HO1 := Hid.intro (HO1.out.next hb)) | skip); (first | (have HO2 := Hid.intro (HO2.out.next hb)) | skip); have HD := (show Hid (Bx W8 w.heap.size [.slice a0_1 ss.length k0_1, .int .i64 dr, .int .i64 rc] ∧ Bx W8 (w.heap.size + 1) [.int .i64 sk, .int .i64 si, .int .i64 sj] ∧ Below w3.heap.size w3 W8) from ⟨HD.out.1.next hb, HD.out.2.1.next hb, below_next HD.out.2.2 hb⟩); rw [← hW8, ← hb8]; clear hW8 hb8 hb))
          refine hK.out _ _ ⟨HD.out.1, HD.out.2.1⟩ (fun hHeld => ?_)
          clear hK KC
          refine ready_call 9 ⟨none, Op.store 29 (Operand.tmp 6) (Operand.tmp 27), _, _, _, none⟩ (by kernel_rfl) rfl (by kernel_rfl) (fun KC hK => ?_)
          have dz := H8.out.1.2
          have d0 := H8.out.1.cell 0 rfl
          have d1 := H8.out.1.cell 1 rfl
          have d2 := H8.out.1.cell 2 rfl
          have f0 := H8.out.1.frz 0 (by simp)
          have f1 := H8.out.1.frz 1 (by simp)
          have f2 := H8.out.1.frz 2 (by simp)
          have h8 := H8.out.2
          go_wp2_with fail
          have HF := Hid.intro (box_own3 (o := w3) H8.out.1 H8.out.2 HO9.out.1 HO9.out.2.2.2.2 HD.out.2.2 (.slice a3_1 NS.length k3_1) (.int .i64 nd) (.int .i64 nr))
          clear dz d0 f0 d1 f1 d2 f2
          refine hK.out _ _ ⟨(((HD.out.1.other (by omega)).other (by omega)).other (by omega)), (((HD.out.2.1.other (by omega)).other (by omega)).other (by omega))⟩ (fun hHeld => ?_)
          clear hK KC
          refine take_v (v := ?_) 10 ⟨some 7, Op.assign (Operand.tmp 28), _, _, _, none⟩ rfl (fun _ _ _ h => h) ?_ hHeld ?_
          rotate_left
          · (intro W _; go_simp <;> (try with_reducible rfl))
          refine wpAnyH_done (by kernel_rfl) ?_ _
          refine NoPanic.normal ?_
          clear hHeld
          go_wp2_with fail
          go_meet
          exact ⟨b8, a3_1, k3_1, lo, hi, rfl, rfl, HF.out.1, HF.out.2.1, HO9.out.2.1, HO9.out.2.2.1, by rw [HF.out.2.2.2]; exact HO9.out.2.2.2.1, H8.out.2, by rw [HF.out.2.2.2]; exact H8.out.1.2, HO9.out.2.2.2.2, HF.out.2.2.1⟩
        ·
          go_wp2_with fail
          (first | (obtain ⟨W8, hW8⟩ : ∃ x, x = W9.alloc (.cells #[.slice none 0 0, .int .i64 0, .int .i64 0] 29) := ⟨_, rfl⟩; have hb : Below W9.heap.size W9 W8 := hW8 ▸ Go.Joins.below_alloc1 _ _; obtain ⟨b8, hb8⟩ : ∃ b, b = W9.heap.size := ⟨_, rfl⟩; have H8 : Hid (Bx W8 b8 [.slice none 0 0, .int .i64 0, .int .i64 0] ∧ w3.heap.size ≤ b8) := ⟨hb8 ▸ hW8 ▸ Bx.new W9 [.slice none 0 0, .int .i64 0, .int .i64 0] _, by rw [hb8]; exact HD.out.2.2.size⟩; have HO9 := (show Hid (Own W8 shCommit [.slice a3_1 NS.length k3_1, .int .i64 nd, .int .i64 nr] (NS, nd, nr, ()) (Btw lo hi) ∧ w3.heap.size ≤ lo ∧ lo ≤ hi ∧ hi ≤ W8.heap.size ∧ (b8 < lo ∨ hi ≤ b8)) from ⟨HO9.out.1.next hb, HO9.out.2.1, HO9.out.2.2.1, Nat.le_trans HO9.out.2.2.2 hb.size, Or.inr (by rw [hb8]; exact HO9.out.2.2.2)⟩); have HD := (show Hid (Bx W8 w.heap.size [.slice a0_1 ss.length k0_1, .int .i64 dr, .int .i64 rc] ∧ Bx W8 (w.heap.size + 1) [.int .i64 sk, .int .i64 si, .int .i64 sj] ∧ Below w3.heap.size w3 W8) from ⟨HD.out.1.next hb, HD.out.2.1.next hb, below_next HD.out.2.2 hb⟩); rw [← hW8, ← hb8]; clear hW8 hb8 hb) | (obtain ⟨W8, hW8⟩ : ∃ x, x = W2.alloc (.cells #[.slice none 0 0, .int .i64 0, .int .i64 0] 29) := ⟨_, rfl⟩; have hb : Below W2.heap.size W2 W8 := hW8 ▸ Go.Joins.below_alloc1 _ _; obtain ⟨b8, hb8⟩ : ∃ b, b = W2.heap.size := ⟨_, rfl⟩; have H8 : Hid (Bx W8 b8 [.slice none 0 0, .int .i64 0, .int .i64 0] ∧ w3.heap.size ≤ b8) := ⟨hb8 ▸ hW8 ▸ Bx.new W2 [.slice none 0 0, .int .i64 0, .int .i64 0] _, by rw [hb8]; exact HD.out.2.2.size⟩; (first | (have HO1 := Hid.intro (HO1.out.next hb)) | skip); (first | (have HO2 := Hid.intro (HO2.out.next hb)) | skip); have HD := (show Hid (Bx W8 w.heap.size [.slice a0_1 ss.length k0_1, .int .i64 dr, .int .i64 rc] ∧ Bx W8 (w.heap.size + 1) [.int .i64 sk, .int .i64 si, .int .i64 sj] ∧ Below w3.heap.size w3 W8) from ⟨HD.out.1.next hb, HD.out.2.1.next hb, below_next HD.out.2.2 hb⟩); rw [← hW8, ← hb8]; clear hW8 hb8 hb) | (obtain ⟨W8, hW8⟩ : ∃ x, x = W1.alloc (.cells #[.slice none 0 0, .int .i64 0, .int .i64 0] 29) := ⟨_, rfl⟩; have hb : Below W1.heap.size W1 W8 := hW8 ▸ Go.Joins.below_alloc1 _ _; obtain ⟨b8, hb8⟩ : ∃ b, b = W1.heap.size := ⟨_, rfl⟩; have H8 : Hid (Bx W8 b8 [.slice none 0 0, .int .i64 0, .int .i64 0] ∧ w3.heap.size ≤ b8) := ⟨hb8 ▸ hW8 ▸ Bx.new W1 [.slice none 0 0, .int .i64 0, .int .i64 0] _, by rw [hb8]; exact HD.out.2.2.size⟩; (first | (have HO1 := Hid.intro (HO1.out.next hb)) | skip); (first | (have HO2 := Hid.intro (HO2.out.next hb)) | skip); have HD := (show Hid (Bx W8 w.heap.size [.slice a0_1 ss.length k0_1, .int .i64 dr, .int .i64 rc] ∧ Bx W8 (w.heap.size + 1) [.int .i64 sk, .int .i64 si, .int .i64 sj] ∧ Below w3.heap.size w3 W8) from ⟨HD.out.1.next hb, HD.out.2.1.next hb, below_next HD.out.2.2 hb⟩); rw [← hW8, ← hb8]; clear hW8 hb8 hb) | (obtain ⟨W8, hW8⟩ : ∃ x, x = X0.alloc (.cells #[.slice none 0 0, .int .i64 0, .int .i64 0] 29) := ⟨_, rfl⟩; have hb : Below X0.heap.size X0 W8 := hW8 ▸ Go.Joins.below_alloc1 _ _; obtain ⟨b8, hb8⟩ : ∃ b, b = X0.heap.size := ⟨_, rfl⟩; have H8 : Hid (Bx W8 b8 [.slice none 0 0, .int .i64 0, .int .i64 0] ∧ w3.heap.size ≤ b8) := ⟨hb8 ▸ hW8 ▸ Bx.new X0 [.slice none 0 0, .int .i64 0, .int .i64 0] _, by rw [hb8]; exact HD.out.2.2.size⟩; (first | (have HO1 := Hid.intro (HO1.out.next hb)) | skip); (first | (have HO2 := Hid.intro (HO2.out.next hb)) | skip); have HD := (show Hid (Bx W8 w.heap.size [.slice a0_1 ss.length k0_1, .int .i64 dr, .int .i64 rc] ∧ Bx W8 (w.heap.size + 1) [.int .i64 sk, .int .i64 si, .int .i64 sj] ∧ Below w3.heap.size w3 W8) from ⟨HD.out.1.next hb, HD.out.2.1.next hb, below_next HD.out.2.2 hb⟩); rw [← hW8, ← hb8]; clear hW8 hb8 hb))
          refine hK.out _ _ ⟨HD.out.1, HD.out.2.1⟩ (fun hHeld => ?_)
          clear hK KC
          refine ready_call 4 ⟨some 26, Op.call { callee := Callee.value (Operand.func 17), args := #[Operand.tmp 23, Operand.tmp 25], argTypes := #[29, 48] }, _, _, _, none⟩ (by kernel_rfl) rfl (by kernel_rfl) (fun KC hK => ?_)
          go_wp2_with fail
          refine (specStepCommit_l [.slice p1_1 ss.length q1_1, .int .i64 dr, .int .i64 rc] ss dr rc sk si sj _ NS nd nr z HA.out HS0.out HO1.out).mono ?_
          intro r W9 hT
          obtain ⟨cs9, lo, hi, rfl, ho, hlo, hlh, hhi, hb⟩ := ansG_out hT
          obtain ⟨a3_1, k3_1, _, hev, _⟩ := own_Commit ho
          subst hev
          have hol : w3.heap.size ≤ lo := Nat.le_trans HD.out.2.2.size hlo
          (first | (have HO9 := (show Hid (Own W9 shCommit [.slice a3_1 NS.length k3_1, .int .i64 nd, .int .i64 nr] (NS, nd, nr, ()) (Btw lo hi) ∧ w3.heap.size ≤ lo ∧ lo ≤ hi ∧ hi ≤ W9.heap.size ∧ (b8 < lo ∨ hi ≤ b8)) from ⟨ho, hol, hlh, hhi, Or.inl (Nat.lt_of_lt_of_le H8.out.1.2 hlo)⟩)) | (have HO9 := (show Hid (Own W9 shCommit [.slice a3_1 NS.length k3_1, .int .i64 nd, .int .i64 nr] (NS, nd, nr, ()) (Btw lo hi) ∧ w3.heap.size ≤ lo ∧ lo ≤ hi ∧ hi ≤ W9.heap.size) from ⟨ho, hol, hlh, hhi⟩)))
          have HD := (show Hid (Bx W9 w.heap.size [.slice a0_1 ss.length k0_1, .int .i64 dr, .int .i64 rc] ∧ Bx W9 (w.heap.size + 1) [.int .i64 sk, .int .i64 si, .int .i64 sj] ∧ Below w3.heap.size w3 W9) from ⟨HD.out.1.next hb, HD.out.2.1.next hb, below_next HD.out.2.2 hb⟩)
          (first | (have H8 := (show Hid (Bx W9 b8 [.slice none 0 0, .int .i64 0, .int .i64 0] ∧ w3.heap.size ≤ b8) from ⟨H8.out.1.next hb, H8.out.2⟩)) | skip)
          clear ho hlo hlh hhi hol hb hT
          refine hK.out _ _ ⟨HD.out.1, HD.out.2.1⟩ (fun hHeld => ?_)
          clear hK KC
          refine take_v (v := ?_) 5 ⟨some 21, Op.move (Operand.tmp 26), _, _, _, none⟩ rfl (fun _ _ _ h => h) ?_ hHeld ?_
          rotate_left
          · (intro W _; go_simp <;> (try with_reducible rfl))
          refine take_v (v := ?_) 6 ⟨some 27, Op.extract (Operand.tmp 21) 0, _, _, _, none⟩ rfl (fun _ _ _ h => h) ?_ hHeld ?_
          rotate_left
          · (intro W _; go_simp <;> (try with_reducible rfl))
          refine take_v (v := ?_) 7 ⟨some 28, Op.extract (Operand.tmp 21) 1, _, _, _, none⟩ rfl (fun _ _ _ h => h) ?_ hHeld ?_
          rotate_left
          · (intro W _; go_simp <;> (try with_reducible rfl))
          refine ready_call 9 ⟨none, Op.store 29 (Operand.tmp 6) (Operand.tmp 27), _, _, _, none⟩ (by kernel_rfl) rfl (by kernel_rfl) (fun KC hK => ?_)
          have dz := H8.out.1.2
          have d0 := H8.out.1.cell 0 rfl
          have d1 := H8.out.1.cell 1 rfl
          have d2 := H8.out.1.cell 2 rfl
          have f0 := H8.out.1.frz 0 (by simp)
          have f1 := H8.out.1.frz 1 (by simp)
          have f2 := H8.out.1.frz 2 (by simp)
          have h8 := H8.out.2
          go_wp2_with fail
          have HF := Hid.intro (box_own3 (o := w3) H8.out.1 H8.out.2 HO9.out.1 HO9.out.2.2.2.2 HD.out.2.2 (.slice a3_1 NS.length k3_1) (.int .i64 nd) (.int .i64 nr))
          clear dz d0 f0 d1 f1 d2 f2
          refine hK.out _ _ ⟨(((HD.out.1.other (by omega)).other (by omega)).other (by omega)), (((HD.out.2.1.other (by omega)).other (by omega)).other (by omega))⟩ (fun hHeld => ?_)
          clear hK KC
          refine take_v (v := ?_) 10 ⟨some 7, Op.assign (Operand.tmp 28), _, _, _, none⟩ rfl (fun _ _ _ h => h) ?_ hHeld ?_
          rotate_left
          · (intro W _; go_simp <;> (try with_reducible rfl))
          refine wpAnyH_done (by kernel_rfl) ?_ _
          refine NoPanic.normal ?_
          clear hHeld
          go_wp2_with fail
          go_meet
          exact ⟨b8, a3_1, k3_1, lo, hi, rfl, rfl, HF.out.1, HF.out.2.1, HO9.out.2.1, HO9.out.2.2.1, by rw [HF.out.2.2.2]; exact HO9.out.2.2.2.1, H8.out.2, by rw [HF.out.2.2.2]; exact H8.out.1.2, HO9.out.2.2.2.2, HF.out.2.2.1⟩
      ·
        go_wp2_with fail
        (first | (obtain ⟨W8, hW8⟩ : ∃ x, x = W9.alloc (.cells #[.slice none 0 0, .int .i64 0, .int .i64 0] 29) := ⟨_, rfl⟩; have hb : Below W9.heap.size W9 W8 := hW8 ▸ Go.Joins.below_alloc1 _ _; obtain ⟨b8, hb8⟩ : ∃ b, b = W9.heap.size := ⟨_, rfl⟩; have H8 : Hid (Bx W8 b8 [.slice none 0 0, .int .i64 0, .int .i64 0] ∧ w3.heap.size ≤ b8) := ⟨hb8 ▸ hW8 ▸ Bx.new W9 [.slice none 0 0, .int .i64 0, .int .i64 0] _, by rw [hb8]; exact HD.out.2.2.size⟩; have HO9 := (show Hid (Own W8 shCommit [.slice a3_1 NS.length k3_1, .int .i64 nd, .int .i64 nr] (NS, nd, nr, ()) (Btw lo hi) ∧ w3.heap.size ≤ lo ∧ lo ≤ hi ∧ hi ≤ W8.heap.size ∧ (b8 < lo ∨ hi ≤ b8)) from ⟨HO9.out.1.next hb, HO9.out.2.1, HO9.out.2.2.1, Nat.le_trans HO9.out.2.2.2 hb.size, Or.inr (by rw [hb8]; exact HO9.out.2.2.2)⟩); have HD := (show Hid (Bx W8 w.heap.size [.slice a0_1 ss.length k0_1, .int .i64 dr, .int .i64 rc] ∧ Bx W8 (w.heap.size + 1) [.int .i64 sk, .int .i64 si, .int .i64 sj] ∧ Below w3.heap.size w3 W8) from ⟨HD.out.1.next hb, HD.out.2.1.next hb, below_next HD.out.2.2 hb⟩); rw [← hW8, ← hb8]; clear hW8 hb8 hb) | (obtain ⟨W8, hW8⟩ : ∃ x, x = W2.alloc (.cells #[.slice none 0 0, .int .i64 0, .int .i64 0] 29) := ⟨_, rfl⟩; have hb : Below W2.heap.size W2 W8 := hW8 ▸ Go.Joins.below_alloc1 _ _; obtain ⟨b8, hb8⟩ : ∃ b, b = W2.heap.size := ⟨_, rfl⟩; have H8 : Hid (Bx W8 b8 [.slice none 0 0, .int .i64 0, .int .i64 0] ∧ w3.heap.size ≤ b8) := ⟨hb8 ▸ hW8 ▸ Bx.new W2 [.slice none 0 0, .int .i64 0, .int .i64 0] _, by rw [hb8]; exact HD.out.2.2.size⟩; (first | (have HO1 := Hid.intro (HO1.out.next hb)) | skip); (first | (have HO2 := Hid.intro (HO2.out.next hb)) | skip); have HD := (show Hid (Bx W8 w.heap.size [.slice a0_1 ss.length k0_1, .int .i64 dr, .int .i64 rc] ∧ Bx W8 (w.heap.size + 1) [.int .i64 sk, .int .i64 si, .int .i64 sj] ∧ Below w3.heap.size w3 W8) from ⟨HD.out.1.next hb, HD.out.2.1.next hb, below_next HD.out.2.2 hb⟩); rw [← hW8, ← hb8]; clear hW8 hb8 hb) | (obtain ⟨W8, hW8⟩ : ∃ x, x = W1.alloc (.cells #[.slice none 0 0, .int .i64 0, .int .i64 0] 29) := ⟨_, rfl⟩; have hb : Below W1.heap.size W1 W8 := hW8 ▸ Go.Joins.below_alloc1 _ _; obtain ⟨b8, hb8⟩ : ∃ b, b = W1.heap.size := ⟨_, rfl⟩; have H8 : Hid (Bx W8 b8 [.slice none 0 0, .int .i64 0, .int .i64 0] ∧ w3.heap.size ≤ b8) := ⟨hb8 ▸ hW8 ▸ Bx.new W1 [.slice none 0 0, .int .i64 0, .int .i64 0] _, by rw [hb8]; exact HD.out.2.2.size⟩; (first | (have HO1 := Hid.intro (HO1.out.next hb)) | skip); (first | (have HO2 := Hid.intro (HO2.out.next hb)) | skip); have HD := (show Hid (Bx W8 w.heap.size [.slice a0_1 ss.length k0_1, .int .i64 dr, .int .i64 rc] ∧ Bx W8 (w.heap.size + 1) [.int .i64 sk, .int .i64 si, .int .i64 sj] ∧ Below w3.heap.size w3 W8) from ⟨HD.out.1.next hb, HD.out.2.1.next hb, below_next HD.out.2.2 hb⟩); rw [← hW8, ← hb8]; clear hW8 hb8 hb) | (obtain ⟨W8, hW8⟩ : ∃ x, x = X0.alloc (.cells #[.slice none 0 0, .int .i64 0, .int .i64 0] 29) := ⟨_, rfl⟩; have hb : Below X0.heap.size X0 W8 := hW8 ▸ Go.Joins.below_alloc1 _ _; obtain ⟨b8, hb8⟩ : ∃ b, b = X0.heap.size := ⟨_, rfl⟩; have H8 : Hid (Bx W8 b8 [.slice none 0 0, .int .i64 0, .int .i64 0] ∧ w3.heap.size ≤ b8) := ⟨hb8 ▸ hW8 ▸ Bx.new X0 [.slice none 0 0, .int .i64 0, .int .i64 0] _, by rw [hb8]; exact HD.out.2.2.size⟩; (first | (have HO1 := Hid.intro (HO1.out.next hb)) | skip); (first | (have HO2 := Hid.intro (HO2.out.next hb)) | skip); have HD := (show Hid (Bx W8 w.heap.size [.slice a0_1 ss.length k0_1, .int .i64 dr, .int .i64 rc] ∧ Bx W8 (w.heap.size + 1) [.int .i64 sk, .int .i64 si, .int .i64 sj] ∧ Below w3.heap.size w3 W8) from ⟨HD.out.1.next hb, HD.out.2.1.next hb, below_next HD.out.2.2 hb⟩); rw [← hW8, ← hb8]; clear hW8 hb8 hb))
        refine hK.out _ _ ⟨HD.out.1, HD.out.2.1⟩ (fun hHeld => ?_)
        clear hK KC
        refine ready_call 3 ⟨some 25, Op.call { callee := Callee.value (Operand.func 20), args := #[Operand.tmp 24], argTypes := #[55] }, _, _, _, none⟩ (by kernel_rfl) rfl (by kernel_rfl) (fun KC hK => ?_)
        go_wp2_with fail
        refine (toCommitStep_n [.int .i64 sk, .int .i64 si, .int .i64 sj] sk si sj _ (by first | (show _ ≤ 1073741824; decide) | (simp [szD]) | (exact Nat.zero_le _)) (HL1.out.next (below_next HB3.out HD.out.2.2))).mono ?_
        rintro r W2 ⟨cs9, rfl, ho, hb⟩
        obtain hev := own_CommitStep ho
        subst hev
        (first | (have HO1 := Hid.intro (HO1.out.next hb)) | skip); (first | (have HO2 := Hid.intro (HO2.out.next hb)) | skip)
        have HO2 := Hid.intro ho.lies
        have HD := (show Hid (Bx W2 w.heap.size [.slice a0_1 ss.length k0_1, .int .i64 dr, .int .i64 rc] ∧ Bx W2 (w.heap.size + 1) [.int .i64 sk, .int .i64 si, .int .i64 sj] ∧ Below w3.heap.size w3 W2) from ⟨HD.out.1.next hb, HD.out.2.1.next hb, below_next HD.out.2.2 hb⟩)
        (first | (have H8 := (show Hid (Bx W2 b8 [.slice none 0 0, .int .i64 0, .int .i64 0] ∧ w3.heap.size ≤ b8) from ⟨H8.out.1.next hb, H8.out.2⟩)) | skip)
        clear ho hb
        refine hK.out _ _ ⟨HD.out.1, HD.out.2.1⟩ (fun hHeld => ?_)
        clear hK KC
        refine ready_call 4 ⟨some 26, Op.call { callee := Callee.value (Operand.func 17), args := #[Operand.tmp 23, Operand.tmp 25], argTypes := #[29, 48] }, _, _, _, none⟩ (by kernel_rfl) rfl (by kernel_rfl) (fun KC hK => ?_)
        go_wp2_with fail
        refine (specStepCommit_l [.slice p1_1 ss.length q1_1, .int .i64 dr, .int .i64 rc] ss dr rc sk si sj _ NS nd nr z HA.out HS0.out HO1.out).mono ?_
        intro r W9 hT
        obtain ⟨cs9, lo, hi, rfl, ho, hlo, hlh, hhi, hb⟩ := ansG_out hT
        obtain ⟨a3_1, k3_1, _, hev, _⟩ := own_Commit ho
        subst hev
        have hol : w3.heap.size ≤ lo := Nat.le_trans HD.out.2.2.size hlo
        (first | (have HO9 := (show Hid (Own W9 shCommit [.slice a3_1 NS.length k3_1, .int .i64 nd, .int .i64 nr] (NS, nd, nr, ()) (Btw lo hi) ∧ w3.heap.size ≤ lo ∧ lo ≤ hi ∧ hi ≤ W9.heap.size ∧ (b8 < lo ∨ hi ≤ b8)) from ⟨ho, hol, hlh, hhi, Or.inl (Nat.lt_of_lt_of_le H8.out.1.2 hlo)⟩)) | (have HO9 := (show Hid (Own W9 shCommit [.slice a3_1 NS.length k3_1, .int .i64 nd, .int .i64 nr] (NS, nd, nr, ()) (Btw lo hi) ∧ w3.heap.size ≤ lo ∧ lo ≤ hi ∧ hi ≤ W9.heap.size) from ⟨ho, hol, hlh, hhi⟩)))
        have HD := (show Hid (Bx W9 w.heap.size [.slice a0_1 ss.length k0_1, .int .i64 dr, .int .i64 rc] ∧ Bx W9 (w.heap.size + 1) [.int .i64 sk, .int .i64 si, .int .i64 sj] ∧ Below w3.heap.size w3 W9) from ⟨HD.out.1.next hb, HD.out.2.1.next hb, below_next HD.out.2.2 hb⟩)
        (first | (have H8 := (show Hid (Bx W9 b8 [.slice none 0 0, .int .i64 0, .int .i64 0] ∧ w3.heap.size ≤ b8) from ⟨H8.out.1.next hb, H8.out.2⟩)) | skip)
        clear ho hlo hlh hhi hol hb hT
        refine hK.out _ _ ⟨HD.out.1, HD.out.2.1⟩ (fun hHeld => ?_)
        clear hK KC
        refine take_v (v := ?_) 5 ⟨some 21, Op.move (Operand.tmp 26), _, _, _, none⟩ rfl (fun _ _ _ h => h) ?_ hHeld ?_
        rotate_left
        · (intro W _; go_simp <;> (try with_reducible rfl))
        refine take_v (v := ?_) 6 ⟨some 27, Op.extract (Operand.tmp 21) 0, _, _, _, none⟩ rfl (fun _ _ _ h => h) ?_ hHeld ?_
        rotate_left
        · (intro W _; go_simp <;> (try with_reducible rfl))
        refine take_v (v := ?_) 7 ⟨some 28, Op.extract (Operand.tmp 21) 1, _, _, _, none⟩ rfl (fun _ _ _ h => h) ?_ hHeld ?_
        rotate_left
        · (intro W _; go_simp <;> (try with_reducible rfl))
        refine ready_call 9 ⟨none, Op.store 29 (Operand.tmp 6) (Operand.tmp 27), _, _, _, none⟩ (by kernel_rfl) rfl (by kernel_rfl) (fun KC hK => ?_)
        have dz := H8.out.1.2
        have d0 := H8.out.1.cell 0 rfl
        have d1 := H8.out.1.cell 1 rfl
        have d2 := H8.out.1.cell 2 rfl
        have f0 := H8.out.1.frz 0 (by simp)
        have f1 := H8.out.1.frz 1 (by simp)
        have f2 := H8.out.1.frz 2 (by simp)
        have h8 := H8.out.2
        go_wp2_with fail
        have HF := Hid.intro (box_own3 (o := w3) H8.out.1 H8.out.2 HO9.out.1 HO9.out.2.2.2.2 HD.out.2.2 (.slice a3_1 NS.length k3_1) (.int .i64 nd) (.int .i64 nr))
        clear dz d0 f0 d1 f1 d2 f2
        refine hK.out _ _ ⟨(((HD.out.1.other (by omega)).other (by omega)).other (by omega)), (((HD.out.2.1.other (by omega)).other (by omega)).other (by omega))⟩ (fun hHeld => ?_)
        clear hK KC
        refine take_v (v := ?_) 10 ⟨some 7, Op.assign (Operand.tmp 28), _, _, _, none⟩ rfl (fun _ _ _ h => h) ?_ hHeld ?_
        rotate_left
        · (intro W _; go_simp <;> (try with_reducible rfl))
        refine wpAnyH_done (by kernel_rfl) ?_ _
        refine NoPanic.normal ?_
        clear hHeld
        go_wp2_with fail
        go_meet
        exact ⟨b8, a3_1, k3_1, lo, hi, rfl, rfl, HF.out.1, HF.out.2.1, HO9.out.2.1, HO9.out.2.2.1, by rw [HF.out.2.2.2]; exact HO9.out.2.2.2.1, H8.out.2, by rw [HF.out.2.2.2]; exact H8.out.1.2, HO9.out.2.2.2.2, HF.out.2.2.1⟩
    ·
      go_wp2_with fail
      (first | (obtain ⟨W8, hW8⟩ : ∃ x, x = W9.alloc (.cells #[.slice none 0 0, .int .i64 0, .int .i64 0] 29) := ⟨_, rfl⟩; have hb : Below W9.heap.size W9 W8 := hW8 ▸ Go.Joins.below_alloc1 _ _; obtain ⟨b8, hb8⟩ : ∃ b, b = W9.heap.size := ⟨_, rfl⟩; have H8 : Hid (Bx W8 b8 [.slice none 0 0, .int .i64 0, .int .i64 0] ∧ w3.heap.size ≤ b8) := ⟨hb8 ▸ hW8 ▸ Bx.new W9 [.slice none 0 0, .int .i64 0, .int .i64 0] _, by rw [hb8]; exact HD.out.2.2.size⟩; have HO9 := (show Hid (Own W8 shCommit [.slice a3_1 NS.length k3_1, .int .i64 nd, .int .i64 nr] (NS, nd, nr, ()) (Btw lo hi) ∧ w3.heap.size ≤ lo ∧ lo ≤ hi ∧ hi ≤ W8.heap.size ∧ (b8 < lo ∨ hi ≤ b8)) from ⟨HO9.out.1.next hb, HO9.out.2.1, HO9.out.2.2.1, Nat.le_trans HO9.out.2.2.2 hb.size, Or.inr (by rw [hb8]; exact HO9.out.2.2.2)⟩); have HD := (show Hid (Bx W8 w.heap.size [.slice a0_1 ss.length k0_1, .int .i64 dr, .int .i64 rc] ∧ Bx W8 (w.heap.size + 1) [.int .i64 sk, .int .i64 si, .int .i64 sj] ∧ Below w3.heap.size w3 W8) from ⟨HD.out.1.next hb, HD.out.2.1.next hb, below_next HD.out.2.2 hb⟩); rw [← hW8, ← hb8]; clear hW8 hb8 hb) | (obtain ⟨W8, hW8⟩ : ∃ x, x = W2.alloc (.cells #[.slice none 0 0, .int .i64 0, .int .i64 0] 29) := ⟨_, rfl⟩; have hb : Below W2.heap.size W2 W8 := hW8 ▸ Go.Joins.below_alloc1 _ _; obtain ⟨b8, hb8⟩ : ∃ b, b = W2.heap.size := ⟨_, rfl⟩; have H8 : Hid (Bx W8 b8 [.slice none 0 0, .int .i64 0, .int .i64 0] ∧ w3.heap.size ≤ b8) := ⟨hb8 ▸ hW8 ▸ Bx.new W2 [.slice none 0 0, .int .i64 0, .int .i64 0] _, by rw [hb8]; exact HD.out.2.2.size⟩; (first | (have HO1 := Hid.intro (HO1.out.next hb)) | skip); (first | (have HO2 := Hid.intro (HO2.out.next hb)) | skip); have HD := (show Hid (Bx W8 w.heap.size [.slice a0_1 ss.length k0_1, .int .i64 dr, .int .i64 rc] ∧ Bx W8 (w.heap.size + 1) [.int .i64 sk, .int .i64 si, .int .i64 sj] ∧ Below w3.heap.size w3 W8) from ⟨HD.out.1.next hb, HD.out.2.1.next hb, below_next HD.out.2.2 hb⟩); rw [← hW8, ← hb8]; clear hW8 hb8 hb) | (obtain ⟨W8, hW8⟩ : ∃ x, x = W1.alloc (.cells #[.slice none 0 0, .int .i64 0, .int .i64 0] 29) := ⟨_, rfl⟩; have hb : Below W1.heap.size W1 W8 := hW8 ▸ Go.Joins.below_alloc1 _ _; obtain ⟨b8, hb8⟩ : ∃ b, b = W1.heap.size := ⟨_, rfl⟩; have H8 : Hid (Bx W8 b8 [.slice none 0 0, .int .i64 0, .int .i64 0] ∧ w3.heap.size ≤ b8) := ⟨hb8 ▸ hW8 ▸ Bx.new W1 [.slice none 0 0, .int .i64 0, .int .i64 0] _, by rw [hb8]; exact HD.out.2.2.size⟩; (first | (have HO1 := Hid.intro (HO1.out.next hb)) | skip); (first | (have HO2 := Hid.intro (HO2.out.next hb)) | skip); have HD := (show Hid (Bx W8 w.heap.size [.slice a0_1 ss.length k0_1, .int .i64 dr, .int .i64 rc] ∧ Bx W8 (w.heap.size + 1) [.int .i64 sk, .int .i64 si, .int .i64 sj] ∧ Below w3.heap.size w3 W8) from ⟨HD.out.1.next hb, HD.out.2.1.next hb, below_next HD.out.2.2 hb⟩); rw [← hW8, ← hb8]; clear hW8 hb8 hb) | (obtain ⟨W8, hW8⟩ : ∃ x, x = X0.alloc (.cells #[.slice none 0 0, .int .i64 0, .int .i64 0] 29) := ⟨_, rfl⟩; have hb : Below X0.heap.size X0 W8 := hW8 ▸ Go.Joins.below_alloc1 _ _; obtain ⟨b8, hb8⟩ : ∃ b, b = X0.heap.size := ⟨_, rfl⟩; have H8 : Hid (Bx W8 b8 [.slice none 0 0, .int .i64 0, .int .i64 0] ∧ w3.heap.size ≤ b8) := ⟨hb8 ▸ hW8 ▸ Bx.new X0 [.slice none 0 0, .int .i64 0, .int .i64 0] _, by rw [hb8]; exact HD.out.2.2.size⟩; (first | (have HO1 := Hid.intro (HO1.out.next hb)) | skip); (first | (have HO2 := Hid.intro (HO2.out.next hb)) | skip); have HD := (show Hid (Bx W8 w.heap.size [.slice a0_1 ss.length k0_1, .int .i64 dr, .int .i64 rc] ∧ Bx W8 (w.heap.size + 1) [.int .i64 sk, .int .i64 si, .int .i64 sj] ∧ Below w3.heap.size w3 W8) from ⟨HD.out.1.next hb, HD.out.2.1.next hb, below_next HD.out.2.2 hb⟩); rw [← hW8, ← hb8]; clear hW8 hb8 hb))
      refine hK.out _ _ ⟨HD.out.1, HD.out.2.1⟩ (fun hHeld => ?_)
      clear hK KC
      refine ready_call 1 ⟨some 23, Op.call { callee := Callee.value (Operand.func 19), args := #[Operand.tmp 22], argTypes := #[54] }, _, _, _, none⟩ (by kernel_rfl) rfl (by kernel_rfl) (fun KC hK => ?_)
      go_wp2_with fail
      refine (toCommit_n [.slice a0_1 ss.length k0_1, .int .i64 dr, .int .i64 rc] ss dr rc _ HS0.out (HL0.out.next (below_next HB3.out HD.out.2.2))).mono ?_
      rintro r W1 ⟨cs9, rfl, ho, hb⟩
      obtain ⟨p1_1, q1_1, _, hev, _⟩ := own_Commit ho
      subst hev
      (first | (have HO1 := Hid.intro (HO1.out.next hb)) | skip); (first | (have HO2 := Hid.intro (HO2.out.next hb)) | skip)
      have HO1 := Hid.intro ho.lies
      have HD := (show Hid (Bx W1 w.heap.size [.slice a0_1 ss.length k0_1, .int .i64 dr, .int .i64 rc] ∧ Bx W1 (w.heap.size + 1) [.int .i64 sk, .int .i64 si, .int .i64 sj] ∧ Below w3.heap.size w3 W1) from ⟨HD.out.1.next hb, HD.out.2.1.next hb, below_next HD.out.2.2 hb⟩)
      (first | (have H8 := (show Hid (Bx W1 b8 [.slice none 0 0, .int .i64 0, .int .i64 0] ∧ w3.heap.size ≤ b8) from ⟨H8.out.1.next hb, H8.out.2⟩)) | skip)
      clear ho hb
      refine hK.out _ _ ⟨HD.out.1, HD.out.2.1⟩ (fun hHeld => ?_)
      clear hK KC
      refine ready_call 3 ⟨some 25, Op.call { callee := Callee.value (Operand.func 20), args := #[Operand.tmp 24], argTypes := #[55] }, _, _, _, none⟩ (by kernel_rfl) rfl (by kernel_rfl) (fun KC hK => ?_)
      go_wp2_with fail
      refine (toCommitStep_n [.int .i64 sk, .int .i64 si, .int .i64 sj] sk si sj _ (by first | (show _ ≤ 1073741824; decide) | (simp [szD]) | (exact Nat.zero_le _)) (HL1.out.next (below_next HB3.out HD.out.2.2))).mono ?_
      rintro r W2 ⟨cs9, rfl, ho, hb⟩
      obtain hev := own_CommitStep ho
      subst hev
      (first | (have HO1 := Hid.intro (HO1.out.next hb)) | skip); (first | (have HO2 := Hid.intro (HO2.out.next hb)) | skip)
      have HO2 := Hid.intro ho.lies
      have HD := (show Hid (Bx W2 w.heap.size [.slice a0_1 ss.length k0_1, .int .i64 dr, .int .i64 rc] ∧ Bx W2 (w.heap.size + 1) [.int .i64 sk, .int .i64 si, .int .i64 sj] ∧ Below w3.heap.size w3 W2) from ⟨HD.out.1.next hb, HD.out.2.1.next hb, below_next HD.out.2.2 hb⟩)
      (first | (have H8 := (show Hid (Bx W2 b8 [.slice none 0 0, .int .i64 0, .int .i64 0] ∧ w3.heap.size ≤ b8) from ⟨H8.out.1.next hb, H8.out.2⟩)) | skip)
      clear ho hb
      refine hK.out _ _ ⟨HD.out.1, HD.out.2.1⟩ (fun hHeld => ?_)
      clear hK KC
      refine ready_call 4 ⟨some 26, Op.call { callee := Callee.value (Operand.func 17), args := #[Operand.tmp 23, Operand.tmp 25], argTypes := #[29, 48] }, _, _, _, none⟩ (by kernel_rfl) rfl (by kernel_rfl) (fun KC hK => ?_)
      go_wp2_with fail
      refine (specStepCommit_l [.slice p1_1 ss.length q1_1, .int .i64 dr, .int .i64 rc] ss dr rc sk si sj _ NS nd nr z HA.out HS0.out HO1.out).mono ?_
      intro r W9 hT
      obtain ⟨cs9, lo, hi, rfl, ho, hlo, hlh, hhi, hb⟩ := ansG_out hT
      obtain ⟨a3_1, k3_1, _, hev, _⟩ := own_Commit ho
      subst hev
      have hol : w3.heap.size ≤ lo := Nat.le_trans HD.out.2.2.size hlo
      (first | (have HO9 := (show Hid (Own W9 shCommit [.slice a3_1 NS.length k3_1, .int .i64 nd, .int .i64 nr] (NS, nd, nr, ()) (Btw lo hi) ∧ w3.heap.size ≤ lo ∧ lo ≤ hi ∧ hi ≤ W9.heap.size ∧ (b8 < lo ∨ hi ≤ b8)) from ⟨ho, hol, hlh, hhi, Or.inl (Nat.lt_of_lt_of_le H8.out.1.2 hlo)⟩)) | (have HO9 := (show Hid (Own W9 shCommit [.slice a3_1 NS.length k3_1, .int .i64 nd, .int .i64 nr] (NS, nd, nr, ()) (Btw lo hi) ∧ w3.heap.size ≤ lo ∧ lo ≤ hi ∧ hi ≤ W9.heap.size) from ⟨ho, hol, hlh, hhi⟩)))
      have HD := (show Hid (Bx W9 w.heap.size [.slice a0_1 ss.length k0_1, .int .i64 dr, .int .i64 rc] ∧ Bx W9 (w.heap.size + 1) [.int .i64 sk, .int .i64 si, .int .i64 sj] ∧ Below w3.heap.size w3 W9) from ⟨HD.out.1.next hb, HD.out.2.1.next hb, below_next HD.out.2.2 hb⟩)
      (first | (have H8 := (show Hid (Bx W9 b8 [.slice none 0 0, .int .i64 0, .int .i64 0] ∧ w3.heap.size ≤ b8) from ⟨H8.out.1.next hb, H8.out.2⟩)) | skip)
      clear ho hlo hlh hhi hol hb hT
      refine hK.out _ _ ⟨HD.out.1, HD.out.2.1⟩ (fun hHeld => ?_)
      clear hK KC
      refine take_v (v := ?_) 5 ⟨some 21, Op.move (Operand.tmp 26), _, _, _, none⟩ rfl (fun _ _ _ h => h) ?_ hHeld ?_
      rotate_left
      · (intro W _; go_simp <;> (try with_reducible rfl))
      refine take_v (v := ?_) 6 ⟨some 27, Op.extract (Operand.tmp 21) 0, _, _, _, none⟩ rfl (fun _ _ _ h => h) ?_ hHeld ?_
      rotate_left
      · (intro W _; go_simp <;> (try with_reducible rfl))
      refine take_v (v := ?_) 7 ⟨some 28, Op.extract (Operand.tmp 21) 1, _, _, _, none⟩ rfl (fun _ _ _ h => h) ?_ hHeld ?_
      rotate_left
      · (intro W _; go_simp <;> (try with_reducible rfl))
      refine ready_call 9 ⟨none, Op.store 29 (Operand.tmp 6) (Operand.tmp 27), _, _, _, none⟩ (by kernel_rfl) rfl (by kernel_rfl) (fun KC hK => ?_)
      have dz := H8.out.1.2
      have d0 := H8.out.1.cell 0 rfl
      have d1 := H8.out.1.cell 1 rfl
      have d2 := H8.out.1.cell 2 rfl
      have f0 := H8.out.1.frz 0 (by simp)
      have f1 := H8.out.1.frz 1 (by simp)
      have f2 := H8.out.1.frz 2 (by simp)
      have h8 := H8.out.2
      go_wp2_with fail
      have HF := Hid.intro (box_own3 (o := w3) H8.out.1 H8.out.2 HO9.out.1 HO9.out.2.2.2.2 HD.out.2.2 (.slice a3_1 NS.length k3_1) (.int .i64 nd) (.int .i64 nr))
      clear dz d0 f0 d1 f1 d2 f2
      refine hK.out _ _ ⟨(((HD.out.1.other (by omega)).other (by omega)).other (by omega)), (((HD.out.2.1.other (by omega)).other (by omega)).other (by omega))⟩ (fun hHeld => ?_)
      clear hK KC
      refine take_v (v := ?_) 10 ⟨some 7, Op.assign (Operand.tmp 28), _, _, _, none⟩ rfl (fun _ _ _ h => h) ?_ hHeld ?_
      rotate_left
      · (intro W _; go_simp <;> (try with_reducible rfl))
      refine wpAnyH_done (by kernel_rfl) ?_ _
      refine NoPanic.normal ?_
      clear hHeld
      go_wp2_with fail
      go_meet
      exact ⟨b8, a3_1, k3_1, lo, hi, rfl, rfl, HF.out.1, HF.out.2.1, HO9.out.2.1, HO9.out.2.2.1, by rw [HF.out.2.2.2]; exact HO9.out.2.2.2.1, H8.out.2, by rw [HF.out.2.2.2]; exact H8.out.1.2, HO9.out.2.2.2.2, HF.out.2.2.1⟩
  obtain ⟨b4, p4_1, q4_1, lo4, hi4, rfl, rfl, hbx, ho, hlo4, hlh4, hhi4, hbo4, hbb4, hbd4, hb⟩ := hcut
  obtain ⟨w4, hwd⟩ : ∃ x, x = wc := ⟨_, rfl⟩
  subst hwd
  have HB4 : Hid (Below w.heap.size w w4) := below_next HB3.out hb
  have sz4 : w3.heap.size ≤ w4.heap.size := hb.size
  have A0_4 : Hid (Bx w4 w.heap.size [.slice a0_1 ss.length k0_1, .int .i64 dr, .int .i64 rc]) := A0_3.out.next hb
  have A1_4 : Hid (Bx w4 (w.heap.size + 1) [.int .i64 sk, .int .i64 si, .int .i64 sj]) := A1_3.out.next hb
  have W_4 : Hid (Bx w4 b4 [.slice p4_1 NS.length q4_1, .int .i64 nd, .int .i64 nr]) := hbx
  have SP_4 : Hid (Own w4 shCommit [.slice p4_1 NS.length q4_1, .int .i64 nd, .int .i64 nr] (NS, nd, nr, ()) (Btw lo4 hi4)) := ho
  clear hb hbx ho A0_3 A1_3 HB3
  have cA00 := A0_4.out.cell 0 rfl
  have cA01 := A0_4.out.cell 1 rfl
  have cA02 := A0_4.out.cell 2 rfl
  have zA0 := A0_4.out.2
  go_wp2_with fail
  refine (toCommit_n [.slice a0_1 ss.length k0_1, .int .i64 dr, .int .i64 rc] ss dr rc _ HS0.out (HL0.out.next HB4.out)).mono ?_
  rintro r w5 ⟨cs9, rfl, ho, hb⟩
  obtain ⟨p5_1, q5_1, _, hev, _⟩ := own_Commit ho
  subst hev
  have HB5 : Hid (Below w.heap.size w w5) := below_next HB4.out hb
  have sz5 : w4.heap.size ≤ w5.heap.size := hb.size
  have A0_5 : Hid (Bx w5 w.heap.size [.slice a0_1 ss.length k0_1, .int .i64 dr, .int .i64 rc]) := A0_4.out.next hb
  have A1_5 : Hid (Bx w5 (w.heap.size + 1) [.int .i64 sk, .int .i64 si, .int .i64 sj]) := A1_4.out.next hb
  have W_5 : Hid (Bx w5 b4 [.slice p4_1 NS.length q4_1, .int .i64 nd, .int .i64 nr]) := W_4.out.next hb
  have SP_5 : Hid (Own w5 shCommit [.slice p4_1 NS.length q4_1, .int .i64 nd, .int .i64 nr] (NS, nd, nr, ()) (Btw lo4 hi4)) := SP_4.out.next hb
  have P_5 : Hid (Own w5 shCommit [.slice p5_1 ss.length q5_1, .int .i64 dr, .int .i64 rc] (ss, dr, rc, ()) (Btw w4.heap.size w5.heap.size)) := ho
  clear hb ho cA00 cA01 cA02 zA0 A0_4 A1_4 W_4 SP_4 HB4
  go_wp2_with fail
  obtain ⟨w6, hw6⟩ : ∃ x, x = w5.alloc (.cells #[.slice p5_1 ss.length q5_1, .int .i64 dr, .int .i64 rc] 29) := ⟨_, rfl⟩
  have hb : Below w5.heap.size w5 w6 := hw6 ▸ Go.Joins.below_alloc1 _ _
  have HB6 : Hid (Below w.heap.size w w6) := below_next HB5.out hb
  have sz6 : w5.heap.size < w6.heap.size := by rw [hw6]; simp
  have A0_6 : Hid (Bx w6 w.heap.size [.slice a0_1 ss.length k0_1, .int .i64 dr, .int .i64 rc]) := A0_5.out.next hb
  have A1_6 : Hid (Bx w6 (w.heap.size + 1) [.int .i64 sk, .int .i64 si, .int .i64 sj]) := A1_5.out.next hb
  have W_6 : Hid (Bx w6 b4 [.slice p4_1 NS.length q4_1, .int .i64 nd, .int .i64 nr]) := W_5.out.next hb
  have SP_6 : Hid (Own w6 shCommit [.slice p4_1 NS.length q4_1, .int .i64 nd, .int .i64 nr] (NS, nd, nr, ()) (Btw lo4 hi4)) := SP_5.out.next hb
  have P_6 : Hid (Own w6 shCommit [.slice p5_1 ss.length q5_1, .int .i64 dr, .int .i64 rc] (ss, dr, rc, ()) (Btw w4.heap.size w5.heap.size)) := P_5.out.next hb
  have U0_6 : Hid (Bx w6 w5.heap.size [.slice p5_1 ss.length q5_1, .int .i64 dr, .int .i64 rc]) := hw6 ▸ Bx.new w5 [.slice p5_1 ss.length q5_1, .int .i64 dr, .int .i64 rc] _
  rw [← hw6]
  clear hb hw6 A0_5 A1_5 W_5 SP_5 P_5 HB5
  go_upto_region 7 with fail
  go_cut [9, 10] (fun s9 s10 wx => ∃ (b : Nat) (a3_1 : Option Addr) (k3_1 : Nat) (lo hi : Nat), s9 = .pointer (some ⟨b, 0, none⟩) ∧ s10 = .bool z ∧ Bx wx b [.slice a3_1 NS.length k3_1, .int .i64 nd, .int .i64 nr] ∧ Own wx shCommit [.slice a3_1 NS.length k3_1, .int .i64 nd, .int .i64 nr] (NS, nd, nr, ()) (Btw lo hi) ∧ w6.heap.size ≤ lo ∧ lo ≤ hi ∧ hi ≤ wx.heap.size ∧ w6.heap.size ≤ b ∧ b < wx.heap.size ∧ (b < lo ∨ hi ≤ b) ∧ Below w6.heap.size w6 wx)
  case first =>
    have hb : Below w6.heap.size w6 w6.drew := below_drew _
    have HD : Hid (Bx w6.drew w5.heap.size [.slice p5_1 ss.length q5_1, .int .i64 dr, .int .i64 rc] ∧ Bx w6.drew (w.heap.size + 1) [.int .i64 sk, .int .i64 si, .int .i64 sj] ∧ Below w6.heap.size w6 w6.drew) := ⟨U0_6.out.next hb, A1_6.out.next hb, hb⟩
    have HO0 := Hid.intro (P_6.out.lies.next hb)
    clear hb
    refine wp_region_noPanic ?_
    refine wp_region_held_drew (S := fun W => Bx W w5.heap.size [.slice p5_1 ss.length q5_1, .int .i64 dr, .int .i64 rc] ∧ Bx W (w.heap.size + 1) [.int .i64 sk, .int .i64 si, .int .i64 sj]) (by kernel_rfl) ⟨HD.out.1, HD.out.2.1⟩ (fun hHeld => ?_)
    obtain ⟨X0, hX0⟩ : ∃ x, x = w6.drew := ⟨_, rfl⟩
    rw [← hX0] at HD HO0 hHeld ⊢
    clear hX0
    refine take_v (v := ?_) 0 ⟨some 32, Op.load 29 (Operand.tmp 8), _, _, _, none⟩ rfl (fun _ _ _ h => h) ?_ hHeld ?_
    rotate_left
    · (intro W hSW; (have s0_0 := hSW.1.cell 0 rfl; have s0_1 := hSW.1.cell 1 rfl; have s0_2 := hSW.1.cell 2 rfl; have s0z := hSW.1.2; have s1_0 := hSW.2.cell 0 rfl; have s1_1 := hSW.2.cell 1 rfl; have s1_2 := hSW.2.cell 2 rfl; have s1z := hSW.2.2); go_simp <;> (try with_reducible rfl))
    refine take_v (v := ?_) 1 ⟨some 33, Op.load 55 (Operand.tmp 3), _, _, _, none⟩ rfl (fun _ _ _ h => h) ?_ hHeld ?_
    rotate_left
    · (intro W hSW; (have s0_0 := hSW.1.cell 0 rfl; have s0_1 := hSW.1.cell 1 rfl; have s0_2 := hSW.1.cell 2 rfl; have s0z := hSW.1.2; have s1_0 := hSW.2.cell 0 rfl; have s1_1 := hSW.2.cell 1 rfl; have s1_2 := hSW.2.cell 2 rfl; have s1z := hSW.2.2); go_simp <;> (try with_reducible rfl))
    refine ready_two 2 7 ⟨some 34, Op.call { callee := Callee.value (Operand.func 20), args := #[Operand.tmp 33], argTypes := #[55] }, _, _, _, none⟩ ⟨some 9, Op.alloc 29, _, _, _, none⟩ (by kernel_rfl) rfl rfl (by kernel_rfl) (by kernel_rfl) (fun KC hK => ?_) (fun KC hK => ?_)
    ·
      go_wp2_with fail
      refine (toCommitStep_n [.int .i64 sk, .int .i64 si, .int .i64 sj] sk si sj _ (by first | (show _ ≤ 1073741824; decide) | (simp [szD]) | (exact Nat.zero_le _)) (HL1.out.next (below_next HB6.out HD.out.2.2))).mono ?_
      rintro r W1 ⟨cs9, rfl, ho, hb⟩
      obtain hev := own_CommitStep ho
      subst hev
      (first | (have HO0 := Hid.intro (HO0.out.next hb)) | skip); (first | (have HO1 := Hid.intro (HO1.out.next hb)) | skip)
      have HO1 := Hid.intro ho.lies
      have HD := (show Hid (Bx W1 w5.heap.size [.slice p5_1 ss.length q5_1, .int .i64 dr, .int .i64 rc] ∧ Bx W1 (w.heap.size + 1) [.int .i64 sk, .int .i64 si, .int .i64 sj] ∧ Below w6.heap.size w6 W1) from ⟨HD.out.1.next hb, HD.out.2.1.next hb, below_next HD.out.2.2 hb⟩)
      (first | (have H8 := (show Hid (Bx W1 b8 [.slice none 0 0, .int .i64 0, .int .i64 0] ∧ w6.heap.size ≤ b8) from ⟨H8.out.1.next hb, H8.out.2⟩)) | skip)
      clear ho hb
      refine hK.out _ _ ⟨HD.out.1, HD.out.2.1⟩ (fun hHeld => ?_)
      clear hK KC
      refine ready_two 3 7 ⟨some 35, Op.call { callee := Callee.value (Operand.func 15), args := #[Operand.tmp 32, Operand.tmp 34], argTypes := #[29, 48] }, _, _, _, none⟩ ⟨some 9, Op.alloc 29, _, _, _, none⟩ (by kernel_rfl) rfl rfl (by kernel_rfl) (by kernel_rfl) (fun KC hK => ?_) (fun KC hK => ?_)
      ·
        go_wp2_with fail
        refine (stepCommit_l [.slice p5_1 ss.length q5_1, .int .i64 dr, .int .i64 rc] ss dr rc sk si sj _ NS nd nr z HA.out HS0.out (HFL.out.next (below_next HB6.out HD.out.2.2) HFL.out.lt) HO0.out).mono ?_
        intro r W9 hT
        obtain ⟨cs9, lo, hi, rfl, ho, hlo, hlh, hhi, hb⟩ := ansG_out hT
        obtain ⟨a3_1, k3_1, _, hev, _⟩ := own_Commit ho
        subst hev
        have hol : w6.heap.size ≤ lo := Nat.le_trans HD.out.2.2.size hlo
        (first | (have HO9 := (show Hid (Own W9 shCommit [.slice a3_1 NS.length k3_1, .int .i64 nd, .int .i64 nr] (NS, nd, nr, ()) (Btw lo hi) ∧ w6.heap.size ≤ lo ∧ lo ≤ hi ∧ hi ≤ W9.heap.size ∧ (b8 < lo ∨ hi ≤ b8)) from ⟨ho, hol, hlh, hhi, Or.inl (Nat.lt_of_lt_of_le H8.out.1.2 hlo)⟩)) | (have HO9 := (show Hid (Own W9 shCommit [.slice a3_1 NS.length k3_1, .int .i64 nd, .int .i64 nr] (NS, nd, nr, ()) (Btw lo hi) ∧ w6.heap.size ≤ lo ∧ lo ≤ hi ∧ hi ≤ W9.heap.size) from ⟨ho, hol, hlh, hhi⟩)))
        have HD := (show Hid (Bx W9 w5.heap.size [.slice p5_1 ss.length q5_1, .int .i64 dr, .int .i64 rc] ∧ Bx W9 (w.heap.size + 1) [.int .i64 sk, .int .i64 si, .int .i64 sj] ∧ Below w6.heap.size w6 W9) from ⟨HD.out.1.next hb, HD.out.2.1.next hb, below_next HD.out.2.2 hb⟩)
        (first | (have H8 := (show Hid (Bx W9 b8 [.slice none 0 0, .int .i64 0, .int .i64 0] ∧ w6.heap.size ≤ b8) from ⟨H8.out.1.next hb, H8.out.2⟩)) | skip)
        clear ho hlo hlh hhi hol hb hT
        refine hK.out _ _ ⟨HD.out.1, HD.out.2.1⟩ (fun hHeld => ?_)
        clear hK KC
        refine take_v (v := ?_) 4 ⟨some 31, Op.move (Operand.tmp 35), _, _, _, none⟩ rfl (fun _ _ _ h => h) ?_ hHeld ?_
        rotate_left
        · (intro W _; go_simp <;> (try with_reducible rfl))
        refine take_v (v := ?_) 5 ⟨some 36, Op.extract (Operand.tmp 31) 0, _, _, _, none⟩ rfl (fun _ _ _ h => h) ?_ hHeld ?_
        rotate_left
        · (intro W _; go_simp <;> (try with_reducible rfl))
        refine take_v (v := ?_) 6 ⟨some 37, Op.extract (Operand.tmp 31) 1, _, _, _, none⟩ rfl (fun _ _ _ h => h) ?_ hHeld ?_
        rotate_left
        · (intro W _; go_simp <;> (try with_reducible rfl))
        refine ready_call 7 ⟨some 9, Op.alloc 29, _, _, _, none⟩ (by kernel_rfl) rfl (by kernel_rfl) (fun KC hK => ?_)
        go_wp2_with fail
        (first | (obtain ⟨W8, hW8⟩ : ∃ x, x = W9.alloc (.cells #[.slice none 0 0, .int .i64 0, .int .i64 0] 29) := ⟨_, rfl⟩; have hb : Below W9.heap.size W9 W8 := hW8 ▸ Go.Joins.below_alloc1 _ _; obtain ⟨b8, hb8⟩ : ∃ b, b = W9.heap.size := ⟨_, rfl⟩; have H8 : Hid (Bx W8 b8 [.slice none 0 0, .int .i64 0, .int .i64 0] ∧ w6.heap.size ≤ b8) := ⟨hb8 ▸ hW8 ▸ Bx.new W9 [.slice none 0 0, .int .i64 0, .int .i64 0] _, by rw [hb8]; exact HD.out.2.2.size⟩; have HO9 := (show Hid (Own W8 shCommit [.slice a3_1 NS.length k3_1, .int .i64 nd, .int .i64 nr] (NS, nd, nr, ()) (Btw lo hi) ∧ w6.heap.size ≤ lo ∧ lo ≤ hi ∧ hi ≤ W8.heap.size ∧ (b8 < lo ∨ hi ≤ b8)) from ⟨HO9.out.1.next hb, HO9.out.2.1, HO9.out.2.2.1, Nat.le_trans HO9.out.2.2.2 hb.size, Or.inr (by rw [hb8]; exact HO9.out.2.2.2)⟩); have HD := (show Hid (Bx W8 w5.heap.size [.slice p5_1 ss.length q5_1, .int .i64 dr, .int .i64 rc] ∧ Bx W8 (w.heap.size + 1) [.int .i64 sk, .int .i64 si, .int .i64 sj] ∧ Below w6.heap.size w6 W8) from ⟨HD.out.1.next hb, HD.out.2.1.next hb, below_next HD.out.2.2 hb⟩); rw [← hW8, ← hb8]; clear hW8 hb8 hb) | (obtain ⟨W8, hW8⟩ : ∃ x, x = W1.alloc (.cells #[.slice none 0 0, .int .i64 0, .int .i64 0] 29) := ⟨_, rfl⟩; have hb : Below W1.heap.size W1 W8 := hW8 ▸ Go.Joins.below_alloc1 _ _; obtain ⟨b8, hb8⟩ : ∃ b, b = W1.heap.size := ⟨_, rfl⟩; have H8 : Hid (Bx W8 b8 [.slice none 0 0, .int .i64 0, .int .i64 0] ∧ w6.heap.size ≤ b8) := ⟨hb8 ▸ hW8 ▸ Bx.new W1 [.slice none 0 0, .int .i64 0, .int .i64 0] _, by rw [hb8]; exact HD.out.2.2.size⟩; (first | (have HO0 := Hid.intro (HO0.out.next hb)) | skip); (first | (have HO1 := Hid.intro (HO1.out.next hb)) | skip); have HD := (show Hid (Bx W8 w5.heap.size [.slice p5_1 ss.length q5_1, .int .i64 dr, .int .i64 rc] ∧ Bx W8 (w.heap.size + 1) [.int .i64 sk, .int .i64 si, .int .i64 sj] ∧ Below w6.heap.size w6 W8) from ⟨HD.out.1.next hb, HD.out.2.1.next hb, below_next HD.out.2.2 hb⟩); rw [← hW8, ← hb8]; clear hW8 hb8 hb) | (obtain ⟨W8, hW8⟩ : ∃ x, x = X0.alloc (.cells #[.slice none 0 0, .int .i64 0, .int .i64 0] 29) := ⟨_, rfl⟩; have hb : Below X0.heap.size X0 W8 := hW8 ▸ Go.Joins.below_alloc1 _ _; obtain ⟨b8, hb8⟩ : ∃ b, b = X0.heap.size := ⟨_, rfl⟩; have H8 : Hid (Bx W8 b8 [.slice none 0 0, .int .i64 0, .int .i64 0] ∧ w6.heap.size ≤ b8) := ⟨hb8 ▸ hW8 ▸ Bx.new X0 [.slice none 0 0, .int .i64 0, .int .i64 0] _, by rw [hb8]; exact HD.out.2.2.size⟩; (first | (have HO0 := Hid.intro (HO0.out.next hb)) | skip); (first | (have HO1 := Hid.intro (HO1.out.next hb)) | skip); have HD := (show Hid (Bx W8 w5.heap.size [.slice p5_1 ss.length q5_1, .int .i64 dr, .int .i64 rc] ∧ Bx W8 (w.heap.size + 1) [.int .i64 sk, .int .i64 si, .int .i64 sj] ∧ Below w6.heap.size w6 W8) from ⟨HD.out.1.next hb, HD.out.2.1.next hb, below_next HD.out.2.2 hb⟩); rw [← hW8, ← hb8]; clear hW8 hb8 hb))
        refine hK.out _ _ ⟨HD.out.1, HD.out.2.1⟩ (fun hHeld => ?_)
        clear hK KC
        refine ready_call 8 ⟨none, Op.store 29 (Operand.tmp 9) (Operand.tmp 36), _, _, _, none⟩ (by kernel_rfl) rfl (by kernel_rfl) (fun KC hK => ?_)
        have dz := H8.out.1.2
        have d0 := H8.out.1.cell 0 rfl
        have d1 := H8.out.1.cell 1 rfl
        have d2 := H8.out.1.cell 2 rfl
        have f0 := H8.out.1.frz 0 (by simp)
        have f1 := H8.out.1.frz 1 (by simp)
        have f2 := H8.out.1.frz 2 (by simp)
        have h8 := H8.out.2
        go_wp2_with fail
        have HF := Hid.intro (box_own3 (o := w6) H8.out.1 H8.out.2 HO9.out.1 HO9.out.2.2.2.2 HD.out.2.2 (.slice a3_1 NS.length k3_1) (.int .i64 nd) (.int .i64 nr))
        clear dz d0 f0 d1 f1 d2 f2
        refine hK.out _ _ ⟨(((HD.out.1.other (by omega)).other (by omega)).other (by omega)), (((HD.out.2.1.other (by omega)).other (by omega)).other (by omega))⟩ (fun hHeld => ?_)
        clear hK KC
        refine take_v (v := ?_) 9 ⟨some 10, Op.assign (Operand.tmp 37), _, _, _, none⟩ rfl (fun _ _ _ h => h) ?_ hHeld ?_
        rotate_left
        · (intro W _; go_simp <;> (try with_reducible rfl))
        refine wpAnyH_done (by kernel_rfl) ?_ _
        refine NoPanic.normal ?_
        clear hHeld
        go_wp2_with fail
        go_meet
        exact ⟨b8, a3_1, k3_1, lo, hi, rfl, rfl, HF.out.1, HF.out.2.1, HO9.out.2.1, HO9.out.2.2.1, by rw [HF.out.2.2.2]; exact HO9.out.2.2.2.1, H8.out.2, by rw [HF.out.2.2.2]; exact H8.out.1.2, HO9.out.2.2.2.2, HF.out.2.2.1⟩
      ·
        go_wp2_with fail
        (first | (obtain ⟨W8, hW8⟩ : ∃ x, x = W9.alloc (.cells #[.slice none 0 0, .int .i64 0, .int .i64 0] 29) := ⟨_, rfl⟩; have hb : Below W9.heap.size W9 W8 := hW8 ▸ Go.Joins.below_alloc1 _ _; obtain ⟨b8, hb8⟩ : ∃ b, b = W9.heap.size := ⟨_, rfl⟩; have H8 : Hid (Bx W8 b8 [.slice none 0 0, .int .i64 0, .int .i64 0] ∧ w6.heap.size ≤ b8) := ⟨hb8 ▸ hW8 ▸ Bx.new W9 [.slice none 0 0, .int .i64 0, .int .i64 0] _, by rw [hb8]; exact HD.out.2.2.size⟩; have HO9 := (show Hid (Own W8 shCommit [.slice a3_1 NS.length k3_1, .int .i64 nd, .int .i64 nr] (NS, nd, nr, ()) (Btw lo hi) ∧ w6.heap.size ≤ lo ∧ lo ≤ hi ∧ hi ≤ W8.heap.size ∧ (b8 < lo ∨ hi ≤ b8)) from ⟨HO9.out.1.next hb, HO9.out.2.1, HO9.out.2.2.1, Nat.le_trans HO9.out.2.2.2 hb.size, Or.inr (by rw [hb8]; exact HO9.out.2.2.2)⟩); have HD := (show Hid (Bx W8 w5.heap.size [.slice p5_1 ss.length q5_1, .int .i64 dr, .int .i64 rc] ∧ Bx W8 (w.heap.size + 1) [.int .i64 sk, .int .i64 si, .int .i64 sj] ∧ Below w6.heap.size w6 W8) from ⟨HD.out.1.next hb, HD.out.2.1.next hb, below_next HD.out.2.2 hb⟩); rw [← hW8, ← hb8]; clear hW8 hb8 hb) | (obtain ⟨W8, hW8⟩ : ∃ x, x = W1.alloc (.cells #[.slice none 0 0, .int .i64 0, .int .i64 0] 29) := ⟨_, rfl⟩; have hb : Below W1.heap.size W1 W8 := hW8 ▸ Go.Joins.below_alloc1 _ _; obtain ⟨b8, hb8⟩ : ∃ b, b = W1.heap.size := ⟨_, rfl⟩; have H8 : Hid (Bx W8 b8 [.slice none 0 0, .int .i64 0, .int .i64 0] ∧ w6.heap.size ≤ b8) := ⟨hb8 ▸ hW8 ▸ Bx.new W1 [.slice none 0 0, .int .i64 0, .int .i64 0] _, by rw [hb8]; exact HD.out.2.2.size⟩; (first | (have HO0 := Hid.intro (HO0.out.next hb)) | skip); (first | (have HO1 := Hid.intro (HO1.out.next hb)) | skip); have HD := (show Hid (Bx W8 w5.heap.size [.slice p5_1 ss.length q5_1, .int .i64 dr, .int .i64 rc] ∧ Bx W8 (w.heap.size + 1) [.int .i64 sk, .int .i64 si, .int .i64 sj] ∧ Below w6.heap.size w6 W8) from ⟨HD.out.1.next hb, HD.out.2.1.next hb, below_next HD.out.2.2 hb⟩); rw [← hW8, ← hb8]; clear hW8 hb8 hb) | (obtain ⟨W8, hW8⟩ : ∃ x, x = X0.alloc (.cells #[.slice none 0 0, .int .i64 0, .int .i64 0] 29) := ⟨_, rfl⟩; have hb : Below X0.heap.size X0 W8 := hW8 ▸ Go.Joins.below_alloc1 _ _; obtain ⟨b8, hb8⟩ : ∃ b, b = X0.heap.size := ⟨_, rfl⟩; have H8 : Hid (Bx W8 b8 [.slice none 0 0, .int .i64 0, .int .i64 0] ∧ w6.heap.size ≤ b8) := ⟨hb8 ▸ hW8 ▸ Bx.new X0 [.slice none 0 0, .int .i64 0, .int .i64 0] _, by rw [hb8]; exact HD.out.2.2.size⟩; (first | (have HO0 := Hid.intro (HO0.out.next hb)) | skip); (first | (have HO1 := Hid.intro (HO1.out.next hb)) | skip); have HD := (show Hid (Bx W8 w5.heap.size [.slice p5_1 ss.length q5_1, .int .i64 dr, .int .i64 rc] ∧ Bx W8 (w.heap.size + 1) [.int .i64 sk, .int .i64 si, .int .i64 sj] ∧ Below w6.heap.size w6 W8) from ⟨HD.out.1.next hb, HD.out.2.1.next hb, below_next HD.out.2.2 hb⟩); rw [← hW8, ← hb8]; clear hW8 hb8 hb))
        refine hK.out _ _ ⟨HD.out.1, HD.out.2.1⟩ (fun hHeld => ?_)
        clear hK KC
        refine ready_call 3 ⟨some 35, Op.call { callee := Callee.value (Operand.func 15), args := #[Operand.tmp 32, Operand.tmp 34], argTypes := #[29, 48] }, _, _, _, none⟩ (by kernel_rfl) rfl (by kernel_rfl) (fun KC hK => ?_)
        go_wp2_with fail
        refine (stepCommit_l [.slice p5_1 ss.length q5_1, .int .i64 dr, .int .i64 rc] ss dr rc sk si sj _ NS nd nr z HA.out HS0.out (HFL.out.next (below_next HB6.out HD.out.2.2) HFL.out.lt) HO0.out).mono ?_
        intro r W9 hT
        obtain ⟨cs9, lo, hi, rfl, ho, hlo, hlh, hhi, hb⟩ := ansG_out hT
        obtain ⟨a3_1, k3_1, _, hev, _⟩ := own_Commit ho
        subst hev
        have hol : w6.heap.size ≤ lo := Nat.le_trans HD.out.2.2.size hlo
        (first | (have HO9 := (show Hid (Own W9 shCommit [.slice a3_1 NS.length k3_1, .int .i64 nd, .int .i64 nr] (NS, nd, nr, ()) (Btw lo hi) ∧ w6.heap.size ≤ lo ∧ lo ≤ hi ∧ hi ≤ W9.heap.size ∧ (b8 < lo ∨ hi ≤ b8)) from ⟨ho, hol, hlh, hhi, Or.inl (Nat.lt_of_lt_of_le H8.out.1.2 hlo)⟩)) | (have HO9 := (show Hid (Own W9 shCommit [.slice a3_1 NS.length k3_1, .int .i64 nd, .int .i64 nr] (NS, nd, nr, ()) (Btw lo hi) ∧ w6.heap.size ≤ lo ∧ lo ≤ hi ∧ hi ≤ W9.heap.size) from ⟨ho, hol, hlh, hhi⟩)))
        have HD := (show Hid (Bx W9 w5.heap.size [.slice p5_1 ss.length q5_1, .int .i64 dr, .int .i64 rc] ∧ Bx W9 (w.heap.size + 1) [.int .i64 sk, .int .i64 si, .int .i64 sj] ∧ Below w6.heap.size w6 W9) from ⟨HD.out.1.next hb, HD.out.2.1.next hb, below_next HD.out.2.2 hb⟩)
        (first | (have H8 := (show Hid (Bx W9 b8 [.slice none 0 0, .int .i64 0, .int .i64 0] ∧ w6.heap.size ≤ b8) from ⟨H8.out.1.next hb, H8.out.2⟩)) | skip)
        clear ho hlo hlh hhi hol hb hT
        refine hK.out _ _ ⟨HD.out.1, HD.out.2.1⟩ (fun hHeld => ?_)
        clear hK KC
        refine take_v (v := ?_) 4 ⟨some 31, Op.move (Operand.tmp 35), _, _, _, none⟩ rfl (fun _ _ _ h => h) ?_ hHeld ?_
        rotate_left
        · (intro W _; go_simp <;> (try with_reducible rfl))
        refine take_v (v := ?_) 5 ⟨some 36, Op.extract (Operand.tmp 31) 0, _, _, _, none⟩ rfl (fun _ _ _ h => h) ?_ hHeld ?_
        rotate_left
        · (intro W _; go_simp <;> (try with_reducible rfl))
        refine take_v (v := ?_) 6 ⟨some 37, Op.extract (Operand.tmp 31) 1, _, _, _, none⟩ rfl (fun _ _ _ h => h) ?_ hHeld ?_
        rotate_left
        · (intro W _; go_simp <;> (try with_reducible rfl))
        refine ready_call 8 ⟨none, Op.store 29 (Operand.tmp 9) (Operand.tmp 36), _, _, _, none⟩ (by kernel_rfl) rfl (by kernel_rfl) (fun KC hK => ?_)
        have dz := H8.out.1.2
        have d0 := H8.out.1.cell 0 rfl
        have d1 := H8.out.1.cell 1 rfl
        have d2 := H8.out.1.cell 2 rfl
        have f0 := H8.out.1.frz 0 (by simp)
        have f1 := H8.out.1.frz 1 (by simp)
        have f2 := H8.out.1.frz 2 (by simp)
        have h8 := H8.out.2
        go_wp2_with fail
        have HF := Hid.intro (box_own3 (o := w6) H8.out.1 H8.out.2 HO9.out.1 HO9.out.2.2.2.2 HD.out.2.2 (.slice a3_1 NS.length k3_1) (.int .i64 nd) (.int .i64 nr))
        clear dz d0 f0 d1 f1 d2 f2
        refine hK.out _ _ ⟨(((HD.out.1.other (by omega)).other (by omega)).other (by omega)), (((HD.out.2.1.other (by omega)).other (by omega)).other (by omega))⟩ (fun hHeld => ?_)
        clear hK KC
        refine take_v (v := ?_) 9 ⟨some 10, Op.assign (Operand.tmp 37), _, _, _, none⟩ rfl (fun _ _ _ h => h) ?_ hHeld ?_
        rotate_left
        · (intro W _; go_simp <;> (try with_reducible rfl))
        refine wpAnyH_done (by kernel_rfl) ?_ _
        refine NoPanic.normal ?_
        clear hHeld
        go_wp2_with fail
        go_meet
        exact ⟨b8, a3_1, k3_1, lo, hi, rfl, rfl, HF.out.1, HF.out.2.1, HO9.out.2.1, HO9.out.2.2.1, by rw [HF.out.2.2.2]; exact HO9.out.2.2.2.1, H8.out.2, by rw [HF.out.2.2.2]; exact H8.out.1.2, HO9.out.2.2.2.2, HF.out.2.2.1⟩
    ·
      go_wp2_with fail
      (first | (obtain ⟨W8, hW8⟩ : ∃ x, x = W9.alloc (.cells #[.slice none 0 0, .int .i64 0, .int .i64 0] 29) := ⟨_, rfl⟩; have hb : Below W9.heap.size W9 W8 := hW8 ▸ Go.Joins.below_alloc1 _ _; obtain ⟨b8, hb8⟩ : ∃ b, b = W9.heap.size := ⟨_, rfl⟩; have H8 : Hid (Bx W8 b8 [.slice none 0 0, .int .i64 0, .int .i64 0] ∧ w6.heap.size ≤ b8) := ⟨hb8 ▸ hW8 ▸ Bx.new W9 [.slice none 0 0, .int .i64 0, .int .i64 0] _, by rw [hb8]; exact HD.out.2.2.size⟩; have HO9 := (show Hid (Own W8 shCommit [.slice a3_1 NS.length k3_1, .int .i64 nd, .int .i64 nr] (NS, nd, nr, ()) (Btw lo hi) ∧ w6.heap.size ≤ lo ∧ lo ≤ hi ∧ hi ≤ W8.heap.size ∧ (b8 < lo ∨ hi ≤ b8)) from ⟨HO9.out.1.next hb, HO9.out.2.1, HO9.out.2.2.1, Nat.le_trans HO9.out.2.2.2 hb.size, Or.inr (by rw [hb8]; exact HO9.out.2.2.2)⟩); have HD := (show Hid (Bx W8 w5.heap.size [.slice p5_1 ss.length q5_1, .int .i64 dr, .int .i64 rc] ∧ Bx W8 (w.heap.size + 1) [.int .i64 sk, .int .i64 si, .int .i64 sj] ∧ Below w6.heap.size w6 W8) from ⟨HD.out.1.next hb, HD.out.2.1.next hb, below_next HD.out.2.2 hb⟩); rw [← hW8, ← hb8]; clear hW8 hb8 hb) | (obtain ⟨W8, hW8⟩ : ∃ x, x = W1.alloc (.cells #[.slice none 0 0, .int .i64 0, .int .i64 0] 29) := ⟨_, rfl⟩; have hb : Below W1.heap.size W1 W8 := hW8 ▸ Go.Joins.below_alloc1 _ _; obtain ⟨b8, hb8⟩ : ∃ b, b = W1.heap.size := ⟨_, rfl⟩; have H8 : Hid (Bx W8 b8 [.slice none 0 0, .int .i64 0, .int .i64 0] ∧ w6.heap.size ≤ b8) := ⟨hb8 ▸ hW8 ▸ Bx.new W1 [.slice none 0 0, .int .i64 0, .int .i64 0] _, by rw [hb8]; exact HD.out.2.2.size⟩; (first | (have HO0 := Hid.intro (HO0.out.next hb)) | skip); (first | (have HO1 := Hid.intro (HO1.out.next hb)) | skip); have HD := (show Hid (Bx W8 w5.heap.size [.slice p5_1 ss.length q5_1, .int .i64 dr, .int .i64 rc] ∧ Bx W8 (w.heap.size + 1) [.int .i64 sk, .int .i64 si, .int .i64 sj] ∧ Below w6.heap.size w6 W8) from ⟨HD.out.1.next hb, HD.out.2.1.next hb, below_next HD.out.2.2 hb⟩); rw [← hW8, ← hb8]; clear hW8 hb8 hb) | (obtain ⟨W8, hW8⟩ : ∃ x, x = X0.alloc (.cells #[.slice none 0 0, .int .i64 0, .int .i64 0] 29) := ⟨_, rfl⟩; have hb : Below X0.heap.size X0 W8 := hW8 ▸ Go.Joins.below_alloc1 _ _; obtain ⟨b8, hb8⟩ : ∃ b, b = X0.heap.size := ⟨_, rfl⟩; have H8 : Hid (Bx W8 b8 [.slice none 0 0, .int .i64 0, .int .i64 0] ∧ w6.heap.size ≤ b8) := ⟨hb8 ▸ hW8 ▸ Bx.new X0 [.slice none 0 0, .int .i64 0, .int .i64 0] _, by rw [hb8]; exact HD.out.2.2.size⟩; (first | (have HO0 := Hid.intro (HO0.out.next hb)) | skip); (first | (have HO1 := Hid.intro (HO1.out.next hb)) | skip); have HD := (show Hid (Bx W8 w5.heap.size [.slice p5_1 ss.length q5_1, .int .i64 dr, .int .i64 rc] ∧ Bx W8 (w.heap.size + 1) [.int .i64 sk, .int .i64 si, .int .i64 sj] ∧ Below w6.heap.size w6 W8) from ⟨HD.out.1.next hb, HD.out.2.1.next hb, below_next HD.out.2.2 hb⟩); rw [← hW8, ← hb8]; clear hW8 hb8 hb))
      refine hK.out _ _ ⟨HD.out.1, HD.out.2.1⟩ (fun hHeld => ?_)
      clear hK KC
      refine ready_call 2 ⟨some 34, Op.call { callee := Callee.value (Operand.func 20), args := #[Operand.tmp 33], argTypes := #[55] }, _, _, _, none⟩ (by kernel_rfl) rfl (by kernel_rfl) (fun KC hK => ?_)
      go_wp2_with fail
      refine (toCommitStep_n [.int .i64 sk, .int .i64 si, .int .i64 sj] sk si sj _ (by first | (show _ ≤ 1073741824; decide) | (simp [szD]) | (exact Nat.zero_le _)) (HL1.out.next (below_next HB6.out HD.out.2.2))).mono ?_
      rintro r W1 ⟨cs9, rfl, ho, hb⟩
      obtain hev := own_CommitStep ho
      subst hev
      (first | (have HO0 := Hid.intro (HO0.out.next hb)) | skip); (first | (have HO1 := Hid.intro (HO1.out.next hb)) | skip)
      have HO1 := Hid.intro ho.lies
      have HD := (show Hid (Bx W1 w5.heap.size [.slice p5_1 ss.length q5_1, .int .i64 dr, .int .i64 rc] ∧ Bx W1 (w.heap.size + 1) [.int .i64 sk, .int .i64 si, .int .i64 sj] ∧ Below w6.heap.size w6 W1) from ⟨HD.out.1.next hb, HD.out.2.1.next hb, below_next HD.out.2.2 hb⟩)
      (first | (have H8 := (show Hid (Bx W1 b8 [.slice none 0 0, .int .i64 0, .int .i64 0] ∧ w6.heap.size ≤ b8) from ⟨H8.out.1.next hb, H8.out.2⟩)) | skip)
      clear ho hb
      refine hK.out _ _ ⟨HD.out.1, HD.out.2.1⟩ (fun hHeld => ?_)
      clear hK KC
      refine ready_call 3 ⟨some 35, Op.call { callee := Callee.value (Operand.func 15), args := #[Operand.tmp 32, Operand.tmp 34], argTypes := #[29, 48] }, _, _, _, none⟩ (by kernel_rfl) rfl (by kernel_rfl) (fun KC hK => ?_)
      go_wp2_with fail
      refine (stepCommit_l [.slice p5_1 ss.length q5_1, .int .i64 dr, .int .i64 rc] ss dr rc sk si sj _ NS nd nr z HA.out HS0.out (HFL.out.next (below_next HB6.out HD.out.2.2) HFL.out.lt) HO0.out).mono ?_
      intro r W9 hT
      obtain ⟨cs9, lo, hi, rfl, ho, hlo, hlh, hhi, hb⟩ := ansG_out hT
      obtain ⟨a3_1, k3_1, _, hev, _⟩ := own_Commit ho
      subst hev
      have hol : w6.heap.size ≤ lo := Nat.le_trans HD.out.2.2.size hlo
      (first | (have HO9 := (show Hid (Own W9 shCommit [.slice a3_1 NS.length k3_1, .int .i64 nd, .int .i64 nr] (NS, nd, nr, ()) (Btw lo hi) ∧ w6.heap.size ≤ lo ∧ lo ≤ hi ∧ hi ≤ W9.heap.size ∧ (b8 < lo ∨ hi ≤ b8)) from ⟨ho, hol, hlh, hhi, Or.inl (Nat.lt_of_lt_of_le H8.out.1.2 hlo)⟩)) | (have HO9 := (show Hid (Own W9 shCommit [.slice a3_1 NS.length k3_1, .int .i64 nd, .int .i64 nr] (NS, nd, nr, ()) (Btw lo hi) ∧ w6.heap.size ≤ lo ∧ lo ≤ hi ∧ hi ≤ W9.heap.size) from ⟨ho, hol, hlh, hhi⟩)))
      have HD := (show Hid (Bx W9 w5.heap.size [.slice p5_1 ss.length q5_1, .int .i64 dr, .int .i64 rc] ∧ Bx W9 (w.heap.size + 1) [.int .i64 sk, .int .i64 si, .int .i64 sj] ∧ Below w6.heap.size w6 W9) from ⟨HD.out.1.next hb, HD.out.2.1.next hb, below_next HD.out.2.2 hb⟩)
      (first | (have H8 := (show Hid (Bx W9 b8 [.slice none 0 0, .int .i64 0, .int .i64 0] ∧ w6.heap.size ≤ b8) from ⟨H8.out.1.next hb, H8.out.2⟩)) | skip)
      clear ho hlo hlh hhi hol hb hT
      refine hK.out _ _ ⟨HD.out.1, HD.out.2.1⟩ (fun hHeld => ?_)
      clear hK KC
      refine take_v (v := ?_) 4 ⟨some 31, Op.move (Operand.tmp 35), _, _, _, none⟩ rfl (fun _ _ _ h => h) ?_ hHeld ?_
      rotate_left
      · (intro W _; go_simp <;> (try with_reducible rfl))
      refine take_v (v := ?_) 5 ⟨some 36, Op.extract (Operand.tmp 31) 0, _, _, _, none⟩ rfl (fun _ _ _ h => h) ?_ hHeld ?_
      rotate_left
      · (intro W _; go_simp <;> (try with_reducible rfl))
      refine take_v (v := ?_) 6 ⟨some 37, Op.extract (Operand.tmp 31) 1, _, _, _, none⟩ rfl (fun _ _ _ h => h) ?_ hHeld ?_
      rotate_left
      · (intro W _; go_simp <;> (try with_reducible rfl))
      refine ready_call 8 ⟨none, Op.store 29 (Operand.tmp 9) (Operand.tmp 36), _, _, _, none⟩ (by kernel_rfl) rfl (by kernel_rfl) (fun KC hK => ?_)
      have dz := H8.out.1.2
      have d0 := H8.out.1.cell 0 rfl
      have d1 := H8.out.1.cell 1 rfl
      have d2 := H8.out.1.cell 2 rfl
      have f0 := H8.out.1.frz 0 (by simp)
      have f1 := H8.out.1.frz 1 (by simp)
      have f2 := H8.out.1.frz 2 (by simp)
      have h8 := H8.out.2
      go_wp2_with fail
      have HF := Hid.intro (box_own3 (o := w6) H8.out.1 H8.out.2 HO9.out.1 HO9.out.2.2.2.2 HD.out.2.2 (.slice a3_1 NS.length k3_1) (.int .i64 nd) (.int .i64 nr))
      clear dz d0 f0 d1 f1 d2 f2
      refine hK.out _ _ ⟨(((HD.out.1.other (by omega)).other (by omega)).other (by omega)), (((HD.out.2.1.other (by omega)).other (by omega)).other (by omega))⟩ (fun hHeld => ?_)
      clear hK KC
      refine take_v (v := ?_) 9 ⟨some 10, Op.assign (Operand.tmp 37), _, _, _, none⟩ rfl (fun _ _ _ h => h) ?_ hHeld ?_
      rotate_left
      · (intro W _; go_simp <;> (try with_reducible rfl))
      refine wpAnyH_done (by kernel_rfl) ?_ _
      refine NoPanic.normal ?_
      clear hHeld
      go_wp2_with fail
      go_meet
      exact ⟨b8, a3_1, k3_1, lo, hi, rfl, rfl, HF.out.1, HF.out.2.1, HO9.out.2.1, HO9.out.2.2.1, by rw [HF.out.2.2.2]; exact HO9.out.2.2.2.1, H8.out.2, by rw [HF.out.2.2.2]; exact H8.out.1.2, HO9.out.2.2.2.2, HF.out.2.2.1⟩
  obtain ⟨b7, p7_1, q7_1, lo7, hi7, rfl, rfl, hbx, ho, hlo7, hlh7, hhi7, hbo7, hbb7, hbd7, hb⟩ := hcut
  obtain ⟨w7, hwd⟩ : ∃ x, x = wc := ⟨_, rfl⟩
  subst hwd
  have HB7 : Hid (Below w.heap.size w w7) := below_next HB6.out hb
  have sz7 : w6.heap.size ≤ w7.heap.size := hb.size
  have A0_7 : Hid (Bx w7 w.heap.size [.slice a0_1 ss.length k0_1, .int .i64 dr, .int .i64 rc]) := A0_6.out.next hb
  have A1_7 : Hid (Bx w7 (w.heap.size + 1) [.int .i64 sk, .int .i64 si, .int .i64 sj]) := A1_6.out.next hb
  have W_7 : Hid (Bx w7 b4 [.slice p4_1 NS.length q4_1, .int .i64 nd, .int .i64 nr]) := W_6.out.next hb
  have SP_7 : Hid (Own w7 shCommit [.slice p4_1 NS.length q4_1, .int .i64 nd, .int .i64 nr] (NS, nd, nr, ()) (Btw lo4 hi4)) := SP_6.out.next hb
  have P_7 : Hid (Own w7 shCommit [.slice p5_1 ss.length q5_1, .int .i64 dr, .int .i64 rc] (ss, dr, rc, ()) (Btw w4.heap.size w5.heap.size)) := P_6.out.next hb
  have U0_7 : Hid (Bx w7 w5.heap.size [.slice p5_1 ss.length q5_1, .int .i64 dr, .int .i64 rc]) := U0_6.out.next hb
  have G_7 : Hid (Bx w7 b7 [.slice p7_1 NS.length q7_1, .int .i64 nd, .int .i64 nr]) := hbx
  have GP_7 : Hid (Own w7 shCommit [.slice p7_1 NS.length q7_1, .int .i64 nd, .int .i64 nr] (NS, nd, nr, ()) (Btw lo7 hi7)) := ho
  clear hb hbx ho A0_6 A1_6 W_6 SP_6 P_6 U0_6 HB6
  have cW0 := W_7.out.cell 0 rfl
  have cW1 := W_7.out.cell 1 rfl
  have cW2 := W_7.out.cell 2 rfl
  have zW := W_7.out.2
  have cG0 := G_7.out.cell 0 rfl
  have cG1 := G_7.out.cell 1 rfl
  have cG2 := G_7.out.cell 2 rfl
  have zG := G_7.out.2
  go_wp2_with fail
  refine (eqCommit_n [.slice p7_1 NS.length q7_1, .int .i64 nd, .int .i64 nr] [.slice p4_1 NS.length q4_1, .int .i64 nd, .int .i64 nr] NS nd nr _ HT.out GP_7.out.lies SP_7.out.lies).mono ?_
  rintro r w8 ⟨rfl, hb⟩
  have HB8 : Hid (Below w.heap.size w w8) := below_next HB7.out hb
  have sz8 : w7.heap.size ≤ w8.heap.size := hb.size
  have A0_8 : Hid (Bx w8 w.heap.size [.slice a0_1 ss.length k0_1, .int .i64 dr, .int .i64 rc]) := A0_7.out.next hb
  have A1_8 : Hid (Bx w8 (w.heap.size + 1) [.int .i64 sk, .int .i64 si, .int .i64 sj]) := A1_7.out.next hb
  have W_8 : Hid (Bx w8 b4 [.slice p4_1 NS.length q4_1, .int .i64 nd, .int .i64 nr]) := W_7.out.next hb
  have SP_8 : Hid (Own w8 shCommit [.slice p4_1 NS.length q4_1, .int .i64 nd, .int .i64 nr] (NS, nd, nr, ()) (Btw lo4 hi4)) := SP_7.out.next hb
  have P_8 : Hid (Own w8 shCommit [.slice p5_1 ss.length q5_1, .int .i64 dr, .int .i64 rc] (ss, dr, rc, ()) (Btw w4.heap.size w5.heap.size)) := P_7.out.next hb
  have U0_8 : Hid (Bx w8 w5.heap.size [.slice p5_1 ss.length q5_1, .int .i64 dr, .int .i64 rc]) := U0_7.out.next hb
  have G_8 : Hid (Bx w8 b7 [.slice p7_1 NS.length q7_1, .int .i64 nd, .int .i64 nr]) := G_7.out.next hb
  have GP_8 : Hid (Own w8 shCommit [.slice p7_1 NS.length q7_1, .int .i64 nd, .int .i64 nr] (NS, nd, nr, ()) (Btw lo7 hi7)) := GP_7.out.next hb
  clear hb cW0 cW1 cW2 zW cG0 cG1 cG2 zG A0_7 A1_7 W_7 SP_7 P_7 U0_7 G_7 GP_7 HB7
  go_upto_region 10 with fail
  have hb : Below w8.heap.size w8 w8.drew := below_drew _
  have HB9 : Hid (Below w.heap.size w w8.drew) := below_next HB8.out hb
  have sz9 : w8.heap.size ≤ w8.drew.heap.size := hb.size
  have A0_9 : Hid (Bx w8.drew w.heap.size [.slice a0_1 ss.length k0_1, .int .i64 dr, .int .i64 rc]) := A0_8.out.next hb
  have A1_9 : Hid (Bx w8.drew (w.heap.size + 1) [.int .i64 sk, .int .i64 si, .int .i64 sj]) := A1_8.out.next hb
  have W_9 : Hid (Bx w8.drew b4 [.slice p4_1 NS.length q4_1, .int .i64 nd, .int .i64 nr]) := W_8.out.next hb
  have SP_9 : Hid (Own w8.drew shCommit [.slice p4_1 NS.length q4_1, .int .i64 nd, .int .i64 nr] (NS, nd, nr, ()) (Btw lo4 hi4)) := SP_8.out.next hb
  have P_9 : Hid (Own w8.drew shCommit [.slice p5_1 ss.length q5_1, .int .i64 dr, .int .i64 rc] (ss, dr, rc, ()) (Btw w4.heap.size w5.heap.size)) := P_8.out.next hb
  have U0_9 : Hid (Bx w8.drew w5.heap.size [.slice p5_1 ss.length q5_1, .int .i64 dr, .int .i64 rc]) := U0_8.out.next hb
  have G_9 : Hid (Bx w8.drew b7 [.slice p7_1 NS.length q7_1, .int .i64 nd, .int .i64 nr]) := G_8.out.next hb
  have GP_9 : Hid (Own w8.drew shCommit [.slice p7_1 NS.length q7_1, .int .i64 nd, .int .i64 nr] (NS, nd, nr, ()) (Btw lo7 hi7)) := GP_8.out.next hb
  clear hb A0_8 A1_8 W_8 SP_8 P_8 U0_8 G_8 GP_8 HB8
  refine wp_region_noPanic ?_
  refine wp_region_held_drew (S := fun W => Bx W w.heap.size [.slice a0_1 ss.length k0_1, .int .i64 dr, .int .i64 rc] ∧ Bx W w5.heap.size [.slice p5_1 ss.length q5_1, .int .i64 dr, .int .i64 rc]) (by kernel_rfl) ⟨A0_9.out, U0_9.out⟩ (fun hHeld => ?_)
  refine take_v (v := ?_) 0 ⟨some 47, Op.load 29 (Operand.tmp 8), _, _, _, none⟩ rfl (fun _ _ _ h => h) ?_ hHeld ?_
  rotate_left
  · (intro W hSW; (have s0_0 := hSW.1.cell 0 rfl; have s0_1 := hSW.1.cell 1 rfl; have s0_2 := hSW.1.cell 2 rfl; have s0z := hSW.1.2; have s1_0 := hSW.2.cell 0 rfl; have s1_1 := hSW.2.cell 1 rfl; have s1_2 := hSW.2.cell 2 rfl; have s1z := hSW.2.2); go_simp <;> (try with_reducible rfl))
  refine take_v (v := ?_) 1 ⟨some 48, Op.load 54 (Operand.tmp 2), _, _, _, none⟩ rfl (fun _ _ _ h => h) ?_ hHeld ?_
  rotate_left
  · (intro W hSW; (have s0_0 := hSW.1.cell 0 rfl; have s0_1 := hSW.1.cell 1 rfl; have s0_2 := hSW.1.cell 2 rfl; have s0z := hSW.1.2; have s1_0 := hSW.2.cell 0 rfl; have s1_1 := hSW.2.cell 1 rfl; have s1_2 := hSW.2.cell 2 rfl; have s1z := hSW.2.2); go_simp <;> (try with_reducible rfl))
  refine ready_call 2 ⟨some 49, Op.call { callee := Callee.value (Operand.func 19), args := #[Operand.tmp 48], argTypes := #[54] }, _, _, _, none⟩ (by kernel_rfl) rfl (by kernel_rfl) (fun KC hK => ?_)
  go_wp2_with fail
  refine (toCommit_n [.slice a0_1 ss.length k0_1, .int .i64 dr, .int .i64 rc] ss dr rc _ HS0.out (HL0.out.next HB9.out)).mono ?_
  rintro r w10 ⟨cs9, rfl, ho, hb⟩
  obtain ⟨p10_1, q10_1, _, hev, _⟩ := own_Commit ho
  subst hev
  have HB10 : Hid (Below w.heap.size w w10) := below_next HB9.out hb
  have sz10 : w8.drew.heap.size ≤ w10.heap.size := hb.size
  have A0_10 : Hid (Bx w10 w.heap.size [.slice a0_1 ss.length k0_1, .int .i64 dr, .int .i64 rc]) := A0_9.out.next hb
  have A1_10 : Hid (Bx w10 (w.heap.size + 1) [.int .i64 sk, .int .i64 si, .int .i64 sj]) := A1_9.out.next hb
  have W_10 : Hid (Bx w10 b4 [.slice p4_1 NS.length q4_1, .int .i64 nd, .int .i64 nr]) := W_9.out.next hb
  have SP_10 : Hid (Own w10 shCommit [.slice p4_1 NS.length q4_1, .int .i64 nd, .int .i64 nr] (NS, nd, nr, ()) (Btw lo4 hi4)) := SP_9.out.next hb
  have P_10 : Hid (Own w10 shCommit [.slice p5_1 ss.length q5_1, .int .i64 dr, .int .i64 rc] (ss, dr, rc, ()) (Btw w4.heap.size w5.heap.size)) := P_9.out.next hb
  have U0_10 : Hid (Bx w10 w5.heap.size [.slice p5_1 ss.length q5_1, .int .i64 dr, .int .i64 rc]) := U0_9.out.next hb
  have G_10 : Hid (Bx w10 b7 [.slice p7_1 NS.length q7_1, .int .i64 nd, .int .i64 nr]) := G_9.out.next hb
  have GP_10 : Hid (Own w10 shCommit [.slice p7_1 NS.length q7_1, .int .i64 nd, .int .i64 nr] (NS, nd, nr, ()) (Btw lo7 hi7)) := GP_9.out.next hb
  have D_10 : Hid (Own w10 shCommit [.slice p10_1 ss.length q10_1, .int .i64 dr, .int .i64 rc] (ss, dr, rc, ()) (Btw w8.drew.heap.size w10.heap.size)) := ho
  clear hb ho A0_9 A1_9 W_9 SP_9 P_9 U0_9 G_9 GP_9 HB9
  refine hK.out _ _ ⟨A0_10.out, U0_10.out⟩ (fun hHeld => ?_)
  clear hK KC
  refine ready_call 3 ⟨some 50, Op.call { callee := Callee.value (Operand.func 21), args := #[Operand.tmp 47, Operand.tmp 49], argTypes := #[29, 29] }, _, _, _, none⟩ (by kernel_rfl) rfl (by kernel_rfl) (fun KC hK => ?_)
  go_wp2_with fail
  refine (eqCommit_n [.slice p5_1 ss.length q5_1, .int .i64 dr, .int .i64 rc] [.slice p10_1 ss.length q10_1, .int .i64 dr, .int .i64 rc] ss dr rc _ HS0.out P_10.out.lies D_10.out.lies).mono ?_
  rintro r w11 ⟨rfl, hb⟩
  have HB11 : Hid (Below w.heap.size w w11) := below_next HB10.out hb
  have sz11 : w10.heap.size ≤ w11.heap.size := hb.size
  have A0_11 : Hid (Bx w11 w.heap.size [.slice a0_1 ss.length k0_1, .int .i64 dr, .int .i64 rc]) := A0_10.out.next hb
  have A1_11 : Hid (Bx w11 (w.heap.size + 1) [.int .i64 sk, .int .i64 si, .int .i64 sj]) := A1_10.out.next hb
  have W_11 : Hid (Bx w11 b4 [.slice p4_1 NS.length q4_1, .int .i64 nd, .int .i64 nr]) := W_10.out.next hb
  have SP_11 : Hid (Own w11 shCommit [.slice p4_1 NS.length q4_1, .int .i64 nd, .int .i64 nr] (NS, nd, nr, ()) (Btw lo4 hi4)) := SP_10.out.next hb
  have P_11 : Hid (Own w11 shCommit [.slice p5_1 ss.length q5_1, .int .i64 dr, .int .i64 rc] (ss, dr, rc, ()) (Btw w4.heap.size w5.heap.size)) := P_10.out.next hb
  have U0_11 : Hid (Bx w11 w5.heap.size [.slice p5_1 ss.length q5_1, .int .i64 dr, .int .i64 rc]) := U0_10.out.next hb
  have G_11 : Hid (Bx w11 b7 [.slice p7_1 NS.length q7_1, .int .i64 nd, .int .i64 nr]) := G_10.out.next hb
  have GP_11 : Hid (Own w11 shCommit [.slice p7_1 NS.length q7_1, .int .i64 nd, .int .i64 nr] (NS, nd, nr, ()) (Btw lo7 hi7)) := GP_10.out.next hb
  have D_11 : Hid (Own w11 shCommit [.slice p10_1 ss.length q10_1, .int .i64 dr, .int .i64 rc] (ss, dr, rc, ()) (Btw w8.drew.heap.size w10.heap.size)) := D_10.out.next hb
  clear hb A0_10 A1_10 W_10 SP_10 P_10 U0_10 G_10 GP_10 D_10 HB10
  refine hK.out _ _ ⟨A0_11.out, U0_11.out⟩ (fun hHeld => ?_)
  clear hK KC
  refine take_v (v := ?_) 4 ⟨some 51, Op.unOp UnOp.not 4 (Operand.tmp 50), _, _, _, none⟩ rfl (fun _ _ _ h => h) ?_ hHeld ?_
  rotate_left
  · (intro W _; go_simp <;> (try with_reducible rfl))
  refine wpAnyH_done (by kernel_rfl) ?_ _
  refine NoPanic.normal ?_
  clear D_11
  have cU00 := U0_11.out.cell 0 rfl
  have cU01 := U0_11.out.cell 1 rfl
  have cU02 := U0_11.out.cell 2 rfl
  have zU0 := U0_11.out.2
  go_wp2_with fail
  refine ((show Calls _ _ _ _ (MkP shCommit [.slice p5_1 ss.length q5_1, .int .i64 dr, .int .i64 rc] (mkT shCommit (ss, dr, rc, ()) 1) (1 + (cx : Int)) (Btw w4.heap.size w5.heap.size) _) from HCX.out ▸ markCommit_n [.slice p5_1 ss.length q5_1, .int .i64 dr, .int .i64 rc] ss dr rc 1 (Btw w4.heap.size w5.heap.size) _ (by decide) (by have h1 := HCX.out; rw [← h1]; omega) HS0.out (fun k hk => by have := hk.2; omega) P_11.out)).mono ?_
  rintro r w12 ⟨rfl, ho, ht⟩
  have HB12 : Hid (Below w.heap.size w w12) := Hid.intro (HB11.out.trans (ht.below (fun k hk => by simp only [Btw] at hk; omega) HB11.out.size))
  have sz12 : w11.heap.size ≤ w12.heap.size := ht.size
  have A0_12 : Hid (Bx w12 w.heap.size [.slice a0_1 ss.length k0_1, .int .i64 dr, .int .i64 rc]) := A0_11.out.turnS ht (by simp only [Btw]; omega)
  have A1_12 : Hid (Bx w12 (w.heap.size + 1) [.int .i64 sk, .int .i64 si, .int .i64 sj]) := A1_11.out.turnS ht (by simp only [Btw]; omega)
  have W_12 : Hid (Bx w12 b4 [.slice p4_1 NS.length q4_1, .int .i64 nd, .int .i64 nr]) := W_11.out.turnS ht (by simp only [Btw]; omega)
  have SP_12 : Hid (Own w12 shCommit [.slice p4_1 NS.length q4_1, .int .i64 nd, .int .i64 nr] (NS, nd, nr, ()) (Btw lo4 hi4)) := SP_11.out.turn ht (fun k e f => by simp only [Btw] at e f; omega)
  have P_12 : Hid (Own w12 shCommit [.slice p5_1 ss.length q5_1, .int .i64 dr, .int .i64 rc] (mkT shCommit (ss, dr, rc, ()) 1) (Btw w4.heap.size w5.heap.size)) := ho
  have U0_12 : Hid (Bx w12 w5.heap.size [.slice p5_1 ss.length q5_1, .int .i64 dr, .int .i64 rc]) := U0_11.out.turnS ht (by simp only [Btw]; omega)
  have G_12 : Hid (Bx w12 b7 [.slice p7_1 NS.length q7_1, .int .i64 nd, .int .i64 nr]) := G_11.out.turnS ht (by simp only [Btw]; omega)
  have GP_12 : Hid (Own w12 shCommit [.slice p7_1 NS.length q7_1, .int .i64 nd, .int .i64 nr] (NS, nd, nr, ()) (Btw lo7 hi7)) := GP_11.out.turn ht (fun k e f => by simp only [Btw] at e f; omega)
  clear ht ho cU00 cU01 cU02 zU0 A0_11 A1_11 W_11 SP_11 P_11 U0_11 G_11 GP_11 HB11
  clear P_12
  clear U0_12
  have cW0 := W_12.out.cell 0 rfl
  have cW1 := W_12.out.cell 1 rfl
  have cW2 := W_12.out.cell 2 rfl
  have zW := W_12.out.2
  have cG0 := G_12.out.cell 0 rfl
  have cG1 := G_12.out.cell 1 rfl
  have cG2 := G_12.out.cell 2 rfl
  have zG := G_12.out.2
  go_wp2_with fail
  refine (eqCommit_n [.slice p7_1 NS.length q7_1, .int .i64 nd, .int .i64 nr] [.slice p4_1 NS.length q4_1, .int .i64 nd, .int .i64 nr] NS nd nr _ HT.out GP_12.out.lies SP_12.out.lies).mono ?_
  rintro r w13 ⟨rfl, hb⟩
  have HB13 : Hid (Below w.heap.size w w13) := below_next HB12.out hb
  have sz13 : w12.heap.size ≤ w13.heap.size := hb.size
  have A0_13 : Hid (Bx w13 w.heap.size [.slice a0_1 ss.length k0_1, .int .i64 dr, .int .i64 rc]) := A0_12.out.next hb
  have A1_13 : Hid (Bx w13 (w.heap.size + 1) [.int .i64 sk, .int .i64 si, .int .i64 sj]) := A1_12.out.next hb
  have W_13 : Hid (Bx w13 b4 [.slice p4_1 NS.length q4_1, .int .i64 nd, .int .i64 nr]) := W_12.out.next hb
  have SP_13 : Hid (Own w13 shCommit [.slice p4_1 NS.length q4_1, .int .i64 nd, .int .i64 nr] (NS, nd, nr, ()) (Btw lo4 hi4)) := SP_12.out.next hb
  have G_13 : Hid (Bx w13 b7 [.slice p7_1 NS.length q7_1, .int .i64 nd, .int .i64 nr]) := G_12.out.next hb
  have GP_13 : Hid (Own w13 shCommit [.slice p7_1 NS.length q7_1, .int .i64 nd, .int .i64 nr] (NS, nd, nr, ()) (Btw lo7 hi7)) := GP_12.out.next hb
  clear hb cW0 cW1 cW2 zW cG0 cG1 cG2 zG A0_12 A1_12 W_12 SP_12 G_12 GP_12 HB12
  have cG0 := G_13.out.cell 0 rfl
  have cG1 := G_13.out.cell 1 rfl
  have cG2 := G_13.out.cell 2 rfl
  have zG := G_13.out.2
  go_wp2_with fail
  refine ((show Calls _ _ _ _ (MkP shCommit [.slice p7_1 NS.length q7_1, .int .i64 nd, .int .i64 nr] (mkT shCommit (NS, nd, nr, ()) 1) (1 + (cn : Int)) (Btw lo7 hi7) _) from HCN.out ▸ markCommit_n [.slice p7_1 NS.length q7_1, .int .i64 nd, .int .i64 nr] NS nd nr 1 (Btw lo7 hi7) _ (by decide) (by have h1 := HCN.out; rw [← h1]; omega) HT.out (fun k hk => by have := hk.2; omega) GP_13.out)).mono ?_
  rintro r w14 ⟨rfl, ho, ht⟩
  have HB14 : Hid (Below w.heap.size w w14) := Hid.intro (HB13.out.trans (ht.below (fun k hk => by simp only [Btw] at hk; omega) HB13.out.size))
  have sz14 : w13.heap.size ≤ w14.heap.size := ht.size
  have A0_14 : Hid (Bx w14 w.heap.size [.slice a0_1 ss.length k0_1, .int .i64 dr, .int .i64 rc]) := A0_13.out.turnS ht (by simp only [Btw]; omega)
  have A1_14 : Hid (Bx w14 (w.heap.size + 1) [.int .i64 sk, .int .i64 si, .int .i64 sj]) := A1_13.out.turnS ht (by simp only [Btw]; omega)
  have W_14 : Hid (Bx w14 b4 [.slice p4_1 NS.length q4_1, .int .i64 nd, .int .i64 nr]) := W_13.out.turnS ht (by simp only [Btw]; omega)
  have SP_14 : Hid (Own w14 shCommit [.slice p4_1 NS.length q4_1, .int .i64 nd, .int .i64 nr] (NS, nd, nr, ()) (Btw lo4 hi4)) := SP_13.out.turn ht (fun k e f => by simp only [Btw] at e f; omega)
  have G_14 : Hid (Bx w14 b7 [.slice p7_1 NS.length q7_1, .int .i64 nd, .int .i64 nr]) := G_13.out.turnS ht (by simp only [Btw]; omega)
  have GP_14 : Hid (Own w14 shCommit [.slice p7_1 NS.length q7_1, .int .i64 nd, .int .i64 nr] (mkT shCommit (NS, nd, nr, ()) 1) (Btw lo7 hi7)) := ho
  clear ht ho cG0 cG1 cG2 zG A0_13 A1_13 W_13 SP_13 G_13 GP_13 HB13
  have cG0 := G_14.out.cell 0 rfl
  have cG1 := G_14.out.cell 1 rfl
  have cG2 := G_14.out.cell 2 rfl
  have zG := G_14.out.2
  go_wp2_with fail
  refine ((show Calls _ _ _ _ (fun r w' => r = .returned (.int .i64 (1 + (cn : Int))) ∧ Below _ _ w') from HCN.out ▸ heldCommit_n [.slice p7_1 NS.length q7_1, .int .i64 nd, .int .i64 nr] NS nd nr 1 _ (by decide) (by have h1 := HCN.out; rw [← h1]; omega) HT.out GP_14.out.lies)).mono ?_
  rintro r w15 ⟨rfl, hb⟩
  have HB15 : Hid (Below w.heap.size w w15) := below_next HB14.out hb
  have sz15 : w14.heap.size ≤ w15.heap.size := hb.size
  have A0_15 : Hid (Bx w15 w.heap.size [.slice a0_1 ss.length k0_1, .int .i64 dr, .int .i64 rc]) := A0_14.out.next hb
  have A1_15 : Hid (Bx w15 (w.heap.size + 1) [.int .i64 sk, .int .i64 si, .int .i64 sj]) := A1_14.out.next hb
  have W_15 : Hid (Bx w15 b4 [.slice p4_1 NS.length q4_1, .int .i64 nd, .int .i64 nr]) := W_14.out.next hb
  have SP_15 : Hid (Own w15 shCommit [.slice p4_1 NS.length q4_1, .int .i64 nd, .int .i64 nr] (NS, nd, nr, ()) (Btw lo4 hi4)) := SP_14.out.next hb
  have G_15 : Hid (Bx w15 b7 [.slice p7_1 NS.length q7_1, .int .i64 nd, .int .i64 nr]) := G_14.out.next hb
  have GP_15 : Hid (Own w15 shCommit [.slice p7_1 NS.length q7_1, .int .i64 nd, .int .i64 nr] (mkT shCommit (NS, nd, nr, ()) 1) (Btw lo7 hi7)) := GP_14.out.next hb
  clear hb cG0 cG1 cG2 zG A0_14 A1_14 W_14 SP_14 G_14 GP_14 HB14
  go_upto_region 24 with fail
  go_cut [14, 15] (fun s14 s15 wx => ∃ (b : Nat) (a3_1 : Option Addr) (k3_1 : Nat) (lo hi : Nat), s14 = .pointer (some ⟨b, 0, none⟩) ∧ s15 = .bool z ∧ Bx wx b [.slice a3_1 NS.length k3_1, .int .i64 nd, .int .i64 nr] ∧ Own wx shCommit [.slice a3_1 NS.length k3_1, .int .i64 nd, .int .i64 nr] (NS, nd, nr, ()) (Btw lo hi) ∧ w15.heap.size ≤ lo ∧ lo ≤ hi ∧ hi ≤ wx.heap.size ∧ w15.heap.size ≤ b ∧ b < wx.heap.size ∧ (b < lo ∨ hi ≤ b) ∧ Below w15.heap.size w15 wx)
  case first =>
    have hb : Below w15.heap.size w15 w15.drew := below_drew _
    have HD : Hid (Bx w15.drew w.heap.size [.slice a0_1 ss.length k0_1, .int .i64 dr, .int .i64 rc] ∧ Bx w15.drew (w.heap.size + 1) [.int .i64 sk, .int .i64 si, .int .i64 sj] ∧ Below w15.heap.size w15 w15.drew) := ⟨A0_15.out.next hb, A1_15.out.next hb, hb⟩
    clear hb
    refine wp_region_noPanic ?_
    refine wp_region_held_drew (S := fun W => Bx W w.heap.size [.slice a0_1 ss.length k0_1, .int .i64 dr, .int .i64 rc] ∧ Bx W (w.heap.size + 1) [.int .i64 sk, .int .i64 si, .int .i64 sj]) (by kernel_rfl) ⟨HD.out.1, HD.out.2.1⟩ (fun hHeld => ?_)
    obtain ⟨X0, hX0⟩ : ∃ x, x = w15.drew := ⟨_, rfl⟩
    rw [← hX0] at HD hHeld ⊢
    clear hX0
    refine take_v (v := ?_) 0 ⟨some 80, Op.load 54 (Operand.tmp 2), _, _, _, none⟩ rfl (fun _ _ _ h => h) ?_ hHeld ?_
    rotate_left
    · (intro W hSW; (have s0_0 := hSW.1.cell 0 rfl; have s0_1 := hSW.1.cell 1 rfl; have s0_2 := hSW.1.cell 2 rfl; have s0z := hSW.1.2; have s1_0 := hSW.2.cell 0 rfl; have s1_1 := hSW.2.cell 1 rfl; have s1_2 := hSW.2.cell 2 rfl; have s1z := hSW.2.2); go_simp <;> (try with_reducible rfl))
    refine take_v (v := ?_) 2 ⟨some 82, Op.load 55 (Operand.tmp 3), _, _, _, none⟩ rfl (fun _ _ _ h => h) ?_ hHeld ?_
    rotate_left
    · (intro W hSW; (have s0_0 := hSW.1.cell 0 rfl; have s0_1 := hSW.1.cell 1 rfl; have s0_2 := hSW.1.cell 2 rfl; have s0z := hSW.1.2; have s1_0 := hSW.2.cell 0 rfl; have s1_1 := hSW.2.cell 1 rfl; have s1_2 := hSW.2.cell 2 rfl; have s1z := hSW.2.2); go_simp <;> (try with_reducible rfl))
    refine ready_two 1 8 ⟨some 81, Op.call { callee := Callee.value (Operand.func 19), args := #[Operand.tmp 80], argTypes := #[54] }, _, _, _, none⟩ ⟨some 14, Op.alloc 29, _, _, _, none⟩ (by kernel_rfl) rfl rfl (by kernel_rfl) (by kernel_rfl) (fun KC hK => ?_) (fun KC hK => ?_)
    ·
      go_wp2_with fail
      refine (toCommit_n [.slice a0_1 ss.length k0_1, .int .i64 dr, .int .i64 rc] ss dr rc _ HS0.out (HL0.out.next (below_next HB15.out HD.out.2.2))).mono ?_
      rintro r W1 ⟨cs9, rfl, ho, hb⟩
      obtain ⟨p1_1, q1_1, _, hev, _⟩ := own_Commit ho
      subst hev
      (first | (have HO1 := Hid.intro (HO1.out.next hb)) | skip); (first | (have HO2 := Hid.intro (HO2.out.next hb)) | skip)
      have HO1 := Hid.intro ho.lies
      have HD := (show Hid (Bx W1 w.heap.size [.slice a0_1 ss.length k0_1, .int .i64 dr, .int .i64 rc] ∧ Bx W1 (w.heap.size + 1) [.int .i64 sk, .int .i64 si, .int .i64 sj] ∧ Below w15.heap.size w15 W1) from ⟨HD.out.1.next hb, HD.out.2.1.next hb, below_next HD.out.2.2 hb⟩)
      (first | (have H8 := (show Hid (Bx W1 b8 [.slice none 0 0, .int .i64 0, .int .i64 0] ∧ w15.heap.size ≤ b8) from ⟨H8.out.1.next hb, H8.out.2⟩)) | skip)
      clear ho hb
      refine hK.out _ _ ⟨HD.out.1, HD.out.2.1⟩ (fun hHeld => ?_)
      clear hK KC
      refine ready_two 3 8 ⟨some 83, Op.call { callee := Callee.value (Operand.func 20), args := #[Operand.tmp 82], argTypes := #[55] }, _, _, _, none⟩ ⟨some 14, Op.alloc 29, _, _, _, none⟩ (by kernel_rfl) rfl rfl (by kernel_rfl) (by kernel_rfl) (fun KC hK => ?_) (fun KC hK => ?_)
      ·
        go_wp2_with fail
        refine (toCommitStep_n [.int .i64 sk, .int .i64 si, .int .i64 sj] sk si sj _ (by first | (show _ ≤ 1073741824; decide) | (simp [szD]) | (exact Nat.zero_le _)) (HL1.out.next (below_next HB15.out HD.out.2.2))).mono ?_
        rintro r W2 ⟨cs9, rfl, ho, hb⟩
        obtain hev := own_CommitStep ho
        subst hev
        (first | (have HO1 := Hid.intro (HO1.out.next hb)) | skip); (first | (have HO2 := Hid.intro (HO2.out.next hb)) | skip)
        have HO2 := Hid.intro ho.lies
        have HD := (show Hid (Bx W2 w.heap.size [.slice a0_1 ss.length k0_1, .int .i64 dr, .int .i64 rc] ∧ Bx W2 (w.heap.size + 1) [.int .i64 sk, .int .i64 si, .int .i64 sj] ∧ Below w15.heap.size w15 W2) from ⟨HD.out.1.next hb, HD.out.2.1.next hb, below_next HD.out.2.2 hb⟩)
        (first | (have H8 := (show Hid (Bx W2 b8 [.slice none 0 0, .int .i64 0, .int .i64 0] ∧ w15.heap.size ≤ b8) from ⟨H8.out.1.next hb, H8.out.2⟩)) | skip)
        clear ho hb
        refine hK.out _ _ ⟨HD.out.1, HD.out.2.1⟩ (fun hHeld => ?_)
        clear hK KC
        refine ready_two 4 8 ⟨some 84, Op.call { callee := Callee.value (Operand.func 15), args := #[Operand.tmp 81, Operand.tmp 83], argTypes := #[29, 48] }, _, _, _, none⟩ ⟨some 14, Op.alloc 29, _, _, _, none⟩ (by kernel_rfl) rfl rfl (by kernel_rfl) (by kernel_rfl) (fun KC hK => ?_) (fun KC hK => ?_)
        ·
          go_wp2_with fail
          refine (stepCommit_l [.slice p1_1 ss.length q1_1, .int .i64 dr, .int .i64 rc] ss dr rc sk si sj _ NS nd nr z HA.out HS0.out (HFL.out.next (below_next HB15.out HD.out.2.2) HFL.out.lt) HO1.out).mono ?_
          intro r W9 hT
          obtain ⟨cs9, lo, hi, rfl, ho, hlo, hlh, hhi, hb⟩ := ansG_out hT
          obtain ⟨a3_1, k3_1, _, hev, _⟩ := own_Commit ho
          subst hev
          have hol : w15.heap.size ≤ lo := Nat.le_trans HD.out.2.2.size hlo
          (first | (have HO9 := (show Hid (Own W9 shCommit [.slice a3_1 NS.length k3_1, .int .i64 nd, .int .i64 nr] (NS, nd, nr, ()) (Btw lo hi) ∧ w15.heap.size ≤ lo ∧ lo ≤ hi ∧ hi ≤ W9.heap.size ∧ (b8 < lo ∨ hi ≤ b8)) from ⟨ho, hol, hlh, hhi, Or.inl (Nat.lt_of_lt_of_le H8.out.1.2 hlo)⟩)) | (have HO9 := (show Hid (Own W9 shCommit [.slice a3_1 NS.length k3_1, .int .i64 nd, .int .i64 nr] (NS, nd, nr, ()) (Btw lo hi) ∧ w15.heap.size ≤ lo ∧ lo ≤ hi ∧ hi ≤ W9.heap.size) from ⟨ho, hol, hlh, hhi⟩)))
          have HD := (show Hid (Bx W9 w.heap.size [.slice a0_1 ss.length k0_1, .int .i64 dr, .int .i64 rc] ∧ Bx W9 (w.heap.size + 1) [.int .i64 sk, .int .i64 si, .int .i64 sj] ∧ Below w15.heap.size w15 W9) from ⟨HD.out.1.next hb, HD.out.2.1.next hb, below_next HD.out.2.2 hb⟩)
          (first | (have H8 := (show Hid (Bx W9 b8 [.slice none 0 0, .int .i64 0, .int .i64 0] ∧ w15.heap.size ≤ b8) from ⟨H8.out.1.next hb, H8.out.2⟩)) | skip)
          clear ho hlo hlh hhi hol hb hT
          refine hK.out _ _ ⟨HD.out.1, HD.out.2.1⟩ (fun hHeld => ?_)
          clear hK KC
          refine take_v (v := ?_) 5 ⟨some 79, Op.move (Operand.tmp 84), _, _, _, none⟩ rfl (fun _ _ _ h => h) ?_ hHeld ?_
          rotate_left
          · (intro W _; go_simp <;> (try with_reducible rfl))
          refine take_v (v := ?_) 6 ⟨some 85, Op.extract (Operand.tmp 79) 0, _, _, _, none⟩ rfl (fun _ _ _ h => h) ?_ hHeld ?_
          rotate_left
          · (intro W _; go_simp <;> (try with_reducible rfl))
          refine take_v (v := ?_) 7 ⟨some 86, Op.extract (Operand.tmp 79) 1, _, _, _, none⟩ rfl (fun _ _ _ h => h) ?_ hHeld ?_
          rotate_left
          · (intro W _; go_simp <;> (try with_reducible rfl))
          refine ready_call 8 ⟨some 14, Op.alloc 29, _, _, _, none⟩ (by kernel_rfl) rfl (by kernel_rfl) (fun KC hK => ?_)
          go_wp2_with fail
          (first | (obtain ⟨W8, hW8⟩ : ∃ x, x = W9.alloc (.cells #[.slice none 0 0, .int .i64 0, .int .i64 0] 29) := ⟨_, rfl⟩; have hb : Below W9.heap.size W9 W8 := hW8 ▸ Go.Joins.below_alloc1 _ _; obtain ⟨b8, hb8⟩ : ∃ b, b = W9.heap.size := ⟨_, rfl⟩; have H8 : Hid (Bx W8 b8 [.slice none 0 0, .int .i64 0, .int .i64 0] ∧ w15.heap.size ≤ b8) := ⟨hb8 ▸ hW8 ▸ Bx.new W9 [.slice none 0 0, .int .i64 0, .int .i64 0] _, by rw [hb8]; exact HD.out.2.2.size⟩; have HO9 := (show Hid (Own W8 shCommit [.slice a3_1 NS.length k3_1, .int .i64 nd, .int .i64 nr] (NS, nd, nr, ()) (Btw lo hi) ∧ w15.heap.size ≤ lo ∧ lo ≤ hi ∧ hi ≤ W8.heap.size ∧ (b8 < lo ∨ hi ≤ b8)) from ⟨HO9.out.1.next hb, HO9.out.2.1, HO9.out.2.2.1, Nat.le_trans HO9.out.2.2.2 hb.size, Or.inr (by rw [hb8]; exact HO9.out.2.2.2)⟩); have HD := (show Hid (Bx W8 w.heap.size [.slice a0_1 ss.length k0_1, .int .i64 dr, .int .i64 rc] ∧ Bx W8 (w.heap.size + 1) [.int .i64 sk, .int .i64 si, .int .i64 sj] ∧ Below w15.heap.size w15 W8) from ⟨HD.out.1.next hb, HD.out.2.1.next hb, below_next HD.out.2.2 hb⟩); rw [← hW8, ← hb8]; clear hW8 hb8 hb) | (obtain ⟨W8, hW8⟩ : ∃ x, x = W2.alloc (.cells #[.slice none 0 0, .int .i64 0, .int .i64 0] 29) := ⟨_, rfl⟩; have hb : Below W2.heap.size W2 W8 := hW8 ▸ Go.Joins.below_alloc1 _ _; obtain ⟨b8, hb8⟩ : ∃ b, b = W2.heap.size := ⟨_, rfl⟩; have H8 : Hid (Bx W8 b8 [.slice none 0 0, .int .i64 0, .int .i64 0] ∧ w15.heap.size ≤ b8) := ⟨hb8 ▸ hW8 ▸ Bx.new W2 [.slice none 0 0, .int .i64 0, .int .i64 0] _, by rw [hb8]; exact HD.out.2.2.size⟩; (first | (have HO1 := Hid.intro (HO1.out.next hb)) | skip); (first | (have HO2 := Hid.intro (HO2.out.next hb)) | skip); have HD := (show Hid (Bx W8 w.heap.size [.slice a0_1 ss.length k0_1, .int .i64 dr, .int .i64 rc] ∧ Bx W8 (w.heap.size + 1) [.int .i64 sk, .int .i64 si, .int .i64 sj] ∧ Below w15.heap.size w15 W8) from ⟨HD.out.1.next hb, HD.out.2.1.next hb, below_next HD.out.2.2 hb⟩); rw [← hW8, ← hb8]; clear hW8 hb8 hb) | (obtain ⟨W8, hW8⟩ : ∃ x, x = W1.alloc (.cells #[.slice none 0 0, .int .i64 0, .int .i64 0] 29) := ⟨_, rfl⟩; have hb : Below W1.heap.size W1 W8 := hW8 ▸ Go.Joins.below_alloc1 _ _; obtain ⟨b8, hb8⟩ : ∃ b, b = W1.heap.size := ⟨_, rfl⟩; have H8 : Hid (Bx W8 b8 [.slice none 0 0, .int .i64 0, .int .i64 0] ∧ w15.heap.size ≤ b8) := ⟨hb8 ▸ hW8 ▸ Bx.new W1 [.slice none 0 0, .int .i64 0, .int .i64 0] _, by rw [hb8]; exact HD.out.2.2.size⟩; (first | (have HO1 := Hid.intro (HO1.out.next hb)) | skip); (first | (have HO2 := Hid.intro (HO2.out.next hb)) | skip); have HD := (show Hid (Bx W8 w.heap.size [.slice a0_1 ss.length k0_1, .int .i64 dr, .int .i64 rc] ∧ Bx W8 (w.heap.size + 1) [.int .i64 sk, .int .i64 si, .int .i64 sj] ∧ Below w15.heap.size w15 W8) from ⟨HD.out.1.next hb, HD.out.2.1.next hb, below_next HD.out.2.2 hb⟩); rw [← hW8, ← hb8]; clear hW8 hb8 hb) | (obtain ⟨W8, hW8⟩ : ∃ x, x = X0.alloc (.cells #[.slice none 0 0, .int .i64 0, .int .i64 0] 29) := ⟨_, rfl⟩; have hb : Below X0.heap.size X0 W8 := hW8 ▸ Go.Joins.below_alloc1 _ _; obtain ⟨b8, hb8⟩ : ∃ b, b = X0.heap.size := ⟨_, rfl⟩; have H8 : Hid (Bx W8 b8 [.slice none 0 0, .int .i64 0, .int .i64 0] ∧ w15.heap.size ≤ b8) := ⟨hb8 ▸ hW8 ▸ Bx.new X0 [.slice none 0 0, .int .i64 0, .int .i64 0] _, by rw [hb8]; exact HD.out.2.2.size⟩; (first | (have HO1 := Hid.intro (HO1.out.next hb)) | skip); (first | (have HO2 := Hid.intro (HO2.out.next hb)) | skip); have HD := (show Hid (Bx W8 w.heap.size [.slice a0_1 ss.length k0_1, .int .i64 dr, .int .i64 rc] ∧ Bx W8 (w.heap.size + 1) [.int .i64 sk, .int .i64 si, .int .i64 sj] ∧ Below w15.heap.size w15 W8) from ⟨HD.out.1.next hb, HD.out.2.1.next hb, below_next HD.out.2.2 hb⟩); rw [← hW8, ← hb8]; clear hW8 hb8 hb))
          refine hK.out _ _ ⟨HD.out.1, HD.out.2.1⟩ (fun hHeld => ?_)
          clear hK KC
          refine ready_call 9 ⟨none, Op.store 29 (Operand.tmp 14) (Operand.tmp 85), _, _, _, none⟩ (by kernel_rfl) rfl (by kernel_rfl) (fun KC hK => ?_)
          have dz := H8.out.1.2
          have d0 := H8.out.1.cell 0 rfl
          have d1 := H8.out.1.cell 1 rfl
          have d2 := H8.out.1.cell 2 rfl
          have f0 := H8.out.1.frz 0 (by simp)
          have f1 := H8.out.1.frz 1 (by simp)
          have f2 := H8.out.1.frz 2 (by simp)
          have h8 := H8.out.2
          go_wp2_with fail
          have HF := Hid.intro (box_own3 (o := w15) H8.out.1 H8.out.2 HO9.out.1 HO9.out.2.2.2.2 HD.out.2.2 (.slice a3_1 NS.length k3_1) (.int .i64 nd) (.int .i64 nr))
          clear dz d0 f0 d1 f1 d2 f2
          refine hK.out _ _ ⟨(((HD.out.1.other (by omega)).other (by omega)).other (by omega)), (((HD.out.2.1.other (by omega)).other (by omega)).other (by omega))⟩ (fun hHeld => ?_)
          clear hK KC
          refine take_v (v := ?_) 10 ⟨some 15, Op.assign (Operand.tmp 86), _, _, _, none⟩ rfl (fun _ _ _ h => h) ?_ hHeld ?_
          rotate_left
          · (intro W _; go_simp <;> (try with_reducible rfl))
          refine wpAnyH_done (by kernel_rfl) ?_ _
          refine NoPanic.normal ?_
          clear hHeld
          go_wp2_with fail
          go_meet
          exact ⟨b8, a3_1, k3_1, lo, hi, rfl, rfl, HF.out.1, HF.out.2.1, HO9.out.2.1, HO9.out.2.2.1, by rw [HF.out.2.2.2]; exact HO9.out.2.2.2.1, H8.out.2, by rw [HF.out.2.2.2]; exact H8.out.1.2, HO9.out.2.2.2.2, HF.out.2.2.1⟩
        ·
          go_wp2_with fail
          (first | (obtain ⟨W8, hW8⟩ : ∃ x, x = W9.alloc (.cells #[.slice none 0 0, .int .i64 0, .int .i64 0] 29) := ⟨_, rfl⟩; have hb : Below W9.heap.size W9 W8 := hW8 ▸ Go.Joins.below_alloc1 _ _; obtain ⟨b8, hb8⟩ : ∃ b, b = W9.heap.size := ⟨_, rfl⟩; have H8 : Hid (Bx W8 b8 [.slice none 0 0, .int .i64 0, .int .i64 0] ∧ w15.heap.size ≤ b8) := ⟨hb8 ▸ hW8 ▸ Bx.new W9 [.slice none 0 0, .int .i64 0, .int .i64 0] _, by rw [hb8]; exact HD.out.2.2.size⟩; have HO9 := (show Hid (Own W8 shCommit [.slice a3_1 NS.length k3_1, .int .i64 nd, .int .i64 nr] (NS, nd, nr, ()) (Btw lo hi) ∧ w15.heap.size ≤ lo ∧ lo ≤ hi ∧ hi ≤ W8.heap.size ∧ (b8 < lo ∨ hi ≤ b8)) from ⟨HO9.out.1.next hb, HO9.out.2.1, HO9.out.2.2.1, Nat.le_trans HO9.out.2.2.2 hb.size, Or.inr (by rw [hb8]; exact HO9.out.2.2.2)⟩); have HD := (show Hid (Bx W8 w.heap.size [.slice a0_1 ss.length k0_1, .int .i64 dr, .int .i64 rc] ∧ Bx W8 (w.heap.size + 1) [.int .i64 sk, .int .i64 si, .int .i64 sj] ∧ Below w15.heap.size w15 W8) from ⟨HD.out.1.next hb, HD.out.2.1.next hb, below_next HD.out.2.2 hb⟩); rw [← hW8, ← hb8]; clear hW8 hb8 hb) | (obtain ⟨W8, hW8⟩ : ∃ x, x = W2.alloc (.cells #[.slice none 0 0, .int .i64 0, .int .i64 0] 29) := ⟨_, rfl⟩; have hb : Below W2.heap.size W2 W8 := hW8 ▸ Go.Joins.below_alloc1 _ _; obtain ⟨b8, hb8⟩ : ∃ b, b = W2.heap.size := ⟨_, rfl⟩; have H8 : Hid (Bx W8 b8 [.slice none 0 0, .int .i64 0, .int .i64 0] ∧ w15.heap.size ≤ b8) := ⟨hb8 ▸ hW8 ▸ Bx.new W2 [.slice none 0 0, .int .i64 0, .int .i64 0] _, by rw [hb8]; exact HD.out.2.2.size⟩; (first | (have HO1 := Hid.intro (HO1.out.next hb)) | skip); (first | (have HO2 := Hid.intro (HO2.out.next hb)) | skip); have HD := (show Hid (Bx W8 w.heap.size [.slice a0_1 ss.length k0_1, .int .i64 dr, .int .i64 rc] ∧ Bx W8 (w.heap.size + 1) [.int .i64 sk, .int .i64 si, .int .i64 sj] ∧ Below w15.heap.size w15 W8) from ⟨HD.out.1.next hb, HD.out.2.1.next hb, below_next HD.out.2.2 hb⟩); rw [← hW8, ← hb8]; clear hW8 hb8 hb) | (obtain ⟨W8, hW8⟩ : ∃ x, x = W1.alloc (.cells #[.slice none 0 0, .int .i64 0, .int .i64 0] 29) := ⟨_, rfl⟩; have hb : Below W1.heap.size W1 W8 := hW8 ▸ Go.Joins.below_alloc1 _ _; obtain ⟨b8, hb8⟩ : ∃ b, b = W1.heap.size := ⟨_, rfl⟩; have H8 : Hid (Bx W8 b8 [.slice none 0 0, .int .i64 0, .int .i64 0] ∧ w15.heap.size ≤ b8) := ⟨hb8 ▸ hW8 ▸ Bx.new W1 [.slice none 0 0, .int .i64 0, .int .i64 0] _, by rw [hb8]; exact HD.out.2.2.size⟩; (first | (have HO1 := Hid.intro (HO1.out.next hb)) | skip); (first | (have HO2 := Hid.intro (HO2.out.next hb)) | skip); have HD := (show Hid (Bx W8 w.heap.size [.slice a0_1 ss.length k0_1, .int .i64 dr, .int .i64 rc] ∧ Bx W8 (w.heap.size + 1) [.int .i64 sk, .int .i64 si, .int .i64 sj] ∧ Below w15.heap.size w15 W8) from ⟨HD.out.1.next hb, HD.out.2.1.next hb, below_next HD.out.2.2 hb⟩); rw [← hW8, ← hb8]; clear hW8 hb8 hb) | (obtain ⟨W8, hW8⟩ : ∃ x, x = X0.alloc (.cells #[.slice none 0 0, .int .i64 0, .int .i64 0] 29) := ⟨_, rfl⟩; have hb : Below X0.heap.size X0 W8 := hW8 ▸ Go.Joins.below_alloc1 _ _; obtain ⟨b8, hb8⟩ : ∃ b, b = X0.heap.size := ⟨_, rfl⟩; have H8 : Hid (Bx W8 b8 [.slice none 0 0, .int .i64 0, .int .i64 0] ∧ w15.heap.size ≤ b8) := ⟨hb8 ▸ hW8 ▸ Bx.new X0 [.slice none 0 0, .int .i64 0, .int .i64 0] _, by rw [hb8]; exact HD.out.2.2.size⟩; (first | (have HO1 := Hid.intro (HO1.out.next hb)) | skip); (first | (have HO2 := Hid.intro (HO2.out.next hb)) | skip); have HD := (show Hid (Bx W8 w.heap.size [.slice a0_1 ss.length k0_1, .int .i64 dr, .int .i64 rc] ∧ Bx W8 (w.heap.size + 1) [.int .i64 sk, .int .i64 si, .int .i64 sj] ∧ Below w15.heap.size w15 W8) from ⟨HD.out.1.next hb, HD.out.2.1.next hb, below_next HD.out.2.2 hb⟩); rw [← hW8, ← hb8]; clear hW8 hb8 hb))
          refine hK.out _ _ ⟨HD.out.1, HD.out.2.1⟩ (fun hHeld => ?_)
          clear hK KC
          refine ready_call 4 ⟨some 84, Op.call { callee := Callee.value (Operand.func 15), args := #[Operand.tmp 81, Operand.tmp 83], argTypes := #[29, 48] }, _, _, _, none⟩ (by kernel_rfl) rfl (by kernel_rfl) (fun KC hK => ?_)
          go_wp2_with fail
          refine (stepCommit_l [.slice p1_1 ss.length q1_1, .int .i64 dr, .int .i64 rc] ss dr rc sk si sj _ NS nd nr z HA.out HS0.out (HFL.out.next (below_next HB15.out HD.out.2.2) HFL.out.lt) HO1.out).mono ?_
          intro r W9 hT
          obtain ⟨cs9, lo, hi, rfl, ho, hlo, hlh, hhi, hb⟩ := ansG_out hT
          obtain ⟨a3_1, k3_1, _, hev, _⟩ := own_Commit ho
          subst hev
          have hol : w15.heap.size ≤ lo := Nat.le_trans HD.out.2.2.size hlo
          (first | (have HO9 := (show Hid (Own W9 shCommit [.slice a3_1 NS.length k3_1, .int .i64 nd, .int .i64 nr] (NS, nd, nr, ()) (Btw lo hi) ∧ w15.heap.size ≤ lo ∧ lo ≤ hi ∧ hi ≤ W9.heap.size ∧ (b8 < lo ∨ hi ≤ b8)) from ⟨ho, hol, hlh, hhi, Or.inl (Nat.lt_of_lt_of_le H8.out.1.2 hlo)⟩)) | (have HO9 := (show Hid (Own W9 shCommit [.slice a3_1 NS.length k3_1, .int .i64 nd, .int .i64 nr] (NS, nd, nr, ()) (Btw lo hi) ∧ w15.heap.size ≤ lo ∧ lo ≤ hi ∧ hi ≤ W9.heap.size) from ⟨ho, hol, hlh, hhi⟩)))
          have HD := (show Hid (Bx W9 w.heap.size [.slice a0_1 ss.length k0_1, .int .i64 dr, .int .i64 rc] ∧ Bx W9 (w.heap.size + 1) [.int .i64 sk, .int .i64 si, .int .i64 sj] ∧ Below w15.heap.size w15 W9) from ⟨HD.out.1.next hb, HD.out.2.1.next hb, below_next HD.out.2.2 hb⟩)
          (first | (have H8 := (show Hid (Bx W9 b8 [.slice none 0 0, .int .i64 0, .int .i64 0] ∧ w15.heap.size ≤ b8) from ⟨H8.out.1.next hb, H8.out.2⟩)) | skip)
          clear ho hlo hlh hhi hol hb hT
          refine hK.out _ _ ⟨HD.out.1, HD.out.2.1⟩ (fun hHeld => ?_)
          clear hK KC
          refine take_v (v := ?_) 5 ⟨some 79, Op.move (Operand.tmp 84), _, _, _, none⟩ rfl (fun _ _ _ h => h) ?_ hHeld ?_
          rotate_left
          · (intro W _; go_simp <;> (try with_reducible rfl))
          refine take_v (v := ?_) 6 ⟨some 85, Op.extract (Operand.tmp 79) 0, _, _, _, none⟩ rfl (fun _ _ _ h => h) ?_ hHeld ?_
          rotate_left
          · (intro W _; go_simp <;> (try with_reducible rfl))
          refine take_v (v := ?_) 7 ⟨some 86, Op.extract (Operand.tmp 79) 1, _, _, _, none⟩ rfl (fun _ _ _ h => h) ?_ hHeld ?_
          rotate_left
          · (intro W _; go_simp <;> (try with_reducible rfl))
          refine ready_call 9 ⟨none, Op.store 29 (Operand.tmp 14) (Operand.tmp 85), _, _, _, none⟩ (by kernel_rfl) rfl (by kernel_rfl) (fun KC hK => ?_)
          have dz := H8.out.1.2
          have d0 := H8.out.1.cell 0 rfl
          have d1 := H8.out.1.cell 1 rfl
          have d2 := H8.out.1.cell 2 rfl
          have f0 := H8.out.1.frz 0 (by simp)
          have f1 := H8.out.1.frz 1 (by simp)
          have f2 := H8.out.1.frz 2 (by simp)
          have h8 := H8.out.2
          go_wp2_with fail
          have HF := Hid.intro (box_own3 (o := w15) H8.out.1 H8.out.2 HO9.out.1 HO9.out.2.2.2.2 HD.out.2.2 (.slice a3_1 NS.length k3_1) (.int .i64 nd) (.int .i64 nr))
          clear dz d0 f0 d1 f1 d2 f2
          refine hK.out _ _ ⟨(((HD.out.1.other (by omega)).other (by omega)).other (by omega)), (((HD.out.2.1.other (by omega)).other (by omega)).other (by omega))⟩ (fun hHeld => ?_)
          clear hK KC
          refine take_v (v := ?_) 10 ⟨some 15, Op.assign (Operand.tmp 86), _, _, _, none⟩ rfl (fun _ _ _ h => h) ?_ hHeld ?_
          rotate_left
          · (intro W _; go_simp <;> (try with_reducible rfl))
          refine wpAnyH_done (by kernel_rfl) ?_ _
          refine NoPanic.normal ?_
          clear hHeld
          go_wp2_with fail
          go_meet
          exact ⟨b8, a3_1, k3_1, lo, hi, rfl, rfl, HF.out.1, HF.out.2.1, HO9.out.2.1, HO9.out.2.2.1, by rw [HF.out.2.2.2]; exact HO9.out.2.2.2.1, H8.out.2, by rw [HF.out.2.2.2]; exact H8.out.1.2, HO9.out.2.2.2.2, HF.out.2.2.1⟩
      ·
        go_wp2_with fail
        (first | (obtain ⟨W8, hW8⟩ : ∃ x, x = W9.alloc (.cells #[.slice none 0 0, .int .i64 0, .int .i64 0] 29) := ⟨_, rfl⟩; have hb : Below W9.heap.size W9 W8 := hW8 ▸ Go.Joins.below_alloc1 _ _; obtain ⟨b8, hb8⟩ : ∃ b, b = W9.heap.size := ⟨_, rfl⟩; have H8 : Hid (Bx W8 b8 [.slice none 0 0, .int .i64 0, .int .i64 0] ∧ w15.heap.size ≤ b8) := ⟨hb8 ▸ hW8 ▸ Bx.new W9 [.slice none 0 0, .int .i64 0, .int .i64 0] _, by rw [hb8]; exact HD.out.2.2.size⟩; have HO9 := (show Hid (Own W8 shCommit [.slice a3_1 NS.length k3_1, .int .i64 nd, .int .i64 nr] (NS, nd, nr, ()) (Btw lo hi) ∧ w15.heap.size ≤ lo ∧ lo ≤ hi ∧ hi ≤ W8.heap.size ∧ (b8 < lo ∨ hi ≤ b8)) from ⟨HO9.out.1.next hb, HO9.out.2.1, HO9.out.2.2.1, Nat.le_trans HO9.out.2.2.2 hb.size, Or.inr (by rw [hb8]; exact HO9.out.2.2.2)⟩); have HD := (show Hid (Bx W8 w.heap.size [.slice a0_1 ss.length k0_1, .int .i64 dr, .int .i64 rc] ∧ Bx W8 (w.heap.size + 1) [.int .i64 sk, .int .i64 si, .int .i64 sj] ∧ Below w15.heap.size w15 W8) from ⟨HD.out.1.next hb, HD.out.2.1.next hb, below_next HD.out.2.2 hb⟩); rw [← hW8, ← hb8]; clear hW8 hb8 hb) | (obtain ⟨W8, hW8⟩ : ∃ x, x = W2.alloc (.cells #[.slice none 0 0, .int .i64 0, .int .i64 0] 29) := ⟨_, rfl⟩; have hb : Below W2.heap.size W2 W8 := hW8 ▸ Go.Joins.below_alloc1 _ _; obtain ⟨b8, hb8⟩ : ∃ b, b = W2.heap.size := ⟨_, rfl⟩; have H8 : Hid (Bx W8 b8 [.slice none 0 0, .int .i64 0, .int .i64 0] ∧ w15.heap.size ≤ b8) := ⟨hb8 ▸ hW8 ▸ Bx.new W2 [.slice none 0 0, .int .i64 0, .int .i64 0] _, by rw [hb8]; exact HD.out.2.2.size⟩; (first | (have HO1 := Hid.intro (HO1.out.next hb)) | skip); (first | (have HO2 := Hid.intro (HO2.out.next hb)) | skip); have HD := (show Hid (Bx W8 w.heap.size [.slice a0_1 ss.length k0_1, .int .i64 dr, .int .i64 rc] ∧ Bx W8 (w.heap.size + 1) [.int .i64 sk, .int .i64 si, .int .i64 sj] ∧ Below w15.heap.size w15 W8) from ⟨HD.out.1.next hb, HD.out.2.1.next hb, below_next HD.out.2.2 hb⟩); rw [← hW8, ← hb8]; clear hW8 hb8 hb) | (obtain ⟨W8, hW8⟩ : ∃ x, x = W1.alloc (.cells #[.slice none 0 0, .int .i64 0, .int .i64 0] 29) := ⟨_, rfl⟩; have hb : Below W1.heap.size W1 W8 := hW8 ▸ Go.Joins.below_alloc1 _ _; obtain ⟨b8, hb8⟩ : ∃ b, b = W1.heap.size := ⟨_, rfl⟩; have H8 : Hid (Bx W8 b8 [.slice none 0 0, .int .i64 0, .int .i64 0] ∧ w15.heap.size ≤ b8) := ⟨hb8 ▸ hW8 ▸ Bx.new W1 [.slice none 0 0, .int .i64 0, .int .i64 0] _, by rw [hb8]; exact HD.out.2.2.size⟩; (first | (have HO1 := Hid.intro (HO1.out.next hb)) | skip); (first | (have HO2 := Hid.intro (HO2.out.next hb)) | skip); have HD := (show Hid (Bx W8 w.heap.size [.slice a0_1 ss.length k0_1, .int .i64 dr, .int .i64 rc] ∧ Bx W8 (w.heap.size + 1) [.int .i64 sk, .int .i64 si, .int .i64 sj] ∧ Below w15.heap.size w15 W8) from ⟨HD.out.1.next hb, HD.out.2.1.next hb, below_next HD.out.2.2 hb⟩); rw [← hW8, ← hb8]; clear hW8 hb8 hb) | (obtain ⟨W8, hW8⟩ : ∃ x, x = X0.alloc (.cells #[.slice none 0 0, .int .i64 0, .int .i64 0] 29) := ⟨_, rfl⟩; have hb : Below X0.heap.size X0 W8 := hW8 ▸ Go.Joins.below_alloc1 _ _; obtain ⟨b8, hb8⟩ : ∃ b, b = X0.heap.size := ⟨_, rfl⟩; have H8 : Hid (Bx W8 b8 [.slice none 0 0, .int .i64 0, .int .i64 0] ∧ w15.heap.size ≤ b8) := ⟨hb8 ▸ hW8 ▸ Bx.new X0 [.slice none 0 0, .int .i64 0, .int .i64 0] _, by rw [hb8]; exact HD.out.2.2.size⟩; (first | (have HO1 := Hid.intro (HO1.out.next hb)) | skip); (first | (have HO2 := Hid.intro (HO2.out.next hb)) | skip); have HD := (show Hid (Bx W8 w.heap.size [.slice a0_1 ss.length k0_1, .int .i64 dr, .int .i64 rc] ∧ Bx W8 (w.heap.size + 1) [.int .i64 sk, .int .i64 si, .int .i64 sj] ∧ Below w15.heap.size w15 W8) from ⟨HD.out.1.next hb, HD.out.2.1.next hb, below_next HD.out.2.2 hb⟩); rw [← hW8, ← hb8]; clear hW8 hb8 hb))
        refine hK.out _ _ ⟨HD.out.1, HD.out.2.1⟩ (fun hHeld => ?_)
        clear hK KC
        refine ready_call 3 ⟨some 83, Op.call { callee := Callee.value (Operand.func 20), args := #[Operand.tmp 82], argTypes := #[55] }, _, _, _, none⟩ (by kernel_rfl) rfl (by kernel_rfl) (fun KC hK => ?_)
        go_wp2_with fail
        refine (toCommitStep_n [.int .i64 sk, .int .i64 si, .int .i64 sj] sk si sj _ (by first | (show _ ≤ 1073741824; decide) | (simp [szD]) | (exact Nat.zero_le _)) (HL1.out.next (below_next HB15.out HD.out.2.2))).mono ?_
        rintro r W2 ⟨cs9, rfl, ho, hb⟩
        obtain hev := own_CommitStep ho
        subst hev
        (first | (have HO1 := Hid.intro (HO1.out.next hb)) | skip); (first | (have HO2 := Hid.intro (HO2.out.next hb)) | skip)
        have HO2 := Hid.intro ho.lies
        have HD := (show Hid (Bx W2 w.heap.size [.slice a0_1 ss.length k0_1, .int .i64 dr, .int .i64 rc] ∧ Bx W2 (w.heap.size + 1) [.int .i64 sk, .int .i64 si, .int .i64 sj] ∧ Below w15.heap.size w15 W2) from ⟨HD.out.1.next hb, HD.out.2.1.next hb, below_next HD.out.2.2 hb⟩)
        (first | (have H8 := (show Hid (Bx W2 b8 [.slice none 0 0, .int .i64 0, .int .i64 0] ∧ w15.heap.size ≤ b8) from ⟨H8.out.1.next hb, H8.out.2⟩)) | skip)
        clear ho hb
        refine hK.out _ _ ⟨HD.out.1, HD.out.2.1⟩ (fun hHeld => ?_)
        clear hK KC
        refine ready_call 4 ⟨some 84, Op.call { callee := Callee.value (Operand.func 15), args := #[Operand.tmp 81, Operand.tmp 83], argTypes := #[29, 48] }, _, _, _, none⟩ (by kernel_rfl) rfl (by kernel_rfl) (fun KC hK => ?_)
        go_wp2_with fail
        refine (stepCommit_l [.slice p1_1 ss.length q1_1, .int .i64 dr, .int .i64 rc] ss dr rc sk si sj _ NS nd nr z HA.out HS0.out (HFL.out.next (below_next HB15.out HD.out.2.2) HFL.out.lt) HO1.out).mono ?_
        intro r W9 hT
        obtain ⟨cs9, lo, hi, rfl, ho, hlo, hlh, hhi, hb⟩ := ansG_out hT
        obtain ⟨a3_1, k3_1, _, hev, _⟩ := own_Commit ho
        subst hev
        have hol : w15.heap.size ≤ lo := Nat.le_trans HD.out.2.2.size hlo
        (first | (have HO9 := (show Hid (Own W9 shCommit [.slice a3_1 NS.length k3_1, .int .i64 nd, .int .i64 nr] (NS, nd, nr, ()) (Btw lo hi) ∧ w15.heap.size ≤ lo ∧ lo ≤ hi ∧ hi ≤ W9.heap.size ∧ (b8 < lo ∨ hi ≤ b8)) from ⟨ho, hol, hlh, hhi, Or.inl (Nat.lt_of_lt_of_le H8.out.1.2 hlo)⟩)) | (have HO9 := (show Hid (Own W9 shCommit [.slice a3_1 NS.length k3_1, .int .i64 nd, .int .i64 nr] (NS, nd, nr, ()) (Btw lo hi) ∧ w15.heap.size ≤ lo ∧ lo ≤ hi ∧ hi ≤ W9.heap.size) from ⟨ho, hol, hlh, hhi⟩)))
        have HD := (show Hid (Bx W9 w.heap.size [.slice a0_1 ss.length k0_1, .int .i64 dr, .int .i64 rc] ∧ Bx W9 (w.heap.size + 1) [.int .i64 sk, .int .i64 si, .int .i64 sj] ∧ Below w15.heap.size w15 W9) from ⟨HD.out.1.next hb, HD.out.2.1.next hb, below_next HD.out.2.2 hb⟩)
        (first | (have H8 := (show Hid (Bx W9 b8 [.slice none 0 0, .int .i64 0, .int .i64 0] ∧ w15.heap.size ≤ b8) from ⟨H8.out.1.next hb, H8.out.2⟩)) | skip)
        clear ho hlo hlh hhi hol hb hT
        refine hK.out _ _ ⟨HD.out.1, HD.out.2.1⟩ (fun hHeld => ?_)
        clear hK KC
        refine take_v (v := ?_) 5 ⟨some 79, Op.move (Operand.tmp 84), _, _, _, none⟩ rfl (fun _ _ _ h => h) ?_ hHeld ?_
        rotate_left
        · (intro W _; go_simp <;> (try with_reducible rfl))
        refine take_v (v := ?_) 6 ⟨some 85, Op.extract (Operand.tmp 79) 0, _, _, _, none⟩ rfl (fun _ _ _ h => h) ?_ hHeld ?_
        rotate_left
        · (intro W _; go_simp <;> (try with_reducible rfl))
        refine take_v (v := ?_) 7 ⟨some 86, Op.extract (Operand.tmp 79) 1, _, _, _, none⟩ rfl (fun _ _ _ h => h) ?_ hHeld ?_
        rotate_left
        · (intro W _; go_simp <;> (try with_reducible rfl))
        refine ready_call 9 ⟨none, Op.store 29 (Operand.tmp 14) (Operand.tmp 85), _, _, _, none⟩ (by kernel_rfl) rfl (by kernel_rfl) (fun KC hK => ?_)
        have dz := H8.out.1.2
        have d0 := H8.out.1.cell 0 rfl
        have d1 := H8.out.1.cell 1 rfl
        have d2 := H8.out.1.cell 2 rfl
        have f0 := H8.out.1.frz 0 (by simp)
        have f1 := H8.out.1.frz 1 (by simp)
        have f2 := H8.out.1.frz 2 (by simp)
        have h8 := H8.out.2
        go_wp2_with fail
        have HF := Hid.intro (box_own3 (o := w15) H8.out.1 H8.out.2 HO9.out.1 HO9.out.2.2.2.2 HD.out.2.2 (.slice a3_1 NS.length k3_1) (.int .i64 nd) (.int .i64 nr))
        clear dz d0 f0 d1 f1 d2 f2
        refine hK.out _ _ ⟨(((HD.out.1.other (by omega)).other (by omega)).other (by omega)), (((HD.out.2.1.other (by omega)).other (by omega)).other (by omega))⟩ (fun hHeld => ?_)
        clear hK KC
        refine take_v (v := ?_) 10 ⟨some 15, Op.assign (Operand.tmp 86), _, _, _, none⟩ rfl (fun _ _ _ h => h) ?_ hHeld ?_
        rotate_left
        · (intro W _; go_simp <;> (try with_reducible rfl))
        refine wpAnyH_done (by kernel_rfl) ?_ _
        refine NoPanic.normal ?_
        clear hHeld
        go_wp2_with fail
        go_meet
        exact ⟨b8, a3_1, k3_1, lo, hi, rfl, rfl, HF.out.1, HF.out.2.1, HO9.out.2.1, HO9.out.2.2.1, by rw [HF.out.2.2.2]; exact HO9.out.2.2.2.1, H8.out.2, by rw [HF.out.2.2.2]; exact H8.out.1.2, HO9.out.2.2.2.2, HF.out.2.2.1⟩
    ·
      go_wp2_with fail
      (first | (obtain ⟨W8, hW8⟩ : ∃ x, x = W9.alloc (.cells #[.slice none 0 0, .int .i64 0, .int .i64 0] 29) := ⟨_, rfl⟩; have hb : Below W9.heap.size W9 W8 := hW8 ▸ Go.Joins.below_alloc1 _ _; obtain ⟨b8, hb8⟩ : ∃ b, b = W9.heap.size := ⟨_, rfl⟩; have H8 : Hid (Bx W8 b8 [.slice none 0 0, .int .i64 0, .int .i64 0] ∧ w15.heap.size ≤ b8) := ⟨hb8 ▸ hW8 ▸ Bx.new W9 [.slice none 0 0, .int .i64 0, .int .i64 0] _, by rw [hb8]; exact HD.out.2.2.size⟩; have HO9 := (show Hid (Own W8 shCommit [.slice a3_1 NS.length k3_1, .int .i64 nd, .int .i64 nr] (NS, nd, nr, ()) (Btw lo hi) ∧ w15.heap.size ≤ lo ∧ lo ≤ hi ∧ hi ≤ W8.heap.size ∧ (b8 < lo ∨ hi ≤ b8)) from ⟨HO9.out.1.next hb, HO9.out.2.1, HO9.out.2.2.1, Nat.le_trans HO9.out.2.2.2 hb.size, Or.inr (by rw [hb8]; exact HO9.out.2.2.2)⟩); have HD := (show Hid (Bx W8 w.heap.size [.slice a0_1 ss.length k0_1, .int .i64 dr, .int .i64 rc] ∧ Bx W8 (w.heap.size + 1) [.int .i64 sk, .int .i64 si, .int .i64 sj] ∧ Below w15.heap.size w15 W8) from ⟨HD.out.1.next hb, HD.out.2.1.next hb, below_next HD.out.2.2 hb⟩); rw [← hW8, ← hb8]; clear hW8 hb8 hb) | (obtain ⟨W8, hW8⟩ : ∃ x, x = W2.alloc (.cells #[.slice none 0 0, .int .i64 0, .int .i64 0] 29) := ⟨_, rfl⟩; have hb : Below W2.heap.size W2 W8 := hW8 ▸ Go.Joins.below_alloc1 _ _; obtain ⟨b8, hb8⟩ : ∃ b, b = W2.heap.size := ⟨_, rfl⟩; have H8 : Hid (Bx W8 b8 [.slice none 0 0, .int .i64 0, .int .i64 0] ∧ w15.heap.size ≤ b8) := ⟨hb8 ▸ hW8 ▸ Bx.new W2 [.slice none 0 0, .int .i64 0, .int .i64 0] _, by rw [hb8]; exact HD.out.2.2.size⟩; (first | (have HO1 := Hid.intro (HO1.out.next hb)) | skip); (first | (have HO2 := Hid.intro (HO2.out.next hb)) | skip); have HD := (show Hid (Bx W8 w.heap.size [.slice a0_1 ss.length k0_1, .int .i64 dr, .int .i64 rc] ∧ Bx W8 (w.heap.size + 1) [.int .i64 sk, .int .i64 si, .int .i64 sj] ∧ Below w15.heap.size w15 W8) from ⟨HD.out.1.next hb, HD.out.2.1.next hb, below_next HD.out.2.2 hb⟩); rw [← hW8, ← hb8]; clear hW8 hb8 hb) | (obtain ⟨W8, hW8⟩ : ∃ x, x = W1.alloc (.cells #[.slice none 0 0, .int .i64 0, .int .i64 0] 29) := ⟨_, rfl⟩; have hb : Below W1.heap.size W1 W8 := hW8 ▸ Go.Joins.below_alloc1 _ _; obtain ⟨b8, hb8⟩ : ∃ b, b = W1.heap.size := ⟨_, rfl⟩; have H8 : Hid (Bx W8 b8 [.slice none 0 0, .int .i64 0, .int .i64 0] ∧ w15.heap.size ≤ b8) := ⟨hb8 ▸ hW8 ▸ Bx.new W1 [.slice none 0 0, .int .i64 0, .int .i64 0] _, by rw [hb8]; exact HD.out.2.2.size⟩; (first | (have HO1 := Hid.intro (HO1.out.next hb)) | skip); (first | (have HO2 := Hid.intro (HO2.out.next hb)) | skip); have HD := (show Hid (Bx W8 w.heap.size [.slice a0_1 ss.length k0_1, .int .i64 dr, .int .i64 rc] ∧ Bx W8 (w.heap.size + 1) [.int .i64 sk, .int .i64 si, .int .i64 sj] ∧ Below w15.heap.size w15 W8) from ⟨HD.out.1.next hb, HD.out.2.1.next hb, below_next HD.out.2.2 hb⟩); rw [← hW8, ← hb8]; clear hW8 hb8 hb) | (obtain ⟨W8, hW8⟩ : ∃ x, x = X0.alloc (.cells #[.slice none 0 0, .int .i64 0, .int .i64 0] 29) := ⟨_, rfl⟩; have hb : Below X0.heap.size X0 W8 := hW8 ▸ Go.Joins.below_alloc1 _ _; obtain ⟨b8, hb8⟩ : ∃ b, b = X0.heap.size := ⟨_, rfl⟩; have H8 : Hid (Bx W8 b8 [.slice none 0 0, .int .i64 0, .int .i64 0] ∧ w15.heap.size ≤ b8) := ⟨hb8 ▸ hW8 ▸ Bx.new X0 [.slice none 0 0, .int .i64 0, .int .i64 0] _, by rw [hb8]; exact HD.out.2.2.size⟩; (first | (have HO1 := Hid.intro (HO1.out.next hb)) | skip); (first | (have HO2 := Hid.intro (HO2.out.next hb)) | skip); have HD := (show Hid (Bx W8 w.heap.size [.slice a0_1 ss.length k0_1, .int .i64 dr, .int .i64 rc] ∧ Bx W8 (w.heap.size + 1) [.int .i64 sk, .int .i64 si, .int .i64 sj] ∧ Below w15.heap.size w15 W8) from ⟨HD.out.1.next hb, HD.out.2.1.next hb, below_next HD.out.2.2 hb⟩); rw [← hW8, ← hb8]; clear hW8 hb8 hb))
      refine hK.out _ _ ⟨HD.out.1, HD.out.2.1⟩ (fun hHeld => ?_)
      clear hK KC
      refine ready_call 1 ⟨some 81, Op.call { callee := Callee.value (Operand.func 19), args := #[Operand.tmp 80], argTypes := #[54] }, _, _, _, none⟩ (by kernel_rfl) rfl (by kernel_rfl) (fun KC hK => ?_)
      go_wp2_with fail
      refine (toCommit_n [.slice a0_1 ss.length k0_1, .int .i64 dr, .int .i64 rc] ss dr rc _ HS0.out (HL0.out.next (below_next HB15.out HD.out.2.2))).mono ?_
      rintro r W1 ⟨cs9, rfl, ho, hb⟩
      obtain ⟨p1_1, q1_1, _, hev, _⟩ := own_Commit ho
      subst hev
      (first | (have HO1 := Hid.intro (HO1.out.next hb)) | skip); (first | (have HO2 := Hid.intro (HO2.out.next hb)) | skip)
      have HO1 := Hid.intro ho.lies
      have HD := (show Hid (Bx W1 w.heap.size [.slice a0_1 ss.length k0_1, .int .i64 dr, .int .i64 rc] ∧ Bx W1 (w.heap.size + 1) [.int .i64 sk, .int .i64 si, .int .i64 sj] ∧ Below w15.heap.size w15 W1) from ⟨HD.out.1.next hb, HD.out.2.1.next hb, below_next HD.out.2.2 hb⟩)
      (first | (have H8 := (show Hid (Bx W1 b8 [.slice none 0 0, .int .i64 0, .int .i64 0] ∧ w15.heap.size ≤ b8) from ⟨H8.out.1.next hb, H8.out.2⟩)) | skip)
      clear ho hb
      refine hK.out _ _ ⟨HD.out.1, HD.out.2.1⟩ (fun hHeld => ?_)
      clear hK KC
      refine ready_call 3 ⟨some 83, Op.call { callee := Callee.value (Operand.func 20), args := #[Operand.tmp 82], argTypes := #[55] }, _, _, _, none⟩ (by kernel_rfl) rfl (by kernel_rfl) (fun KC hK => ?_)
      go_wp2_with fail
      refine (toCommitStep_n [.int .i64 sk, .int .i64 si, .int .i64 sj] sk si sj _ (by first | (show _ ≤ 1073741824; decide) | (simp [szD]) | (exact Nat.zero_le _)) (HL1.out.next (below_next HB15.out HD.out.2.2))).mono ?_
      rintro r W2 ⟨cs9, rfl, ho, hb⟩
      obtain hev := own_CommitStep ho
      subst hev
      (first | (have HO1 := Hid.intro (HO1.out.next hb)) | skip); (first | (have HO2 := Hid.intro (HO2.out.next hb)) | skip)
      have HO2 := Hid.intro ho.lies
      have HD := (show Hid (Bx W2 w.heap.size [.slice a0_1 ss.length k0_1, .int .i64 dr, .int .i64 rc] ∧ Bx W2 (w.heap.size + 1) [.int .i64 sk, .int .i64 si, .int .i64 sj] ∧ Below w15.heap.size w15 W2) from ⟨HD.out.1.next hb, HD.out.2.1.next hb, below_next HD.out.2.2 hb⟩)
      (first | (have H8 := (show Hid (Bx W2 b8 [.slice none 0 0, .int .i64 0, .int .i64 0] ∧ w15.heap.size ≤ b8) from ⟨H8.out.1.next hb, H8.out.2⟩)) | skip)
      clear ho hb
      refine hK.out _ _ ⟨HD.out.1, HD.out.2.1⟩ (fun hHeld => ?_)
      clear hK KC
      refine ready_call 4 ⟨some 84, Op.call { callee := Callee.value (Operand.func 15), args := #[Operand.tmp 81, Operand.tmp 83], argTypes := #[29, 48] }, _, _, _, none⟩ (by kernel_rfl) rfl (by kernel_rfl) (fun KC hK => ?_)
      go_wp2_with fail
      refine (stepCommit_l [.slice p1_1 ss.length q1_1, .int .i64 dr, .int .i64 rc] ss dr rc sk si sj _ NS nd nr z HA.out HS0.out (HFL.out.next (below_next HB15.out HD.out.2.2) HFL.out.lt) HO1.out).mono ?_
      intro r W9 hT
      obtain ⟨cs9, lo, hi, rfl, ho, hlo, hlh, hhi, hb⟩ := ansG_out hT
      obtain ⟨a3_1, k3_1, _, hev, _⟩ := own_Commit ho
      subst hev
      have hol : w15.heap.size ≤ lo := Nat.le_trans HD.out.2.2.size hlo
      (first | (have HO9 := (show Hid (Own W9 shCommit [.slice a3_1 NS.length k3_1, .int .i64 nd, .int .i64 nr] (NS, nd, nr, ()) (Btw lo hi) ∧ w15.heap.size ≤ lo ∧ lo ≤ hi ∧ hi ≤ W9.heap.size ∧ (b8 < lo ∨ hi ≤ b8)) from ⟨ho, hol, hlh, hhi, Or.inl (Nat.lt_of_lt_of_le H8.out.1.2 hlo)⟩)) | (have HO9 := (show Hid (Own W9 shCommit [.slice a3_1 NS.length k3_1, .int .i64 nd, .int .i64 nr] (NS, nd, nr, ()) (Btw lo hi) ∧ w15.heap.size ≤ lo ∧ lo ≤ hi ∧ hi ≤ W9.heap.size) from ⟨ho, hol, hlh, hhi⟩)))
      have HD := (show Hid (Bx W9 w.heap.size [.slice a0_1 ss.length k0_1, .int .i64 dr, .int .i64 rc] ∧ Bx W9 (w.heap.size + 1) [.int .i64 sk, .int .i64 si, .int .i64 sj] ∧ Below w15.heap.size w15 W9) from ⟨HD.out.1.next hb, HD.out.2.1.next hb, below_next HD.out.2.2 hb⟩)
      (first | (have H8 := (show Hid (Bx W9 b8 [.slice none 0 0, .int .i64 0, .int .i64 0] ∧ w15.heap.size ≤ b8) from ⟨H8.out.1.next hb, H8.out.2⟩)) | skip)
      clear ho hlo hlh hhi hol hb hT
      refine hK.out _ _ ⟨HD.out.1, HD.out.2.1⟩ (fun hHeld => ?_)
      clear hK KC
      refine take_v (v := ?_) 5 ⟨some 79, Op.move (Operand.tmp 84), _, _, _, none⟩ rfl (fun _ _ _ h => h) ?_ hHeld ?_
      rotate_left
      · (intro W _; go_simp <;> (try with_reducible rfl))
      refine take_v (v := ?_) 6 ⟨some 85, Op.extract (Operand.tmp 79) 0, _, _, _, none⟩ rfl (fun _ _ _ h => h) ?_ hHeld ?_
      rotate_left
      · (intro W _; go_simp <;> (try with_reducible rfl))
      refine take_v (v := ?_) 7 ⟨some 86, Op.extract (Operand.tmp 79) 1, _, _, _, none⟩ rfl (fun _ _ _ h => h) ?_ hHeld ?_
      rotate_left
      · (intro W _; go_simp <;> (try with_reducible rfl))
      refine ready_call 9 ⟨none, Op.store 29 (Operand.tmp 14) (Operand.tmp 85), _, _, _, none⟩ (by kernel_rfl) rfl (by kernel_rfl) (fun KC hK => ?_)
      have dz := H8.out.1.2
      have d0 := H8.out.1.cell 0 rfl
      have d1 := H8.out.1.cell 1 rfl
      have d2 := H8.out.1.cell 2 rfl
      have f0 := H8.out.1.frz 0 (by simp)
      have f1 := H8.out.1.frz 1 (by simp)
      have f2 := H8.out.1.frz 2 (by simp)
      have h8 := H8.out.2
      go_wp2_with fail
      have HF := Hid.intro (box_own3 (o := w15) H8.out.1 H8.out.2 HO9.out.1 HO9.out.2.2.2.2 HD.out.2.2 (.slice a3_1 NS.length k3_1) (.int .i64 nd) (.int .i64 nr))
      clear dz d0 f0 d1 f1 d2 f2
      refine hK.out _ _ ⟨(((HD.out.1.other (by omega)).other (by omega)).other (by omega)), (((HD.out.2.1.other (by omega)).other (by omega)).other (by omega))⟩ (fun hHeld => ?_)
      clear hK KC
      refine take_v (v := ?_) 10 ⟨some 15, Op.assign (Operand.tmp 86), _, _, _, none⟩ rfl (fun _ _ _ h => h) ?_ hHeld ?_
      rotate_left
      · (intro W _; go_simp <;> (try with_reducible rfl))
      refine wpAnyH_done (by kernel_rfl) ?_ _
      refine NoPanic.normal ?_
      clear hHeld
      go_wp2_with fail
      go_meet
      exact ⟨b8, a3_1, k3_1, lo, hi, rfl, rfl, HF.out.1, HF.out.2.1, HO9.out.2.1, HO9.out.2.2.1, by rw [HF.out.2.2.2]; exact HO9.out.2.2.2.1, H8.out.2, by rw [HF.out.2.2.2]; exact H8.out.1.2, HO9.out.2.2.2.2, HF.out.2.2.1⟩
  obtain ⟨b16, p16_1, q16_1, lo16, hi16, rfl, rfl, hbx, ho, hlo16, hlh16, hhi16, hbo16, hbb16, hbd16, hb⟩ := hcut
  obtain ⟨w16, hwd⟩ : ∃ x, x = wc := ⟨_, rfl⟩
  subst hwd
  have HB16 : Hid (Below w.heap.size w w16) := below_next HB15.out hb
  have sz16 : w15.heap.size ≤ w16.heap.size := hb.size
  have A0_16 : Hid (Bx w16 w.heap.size [.slice a0_1 ss.length k0_1, .int .i64 dr, .int .i64 rc]) := A0_15.out.next hb
  have A1_16 : Hid (Bx w16 (w.heap.size + 1) [.int .i64 sk, .int .i64 si, .int .i64 sj]) := A1_15.out.next hb
  have W_16 : Hid (Bx w16 b4 [.slice p4_1 NS.length q4_1, .int .i64 nd, .int .i64 nr]) := W_15.out.next hb
  have SP_16 : Hid (Own w16 shCommit [.slice p4_1 NS.length q4_1, .int .i64 nd, .int .i64 nr] (NS, nd, nr, ()) (Btw lo4 hi4)) := SP_15.out.next hb
  have G_16 : Hid (Bx w16 b7 [.slice p7_1 NS.length q7_1, .int .i64 nd, .int .i64 nr]) := G_15.out.next hb
  have GP_16 : Hid (Own w16 shCommit [.slice p7_1 NS.length q7_1, .int .i64 nd, .int .i64 nr] (mkT shCommit (NS, nd, nr, ()) 1) (Btw lo7 hi7)) := GP_15.out.next hb
  have H_16 : Hid (Bx w16 b16 [.slice p16_1 NS.length q16_1, .int .i64 nd, .int .i64 nr]) := hbx
  have HP_16 : Hid (Own w16 shCommit [.slice p16_1 NS.length q16_1, .int .i64 nd, .int .i64 nr] (NS, nd, nr, ()) (Btw lo16 hi16)) := ho
  clear hb hbx ho A0_15 A1_15 W_15 SP_15 G_15 GP_15 HB15
  have cW0 := W_16.out.cell 0 rfl
  have cW1 := W_16.out.cell 1 rfl
  have cW2 := W_16.out.cell 2 rfl
  have zW := W_16.out.2
  have cH0 := H_16.out.cell 0 rfl
  have cH1 := H_16.out.cell 1 rfl
  have cH2 := H_16.out.cell 2 rfl
  have zH := H_16.out.2
  go_wp2_with fail
  refine (eqCommit_n [.slice p16_1 NS.length q16_1, .int .i64 nd, .int .i64 nr] [.slice p4_1 NS.length q4_1, .int .i64 nd, .int .i64 nr] NS nd nr _ HT.out HP_16.out.lies SP_16.out.lies).mono ?_
  rintro r w17 ⟨rfl, hb⟩
  have HB17 : Hid (Below w.heap.size w w17) := below_next HB16.out hb
  have sz17 : w16.heap.size ≤ w17.heap.size := hb.size
  have A0_17 : Hid (Bx w17 w.heap.size [.slice a0_1 ss.length k0_1, .int .i64 dr, .int .i64 rc]) := A0_16.out.next hb
  have A1_17 : Hid (Bx w17 (w.heap.size + 1) [.int .i64 sk, .int .i64 si, .int .i64 sj]) := A1_16.out.next hb
  have W_17 : Hid (Bx w17 b4 [.slice p4_1 NS.length q4_1, .int .i64 nd, .int .i64 nr]) := W_16.out.next hb
  have SP_17 : Hid (Own w17 shCommit [.slice p4_1 NS.length q4_1, .int .i64 nd, .int .i64 nr] (NS, nd, nr, ()) (Btw lo4 hi4)) := SP_16.out.next hb
  have G_17 : Hid (Bx w17 b7 [.slice p7_1 NS.length q7_1, .int .i64 nd, .int .i64 nr]) := G_16.out.next hb
  have GP_17 : Hid (Own w17 shCommit [.slice p7_1 NS.length q7_1, .int .i64 nd, .int .i64 nr] (mkT shCommit (NS, nd, nr, ()) 1) (Btw lo7 hi7)) := GP_16.out.next hb
  have H_17 : Hid (Bx w17 b16 [.slice p16_1 NS.length q16_1, .int .i64 nd, .int .i64 nr]) := H_16.out.next hb
  have HP_17 : Hid (Own w17 shCommit [.slice p16_1 NS.length q16_1, .int .i64 nd, .int .i64 nr] (NS, nd, nr, ()) (Btw lo16 hi16)) := HP_16.out.next hb
  clear hb cW0 cW1 cW2 zW cH0 cH1 cH2 zH A0_16 A1_16 W_16 SP_16 G_16 GP_16 H_16 HP_16 HB16
  have cG0 := G_17.out.cell 0 rfl
  have cG1 := G_17.out.cell 1 rfl
  have cG2 := G_17.out.cell 2 rfl
  have zG := G_17.out.2
  go_wp2_with fail
  refine ((show Calls _ _ _ _ (fun r w' => r = .returned (.int .i64 (1 + (cn : Int))) ∧ Below _ _ w') from HCN.out ▸ heldCommit_n [.slice p7_1 NS.length q7_1, .int .i64 nd, .int .i64 nr] NS nd nr 1 _ (by decide) (by have h1 := HCN.out; rw [← h1]; omega) HT.out GP_17.out.lies)).mono ?_
  rintro r w18 ⟨rfl, hb⟩
  have HB18 : Hid (Below w.heap.size w w18) := below_next HB17.out hb
  have sz18 : w17.heap.size ≤ w18.heap.size := hb.size
  have A0_18 : Hid (Bx w18 w.heap.size [.slice a0_1 ss.length k0_1, .int .i64 dr, .int .i64 rc]) := A0_17.out.next hb
  have A1_18 : Hid (Bx w18 (w.heap.size + 1) [.int .i64 sk, .int .i64 si, .int .i64 sj]) := A1_17.out.next hb
  have W_18 : Hid (Bx w18 b4 [.slice p4_1 NS.length q4_1, .int .i64 nd, .int .i64 nr]) := W_17.out.next hb
  have SP_18 : Hid (Own w18 shCommit [.slice p4_1 NS.length q4_1, .int .i64 nd, .int .i64 nr] (NS, nd, nr, ()) (Btw lo4 hi4)) := SP_17.out.next hb
  have G_18 : Hid (Bx w18 b7 [.slice p7_1 NS.length q7_1, .int .i64 nd, .int .i64 nr]) := G_17.out.next hb
  have GP_18 : Hid (Own w18 shCommit [.slice p7_1 NS.length q7_1, .int .i64 nd, .int .i64 nr] (mkT shCommit (NS, nd, nr, ()) 1) (Btw lo7 hi7)) := GP_17.out.next hb
  have H_18 : Hid (Bx w18 b16 [.slice p16_1 NS.length q16_1, .int .i64 nd, .int .i64 nr]) := H_17.out.next hb
  have HP_18 : Hid (Own w18 shCommit [.slice p16_1 NS.length q16_1, .int .i64 nd, .int .i64 nr] (NS, nd, nr, ()) (Btw lo16 hi16)) := HP_17.out.next hb
  clear hb cG0 cG1 cG2 zG A0_17 A1_17 W_17 SP_17 G_17 GP_17 H_17 HP_17 HB17
  have HE := HB18
  go_wp2
  go_ret
  exact ⟨rfl, HE.out⟩


theorem own : ownKnob Tryd.prog.godebug = none := by kernel_rfl
theorem laidOut : laidOutB Tryd.prog = true := by kernel_rfl

theorem gO : Tryd.prog.globalNamed "loop.example/g00218/impl.errCommitFault" = some 0 := by kernel_rfl
theorem gOType : (Tryd.prog.globals[0]?).map (·.type) = some 119 := by kernel_rfl
theorem underE : ∃ ms, Tryd.prog.underlying 119 = some (.interface ms) := by
  have h : (match Tryd.prog.underlying 119 with | some (.interface _) => true | _ => false) = true := by kernel_rfl
  generalize Tryd.prog.underlying 119 = u at h ⊢
  cases u with
  | none => simp at h
  | some d => cases d <;> first | exact ⟨_, rfl⟩ | simp at h
theorem underP : Tryd.prog.underlying 123 = some (.pointer 140) := by kernel_rfl
theorem underS : ∃ f : Field, Tryd.prog.underlying 140 = some (.struct #[f]) ∧ f.type = 9 ∧ f.offset = 0 := by
  have h : (match Tryd.prog.underlying 140 with | some (.struct fs) => fs.toList.map (fun f => (f.type, f.offset)) == [(9, 0)] | _ => false) = true := by kernel_rfl
  generalize Tryd.prog.underlying 140 = u at h ⊢
  cases u with
  | none => simp at h
  | some d =>
    cases d <;> try (simp at h; done)
    rename_i fs
    obtain ⟨l⟩ := fs
    match l, h with
    | [], h => simp at h
    | [f], h => exact ⟨f, rfl, by simpa using h⟩
    | f :: g :: t, h => simp at h
theorem underT : Tryd.prog.underlying 9 = some .string := by kernel_rfl
theorem cellsS : Tryd.prog.cellsOf 140 = 1 := by kernel_rfl
theorem cellsT : Tryd.prog.cellsOf 9 = 1 := by kernel_rfl
theorem star : "*" ++ "errors.errorString" = "*errors.errorString" := by decide
theorem rowP (u : TypeId) (h : Tryd.prog.typeName? 3 u = some "*errors.errorString") : u = 123 :=
  typeName_ptr_named (nm := "errors.errorString") (by rw [star]; kernel_rfl) (by kernel_rfl) (by decide) u (by rw [star]; exact h)
abbrev faultS : ByteArray := { data := ⟨[99, 111, 109, 109, 105, 116, 58, 32, 116, 104, 101, 32, 115, 116, 101, 112, 32, 108, 97, 99, 107, 115, 32, 119, 104, 97, 116, 32, 105, 116, 32, 97, 115, 107, 115, 32, 102, 111, 114]⟩ }
noncomputable def lowW : Nat := (World.holding Tryd.prog default ⟨#[], #[], []⟩).heap.size
noncomputable def laidWorld (os : Os) : World :=
  let w0 := World.holding Tryd.prog os ⟨#[.cells #[.string faultS] 140], #[], []⟩
  { w0 with heap := w0.heap.modify 0 fun
      | .cells _ t frozen => .cells #[.iface 123 (.pointer (some ⟨lowW, 0, none⟩))] t frozen
      | o => o }
theorem laidWorld_met (os : Os) (args : Array Value) : laidMet Tryd.prog Rows.fnExactStepCommitRow.laid ((laidWorld os).forCall (fun _ _ => 0) ⟨#[], args, []⟩).memory :=
  laidMet_of_run (ps := [.cell 0 0, .cell lowW 0]) 8 (by kernel_rfl) (by kernel_rfl) (by kernel_rfl)
theorem var_kept {W W' : World} {cs : Array Value} (h : W.var? Tryd.prog "loop.example/g00218/impl.errCommitFault" = some cs) (hb : W'.heap[0]? = W.heap[0]?) : W'.var? Tryd.prog "loop.example/g00218/impl.errCommitFault" = some cs := by
  unfold World.var? at h ⊢
  simp only [gO, Option.bind_some] at h ⊢
  rw [hb]
  exact h

set_option maxRecDepth 100000 in
theorem lifted (os : Os) (started : os.Started) (H : Type) (enc : TypeId × Value → H) :
    ReturnsInHanded {} Tryd.checked os 5 .any (fun w args => (Rows.fnExactStepCommitSpec.pre enc Tryd.prog Tryd.f5 [] false w args ∧ laidMet Tryd.prog Rows.fnExactStepCommitRow.laid w) ∧ sizedMet enc Tryd.prog Tryd.f5 (OpenSpec.ofChange Rows.fnExactStepCommitSpec) false w args)
      (Rows.fnExactStepCommitSpec.post enc Tryd.prog Tryd.f5 false true false false) := by
  refine returnsInHanded_of_change_and (C := Tryd.checked) (X := fun w _ => laidMet Tryd.prog Rows.fnExactStepCommitRow.laid w) (fun _ _ _ hh h => h.of_heap hh) own started (by kernel_rfl) Tryd.func5
    (ChangeSpec.witness_at (enc := enc) (C := Tryd.checked) (os := os) (X := fun w _ => laidMet Tryd.prog Rows.fnExactStepCommitRow.laid w) false (laidWorld os) #[.agg #[.slice none 0 0, .int .i64 0, .int .i64 0], .agg #[.int .i64 0, .int .i64 0, .int .i64 0]] 8 rfl (by kernel_rfl) (by kernel_rfl) (by kernel_rfl) (by kernel_rfl) (by kernel_rfl) (laidWorld_met os _)) ?_
  intro W base args ds gs before hval0 hW _ _ hL _
  have hval : ∀ (j : Nat) t v, Tryd.f5.params[j]? = some t → args[j]? = some v → Value.okWide Tryd.prog W .any base t v := hval0
  have hW' := hW
  obtain ⟨p, q, hA0, hV0, rfl, hfz, hnd⟩ := hW
  have hV : DataW.TrodVars enc Tryd.prog W (fun _ => true) ["loop.example/g00218/impl.errCommitFault"] gs q := hV0
  have hA : DataW.TrodAll enc Tryd.prog W 0 (fun _ => true) true Tryd.f5.params.toList args.toList ds p := hA0
  rw [Tryd.params5] at hA hval
  obtain ⟨v0, vs0, d0, ds0, p0, q0, hargs, rfl, rfl, h0, r0⟩ := trodAll_cons hA
  obtain ⟨v1, vs1, d1, ds1, p1, q1, rfl, rfl, rfl, h1, r1⟩ := trodAll_cons r0
  obtain ⟨rfl, rfl, rfl⟩ := trodAll_nil r1
  obtain rfl : args = #[v0, v1] := by cases args; simp_all
  obtain ⟨ms, hms⟩ := underE
  obtain ⟨fS, hfS, hfT, hfO⟩ := underS
  obtain ⟨aE, sE, hv1, hc1, hs1, hz1⟩ := laid_sentinel hL gO gOType hms rowP underP hfS hfT hfO underT cellsS cellsT
  obtain ⟨rfl, rfl⟩ := hV.unique (vars_read1 enc gO gOType hms hv1 trivial _)
  clear hV0
  have hg1 : W.cell? ⟨0, 0, none⟩ = some (.iface 123 (.pointer (some aE))) := by simpa using World.var?_cell gO hv1 0
  have hfl : Flt W := ⟨_, hg1⟩
  have k0 := h0
  have lt0 : ∀ x ∈ p0, x.block < W.heap.size := by obtain ⟨m, hm⟩ := k0; exact DataW.trod_lt m _ _ _ hm
  obtain ⟨cs0, X0, rfl, li0, fi0⟩ := open_Commit_n (hval 0 54 v0 rfl rfl) h0
  have k1 := h1
  have lt1 : ∀ x ∈ p1, x.block < W.heap.size := by obtain ⟨m, hm⟩ := k1; exact DataW.trod_lt m _ _ _ hm
  obtain ⟨cs1, X1, rfl, li1, fi1⟩ := open_CommitStep_n (hval 1 55 v1 rfl rfl) h1
  clear hA0 hval0
  refine (walk (w := W) hfl cs0 X0 li0 fi0 cs1 X1 li1 fi1).mono fun e W' ⟨he, bel⟩ => ?_
  subst he
  have hv2 := var_kept hv1 (bel.block 0 hfl.lt)
  refine ⟨_, rfl, _, _, _, [], _, [.cell 0 0], hW', trodAll_mk1 (shut_bool Tryd.underlying4 _), (trodAll_cons_mk (Below.trod laidOut (by kernel_rfl) (of_decide_eq_true (by kernel_rfl)) k0 bel lt0) (trodAll_cons_mk (Below.trod laidOut (by kernel_rfl) (of_decide_eq_true (by kernel_rfl)) k1 bel lt1) trodAll_mk0)), vars_read1 enc gO gOType hms hv2 trivial _, bel.frame _, fun h => by cases h⟩

set_option maxHeartbeats 40000000 in
theorem closed : joinedFacts Tryd.pinned.checked.prog 5 Tryd.f5 Rows.fnExactStepCommitSpec Rows.fnExactStepCommitRow = true := by
  unfold joinedFacts
  repeat' (first | (with_reducible refine both ?_ ?_) | (with_reducible exact may_enter') | (with_reducible refine lifts_eq ?_) | (with_reducible refine make_eq ?_) | as_aux_lemma => kernel_rfl)
theorem named : Tryd.pinned.checked.prog.funcNamed Rows.fnExactStepCommitRow.func = some 5 := by kernel_rfl
theorem over : Rows.fnExactStepCommitRow.holds Tryd.pinned (OpenSpec.ofChange Rows.fnExactStepCommitSpec) :=
  OpenClaim.holds_of_wide 5 Tryd.f5 rfl rfl rfl rfl rfl rfl rfl ⟨rfl, rfl, rfl, rfl, rfl⟩ rfl rfl rfl rfl rfl named Tryd.func5 closed
    (of_decide_eq_true (by as_aux_lemma => kernel_rfl)) (by unfold Func.isWrapper; first | (rw [if_pos (by decide +kernel)]; kernel_rfl) | (rw [if_neg (by decide +kernel)]; exact ⟨rfl, rfl⟩))
    (fun os started H enc _ => lifted os started H enc)

theorem card : Rows.FnExactStepCommitCardSaid :=
  Claim7.holds_tied_plain_at .later [] [.sentinel] true _ false
    over (fun _ h => by cases h) (by kernel_rfl) (fun _ h => by cases h) fnExactStepCommit_row_tie rfl ⟨rfl, rfl⟩ (by kernel_rfl) rfl
    (fun f fn hf hfn => by
      obtain rfl : f = 5 := Option.some.inj (named.symm.trans hf) |>.symm
      obtain rfl : fn = Tryd.f5 := (Option.some.inj (Tryd.func5.symm.trans hfn)).symm
      refine ⟨by kernel_rfl, fun j t ht => ?_⟩
      have hall : (Tryd.f5.params.toList.all fun t => !Tryd.prog.wantsStandIn t) = true := by kernel_rfl
      have := List.all_eq_true.1 hall t (List.mem_of_getElem? (i := j) (by rw [Array.getElem?_toList]; exact ht))
      have h2 : Tryd.prog.wantsStandIn t = false := by simpa using this
      exact h2)
    (by kernel_rfl)

end Go.Proofs.YtkpobihpcnoemaaDoor.xStepCommit
namespace Go.Proofs.YtkpobihpcnoemaaDoor
theorem xStepCommit_holds : Rows.FnExactStepCommitCardSaid := xStepCommit.card
#print axioms xStepCommit_holds
end Go.Proofs.YtkpobihpcnoemaaDoor
