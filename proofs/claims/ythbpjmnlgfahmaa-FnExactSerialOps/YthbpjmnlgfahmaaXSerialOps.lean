/- At every list of ops and every list of numbers impl.SerialOps answers as the specification does, writes into no argument, its answer owns its memory, and each argument reads behind the call as it read before. No condition. -/
import Derived.Test.YthbpjmnlgfahmaaSoI
import Derived.Test.YthbpjmnlgfahmaaOpK
import Derived.Test.YthbpjmnlgfahmaaWords
import Derived.ProofKit
import Derived.OpenShut
import Derived.ShutString
import Derived.ChangeOld
import Derived.Below
import Derived.Lib.SmallJoins
namespace Go.Proofs.Ythbpjmnlgfahmaa.xSerialOps
open Go.ChangeShapes Go.WideShapes Go.ChangeAt Go.RowKit
open Go.ChangeMaps (open_string shut_string)
set_option linter.unusedVariables false
def OpsR (w : World) (B C : Nat) (a : Option Addr) (n : Nat) (F : Nat → Nat → Value) : Prop := SRow w B C a n 3 F
theorem OpsR.next {w w' : World} {B C : Nat} {a : Option Addr} {n : Nat} {F : Nat → Nat → Value} (h : OpsR w B C a n F) (hb : Below w.heap.size w w') : OpsR w' B C a n F := SRow.next h hb
theorem OpsR.turn {w w' : World} {B C B' C' : Nat} {a : Option Addr} {n : Nat} {F : Nat → Nat → Value} (h : OpsR w B C a n F) (ht : Turned B' C' w w') (ha : C ≤ B' ∨ C' ≤ B) : OpsR w' B C a n F := SRow.trn h (show Trn B' C' w w' from ht) ha
theorem OpsR.sl {w : World} {B C : Nat} {a : Option Addr} {n : Nat} {F : Nat → Nat → Value} (h : OpsR w B C a n F) : Sl w a n 3 F := SRow.sl h
theorem soR_len (K T : Nat → Int) (S : Nat → ByteArray) (O : Nat → Int) (n n' : Nat) : (soR K T S O n n').length ≤ 1048576 := by
  unfold soR
  split
  · rename_i h
    unfold soOk at h
    simp only [Bool.and_eq_true, decide_eq_true_eq] at h
    have a := (goodO_out h.1).1
    have b := h.2.1
    have c := txL_len T n 9
    have d := soT_len T O n n'
    have e := Nat.mul_le_mul (show n' ≤ 9 by omega) a
    omega
  · simp

set_option maxRecDepth 100000 in
set_option maxHeartbeats 4000000 in
theorem walk (a : Option Addr) (n cap : Nat) (K T : Nat → Int) (S : Nat → ByteArray) (w : World) (hm : n ≤ maxLen) (hs : Sl w a n 3 (opF K T S)) (hS : ∀ i, i < n → (S i).size ≤ maxLen) (a' : Option Addr) (n' cap' : Nat) (X : Nat → Int) (hm' : n' ≤ maxLen) (hs' : Sl w a' n' 1 (intF X)) (hX : ∀ i, i < n' → -9223372036854775808 ≤ X i ∧ X i ≤ 9223372036854775807) :
    Calls Try.prog 12 #[.slice a n cap, .slice a' n' cap'] w fun r w' => r = .returned (.bool true) ∧ Below w.heap.size w w' := by
  have HS : Hid (Sl w a n 3 (opF K T S) ∧ (∀ i, i < n → (S i).size ≤ maxLen) ∧ Sl w a' n' 1 (intF X)) := ⟨hs, hS, hs'⟩
  clear hs hS hs' hX
  by_cases hn' : n' ≤ 1048576
  case neg =>
    have hlt : (1048576 : Int) < (n' : Int) := by omega
    unfold maxLen at hm'
    go_enter Try.func12, Try.ntmps12
    go_wp2
    go_ret
    exact ⟨rfl, Below.refl _ _⟩
  case pos =>
  have hlt'' : ¬ (1048576 : Int) < (n' : Int) := by omega
  go_enter Try.func12, Try.ntmps12
  go_wp2_with fail
  refine (szOpS_any _ _ _ K T S _ hm HS.out.1 HS.out.2.1).mono ?_
  rintro r w1 ⟨l, rfl, hl, hb⟩
  have HB1 : Hid (Below w.heap.size w w1) := hb
  have sz1 : w.heap.size ≤ w1.heap.size := hb.size
  clear hb
  by_cases hneg : l < 0
  · go_wp2
    go_ret
    exact ⟨rfl, HB1.out⟩
  have hn : n ≤ 1048576 := hl (by omega)
  clear hl
  go_wp2_with fail
  refine (toOpS_any _ _ _ K T S _ hn (HS.out.1.kept HB1.out)).mono ?_
  rintro r w2 ⟨rfl, hi, hg, hb⟩
  have HB2 : Hid (Below w.heap.size w w2) := below_next HB1.out hb
  have sz2 : w1.heap.size ≤ w2.heap.size := hb.size
  have A_2 : Hid (OpR w2 w1.heap.size n K T S) := hi
  clear hb hi hg HB1
  go_wp2_with fail
  refine (toIntS_any _ _ _ X _ hn' (HS.out.2.2.kept HB2.out)).mono ?_
  rintro r w3 ⟨rfl, hi, hg, hb⟩
  have HB3 : Hid (Below w.heap.size w w3) := below_next HB2.out hb
  have sz3 : w2.heap.size ≤ w3.heap.size := hb.size
  have A_3 : Hid (OpR w3 w1.heap.size n K T S) := A_2.out.next hb
  have D_3 : Hid (RowS w3 w2.heap.size (w2.heap.size + 1) (some ⟨w2.heap.size, 0, none⟩) n' X) := ⟨hi, hg⟩
  clear hb hi A_2 HB2
  go_wp2_with fail
  refine (specSerialOps_any _ _ _ K T S _ _ _ X _ hn hn' (Nat.le_refl _) (Nat.le_refl _) HS.out.2.1 A_3.out.sl D_3.out.sl).mono ?_
  rintro r w4 ⟨⟨a2, cap2, rfl, hi⟩, hb⟩
  have HB4 : Hid (Below w.heap.size w w4) := below_next HB3.out hb
  have sz4 : w3.heap.size ≤ w4.heap.size := hb.size
  have A_4 : Hid (OpR w4 w1.heap.size n K T S) := A_3.out.next hb
  have D_4 : Hid (RowS w4 w2.heap.size (w2.heap.size + 1) (some ⟨w2.heap.size, 0, none⟩) n' X) := D_3.out.next hb
  have S_4 : Hid (OpsR w4 w3.heap.size w4.heap.size a2 (soR K T S X n n').length (opL K T S (soR K T S X n n'))) := hi
  clear hb hi A_3 D_3 HB3
  clear A_4
  clear D_4
  go_wp2_with fail
  refine (toOpS_any _ _ _ K T S _ hn (HS.out.1.kept HB4.out)).mono ?_
  rintro r w5 ⟨rfl, hi, hg, hb⟩
  have HB5 : Hid (Below w.heap.size w w5) := below_next HB4.out hb
  have sz5 : w4.heap.size ≤ w5.heap.size := hb.size
  have S_5 : Hid (OpsR w5 w3.heap.size w4.heap.size a2 (soR K T S X n n').length (opL K T S (soR K T S X n n'))) := S_4.out.next hb
  have Y_5 : Hid (OpR w5 w4.heap.size n K T S) := hi
  clear hb hi hg S_4 HB4
  have szy : w4.heap.size < w5.heap.size := Y_5.out.2.2
  go_wp2_with fail
  refine (toIntS_any _ _ _ X _ hn' (HS.out.2.2.kept HB5.out)).mono ?_
  rintro r w6 ⟨rfl, hi, hg, hb⟩
  have HB6 : Hid (Below w.heap.size w w6) := below_next HB5.out hb
  have sz6 : w5.heap.size ≤ w6.heap.size := hb.size
  have S_6 : Hid (OpsR w6 w3.heap.size w4.heap.size a2 (soR K T S X n n').length (opL K T S (soR K T S X n n'))) := S_5.out.next hb
  have Y_6 : Hid (OpR w6 w4.heap.size n K T S) := Y_5.out.next hb
  have Z_6 : Hid (RowS w6 w5.heap.size (w5.heap.size + 1) (some ⟨w5.heap.size, 0, none⟩) n' X) := ⟨hi, hg⟩
  clear hb hi S_5 Y_5 HB5
  go_wp2_with fail
  refine (serialOps_any _ _ _ K T S _ _ _ X _ hn hn' (Nat.le_refl _) HS.out.2.1 Y_6.out.sl Z_6.out.sl).mono ?_
  rintro r w7 ⟨⟨a4, cap4, rfl, hi⟩, hb⟩
  have HB7 : Hid (Below w.heap.size w w7) := below_next HB6.out hb
  have sz7 : w6.heap.size ≤ w7.heap.size := hb.size
  have S_7 : Hid (OpsR w7 w3.heap.size w4.heap.size a2 (soR K T S X n n').length (opL K T S (soR K T S X n n'))) := S_6.out.next hb
  have Y_7 : Hid (OpR w7 w4.heap.size n K T S) := Y_6.out.next hb
  have Z_7 : Hid (RowS w7 w5.heap.size (w5.heap.size + 1) (some ⟨w5.heap.size, 0, none⟩) n' X) := Z_6.out.next hb
  have G_7 : Hid (OpsR w7 w6.heap.size w7.heap.size a4 (soR K T S X n n').length (opL K T S (soR K T S X n n'))) := hi
  clear hb hi S_6 Y_6 Z_6 HB6
  have hN0 : (soR K T S X n n').length ≤ 1048576 := soR_len K T S X n n'
  have HIM : Hid (∀ (a9 b9 : Option Addr) (w9 : World), Sl w9 a9 n 3 (opF K T S) → Sl w9 b9 n' 1 (intF X) → Calls Try.prog 32 #[.slice a9 n n, .slice b9 n' n'] w9 (OpsPost K T S (soR K T S X n n') (soOk K T S X n n') w9)) := fun a9 b9 w9 h h' => serialOps_any _ _ _ K T S _ _ _ X _ hn hn' (Nat.le_refl _) HS.out.2.1 h h'
  generalize (soR K T S X n n') = L at *
  generalize soOk K T S X n n' = ok at *
  have hN : L.length ≤ 1048576 := hN0
  clear hN0
  go_wp2_with fail
  refine (eqOpS_same _ _ _ _ _ (fun i => K (atL L i)) (fun i => T (atL L i)) (fun i => S (atL L i)) _ hN G_7.out.sl S_7.out.sl).mono ?_
  rintro r w8 ⟨rfl, hb⟩
  have HB8 : Hid (Below w.heap.size w w8) := below_next HB7.out hb
  have sz8 : w7.heap.size ≤ w8.heap.size := hb.size
  have S_8 : Hid (OpsR w8 w3.heap.size w4.heap.size a2 L.length (opL K T S L)) := S_7.out.next hb
  have Y_8 : Hid (OpR w8 w4.heap.size n K T S) := Y_7.out.next hb
  have Z_8 : Hid (RowS w8 w5.heap.size (w5.heap.size + 1) (some ⟨w5.heap.size, 0, none⟩) n' X) := Z_7.out.next hb
  have G_8 : Hid (OpsR w8 w6.heap.size w7.heap.size a4 L.length (opL K T S L)) := G_7.out.next hb
  clear hb S_7 Y_7 Z_7 G_7 HB7
  go_wp2_with fail
  refine (toOpS_any _ _ _ K T S _ hn (HS.out.1.kept HB8.out)).mono ?_
  rintro r w9 ⟨rfl, hi, hg, hb⟩
  have HB9 : Hid (Below w.heap.size w w9) := below_next HB8.out hb
  have sz9 : w8.heap.size ≤ w9.heap.size := hb.size
  have S_9 : Hid (OpsR w9 w3.heap.size w4.heap.size a2 L.length (opL K T S L)) := S_8.out.next hb
  have Y_9 : Hid (OpR w9 w4.heap.size n K T S) := Y_8.out.next hb
  have Z_9 : Hid (RowS w9 w5.heap.size (w5.heap.size + 1) (some ⟨w5.heap.size, 0, none⟩) n' X) := Z_8.out.next hb
  have G_9 : Hid (OpsR w9 w6.heap.size w7.heap.size a4 L.length (opL K T S L)) := G_8.out.next hb
  have A_9 : Hid (OpR w9 w8.heap.size n K T S) := hi
  clear hb hi hg S_8 Y_8 Z_8 G_8 HB8
  go_wp2_with fail
  refine (eqOpS_same _ _ _ _ _ K T S _ hn Y_9.out.sl A_9.out.sl).mono ?_
  rintro r w10 ⟨rfl, hb⟩
  have HB10 : Hid (Below w.heap.size w w10) := below_next HB9.out hb
  have sz10 : w9.heap.size ≤ w10.heap.size := hb.size
  have S_10 : Hid (OpsR w10 w3.heap.size w4.heap.size a2 L.length (opL K T S L)) := S_9.out.next hb
  have Y_10 : Hid (OpR w10 w4.heap.size n K T S) := Y_9.out.next hb
  have Z_10 : Hid (RowS w10 w5.heap.size (w5.heap.size + 1) (some ⟨w5.heap.size, 0, none⟩) n' X) := Z_9.out.next hb
  have G_10 : Hid (OpsR w10 w6.heap.size w7.heap.size a4 L.length (opL K T S L)) := G_9.out.next hb
  have A_10 : Hid (OpR w10 w8.heap.size n K T S) := A_9.out.next hb
  clear hb S_9 Y_9 Z_9 G_9 A_9 HB9
  clear A_10
  go_wp2_with fail
  refine (toIntS_any _ _ _ X _ hn' (HS.out.2.2.kept HB10.out)).mono ?_
  rintro r w11 ⟨rfl, hi, hg, hb⟩
  have HB11 : Hid (Below w.heap.size w w11) := below_next HB10.out hb
  have sz11 : w10.heap.size ≤ w11.heap.size := hb.size
  have S_11 : Hid (OpsR w11 w3.heap.size w4.heap.size a2 L.length (opL K T S L)) := S_10.out.next hb
  have Y_11 : Hid (OpR w11 w4.heap.size n K T S) := Y_10.out.next hb
  have Z_11 : Hid (RowS w11 w5.heap.size (w5.heap.size + 1) (some ⟨w5.heap.size, 0, none⟩) n' X) := Z_10.out.next hb
  have G_11 : Hid (OpsR w11 w6.heap.size w7.heap.size a4 L.length (opL K T S L)) := G_10.out.next hb
  have D_11 : Hid (RowS w11 w10.heap.size (w10.heap.size + 1) (some ⟨w10.heap.size, 0, none⟩) n' X) := ⟨hi, hg⟩
  clear hb hi S_10 Y_10 Z_10 G_10 HB10
  go_wp2_with fail
  refine (eqIntS_same _ _ _ _ _ X _ hn' Z_11.out.sl D_11.out.sl).mono ?_
  rintro r w12 ⟨rfl, hb⟩
  have HB12 : Hid (Below w.heap.size w w12) := below_next HB11.out hb
  have sz12 : w11.heap.size ≤ w12.heap.size := hb.size
  have S_12 : Hid (OpsR w12 w3.heap.size w4.heap.size a2 L.length (opL K T S L)) := S_11.out.next hb
  have Y_12 : Hid (OpR w12 w4.heap.size n K T S) := Y_11.out.next hb
  have Z_12 : Hid (RowS w12 w5.heap.size (w5.heap.size + 1) (some ⟨w5.heap.size, 0, none⟩) n' X) := Z_11.out.next hb
  have G_12 : Hid (OpsR w12 w6.heap.size w7.heap.size a4 L.length (opL K T S L)) := G_11.out.next hb
  have D_12 : Hid (RowS w12 w10.heap.size (w10.heap.size + 1) (some ⟨w10.heap.size, 0, none⟩) n' X) := D_11.out.next hb
  clear hb S_11 Y_11 Z_11 G_11 D_11 HB11
  clear D_12
  go_wp2_with fail
  refine (markOpS_any _ _ _ K T S 1 _ hn (by omega) (by omega) Y_12.out).mono ?_
  rintro r w13 ⟨rfl, ht⟩
  have HB13 : Hid (Below w.heap.size w w13) := below_turn HB12.out ht (by omega)
  have sz13 : w12.heap.size ≤ w13.heap.size := ht.2.2.2.1
  have S_13 : Hid (OpsR w13 w3.heap.size w4.heap.size a2 L.length (opL K T S L)) := S_12.out.turn ht (by omega)
  have Z_13 : Hid (RowS w13 w5.heap.size (w5.heap.size + 1) (some ⟨w5.heap.size, 0, none⟩) n' X) := Z_12.out.turn ht (by omega)
  have G_13 : Hid (OpsR w13 w6.heap.size w7.heap.size a4 L.length (opL K T S L)) := G_12.out.turn ht (by omega)
  clear ht S_12 Y_12 Z_12 G_12 HB12
  go_wp2_with fail
  refine (markIntS_any _ _ _ X (1 + 3 * (n : Int)) w5.heap.size (w5.heap.size + 1) _ hn' (by omega) (by omega) Z_13.out.1).mono ?_
  rintro r w14 ⟨rfl, hi, ht⟩
  have HB14 : Hid (Below w.heap.size w w14) := below_turn HB13.out ht (by omega)
  have sz14 : w13.heap.size ≤ w14.heap.size := ht.2.2.2.1
  have S_14 : Hid (OpsR w14 w3.heap.size w4.heap.size a2 L.length (opL K T S L)) := S_13.out.turn ht (by omega)
  have Z_14 : Hid (RowS w14 w5.heap.size (w5.heap.size + 1) (some ⟨w5.heap.size, 0, none⟩) n' (fun i => (1 + 3 * (n : Int)) + (i : Int))) := ⟨hi, Nat.le_trans Z_13.out.2 sz14⟩
  have G_14 : Hid (OpsR w14 w6.heap.size w7.heap.size a4 L.length (opL K T S L)) := G_13.out.turn ht (by omega)
  clear ht hi S_13 Z_13 G_13 HB13
  clear Z_14
  have hk0 : ¬ 1 + 3 * (n : Int) + (n' : Int) < 0 := by omega
  go_wp2_with fail
  refine (eqOpS_same _ _ _ _ _ (fun i => K (atL L i)) (fun i => T (atL L i)) (fun i => S (atL L i)) _ hN G_14.out.sl S_14.out.sl).mono ?_
  rintro r w15 ⟨rfl, hb⟩
  have HB15 : Hid (Below w.heap.size w w15) := below_next HB14.out hb
  have sz15 : w14.heap.size ≤ w15.heap.size := hb.size
  have S_15 : Hid (OpsR w15 w3.heap.size w4.heap.size a2 L.length (opL K T S L)) := S_14.out.next hb
  have G_15 : Hid (OpsR w15 w6.heap.size w7.heap.size a4 L.length (opL K T S L)) := G_14.out.next hb
  clear hb S_14 G_14 HB14
  go_wp2_with fail
  refine (markOpS_row _ _ _ (opL K T S L) 1 w6.heap.size w7.heap.size _ hN (by omega) (by omega) G_15.out).mono ?_
  rintro r w16 ⟨rfl, hi, ht⟩
  have HB16 : Hid (Below w.heap.size w w16) := below_turn HB15.out ht (by omega)
  have sz16 : w15.heap.size ≤ w16.heap.size := ht.2.2.2.1
  have S_16 : Hid (OpsR w16 w3.heap.size w4.heap.size a2 L.length (opL K T S L)) := S_15.out.turn ht (by omega)
  have G_16 : Hid (OpsR w16 w6.heap.size w7.heap.size a4 L.length (opF (mkK 1) (mkT 1) (mkS 1))) := hi
  clear ht hi S_15 G_15 HB15
  go_wp2_with fail
  refine (heldOpS_any _ _ _ 1 _ hN (by omega) (by omega) G_16.out.sl).mono ?_
  rintro r w17 ⟨rfl, hb⟩
  have HB17 : Hid (Below w.heap.size w w17) := below_next HB16.out hb
  have sz17 : w16.heap.size ≤ w17.heap.size := hb.size
  have S_17 : Hid (OpsR w17 w3.heap.size w4.heap.size a2 L.length (opL K T S L)) := S_16.out.next hb
  have G_17 : Hid (OpsR w17 w6.heap.size w7.heap.size a4 L.length (opF (mkK 1) (mkT 1) (mkS 1))) := G_16.out.next hb
  clear hb S_16 G_16 HB16
  have hk1 : ¬ 1 + 3 * (L.length : Int) < 0 := by omega
  go_wp2_with fail
  refine (toOpS_any _ _ _ K T S _ hn (HS.out.1.kept HB17.out)).mono ?_
  rintro r w18 ⟨rfl, hi, hg, hb⟩
  have HB18 : Hid (Below w.heap.size w w18) := below_next HB17.out hb
  have sz18 : w17.heap.size ≤ w18.heap.size := hb.size
  have S_18 : Hid (OpsR w18 w3.heap.size w4.heap.size a2 L.length (opL K T S L)) := S_17.out.next hb
  have G_18 : Hid (OpsR w18 w6.heap.size w7.heap.size a4 L.length (opF (mkK 1) (mkT 1) (mkS 1))) := G_17.out.next hb
  have A_18 : Hid (OpR w18 w17.heap.size n K T S) := hi
  clear hb hi hg S_17 G_17 HB17
  go_wp2_with fail
  refine (toIntS_any _ _ _ X _ hn' (HS.out.2.2.kept HB18.out)).mono ?_
  rintro r w19 ⟨rfl, hi, hg, hb⟩
  have HB19 : Hid (Below w.heap.size w w19) := below_next HB18.out hb
  have sz19 : w18.heap.size ≤ w19.heap.size := hb.size
  have S_19 : Hid (OpsR w19 w3.heap.size w4.heap.size a2 L.length (opL K T S L)) := S_18.out.next hb
  have G_19 : Hid (OpsR w19 w6.heap.size w7.heap.size a4 L.length (opF (mkK 1) (mkT 1) (mkS 1))) := G_18.out.next hb
  have A_19 : Hid (OpR w19 w17.heap.size n K T S) := A_18.out.next hb
  have D_19 : Hid (RowS w19 w18.heap.size (w18.heap.size + 1) (some ⟨w18.heap.size, 0, none⟩) n' X) := ⟨hi, hg⟩
  clear hb hi S_18 G_18 A_18 HB18
  go_wp2_with fail
  refine (HIM.out _ _ _ A_19.out.sl D_19.out.sl).mono ?_
  rintro r w20 ⟨⟨a9, cap9, rfl, hi⟩, hb⟩
  have HB20 : Hid (Below w.heap.size w w20) := below_next HB19.out hb
  have sz20 : w19.heap.size ≤ w20.heap.size := hb.size
  have S_20 : Hid (OpsR w20 w3.heap.size w4.heap.size a2 L.length (opL K T S L)) := S_19.out.next hb
  have G_20 : Hid (OpsR w20 w6.heap.size w7.heap.size a4 L.length (opF (mkK 1) (mkT 1) (mkS 1))) := G_19.out.next hb
  have A_20 : Hid (OpR w20 w17.heap.size n K T S) := A_19.out.next hb
  have D_20 : Hid (RowS w20 w18.heap.size (w18.heap.size + 1) (some ⟨w18.heap.size, 0, none⟩) n' X) := D_19.out.next hb
  have H_20 : Hid (OpsR w20 w19.heap.size w20.heap.size a9 L.length (opL K T S L)) := hi
  clear hb hi S_19 G_19 A_19 D_19 HB19
  clear A_20
  clear D_20
  go_wp2_with fail
  refine (eqOpS_same _ _ _ _ _ (fun i => K (atL L i)) (fun i => T (atL L i)) (fun i => S (atL L i)) _ hN H_20.out.sl S_20.out.sl).mono ?_
  rintro r w21 ⟨rfl, hb⟩
  have HB21 : Hid (Below w.heap.size w w21) := below_next HB20.out hb
  have sz21 : w20.heap.size ≤ w21.heap.size := hb.size
  have S_21 : Hid (OpsR w21 w3.heap.size w4.heap.size a2 L.length (opL K T S L)) := S_20.out.next hb
  have G_21 : Hid (OpsR w21 w6.heap.size w7.heap.size a4 L.length (opF (mkK 1) (mkT 1) (mkS 1))) := G_20.out.next hb
  have H_21 : Hid (OpsR w21 w19.heap.size w20.heap.size a9 L.length (opL K T S L)) := H_20.out.next hb
  clear hb S_20 G_20 H_20 HB20
  go_wp2_with fail
  refine (heldOpS_any _ _ _ 1 _ hN (by omega) (by omega) G_21.out.sl).mono ?_
  rintro r w22 ⟨rfl, hb⟩
  have HB22 : Hid (Below w.heap.size w w22) := below_next HB21.out hb
  have sz22 : w21.heap.size ≤ w22.heap.size := hb.size
  have S_22 : Hid (OpsR w22 w3.heap.size w4.heap.size a2 L.length (opL K T S L)) := S_21.out.next hb
  have G_22 : Hid (OpsR w22 w6.heap.size w7.heap.size a4 L.length (opF (mkK 1) (mkT 1) (mkS 1))) := G_21.out.next hb
  have H_22 : Hid (OpsR w22 w19.heap.size w20.heap.size a9 L.length (opL K T S L)) := H_21.out.next hb
  clear hb S_21 G_21 H_21 HB21
  have HE := HB22
  go_wp2
  go_ret
  exact ⟨rfl, HE.out⟩


theorem own : ownKnob Try.prog.godebug = none := by kernel_rfl
theorem laidOut : laidOutB Try.prog = true := by kernel_rfl

set_option maxRecDepth 100000 in
theorem lifted (os : Os) (started : os.Started) (H : Type) (enc : TypeId × Value → H) :
    ReturnsInHanded {} Try.checked os 12 .any (Rows.fnExactSerialOpsSpec.pre6 enc Try.prog Try.f12 Rows.fnExactSerialOpsRow.domain false) (Rows.fnExactSerialOpsSpec.post enc Try.prog Try.f12 false true false false) := by
  refine returnsInHanded_of_change (C := Try.checked) own started (by kernel_rfl) Try.func12
    (ChangeSpec.witness6 (enc := enc) (C := Try.checked) false ⟨#[], #[.slice none 0 0, .slice none 0 0], []⟩ 8 (by kernel_rfl) (by kernel_rfl) (by kernel_rfl) (by kernel_rfl)) ?_
  intro W base args ds gs before hval0 hW hcnd _
  have hval : ∀ (j : Nat) t v, Try.f12.params[j]? = some t → args[j]? = some v → Value.okWide Try.prog W .any base t v := hval0
  have hW' := hW
  obtain ⟨p, q, hA0, hV, rfl, hfz, hnd⟩ := hW
  have hA : DataW.TrodAll enc Try.prog W 0 (fun _ => true) true Try.f12.params.toList args.toList ds p := hA0
  rw [Try.params12] at hA hval
  obtain ⟨v0, vs0, d0, ds0, p0, q0, hargs, rfl, rfl, h0, r0⟩ := trodAll_cons hA
  obtain ⟨v1, vs1, d1, ds1, p1, q1, rfl, rfl, rfl, h1, r1⟩ := trodAll_cons r0
  obtain ⟨rfl, rfl, rfl⟩ := trodAll_nil r1
  obtain rfl : args = #[v0, v1] := by cases args; simp_all
  obtain ⟨rfl, rfl⟩ := trodVars_none hV
  have k0 := h0
  have lt0 : ∀ x ∈ p0, x.block < W.heap.size := by obtain ⟨m, hm⟩ := k0; exact DataW.trod_lt m _ _ _ hm
  obtain ⟨a0, len0, cap0, rfl⟩ := okWide_slice Try.underlying58 (hval 0 58 v0 rfl rfl)
  obtain ⟨n0, K0, T0, S0, s0, b0⟩ := open_ops h0
  have k1 := h1
  have lt1 : ∀ x ∈ p1, x.block < W.heap.size := by obtain ⟨m, hm⟩ := k1; exact DataW.trod_lt m _ _ _ hm
  obtain ⟨a1, len1, cap1, rfl⟩ := okWide_slice Try.underlying25 (hval 1 25 v1 rfl rfl)
  obtain ⟨n1, X1, s1, b1⟩ := open_ints h1
  clear hA0 hval0
  refine (walk (w := W) a0 len0 cap0 K0 T0 S0 n0 s0 b0 a1 len1 cap1 X1 n1 s1 b1).mono fun e W' ⟨he, bel⟩ => ?_
  subst he
  exact ⟨_, rfl, _, _, _, [], _, [], hW', trodAll_mk1 (shut_bool Try.underlying4 _), (trodAll_cons_mk (Below.trod laidOut (by kernel_rfl) (of_decide_eq_true (by kernel_rfl)) k0 bel lt0) (trodAll_cons_mk (Below.trod laidOut (by kernel_rfl) (of_decide_eq_true (by kernel_rfl)) k1 bel lt1) trodAll_mk0)), rfl, bel.frame _, fun h => by cases h⟩

set_option maxHeartbeats 40000000 in
theorem closed : joinedFacts Try.pinned.checked.prog 12 Try.f12 Rows.fnExactSerialOpsSpec Rows.fnExactSerialOpsRow = true := by
  unfold joinedFacts
  repeat' (first | (with_reducible refine both ?_ ?_) | (with_reducible exact may_enter') | (with_reducible refine lifts_eq ?_) | (with_reducible refine make_eq ?_) | as_aux_lemma => kernel_rfl)
theorem named : Try.pinned.checked.prog.funcNamed Rows.fnExactSerialOpsRow.func = some 12 := by kernel_rfl
theorem over : Rows.fnExactSerialOpsRow.holds Try.pinned (OpenSpec.ofChange Rows.fnExactSerialOpsSpec) :=
  OpenClaim.holds_of_wide 12 Try.f12 rfl rfl rfl rfl rfl rfl rfl ⟨rfl, rfl, rfl, rfl, rfl⟩ rfl rfl rfl rfl rfl named Try.func12 closed
    (of_decide_eq_true (by as_aux_lemma => kernel_rfl)) (by unfold Func.isWrapper; first | (rw [if_pos (by decide +kernel)]; kernel_rfl) | (rw [if_neg (by decide +kernel)]; exact ⟨rfl, rfl⟩))
    (fun os started H enc _ => lifted os started H enc)

end Go.Proofs.Ythbpjmnlgfahmaa.xSerialOps
namespace Go.Proofs.Ythbpjmnlgfahmaa
theorem xSerialOps_holds : Rows.FnExactSerialOpsSaid := xSerialOps.over
#print axioms xSerialOps_holds
end Go.Proofs.Ythbpjmnlgfahmaa
