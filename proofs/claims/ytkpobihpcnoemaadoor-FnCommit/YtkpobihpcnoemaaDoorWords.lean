/- The head's words of a program that was cut: three words in, the rest need not be looked at. -/
import Derived.Test.YtkpobihpcnoemaaDoorRows
import Derived.ProofKit
import Derived.JoinedOf
namespace Go.Proofs.YtkpobihpcnoemaaDoor
set_option linter.unusedVariables false

theorem ws_sp (r : List Char) : wordsSigns (Char.ofNat 32 :: r) = [] :: wordsSigns r := rfl
theorem ws_char {c : Char} (h : c ≠ Char.ofNat 32) (r : List Char) : wordsSigns (c :: r) = match wordsSigns r with | w :: ws => (c :: w) :: ws | [] => [[c]] := by
  rw [wordsSigns]
  · cases wordsSigns r <;> rfl
  · exact h
theorem ws_word : ∀ (w r : List Char), (w.all fun c => c != Char.ofNat 32) = true → wordsSigns (w ++ Char.ofNat 32 :: r) = w :: wordsSigns r
  | [], r, _ => rfl
  | c :: w, r, h => by
    simp only [List.all_cons, Bool.and_eq_true, bne_iff_ne, ne_eq] at h
    rw [List.cons_append, ws_char h.1, ws_word w r h.2]
theorem cut_words {L s t : List Char} (hL : L = "harness".toList ++ Char.ofNat 32 :: (s ++ Char.ofNat 32 :: ("cut".toList ++ Char.ofNat 32 :: t))) (h2 : isSumSigns s = true) (h3 : (s.all fun c => c != Char.ofNat 32) = true) : behindMainWord (wordsSigns L) = "cut".toList :: wordsSigns t := by
  rw [hL, ws_word _ _ (by decide), ws_word _ _ h3, ws_word _ _ (by decide)]
  simp only [behindMainWord, h2]
  rfl
theorem split_words {L : List Char} (e1 : L.take 8 = "harness".toList ++ [Char.ofNat 32]) (e4 : (L.drop 72).take 5 = Char.ofNat 32 :: ("cut".toList ++ [Char.ofNat 32])) :
    L = "harness".toList ++ Char.ofNat 32 :: ((L.drop 8).take 64 ++ Char.ofNat 32 :: ("cut".toList ++ Char.ofNat 32 :: L.drop 77)) := by
  have h1 : L = L.take 8 ++ ((L.drop 8).take 64 ++ ((L.drop 72).take 5 ++ L.drop 77)) := by
    have a1 := List.take_append_drop 8 L
    have a2 := List.take_append_drop 64 (L.drop 8)
    have a3 := List.take_append_drop 5 (L.drop 72)
    rw [List.drop_drop] at a2 a3
    rw [a3, a2, a1]
  rw [e1, e4] at h1
  simpa using h1
theorem strip_cut (X : List (List Char)) : stripLifts liftWords ("cut".toList :: X) = ([], "cut".toList :: X) := by
  simp [stripLifts, liftWords]
theorem enters_cut {P : Program} {X : List (List Char)} (hw : behindMainWord (wordsSigns P.initOrder.toList) = "cut".toList :: X) (h1 : P.laysLater = false) (h2 : P.bearsReflect = false) (h3 : P.doorFits [] = true) : P.mayEnter = true := by
  unfold Program.mayEnter
  rw [hw]
  simp only [strip_cut]
  simp [h1, h2, h3]
theorem lifts_cut {P : Program} {X : List (List Char)} (hw : behindMainWord (wordsSigns P.initOrder.toList) = "cut".toList :: X) : P.liftsFinal = false := by
  unfold Program.liftsFinal Program.headLifts
  rw [hw]
  simp only [strip_cut]
  simp
/-- The head of the translation, sign by sign. -/
def headL : List Char := [104, 97, 114, 110, 101, 115, 115, 32, 57, 48, 101, 101, 53, 55, 50, 53, 53, 99, 101, 57, 99, 101, 55, 101, 99, 102, 99, 98, 57, 55, 101, 97, 53, 51, 101, 50, 54, 101, 48, 55, 99, 49, 57, 54, 55, 97, 98, 97, 57, 56, 57, 53, 48, 49, 101, 97, 51, 98, 50, 101, 56, 49, 56, 54, 57, 55, 52, 54, 48, 55, 54, 49, 32, 99, 117, 116, 32, 97, 116, 32, 108, 111, 111, 112, 46, 101, 120, 97, 109, 112, 108, 101, 47, 103, 48, 48, 50, 49, 56, 47, 108, 97, 119, 115, 46, 70, 110, 67, 111, 109, 109, 105, 116, 32, 108, 111, 111, 112, 46, 101, 120, 97, 109, 112, 108, 101, 47, 103, 48, 48, 50, 49, 56, 47, 108, 97, 119, 115, 46, 70, 110, 84, 111, 108, 100, 32, 108, 111, 111, 112, 46, 101, 120, 97, 109, 112, 108, 101, 47, 103, 48, 48, 50, 49, 56, 47, 108, 97, 119, 115, 46, 70, 110, 69, 120, 97, 99, 116, 83, 116, 101, 112, 67, 111, 109, 109, 105, 116, 32, 108, 111, 111, 112, 46, 101, 120, 97, 109, 112, 108, 101, 47, 103, 48, 48, 50, 49, 56, 47, 108, 97, 119, 115, 46, 70, 110, 69, 120, 97, 99, 116, 80, 108, 97, 121, 67, 111, 109, 109, 105, 116].map Char.ofNat
set_option maxRecDepth 100000 in
theorem head_is : Tryd.prog.initOrder = String.ofList headL := by kernel_rfl
theorem make_cut {P : Program} {X : List (List Char)} (hw : behindMainWord (wordsSigns P.initOrder.toList) = "cut".toList :: X) : P.make = some .cut := by
  unfold Program.make
  rw [hw]
  simp
theorem words_cut : behindMainWord (wordsSigns Tryd.prog.initOrder.toList) = "cut".toList :: wordsSigns (headL.drop 77) := by
  rw [head_is, String.toList_ofList]
  exact cut_words (split_words (by as_aux_lemma => kernel_rfl) (by as_aux_lemma => kernel_rfl)) (by as_aux_lemma => kernel_rfl) (by as_aux_lemma => kernel_rfl)
theorem lays_no : Tryd.prog.laysLater = false := by kernel_rfl
theorem reflects_no : Tryd.prog.bearsReflect = false := by kernel_rfl
theorem door_fits : Tryd.prog.doorFits [] = true := by kernel_rfl
theorem may_enter : Tryd.prog.mayEnter = true := enters_cut words_cut lays_no reflects_no door_fits
theorem lifts_no : Tryd.prog.liftsFinal = false := lifts_cut words_cut
theorem may_enter' : Tryd.pinned.checked.prog.mayEnter = true := may_enter
theorem lifts_eq {b : Bool} (h : b = false) : (b == Tryd.pinned.checked.prog.liftsFinal) = true := by
  have : Tryd.pinned.checked.prog.liftsFinal = false := lifts_no
  rw [h, this]; rfl
theorem make_eq {m : Make} (h : m = .cut) : (Tryd.pinned.checked.prog.make == some m) = true := by
  have : Tryd.pinned.checked.prog.make = some .cut := make_cut words_cut
  rw [h, this]; rfl
theorem both {a b : Bool} (h : a = true) (k : b = true) : (a && b) = true := by rw [h, k]; rfl
end Go.Proofs.YtkpobihpcnoemaaDoor
