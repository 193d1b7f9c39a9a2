/- The contracts of (*oneCopy).finish and firstOrder. -/
import Derived.Test.YtkniokbioggkeaaOnW
namespace Go.Proofs.Ytkniokbioggkeaa
open Go.RowKit
set_option linter.unusedVariables false

theorem OneS.new {w0 W W' : World} {g : Nat} {a : Option Addr} {n cap : Nat} {V : Nat → CallV} {ord : List Nat} {KB : List (Nat × List Value)} {b : Nat} {vs : List Value} (h : OneS w0 W g a n cap V ord KB) (hb : Below W.heap.size W W') (hx : Bx W' b vs) (hbs : W.heap.size ≤ b) : OneS w0 W' g a n cap V ord ((b, vs) :: KB) := by
  obtain ⟨L, ov, lv, h1, h2, h3⟩ := h
  exact ⟨L, ov, lv, h1.new hb hx hbs, h2, below_nxg h3 (Nat.le_of_lt h1.1.2) hb⟩
theorem OneS.boxAt {w0 W : World} {g : Nat} {a : Option Addr} {n cap : Nat} {V : Nat → CallV} {ord : List Nat} {KB : List (Nat × List Value)} (h : OneS w0 W g a n cap V ord KB) {b : Nat} {vs : List Value} (hp : (b, vs) ∈ KB) : Bx W b vs := by
  obtain ⟨L, ov, lv, h1, h2, h3⟩ := h
  exact h1.boxAt hp
/-- What finish answers. -/
def FinPost (own : Bool) (w0 : World) (g : Nat) (a : Option Addr) (n cap : Nat) (V : Nat → CallV) (d : Nat) (ord : List Nat) (KB : List (Nat × List Value)) (r : Ending) (w' : World) : Prop :=
  (∃ o, srch V n own d ord = some o ∧ r = .returned (.bool true) ∧ OneS w0 w' g a n cap V o KB) ∨ (srch V n own d ord = none ∧ r = .returned (.bool false) ∧ OneS w0 w' g a n cap V ord KB)
theorem mayB_at {V : Nat → CallV} {n : Nat} {own : Bool} {ord : List Nat} {i : Nat} (hi : i ∉ ord) : mayB V n own ord i = (fitB V ord i && !waitB V n own ord i) := by
  have : ord.contains i = false := by simpa using hi
  simp only [mayB, this, Bool.not_false, Bool.true_and]
theorem mayB_in {V : Nat → CallV} {n : Nat} {own : Bool} {ord : List Nat} {i : Nat} (h : mayB V n own ord i = true) : i ∉ ord := by
  simp [mayB] at h; exact h.1
/-- No one of the first k that are left goes on. -/
def noneL (V : Nat → CallV) (n : Nat) (own : Bool) (d : Nat) (ord : List Nat) (k : Nat) : Prop := ∀ j (hj : j < (leftL n ord).length), j < k → mayB V n own ord (leftL n ord)[j] = true → srch V n own d (ord ++ [(leftL n ord)[j]]) = none
theorem noneL_up {V : Nat → CallV} {n : Nat} {own : Bool} {d : Nat} {ord : List Nat} {k i : Nat} (h : noneL V n own d ord k) (hk : k < (leftL n ord).length) (hi : i = (leftL n ord)[k]) (hn : mayB V n own ord i = true → srch V n own d (ord ++ [i]) = none) : noneL V n own d ord (k + 1) := by
  intro j hj hjk
  rcases Nat.lt_or_ge j k with q | q
  · exact h j hj q
  · have : j = k := by omega
    subst this; rw [← hi]; exact hn
theorem noneL_to {V : Nat → CallV} {n : Nat} {own : Bool} {d : Nat} {ord : List Nat} {k m : Nat} (h : noneL V n own d ord k) (hm : ∀ j (hj : j < (leftL n ord).length), (leftL n ord)[j] < m → j < k) (hmn : m ≤ n) : noneTo V n own d ord m := by
  intro i hi hmay
  have hmem : i ∈ leftL n ord := mem_left.2 ⟨by omega, mayB_in hmay⟩
  obtain ⟨j, hj, rfl⟩ := List.getElem_of_mem hmem
  exact h j hj (hm j hj hi) hmay
theorem left_lt {n : Nat} {ord : List Nat} {j k : Nat} (hj : j < (leftL n ord).length) (hk : k < (leftL n ord).length) (h : (leftL n ord)[j] < (leftL n ord)[k]) : j < k := by
  rcases Nat.lt_trichotomy j k with q | q | q
  · exact q
  · subst q; omega
  · have := (List.pairwise_iff_getElem.1 (left_rise n ord)) k j hk hj q
    omega

set_option maxRecDepth 100000 in
set_option maxHeartbeats 8000000 in
theorem finish_any (own : Bool) (w0 : World) (g : Nat) (a : Option Addr) (n cap : Nat) (V : Nat → CallV) (hC : OneC w0 g a n cap V) : ∀ (d : Nat) (ord : List Nat) (KB : List (Nat × List Value)) (w : World), OrdOk n ord → ord.length + d = n → OneS w0 w g a n cap V ord KB →
    Calls Try.prog 61 #[.pointer (some ⟨g, 0, none⟩), fvV own] w fun r w' => FinPost own w0 g a n cap V d ord KB r w' := by
  intro d
  induction d with
  | zero =>
    intro ord KB w hok hlen h
    have hl0 : (leftL n ord).length = 0 := by have := left_len hok; omega
    have H0 : Hid (OrdOk n ord ∧ OneS w0 w g a n cap V ord KB ∧ OneC w0 g a n cap V) := ⟨hok, h, hC⟩
    clear hok h hC
    generalize fvV own = fv
    go_enter Try.func61, Try.ntmps61
    go_wp2_with fail
    refine (left_any w0 _ g a n cap V ord KB H0.out.2.2 H0.out.1 H0.out.2.1).mono ?_
    rintro r w1 ⟨v, rfl, hown, hb⟩
    rw [hl0] at hown
    obtain ⟨a5, c5, rfl⟩ := own0 hown
    have HZ : Hid (FinPost own w0 g a n cap V 0 ord KB (.returned (.bool true)) w1) := Or.inl ⟨ord, rfl, rfl, H0.out.2.1.next hb⟩
    clear hown hb H0
    go_wp2
    go_ret
    exact HZ.out
  | succ d ih =>
    intro ord KB w hok hlen h
    have hl := left_len hok
    have h7 := hC.n7
    have hl0 : 0 < (leftL n ord).length := by omega
    have H0 : Hid (OrdOk n ord ∧ OneS w0 w g a n cap V ord KB ∧ OneC w0 g a n cap V) := ⟨hok, h, hC⟩
    have HIH : Hid (∀ (ord : List Nat) (KB : List (Nat × List Value)) (w : World), OrdOk n ord → ord.length + d = n → OneS w0 w g a n cap V ord KB → Calls Try.prog 61 #[.pointer (some ⟨g, 0, none⟩), fvV own] w fun r w' => FinPost own w0 g a n cap V d ord KB r w') := ih
    have HWT : Hid (∀ (w : World) (KB : List (Nat × List Value)) (i lb lc : Nat), i < n → OneS w0 w g a n cap V ord KB → Bx w lb (ordC (leftL n ord)) → Calls Try.prog 76 #[.pointer (some ⟨g, 0, none⟩), .int .i64 (i : Int), .slice (some ⟨lb, 0, none⟩) (leftL n ord).length lc, fvV own] w fun r w' => r = .returned (.bool (waitB V n own ord i)) ∧ Below w.heap.size w w') := fun w KB i lb lc hi h hx => waits_any own w0 w g a n cap V ord KB i lb lc hC hi h hx
    clear hok h hC ih
    generalize hfv : fvV own = fv at *
    clear hfv
    go_enter Try.func61, Try.ntmps61
    go_wp2_with fail
    refine (left_any w0 _ g a n cap V ord KB H0.out.2.2 H0.out.1 H0.out.2.1).mono ?_
    rintro r w1 ⟨v, rfl, hown, hb⟩
    obtain ⟨lb, lc, rfl⟩ := Go.Joins.ownsRow_form hown hl0
    have HK : Hid (OneS w0 w1 g a n cap V ord ((lb, ordC (leftL n ord)) :: KB)) := H0.out.2.1.new hb (own_box hown) (hown.lt lb rfl).1
    have HM : Hid (∀ k (hk : k < (leftL n ord).length), (leftL n ord)[k] < n ∧ (leftL n ord)[k] ∉ ord) := fun k hk => mem_left.1 (List.getElem_mem hk)
    have hl7 : (leftL n ord).length ≤ 7 := by omega
    have hl0' : (((leftL n ord).length : Int) == 0) = false := by rw [beq_eq_false_iff_ne]; omega
    clear hown hb hl
    go_wp2
    go_loopw [16, 4] (fun z r4 wr => ∃ k : Nat, k ≤ (leftL n ord).length ∧ z = .int .i64 k ∧ r4 = .bool false ∧ noneL V n own d ord k ∧ OneS w0 wr g a n cap V ord ((lb, ordC (leftL n ord)) :: KB)) (fun z _ _ => (leftL n ord).length - (intOf z).toNat)
    case atStart => exact ⟨0, Nat.zero_le _, rfl, rfl, fun j _ hj => absurd hj (by omega), HK.out⟩
    case round =>
      obtain ⟨k, hk, rfl, rfl, hno, hone⟩ := hrel
      clear HK
      have HQ : Hid (noneL V n own d ord k ∧ OneS w0 wr g a n cap V ord ((lb, ordC (leftL n ord)) :: KB)) := ⟨hno, hone⟩
      clear hno hone
      by_cases hlt : k < (leftL n ord).length
      · have hlt' : (k : Int) < ((leftL n ord).length : Int) := by omega
        obtain ⟨i, hi⟩ : ∃ i, i = (leftL n ord)[k] := ⟨_, rfl⟩
        have HI : Hid (i = (leftL n ord)[k] ∧ i ∉ ord) := ⟨hi, by rw [hi]; exact (HM.out k hlt).2⟩
        have hin : i < n := by rw [hi]; exact (HM.out k hlt).1
        have d0 := (HQ.out.2.boxAt List.mem_cons_self).cell k (ordC_at hlt)
        rw [← hi] at d0
        have dz := (HQ.out.2.boxAt List.mem_cons_self).2
        clear hi
        go_wp2_with fail
        refine (fits_any w0 _ g a n cap V ord _ i H0.out.2.2 hin HQ.out.2).mono ?_
        rintro r w2 ⟨rfl, hone⟩
        have H2 : Hid (OneS w0 w2 g a n cap V ord ((lb, ordC (leftL n ord)) :: KB)) := hone
        clear hone d0 dz
        cases ef : fitB V ord i
        · have HN : Hid (noneL V n own d ord (k + 1)) := noneL_up HQ.out.1 hlt HI.out.1 (fun h => by rw [mayB_at HI.out.2, ef] at h; cases h)
          go_wp2
          go_roundw
          case rel => exact ⟨k + 1, by omega, by go_num, rfl, HN.out, H2.out⟩
          case measure => simp [intOf]; omega
        go_wp2_with fail
        refine (HWT.out _ _ i lb lc hin H2.out (H2.out.boxAt List.mem_cons_self)).mono ?_
        rintro r w3 ⟨rfl, hb⟩
        have H3 : Hid (OneS w0 w3 g a n cap V ord ((lb, ordC (leftL n ord)) :: KB)) := H2.out.next hb
        clear hb H2
        cases ew : waitB V n own ord i
        case true =>
          have HN : Hid (noneL V n own d ord (k + 1)) := noneL_up HQ.out.1 hlt HI.out.1 (fun h => by rw [mayB_at HI.out.2, ef, ew] at h; cases h)
          go_wp2
          go_roundw
          case rel => exact ⟨k + 1, by omega, by go_num, rfl, HN.out, H3.out⟩
          case measure => simp [intOf]; omega
        have HY : Hid (mayB V n own ord i = true) := by show _ = _; rw [mayB_at HI.out.2, ef, ew]; rfl
        go_wp2_with fail
        refine (do_any w0 _ g a n cap V ord _ i H0.out.2.2 hin (by omega) H3.out).mono ?_
        rintro r w4 ⟨b2, b5, b6, rfl, hone⟩
        have H4 : Hid (OneS w0 w4 g a n cap V (ord ++ [i]) ((b6, [.string (valO V ord (V i).f2.toList)]) :: (b5, [.int .i64 (V i).f0, .bool (V i).f1, .string (V i).f2, .string (V i).f3, .int .i64 (V i).f4, .int .i64 (V i).f5]) :: (b2, [.pointer (some ⟨g, 0, none⟩)]) :: (lb, ordC (leftL n ord)) :: KB)) := hone
        clear hone H3
        go_wp2_with fail
        refine (HIH.out (ord ++ [i]) _ _ (H0.out.1.snoc hin HI.out.2) (by simp; omega) H4.out).mono ?_
        rintro r w5 (⟨o, ho, rfl, hone⟩ | ⟨ho, rfl, hone⟩)
        · have HZ : Hid (FinPost own w0 g a n cap V (d + 1) ord KB (.returned (.bool true)) w5) := Or.inl ⟨o, srch_some (noneL_to HQ.out.1 (fun j hj hji => left_lt hj hlt (by rw [← HI.out.1]; exact hji)) (by omega)) hin HY.out ho, rfl, hone.sub (fun p hp => by simp [hp])⟩
          clear ho hone H4
          go_wp2
          go_ret
          exact HZ.out
        · have H5 : Hid (OneS w0 w5 g a n cap V (ord ++ [i]) ((b6, [.string (valO V ord (V i).f2.toList)]) :: (b5, [.int .i64 (V i).f0, .bool (V i).f1, .string (V i).f2, .string (V i).f3, .int .i64 (V i).f4, .int .i64 (V i).f5]) :: (b2, [.pointer (some ⟨g, 0, none⟩)]) :: (lb, ordC (leftL n ord)) :: KB) ∧ noneL V n own d ord (k + 1)) := ⟨hone, noneL_up HQ.out.1 hlt HI.out.1 (fun _ => ho)⟩
          clear ho hone H4
          go_wp2_with fail
          refine (undo_any w0 _ g a n cap V ord _ i b2 b5 b6 H0.out.2.2 hin (by omega) H5.out.1 (List.mem_cons_of_mem _ (List.mem_cons_of_mem _ List.mem_cons_self)) (List.mem_cons_of_mem _ List.mem_cons_self) List.mem_cons_self).mono ?_
          rintro r w6 ⟨rfl, hone⟩
          have H6 : Hid (OneS w0 w6 g a n cap V ord ((lb, ordC (leftL n ord)) :: KB)) := hone.sub (fun p hp => List.mem_cons_of_mem _ (List.mem_cons_of_mem _ (List.mem_cons_of_mem _ hp)))
          clear hone
          go_wp2
          go_roundw
          case rel => exact ⟨k + 1, by omega, by go_num, rfl, H5.out.2, H6.out⟩
          case measure => simp [intOf]; omega
      · have hkl : k = (leftL n ord).length := by omega
        have hlt' : ¬ (k : Int) < ((leftL n ord).length : Int) := by omega
        have HZ : Hid (FinPost own w0 g a n cap V (d + 1) ord KB (.returned (.bool false)) wr) := Or.inr ⟨srch_none (noneL_to HQ.out.1 (fun j hj _ => by omega) (Nat.le_refl _)), rfl, HQ.out.2.sub (fun p hp => List.mem_cons_of_mem _ hp)⟩
        clear hkl
        go_wp2
        go_ret
        exact HZ.out
/-- What firstOrder answers. -/
def FirPost (own : Bool) (n : Nat) (V : Nat → CallV) (w : World) (r : Ending) (w' : World) : Prop :=
  ((∃ o v, srch V n own n [] = some o ∧ r = .returned (.tuple #[v, .bool true]) ∧ w'.ownsRow (w.heap.size + 1) 3 1 v o.length (ordC o)) ∨ (srch V n own n [] = none ∧ r = .returned (.tuple #[.slice none 0 0, .bool false]))) ∧ Below w.heap.size w w'
set_option maxRecDepth 100000 in
set_option maxHeartbeats 8000000 in
theorem firstOrder_any (own : Bool) (a : Option Addr) (n cap : Nat) (V : Nat → CallV) (w : World) (h7 : n ≤ 7) (hk : ∀ i, i < n → (V i).f2.size ≤ 281474976710656) (hs : Sl w a n 6 (callF V)) :
    Calls Try.prog 34 #[.slice a n cap, fvV own] w fun r w' => FirPost own n V w r w' := by
  have HC : Hid (OneC w w.heap.size a n cap V) := ⟨hs, Nat.le_refl _, h7, hk⟩
  have HX : Hid (OneS w (w.alloc (.cells #[.slice a n cap, .slice none 0 0, .slice none 0 0] 58)) w.heap.size a n cap V [] []) :=
    ⟨[], _, _, ⟨Bx.new w [.slice a n cap, .slice none 0 0, .slice none 0 0] _, World.ownsRow_nil _ _ _ _, World.ownsRow_nil _ _ _ _, (fun b hb => by cases hb), fun p hp => by simp at hp⟩, Sees.nil V n, Go.Joins.below_alloc1 _ _⟩
  have HF : Hid (∀ W, OneS w W w.heap.size a n cap V [] [] → Calls Try.prog 61 #[.pointer (some ⟨w.heap.size, 0, none⟩), fvV own] W fun r w' => FinPost own w w.heap.size a n cap V n [] [] r w') := fun W h => finish_any own w w.heap.size a n cap V HC.out n [] [] W (OrdOk.nil n) (by simp) h
  clear hs hk
  generalize hfv : fvV own = fv at *
  clear hfv
  go_enter Try.func34, Try.ntmps34
  go_wp2_with fail
  refine (HF.out _ HX.out).mono ?_
  rintro r w1 (⟨o, ho, rfl, hone⟩ | ⟨ho, rfl, hone⟩)
  · obtain ⟨L, ov, lv, h1, h2, h3⟩ := hone
    have HZ : Hid (FirPost own n V w (.returned (.tuple #[ov, .bool true])) w1) := ⟨Or.inl ⟨o, ov, ho, rfl, h1.2.1⟩, h3⟩
    obtain ⟨oa, oc, rfl⟩ : ∃ oa oc, ov = .slice oa o.length oc := by
      rcases Go.Joins.ownsRow_forms h1.2.1 with ⟨e, e'⟩ | ⟨gg, cc, e⟩
      · exact ⟨none, 0, by rw [e, e']⟩
      · exact ⟨_, _, e⟩
    have k1 := h1.1.cell 1 rfl
    have kz := h1.1.2
    clear h1 h2 h3 ho HX
    go_wp2
    exact bodyPost_ret (v := .tuple #[.slice oa o.length oc, .bool true]) (by simp [results, Try.results34, go_sem]) rfl HZ.out
  · have HZ : Hid (FirPost own n V w (.returned (.tuple #[.slice none 0 0, .bool false])) w1) := by
      obtain ⟨L, ov, lv, h1, h2, h3⟩ := hone
      exact ⟨Or.inr ⟨ho, rfl⟩, h3⟩
    clear hone ho HX
    go_wp2
    exact bodyPost_ret (v := .tuple #[.slice none 0 0, .bool false]) (by simp [results, Try.results34, go_sem]) rfl HZ.out
end Go.Proofs.Ytkniokbioggkeaa
