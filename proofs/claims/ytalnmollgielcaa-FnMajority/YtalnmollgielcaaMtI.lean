/- The contracts of MeetOf, on both sides. -/
import Derived.Test.YtalnmollgielcaaMtG
namespace Go.Proofs.Ytalnmollgielcaa
open Go.RowKit
set_option linter.unusedVariables false

theorem GbH.new4 (w : World) (u v : Value) (t : TypeId) : GbH ((((w.alloc (.cells #[u] t)).alloc (.cells #[v] t)).alloc (.cells #[.slice none 0 0] t)).alloc (.cells #[.slice none 0 0] t)) w (w.heap.size + 1 + 1 + 1 + 1) (w.heap.size + 1 + 1) (w.heap.size + 1 + 1 + 1) [] := by
  have hb : Below w.heap.size w ((w.alloc (.cells #[u] t)).alloc (.cells #[v] t)) := ((Below.refl _ _).alloc (Nat.le_refl _) _).alloc (by simp) _
  have h := GbH.new ((w.alloc (.cells #[u] t)).alloc (.cells #[v] t)) t
  obtain ⟨g1, g2, g3⟩ := h
  refine ⟨by simpa using g1, by simpa using g2, hb.trans (g3.mono hb.size)⟩
theorem box_grew {w w' : World} {g : Nat} {v : Value} {row : Option Nat} (h : BoxS w g v) (hg : w.grownBy w' row) (hne : row ≠ some g) : BoxS w' g v := by
  have e := hg.block g h.2 (fun q => hne q.symm)
  exact ⟨(World.cell?_of_block (a := ⟨g, 0, none⟩) e).trans h.1, Nat.lt_of_lt_of_le h.2 hg.size⟩
theorem box_set {w : World} {g g' : Nat} {v u : Value} (h : BoxS w g v) (hne : g ≠ g') : BoxS (w.setCell ⟨g', 0, none⟩ u) g v :=
  ⟨by rw [World.cell?_setCell_other _ _ _ _ (addr_ne' (fun e => hne e.symm))]; exact h.1, by simpa using h.2⟩
set_option maxRecDepth 100000 in
set_option maxHeartbeats 4000000 in
theorem l8Meet_any (a : Option Addr) (n cap : Nat) (X : Nat → Int) (a' : Option Addr) (p cap' : Nat) (Y : Nat → Int) (w : World) (hn : n ≤ 1048576) (hp : p ≤ 1048576) (hs : Sl w a n 1 (intF X)) (hs' : Sl w a' p 1 (intF Y)) :
    Calls Try.prog 67 #[.agg #[.slice a n cap], .agg #[.slice a' p cap']] w (GrPost (mtTo X Y p n) w) := by
  have HS : Hid (Sl w a n 1 (intF X) ∧ Sl w a' p 1 (intF Y)) := ⟨hs, hs'⟩
  clear hs hs'
  obtain ⟨i0, hi0, hz0, hz1, hz2⟩ := info_parts info_int
  have HG : Hid (GbH ((((w.alloc (.cells #[.slice a n cap] 25)).alloc (.cells #[.slice a' p cap'] 25)).alloc (.cells #[.slice none 0 0] 25)).alloc (.cells #[.slice none 0 0] 25)) w (w.heap.size + 1 + 1 + 1 + 1) (w.heap.size + 1 + 1) (w.heap.size + 1 + 1 + 1) []) := GbH.new4 w _ _ _
  have HD : Hid (BoxS ((((w.alloc (.cells #[.slice a n cap] 25)).alloc (.cells #[.slice a' p cap'] 25)).alloc (.cells #[.slice none 0 0] 25)).alloc (.cells #[.slice none 0 0] 25)) (w.heap.size + 1) (.slice a' p cap')) := Hid.intro (by
    have := ((BoxS.new (w.alloc (.cells #[.slice a n cap] 25)) (.slice a' p cap') 25).next (Go.Joins.below_alloc1 _ (.cells #[.slice none 0 0] 25))).next (Go.Joins.below_alloc1 _ (.cells #[.slice none 0 0] 25))
    simpa using this)
  go_enter Try.func67, Try.ntmps67
  go_wp2
  obtain ⟨d, hd⟩ : ∃ d, d = w.heap.size + 1 := ⟨_, rfl⟩
  obtain ⟨r, hr⟩ : ∃ r, r = w.heap.size + 1 + 1 := ⟨_, rfl⟩
  obtain ⟨b, hb⟩ : ∃ b, b = w.heap.size + 1 + 1 + 1 := ⟨_, rfl⟩
  obtain ⟨B, hB⟩ : ∃ B, B = w.heap.size + 1 + 1 + 1 + 1 := ⟨_, rfl⟩
  have h1 : r < B := by omega
  have h2 : b < B := by omega
  have h3 : r ≠ b := by omega
  have h4 : w.heap.size ≤ b := by omega
  have h5 : w.heap.size ≤ r := by omega
  have h6 : b + 1 = B := by omega
  have h7 : d < r := by omega
  have h8 : w.heap.size ≤ d := by omega
  rw [← hB, ← hb, ← hr] at HG
  rw [← hd] at HD
  rw [← hb, ← hr, ← hd]
  clear hr hb hB hd
  go_loopw [11] (fun x wr => ∃ k : Nat, k ≤ n ∧ x = .int .i64 k ∧ BoxS wr d (.slice a' p cap') ∧ GbH wr w B r b (mtTo X Y p k)) (fun x _ => n - (intOf x).toNat)
  case atStart => exact ⟨0, by omega, rfl, HD.out, HG.out⟩
  case round =>
    obtain ⟨k, hk, rfl, hdd, hH⟩ := hrel
    have HH : Hid (GbH wr w B r b (mtTo X Y p k)) := hH
    have HD2 : Hid (BoxS wr d (.slice a' p cap')) := hdd
    clear hH HG HD hdd
    by_cases hlt : k < n
    · have hlt' : (k : Int) < (n : Int) := by omega
      have HS2 : Hid (Sl wr a n 1 (intF X) ∧ Sl wr a' p 1 (intF Y)) := ⟨HS.out.1.kept HH.out.2.2, HS.out.2.kept HH.out.2.2⟩
      rcases HS2.out.1 with h | ⟨bx, off, rfl, hbs, hE⟩
      · omega
      have hc := int_cell hE hlt
      have d0 := HD2.out.1
      have dz := HD2.out.2
      clear hE
      cases hbit : hasN Y (X k) p
      · have HN : Hid (mtTo X Y p (k + 1) = mtTo X Y p k) := mtTo_no hbit
        go_wp2_with (go_at_call 85; refine (l1Has_any _ _ _ Y _ _ (by omega) HS2.out.2).mono ?_; rintro e w' ⟨rfl, rfl⟩; rw [hbit])
        go_roundw
        case rel => exact ⟨k + 1, by omega, by go_num, HD2.out, by rw [HN.out]; exact HH.out⟩
        case measure => simp [intOf]; omega
      · have HN : Hid (mtTo X Y p (k + 1) = mtTo X Y p k ++ [X k]) := mtTo_yes hbit
        have hl := mtTo_len X Y p k
        obtain ⟨g1, ⟨v, g2, g3⟩, g4⟩ := HH.out
        have HX : Hid (Bx wr r [.slice none 0 0] ∧ Bx wr b [v] ∧ wr.ownsRow B 3 1 v (mtTo X Y p k).length (intC (mtTo X Y p k)) ∧ Below w.heap.size w wr) := ⟨g1, g2, g3, g4⟩
        have c0 := g2.cell 0 rfl
        have f0 := g2.frz 0 (by simp)
        have z0 := g2.2
        have hBw : B ≤ wr.heap.size + 1 := by omega
        clear g1 g2 g3 g4 HH
        generalize mtTo X Y p k = L at *
        go_wp2_with (first
          | (go_at_call 85; refine (l1Has_any _ _ _ Y _ _ (by omega) HS2.out.2).mono ?_; rintro e w' ⟨rfl, rfl⟩; rw [hbit])
          | (at_builtin; refine wpList_append_own_at _ rfl (.tmp 20) (.tmp 22) 23 rfl B 3 i0 (.int .i64 0) 1 8 Try.underlying23 hi0 hz0 hz1 hz2 rfl (by decide) v L.length (intC L) rfl (World.ownsRow.alloc HX.out.2.2.1 _) ⟨_, 0, none⟩ 1 1 [.int .i64 (X k)] rfl rfl (one_cell _ _ _) (by intro u hu; simp at hu; subst hu; rfl) (by unfold maxLen; omega) (by omega) (by simp <;> omega) ?_; intro v4 w4 hown hgrow hnil hwh; (have HF : Hid (GbH (w4.setCell ⟨b, 0, none⟩ v4) w B r b (L ++ [(X k)])) := GbH.app (HX.out.1.alloc _) (HX.out.2.1.alloc _) (World.ownsRow.alloc HX.out.2.2.1 _) (HX.out.2.2.2.alloc HX.out.2.2.2.size _) h1 h2 h3 h4 hgrow hown); (have c4 : w4.cell? ⟨b, 0, none⟩ = some v := ((HX.out.2.1.alloc _).grew hgrow (fun e => by have := (HX.out.2.2.1.lt b e).1; omega)).cell 0 rfl); (have f4 : w4.frozen? ⟨b, 0, none⟩ = false := ((HX.out.2.1.alloc _).grew hgrow (fun e => by have := (HX.out.2.2.1.lt b e).1; omega)).frz 0 (by simp)); (have z4 : b < w4.heap.size := ((HX.out.2.1.alloc _).grew hgrow (fun e => by have := (HX.out.2.2.1.lt b e).1; omega)).2); obtain ⟨a4, cap4, hv4, _⟩ := intC_row (L := L ++ [(X k)]) (by simpa [intC] using hown); (have HD4 : Hid (BoxS w4 d (.slice a' p cap')) := box_grew (HD2.out.next (Go.Joins.below_alloc1 _ _)) hgrow (fun e => by have := (HX.out.2.2.1.lt d e).1; omega)); clear hown hgrow hnil hwh HX HS2 d0 dz; subst hv4))
        have HD5 : Hid (BoxS (w4.setCell ⟨b, 0, none⟩ (.slice a4 (L ++ [X k]).length cap4)) d (.slice a' p cap')) := box_set HD4.out (by omega)
        go_wp2
        go_roundw
        case rel => exact ⟨k + 1, by omega, by go_num, by have q := HD5.out; rw [List.length_append] at q; exact q, by rw [HN.out]; have q := HF.out; rw [List.length_append] at q; exact q⟩
        case measure => simp [intOf]; omega
    · have hkn : k = n := by omega
      subst hkn
      obtain ⟨a5, cap5, hv⟩ := HH.out.form
      have c0 := hv.cell 0 rfl
      have z0 := hv.2
      have r0 := HH.out.1.cell 0 rfl
      have rf0 := HH.out.1.frz 0 (by simp)
      have rz0 := HH.out.1.2
      have HP : Hid (GrPost (mtTo X Y p k) w (.returned (.agg #[.slice a5 (mtTo X Y p k).length cap5])) (wr.setCell ⟨r, 0, none⟩ (.slice a5 (mtTo X Y p k).length cap5))) := HH.out.post hv h5 h1
      clear hv HH
      generalize mtTo X Y p k = L at *
      go_wp2
      exact bodyPost_ret (v := .agg #[.slice a5 L.length cap5]) (by simp [results, Try.results67, go_sem, *]) rfl HP.out
end Go.Proofs.Ytalnmollgielcaa
