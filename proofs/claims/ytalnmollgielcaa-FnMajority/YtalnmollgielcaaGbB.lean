/- A list of numbers that is being built in a variable of a struct's type, beside the answer's own cell. -/
import Derived.Test.YtalnmollgielcaaGrI
import Derived.Test.YtalnmollgielcaaRg2
import Derived.Maps.AppendAt
namespace Go.Proofs.Ytalnmollgielcaa
open Go.RowKit
set_option linter.unusedVariables false

def intC (L : List Int) : List Value := L.map (Value.int .i64)
def atZ (L : List Int) (i : Nat) : Int := L.getD i 0
theorem atZ_lt {L : List Int} {i : Nat} (h : i < L.length) : atZ L i = L[i] := by simp [atZ, List.getD_eq_getElem?_getD, List.getElem?_eq_getElem h]
theorem own_set {w : World} {base : Nat} {e : TypeId} {size : Nat} {v : Value} {n g q : Nat} {xs : List Value} {u : Value} (h : w.ownsRow base e size v n xs) (hg : ∀ b, v.ownBlock = some b → b ≠ g) : (w.setCell ⟨g, q, none⟩ u).ownsRow base e size v n xs := by
  refine ⟨h.1, ?_⟩
  rcases h.2 with h | ⟨b, cap, cur, hv, hb, hh, r⟩
  · exact Or.inl h
  · exact Or.inr ⟨b, cap, cur, hv, hb, by rw [Below.heap_setCell _ _ _ _ (hg b (by rw [hv]; rfl))]; exact hh, r⟩
theorem own_next {w w' : World} {base : Nat} {e : TypeId} {size : Nat} {v : Value} {n : Nat} {xs : List Value} (h : w.ownsRow base e size v n xs) (hb : Below w.heap.size w w') : w'.ownsRow base e size v n xs := by
  obtain ⟨h1, h2⟩ := h
  refine ⟨h1, ?_⟩
  rcases h2 with h2 | ⟨g, cap, cur, hv, hgb, hh, r⟩
  · exact Or.inl h2
  · have hlt : g < w.heap.size := by
      rcases Nat.lt_or_ge g w.heap.size with q | q
      · exact q
      · rw [Array.getElem?_eq_none q] at hh; cases hh
    exact Or.inr ⟨g, cap, cur, hv, hgb, by rw [hb.block g hlt]; exact hh, r⟩
theorem Bx.grew {w w' : World} {g : Nat} {vs : List Value} {row : Option Nat} (h : Bx w g vs) (hg : w.grownBy w' row) (hne : row ≠ some g) : Bx w' g vs := by
  have e := hg.block g h.2 (fun q => hne q.symm)
  exact ⟨fun j hj => ⟨(World.cell?_of_block (a := ⟨g, j, none⟩) e).trans (h.1 j hj).1, (World.frozen?_of_block (a := ⟨g, j, none⟩) e).trans (h.1 j hj).2⟩, Nat.lt_of_lt_of_le h.2 hg.size⟩
/-- A row of numbers, read. -/
theorem intC_row {w : World} {base : Nat} {v : Value} {L : List Int} (h : w.ownsRow base 3 1 v L.length (intC L)) : ∃ a cap, v = .slice a L.length cap ∧ IntS w base w.heap.size a L.length (atZ L) := by
  rcases Nat.eq_zero_or_pos L.length with hz | hp
  · obtain ⟨_, h | ⟨g, cap, cur, rfl, _⟩⟩ := h
    · exact ⟨none, 0, by rw [h.1, hz], Or.inl hz⟩
    · exact ⟨_, cap, rfl, Or.inl hz⟩
  · obtain ⟨g, cap, rfl⟩ := Go.Joins.ownsRow_form h hp
    refine ⟨_, cap, rfl, Or.inr ⟨g, rfl, (h.lt g rfl).1, (h.lt g rfl).2, (h.lt g rfl).2, fun i hi => ⟨?_, h.frozenAt i⟩⟩⟩
    rw [h.cellAt i (by omega)]
    simp [intC, hi, atZ_lt hi]

/-- Block r is the answer's, block b holds a list, of which the rows lie at B and above. -/
def GbH (W w : World) (B r b : Nat) (L : List Int) : Prop := Bx W r [.slice none 0 0] ∧ (∃ v, Bx W b [v] ∧ W.ownsRow B 3 1 v L.length (intC L)) ∧ Below w.heap.size w W
theorem GbH.next {W W' w : World} {B r b : Nat} {L : List Int} (h : GbH W w B r b L) (hb : Below W.heap.size W W') : GbH W' w B r b L := by
  obtain ⟨h1, ⟨v, h2, h3⟩, h4⟩ := h
  exact ⟨h1.next hb, ⟨v, h2.next hb, own_next h3 hb⟩, h4.trans (hb.mono h4.size)⟩
theorem GbH.new (w : World) (t : TypeId) : GbH ((w.alloc (.cells #[.slice none 0 0] t)).alloc (.cells #[.slice none 0 0] t)) w (w.heap.size + 2) w.heap.size (w.heap.size + 1) [] := by
  refine ⟨(Bx.new w [.slice none 0 0] t).next (Go.Joins.below_alloc1 _ _), ⟨.slice none 0 0, ?_, World.ownsRow_nil _ _ _ _⟩, ((Below.refl _ _).alloc (Nat.le_refl _) _).alloc (by simp) _⟩
  have := Bx.new (w.alloc (.cells #[.slice none 0 0] t)) [.slice none 0 0] t
  simpa using this
/-- One more behind the list. -/
theorem GbH.app {W W' w : World} {B r b : Nat} {L : List Int} {v v' : Value} {x : Int} (h1 : Bx W r [.slice none 0 0]) (h2 : Bx W b [v]) (h3 : W.ownsRow B 3 1 v L.length (intC L)) (h4 : Below w.heap.size w W)
    (hr : r < B) (hb : b < B) (hrb : r ≠ b) (hwb : w.heap.size ≤ b) (hg : W.grownBy W' v.ownBlock) (ho : W'.ownsRow B 3 1 v' (L.length + 1) (intC L ++ [.int .i64 x])) :
    GbH (W'.setCell ⟨b, 0, none⟩ v') w B r b (L ++ [x]) := by
  have hn : ∀ q, q < B → v.ownBlock ≠ some q := fun q hq e => by have := (h3.lt q e).1; omega
  refine ⟨(h1.grew hg (hn r hr)).other hrb, ⟨v', (h2.grew hg (hn b hb)).set (k := 0) (by simp) v', ?_⟩, (h4.grown hg h4.size (fun k hk => by have := (h3.lt k hk).1; omega)).setCell (p := ⟨b, 0, none⟩) hwb _⟩
  have : W'.ownsRow B 3 1 v' (L ++ [x]).length (intC (L ++ [x])) := by simpa [intC] using ho
  exact own_set this (fun q hq e => by have := (this.lt q hq).1; omega)
/-- A group as an answer. -/
def GrPost (L : List Int) (w : World) (r : Ending) (w' : World) : Prop := (∃ a cap, r = .returned (.agg #[.slice a L.length cap]) ∧ IntS w' w.heap.size w'.heap.size a L.length (atZ L)) ∧ Below w.heap.size w w'
theorem GbH.post {W w : World} {B r b : Nat} {L : List Int} {a : Option Addr} {cap : Nat} (h : GbH W w B r b L) (hv : Bx W b [.slice a L.length cap]) (hwr : w.heap.size ≤ r) (hr : r < B) : GrPost L w (.returned (.agg #[.slice a L.length cap])) (W.setCell ⟨r, 0, none⟩ (.slice a L.length cap)) := by
  obtain ⟨h1, ⟨v, h2, h3⟩, h4⟩ := h
  have e : v = .slice a L.length cap := by have q1 := h2.cell 0 rfl; have q2 := hv.cell 0 rfl; rw [q1] at q2; exact Option.some.inj q2
  subst e
  have h5 := own_set (g := r) (q := 0) (u := .slice a L.length cap) h3 (fun q hq e => by have := (h3.lt q hq).1; omega)
  obtain ⟨a', cap', e, hi⟩ := intC_row h5
  simp only [Value.slice.injEq, true_and] at e
  obtain ⟨rfl, rfl⟩ := e
  have hB : w.heap.size ≤ B := by omega
  exact ⟨⟨a, cap, rfl, hi.wide hB (Nat.le_refl _)⟩, h4.setCell (p := ⟨r, 0, none⟩) hwr _⟩
theorem GbH.form {W w : World} {B r b : Nat} {L : List Int} (h : GbH W w B r b L) : ∃ a cap, Bx W b [.slice a L.length cap] := by
  obtain ⟨h1, ⟨v, h2, h3⟩, h4⟩ := h
  obtain ⟨a, cap, rfl, _⟩ := intC_row h3
  exact ⟨a, cap, h2⟩
theorem one_cell (w : World) (v : Value) (e : TypeId) : ∀ j u, [v][j]? = some u → (w.alloc (.cells #[v] e)).cell? ((⟨w.heap.size, 0, none⟩ : Addr).add j) = some u := by
  intro j u h
  match j, h with
  | 0, h =>
    simp at h; subst h
    have : ((⟨w.heap.size, 0, none⟩ : Addr).add 0) = ⟨w.heap.size, 0, none⟩ := by unfold Addr.add; split <;> simp_all
    rw [this]; simp
  | j + 1, h => simp at h

def bitsZ (s k : Nat) : List Int := (bitsTo s k).map Int.ofNat
theorem bitsZ_no {s k : Nat} (h : s.testBit k = false) : bitsZ s (k + 1) = bitsZ s k := by simp [bitsZ, bitsTo, h]
theorem bitsZ_yes {s k : Nat} (h : s.testBit k = true) : bitsZ s (k + 1) = bitsZ s k ++ [(k : Int)] := by simp [bitsZ, bitsTo, h]
theorem bitsZ_len (s k : Nat) : (bitsZ s k).length ≤ k := by simp [bitsZ]; exact bitsTo_len s k

set_option maxRecDepth 100000 in
set_option maxHeartbeats 4000000 in
theorem groupWhere_any (s : Nat) (w : World) (hs : s < 65536) :
    Calls Try.prog 59 #[.func (.func 58) #[.int .u16 s] #[]] w (GrPost (bitsZ s 12) w) := by
  obtain ⟨i0, hi0, hz0, hz1, hz2⟩ := info_parts info_int
  have HG : Hid (GbH ((w.alloc (.cells #[.slice none 0 0] 25)).alloc (.cells #[.slice none 0 0] 25)) w (w.heap.size + 2) w.heap.size (w.heap.size + 1) []) := GbH.new w _
  go_enter Try.func59, Try.ntmps59
  go_wp2
  obtain ⟨r, hr⟩ : ∃ r, r = w.heap.size := ⟨_, rfl⟩
  obtain ⟨b, hb⟩ : ∃ b, b = w.heap.size + 1 := ⟨_, rfl⟩
  obtain ⟨B, hB⟩ : ∃ B, B = w.heap.size + 2 := ⟨_, rfl⟩
  have h1 : r < B := by omega
  have h2 : b < B := by omega
  have h3 : r ≠ b := by omega
  have h4 : w.heap.size ≤ b := by omega
  have h5 : w.heap.size ≤ r := by omega
  have h6 : b + 1 = B := by omega
  rw [← hB, ← hb, ← hr] at HG
  rw [← hb, ← hr]
  clear hr hb hB
  go_loopw [5] (fun x wr => ∃ k : Nat, k ≤ 12 ∧ x = .int .i64 k ∧ GbH wr w B r b (bitsZ s k)) (fun x _ => 12 - (intOf x).toNat)
  case atStart => exact ⟨0, by omega, rfl, HG.out⟩
  case round =>
    obtain ⟨k, hk, rfl, hH⟩ := hrel
    have HH : Hid (GbH wr w B r b (bitsZ s k)) := hH
    clear hH HG
    by_cases hlt : k < 12
    · have hlt' : (k : Int) < 12 := by omega
      have hk16 : k < 16 := by omega
      cases hbit : s.testBit k
      · have HN : Hid (bitsZ s (k + 1) = bitsZ s k) := bitsZ_no hbit
        go_wp2_with (go_at_call 58; refine (has_any _ _ _ hs hk16).mono ?_; rintro e w' ⟨rfl, rfl⟩; rw [hbit])
        go_roundw
        case rel => exact ⟨k + 1, by omega, by go_num, by rw [HN.out]; exact HH.out⟩
        case measure => simp [intOf]; omega
      · have HN : Hid (bitsZ s (k + 1) = bitsZ s k ++ [(k : Int)]) := bitsZ_yes hbit
        have hl := bitsZ_len s k
        obtain ⟨g1, ⟨v, g2, g3⟩, g4⟩ := HH.out
        have HX : Hid (Bx wr r [.slice none 0 0] ∧ Bx wr b [v] ∧ wr.ownsRow B 3 1 v (bitsZ s k).length (intC (bitsZ s k)) ∧ Below w.heap.size w wr) := ⟨g1, g2, g3, g4⟩
        have c0 := g2.cell 0 rfl
        have f0 := g2.frz 0 (by simp)
        have z0 := g2.2
        have hBw : B ≤ wr.heap.size + 1 := by omega
        clear g1 g2 g3 g4 HH
        generalize bitsZ s k = L at *
        go_wp2_with (first
          | (go_at_call 58; refine (has_any _ _ _ hs hk16).mono ?_; rintro e w' ⟨rfl, rfl⟩; rw [hbit])
          | (at_builtin; refine wpList_append_own_at _ rfl (.tmp 12) (.tmp 14) 23 rfl B 3 i0 (.int .i64 0) 1 8 Try.underlying23 hi0 hz0 hz1 hz2 rfl (by decide) v L.length (intC L) rfl (World.ownsRow.alloc HX.out.2.2.1 _) ⟨_, 0, none⟩ 1 1 [.int .i64 (k : Int)] rfl rfl (one_cell _ _ _) (by intro u hu; simp at hu; subst hu; rfl) (by unfold maxLen; omega) (by omega) (by simp <;> omega) ?_; intro v4 w4 hown hgrow hnil hwh; (have HF : Hid (GbH (w4.setCell ⟨b, 0, none⟩ v4) w B r b (L ++ [(k : Int)])) := GbH.app (HX.out.1.alloc _) (HX.out.2.1.alloc _) (World.ownsRow.alloc HX.out.2.2.1 _) (HX.out.2.2.2.alloc HX.out.2.2.2.size _) h1 h2 h3 h4 hgrow hown); (have c4 : w4.cell? ⟨b, 0, none⟩ = some v := ((HX.out.2.1.alloc _).grew hgrow (fun e => by have := (HX.out.2.2.1.lt b e).1; omega)).cell 0 rfl); (have f4 : w4.frozen? ⟨b, 0, none⟩ = false := ((HX.out.2.1.alloc _).grew hgrow (fun e => by have := (HX.out.2.2.1.lt b e).1; omega)).frz 0 (by simp)); (have z4 : b < w4.heap.size := ((HX.out.2.1.alloc _).grew hgrow (fun e => by have := (HX.out.2.2.1.lt b e).1; omega)).2); obtain ⟨a4, cap4, hv4, _⟩ := intC_row (L := L ++ [(k : Int)]) (by simpa [intC] using hown); clear hown hgrow hnil hwh HX; subst hv4))
        go_wp2
        go_roundw
        case rel => exact ⟨k + 1, by omega, by go_num, by rw [HN.out]; have q := HF.out; rw [List.length_append] at q; exact q⟩
        case measure => simp [intOf]; omega
    · have hkn : k = 12 := by omega
      subst hkn
      obtain ⟨a5, cap5, hv⟩ := HH.out.form
      have c0 := hv.cell 0 rfl
      have z0 := hv.2
      have r0 := HH.out.1.cell 0 rfl
      have rf0 := HH.out.1.frz 0 (by simp)
      have rz0 := HH.out.1.2
      have HP : Hid (GrPost (bitsZ s 12) w (.returned (.agg #[.slice a5 (bitsZ s 12).length cap5])) (wr.setCell ⟨r, 0, none⟩ (.slice a5 (bitsZ s 12).length cap5))) := HH.out.post hv h5 h1
      clear hv HH
      generalize bitsZ s 12 = L at *
      go_wp2
      exact bodyPost_ret (v := .agg #[.slice a5 L.length cap5]) (by simp [results, Try.results59, go_sem, *]) rfl HP.out
end Go.Proofs.Ytalnmollgielcaa
