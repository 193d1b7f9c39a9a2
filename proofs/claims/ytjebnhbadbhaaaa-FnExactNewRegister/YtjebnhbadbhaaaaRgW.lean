/- Registers: NewRegister, on both sides. -/
import Derived.Test.YtjebnhbadbhaaaaRgA
import Derived.Test.YtjebnhbadbhaaaaShA
import Derived.Test.YtjebnhbadbhaaaaNtT
import Derived.Test.YtjebnhbadbhaaaaShM
import Derived.Test.YtjebnhbadbhaaaaRgC
namespace Go.Proofs.Ytjebnhbadbhaaaa
open Go.RowKit
set_option linter.unusedVariables false
set_option linter.unusedSimpArgs false

/-- A struct and a bool are answered; the struct's lists are new. -/
def AnsP (s : Sh) (x : s.T) (ok : Bool) (w : World) (r : Ending) (w' : World) : Prop := ∃ cs : List Value, r = .returned (.tuple #[.agg cs.toArray, .bool ok]) ∧ Own w' s cs x (Btw w.heap.size w'.heap.size) ∧ Below w.heap.size w w'
def z0C : Sh.T shCopy := (0, 0, ⟨#[]⟩, ())
def newR (m : Int) : List (Sh.T shCopy) := if inR m 1 12 then List.replicate m.toNat z0C else []
theorem newR_len (m : Int) : (newR m).length ≤ 12 := by
  unfold newR
  cases h : inR m 1 12
  · simp
  · have := inR_iff.1 h
    simp
    omega
theorem made_take (z : Array Value) (n i : Nat) (h0 : 0 < z.size) (hi : i < n) : (((madeCells z (n * z.size)).toList.drop (i * z.size)).take z.size) = z.toList := by
  have hm := mul_step (c := z.size) hi
  apply List.ext_getElem?
  intro j
  by_cases hj : j < z.size
  · rw [cells_of_take hj]
    have hlt : i * z.size + j < n * z.size := by omega
    have e1 : (i * z.size + j) % z.size = j := by rw [Nat.mul_comm, Nat.mul_add_mod]; exact Nat.mod_eq_of_lt hj
    simp only [madeCells, Array.toList_map, Array.toList_range, List.getElem?_map, List.getElem?_range hlt, Option.map_some, e1]
    simp [hj]
  · rw [List.getElem?_eq_none (by rw [List.length_take]; omega), List.getElem?_eq_none (by simp; omega)]
theorem made_copies {w : World} {lo n : Nat} {v : Value} (h : w.ownsRow lo 48 3 v n (madeCells (Value.agg #[.int .i64 0, .int .i64 0, .string ⟨#[]⟩]).cells (n * 3)).toList) : AppB w lo 48 shCopy v (List.replicate n z0C) := by
  refine ⟨_, fun _ _ => False, by rw [List.length_replicate]; exact h, fun i hi => ?_, fun i hi b q => q.elim, fun i j _ _ b q => q.elim⟩
  rw [List.length_replicate] at hi
  have e := made_take #[.int .i64 0, .int .i64 0, .string ⟨#[]⟩] n i (by decide) hi
  have e2 : (((madeCells (Value.agg #[.int .i64 0, .int .i64 0, .string ⟨#[]⟩]).cells (n * 3)).toList.drop (i * shCopy.c)).take shCopy.c) = [.int .i64 0, .int .i64 0, .string ⟨#[]⟩] := e
  rw [e2, List.getElem_replicate]
  exact mkown_Copy (x0 := 0) (x1 := 0) (x2 := ⟨#[]⟩)

set_option maxRecDepth 100000 in
set_option maxHeartbeats 1000000 in
theorem newRegister_n (m : Int) (w : World) : Calls Try.prog 24 #[.int .i64 m] w (AnsP shRegister (0, newR m, [], ()) (inR m 1 12) w) := by
  cases h : inR m 1 12
  · have HN : Hid (newR m = []) := Hid.intro (by unfold newR; rw [h]; rfl)
    go_enter Try.func24, Try.ntmps24
    go_wp2_with (first | (go_at_call 54; refine (inRange_any _ _ _ _).mono ?_; rintro e w' ⟨rfl, rfl⟩))
    rw [HN.out]
    exact bodyPost_ret (v := .tuple #[.agg #[.int .i64 0, .slice none 0 0, .slice none 0 0], .bool false]) (by simp [results, Try.results24, go_sem]) rfl ⟨[.int .i64 0, .slice none 0 0, .slice none 0 0], rfl, mkown_Register (Own.none (S := fun _ => False) (Nat.zero_le _)) (Own.none (S := fun _ => False) (Nat.zero_le _)) (fun k e => e.elim) (fun k e => e.elim) (fun k e => e.elim), (by repeat (first | refine Below.setCell ?_ (by (try simp) <;> omega) _ | refine Below.alloc ?_ (by (try simp) <;> omega) _ | refine Below.drew ?_ | assumption | exact Below.refl _ _ | refine Below.trans ?_ (Below.mono (by assumption) (by (try simp) <;> omega))))⟩
  · have hb := inR_iff.1 h
    have HN : Hid (newR m = List.replicate m.toNat z0C) := Hid.intro (by unfold newR; rw [h]; rfl)
    obtain ⟨n, rfl⟩ : ∃ n : Nat, m = (n : Int) := ⟨m.toNat, by omega⟩
    rw [Int.toNat_natCast] at HN
    obtain ⟨i0, hi, hz0, hz1, hz2⟩ := info_parts inf_Copy
    go_enter Try.func24, Try.ntmps24
    go_wp2_with (first | (go_at_call 54; refine (inRange_any _ _ _ _).mono ?_; rintro e w' ⟨rfl, rfl⟩) | (at_make; refine wpList_make_full _ rfl (.tmp 8) (.tmp 8) 26 rfl (w.heap.size + 1) 48 i0 (.agg #[.int .i64 0, .int .i64 0, .string ⟨#[]⟩]) 3 Try.underlying26 hi hz0 hz1 .i64 .i64 _ _ n rfl rfl rfl rfl (by rw [hz2]; omega) (by unfold maxLen; omega) (by simp) ?_; intro w1 hown hgrow; have hBx : Bx w1 w.heap.size [.int .i64 0, .slice none 0 0, .slice none 0 0] := (Bx.new w [_, _, _] _).grow hgrow (fun q => by cases q); have c0 := hBx.cell 0 rfl; have c1 := hBx.cell 1 rfl; have c2 := hBx.cell 2 rfl; have cz := hBx.2; have f0 := hBx.frz 0 (by simp); have f1 := hBx.frz 1 (by simp); have f2 := hBx.frz 2 (by simp)))
    obtain ⟨a, cap, e1, _, hO⟩ := (made_copies hown).own
    rw [List.length_replicate] at e1
    have hl : (List.replicate n z0C).length = n := List.length_replicate
    simp only [Value.slice.injEq] at e1
    obtain ⟨rfl, _, rfl⟩ := e1
    rw [hl] at hO
    rw [World.size_alloc] at hO
    have hB1 : Below w.heap.size w w1 := ((Below.refl _ _).alloc (Nat.le_refl _) _).grown hgrow (by simp) (fun k hk => by cases hk)
    have hn1 : ¬ Btw (w.heap.size + 1) w1.heap.size w.heap.size := by simp only [Btw]; omega
    have hO2 := ((hO.set (p := ⟨w.heap.size, 0, none⟩) hn1 (.int .i64 0)).set (p := ⟨w.heap.size, 1, none⟩) hn1 (.slice (some ⟨w.heap.size + 1, 0, none⟩) n n)).set (p := ⟨w.heap.size, 2, none⟩) hn1 (.slice none 0 0)
    refine bodyPost_ret (v := .tuple #[.agg #[.int .i64 0, .slice (some ⟨w.heap.size + 1, 0, none⟩) n n, .slice none 0 0], .bool true]) (by simp [results, Try.results24, go_sem, c0, c1, c2, f0, f1, f2, cz]) rfl ⟨[.int .i64 0, .slice (some ⟨w.heap.size + 1, 0, none⟩) n n, .slice none 0 0], rfl, ?_, ((hB1.setCell (p := ⟨w.heap.size, 0, none⟩) (Nat.le_refl _) _).setCell (p := ⟨w.heap.size, 1, none⟩) (Nat.le_refl _) _).setCell (p := ⟨w.heap.size, 2, none⟩) (Nat.le_refl _) _⟩
    rw [HN.out]
    exact mkown_Register hO2 (Own.none (S := fun _ => False) (Nat.zero_le _)) (fun k e => by simp only [Btw] at e ⊢; simp; omega) (fun k e => e.elim) (fun k _ e => e.elim)

set_option maxRecDepth 100000 in
set_option maxHeartbeats 1000000 in
theorem specNewRegister_n (m : Int) (w : World) : Calls Try.prog 23 #[.int .i64 m] w (AnsP shRegister (0, newR m, [], ()) (inR m 1 12) w) := by
  cases h : inR m 1 12
  · have HN : Hid (newR m = []) := Hid.intro (by unfold newR; rw [h]; rfl)
    go_enter Try.func23, Try.ntmps23
    go_wp2_with (first | (go_at_call 62; refine (l8Nodes_any _ _).mono ?_; rintro e w' ⟨rfl, rfl⟩))
    rw [HN.out]
    exact bodyPost_ret (v := .tuple #[.agg #[.int .i64 0, .slice none 0 0, .slice none 0 0], .bool false]) (by simp [results, Try.results23, go_sem]) rfl ⟨[.int .i64 0, .slice none 0 0, .slice none 0 0], rfl, mkown_Register (Own.none (S := fun _ => False) (Nat.zero_le _)) (Own.none (S := fun _ => False) (Nat.zero_le _)) (fun k e => e.elim) (fun k e => e.elim) (fun k e => e.elim), (by repeat (first | refine Below.setCell ?_ (by (try simp) <;> omega) _ | refine Below.alloc ?_ (by (try simp) <;> omega) _ | refine Below.drew ?_ | assumption | exact Below.refl _ _ | refine Below.trans ?_ (Below.mono (by assumption) (by (try simp) <;> omega))))⟩
  · have hb := inR_iff.1 h
    have HN : Hid (newR m = List.replicate m.toNat z0C) := Hid.intro (by unfold newR; rw [h]; rfl)
    obtain ⟨n, rfl⟩ : ∃ n : Nat, m = (n : Int) := ⟨m.toNat, by omega⟩
    rw [Int.toNat_natCast] at HN
    obtain ⟨i0, hi, hz0, hz1, hz2⟩ := info_parts inf_Copy
    go_enter Try.func23, Try.ntmps23
    go_wp2_with (first | (go_at_call 62; refine (l8Nodes_any _ _).mono ?_; rintro e w' ⟨rfl, rfl⟩) | (at_make; refine wpList_make_full _ rfl (.tmp 8) (.tmp 8) 26 rfl (w.heap.size + 1) 48 i0 (.agg #[.int .i64 0, .int .i64 0, .string ⟨#[]⟩]) 3 Try.underlying26 hi hz0 hz1 .i64 .i64 _ _ n rfl rfl rfl rfl (by rw [hz2]; omega) (by unfold maxLen; omega) (by simp) ?_; intro w1 hown hgrow; have hBx : Bx w1 w.heap.size [.int .i64 0, .slice none 0 0, .slice none 0 0] := (Bx.new w [_, _, _] _).grow hgrow (fun q => by cases q); have c0 := hBx.cell 0 rfl; have c1 := hBx.cell 1 rfl; have c2 := hBx.cell 2 rfl; have cz := hBx.2; have f0 := hBx.frz 0 (by simp); have f1 := hBx.frz 1 (by simp); have f2 := hBx.frz 2 (by simp)))
    obtain ⟨a, cap, e1, _, hO⟩ := (made_copies hown).own
    rw [List.length_replicate] at e1
    have hl : (List.replicate n z0C).length = n := List.length_replicate
    simp only [Value.slice.injEq] at e1
    obtain ⟨rfl, _, rfl⟩ := e1
    rw [hl] at hO
    rw [World.size_alloc] at hO
    have hB1 : Below w.heap.size w w1 := ((Below.refl _ _).alloc (Nat.le_refl _) _).grown hgrow (by simp) (fun k hk => by cases hk)
    have hn1 : ¬ Btw (w.heap.size + 1) w1.heap.size w.heap.size := by simp only [Btw]; omega
    have hO2 := ((hO.set (p := ⟨w.heap.size, 0, none⟩) hn1 (.int .i64 0)).set (p := ⟨w.heap.size, 1, none⟩) hn1 (.slice (some ⟨w.heap.size + 1, 0, none⟩) n n)).set (p := ⟨w.heap.size, 2, none⟩) hn1 (.slice none 0 0)
    refine bodyPost_ret (v := .tuple #[.agg #[.int .i64 0, .slice (some ⟨w.heap.size + 1, 0, none⟩) n n, .slice none 0 0], .bool true]) (by simp [results, Try.results23, go_sem, c0, c1, c2, f0, f1, f2, cz]) rfl ⟨[.int .i64 0, .slice (some ⟨w.heap.size + 1, 0, none⟩) n n, .slice none 0 0], rfl, ?_, ((hB1.setCell (p := ⟨w.heap.size, 0, none⟩) (Nat.le_refl _) _).setCell (p := ⟨w.heap.size, 1, none⟩) (Nat.le_refl _) _).setCell (p := ⟨w.heap.size, 2, none⟩) (Nat.le_refl _) _⟩
    rw [HN.out]
    exact mkown_Register hO2 (Own.none (S := fun _ => False) (Nat.zero_le _)) (fun k e => by simp only [Btw] at e ⊢; simp; omega) (fun k e => e.elim) (fun k _ e => e.elim)

theorem cnt_copies : ∀ l : List (Sh.T shCopy), cntD (.list shCopy) l = 3 * l.length
  | [] => rfl
  | c :: t => by
    have h1 : cntD (.list shCopy) (c :: t) = cntD shCopy c + cntD (.list shCopy) t := rfl
    have h2 : cntD shCopy c = 3 := rfl
    rw [h1, h2, cnt_copies t, List.length_cons]
    omega
theorem cnt_newR (m : Int) : cntT shRegister (0, newR m, [], ()) ≤ 36 := by
  have h1 : cntT shRegister (0, newR m, [], ()) = cntT .int 0 + (cntD (.list shCopy) (newR m) + (cntD (.list shRegOp) [] + 0)) := rfl
  have h2 : cntT .int 0 = 0 := rfl
  have h3 : cntD (.list shRegOp) [] = 0 := rfl
  have := newR_len m
  rw [h1, h2, h3, cnt_copies]
  omega
theorem sz_newR (m : Int) : szD shRegister (0, newR m, [], ()) ≤ 1073741824 := by
  have h1 : szD shRegister (0, newR m, [], ()) = 0 + (szD (.list shCopy) (newR m) + (szD (.list shRegOp) [] + 0)) := rfl
  have h3 : szD (.list shRegOp) [] = 0 := rfl
  have h4 : szD (.list shCopy) (newR m) = (newR m).length := by
    have : ∀ n, ((List.replicate n z0C).map (szD shCopy)).sum = 0 := by
      intro n
      induction n with
      | zero => rfl
      | succ n ih => rw [List.replicate_succ, List.map_cons, List.sum_cons, ih]; rfl
    show (newR m).length + ((newR m).map (szD shCopy)).sum = _
    unfold newR
    cases inR m 1 12
    · rfl
    · simp only [if_true]
      rw [this]
      rfl
  have := newR_len m
  rw [h1, h3, h4]
  omega
end Go.Proofs.Ytjebnhbadbhaaaa
