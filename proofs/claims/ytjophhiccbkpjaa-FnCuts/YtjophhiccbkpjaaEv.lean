/- Lists of events: the contracts of the law's own functions szEventS, toEventS, eqEventS; how a list of events that came in is read. -/
import Derived.Test.YtjophhiccbkpjaaRowS
import Derived.Test.YtjophhiccbkpjaaOpenE
namespace Go.Proofs.Ytjophhiccbkpjaa
open Go.RowKit Go.Deep
set_option linter.unusedVariables false

set_option maxHeartbeats 400000 in
theorem toEvent_any (k p m : Int) (w : World) :
    Calls Try.prog 70 #[.agg #[.int .i64 k, .int .i64 p, .int .i64 m]] w fun r w' => r = .returned (.agg #[.int .i64 k, .int .i64 p, .int .i64 m]) ∧ Below w.heap.size w w' := by
  go_enter Try.func70, Try.ntmps70
  go_wp2
  exact bodyPost_ret (v := .agg #[.int .i64 k, .int .i64 p, .int .i64 m]) (by simp [results, Try.results70, go_sem]) rfl ⟨rfl, (by repeat (first | refine Below.setCell ?_ (by (try simp) <;> omega) _ | refine Below.alloc ?_ (by (try simp) <;> omega) _ | refine Below.drew ?_ | assumption | exact Below.refl _ _ | refine Below.trans ?_ (Below.mono (by assumption) (by (try simp) <;> omega))))⟩

set_option maxHeartbeats 400000 in
theorem eqEvent_same (k p m : Int) (w : World) :
    Calls Try.prog 72 #[.agg #[.int .i64 k, .int .i64 p, .int .i64 m], .agg #[.int .i64 k, .int .i64 p, .int .i64 m]] w fun r w' => r = .returned (.bool true) ∧ Below w.heap.size w w' := by
  go_enter Try.func72, Try.ntmps72
  go_wp2
  go_ret
  exact ⟨rfl, (by repeat (first | refine Below.setCell ?_ (by (try simp) <;> omega) _ | refine Below.alloc ?_ (by (try simp) <;> omega) _ | refine Below.drew ?_ | assumption | exact Below.refl _ _ | refine Below.trans ?_ (Below.mono (by assumption) (by (try simp) <;> omega))))⟩

def evF (K P M : Nat → Int) (i j : Nat) : Value := if j = 0 then .int .i64 (K i) else if j = 1 then .int .i64 (P i) else .int .i64 (M i)
theorem ev_cells {w : World} {b off n k : Nat} {K P M : Nat → Int} (h : Elems w b off n 3 (evF K P M)) (hk : k < n) :
    w.cell? ⟨b, off + k * 3, none⟩ = some (.int .i64 (K k)) ∧ w.cell? ⟨b, off + k * 3 + 1, none⟩ = some (.int .i64 (P k)) ∧ w.cell? ⟨b, off + k * 3 + 2, none⟩ = some (.int .i64 (M k)) :=
  ⟨h k hk 0 (by omega), h k hk 1 (by omega), h k hk 2 (by omega)⟩
theorem room3 {w : World} {g n k : Nat} (h : Room w g (n * 3)) (hk : k < n) :
    ∃ x y z, w.cell? ⟨g, k * 3, none⟩ = some x ∧ w.cell? ⟨g, k * 3 + 1, none⟩ = some y ∧ w.cell? ⟨g, k * 3 + 2, none⟩ = some z ∧
      w.frozen? ⟨g, k * 3, none⟩ = false ∧ w.frozen? ⟨g, k * 3 + 1, none⟩ = false ∧ w.frozen? ⟨g, k * 3 + 2, none⟩ = false := by
  obtain ⟨⟨x, hx⟩, fx⟩ := h (k * 3) (by omega)
  obtain ⟨⟨y, hy⟩, fy⟩ := h (k * 3 + 1) (by omega)
  obtain ⟨⟨z, hz⟩, fz⟩ := h (k * 3 + 2) (by omega)
  exact ⟨x, y, z, hx, hy, hz, fx, fy, fz⟩
/-- Block g holds n events in a row that may be written. -/
def EvR (w : World) (g n : Nat) (K P M : Nat → Int) : Prop := Elems w g 0 n 3 (evF K P M) ∧ Room w g (n * 3) ∧ g < w.heap.size
theorem EvR.sl {w : World} {g n : Nat} {K P M : Nat → Int} (h : EvR w g n K P M) : Sl w (some ⟨g, 0, none⟩) n 3 (evF K P M) := Or.inr ⟨g, 0, rfl, h.2.2, h.1⟩
theorem EvR.next {w w' : World} {g n : Nat} {K P M : Nat → Int} (h : EvR w g n K P M) (hb : Below w.heap.size w w') : EvR w' g n K P M := ⟨h.1.below hb h.2.2, h.2.1.below hb h.2.2, Nat.lt_of_lt_of_le h.2.2 hb.size⟩
theorem EvR.turn {w w' : World} {B C g n : Nat} {K P M : Nat → Int} (h : EvR w g n K P M) (ht : Turned B C w w') (ha : g < B ∨ C ≤ g) : EvR w' g n K P M := by
  have e := ht.2.2.2.2 g h.2.2 ha
  exact ⟨fun i hi j hj => (World.cell?_of_block (a := ⟨g, 0 + i * 3 + j, none⟩) e).trans (h.1 i hi j hj), fun q hq => ⟨by obtain ⟨v, hv⟩ := (h.2.1 q hq).1; exact ⟨v, (World.cell?_of_block (a := ⟨g, q, none⟩) e).trans hv⟩, (World.frozen?_of_block (a := ⟨g, q, none⟩) e).trans (h.2.1 q hq).2⟩, Nat.lt_of_lt_of_le h.2.2 ht.2.2.2.1⟩
theorem info_ev : (Try.prog.info? 49).map (fun i => (i.zero, i.size, i.bytes)) = some (some (.agg #[.int .i64 0, .int .i64 0, .int .i64 0]), 3, 24) := by kernel_rfl

set_option maxHeartbeats 400000 in
theorem szEventS_any (a : Option Addr) (n cap : Nat) (l : Int) (w : World) (hn : n ≤ maxLen) (h0 : 0 ≤ l) (h1 : l ≤ 1048576) :
    Calls Try.prog 33 #[.slice a n cap, .int .i64 l] w fun r w' => r = .returned (.int .i64 (if l < n then -1 else l - n)) ∧ w' = w := by
  unfold maxLen at hn
  by_cases h : l < n
  · have h' : l - (n : Int) < 0 := by omega
    go_enter Try.func33, Try.ntmps33
    go_wp2
    go_ret
    exact ⟨by simp, rfl⟩
  · have h' : ¬ l - (n : Int) < 0 := by omega
    go_enter Try.func33, Try.ntmps33
    go_wp2
    go_ret
    exact ⟨by simp, rfl⟩

set_option maxHeartbeats 400000 in
theorem toEventS_any (a : Option Addr) (n cap : Nat) (K P M : Nat → Int) (w : World) (hn : n ≤ 1048576) (hs : Sl w a n 3 (evF K P M)) :
    Calls Try.prog 35 #[.slice a n cap] w fun r w' => r = .returned (.slice (some ⟨w.heap.size, 0, none⟩) n n) ∧ EvR w' w.heap.size n K P M ∧ w.heap.size < w'.heap.size ∧ Below w.heap.size w w' := by
  obtain ⟨i0, hi, hz0, hz1, hz2⟩ := info_parts info_ev
  go_enter Try.func35, Try.ntmps35
  go_wp2_with (at_make; refine wpList_make_full _ rfl (.tmp 6) (.tmp 6) 23 rfl w.heap.size 49 i0 (.agg #[.int .i64 0, .int .i64 0, .int .i64 0]) 3 Try.underlying23 hi hz0 hz1 .i64 .i64 _ _ n rfl rfl rfl rfl (by rw [hz2]; omega) (by unfold maxLen; omega) (Nat.le_refl _) ?_; intro w1 hown hgrow)
  have hR := room_made hown
  have hB : Below w.heap.size w w1 := (Below.refl _ _).grown hgrow (Nat.le_refl _) (fun k hk => by cases hk)
  have hG : w.heap.size < w1.heap.size := by
    obtain ⟨_, h | ⟨g', cap', cur, hv, hb, hh, _⟩⟩ := hown
    · exact absurd h.1 (by simp)
    · simp only [Value.slice.injEq, Option.some.injEq, Addr.mk.injEq, and_true, true_and] at hv
      obtain ⟨rfl, rfl⟩ := hv
      rcases Nat.lt_or_ge w.heap.size w1.heap.size with h | h
      · exact h
      · rw [Array.getElem?_eq_none h] at hh; cases hh
  clear hown hgrow hi hz0 hz1 hz2
  go_loopw [4] (fun i wr => ∃ k : Nat, k ≤ n ∧ i = .int .i64 k ∧ Room wr w.heap.size (n * 3) ∧ Elems wr w.heap.size 0 k 3 (evF K P M) ∧ w.heap.size < wr.heap.size ∧ Below w.heap.size w wr) (fun i _ => n - (intOf i).toNat)
  case atStart => exact ⟨0, Nat.zero_le _, rfl, hR, fun i hi => absurd hi (by omega), hG, hB⟩
  case round =>
    obtain ⟨k, hk, rfl, hRr, hEr, hGr, hBr⟩ := hrel
    clear hR hB hG
    by_cases hlt : k < n
    · rcases hs.below hBr (Nat.le_refl _) with h | ⟨b, off, rfl, hbs, hE⟩
      · omega
      obtain ⟨c0, c1, c2⟩ := ev_cells hE hlt
      have hlt' : (k : Int) < (n : Int) := by omega
      have HH : Hid (Room wr w.heap.size (n * 3) ∧ Elems wr w.heap.size 0 k 3 (evF K P M) ∧ Below w.heap.size w wr) := ⟨hRr, hEr, hBr⟩
      clear hRr hEr hBr hs hE
      go_wp2_with fail
      refine (toEvent_any _ _ _ _).mono ?_
      rintro e w2 ⟨rfl, hb2⟩
      obtain ⟨hRr, hEr, hBr⟩ := HH.out
      have hR2 := hRr.below hb2 hGr
      have hE2 := hEr.below hb2 hGr
      have hB2 : Below w.heap.size w w2 := hBr.trans (hb2.mono (by omega))
      have hG2 : w.heap.size < w2.heap.size := Nat.lt_of_lt_of_le hGr hb2.size
      obtain ⟨x, y, z, r0, r1, r2, f0, f1, f2⟩ := room3 hR2 hlt
      have R : Hid (Room (put w2 w.heap.size (k * 3) [.int .i64 (K k), .int .i64 (P k), .int .i64 (M k)]) w.heap.size (n * 3) ∧ Elems (put w2 w.heap.size (k * 3) [.int .i64 (K k), .int .i64 (P k), .int .i64 (M k)]) w.heap.size 0 (k + 1) 3 (evF K P M) ∧ w.heap.size < (put w2 w.heap.size (k * 3) [.int .i64 (K k), .int .i64 (P k), .int .i64 (M k)]).heap.size ∧ Below w.heap.size w (put w2 w.heap.size (k * 3) [.int .i64 (K k), .int .i64 (P k), .int .i64 (M k)])) :=
        ⟨put_room _ _ _ hR2 (by simp; omega), hE2.step hR2 hlt rfl (fun j hj => by match j, hj with | 0, _ => rfl | 1, _ => rfl | 2, _ => rfl), by rw [put_size]; exact hG2, put_below (Nat.le_refl _) _ _ _ _ hB2⟩
      clear HH hRr hEr hBr hR2 hE2 hB2 hb2
      go_wp2
      go_roundw
      case rel => exact ⟨k + 1, by omega, by go_num, R.out⟩
      case measure => simp [intOf]; omega
    · have hkn : k = n := by omega
      subst hkn
      have HH : Hid (EvR wr w.heap.size k K P M ∧ w.heap.size < wr.heap.size ∧ Below w.heap.size w wr) := ⟨⟨hEr, hRr, hGr⟩, hGr, hBr⟩
      clear hs hRr hEr hBr
      go_wp2
      go_ret
      exact ⟨rfl, HH.out⟩

set_option maxHeartbeats 1000000 in
theorem eqEventS_same (a a' : Option Addr) (n cap cap' : Nat) (K P M : Nat → Int) (w : World) (hn : n ≤ 1048576) (hs : Sl w a n 3 (evF K P M)) (hs' : Sl w a' n 3 (evF K P M)) :
    Calls Try.prog 37 #[.slice a n cap, .slice a' n cap'] w fun r w' => r = .returned (.bool true) ∧ Below w.heap.size w w' := by
  go_enter Try.func37, Try.ntmps37
  go_wp2
  go_loopw [5] (fun i wr => ∃ k : Nat, k ≤ n ∧ i = .int .i64 k ∧ Below w.heap.size w wr) (fun i _ => n - (intOf i).toNat)
  case atStart => exact ⟨0, Nat.zero_le _, rfl, Below.refl _ _⟩
  case round =>
    obtain ⟨k, hk, rfl, hBr⟩ := hrel
    by_cases hlt : k < n
    · rcases hs.below hBr (Nat.le_refl _) with h | ⟨b, off, rfl, hbs, hE⟩
      · omega
      rcases hs'.below hBr (Nat.le_refl _) with h | ⟨b', off', rfl, hbs', hE'⟩
      · omega
      obtain ⟨c0, c1, c2⟩ := ev_cells hE hlt
      obtain ⟨d0, d1, d2⟩ := ev_cells hE' hlt
      have hlt' : (k : Int) < (n : Int) := by omega
      clear hs hs' hE hE'
      go_upto_region 6 with fail
      go_cut [26] (fun s26 wx => s26 = .bool false ∧ Below w.heap.size w wx)
      case first =>
        go_region_with (go_at_call 72; refine (eqEvent_same _ _ _ _).mono ?_; rintro e w1 ⟨rfl, hb⟩)
        all_goals (go_wp2_with fail; go_meet; exact ⟨rfl, hBr.drew.trans (hb.mono hBr.size)⟩)
      case rest =>
        obtain ⟨rfl, hb2⟩ := hcut
        go_wp2
        go_roundw
        case rel => exact ⟨k + 1, by omega, by go_num, hb2⟩
        case measure => simp [intOf]; omega
    · have hkn : k = n := by omega
      subst hkn
      clear hs hs'
      go_wp2
      go_ret
      exact ⟨rfl, hBr⟩

theorem cells_lawsEvent : Try.prog.cellsOf 96 = 3 := by kernel_rfl
theorem read_event {H : Type} {enc : TypeId × Value → H} {w : World} {sp : Nat → Bool} {hd : Bool} {n : Nat} {cs : List Value} {y : DataW H × List MemPlace} (h : DataW.trod enc Try.prog w 0 sp hd n 96 cs = some y) :
    ∃ q : Int × Int × Int, cs = [.int .i64 q.1, .int .i64 q.2.1, .int .i64 q.2.2] ∧ (-9223372036854775808 ≤ q.2.2 ∧ q.2.2 ≤ 9223372036854775807) := by
  obtain ⟨y0, y1, y2, m, _, hl, h0, h1, h2⟩ := trod_struct3 Try.underlying96 h
  rw [cells_lawsEvent] at hl
  obtain ⟨v0, v1, v2, rfl⟩ := list3 hl
  obtain ⟨e, q0, _⟩ := DataW.trod_int Try.underlying3 h0
  obtain ⟨s, q1, _⟩ := DataW.trod_int Try.underlying3 h1
  obtain ⟨b, q2, _, wf⟩ := DataW.trod_int Try.underlying3 h2
  simp [cells_int] at q0 q1 q2
  exact ⟨(e, s, b), by simp [q0, q1, q2], wf_bounds wf⟩
theorem open_events {H : Type} {enc : TypeId × Value → H} {w : World} {a : Option Addr} {len cap : Nat} {d : DataW H} {p : List MemPlace}
    (h : DataW.Trod enc Try.prog w 0 (fun _ => true) true 52 (.slice a len cap) d p) : len ≤ maxLen ∧ ∃ K P M, Sl w a len 3 (evF K P M) ∧ ∀ i, i < len → -9223372036854775808 ≤ M i ∧ M i ≤ 9223372036854775807 := by
  obtain ⟨hl, h | ⟨b, off, rfl, hb, hel⟩⟩ := open_elems Try.underlying52 cells_lawsEvent (by omega) h
  · exact ⟨hl, fun _ => 0, fun _ => 0, fun _ => 0, Or.inl h, fun i hi => by omega⟩
  · have each : ∀ i, i < len → ∃ q : Int × Int × Int, (∀ j, j < 3 → w.cell? ⟨b, off + i * 3 + j, none⟩ = [Value.int .i64 q.1, .int .i64 q.2.1, .int .i64 q.2.2][j]?) ∧ (-9223372036854775808 ≤ q.2.2 ∧ q.2.2 ≤ 9223372036854775807) := by
      intro i hi
      obtain ⟨cs, n, y, _, hc, ht⟩ := hel i hi
      obtain ⟨q, rfl, hq⟩ := read_event ht
      exact ⟨q, hc, hq⟩
    obtain ⟨q, hq⟩ := choose_lt each
    refine ⟨hl, fun i => (q i).1, fun i => (q i).2.1, fun i => (q i).2.2, Or.inr ⟨b, off, rfl, hb, fun i hi j hj => ?_⟩, fun i hi => (hq i hi).2⟩
    rw [(hq i hi).1 j hj]
    match j, hj with
    | 0, _ => rfl
    | 1, _ => rfl
    | 2, _ => rfl
end Go.Proofs.Ytjophhiccbkpjaa
