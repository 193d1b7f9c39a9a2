/- Lists of Running: what they are in memory; the law's own functions szRunning, szRunningS, eqRunning, eqRunningS. Written by tools/mkRu.py. -/
import Derived.Test.YtenfaofhoheleaaGreatRwLook
import Derived.Test.YtenfaofhoheleaaGreatRwCell
import Derived.Test.YtenfaofhoheleaaGreatBx
namespace Go.Proofs.YtenfaofhoheleaaGreat
open Go.RowKit
set_option linter.unusedVariables false

structure RuV where
  id : Int
  st : Int
  ln : Nat
  lk : Nat → LookV
  cn : Nat
  cl : Nat → CellV
  e : Int
  s : Int
  b : Bool
/-- Where the two lists lie. -/
structure RuA where
  la : Option Addr
  lc : Nat
  ca : Option Addr
  cc : Nat
def ruF (V : Nat → RuV) (A : Nat → RuA) (i j : Nat) : Value := if j = 0 then .int .i64 (V i).id else if j = 1 then .int .i64 (V i).st else if j = 2 then .slice (A i).la (V i).ln (A i).lc else if j = 3 then .slice (A i).ca (V i).cn (A i).cc else if j = 4 then .int .i64 (V i).e else if j = 5 then .int .i64 (V i).s else .bool (V i).b
theorem kept' {b w : World} {a : Option Addr} {n c : Nat} {F : Nat → Nat → Value} (h : Sl b a n c F) (hb : Below b.heap.size b w) : Sl w a n c F := h.below hb (Nat.le_refl _)
theorem below_next' {b w w' : World} (h : Below b.heap.size b w) (hb : Below w.heap.size w w') : Below b.heap.size b w' := h.trans (hb.mono h.size)
def RuAt (w : World) (A : RuA) (V : RuV) : Prop := Sl w A.la V.ln 5 (lookF V.lk) ∧ Sl w A.ca V.cn 2 (cellF V.cl) ∧ V.ln ≤ A.lc ∧ V.cn ≤ A.cc
theorem RuAt.next {w w' : World} {A : RuA} {V : RuV} (h : RuAt w A V) (hb : Below w.heap.size w w') : RuAt w' A V := ⟨kept' h.1 hb, kept' h.2.1 hb, h.2.2⟩
def RuS (w : World) (a : Option Addr) (n : Nat) (V : Nat → RuV) (A : Nat → RuA) : Prop := Sl w a n 7 (ruF V A) ∧ ∀ i, i < n → RuAt w (A i) (V i)
theorem RuS.next {w w' : World} {a : Option Addr} {n : Nat} {V : Nat → RuV} {A : Nat → RuA} (h : RuS w a n V A) (hb : Below w.heap.size w w') : RuS w' a n V A := ⟨kept' h.1 hb, fun i hi => (h.2 i hi).next hb⟩
theorem RuS.below {B : Nat} {w w' : World} {a : Option Addr} {n : Nat} {V : Nat → RuV} {A : Nat → RuA} (h : RuS w a n V A) (hb : Below B w w') (hB : w.heap.size ≤ B) : RuS w' a n V A :=
  ⟨h.1.below hb hB, fun i hi => ⟨(h.2 i hi).1.below hb hB, (h.2 i hi).2.1.below hb hB, (h.2 i hi).2.2⟩⟩
def RuLen (V : RuV) : Prop := V.ln ≤ maxLen ∧ V.cn ≤ maxLen ∧ (∀ i, i < V.ln → (V.lk i).f0.size ≤ maxLen ∧ (V.lk i).f1.size ≤ maxLen) ∧ ∀ i, i < V.cn → (V.cl i).f0.size ≤ maxLen ∧ (V.cl i).f1.size ≤ maxLen
def RuOk (V : RuV) : Prop := V.ln ≤ 1048576 ∧ V.cn ≤ 1048576
theorem ru_cells {w : World} {b off n k : Nat} {V : Nat → RuV} {A : Nat → RuA} (h : Elems w b off n 7 (ruF V A)) (hk : k < n) :
    w.cell? ⟨b, off + k * 7, none⟩ = some (.int .i64 (V k).id) ∧ w.cell? ⟨b, off + k * 7 + 1, none⟩ = some (.int .i64 (V k).st) ∧ w.cell? ⟨b, off + k * 7 + 2, none⟩ = some (.slice (A k).la (V k).ln (A k).lc) ∧ w.cell? ⟨b, off + k * 7 + 3, none⟩ = some (.slice (A k).ca (V k).cn (A k).cc) ∧ w.cell? ⟨b, off + k * 7 + 4, none⟩ = some (.int .i64 (V k).e) ∧ w.cell? ⟨b, off + k * 7 + 5, none⟩ = some (.int .i64 (V k).s) ∧ w.cell? ⟨b, off + k * 7 + 6, none⟩ = some (.bool (V k).b) :=
  ⟨h k hk 0 (by omega), h k hk 1 (by omega), h k hk 2 (by omega), h k hk 3 (by omega), h k hk 4 (by omega), h k hk 5 (by omega), h k hk 6 (by omega)⟩

set_option maxHeartbeats 1000000 in
theorem szRunning_any (id st e s : Int) (b : Bool) (la ca : Option Addr) (ln lc cn cc : Nat) (lk : Nat → LookV) (cl : Nat → CellV) (l : Int) (w : World) (h1 : ln ≤ maxLen) (h2 : cn ≤ maxLen) (hl : ∀ i, i < ln → (lk i).f0.size ≤ maxLen ∧ (lk i).f1.size ≤ maxLen) (hc : ∀ i, i < cn → (cl i).f0.size ≤ maxLen ∧ (cl i).f1.size ≤ maxLen) (hs : Sl w la ln 5 (lookF lk)) (hs' : Sl w ca cn 2 (cellF cl)) (h0 : 0 ≤ l) (hb : l ≤ 1048576) :
    Calls Tryz.prog 49 #[.agg #[.int .i64 id, .int .i64 st, .slice la ln lc, .slice ca cn cc, .int .i64 e, .int .i64 s, .bool b], .int .i64 l] w fun r w' => ∃ l' : Int, r = .returned (.int .i64 l') ∧ (-1 ≤ l' ∧ l' ≤ 1048576) ∧ (0 ≤ l' → ln ≤ 1048576 ∧ cn ≤ 1048576) ∧ Below w.heap.size w w' := by
  have HS : Hid ((Sl w la ln 5 (lookF lk) ∧ Sl w ca cn 2 (cellF cl)) ∧ (∀ i, i < ln → (lk i).f0.size ≤ maxLen ∧ (lk i).f1.size ≤ maxLen) ∧ ∀ i, i < cn → (cl i).f0.size ≤ maxLen ∧ (cl i).f1.size ≤ maxLen) := ⟨⟨hs, hs'⟩, hl, hc⟩
  clear hs hs' hl hc
  have b0 := Bx.new w [.int .i64 id, .int .i64 st, .slice la ln lc, .slice ca cn cc, .int .i64 e, .int .i64 s, .bool b] 83
  have hA : Below w.heap.size w (w.alloc (.cells #[.int .i64 id, .int .i64 st, .slice la ln lc, .slice ca cn cc, .int .i64 e, .int .i64 s, .bool b] 83)) := Go.Joins.below_alloc1 _ _
  go_enter Tryz.func49, Tryz.ntmps49
  go_wp2_with fail
  refine (szLookS_any _ _ _ lk _ _ h1 h0 hb (kept' HS.out.1.1 hA) HS.out.2.1).mono ?_
  rintro r w1 ⟨l1, rfl, g1, g2, hb1⟩
  have H1 : Hid (Below w.heap.size w w1) := below_next' hA hb1
  have c3 := (b0.next hb1).cell 3 rfl
  have cl0 := (b0.next hb1).2
  clear b0 hA hb1
  by_cases q1 : l1 < 0
  · go_wp2
    go_ret
    exact ⟨-1, rfl, by omega, fun h => absurd h (by omega), H1.out⟩
  · go_wp2_with fail
    refine (szCellS_any _ _ _ cl _ _ h2 (by omega) (by omega) (kept' HS.out.1.2 H1.out) HS.out.2.2).mono ?_
    rintro r w2 ⟨l2, rfl, g3, g4, hb2⟩
    have H2 : Hid (Below w.heap.size w w2) := below_next' H1.out hb2
    clear hb2 c3 cl0
    by_cases q2 : l2 < 0
    · go_wp2
      go_ret
      exact ⟨-1, rfl, by omega, fun h => absurd h (by omega), H2.out⟩
    · go_wp2
      go_ret
      exact ⟨l2, rfl, by omega, fun _ => ⟨g2 (by omega), g4 (by omega)⟩, H2.out⟩

set_option maxHeartbeats 1000000 in
theorem szRunningS_any (a : Option Addr) (n cap : Nat) (V : Nat → RuV) (A : Nat → RuA) (l : Int) (w : World) (hn : n ≤ maxLen) (h0 : 0 ≤ l) (hl : l ≤ 1048576) (hs : RuS w a n V A) (hz : ∀ i, i < n → RuLen (V i)) :
    Calls Tryz.prog 21 #[.slice a n cap, .int .i64 l] w fun r w' => ∃ l' : Int, r = .returned (.int .i64 l') ∧ (-1 ≤ l' ∧ l' ≤ 1048576) ∧ (0 ≤ l' → n ≤ 1048576 ∧ ∀ i, i < n → RuOk (V i)) ∧ Below w.heap.size w w' := by
  have hm := hn
  unfold maxLen at hm
  by_cases h : l - (n : Int) < 0
  · clear hs hz
    go_enter Tryz.func21, Tryz.ntmps21
    go_wp2
    go_ret
    exact ⟨-1, rfl, by omega, fun h => absurd h (by omega), Below.refl _ _⟩
  · have hn' : n ≤ 1048576 := by omega
    have HZ : Hid ((∀ i, i < n → RuLen (V i)) ∧ RuS w a n V A) := ⟨hz, hs⟩
    clear hz hs
    go_enter Tryz.func21, Tryz.ntmps21
    go_wp2
    go_loopw [1, 5] (fun l i wr => ∃ (k : Nat) (x : Int), k ≤ n ∧ i = .int .i64 k ∧ l = .int .i64 x ∧ 0 ≤ x ∧ x ≤ 1048576 ∧ (∀ i, i < k → RuOk (V i)) ∧ Below w.heap.size w wr) (fun _ i _ => n - (intOf i).toNat)
    case atStart => exact ⟨0, _, Nat.zero_le _, rfl, rfl, by omega, by omega, fun i hi => absurd hi (by omega), Below.refl _ _⟩
    case round =>
      obtain ⟨k, x, hk, rfl, rfl, hx0, hx1, hall, hBr⟩ := hrel
      by_cases hlt : k < n
      · have hsr := HZ.out.2.next hBr
        have HT : Hid (RuAt wr (A k) (V k) ∧ RuLen (V k)) := ⟨hsr.2 k hlt, HZ.out.1 k hlt⟩
        rcases hsr.1 with h | ⟨b, off, rfl, hbs, hE⟩
        · omega
        obtain ⟨c0, c1, c2, c3, c4, c5, c6⟩ := ru_cells hE hlt
        have hlt' : (k : Int) < (n : Int) := by omega
        have HB : Hid (Below w.heap.size w wr ∧ (∀ i, i < k → RuOk (V i))) := ⟨hBr, hall⟩
        clear hE hBr hall hsr
        go_wp2_with fail
        refine (szRunning_any _ _ _ _ _ _ _ _ _ _ _ (V k).lk (V k).cl _ _ HT.out.2.1 HT.out.2.2.1 HT.out.2.2.2.1 HT.out.2.2.2.2 HT.out.1.1 HT.out.1.2.1 hx0 hx1).mono ?_
        rintro r w2 ⟨y, rfl, hy1, hy2, hb2⟩
        have HB2 : Hid (Below w.heap.size w w2) := HB.out.1.trans (hb2.mono HB.out.1.size)
        clear hb2 c0 c1 c2 c3 c4 c5 c6
        by_cases hy : y < 0
        · go_wp2
          go_ret
          exact ⟨-1, rfl, by omega, fun h => absurd h (by omega), HB2.out⟩
        · have HY : Hid (RuOk (V k)) := hy2 (by omega)
          clear hy2
          go_wp2
          go_roundw
          case rel => exact ⟨k + 1, y, by omega, by go_num, rfl, by omega, by omega, upto_succ HB.out.2 HY.out, HB2.out⟩
          case measure => simp [intOf]; omega
      · have hkn : k = n := by omega
        subst hkn
        have HB : Hid (Below w.heap.size w wr ∧ (∀ i, i < k → RuOk (V i))) := ⟨hBr, hall⟩
        clear hBr hall
        go_wp2
        go_ret
        exact ⟨x, rfl, by omega, fun _ => ⟨hn', HB.out.2⟩, HB.out.1⟩

set_option maxHeartbeats 1000000 in
theorem eqRunning_same (id st e s : Int) (b : Bool) (la ca la' ca' : Option Addr) (ln lc cn cc lc' cc' : Nat) (lk : Nat → LookV) (cl : Nat → CellV) (w : World) (h1 : ln ≤ 1048576) (h2 : cn ≤ 1048576) (hs : Sl w la ln 5 (lookF lk)) (hs2 : Sl w ca cn 2 (cellF cl)) (hs' : Sl w la' ln 5 (lookF lk)) (hs2' : Sl w ca' cn 2 (cellF cl)) :
    Calls Tryz.prog 67 #[.agg #[.int .i64 id, .int .i64 st, .slice la ln lc, .slice ca cn cc, .int .i64 e, .int .i64 s, .bool b], .agg #[.int .i64 id, .int .i64 st, .slice la' ln lc', .slice ca' cn cc', .int .i64 e, .int .i64 s, .bool b]] w fun r w' => r = .returned (.bool true) ∧ Below w.heap.size w w' := by
  have HS : Hid ((Sl w la ln 5 (lookF lk) ∧ Sl w ca cn 2 (cellF cl)) ∧ Sl w la' ln 5 (lookF lk) ∧ Sl w ca' cn 2 (cellF cl)) := ⟨⟨hs, hs2⟩, hs', hs2'⟩
  clear hs hs2 hs' hs2'
  have b0 := (Bx.new w [.int .i64 id, .int .i64 st, .slice la ln lc, .slice ca cn cc, .int .i64 e, .int .i64 s, .bool b] 71).alloc (.cells #[.int .i64 id, .int .i64 st, .slice la' ln lc', .slice ca' cn cc', .int .i64 e, .int .i64 s, .bool b] 71)
  have b1 := Bx.new (w.alloc (.cells #[.int .i64 id, .int .i64 st, .slice la ln lc, .slice ca cn cc, .int .i64 e, .int .i64 s, .bool b] 71)) [.int .i64 id, .int .i64 st, .slice la' ln lc', .slice ca' cn cc', .int .i64 e, .int .i64 s, .bool b] 71
  rw [World.size_alloc] at b1
  have hb0 : Below w.heap.size w ((w.alloc (.cells #[.int .i64 id, .int .i64 st, .slice la ln lc, .slice ca cn cc, .int .i64 e, .int .i64 s, .bool b] 71)).alloc (.cells #[.int .i64 id, .int .i64 st, .slice la' ln lc', .slice ca' cn cc', .int .i64 e, .int .i64 s, .bool b] 71)) := ((Below.refl _ _).alloc (Nat.le_refl _) _).alloc (by simp) _
  have H0 : Hid (Bx ((w.alloc (.cells #[.int .i64 id, .int .i64 st, .slice la ln lc, .slice ca cn cc, .int .i64 e, .int .i64 s, .bool b] 71)).alloc (.cells #[.int .i64 id, .int .i64 st, .slice la' ln lc', .slice ca' cn cc', .int .i64 e, .int .i64 s, .bool b] 71)) w.heap.size [.int .i64 id, .int .i64 st, .slice la ln lc, .slice ca cn cc, .int .i64 e, .int .i64 s, .bool b] ∧ Bx ((w.alloc (.cells #[.int .i64 id, .int .i64 st, .slice la ln lc, .slice ca cn cc, .int .i64 e, .int .i64 s, .bool b] 71)).alloc (.cells #[.int .i64 id, .int .i64 st, .slice la' ln lc', .slice ca' cn cc', .int .i64 e, .int .i64 s, .bool b] 71)) (w.heap.size + 1) [.int .i64 id, .int .i64 st, .slice la' ln lc', .slice ca' cn cc', .int .i64 e, .int .i64 s, .bool b] ∧ Below w.heap.size w ((w.alloc (.cells #[.int .i64 id, .int .i64 st, .slice la ln lc, .slice ca cn cc, .int .i64 e, .int .i64 s, .bool b] 71)).alloc (.cells #[.int .i64 id, .int .i64 st, .slice la' ln lc', .slice ca' cn cc', .int .i64 e, .int .i64 s, .bool b] 71))) := ⟨b0, b1, hb0⟩
  clear b0 b1 hb0
  go_enter Tryz.func67, Tryz.ntmps67
  go_wp2_with fail
  refine (eqLookS_same _ _ _ _ _ lk _ h1 (kept' HS.out.1.1 H0.out.2.2) (kept' HS.out.2.1 H0.out.2.2)).mono ?_
  rintro r w1 ⟨rfl, hb1⟩
  have H1 : Hid (Bx w1 w.heap.size [.int .i64 id, .int .i64 st, .slice la ln lc, .slice ca cn cc, .int .i64 e, .int .i64 s, .bool b] ∧ Bx w1 (w.heap.size + 1) [.int .i64 id, .int .i64 st, .slice la' ln lc', .slice ca' cn cc', .int .i64 e, .int .i64 s, .bool b] ∧ Below w.heap.size w w1) := ⟨H0.out.1.next hb1, H0.out.2.1.next hb1, below_next' H0.out.2.2 hb1⟩
  clear hb1 H0
  have c0 := H1.out.1.cell 3 rfl
  have c1 := H1.out.2.1.cell 3 rfl
  have z0 := H1.out.1.2
  have z1 := H1.out.2.1.2
  go_wp2_with fail
  refine (eqCellS_same _ _ _ _ _ cl _ h2 (kept' HS.out.1.2 H1.out.2.2) (kept' HS.out.2.2 H1.out.2.2)).mono ?_
  rintro r w2 ⟨rfl, hb2⟩
  have H2 : Hid (Bx w2 w.heap.size [.int .i64 id, .int .i64 st, .slice la ln lc, .slice ca cn cc, .int .i64 e, .int .i64 s, .bool b] ∧ Bx w2 (w.heap.size + 1) [.int .i64 id, .int .i64 st, .slice la' ln lc', .slice ca' cn cc', .int .i64 e, .int .i64 s, .bool b] ∧ Below w.heap.size w w2) := ⟨H1.out.1.next hb2, H1.out.2.1.next hb2, below_next' H1.out.2.2 hb2⟩
  clear hb2 H1 c0 c1 z0 z1
  have c4 := H2.out.1.cell 4 rfl
  have c5 := H2.out.1.cell 5 rfl
  have c6 := H2.out.1.cell 6 rfl
  have d4 := H2.out.2.1.cell 4 rfl
  have d5 := H2.out.2.1.cell 5 rfl
  have d6 := H2.out.2.1.cell 6 rfl
  have z0 := H2.out.1.2
  have z1 := H2.out.2.1.2
  go_wp2_with fail
  refine (eqTid_same _ _ _ _).mono ?_
  rintro r w3 ⟨rfl, hb3⟩
  have H3 : Hid (Below w.heap.size w w3) := below_next' H2.out.2.2 hb3
  clear hb3 H2 c4 c5 c6 d4 d5 d6 z0 z1
  go_wp2
  go_ret
  exact ⟨rfl, H3.out⟩

set_option maxHeartbeats 1000000 in
theorem eqRunningS_same (a a' : Option Addr) (n cap cap' : Nat) (V : Nat → RuV) (A A' : Nat → RuA) (w : World) (hn : n ≤ 1048576) (hz : ∀ i, i < n → RuOk (V i)) (hs : RuS w a n V A) (hs' : RuS w a' n V A') :
    Calls Tryz.prog 32 #[.slice a n cap, .slice a' n cap'] w fun r w' => r = .returned (.bool true) ∧ Below w.heap.size w w' := by
  have HS : Hid ((∀ i, i < n → RuOk (V i)) ∧ RuS w a n V A ∧ RuS w a' n V A') := ⟨hz, hs, hs'⟩
  clear hz hs hs'
  go_enter Tryz.func32, Tryz.ntmps32
  go_wp2
  go_loopw [5] (fun i wr => ∃ k : Nat, k ≤ n ∧ i = .int .i64 k ∧ Below w.heap.size w wr) (fun i _ => n - (intOf i).toNat)
  case atStart => exact ⟨0, Nat.zero_le _, rfl, Below.refl _ _⟩
  case round =>
    obtain ⟨k, hk, rfl, hBr⟩ := hrel
    by_cases hlt : k < n
    · have h1 := HS.out.2.1.next hBr
      have h2 := HS.out.2.2.next hBr
      have HT : Hid (RuAt wr (A k) (V k) ∧ RuAt wr (A' k) (V k) ∧ RuOk (V k)) := ⟨h1.2 k hlt, h2.2 k hlt, HS.out.1 k hlt⟩
      rcases h1.1 with h | ⟨b, off, rfl, hbs, hE⟩
      · omega
      rcases h2.1 with h | ⟨b', off', rfl, hbs', hE'⟩
      · omega
      obtain ⟨c0, c1, c2, c3, c4, c5, c6⟩ := ru_cells hE hlt
      obtain ⟨d0, d1, d2, d3, d4, d5, d6⟩ := ru_cells hE' hlt
      have hlt' : (k : Int) < (n : Int) := by omega
      clear h1 h2 hE hE'
      go_upto_region 6 with fail
      go_cut [26] (fun s26 wx => s26 = .bool false ∧ Below w.heap.size w wx)
      case first =>
        go_region_with (go_at_call 67; refine (eqRunning_same _ _ _ _ _ _ _ _ _ _ _ _ _ _ _ (V k).lk (V k).cl _ HT.out.2.2.1 HT.out.2.2.2 (kept' HT.out.1.1 (below_drewN (Below.refl _ _) _)) (kept' HT.out.1.2.1 (below_drewN (Below.refl _ _) _)) (kept' HT.out.2.1.1 (below_drewN (Below.refl _ _) _)) (kept' HT.out.2.1.2.1 (below_drewN (Below.refl _ _) _))).mono ?_; rintro e w1 ⟨rfl, hb⟩)
        all_goals (go_wp2_with fail; go_meet; exact ⟨rfl, hBr.drew.trans (hb.mono hBr.size)⟩)
      case rest =>
        obtain ⟨rfl, hb2⟩ := hcut
        go_wp2
        go_roundw
        case rel => exact ⟨k + 1, by omega, by go_num, hb2⟩
        case measure => simp [intOf]; omega
    · have hkn : k = n := by omega
      subst hkn
      go_wp2
      go_ret
      exact ⟨rfl, hBr⟩
end Go.Proofs.YtenfaofhoheleaaGreat
