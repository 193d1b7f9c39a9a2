/- The contracts of ReplayLog, on both sides. -/
import Derived.Test.YtiepfdkfadbllaaReS
import Derived.Test.YtiepfdkfadbllaaLaI
import Derived.Test.YtiepfdkfadbllaaLgL
namespace Go.Proofs.Ytiepfdkfadbllaa
open Go.RowKit Go.Shelf
set_option linter.unusedVariables false

/-- The log, and good entries behind its end. -/
def vGd (V : Nat → EntryV) (n i : Nat) : EntryV := if i < n then V i else ⟨0, ⟨#[]⟩, ⟨#[]⟩, 0, 0, false⟩
theorem vGd_at {V : Nat → EntryV} {n i : Nat} (h : i < n) : vGd V n i = V i := by simp [vGd, h]
theorem latL_gd (V : Nat → EntryV) (n : Nat) : ∀ k, k ≤ n → latL (vGd V n) k = latL V k
  | 0, _ => rfl
  | k + 1, h => by rw [latL, latL, latL_gd V n k (by omega), vGd_at (by omega)]
theorem log_ok {V : Nat → EntryV} {n i : Nat} (h : logB V n = true) (hi : i < n) : n ≤ 80 ∧ goodT (V i).f3 (V i).f4 = true ∧ (V i).f1.size ≤ 8 ∧ (V i).f2.size ≤ 20 := by
  simp only [logB, Bool.and_eq_true, decide_eq_true_eq] at h
  have := (h.2 i hi).1
  simp only [entOk, keyOk, valOk, Bool.and_eq_true, decide_eq_true_eq] at this
  have h1 := inR_iff.1 this.2.1.1
  exact ⟨h.1, this.2.2.2.1, by omega, this.2.2.1.1⟩
theorem log_80 {V : Nat → EntryV} {n : Nat} (h : logB V n = true) : n ≤ 80 := by
  simp only [logB, Bool.and_eq_true, decide_eq_true_eq] at h; exact h.1
theorem gd_good {V : Nat → EntryV} {n : Nat} (h : logB V n = true) (i : Nat) : goodT (vGd V n i).f3 (vGd V n i).f4 = true := by
  by_cases hi : i < n
  · rw [vGd_at hi]; exact (log_ok h hi).2.1
  · simp [vGd, hi, goodT, inR]
theorem gd_sl {w : World} {a : Option Addr} {n : Nat} {V : Nat → EntryV} (h : Sl w a n 6 (entryF V)) : Sl w a n 6 (entryF (vGd V n)) := by
  rcases h with h | ⟨b, off, e, hb, hE⟩
  · exact Or.inl h
  · exact Or.inr ⟨b, off, e, hb, fun i hi j hj => by rw [hE i hi j hj]; simp only [entryF, vGd_at hi]⟩
/-- What ReplayLog answers. -/
noncomputable def rpR (V : Nat → EntryV) (n : Nat) : List RecordV := if logB V n = true then recL (latL V n) else []
theorem rpR_len (V : Nat → EntryV) (n : Nat) : (rpR V n).length ≤ 80 := by
  unfold rpR; split
  · rename_i h
    have h1 := log_80 h
    have := latL_len V n
    rw [recL_len]; omega
  · simp
def RepPost (L : List RecordV) (ok : Bool) (w : World) (r : Ending) (w' : World) : Prop :=
  ∃ a' c', r = .returned (.tuple #[.slice a' L.length c', .bool ok]) ∧ SRow w' w.heap.size w'.heap.size a' L.length 6 (recordF (vR L)) ∧ Below w.heap.size w w'
theorem rep_no {V : Nat → EntryV} {n : Nat} {w w' : World} (h : logB V n = false) (hb : Below w.heap.size w w') : RepPost (rpR V n) (logB V n) w (.returned (.tuple #[.slice none 0 0, .bool false])) w' := by
  have e : rpR V n = [] := by simp [rpR, h]
  rw [e, h]
  exact ⟨none, 0, rfl, ⟨Or.inl rfl, Nat.le_refl _⟩, hb⟩
theorem rep_yes {V : Nat → EntryV} {n : Nat} {w w' : World} {base : Nat} {a' : Option Addr} {c' : Nat} {R : List RecordV} (h : logB V n = true) (hR : R = recL (latL V n)) (ho : w'.ownsRow base 59 6 (.slice a' R.length c') R.length (cellsR R)) (hl : w.heap.size ≤ base) (hb : Below w.heap.size w w') : RepPost (rpR V n) (logB V n) w (.returned (.tuple #[.slice a' R.length c', .bool true])) w' := by
  have e : rpR V n = R := by simp [rpR, h, hR]
  rw [e, h]
  obtain ⟨a2, c2, e2, _, hrow⟩ := SRow.of (F := recordF (vR R)) (c := 6) (own_lo ho hl)
  simp only [Value.slice.injEq, true_and] at e2
  obtain ⟨rfl, rfl⟩ := e2
  exact ⟨a', c', rfl, hrow, hb⟩

set_option maxRecDepth 100000 in
set_option maxHeartbeats 4000000 in
theorem specReplayLog_any (a : Option Addr) (n cap : Nat) (V : Nat → EntryV) (w : World) (hn : n ≤ 1048576) (hcap : n ≤ cap) (hz : ∀ i, i < n → (V i).f1.size ≤ maxLen ∧ (V i).f2.size ≤ maxLen) (hs : Sl w a n 6 (entryF V)) :
    Calls Try.prog 12 #[.slice a n cap] w fun r w' => RepPost (rpR V n) (logB V n) w r w' := by
  have HS : Hid (Sl w a n 6 (entryF V) ∧ (∀ i, i < n → (V i).f1.size ≤ maxLen ∧ (V i).f2.size ≤ maxLen)) := ⟨hs, hz⟩
  clear hs hz
  go_enter Try.func12, Try.ntmps12
  go_wp2_with fail
  refine (specGoodLog_any _ _ _ V _ hn hcap HS.out.2 HS.out.1).mono ?_
  rintro r w1 ⟨rfl, hb⟩
  have H1 : Hid (Below w.heap.size w w1) := hb
  clear hb
  cases e1 : logB V n
  · have HN : Hid (RepPost (rpR V n) (logB V n) w (.returned (.tuple #[.slice none 0 0, .bool false])) w1) := rep_no e1 H1.out
    go_wp2
    exact bodyPost_ret (v := .tuple #[.slice none 0 0, .bool false]) (by simp [results, Try.results12, go_sem]) rfl HN.out
  have h80 := log_80 e1
  go_wp2_with fail
  refine (l6Replay_any _ _ _ V _ (by omega) (HS.out.1.below H1.out (Nat.le_refl _))).mono ?_
  rintro r w2 ⟨a2, c2, rfl, ho, hb⟩
  obtain ⟨R, hR⟩ : ∃ R, R = recL (latL V n) := ⟨_, rfl⟩
  rw [← hR] at ho ⊢
  have HZ : Hid (RepPost (rpR V n) (logB V n) w (.returned (.tuple #[.slice a2 R.length c2, .bool true])) w2) := rep_yes e1 hR ho (by have := H1.out.size; omega) (below_nx H1.out hb)
  clear ho hb hR
  go_wp2
  exact bodyPost_ret (v := .tuple #[.slice a2 R.length c2, .bool true]) (by simp [results, Try.results12, go_sem]) rfl HZ.out

set_option maxRecDepth 100000 in
set_option maxHeartbeats 8000000 in
theorem replayLog_any (a : Option Addr) (n cap : Nat) (V : Nat → EntryV) (w : World) (hn : n ≤ 1048576) (hcap : n ≤ cap) (hz : ∀ i, i < n → (V i).f1.size ≤ maxLen ∧ (V i).f2.size ≤ maxLen) (hs : Sl w a n 6 (entryF V)) :
    Calls Try.prog 11 #[.slice a n cap] w fun r w' => RepPost (rpR V n) (logB V n) w r w' := by
  obtain ⟨i0, hi0, y0, y1, y2⟩ := info_parts info_record
  have HS : Hid (Sl w a n 6 (entryF V) ∧ (∀ i, i < n → (V i).f1.size ≤ maxLen ∧ (V i).f2.size ≤ maxLen)) := ⟨hs, hz⟩
  clear hs hz
  go_enter Try.func11, Try.ntmps11
  go_wp2_with fail
  refine (goodLog_any _ _ _ V _ hn hcap HS.out.2 HS.out.1).mono ?_
  rintro r w1 ⟨rfl, hb⟩
  have H1 : Hid (Below w.heap.size w w1) := hb
  clear hb
  cases e1 : logB V n
  · have HN : Hid (RepPost (rpR V n) (logB V n) w (.returned (.tuple #[.slice none 0 0, .bool false])) w1) := rep_no e1 H1.out
    go_wp2
    exact bodyPost_ret (v := .tuple #[.slice none 0 0, .bool false]) (by simp [results, Try.results11, go_sem]) rfl HN.out
  have h80 := log_80 e1
  have HE : Hid (logB V n = true) := e1
  go_wp2_with fail
  refine (entriesOf_any _ _ _ _).mono ?_
  rintro r w2 ⟨rfl, rfl⟩
  have bN := Boxed.new w1 23 (.slice a n cap)
  have hd := Go.Joins.below_alloc1 w1 (.cells #[.slice a n cap] 23)
  have HQ : Hid (SeqStopsK Fence.wide 4 Try.prog 56 #[.pointer (some ⟨w1.heap.size, 0, none⟩)] (fun x : Nat => #[.agg #[.int .i64 (vGd V n x).f0, .string (vGd V n x).f1, .string (vGd V n x).f2, .int .i64 (vGd V n x).f3, .int .i64 (vGd V n x).f4, .bool (vGd V n x).f5]]) (Below (w1.alloc (.cells #[.slice a n cap] 23)).heap.size) (fun ys => ys = List.range n) (fun pre => ∃ k, k ≤ n ∧ pre = List.range k) n (w1.alloc (.cells #[.slice a n cap] 23))) :=
    ent_stops 4 (by omega) w1.heap.size a n cap (vGd V n) hn (w1.alloc (.cells #[.slice a n cap] 23)) (by simp) (fun i hi => by rw [vGd_at hi]; have := log_ok e1 hi; omega) bN.cell (gd_sl (HS.out.1.below (below_nx H1.out hd) (Nat.le_refl _)))
  have H2 : Hid (Below w.heap.size w (w1.alloc (.cells #[.slice a n cap] 23))) := below_nx H1.out hd
  clear bN hd
  go_wp2_with fail
  refine ((callsIn_wide (n := 5)).1 (latestOf_in 5 (by omega) 56 #[.pointer (some ⟨w1.heap.size, 0, none⟩)] (enters_of Try.func56 (by kernel_rfl) rfl) n hn (vGd V n) (gd_good e1) _ HQ.out)).mono ?_
  rintro r w3 ⟨v, rfl, hown, hb⟩
  rw [latL_gd V n n (Nat.le_refl _)] at hown
  obtain ⟨la, lc, rfl, hlc, hrow⟩ := SRow.of (F := entryF (vE (latL V n))) (c := 6) hown
  have hLl := latL_len V n
  obtain ⟨L, hL⟩ : ∃ L, L = latL V n := ⟨_, rfl⟩
  rw [← hL] at hown hrow hLl ⊢
  have H3 : Hid (Sl w3 la L.length 6 (entryF (vE L)) ∧ Below w.heap.size w w3 ∧ L = latL V n) := ⟨hrow.sl, below_nx H2.out hb, hL⟩
  clear hown hrow hb HQ H2 hL
  go_wp2
  go_loopw [14, 4] (fun z v wr => ∃ k : Nat, k ≤ L.length ∧ z = .int .i64 k ∧ wr.ownsRow w3.heap.size 59 6 v (recL (L.take k)).length (cellsR (recL (L.take k))) ∧ Below w3.heap.size w3 wr) (fun z _ _ => L.length - (intOf z).toNat)
  case atStart => exact ⟨0, Nat.zero_le _, rfl, World.ownsRow_nil _ _ _ _, Below.refl _ _⟩
  case round =>
    obtain ⟨k, hk, rfl, hown, hBr⟩ := hrel
    by_cases hlt : k < L.length
    · have hlt' : (k : Int) < (L.length : Int) := by omega
      rcases H3.out.1.below hBr (Nat.le_refl _) with h | ⟨b, off, rfl, hbs, hE⟩
      · omega
      obtain ⟨c0, c1, c2, c3, c4, c5⟩ := entry_cells hE hlt
      have hR1 : recL (L.take (k + 1)) = recL (L.take k) ++ [recOf (vE L k)] := by
        rw [List.take_succ_eq_append_getElem hlt, recL, List.map_append, ← recL, vE_at hlt]; rfl
      have hR0 : (recL (L.take k)).length = k := by rw [recL_len, List.length_take]; omega
      obtain ⟨R, hR⟩ : ∃ R, R = recL (L.take k) := ⟨_, rfl⟩
      rw [← hR] at hown hR1 hR0
      have HR : Hid (recL (L.take (k + 1)) = R ++ [recOf (vE L k)] ∧ R.length = k) := ⟨hR1, hR0⟩
      have hRn : R.length ≤ 80 := by omega
      clear hR hR1 hR0
      have hwr := hBr.size
      have H4 : Hid ((wr.alloc (.cells #[.int .i64 (vE L k).f0, .string (vE L k).f1, .string (vE L k).f2, .int .i64 (vE L k).f3, .int .i64 (vE L k).f4, .bool (vE L k).f5] 33)).ownsRow w3.heap.size 59 6 u4 R.length (cellsR R) ∧ Below w3.heap.size w3 (wr.alloc (.cells #[.int .i64 (vE L k).f0, .string (vE L k).f1, .string (vE L k).f2, .int .i64 (vE L k).f3, .int .i64 (vE L k).f4, .bool (vE L k).f5] 33))) := ⟨World.ownsRow.alloc hown _, hBr.alloc hwr _⟩
      have hnw := cells_new (wr.alloc (.cells #[.int .i64 (vE L k).f0, .string (vE L k).f1, .string (vE L k).f2, .int .i64 (vE L k).f3, .int .i64 (vE L k).f4, .bool (vE L k).f5] 33)) [.string (vE L k).f1, .string (vE L k).f2, .int .i64 (vE L k).f3, .int .i64 (vE L k).f4, .bool (vE L k).f5, .int .i64 0] 59
      rw [World.size_alloc] at hnw
      have HNW := (show Hid _ from hnw)
      clear hown hBr hE hnw
      go_wp2_with (first
        | (at_builtin; refine wpList_append_own_at _ rfl (.tmp 18) (.tmp 26) 25 rfl w3.heap.size 59 i0 (.agg #[.string ⟨#[]⟩, .string ⟨#[]⟩, .int .i64 0, .int .i64 0, .bool false, .int .i64 0]) 6 64 Try.underlying25 hi0 y0 y1 y2 rfl (by decide) u4 R.length (cellsR R) rfl (World.ownsRow.alloc H4.out.1 _) ⟨wr.heap.size + 1, 0, none⟩ 1 1 [.string (vE L k).f1, .string (vE L k).f2, .int .i64 (vE L k).f3, .int .i64 (vE L k).f4, .bool (vE L k).f5, .int .i64 0] rfl rfl HNW.out (by intro u hu; simp at hu; rcases hu with rfl | rfl | rfl | rfl | rfl | rfl <;> rfl) (by unfold maxLen; omega) (by omega) (by simp <;> omega) ?_; intro v5 w5 hown5 hgrow5 hnil5 hwh5)
        | go_in)
      have H5 : Hid (w5.ownsRow w3.heap.size 59 6 v5 (recL (L.take (k + 1))).length (cellsR (recL (L.take (k + 1)))) ∧ Below w3.heap.size w3 w5) := by
        rw [HR.out.1, cellsR_snoc, List.length_append]
        exact ⟨hown5, (H4.out.2.alloc H4.out.2.size _).grown hgrow5 (by simp; omega) (fun j hj => (H4.out.1.lt j hj).1)⟩
      clear hown5 hgrow5 hnil5 hwh5 H4 HNW
      go_wp2
      go_roundw
      case rel => exact ⟨k + 1, by omega, by go_num, H5.out.1, H5.out.2⟩
      case measure => simp [intOf]; omega
    · have hkl : k = L.length := by omega
      have hlt' : ¬ (k : Int) < (L.length : Int) := by omega
      obtain ⟨R, hR⟩ : ∃ R, R = recL (L.take k) := ⟨_, rfl⟩
      rw [← hR] at hown
      have hR2 : R = recL (latL V n) := by rw [hR, hkl, List.take_length, H3.out.2.2]
      obtain ⟨a5, c5, rfl, _, _⟩ := SRow.of (F := recordF (vR R)) (c := 6) hown
      have HZ : Hid (RepPost (rpR V n) (logB V n) w (.returned (.tuple #[.slice a5 R.length c5, .bool true])) wr) := rep_yes HE.out hR2 hown H3.out.2.1.size (H3.out.2.1.trans (hBr.mono H3.out.2.1.size))
      rw [HE.out] at HZ
      clear hown hBr hkl hR hR2
      go_wp2
      exact bodyPost_ret (v := .tuple #[.slice a5 R.length c5, .bool true]) (by simp [results, Try.results11, go_sem]) rfl HZ.out
end Go.Proofs.Ytiepfdkfadbllaa
