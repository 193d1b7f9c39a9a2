/- The contracts of the specification's l6Compact and CompactLog. -/
import Derived.Test.YtiepfdkfadbllaaCoG
import Derived.Test.YtiepfdkfadbllaaReI
namespace Go.Proofs.Ytiepfdkfadbllaa
open Go.RowKit Go.Shelf
set_option linter.unusedVariables false

set_option maxRecDepth 100000 in
set_option maxHeartbeats 8000000 in
theorem l6Compact_any (a : Option Addr) (n cap : Nat) (V : Nat → EntryV) (w : World) (hn : n ≤ 1048575) (hs : Sl w a n 6 (entryF V)) :
    Calls Try.prog 42 #[.slice a n cap] w fun r w' => ∃ v, r = .returned v ∧ w'.ownsRow w.heap.size 33 6 v (latL V n).length (cellsE (latL V n)) ∧ Below w.heap.size w w' := by
  obtain ⟨i0, hi0, y0, y1, y2⟩ := info_parts info_InE
  have HS : Hid (Sl w a n 6 (entryF V)) := hs
  clear hs
  go_enter Try.func42, Try.ntmps42
  go_wp2_with fail
  refine (l6Replay_any _ _ _ V _ hn HS.out).mono ?_
  rintro r w1 ⟨ra, rc, rfl, hown, hb⟩
  have hLl := latL_len V n
  have HF : Hid (∀ q, q < (latL V n).length → ∃ i, i < n ∧ vE (latL V n) q = V i ∧ ∀ j, j < i → verV (V j) (V i) = false) := fun q hq => lat_first hq
  obtain ⟨a2, c2, e2, _, hrow⟩ := SRow.of (F := recordF (vR (recL (latL V n)))) (c := 6) hown
  simp only [Value.slice.injEq, true_and] at e2
  obtain ⟨rfl, rfl⟩ := e2
  have hrl := recL_len (latL V n)
  have HRv : Hid (∀ q, q < (latL V n).length → vR (recL (latL V n)) q = recOf (vE (latL V n) q)) := fun q hq => recL_at hq
  have hsl := hrow.sl
  rw [hrl] at hsl ⊢
  obtain ⟨L, hL⟩ : ∃ L, L = latL V n := ⟨_, rfl⟩
  rw [← hL] at hLl HF HRv hsl ⊢
  have HLe : Hid (L = latL V n) := hL
  clear hL hown hrow hrl
  generalize vR (recL L) = RV at *
  have H1 : Hid (Sl w1 ra L.length 6 (recordF RV) ∧ Below w.heap.size w w1) := ⟨hsl, hb⟩
  clear hb hsl
  go_wp2
  go_loopw [11, 3] (fun z v wr => ∃ k : Nat, k ≤ L.length ∧ z = .int .i64 k ∧ wr.ownsRow w1.heap.size 33 6 v (L.take k).length (cellsE (L.take k)) ∧ Below w1.heap.size w1 wr) (fun z _ _ => L.length - (intOf z).toNat)
  case atStart => exact ⟨0, Nat.zero_le _, rfl, World.ownsRow_nil _ _ _ _, Below.refl _ _⟩
  case round =>
    obtain ⟨k, hk, rfl, hown, hBr⟩ := hrel
    obtain ⟨wo, hwo⟩ : ∃ x, x = wr := ⟨wr, rfl⟩
    subst hwo
    by_cases hlt : k < L.length
    · have hlt' : (k : Int) < (L.length : Int) := by omega
      rcases H1.out.1.below hBr (Nat.le_refl _) with h | ⟨b, off, rfl, hbs, hE⟩
      · omega
      obtain ⟨c0, c1, c2, c3, c4, c5⟩ := record_cells hE hlt
      obtain ⟨i, hin, hVi, hfst⟩ := HF.out k hlt
      have hRk : RV k = recOf (V i) := by rw [HRv.out k hlt, hVi]
      rw [hRk] at c0 c1 c2 c3 c4 c5
      simp only [recOf] at c0 c1 c2 c3 c4 c5
      have HT : Hid (L.take (k + 1) = L.take k ++ [V i]) := by show _ = _; rw [List.take_succ_eq_append_getElem hlt, ← vE_at hlt, hVi]
      have HFi : Hid (∀ j, j < i → verV (V j) (V i) = false) := hfst
      have hTl : (L.take k).length ≤ 1048575 := by rw [List.length_take]; omega
      obtain ⟨T, hT⟩ : ∃ T, T = L.take k := ⟨_, rfl⟩
      rw [← hT] at hown HT hTl
      clear hT hRk hVi hfst hE
      have hd := Go.Joins.below_alloc1 wo (.cells #[.string (V i).f1, .string (V i).f2, .int .i64 (V i).f3, .int .i64 (V i).f4, .bool (V i).f5, .int .i64 0] 59)
      have hwo2 := hBr.size
      have H2 : Hid (Bx (wo.alloc (.cells #[.string (V i).f1, .string (V i).f2, .int .i64 (V i).f3, .int .i64 (V i).f4, .bool (V i).f5, .int .i64 0] 59)) wo.heap.size [.string (V i).f1, .string (V i).f2, .int .i64 (V i).f3, .int .i64 (V i).f4, .bool (V i).f5, .int .i64 0] ∧ (wo.alloc (.cells #[.string (V i).f1, .string (V i).f2, .int .i64 (V i).f3, .int .i64 (V i).f4, .bool (V i).f5, .int .i64 0] 59)).ownsRow w1.heap.size 33 6 u3 T.length (cellsE T) ∧ Below w1.heap.size w1 (wo.alloc (.cells #[.string (V i).f1, .string (V i).f2, .int .i64 (V i).f3, .int .i64 (V i).f4, .bool (V i).f5, .int .i64 0] 59))) := ⟨Bx.new wo [.string (V i).f1, .string (V i).f2, .int .i64 (V i).f3, .int .i64 (V i).f4, .bool (V i).f5, .int .i64 0] _, own_keep hown hd, hBr.alloc hwo2 _⟩
      clear hown hBr hd
      go_wp2
      clear c0 c1 c2 c3 c4 c5
      go_loopw [17, 3] (fun z v wr => ∃ j : Nat, j ≤ i ∧ z = .int .i64 j ∧ v = u3 ∧ Bx wr wo.heap.size [.string (V i).f1, .string (V i).f2, .int .i64 (V i).f3, .int .i64 (V i).f4, .bool (V i).f5, .int .i64 0] ∧ wr.ownsRow w1.heap.size 33 6 u3 T.length (cellsE T) ∧ Below w1.heap.size w1 wr) (fun z _ _ => i - (intOf z).toNat)
      case atStart => exact ⟨0, Nat.zero_le _, rfl, rfl, H2.out.1, H2.out.2.1, H2.out.2.2⟩
      case round =>
        obtain ⟨j, hj, rfl, rfl, hbx, hown, hBj⟩ := hrel
        clear H2
        have hjn : j < n := by omega
        have hjn' : (j : Int) < (n : Int) := by omega
        rcases HS.out.below (H1.out.2.trans (hBj.mono H1.out.2.size)) (Nat.le_refl _) with h | ⟨b2, off2, rfl, hbs2, hE2⟩
        · omega
        obtain ⟨d0, d1, d2, d3, d4, d5⟩ := entry_cells hE2 hjn
        have hzj := hBj.size
        have r0 := run_eqTid (V j).f3 (V j).f4 (V j).f5 (V i).f3 (V i).f4 (V i).f5
        have s0 := (hbx).cell 0 rfl; have s1 := (hbx).cell 1 rfl; have s2 := (hbx).cell 2 rfl; have s3 := (hbx).cell 3 rfl; have s4 := (hbx).cell 4 rfl; have s5 := (hbx).cell 5 rfl; have sz := (hbx).2
        have hd := Go.Joins.below_alloc1 wr (.cells #[.int .i64 (V j).f0, .string (V j).f1, .string (V j).f2, .int .i64 (V j).f3, .int .i64 (V j).f4, .bool (V j).f5] 33)
        have H3 : Hid (Bx (wr.alloc (.cells #[.int .i64 (V j).f0, .string (V j).f1, .string (V j).f2, .int .i64 (V j).f3, .int .i64 (V j).f4, .bool (V j).f5] 33)) wo.heap.size [.string (V i).f1, .string (V i).f2, .int .i64 (V i).f3, .int .i64 (V i).f4, .bool (V i).f5, .int .i64 0] ∧ (wr.alloc (.cells #[.int .i64 (V j).f0, .string (V j).f1, .string (V j).f2, .int .i64 (V j).f3, .int .i64 (V j).f4, .bool (V j).f5] 33)).ownsRow w1.heap.size 33 6 u3 T.length (cellsE T) ∧ Below w1.heap.size w1 (wr.alloc (.cells #[.int .i64 (V j).f0, .string (V j).f1, .string (V j).f2, .int .i64 (V j).f3, .int .i64 (V j).f4, .bool (V j).f5] 33))) := ⟨hbx.next hd, own_keep hown hd, hBj.alloc hzj _⟩
        clear hbx hown hBj hE2 hd
        by_cases hji : j < i
        · have HV : Hid (verV (V j) (V i) = false) := HFi.out j hji
          cases q1 : ((V j).f1.toList == (V i).f1.toList)
          · go_wp2
            go_roundw
            case rel => exact ⟨j + 1, by omega, by go_num, rfl, H3.out.1, H3.out.2.1, H3.out.2.2⟩
            case measure => simp [intOf]; omega
          · have q2 : tidE (V j).f3 (V j).f4 (V j).f5 (V i).f3 (V i).f4 (V i).f5 = false := by
              have := HV.out
              simp only [verV, verE, q1, Bool.true_and] at this
              exact this
            rw [q2] at r0
            go_wp2
            go_roundw
            case rel => exact ⟨j + 1, by omega, by go_num, rfl, H3.out.1, H3.out.2.1, H3.out.2.2⟩
            case measure => simp [intOf]; omega
        · have hje : j = i := by omega
          subst hje
          have q1 : ((V j).f1.toList == (V j).f1.toList) = true := by simp
          have q2 : tidE (V j).f3 (V j).f4 (V j).f5 (V j).f3 (V j).f4 (V j).f5 = true := tidE_iff.2 ⟨rfl, rfl, rfl⟩
          rw [q2] at r0
          have hnw := cells_new (wr.alloc (.cells #[.int .i64 (V j).f0, .string (V j).f1, .string (V j).f2, .int .i64 (V j).f3, .int .i64 (V j).f4, .bool (V j).f5] 33)) [.int .i64 (V j).f0, .string (V j).f1, .string (V j).f2, .int .i64 (V j).f3, .int .i64 (V j).f4, .bool (V j).f5] 33
          rw [World.size_alloc] at hnw
          have HNW := (show Hid _ from hnw)
          clear hnw
          go_wp2_with (first
            | (at_builtin; refine wpList_append_own_at _ rfl (.tmp 33) (.tmp 35) 23 rfl w1.heap.size 33 i0 (.agg #[.int .i64 0, .string ⟨#[]⟩, .string ⟨#[]⟩, .int .i64 0, .int .i64 0, .bool false]) 6 64 Try.underlying23 hi0 y0 y1 y2 rfl (by decide) u3 T.length (cellsE T) rfl (World.ownsRow.alloc H3.out.2.1 _) ⟨wr.heap.size + 1, 0, none⟩ 1 1 [.int .i64 (V j).f0, .string (V j).f1, .string (V j).f2, .int .i64 (V j).f3, .int .i64 (V j).f4, .bool (V j).f5] rfl rfl HNW.out (by intro u hu; simp at hu; rcases hu with rfl | rfl | rfl | rfl | rfl | rfl <;> rfl) (by unfold maxLen; omega) (by omega) (by simp <;> omega) ?_; intro v5 w5 hown5 hgrow5 hnil5 hwh5)
            | go_in)
          have H5 : Hid (w5.ownsRow w1.heap.size 33 6 v5 (L.take (k + 1)).length (cellsE (L.take (k + 1))) ∧ Below w1.heap.size w1 w5) := by
            rw [HT.out, cellsE_snoc, List.length_append]
            exact ⟨hown5, (H3.out.2.2.alloc H3.out.2.2.size _).grown hgrow5 (by simp; omega) (fun j hj => (H3.out.2.1.lt j hj).1)⟩
          clear hown5 hgrow5 hnil5 hwh5 H3 HNW d0 d1 d2 d3 d4 d5 s0 s1 s2 s3 s4 s5 sz r0 q1 q2
          go_wp2
          go_roundw
          case rel => exact ⟨k + 1, by omega, by go_num, H5.out.1, H5.out.2⟩
          case measure => simp [intOf]; omega
    · have hkl : k = L.length := by omega
      have hlt' : ¬ (k : Int) < (L.length : Int) := by omega
      have HZ : Hid (∃ v, Ending.returned u3 = .returned v ∧ wo.ownsRow w.heap.size 33 6 v (latL V n).length (cellsE (latL V n)) ∧ Below w.heap.size w wo) := by
        rw [hkl, List.take_length] at hown
        rw [← HLe.out]
        exact ⟨u3, rfl, own_lo hown H1.out.2.size, H1.out.2.trans (hBr.mono H1.out.2.size)⟩
      clear hown hBr hkl
      go_wp2
      go_ret
      exact HZ.out

/-- What CompactLog answers. -/
noncomputable def coL (V : Nat → EntryV) (n : Nat) : List EntryV := if logB V n = true then latL V n else []
theorem coL_len (V : Nat → EntryV) (n : Nat) : (coL V n).length ≤ 80 := by
  unfold coL; split
  · rename_i h
    have h1 := log_80 h
    have := latL_len V n
    omega
  · simp
def ComPost (L : List EntryV) (ok : Bool) (w : World) (r : Ending) (w' : World) : Prop :=
  ∃ a' c', r = .returned (.tuple #[.slice a' L.length c', .bool ok]) ∧ SRow w' w.heap.size w'.heap.size a' L.length 6 (entryF (vE L)) ∧ Below w.heap.size w w'
theorem com_no {V : Nat → EntryV} {n : Nat} {w w' : World} (h : logB V n = false) (hb : Below w.heap.size w w') : ComPost (coL V n) (logB V n) w (.returned (.tuple #[.slice none 0 0, .bool false])) w' := by
  have e : coL V n = [] := by simp [coL, h]
  rw [e, h]
  exact ⟨none, 0, rfl, ⟨Or.inl rfl, Nat.le_refl _⟩, hb⟩
theorem com_yes {V : Nat → EntryV} {n : Nat} {w w' : World} {base : Nat} {a' : Option Addr} {c' : Nat} {R : List EntryV} (h : logB V n = true) (hR : R = latL V n) (ho : w'.ownsRow base 33 6 (.slice a' R.length c') R.length (cellsE R)) (hl : w.heap.size ≤ base) (hb : Below w.heap.size w w') : ComPost (coL V n) (logB V n) w (.returned (.tuple #[.slice a' R.length c', .bool true])) w' := by
  have e : coL V n = R := by simp [coL, h, hR]
  rw [e, h]
  obtain ⟨a2, c2, e2, _, hrow⟩ := SRow.of (F := entryF (vE R)) (c := 6) (own_lo ho hl)
  simp only [Value.slice.injEq, true_and] at e2
  obtain ⟨rfl, rfl⟩ := e2
  exact ⟨a', c', rfl, hrow, hb⟩

set_option maxRecDepth 100000 in
set_option maxHeartbeats 4000000 in
theorem specCompactLog_any (a : Option Addr) (n cap : Nat) (V : Nat → EntryV) (w : World) (hn : n ≤ 1048576) (hcap : n ≤ cap) (hz : ∀ i, i < n → (V i).f1.size ≤ maxLen ∧ (V i).f2.size ≤ maxLen) (hs : Sl w a n 6 (entryF V)) :
    Calls Try.prog 31 #[.slice a n cap] w fun r w' => ComPost (coL V n) (logB V n) w r w' := by
  have HS : Hid (Sl w a n 6 (entryF V) ∧ (∀ i, i < n → (V i).f1.size ≤ maxLen ∧ (V i).f2.size ≤ maxLen)) := ⟨hs, hz⟩
  clear hs hz
  go_enter Try.func31, Try.ntmps31
  go_wp2_with fail
  refine (specGoodLog_any _ _ _ V _ hn hcap HS.out.2 HS.out.1).mono ?_
  rintro r w1 ⟨rfl, hb⟩
  have H1 : Hid (Below w.heap.size w w1) := hb
  clear hb
  cases e1 : logB V n
  · have HN : Hid (ComPost (coL V n) (logB V n) w (.returned (.tuple #[.slice none 0 0, .bool false])) w1) := com_no e1 H1.out
    go_wp2
    exact bodyPost_ret (v := .tuple #[.slice none 0 0, .bool false]) (by simp [results, Try.results31, go_sem]) rfl HN.out
  have h80 := log_80 e1
  go_wp2_with fail
  refine (l6Compact_any _ _ _ V _ (by omega) (HS.out.1.below H1.out (Nat.le_refl _))).mono ?_
  rintro r w2 ⟨v, rfl, ho, hb⟩
  obtain ⟨R, hR⟩ : ∃ R, R = latL V n := ⟨_, rfl⟩
  rw [← hR] at ho
  obtain ⟨a2, c2, rfl, _, _⟩ := SRow.of (F := entryF (vE R)) (c := 6) ho
  have HZ : Hid (ComPost (coL V n) (logB V n) w (.returned (.tuple #[.slice a2 R.length c2, .bool true])) w2) := com_yes e1 hR ho H1.out.size (below_nx H1.out hb)
  clear ho hb hR
  go_wp2
  exact bodyPost_ret (v := .tuple #[.slice a2 R.length c2, .bool true]) (by simp [results, Try.results31, go_sem]) rfl HZ.out

set_option maxRecDepth 100000 in
set_option maxHeartbeats 8000000 in
theorem compactLog_any (a : Option Addr) (n cap : Nat) (V : Nat → EntryV) (w : World) (hn : n ≤ 1048576) (hcap : n ≤ cap) (hz : ∀ i, i < n → (V i).f1.size ≤ maxLen ∧ (V i).f2.size ≤ maxLen) (hs : Sl w a n 6 (entryF V)) :
    Calls Try.prog 18 #[.slice a n cap] w fun r w' => ComPost (coL V n) (logB V n) w r w' := by
  have HS : Hid (Sl w a n 6 (entryF V) ∧ (∀ i, i < n → (V i).f1.size ≤ maxLen ∧ (V i).f2.size ≤ maxLen)) := ⟨hs, hz⟩
  clear hs hz
  go_enter Try.func18, Try.ntmps18
  go_wp2_with fail
  refine (goodLog_any _ _ _ V _ hn hcap HS.out.2 HS.out.1).mono ?_
  rintro r w1 ⟨rfl, hb⟩
  have H1 : Hid (Below w.heap.size w w1) := hb
  clear hb
  cases e1 : logB V n
  · have HN : Hid (ComPost (coL V n) (logB V n) w (.returned (.tuple #[.slice none 0 0, .bool false])) w1) := com_no e1 H1.out
    go_wp2
    exact bodyPost_ret (v := .tuple #[.slice none 0 0, .bool false]) (by simp [results, Try.results18, go_sem]) rfl HN.out
  have HE : Hid (logB V n = true) := e1
  go_wp2_with fail
  refine (entriesOf_any _ _ _ _).mono ?_
  rintro r w2 ⟨rfl, rfl⟩
  have bN := Boxed.new w1 23 (.slice a n cap)
  have hd := Go.Joins.below_alloc1 w1 (.cells #[.slice a n cap] 23)
  have HQ : Hid (SeqStopsK Fence.wide 4 Try.prog 56 #[.pointer (some ⟨w1.heap.size, 0, none⟩)] (fun x : Nat => #[.agg #[.int .i64 (vGd V n x).f0, .string (vGd V n x).f1, .string (vGd V n x).f2, .int .i64 (vGd V n x).f3, .int .i64 (vGd V n x).f4, .bool (vGd V n x).f5]]) (Below (w1.alloc (.cells #[.slice a n cap] 23)).heap.size) (fun ys => ys = List.range n) (fun pre => ∃ k, k ≤ n ∧ pre = List.range k) n (w1.alloc (.cells #[.slice a n cap] 23))) :=
    ent_stops 4 (by omega) w1.heap.size a n cap (vGd V n) hn (w1.alloc (.cells #[.slice a n cap] 23)) (by simp) (fun i hi => by rw [vGd_at hi]; have := log_ok e1 hi; omega) bN.cell (gd_sl (HS.out.1.below (below_nx H1.out hd) (Nat.le_refl _)))
  have H2 : Hid (Below w.heap.size w (w1.alloc (.cells #[.slice a n cap] 23))) := below_nx H1.out hd
  clear bN hd
  go_wp2_with fail
  refine ((callsIn_wide (n := 5)).1 (latestOf_in 5 (by omega) 56 #[.pointer (some ⟨w1.heap.size, 0, none⟩)] (enters_of Try.func56 (by kernel_rfl) rfl) n hn (vGd V n) (gd_good e1) _ HQ.out)).mono ?_
  rintro r w3 ⟨v, rfl, hown, hb⟩
  rw [latL_gd V n n (Nat.le_refl _)] at hown
  obtain ⟨R, hR⟩ : ∃ R, R = latL V n := ⟨_, rfl⟩
  rw [← hR] at hown
  obtain ⟨a2, c2, rfl, _, _⟩ := SRow.of (F := entryF (vE R)) (c := 6) hown
  have HZ : Hid (ComPost (coL V n) (logB V n) w (.returned (.tuple #[.slice a2 R.length c2, .bool true])) w3) := com_yes HE.out hR hown (by have := H2.out.size; omega) (below_nx H2.out hb)
  clear hown hb hR HQ H2
  go_wp2
  exact bodyPost_ret (v := .tuple #[.slice a2 R.length c2, .bool true]) (by simp [results, Try.results18, go_sem]) rfl HZ.out
end Go.Proofs.Ytiepfdkfadbllaa
