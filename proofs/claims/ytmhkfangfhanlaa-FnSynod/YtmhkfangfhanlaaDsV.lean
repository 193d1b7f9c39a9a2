/- Synods: draws of proposals and of steps. -/
import Derived.Test.YtmhkfangfhanlaaMgG
import Derived.Test.YtmhkfangfhanlaaMgH
namespace Go.Proofs.Ytmhkfangfhanlaa
open Go.RowKit
set_option linter.unusedVariables false
set_option linter.unusedSimpArgs false

set_option maxHeartbeats 400000 in
theorem of_any (g : Nat) (a : Option Addr) (n cap : Nat) (X : Nat → Int) (t : Nat) (l lc m : Nat) (Z : Nat → ByteArray) (w : World) (ht : t ≤ 999990) (hc : Cur w g a n cap X t) (hl : l ≠ g) (hls : l < w.heap.size) (hm : 0 < m) (hm5 : m ≤ 5)
    (cs : ∀ i, i < m → w.cell? ⟨l, i, none⟩ = some (.string (Z i))) (zs : ∀ i, i < m → (Z i).size ≤ 21) :
    Calls Try.prog 111 #[.pointer (some ⟨g, 0, none⟩), .slice (some ⟨l, 0, none⟩) m lc] w fun r w' => ∃ s : ByteArray, s.size ≤ 21 ∧ r = .returned (.string s) ∧ Drew g a n cap X (t + 2) w w' := by
  have HC : Hid (Cur w g a n cap X t) := hc
  have HZ : Hid ((∀ i, i < m → w.cell? ⟨l, i, none⟩ = some (.string (Z i))) ∧ ∀ i, i < m → (Z i).size ≤ 21) := ⟨cs, zs⟩
  clear hc cs zs
  go_enter Try.func111, Try.ntmps111
  go_wp2_with fail
  refine (pick_any _ _ _ _ _ _ _ _ ht (by omega) HC.out).mono ?_
  rintro r w1 ⟨x, hx, rfl, hd⟩
  obtain ⟨i, him, hix⟩ : ∃ i : Nat, i < m ∧ x = (i : Int) := ⟨x.toNat, by omega, by omega⟩
  subst hix
  have H1 : Hid (Drew g a n cap X (t + 2) w w1) := hd
  have c0 := (World.cell?_of_block (a := ⟨l, i, none⟩) (hd.2.2.2.2.2 l hls (by omega))).trans (HZ.out.1 i him)
  have hz := HZ.out.2 i him
  have him' : (i : Int) < (m : Int) := by omega
  clear hd HC HZ
  go_wp2
  go_ret
  exact ⟨Z i, hz, rfl, H1.out⟩
/-- The cells of a list of texts that was just laid. -/
theorem str_new (w : World) (L : List ByteArray) (e : TypeId) : ∀ i, i < L.length → (w.alloc (.cells (L.map Value.string).toArray e)).cell? ⟨w.heap.size, i, none⟩ = some (.string (L.getD i ⟨#[]⟩)) := by
  intro i hi
  have := cells_new w (L.map Value.string) e i (.string (L.getD i ⟨#[]⟩)) (by simp [List.getD, hi])
  have e1 : ((⟨w.heap.size, 0, none⟩ : Addr).add i) = ⟨w.heap.size, i, none⟩ := by unfold Addr.add; split <;> simp_all
  rw [e1] at this
  exact this
theorem str_small {L : List ByteArray} (h : L.all (fun s => decide (s.size ≤ 21)) = true) : ∀ i, i < L.length → (L.getD i ⟨#[]⟩).size ≤ 21 := by
  intro i hi
  have := List.all_eq_true.1 h (L[i]) (List.getElem_mem hi)
  simpa [List.getD, hi] using this
set_option maxRecDepth 100000 in
set_option maxHeartbeats 1000000 in
theorem value_any (g : Nat) (a : Option Addr) (n cap : Nat) (X : Nat → Int) (t : Nat) (w : World) (ht : t ≤ 900000) (hc : Cur w g a n cap X t) :
    Calls Try.prog 81 #[.pointer (some ⟨g, 0, none⟩)] w fun r w' => ∃ s : ByteArray, s.size ≤ 21 ∧ r = .returned (.string s) ∧ Drew g a n cap X (t + 4) w w' := by
  have hg : g < w.heap.size := hc.2.2.2.2.2.1
  have HC : Hid (Cur w g a n cap X t) := hc
  clear hc
  go_enter Try.func81, Try.ntmps81
  go_wp2_with fail
  refine (one_any _ _ _ _ _ _ _ _ (by omega) (by omega) HC.out).mono ?_
  rintro r w1 ⟨b, rfl, hd⟩
  have H1 : Hid (Drew g a n cap X (t + 2) w w1) := hd
  have hz1 : g < w1.heap.size := hd.1.2.2.2.2.2.1
  clear hd HC
  cases b
  · go_wp2_with fail
    refine (of_any g a n cap X (t + 2) w1.heap.size _ 5 (fun i => [⟨#[49]⟩, ⟨#[50]⟩, ⟨#[]⟩, ⟨#[118, 32, 119]⟩, ⟨#[120]⟩].getD i ⟨#[]⟩) _ (by omega) (H1.out.1.next (Go.Joins.below_alloc1 _ _)) (by omega) (by simp) (by omega) (by omega) (str_new w1 [⟨#[49]⟩, ⟨#[50]⟩, ⟨#[]⟩, ⟨#[118, 32, 119]⟩, ⟨#[120]⟩] _) (str_small (L := [⟨#[49]⟩, ⟨#[50]⟩, ⟨#[]⟩, ⟨#[118, 32, 119]⟩, ⟨#[120]⟩]) rfl)).mono ?_
    rintro r w2 ⟨s, hs, rfl, hd⟩
    have H2 : Hid (Drew g a n cap X (t + 4) w w2) := ⟨hd.1, (H1.out.2.alloc _).trans hd.2⟩
    clear hd H1
    go_wp2
    go_ret
    exact ⟨s, hs, rfl, H2.out⟩
  · go_wp2_with fail
    refine (of_any g a n cap X (t + 2) w1.heap.size _ 3 (fun i => [⟨#[97, 59, 98]⟩, ⟨#[10]⟩, ⟨#[49, 50, 51, 52, 53, 54, 55, 56, 57, 48, 49, 50, 51, 52, 53, 54, 55, 56, 57, 48, 49]⟩].getD i ⟨#[]⟩) _ (by omega) (H1.out.1.next (Go.Joins.below_alloc1 _ _)) (by omega) (by simp) (by omega) (by omega) (str_new w1 [⟨#[97, 59, 98]⟩, ⟨#[10]⟩, ⟨#[49, 50, 51, 52, 53, 54, 55, 56, 57, 48, 49, 50, 51, 52, 53, 54, 55, 56, 57, 48, 49]⟩] _) (str_small (L := [⟨#[97, 59, 98]⟩, ⟨#[10]⟩, ⟨#[49, 50, 51, 52, 53, 54, 55, 56, 57, 48, 49, 50, 51, 52, 53, 54, 55, 56, 57, 48, 49]⟩]) rfl)).mono ?_
    rintro r w2 ⟨s, hs, rfl, hd⟩
    have H2 : Hid (Drew g a n cap X (t + 4) w w2) := ⟨hd.1, (H1.out.2.alloc _).trans hd.2⟩
    clear hd H1
    go_wp2
    go_ret
    exact ⟨s, hs, rfl, H2.out⟩
set_option maxHeartbeats 400000 in
theorem amongC_any (g : Nat) (a : Option Addr) (n cap : Nat) (X : Nat → Int) (t : Nat) (l lc : Nat) (y0 y1 y2 : Int) (w : World) (ht : t ≤ 999990) (hc : Cur w g a n cap X t) (hl : l ≠ g) (hls : l < w.heap.size)
    (c0 : w.cell? ⟨l, 0, none⟩ = some (.int .i64 y0)) (c1 : w.cell? ⟨l, 1, none⟩ = some (.int .i64 y1)) (c2 : w.cell? ⟨l, 2, none⟩ = some (.int .i64 y2)) :
    Calls Try.prog 80 #[.pointer (some ⟨g, 0, none⟩), .slice (some ⟨l, 0, none⟩) 3 lc] w fun r w' => ∃ x : Int, (x = y0 ∨ x = y1 ∨ x = y2) ∧ r = .returned (.int .i64 x) ∧ Drew g a n cap X (t + 2) w w' := by
  have HC : Hid (Cur w g a n cap X t) := hc
  clear hc
  go_enter Try.func80, Try.ntmps80
  go_wp2_with fail
  refine (pick_any _ _ _ _ _ _ _ _ ht (by omega) HC.out).mono ?_
  rintro r w1 ⟨x, hx, rfl, hd⟩
  have H1 : Hid (Drew g a n cap X (t + 2) w w1) := hd
  have hk := hd.2.2.2.2.2 l hls (by omega)
  have d0 := (World.cell?_of_block (a := ⟨l, 0, none⟩) hk).trans c0
  have d1 := (World.cell?_of_block (a := ⟨l, 1, none⟩) hk).trans c1
  have d2 := (World.cell?_of_block (a := ⟨l, 2, none⟩) hk).trans c2
  clear hd HC hk c0 c1 c2
  have h3 : x = 0 ∨ x = 1 ∨ x = 2 := by omega
  rcases h3 with rfl | rfl | rfl
  all_goals
    go_wp2
    go_ret
    exact ⟨_, by simp, rfl, H1.out⟩

theorem Drew.grownX {w w' w'' : World} {g : Nat} {a : Option Addr} {n cap : Nat} {X : Nat → Int} {t : Nat} {row : Option Nat} (h : Drew g a n cap X t w w') (hg : w'.grownBy w'' row) (hgw : g < w.heap.size) (hne : ∀ j, row = some j → w.heap.size ≤ j) : Drew g a n cap X t w w'' := by
  refine ⟨h.1.grown hg (fun j hj => by have := hne j hj; omega), ⟨hg.os.trans h.2.1, hg.tape.trans h.2.2.1, hg.output.trans h.2.2.2.1, Nat.le_trans h.2.2.2.2.1 hg.size, fun k hk hx => ?_⟩⟩
  rw [hg.block k (Nat.lt_of_lt_of_le hk h.2.2.2.2.1) (fun e => by have := hne k e.symm; omega)]
  exact h.2.2.2.2.2 k hk hx
/-- A list of flat data that is being built while the cursor draws. -/
def DvH (e : Ty) (y : TypeId) (W w : World) (g : Nat) (a : Option Addr) (n cap : Nat) (X : Nat → Int) (t : Nat) (v : Value) (L : List e.T) : Prop := OwnX W w.heap.size (.list e y) [v] L (Btw w.heap.size W.heap.size) ∧ Drew g a n cap X t w W
section
variable {e : Ty} {y : TypeId} {W W' w : World} {g : Nat} {a : Option Addr} {n cap : Nat} {X : Nat → Int} {t t' : Nat} {v v' : Value} {L L2 : List e.T}
theorem DvH.draw (h : DvH e y W w g a n cap X t v L) (hd : Drew g a n cap X t' W W') (hg : g < w.heap.size) : DvH e y W' w g a n cap X t' v L :=
  ⟨(h.1.keep (fun k hk hs => hd.2.2.2.2.2 k hk (by have := hs.1; omega))).mono (fun k hk => ⟨hk.1, Nat.lt_of_lt_of_le hk.2 hd.2.2.2.2.1⟩), h.2.trans hd⟩
theorem DvH.alloc (h : DvH e y W w g a n cap X t v L) (o : Obj) : DvH e y (W.alloc o) w g a n cap X t v L :=
  ⟨(h.1.next (Go.Joins.below_alloc1 _ _)).mono (fun k hk => ⟨hk.1, Nat.lt_of_lt_of_le hk.2 (by simp)⟩), ⟨h.2.1.next (Go.Joins.below_alloc1 _ _), h.2.2.alloc _⟩⟩
theorem DvH.app {S : Nat → Prop} (he : e.flatB = true) (h : DvH e y W w g a n cap X t v L) (hg : g < w.heap.size) (hO : OwnX W' w.heap.size (.list e y) [v'] (L ++ L2) S) (hgr : W.grownBy W' v.ownBlock) : DvH e y W' w g a n cap X t v' (L ++ L2) := by
  obtain ⟨row, _⟩ := hO.flat he
  obtain ⟨row0, _⟩ := h.1.flat he
  exact ⟨OwnX.of_flat he row (fun k hk => row.lt k hk), h.2.grownX hgr hg (fun j hj => (row0.lt j hj).1)⟩
theorem DvH.set (h : DvH e y W w g a n cap X t v L) {b : Nat} (hg : g < w.heap.size) (hb : w.heap.size ≤ b) (hn : v.ownBlock ≠ some b) (he : e.flatB = true) (q : Nat) (u : Value) : DvH e y (W.setCell ⟨b, q, none⟩ u) w g a n cap X t v L := by
  obtain ⟨row, _⟩ := h.1.flat he
  have h1 : OwnX W w.heap.size (.list e y) [v] L (fun k => v.ownBlock = some k) := OwnX.of_flat he row (fun k hk => hk)
  have h2 := h1.set (p := ⟨b, q, none⟩) hn u
  refine ⟨h2.mono (fun k hk => by have := row.lt k hk; simp only [Btw, World.size_setCell]; exact this), h.2.out hg hb u⟩
end

def PrpP (g : Nat) (a : Option Addr) (n cap : Nat) (X : Nat → Int) (t : Nat) (w : World) (r : Ending) (w' : World) : Prop := ∃ (L : List (Sh.T .str)) (v : Value), (L.length ≤ 9 ∧ ∀ s ∈ L, s.size ≤ 21) ∧ r = .returned v ∧ DvH .str 9 w' w g a n cap X (t + 60) v L
set_option maxRecDepth 100000 in
set_option maxHeartbeats 4000000 in
theorem proposals_any (g : Nat) (a : Option Addr) (n cap : Nat) (X : Nat → Int) (t : Nat) (w : World) (ht : t ≤ 10000) (hc : Cur w g a n cap X t) :
    Calls Try.prog 45 #[.pointer (some ⟨g, 0, none⟩)] w (PrpP g a n cap X t w) := by
  have hgw : g < w.heap.size := hc.2.2.2.2.2.1
  have HC : Hid (Cur w g a n cap X t) := hc
  clear hc
  obtain ⟨i0, hi0, hz0, hz1, hz2⟩ := info_parts inf_string
  go_enter Try.func45, Try.ntmps45
  go_wp2_with fail
  refine (pick_any _ _ _ _ _ _ _ _ (by omega) (by omega) HC.out).mono ?_
  rintro _ w1 ⟨x1, hx1, rfl, hd⟩
  have H1 : Hid (Drew g a n cap X (t + 2) w w1) := hd
  clear hd HC
  go_wp2_with fail
  refine (one_any _ _ _ _ _ _ _ _ (by omega) (by omega) H1.out.1).mono ?_
  rintro _ w2 ⟨b1, rfl, hd⟩
  have H2 : Hid (Drew g a n cap X (t + 4) w w2) := H1.out.trans hd
  clear hd H1
  cases b1
  · obtain ⟨M, hM, hMe⟩ : ∃ M : Nat, M ≤ 9 ∧ 1 + x1 = (M : Int) := ⟨(1 + x1).toNat, by omega, by omega⟩
    have HM : Hid (1 + x1 = (M : Int)) := hMe
    have HD : Hid (DvH .str 9 w2 w g a n cap X (t + 6) (.slice none 0 0) []) := ⟨OwnX.nil', H2.out.up (by omega)⟩
    clear hMe H2
    go_wp2
    go_loopw [4, 3] (fun y v wr => ∃ (k : Nat) (L : List (Sh.T .str)), k ≤ M ∧ y = .int .i64 ((M : Int) - (k : Int)) ∧ (L.length = k ∧ ∀ s ∈ L, s.size ≤ 21) ∧ DvH .str 9 wr w g a n cap X (t + 6 + 4 * k) v L) (fun y _ _ => (intOf y).toNat)
    case atStart => exact ⟨0, [], Nat.zero_le _, by have := HM.out; congr 1 <;> omega, ⟨rfl, fun s hs => by cases hs⟩, HD.out⟩
    case round =>
      obtain ⟨k, L, hk, rfl, hL, hH⟩ := hrel
      have HH : Hid (DvH .str 9 wr w g a n cap X (t + 6 + 4 * k) u3 L) := hH
      have HLL : Hid (L.length = k ∧ ∀ s ∈ L, s.size ≤ 21) := hL
      clear hH HD hL
      by_cases hlt : k < M
      · have hlt' : (0 : Int) < (M : Int) - (k : Int) := by omega
        go_wp2_with fail
        refine (value_any _ _ _ _ _ _ _ (by omega) HH.out.2.1).mono ?_
        rintro _ w2 ⟨s, hs, rfl, hd⟩
        have H2 : Hid (DvH .str 9 w2 w g a n cap X (t + 6 + 4 * (k + 1)) u3 L) := HH.out.draw hd hgw
        have HS : Hid (s.size ≤ 21) := hs
        have H3 := Hid.intro (H2.out.alloc (.cells #[.string s] 9))
        have hb1 : L.length + 1 ≤ maxLen := by have := HLL.out.1; unfold maxLen; omega
        have hc1 : (L.length + 1) * 16 ≤ 140737488355328 := by have := HLL.out.1; omega
        clear hd HH hs
        go_wp2_with (first
          | (at_builtin; refine wpList_appx rfl (.tmp 17) (.tmp 20) 23 9 rfl i0 (.string ⟨#[]⟩) 16 w.heap.size .str rfl Try.underlying23 hi0 hz0 hz1 hz2 rfl (by decide) u3 L [s] _ rfl H3.out.1 (some ⟨w2.heap.size, 0, none⟩) 1 rfl (lies_one (w := w2) (e := .str) (cs := [.string s]) (x := s) 9 rfl rfl) hb1 hc1 H3.out.2.2.2.2.2.1 ?_; intro v9 w9 hO9 hg9 hwh9; have H9 := Hid.intro (H3.out.app (e := .str) rfl hgw hO9 hg9); clear hO9 hg9 hwh9)
          | go_in)
        go_roundw
        case rel => exact ⟨k + 1, L ++ [s], by omega, by congr 1; omega, ⟨by have := HLL.out.1; rw [List.length_append]; simp; omega, fun z hz => by rcases List.mem_append.1 hz with q | q; (· exact HLL.out.2 z q); (rw [List.mem_singleton.1 q]; exact HS.out)⟩, H9.out⟩
        case measure => simp [intOf]; omega
      · have hlt' : ¬ (0 : Int) < (M : Int) - (k : Int) := by omega
        have HP : Hid (DvH .str 9 wr w g a n cap X (t + 60) u3 L) := ⟨HH.out.1, HH.out.2.up (by omega)⟩
        go_wp2
        go_ret
        exact ⟨L, u3, ⟨by have := HLL.out.1; omega, HLL.out.2⟩, rfl, HP.out⟩
  · have hz2' : g < w2.heap.size := H2.out.1.2.2.2.2.2.1
    have HA : Hid (Cur (w2.alloc (.cells #[.int .i64 0, .int .i64 8, .int .i64 9] 3)) g a n cap X (t + 4)) := H2.out.1.next (Go.Joins.below_alloc1 _ _)
    go_wp2_with fail
    refine (amongC_any g a n cap X (t + 4) w2.heap.size _ 0 8 9 _ (by omega) HA.out (by omega) (by simp) (by simp) (by simp) (by simp)).mono ?_
    rintro _ w3 ⟨x, hx, rfl, hd⟩
    have HD : Hid (DvH .str 9 w3 w g a n cap X (t + 6) (.slice none 0 0) []) := ⟨OwnX.nil', ⟨hd.1, (H2.out.2.alloc _).trans hd.2⟩⟩
    obtain ⟨M, hM, hMe⟩ : ∃ M : Nat, M ≤ 9 ∧ x = (M : Int) := ⟨x.toNat, by omega, by omega⟩
    have HM : Hid (x = (M : Int)) := hMe
    clear hd hx HA hMe H2
    go_wp2
    go_loopw [4, 3] (fun y v wr => ∃ (k : Nat) (L : List (Sh.T .str)), k ≤ M ∧ y = .int .i64 ((M : Int) - (k : Int)) ∧ (L.length = k ∧ ∀ s ∈ L, s.size ≤ 21) ∧ DvH .str 9 wr w g a n cap X (t + 6 + 4 * k) v L) (fun y _ _ => (intOf y).toNat)
    case atStart => exact ⟨0, [], Nat.zero_le _, by have := HM.out; congr 1 <;> omega, ⟨rfl, fun s hs => by cases hs⟩, HD.out⟩
    case round =>
      obtain ⟨k, L, hk, rfl, hL, hH⟩ := hrel
      have HH : Hid (DvH .str 9 wr w g a n cap X (t + 6 + 4 * k) u3 L) := hH
      have HLL : Hid (L.length = k ∧ ∀ s ∈ L, s.size ≤ 21) := hL
      clear hH HD hL
      by_cases hlt : k < M
      · have hlt' : (0 : Int) < (M : Int) - (k : Int) := by omega
        go_wp2_with fail
        refine (value_any _ _ _ _ _ _ _ (by omega) HH.out.2.1).mono ?_
        rintro _ w2 ⟨s, hs, rfl, hd⟩
        have H2 : Hid (DvH .str 9 w2 w g a n cap X (t + 6 + 4 * (k + 1)) u3 L) := HH.out.draw hd hgw
        have HS : Hid (s.size ≤ 21) := hs
        have H3 := Hid.intro (H2.out.alloc (.cells #[.string s] 9))
        have hb1 : L.length + 1 ≤ maxLen := by have := HLL.out.1; unfold maxLen; omega
        have hc1 : (L.length + 1) * 16 ≤ 140737488355328 := by have := HLL.out.1; omega
        clear hd HH hs
        go_wp2_with (first
          | (at_builtin; refine wpList_appx rfl (.tmp 17) (.tmp 20) 23 9 rfl i0 (.string ⟨#[]⟩) 16 w.heap.size .str rfl Try.underlying23 hi0 hz0 hz1 hz2 rfl (by decide) u3 L [s] _ rfl H3.out.1 (some ⟨w2.heap.size, 0, none⟩) 1 rfl (lies_one (w := w2) (e := .str) (cs := [.string s]) (x := s) 9 rfl rfl) hb1 hc1 H3.out.2.2.2.2.2.1 ?_; intro v9 w9 hO9 hg9 hwh9; have H9 := Hid.intro (H3.out.app (e := .str) rfl hgw hO9 hg9); clear hO9 hg9 hwh9)
          | go_in)
        go_roundw
        case rel => exact ⟨k + 1, L ++ [s], by omega, by congr 1; omega, ⟨by have := HLL.out.1; rw [List.length_append]; simp; omega, fun z hz => by rcases List.mem_append.1 hz with q | q; (· exact HLL.out.2 z q); (rw [List.mem_singleton.1 q]; exact HS.out)⟩, H9.out⟩
        case measure => simp [intOf]; omega
      · have hlt' : ¬ (0 : Int) < (M : Int) - (k : Int) := by omega
        have HP : Hid (DvH .str 9 wr w g a n cap X (t + 60) u3 L) := ⟨HH.out.1, HH.out.2.up (by omega)⟩
        go_wp2
        go_ret
        exact ⟨L, u3, ⟨by have := HLL.out.1; omega, HLL.out.2⟩, rfl, HP.out⟩

def mkSs (c : Bool) (x y : Int) : Sh.T shSynodStep := (c, x, y, ())
theorem snoc_len {α : Type} {l : List α} {x : α} {k : Nat} (h : l.length = k) : (l ++ [x]).length = k + 1 := by rw [List.length_append, h]; rfl
def tySStep : Ty := .pair .bool (.pair .int (.pair .int .nil))
theorem inf_SStep : (Try.prog.info? 65).map (fun i => (i.zero, i.size, i.bytes)) = some (some (.agg #[.bool false, .int .i64 0, .int .i64 0]), 3, 24) := by kernel_rfl
theorem Bx.keepB {W W' : World} {b : Nat} {vs : List Value} (h : Bx W b vs) (hb : b < W.heap.size → W'.heap[b]? = W.heap[b]?) (hz : W.heap.size ≤ W'.heap.size) : Bx W' b vs :=
  ⟨fun j hj => ⟨(World.cell?_of_block (a := ⟨b, j, none⟩) (hb h.2)).trans (h.1 j hj).1, (World.frozen?_of_block (a := ⟨b, j, none⟩) (hb h.2)).trans (h.1 j hj).2⟩, Nat.lt_of_lt_of_le h.2 hz⟩
def StsP (g : Nat) (a : Option Addr) (n cap : Nat) (X : Nat → Int) (t : Nat) (w : World) (r : Ending) (w' : World) : Prop := ∃ (L : List (Sh.T shSynodStep)) (v : Value), L.length ≤ 121 ∧ r = .returned v ∧ DvH tySStep 65 w' w g a n cap X (t + 1500) v L
set_option maxRecDepth 100000 in
set_option maxHeartbeats 8000000 in
theorem synodSteps_any (g : Nat) (a : Option Addr) (n cap : Nat) (X : Nat → Int) (t : Nat) (bl : Int) (hbl : 0 ≤ bl ∧ bl ≤ 9) (w : World) (ht : t ≤ 10000) (hc : Cur w g a n cap X t) :
    Calls Try.prog 47 #[.pointer (some ⟨g, 0, none⟩), .int .i64 bl] w (StsP g a n cap X t w) := by
  have hgw : g < w.heap.size := hc.2.2.2.2.2.1
  have HC : Hid (Cur w g a n cap X t) := hc
  clear hc
  obtain ⟨i0, hi0, hz0, hz1, hz2⟩ := info_parts inf_SStep
  go_enter Try.func47, Try.ntmps47
  go_wp2_with fail
  refine (pick_any _ _ _ _ _ _ _ _ (by omega) (by omega) HC.out).mono ?_
  rintro _ w1 ⟨x1, hx1, rfl, hd⟩
  have H1 : Hid (Drew g a n cap X (t + 2) w w1) := hd
  clear hd HC
  go_wp2_with fail
  refine (one_any _ _ _ _ _ _ _ _ (by omega) (by omega) H1.out.1).mono ?_
  rintro _ w2 ⟨b1, rfl, hd⟩
  have H2 : Hid (Drew g a n cap X (t + 4) w w2) := H1.out.trans hd
  clear hd H1
  cases b1
  · obtain ⟨M, hM, hMe⟩ : ∃ M : Nat, M ≤ 121 ∧ x1 = (M : Int) := ⟨x1.toNat, by omega, by omega⟩
    have HM : Hid (x1 = (M : Int)) := hMe
    have HD : Hid (DvH tySStep 65 w2 w g a n cap X (t + 6) (.slice none 0 0) []) := ⟨OwnX.nil', H2.out.up (by omega)⟩
    clear hMe H2
    go_wp2
    go_loopw [6, 7, 5] (fun y u v wr => ∃ (k : Nat) (tb : Int) (L : List (Sh.T shSynodStep)), k ≤ M ∧ y = .int .i64 ((M : Int) - (k : Int)) ∧ u = .int .i64 tb ∧ (1 ≤ tb ∧ tb ≤ 11) ∧ L.length = k ∧ DvH tySStep 65 wr w g a n cap X (t + 6 + 12 * k) v L) (fun y _ _ _ => (intOf y).toNat)
    case atStart => exact ⟨0, 1, [], Nat.zero_le _, by have := HM.out; congr 1 <;> omega, rfl, by omega, rfl, HD.out⟩
    case round =>
      obtain ⟨k, tb, L, hk, rfl, rfl, htb, hL, hH⟩ := hrel
      have HH : Hid (DvH tySStep 65 wr w g a n cap X (t + 6 + 12 * k) u5 L) := hH
      have HLL : Hid (L.length = k) := hL
      have HTB : Hid (1 ≤ tb ∧ tb ≤ 11) := htb
      clear hH HD hL
      by_cases hlt : k < M
      · have hlt' : (0 : Int) < (M : Int) - (k : Int) := by omega
        go_wp2_with fail
        refine (one_any _ _ _ _ _ _ _ _ (by omega) (by omega) HH.out.2.1).mono ?_
        rintro _ w4 ⟨c1, rfl, hd⟩
        have H4 : Hid (DvH tySStep 65 w4 w g a n cap X (t + 6 + 12 * k + 2) u5 L) := HH.out.draw hd hgw
        clear hd HH
        cases c1
        · have H5 : Hid (DvH tySStep 65 w4 w g a n cap X (t + 6 + 12 * k + 4) u5 L) := ⟨H4.out.1, H4.out.2.up (by omega)⟩
          clear H4
          go_wp2_with fail
          refine (one_any _ _ _ _ _ _ _ _ (by omega) (by omega) H5.out.2.1).mono ?_
          rintro _ w6 ⟨c2, rfl, hd⟩
          have H6 : Hid (DvH tySStep 65 w6 w g a n cap X (t + 6 + 12 * k + 6) u5 L) := H5.out.draw hd hgw
          clear hd H5
          go_wp2_with fail
          refine (pick_any _ _ _ _ _ _ _ _ (by omega) (by omega) H6.out.2.1).mono ?_
          rintro _ w7 ⟨x3, hx3, rfl, hd⟩
          have H7 : Hid (DvH tySStep 65 w7 w g a n cap X (t + 6 + 12 * k + 8) u5 L) := H6.out.draw hd hgw
          clear hd H6 hx3
          obtain ⟨Y, hY⟩ : ∃ x, x = w7.alloc (.cells #[.bool c2, .int .i64 (tb), .int .i64 x3] 65) := ⟨_, rfl⟩
          have HY : Hid (DvH tySStep 65 Y w g a n cap X (t + 6 + 12 * k + 8) u5 L ∧ Bx Y w7.heap.size [.bool c2, .int .i64 (tb), .int .i64 x3] ∧ w.heap.size ≤ w7.heap.size ∧ u5.ownBlock ≠ some w7.heap.size) := ⟨hY ▸ H7.out.alloc _, hY ▸ Bx.new w7 [_, _, _] _, H7.out.2.2.2.2.2.1, fun e => by have := (H7.out.1.flat rfl).1.lt _ e; omega⟩
          clear H7
          go_wp2_with fail
          rw [← hY]
          clear hY
          refine (one_any _ _ _ _ _ _ _ _ (by omega) (by omega) HY.out.1.2.1).mono ?_
          rintro _ w8 ⟨c4, rfl, hd⟩
          have H8 : Hid (DvH tySStep 65 w8 w g a n cap X (t + 6 + 12 * k + 10) u5 L) := HY.out.1.draw hd hgw
          have HX8 : Hid (Bx w8 w7.heap.size [.bool c2, .int .i64 (tb), .int .i64 x3]) := Hid.intro (HY.out.2.1.keepB (fun hlt => hd.2.2.2.2.2 _ hlt (by have := HY.out.2.2.1; omega)) hd.2.2.2.2.1)
          clear hd
          have d0 := HX8.out.cell 0 rfl
          have d1 := HX8.out.cell 1 rfl
          have d2 := HX8.out.cell 2 rfl
          have dz := HX8.out.2
          cases c4
          · skip
            have hb1 : L.length + 1 ≤ maxLen := by have := HLL.out; unfold maxLen; omega
            have hc1 : (L.length + 1) * 24 ≤ 140737488355328 := by have := HLL.out; omega
            have HA := Hid.intro (H8.out.alloc (.cells #[.bool c2, .int .i64 (tb), .int .i64 x3] 65))
            have HLO : Hid (Lies (w8.alloc (.cells #[.bool c2, .int .i64 (tb), .int .i64 x3] 65)) (.list shSynodStep) [.slice (some ⟨w8.heap.size, 0, none⟩) 1 1] [(c2, tb, x3, ())]) := Hid.intro (lies_one (w := w8) (e := shSynodStep) (cs := [.bool c2, .int .i64 (tb), .int .i64 x3]) (x := (c2, tb, x3, ())) 65 rfl mk_SynodStep)
            go_wp2_with (first
              | (at_builtin; refine wpList_appx rfl (.tmp 41) (.tmp 43) 24 65 rfl i0 (.agg #[.bool false, .int .i64 0, .int .i64 0]) 24 w.heap.size tySStep rfl Try.underlying24 hi0 hz0 hz1 hz2 rfl (by decide) u5 L [(c2, tb, x3, ())] _ rfl HA.out.1 (some ⟨w8.heap.size, 0, none⟩) 1 rfl HLO.out hb1 hc1 HA.out.2.2.2.2.2.1 ?_; intro v9 w9 hO9 hg9 hwh9; have H9 := Hid.intro (HA.out.app (e := tySStep) rfl hgw hO9 hg9); clear hO9 hg9 hwh9)
              | go_in)
            go_roundw
            case rel => exact ⟨k + 1, tb, L ++ [mkSs c2 (tb) x3], by omega, by congr 1; omega, rfl, HTB.out, snoc_len HLL.out, ⟨H9.out.1, H9.out.2.up (by omega)⟩⟩
            case measure => simp [intOf]; omega
          · go_wp2_with fail
            refine (pick_any _ _ _ _ _ _ _ _ (by omega) (by omega) H8.out.2.1).mono ?_
            rintro _ w9x ⟨x4, hx4, rfl, hd⟩
            have H9x : Hid (DvH tySStep 65 w9x w g a n cap X (t + 6 + 12 * k + 12) u5 L) := H8.out.draw hd hgw
            have HX9 : Hid (Bx w9x w7.heap.size [.bool c2, .int .i64 (tb), .int .i64 x3]) := Hid.intro (HX8.out.keepB (fun hlt => hd.2.2.2.2.2 _ hlt (by have := HY.out.2.2.1; omega)) hd.2.2.2.2.1)
            clear hd d0 d1 d2 dz HX8 H8
            have d0 := HX9.out.cell 0 rfl
            have d1 := HX9.out.cell 1 rfl
            have d2 := HX9.out.cell 2 rfl
            have dz := HX9.out.2
            have df := HX9.out.frz 1 (by simp)
            obtain ⟨Z, hZ⟩ : ∃ x, x = w9x.setCell ⟨w7.heap.size, 1, none⟩ (.int .i64 (1 + x4)) := ⟨_, rfl⟩
            have H8 : Hid (DvH tySStep 65 Z w g a n cap X (t + 6 + 12 * k + 12) u5 L) := hZ ▸ H9x.out.set hgw HY.out.2.2.1 HY.out.2.2.2 rfl 1 _
            have hZz : Z.heap.size = w9x.heap.size := by rw [hZ]; simp
            have HZZ : Hid (Z.heap.size = w9x.heap.size) := hZz
            clear hZz
            have hb1 : L.length + 1 ≤ maxLen := by have := HLL.out; unfold maxLen; omega
            have hc1 : (L.length + 1) * 24 ≤ 140737488355328 := by have := HLL.out; omega
            have HA := Hid.intro (H8.out.alloc (.cells #[.bool c2, .int .i64 (1 + x4), .int .i64 x3] 65))
            have HLO : Hid (Lies (Z.alloc (.cells #[.bool c2, .int .i64 (1 + x4), .int .i64 x3] 65)) (.list shSynodStep) [.slice (some ⟨Z.heap.size, 0, none⟩) 1 1] [(c2, 1 + x4, x3, ())]) := Hid.intro (lies_one (w := Z) (e := shSynodStep) (cs := [.bool c2, .int .i64 (1 + x4), .int .i64 x3]) (x := (c2, 1 + x4, x3, ())) 65 rfl mk_SynodStep)
            go_wp2_with (first
              | (at_builtin; rw [← hZ]; refine wpList_appx rfl (.tmp 41) (.tmp 43) 24 65 rfl i0 (.agg #[.bool false, .int .i64 0, .int .i64 0]) 24 w.heap.size tySStep rfl Try.underlying24 hi0 hz0 hz1 hz2 rfl (by decide) u5 L [(c2, 1 + x4, x3, ())] _ rfl HA.out.1 (some ⟨w9x.heap.size, 0, none⟩) 1 rfl (HZZ.out ▸ HLO.out) hb1 hc1 HA.out.2.2.2.2.2.1 ?_; intro v9 w9 hO9 hg9 hwh9; have H9 := Hid.intro (HA.out.app (e := tySStep) rfl hgw hO9 hg9); clear hO9 hg9 hwh9)
              | go_in)
            go_roundw
            case rel => exact ⟨k + 1, tb, L ++ [mkSs c2 (1 + x4) x3], by omega, by congr 1; omega, rfl, HTB.out, snoc_len HLL.out, ⟨H9.out.1, H9.out.2.up (by omega)⟩⟩
            case measure => simp [intOf]; omega
        · go_wp2_with fail
          refine (pick_any _ _ _ _ _ _ _ _ (by omega) (by omega) H4.out.2.1).mono ?_
          rintro _ w5 ⟨x5, hx5, rfl, hd⟩
          have H5 : Hid (DvH tySStep 65 w5 w g a n cap X (t + 6 + 12 * k + 4) u5 L) := H4.out.draw hd hgw
          clear hd H4 HTB
          have HTB : Hid (1 ≤ 1 + x5 ∧ 1 + x5 ≤ 11) := Hid.intro (by omega)
          go_wp2_with fail
          refine (one_any _ _ _ _ _ _ _ _ (by omega) (by omega) H5.out.2.1).mono ?_
          rintro _ w6 ⟨c2, rfl, hd⟩
          have H6 : Hid (DvH tySStep 65 w6 w g a n cap X (t + 6 + 12 * k + 6) u5 L) := H5.out.draw hd hgw
          clear hd H5
          go_wp2_with fail
          refine (pick_any _ _ _ _ _ _ _ _ (by omega) (by omega) H6.out.2.1).mono ?_
          rintro _ w7 ⟨x3, hx3, rfl, hd⟩
          have H7 : Hid (DvH tySStep 65 w7 w g a n cap X (t + 6 + 12 * k + 8) u5 L) := H6.out.draw hd hgw
          clear hd H6 hx3
          obtain ⟨Y, hY⟩ : ∃ x, x = w7.alloc (.cells #[.bool c2, .int .i64 (1 + x5), .int .i64 x3] 65) := ⟨_, rfl⟩
          have HY : Hid (DvH tySStep 65 Y w g a n cap X (t + 6 + 12 * k + 8) u5 L ∧ Bx Y w7.heap.size [.bool c2, .int .i64 (1 + x5), .int .i64 x3] ∧ w.heap.size ≤ w7.heap.size ∧ u5.ownBlock ≠ some w7.heap.size) := ⟨hY ▸ H7.out.alloc _, hY ▸ Bx.new w7 [_, _, _] _, H7.out.2.2.2.2.2.1, fun e => by have := (H7.out.1.flat rfl).1.lt _ e; omega⟩
          clear H7
          go_wp2_with fail
          rw [← hY]
          clear hY
          refine (one_any _ _ _ _ _ _ _ _ (by omega) (by omega) HY.out.1.2.1).mono ?_
          rintro _ w8 ⟨c4, rfl, hd⟩
          have H8 : Hid (DvH tySStep 65 w8 w g a n cap X (t + 6 + 12 * k + 10) u5 L) := HY.out.1.draw hd hgw
          have HX8 : Hid (Bx w8 w7.heap.size [.bool c2, .int .i64 (1 + x5), .int .i64 x3]) := Hid.intro (HY.out.2.1.keepB (fun hlt => hd.2.2.2.2.2 _ hlt (by have := HY.out.2.2.1; omega)) hd.2.2.2.2.1)
          clear hd
          have d0 := HX8.out.cell 0 rfl
          have d1 := HX8.out.cell 1 rfl
          have d2 := HX8.out.cell 2 rfl
          have dz := HX8.out.2
          cases c4
          · skip
            have hb1 : L.length + 1 ≤ maxLen := by have := HLL.out; unfold maxLen; omega
            have hc1 : (L.length + 1) * 24 ≤ 140737488355328 := by have := HLL.out; omega
            have HA := Hid.intro (H8.out.alloc (.cells #[.bool c2, .int .i64 (1 + x5), .int .i64 x3] 65))
            have HLO : Hid (Lies (w8.alloc (.cells #[.bool c2, .int .i64 (1 + x5), .int .i64 x3] 65)) (.list shSynodStep) [.slice (some ⟨w8.heap.size, 0, none⟩) 1 1] [(c2, 1 + x5, x3, ())]) := Hid.intro (lies_one (w := w8) (e := shSynodStep) (cs := [.bool c2, .int .i64 (1 + x5), .int .i64 x3]) (x := (c2, 1 + x5, x3, ())) 65 rfl mk_SynodStep)
            go_wp2_with (first
              | (at_builtin; refine wpList_appx rfl (.tmp 41) (.tmp 43) 24 65 rfl i0 (.agg #[.bool false, .int .i64 0, .int .i64 0]) 24 w.heap.size tySStep rfl Try.underlying24 hi0 hz0 hz1 hz2 rfl (by decide) u5 L [(c2, 1 + x5, x3, ())] _ rfl HA.out.1 (some ⟨w8.heap.size, 0, none⟩) 1 rfl HLO.out hb1 hc1 HA.out.2.2.2.2.2.1 ?_; intro v9 w9 hO9 hg9 hwh9; have H9 := Hid.intro (HA.out.app (e := tySStep) rfl hgw hO9 hg9); clear hO9 hg9 hwh9)
              | go_in)
            go_roundw
            case rel => exact ⟨k + 1, 1 + x5, L ++ [mkSs c2 (1 + x5) x3], by omega, by congr 1; omega, rfl, HTB.out, snoc_len HLL.out, ⟨H9.out.1, H9.out.2.up (by omega)⟩⟩
            case measure => simp [intOf]; omega
          · go_wp2_with fail
            refine (pick_any _ _ _ _ _ _ _ _ (by omega) (by omega) H8.out.2.1).mono ?_
            rintro _ w9x ⟨x4, hx4, rfl, hd⟩
            have H9x : Hid (DvH tySStep 65 w9x w g a n cap X (t + 6 + 12 * k + 12) u5 L) := H8.out.draw hd hgw
            have HX9 : Hid (Bx w9x w7.heap.size [.bool c2, .int .i64 (1 + x5), .int .i64 x3]) := Hid.intro (HX8.out.keepB (fun hlt => hd.2.2.2.2.2 _ hlt (by have := HY.out.2.2.1; omega)) hd.2.2.2.2.1)
            clear hd d0 d1 d2 dz HX8 H8
            have d0 := HX9.out.cell 0 rfl
            have d1 := HX9.out.cell 1 rfl
            have d2 := HX9.out.cell 2 rfl
            have dz := HX9.out.2
            have df := HX9.out.frz 1 (by simp)
            obtain ⟨Z, hZ⟩ : ∃ x, x = w9x.setCell ⟨w7.heap.size, 1, none⟩ (.int .i64 (1 + x4)) := ⟨_, rfl⟩
            have H8 : Hid (DvH tySStep 65 Z w g a n cap X (t + 6 + 12 * k + 12) u5 L) := hZ ▸ H9x.out.set hgw HY.out.2.2.1 HY.out.2.2.2 rfl 1 _
            have hZz : Z.heap.size = w9x.heap.size := by rw [hZ]; simp
            have HZZ : Hid (Z.heap.size = w9x.heap.size) := hZz
            clear hZz
            have hb1 : L.length + 1 ≤ maxLen := by have := HLL.out; unfold maxLen; omega
            have hc1 : (L.length + 1) * 24 ≤ 140737488355328 := by have := HLL.out; omega
            have HA := Hid.intro (H8.out.alloc (.cells #[.bool c2, .int .i64 (1 + x4), .int .i64 x3] 65))
            have HLO : Hid (Lies (Z.alloc (.cells #[.bool c2, .int .i64 (1 + x4), .int .i64 x3] 65)) (.list shSynodStep) [.slice (some ⟨Z.heap.size, 0, none⟩) 1 1] [(c2, 1 + x4, x3, ())]) := Hid.intro (lies_one (w := Z) (e := shSynodStep) (cs := [.bool c2, .int .i64 (1 + x4), .int .i64 x3]) (x := (c2, 1 + x4, x3, ())) 65 rfl mk_SynodStep)
            go_wp2_with (first
              | (at_builtin; rw [← hZ]; refine wpList_appx rfl (.tmp 41) (.tmp 43) 24 65 rfl i0 (.agg #[.bool false, .int .i64 0, .int .i64 0]) 24 w.heap.size tySStep rfl Try.underlying24 hi0 hz0 hz1 hz2 rfl (by decide) u5 L [(c2, 1 + x4, x3, ())] _ rfl HA.out.1 (some ⟨w9x.heap.size, 0, none⟩) 1 rfl (HZZ.out ▸ HLO.out) hb1 hc1 HA.out.2.2.2.2.2.1 ?_; intro v9 w9 hO9 hg9 hwh9; have H9 := Hid.intro (HA.out.app (e := tySStep) rfl hgw hO9 hg9); clear hO9 hg9 hwh9)
              | go_in)
            go_roundw
            case rel => exact ⟨k + 1, 1 + x5, L ++ [mkSs c2 (1 + x4) x3], by omega, by congr 1; omega, rfl, HTB.out, snoc_len HLL.out, ⟨H9.out.1, H9.out.2.up (by omega)⟩⟩
            case measure => simp [intOf]; omega
      · have hlt' : ¬ (0 : Int) < (M : Int) - (k : Int) := by omega
        have HP : Hid (DvH tySStep 65 wr w g a n cap X (t + 1500) u5 L) := ⟨HH.out.1, HH.out.2.up (by omega)⟩
        go_wp2
        go_ret
        exact ⟨L, u5, by have := HLL.out; omega, rfl, HP.out⟩
  · go_wp2_with fail
    refine (pick_any _ _ _ _ _ _ _ _ (by omega) (by omega) H2.out.1).mono ?_
    rintro _ w3 ⟨x2, hx2, rfl, hd⟩
    have HD : Hid (DvH tySStep 65 w3 w g a n cap X (t + 6) (.slice none 0 0) []) := ⟨OwnX.nil', H2.out.trans hd⟩
    obtain ⟨M, hM, hMe⟩ : ∃ M : Nat, M ≤ 121 ∧ 90 + x2 = (M : Int) := ⟨(90 + x2).toNat, by omega, by omega⟩
    have HM : Hid (90 + x2 = (M : Int)) := hMe
    clear hd hMe H2
    go_wp2
    go_loopw [6, 7, 5] (fun y u v wr => ∃ (k : Nat) (tb : Int) (L : List (Sh.T shSynodStep)), k ≤ M ∧ y = .int .i64 ((M : Int) - (k : Int)) ∧ u = .int .i64 tb ∧ (1 ≤ tb ∧ tb ≤ 11) ∧ L.length = k ∧ DvH tySStep 65 wr w g a n cap X (t + 6 + 12 * k) v L) (fun y _ _ _ => (intOf y).toNat)
    case atStart => exact ⟨0, 1, [], Nat.zero_le _, by have := HM.out; congr 1 <;> omega, rfl, by omega, rfl, HD.out⟩
    case round =>
      obtain ⟨k, tb, L, hk, rfl, rfl, htb, hL, hH⟩ := hrel
      have HH : Hid (DvH tySStep 65 wr w g a n cap X (t + 6 + 12 * k) u5 L) := hH
      have HLL : Hid (L.length = k) := hL
      have HTB : Hid (1 ≤ tb ∧ tb ≤ 11) := htb
      clear hH HD hL
      by_cases hlt : k < M
      · have hlt' : (0 : Int) < (M : Int) - (k : Int) := by omega
        go_wp2_with fail
        refine (one_any _ _ _ _ _ _ _ _ (by omega) (by omega) HH.out.2.1).mono ?_
        rintro _ w4 ⟨c1, rfl, hd⟩
        have H4 : Hid (DvH tySStep 65 w4 w g a n cap X (t + 6 + 12 * k + 2) u5 L) := HH.out.draw hd hgw
        clear hd HH
        cases c1
        · have H5 : Hid (DvH tySStep 65 w4 w g a n cap X (t + 6 + 12 * k + 4) u5 L) := ⟨H4.out.1, H4.out.2.up (by omega)⟩
          clear H4
          go_wp2_with fail
          refine (one_any _ _ _ _ _ _ _ _ (by omega) (by omega) H5.out.2.1).mono ?_
          rintro _ w6 ⟨c2, rfl, hd⟩
          have H6 : Hid (DvH tySStep 65 w6 w g a n cap X (t + 6 + 12 * k + 6) u5 L) := H5.out.draw hd hgw
          clear hd H5
          go_wp2_with fail
          refine (pick_any _ _ _ _ _ _ _ _ (by omega) (by omega) H6.out.2.1).mono ?_
          rintro _ w7 ⟨x3, hx3, rfl, hd⟩
          have H7 : Hid (DvH tySStep 65 w7 w g a n cap X (t + 6 + 12 * k + 8) u5 L) := H6.out.draw hd hgw
          clear hd H6 hx3
          obtain ⟨Y, hY⟩ : ∃ x, x = w7.alloc (.cells #[.bool c2, .int .i64 (tb), .int .i64 x3] 65) := ⟨_, rfl⟩
          have HY : Hid (DvH tySStep 65 Y w g a n cap X (t + 6 + 12 * k + 8) u5 L ∧ Bx Y w7.heap.size [.bool c2, .int .i64 (tb), .int .i64 x3] ∧ w.heap.size ≤ w7.heap.size ∧ u5.ownBlock ≠ some w7.heap.size) := ⟨hY ▸ H7.out.alloc _, hY ▸ Bx.new w7 [_, _, _] _, H7.out.2.2.2.2.2.1, fun e => by have := (H7.out.1.flat rfl).1.lt _ e; omega⟩
          clear H7
          go_wp2_with fail
          rw [← hY]
          clear hY
          refine (one_any _ _ _ _ _ _ _ _ (by omega) (by omega) HY.out.1.2.1).mono ?_
          rintro _ w8 ⟨c4, rfl, hd⟩
          have H8 : Hid (DvH tySStep 65 w8 w g a n cap X (t + 6 + 12 * k + 10) u5 L) := HY.out.1.draw hd hgw
          have HX8 : Hid (Bx w8 w7.heap.size [.bool c2, .int .i64 (tb), .int .i64 x3]) := Hid.intro (HY.out.2.1.keepB (fun hlt => hd.2.2.2.2.2 _ hlt (by have := HY.out.2.2.1; omega)) hd.2.2.2.2.1)
          clear hd
          have d0 := HX8.out.cell 0 rfl
          have d1 := HX8.out.cell 1 rfl
          have d2 := HX8.out.cell 2 rfl
          have dz := HX8.out.2
          cases c4
          · skip
            have hb1 : L.length + 1 ≤ maxLen := by have := HLL.out; unfold maxLen; omega
            have hc1 : (L.length + 1) * 24 ≤ 140737488355328 := by have := HLL.out; omega
            have HA := Hid.intro (H8.out.alloc (.cells #[.bool c2, .int .i64 (tb), .int .i64 x3] 65))
            have HLO : Hid (Lies (w8.alloc (.cells #[.bool c2, .int .i64 (tb), .int .i64 x3] 65)) (.list shSynodStep) [.slice (some ⟨w8.heap.size, 0, none⟩) 1 1] [(c2, tb, x3, ())]) := Hid.intro (lies_one (w := w8) (e := shSynodStep) (cs := [.bool c2, .int .i64 (tb), .int .i64 x3]) (x := (c2, tb, x3, ())) 65 rfl mk_SynodStep)
            go_wp2_with (first
              | (at_builtin; refine wpList_appx rfl (.tmp 41) (.tmp 43) 24 65 rfl i0 (.agg #[.bool false, .int .i64 0, .int .i64 0]) 24 w.heap.size tySStep rfl Try.underlying24 hi0 hz0 hz1 hz2 rfl (by decide) u5 L [(c2, tb, x3, ())] _ rfl HA.out.1 (some ⟨w8.heap.size, 0, none⟩) 1 rfl HLO.out hb1 hc1 HA.out.2.2.2.2.2.1 ?_; intro v9 w9 hO9 hg9 hwh9; have H9 := Hid.intro (HA.out.app (e := tySStep) rfl hgw hO9 hg9); clear hO9 hg9 hwh9)
              | go_in)
            go_roundw
            case rel => exact ⟨k + 1, tb, L ++ [mkSs c2 (tb) x3], by omega, by congr 1; omega, rfl, HTB.out, snoc_len HLL.out, ⟨H9.out.1, H9.out.2.up (by omega)⟩⟩
            case measure => simp [intOf]; omega
          · go_wp2_with fail
            refine (pick_any _ _ _ _ _ _ _ _ (by omega) (by omega) H8.out.2.1).mono ?_
            rintro _ w9x ⟨x4, hx4, rfl, hd⟩
            have H9x : Hid (DvH tySStep 65 w9x w g a n cap X (t + 6 + 12 * k + 12) u5 L) := H8.out.draw hd hgw
            have HX9 : Hid (Bx w9x w7.heap.size [.bool c2, .int .i64 (tb), .int .i64 x3]) := Hid.intro (HX8.out.keepB (fun hlt => hd.2.2.2.2.2 _ hlt (by have := HY.out.2.2.1; omega)) hd.2.2.2.2.1)
            clear hd d0 d1 d2 dz HX8 H8
            have d0 := HX9.out.cell 0 rfl
            have d1 := HX9.out.cell 1 rfl
            have d2 := HX9.out.cell 2 rfl
            have dz := HX9.out.2
            have df := HX9.out.frz 1 (by simp)
            obtain ⟨Z, hZ⟩ : ∃ x, x = w9x.setCell ⟨w7.heap.size, 1, none⟩ (.int .i64 (1 + x4)) := ⟨_, rfl⟩
            have H8 : Hid (DvH tySStep 65 Z w g a n cap X (t + 6 + 12 * k + 12) u5 L) := hZ ▸ H9x.out.set hgw HY.out.2.2.1 HY.out.2.2.2 rfl 1 _
            have hZz : Z.heap.size = w9x.heap.size := by rw [hZ]; simp
            have HZZ : Hid (Z.heap.size = w9x.heap.size) := hZz
            clear hZz
            have hb1 : L.length + 1 ≤ maxLen := by have := HLL.out; unfold maxLen; omega
            have hc1 : (L.length + 1) * 24 ≤ 140737488355328 := by have := HLL.out; omega
            have HA := Hid.intro (H8.out.alloc (.cells #[.bool c2, .int .i64 (1 + x4), .int .i64 x3] 65))
            have HLO : Hid (Lies (Z.alloc (.cells #[.bool c2, .int .i64 (1 + x4), .int .i64 x3] 65)) (.list shSynodStep) [.slice (some ⟨Z.heap.size, 0, none⟩) 1 1] [(c2, 1 + x4, x3, ())]) := Hid.intro (lies_one (w := Z) (e := shSynodStep) (cs := [.bool c2, .int .i64 (1 + x4), .int .i64 x3]) (x := (c2, 1 + x4, x3, ())) 65 rfl mk_SynodStep)
            go_wp2_with (first
              | (at_builtin; rw [← hZ]; refine wpList_appx rfl (.tmp 41) (.tmp 43) 24 65 rfl i0 (.agg #[.bool false, .int .i64 0, .int .i64 0]) 24 w.heap.size tySStep rfl Try.underlying24 hi0 hz0 hz1 hz2 rfl (by decide) u5 L [(c2, 1 + x4, x3, ())] _ rfl HA.out.1 (some ⟨w9x.heap.size, 0, none⟩) 1 rfl (HZZ.out ▸ HLO.out) hb1 hc1 HA.out.2.2.2.2.2.1 ?_; intro v9 w9 hO9 hg9 hwh9; have H9 := Hid.intro (HA.out.app (e := tySStep) rfl hgw hO9 hg9); clear hO9 hg9 hwh9)
              | go_in)
            go_roundw
            case rel => exact ⟨k + 1, tb, L ++ [mkSs c2 (1 + x4) x3], by omega, by congr 1; omega, rfl, HTB.out, snoc_len HLL.out, ⟨H9.out.1, H9.out.2.up (by omega)⟩⟩
            case measure => simp [intOf]; omega
        · go_wp2_with fail
          refine (pick_any _ _ _ _ _ _ _ _ (by omega) (by omega) H4.out.2.1).mono ?_
          rintro _ w5 ⟨x5, hx5, rfl, hd⟩
          have H5 : Hid (DvH tySStep 65 w5 w g a n cap X (t + 6 + 12 * k + 4) u5 L) := H4.out.draw hd hgw
          clear hd H4 HTB
          have HTB : Hid (1 ≤ 1 + x5 ∧ 1 + x5 ≤ 11) := Hid.intro (by omega)
          go_wp2_with fail
          refine (one_any _ _ _ _ _ _ _ _ (by omega) (by omega) H5.out.2.1).mono ?_
          rintro _ w6 ⟨c2, rfl, hd⟩
          have H6 : Hid (DvH tySStep 65 w6 w g a n cap X (t + 6 + 12 * k + 6) u5 L) := H5.out.draw hd hgw
          clear hd H5
          go_wp2_with fail
          refine (pick_any _ _ _ _ _ _ _ _ (by omega) (by omega) H6.out.2.1).mono ?_
          rintro _ w7 ⟨x3, hx3, rfl, hd⟩
          have H7 : Hid (DvH tySStep 65 w7 w g a n cap X (t + 6 + 12 * k + 8) u5 L) := H6.out.draw hd hgw
          clear hd H6 hx3
          obtain ⟨Y, hY⟩ : ∃ x, x = w7.alloc (.cells #[.bool c2, .int .i64 (1 + x5), .int .i64 x3] 65) := ⟨_, rfl⟩
          have HY : Hid (DvH tySStep 65 Y w g a n cap X (t + 6 + 12 * k + 8) u5 L ∧ Bx Y w7.heap.size [.bool c2, .int .i64 (1 + x5), .int .i64 x3] ∧ w.heap.size ≤ w7.heap.size ∧ u5.ownBlock ≠ some w7.heap.size) := ⟨hY ▸ H7.out.alloc _, hY ▸ Bx.new w7 [_, _, _] _, H7.out.2.2.2.2.2.1, fun e => by have := (H7.out.1.flat rfl).1.lt _ e; omega⟩
          clear H7
          go_wp2_with fail
          rw [← hY]
          clear hY
          refine (one_any _ _ _ _ _ _ _ _ (by omega) (by omega) HY.out.1.2.1).mono ?_
          rintro _ w8 ⟨c4, rfl, hd⟩
          have H8 : Hid (DvH tySStep 65 w8 w g a n cap X (t + 6 + 12 * k + 10) u5 L) := HY.out.1.draw hd hgw
          have HX8 : Hid (Bx w8 w7.heap.size [.bool c2, .int .i64 (1 + x5), .int .i64 x3]) := Hid.intro (HY.out.2.1.keepB (fun hlt => hd.2.2.2.2.2 _ hlt (by have := HY.out.2.2.1; omega)) hd.2.2.2.2.1)
          clear hd
          have d0 := HX8.out.cell 0 rfl
          have d1 := HX8.out.cell 1 rfl
          have d2 := HX8.out.cell 2 rfl
          have dz := HX8.out.2
          cases c4
          · skip
            have hb1 : L.length + 1 ≤ maxLen := by have := HLL.out; unfold maxLen; omega
            have hc1 : (L.length + 1) * 24 ≤ 140737488355328 := by have := HLL.out; omega
            have HA := Hid.intro (H8.out.alloc (.cells #[.bool c2, .int .i64 (1 + x5), .int .i64 x3] 65))
            have HLO : Hid (Lies (w8.alloc (.cells #[.bool c2, .int .i64 (1 + x5), .int .i64 x3] 65)) (.list shSynodStep) [.slice (some ⟨w8.heap.size, 0, none⟩) 1 1] [(c2, 1 + x5, x3, ())]) := Hid.intro (lies_one (w := w8) (e := shSynodStep) (cs := [.bool c2, .int .i64 (1 + x5), .int .i64 x3]) (x := (c2, 1 + x5, x3, ())) 65 rfl mk_SynodStep)
            go_wp2_with (first
              | (at_builtin; refine wpList_appx rfl (.tmp 41) (.tmp 43) 24 65 rfl i0 (.agg #[.bool false, .int .i64 0, .int .i64 0]) 24 w.heap.size tySStep rfl Try.underlying24 hi0 hz0 hz1 hz2 rfl (by decide) u5 L [(c2, 1 + x5, x3, ())] _ rfl HA.out.1 (some ⟨w8.heap.size, 0, none⟩) 1 rfl HLO.out hb1 hc1 HA.out.2.2.2.2.2.1 ?_; intro v9 w9 hO9 hg9 hwh9; have H9 := Hid.intro (HA.out.app (e := tySStep) rfl hgw hO9 hg9); clear hO9 hg9 hwh9)
              | go_in)
            go_roundw
            case rel => exact ⟨k + 1, 1 + x5, L ++ [mkSs c2 (1 + x5) x3], by omega, by congr 1; omega, rfl, HTB.out, snoc_len HLL.out, ⟨H9.out.1, H9.out.2.up (by omega)⟩⟩
            case measure => simp [intOf]; omega
          · go_wp2_with fail
            refine (pick_any _ _ _ _ _ _ _ _ (by omega) (by omega) H8.out.2.1).mono ?_
            rintro _ w9x ⟨x4, hx4, rfl, hd⟩
            have H9x : Hid (DvH tySStep 65 w9x w g a n cap X (t + 6 + 12 * k + 12) u5 L) := H8.out.draw hd hgw
            have HX9 : Hid (Bx w9x w7.heap.size [.bool c2, .int .i64 (1 + x5), .int .i64 x3]) := Hid.intro (HX8.out.keepB (fun hlt => hd.2.2.2.2.2 _ hlt (by have := HY.out.2.2.1; omega)) hd.2.2.2.2.1)
            clear hd d0 d1 d2 dz HX8 H8
            have d0 := HX9.out.cell 0 rfl
            have d1 := HX9.out.cell 1 rfl
            have d2 := HX9.out.cell 2 rfl
            have dz := HX9.out.2
            have df := HX9.out.frz 1 (by simp)
            obtain ⟨Z, hZ⟩ : ∃ x, x = w9x.setCell ⟨w7.heap.size, 1, none⟩ (.int .i64 (1 + x4)) := ⟨_, rfl⟩
            have H8 : Hid (DvH tySStep 65 Z w g a n cap X (t + 6 + 12 * k + 12) u5 L) := hZ ▸ H9x.out.set hgw HY.out.2.2.1 HY.out.2.2.2 rfl 1 _
            have hZz : Z.heap.size = w9x.heap.size := by rw [hZ]; simp
            have HZZ : Hid (Z.heap.size = w9x.heap.size) := hZz
            clear hZz
            have hb1 : L.length + 1 ≤ maxLen := by have := HLL.out; unfold maxLen; omega
            have hc1 : (L.length + 1) * 24 ≤ 140737488355328 := by have := HLL.out; omega
            have HA := Hid.intro (H8.out.alloc (.cells #[.bool c2, .int .i64 (1 + x4), .int .i64 x3] 65))
            have HLO : Hid (Lies (Z.alloc (.cells #[.bool c2, .int .i64 (1 + x4), .int .i64 x3] 65)) (.list shSynodStep) [.slice (some ⟨Z.heap.size, 0, none⟩) 1 1] [(c2, 1 + x4, x3, ())]) := Hid.intro (lies_one (w := Z) (e := shSynodStep) (cs := [.bool c2, .int .i64 (1 + x4), .int .i64 x3]) (x := (c2, 1 + x4, x3, ())) 65 rfl mk_SynodStep)
            go_wp2_with (first
              | (at_builtin; rw [← hZ]; refine wpList_appx rfl (.tmp 41) (.tmp 43) 24 65 rfl i0 (.agg #[.bool false, .int .i64 0, .int .i64 0]) 24 w.heap.size tySStep rfl Try.underlying24 hi0 hz0 hz1 hz2 rfl (by decide) u5 L [(c2, 1 + x4, x3, ())] _ rfl HA.out.1 (some ⟨w9x.heap.size, 0, none⟩) 1 rfl (HZZ.out ▸ HLO.out) hb1 hc1 HA.out.2.2.2.2.2.1 ?_; intro v9 w9 hO9 hg9 hwh9; have H9 := Hid.intro (HA.out.app (e := tySStep) rfl hgw hO9 hg9); clear hO9 hg9 hwh9)
              | go_in)
            go_roundw
            case rel => exact ⟨k + 1, 1 + x5, L ++ [mkSs c2 (1 + x4) x3], by omega, by congr 1; omega, rfl, HTB.out, snoc_len HLL.out, ⟨H9.out.1, H9.out.2.up (by omega)⟩⟩
            case measure => simp [intOf]; omega
      · have hlt' : ¬ (0 : Int) < (M : Int) - (k : Int) := by omega
        have HP : Hid (DvH tySStep 65 wr w g a n cap X (t + 1500) u5 L) := ⟨HH.out.1, HH.out.2.up (by omega)⟩
        go_wp2
        go_ret
        exact ⟨L, u5, by have := HLL.out; omega, rfl, HP.out⟩

/-- A play that was drawn. -/
def DpP (w : World) (r : Ending) (w' : World) : Prop := ∃ (m : Int) (vs : List (Sh.T .str)) (l : List (Sh.T shSynodStep)) (a1 : Option Addr) (k1 : Nat) (a2 : Option Addr) (k2 : Nat), (1 ≤ m ∧ m ≤ 5) ∧ vs.length ≤ 9 ∧ szD (.list .str) vs ≤ 1000 ∧ l.length ≤ 121 ∧ (a2 = none ∨ ∃ gx, a2 = some ⟨gx, 0, none⟩) ∧ r = .returned (.tuple #[.int .i64 m, .slice a1 vs.length k1, .slice a2 l.length k2]) ∧ Lies w' (.list .str) [.slice a1 vs.length k1] vs ∧ Lies w' (.list shSynodStep) [.slice a2 l.length k2] l ∧ Below w.heap.size w w'
theorem OwnX.aform {W : World} {lo : Nat} {e : Ty} {t : TypeId} {a : Option Addr} {n c : Nat} {l : List e.T} {S : Nat → Prop} (h : OwnX W lo (.list e t) [.slice a n c] l S) : a = none ∨ ∃ gx, a = some ⟨gx, 0, none⟩ := by
  rcases h.form with ⟨_, e1⟩ | ⟨g, cap, e1, _⟩
  · cases e1; exact Or.inl rfl
  · cases e1; exact Or.inr ⟨g, rfl⟩
theorem sz_strs9 {L : List (Sh.T .str)} (h1 : L.length ≤ 9) (h2 : ∀ s ∈ L, s.size ≤ 21) : szD (.list .str) L ≤ 1000 := by
  have e : szD (.list .str) L = L.length + (L.map (szD .str)).sum := rfl
  have := sum_le (e := .str) (B := 21) (l := L) h2
  omega
set_option maxRecDepth 100000 in
set_option maxHeartbeats 4000000 in
theorem drawPlay_any (a : Option Addr) (n cap : Nat) (X : Nat → Int) (w : World) (hn : n ≤ 9223372036854775807) (hs : Sl w a n 1 (byF X)) (hX : ∀ i, i < n → 0 ≤ X i ∧ X i ≤ 255) :
    Calls Try.prog 11 #[.slice a n cap] w (DpP w) := by
  obtain ⟨w0, hw0⟩ : ∃ x, x = w.alloc (.cells #[.slice a n cap, .int .i64 0, .int .u64 0] 79) := ⟨_, rfl⟩
  have HC : Hid (Cur w0 w.heap.size a n cap X 0 ∧ Below w.heap.size w w0) := ⟨hw0 ▸ Cur.new _ hs hn hX, hw0 ▸ Go.Joins.below_alloc1 _ _⟩
  clear hs hX
  go_enter Try.func11, Try.ntmps11
  go_wp2_with fail
  rw [← hw0]
  clear hw0
  refine (proposals_any _ _ _ _ _ _ _ (by omega) HC.out.1).mono ?_
  rintro _ w1 ⟨vs, v, hv, rfl, hd⟩
  obtain ⟨a1, k1, e1⟩ := hd.1.vform
  have e1 : v = .slice a1 (List.length (α := Sh.T .str) vs) k1 := e1
  subst e1
  have H1 : Hid (DvH .str 9 w1 w0 w.heap.size a n cap X 60 (.slice a1 vs.length k1) vs) := ⟨hd.1, hd.2.up (by omega)⟩
  have HV : Hid (vs.length ≤ 9 ∧ ∀ s ∈ vs, s.size ≤ 21) := hv
  have hv9 : vs.length ≤ 9 := hv.1
  have hgw : w.heap.size < w0.heap.size := HC.out.1.2.2.2.2.2.1
  clear hd hv
  go_wp2_with fail
  refine (pick_any _ _ _ _ _ _ _ _ (by omega) (by omega) H1.out.2.1).mono ?_
  rintro _ w2 ⟨x1, hx1, rfl, hd⟩
  have H2 : Hid (DvH .str 9 w2 w0 w.heap.size a n cap X 62 (.slice a1 vs.length k1) vs) := H1.out.draw hd hgw
  clear hd H1
  go_wp2_with fail
  refine (synodSteps_any _ _ _ _ _ _ _ (by omega) _ (by omega) H2.out.2.1).mono ?_
  rintro _ w3 ⟨l, v2, hl, rfl, hd⟩
  obtain ⟨a2, k2, e2⟩ := hd.1.vform
  have e2 : v2 = .slice a2 (List.length (α := Sh.T shSynodStep) l) k2 := e2
  subst e2
  have HP : Hid (DpP w (.returned (.tuple #[.int .i64 (1 + x1), .slice a1 vs.length k1, .slice a2 l.length k2])) w3) := Hid.intro ⟨1 + x1, vs, l, a1, k1, a2, k2, by omega, hv9, sz_strs9 HV.out.1 HV.out.2, hl, hd.1.aform, rfl, (H2.out.draw hd.2 hgw).1.lies, hd.1.lies, ⟨hd.2.2.1.trans (H2.out.2.2.1.trans HC.out.2.os), hd.2.2.2.1.trans (H2.out.2.2.2.1.trans HC.out.2.tape), hd.2.2.2.2.1.trans (H2.out.2.2.2.2.1.trans HC.out.2.output), Nat.le_trans HC.out.2.size (Nat.le_trans H2.out.2.2.2.2.2.1 hd.2.2.2.2.2.1), fun j hj => by
    have h0 := HC.out.2.block j hj
    have h1 := H2.out.2.2.2.2.2.2 j (by omega) (by omega)
    have h2 := hd.2.2.2.2.2.2 j (by have := H2.out.2.2.2.2.2.1; omega) (by omega)
    exact h2.trans (h1.trans h0)⟩⟩
  clear hd H2 hl
  go_wp2
  exact bodyPost_ret (v := .tuple #[.int .i64 (1 + x1), .slice a1 vs.length k1, .slice a2 l.length k2]) (by simp [results, Try.results11, go_sem, *]) rfl HP.out
end Go.Proofs.Ytmhkfangfhanlaa
