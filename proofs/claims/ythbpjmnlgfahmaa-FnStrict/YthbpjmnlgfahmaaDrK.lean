/- Draws of keys: the cursor's of, key. -/
import Derived.Test.YthbpjmnlgfahmaaDrU
namespace Go.Proofs.Ythbpjmnlgfahmaa
open Go.RowKit
set_option linter.unusedVariables false

set_option maxHeartbeats 400000 in
theorem of_any (g : Nat) (a : Option Addr) (n cap : Nat) (X : Nat → Int) (t : Nat) (l lc m : Nat) (Z : Nat → ByteArray) (w : World) (ht : t ≤ 999990) (hc : Cur w g a n cap X t) (hl : l ≠ g) (hls : l < w.heap.size) (hm : 0 < m) (hm5 : m ≤ 5)
    (cs : ∀ i, i < m → w.cell? ⟨l, i, none⟩ = some (.string (Z i))) (zs : ∀ i, i < m → (Z i).size ≤ 21) :
    Calls Try.prog 108 #[.pointer (some ⟨g, 0, none⟩), .slice (some ⟨l, 0, none⟩) m lc] w fun r w' => ∃ s : ByteArray, s.size ≤ 21 ∧ r = .returned (.string s) ∧ Drew g a n cap X (t + 2) w w' := by
  have HC : Hid (Cur w g a n cap X t) := hc
  have HZ : Hid ((∀ i, i < m → w.cell? ⟨l, i, none⟩ = some (.string (Z i))) ∧ ∀ i, i < m → (Z i).size ≤ 21) := ⟨cs, zs⟩
  clear hc cs zs
  go_enter Try.func108, Try.ntmps108
  go_wp2_with fail
  refine (pick_any _ _ _ _ _ _ _ _ ht (by omega) HC.out).mono ?_
  rintro r w1 ⟨x, hx, rfl, hd⟩
  obtain ⟨i, him, hix⟩ : ∃ i : Nat, i < m ∧ x = (i : Int) := ⟨x.toNat, by omega, by omega⟩
  subst hix
  have H1 : Hid (Drew g a n cap X (t + 2) w w1) := hd
  have c0 := (World.cell?_of_block (a := ⟨l, i, none⟩) (hd.2.2.2.2.2 l hls (by omega))).trans (HZ.out.1 i him)
  have hz := HZ.out.2 i him
  have him' : (i : Int) < (m : Int) := by omega
  clear hd HC HZ
  go_wp2
  go_ret
  exact ⟨Z i, hz, rfl, H1.out⟩
/-- The cells of a list of texts that was just laid. -/
theorem str_new (w : World) (L : List ByteArray) (e : TypeId) : ∀ i, i < L.length → (w.alloc (.cells (L.map Value.string).toArray e)).cell? ⟨w.heap.size, i, none⟩ = some (.string (L.getD i ⟨#[]⟩)) := by
  intro i hi
  have := cells_new w (L.map Value.string) e i (.string (L.getD i ⟨#[]⟩)) (by simp [List.getD, hi])
  have e1 : ((⟨w.heap.size, 0, none⟩ : Addr).add i) = ⟨w.heap.size, i, none⟩ := by unfold Addr.add; split <;> simp_all
  rw [e1] at this
  exact this
theorem str_small {L : List ByteArray} (h : L.all (fun s => decide (s.size ≤ 21)) = true) : ∀ i, i < L.length → (L.getD i ⟨#[]⟩).size ≤ 21 := by
  intro i hi
  have := List.all_eq_true.1 h (L[i]) (List.getElem_mem hi)
  simpa [List.getD, hi] using this
set_option maxRecDepth 100000 in
set_option maxHeartbeats 1000000 in
theorem key_any (g : Nat) (a : Option Addr) (n cap : Nat) (X : Nat → Int) (t : Nat) (w : World) (ht : t ≤ 900000) (hc : Cur w g a n cap X t) :
    Calls Try.prog 98 #[.pointer (some ⟨g, 0, none⟩)] w fun r w' => ∃ s : ByteArray, s.size ≤ 21 ∧ r = .returned (.string s) ∧ Drew g a n cap X (t + 4) w w' := by
  have hg : g < w.heap.size := hc.2.2.2.2.2.1
  have HC : Hid (Cur w g a n cap X t) := hc
  clear hc
  go_enter Try.func98, Try.ntmps98
  go_wp2_with fail
  refine (one_any _ _ _ _ _ _ _ _ (by omega) (by omega) HC.out).mono ?_
  rintro r w1 ⟨b, rfl, hd⟩
  have H1 : Hid (Drew g a n cap X (t + 2) w w1) := hd
  have hz1 : g < w1.heap.size := hd.1.2.2.2.2.2.1
  clear hd HC
  cases b
  · go_wp2_with fail
    refine (of_any g a n cap X (t + 2) w1.heap.size _ 4 (fun i => [⟨#[97]⟩, ⟨#[98]⟩, ⟨#[99]⟩, ⟨#[100]⟩].getD i ⟨#[]⟩) _ (by omega) (H1.out.1.next (Go.Joins.below_alloc1 _ _)) (by omega) (by simp) (by omega) (by omega) (str_new w1 [⟨#[97]⟩, ⟨#[98]⟩, ⟨#[99]⟩, ⟨#[100]⟩] _) (str_small (L := [⟨#[97]⟩, ⟨#[98]⟩, ⟨#[99]⟩, ⟨#[100]⟩]) rfl)).mono ?_
    rintro r w2 ⟨s, hs, rfl, hd⟩
    have H2 : Hid (Drew g a n cap X (t + 4) w w2) := ⟨hd.1, (H1.out.2.alloc _).trans hd.2⟩
    clear hd H1
    go_wp2
    go_ret
    exact ⟨s, hs, rfl, H2.out⟩
  · go_wp2_with fail
    refine (of_any g a n cap X (t + 2) w1.heap.size _ 3 (fun i => [⟨#[]⟩, ⟨#[65]⟩, ⟨#[49, 50, 51, 52, 53, 54, 55, 56, 57]⟩].getD i ⟨#[]⟩) _ (by omega) (H1.out.1.next (Go.Joins.below_alloc1 _ _)) (by omega) (by simp) (by omega) (by omega) (str_new w1 [⟨#[]⟩, ⟨#[65]⟩, ⟨#[49, 50, 51, 52, 53, 54, 55, 56, 57]⟩] _) (str_small (L := [⟨#[]⟩, ⟨#[65]⟩, ⟨#[49, 50, 51, 52, 53, 54, 55, 56, 57]⟩]) rfl)).mono ?_
    rintro r w2 ⟨s, hs, rfl, hd⟩
    have H2 : Hid (Drew g a n cap X (t + 4) w w2) := ⟨hd.1, (H1.out.2.alloc _).trans hd.2⟩
    clear hd H1
    go_wp2
    go_ret
    exact ⟨s, hs, rfl, H2.out⟩
end Go.Proofs.Ythbpjmnlgfahmaa
