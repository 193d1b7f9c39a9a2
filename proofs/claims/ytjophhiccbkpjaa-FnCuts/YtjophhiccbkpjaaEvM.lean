/- A map from messages to numbers that the call owns, as a function; moveMsg's contract. -/
import Derived.Test.YtjophhiccbkpjaaEv
import Derived.Test.YtjophhiccbkpjaaEvG
import Derived.Maps.Own
import Derived.Maps.OwnOps
import Derived.Maps.OwnSet
import Derived.Maps.Views
namespace Go.Proofs.Ytjophhiccbkpjaa
open Go.RowKit Go.Maps
set_option linter.unusedVariables false

theorem keyI : Keyed Try.prog 3 := int_keyed Try.underlying3
theorem zeroI (w : World) : (zeroValue 3).run Try.prog w = .ok (.int .i64 0) w := by kernel_rfl
/-- Block b is a map of at most n entries that has f m at every message m. -/
def IMap (w : World) (b n : Nat) (f : Int → Int) : Prop :=
  ∃ D : DataW Unit, w.ownsMap Try.prog 3 (plainElem Try.prog 3) b n D ∧ ∀ m, D.atKey (.int .i64 m) (.lit (.int .i64 0)) = .lit (.int .i64 (f m))
theorem IMap.below {B : Nat} {w w' : World} {b n : Nat} {f : Int → Int} (h : IMap w b n f) (hb : Below B w w') (hB : b < B) : IMap w' b n f := by
  obtain ⟨D, ⟨es, clock, hh, r⟩, hf⟩ := h
  exact ⟨D, ⟨es, clock, by rw [hb.block b hB]; exact hh, r⟩, hf⟩
theorem IMap.made (w : World) : IMap (w.alloc (.map #[] 0)) w.heap.size 0 (fun _ => 0) := ⟨.map [], World.ownsMap_made _ _ _ _, fun m => rfl⟩
theorem IMap.lt {w : World} {b n : Nat} {f : Int → Int} (h : IMap w b n f) : b < w.heap.size := by obtain ⟨D, h, _⟩ := h; exact h.lt
theorem IMap.put {w : World} {b n : Nat} {f g : Int → Int} {D : DataW Unit} {m v : Int} (hf : ∀ m, D.atKey (.int .i64 m) (.lit (.int .i64 0)) = .lit (.int .i64 (f m))) (hD : IsMap D)
    (h : w.ownsMap Try.prog 3 (plainElem Try.prog 3) b n (D.put (.int .i64 m) (.lit (.int .i64 v)))) (hg : ∀ x, g x = if x = m then v else f x) : IMap w b n g := by
  refine ⟨_, h, fun x => ?_⟩
  by_cases e : x = m
  · subst e; rw [atKey_put_same hD (by trivial), hg]; simp
  · rw [atKey_put_other (by intro q; injection q; contradiction), hf, hg, if_neg e]

def mvOk (kd m st : Int) : Bool := if kd = 1 then m == 0 else inR m 1 1000 && ((kd == 2 && st == 0) || (kd == 3 && st == 1))
def mvF (f : Int → Int) (kd m x : Int) : Int := if m = x ∧ kd = 2 then 1 else if m = x ∧ kd = 3 then 2 else f x

theorem mv_keep {w w' : World} {b n : Nat} {f : Int → Int} {kd m : Int} (h : IMap w b n f) (hb : Below w.heap.size w w') (h2 : kd ≠ 2) (h3 : kd ≠ 3) : IMap w' b (n + 1) (mvF f kd m) := by
  obtain ⟨D, ho, hf⟩ := h.below hb h.lt
  exact ⟨D, ho.mono (by omega), fun x => by rw [hf]; simp [mvF, h2, h3]⟩
theorem grown_of_below {w w' : World} {row : Option Nat} (h : Below w.heap.size w w') : w.grownBy w' row := ⟨h.os, h.tape, h.output, h.size, fun k hk _ => h.block k hk⟩

set_option maxHeartbeats 2000000 in
theorem moveMsg_any (b n : Nat) (f : Int → Int) (kd p m : Int) (w : World) (hn : n ≤ 1048576) (hb : -9223372036854775808 ≤ m ∧ m ≤ 9223372036854775807) (hI : IMap w b n f) :
    Calls Try.prog 71 #[.map (some b), .agg #[.int .i64 kd, .int .i64 p, .int .i64 m]] w fun r w' => r = .returned (.bool (mvOk kd m (f m))) ∧ (mvOk kd m (f m) = true → IMap w' b (n + 1) (mvF f kd m)) ∧ w.grownBy w' (some b) := by
  have hkey : keyOf Try.prog 3 (.int .i64 m) = some (.int .i64 m) := keyOf_int_mk Try.underlying3 (WalkArith.wf_i64 (by omega))
  have HI : Hid (IMap w b n f) := hI
  have hba : Below w.heap.size w (w.alloc (.cells #[.int .i64 kd, .int .i64 p, .int .i64 m] 49)) := Go.Joins.below_alloc1 _ _
  have HA : Hid (Below w.heap.size w (w.alloc (.cells #[.int .i64 kd, .int .i64 p, .int .i64 m] 49))) := hba
  obtain ⟨D, ho, hf⟩ := hI.below hba hI.lt
  have HO : Hid ((w.alloc (.cells #[.int .i64 kd, .int .i64 p, .int .i64 m] 49)).ownsMap Try.prog 3 (plainElem Try.prog 3) b n D ∧ ∀ m, D.atKey (.int .i64 m) (.lit (.int .i64 0)) = .lit (.int .i64 (f m))) := ⟨ho, hf⟩
  clear ho hf hba hI hb
  by_cases k1 : kd = 1
  · subst k1
    go_enter Try.func71, Try.ntmps71
    go_wp2
    go_ret
    exact ⟨ret_bool (by simp [mvOk]), fun _ => mv_keep HI.out HA.out (by omega) (by omega), grown_of_below HA.out⟩
  have e1 : (kd == 1) = false := by simpa using k1
  obtain ⟨s, hs⟩ : ∃ s, f m = s := ⟨_, rfl⟩
  have HS : Hid (f m = s) := hs
  clear hs
  have HM : Hid (mvOk kd m (f m) = (inR m 1 1000 && ((kd == 2 && s == 0) || (kd == 3 && s == 1)))) := by show mvOk kd m (f m) = _; rw [HS.out]; simp [mvOk, k1]
  have HK : Hid (kd ≠ 1) := k1
  clear k1
  cases hr : inR m 1 1000
  · have HN : Hid (mvOk kd m (f m) = false) := by show mvOk kd m (f m) = false; rw [HM.out, hr]; rfl
    go_enter Try.func71, Try.ntmps71
    go_wp2_with (first
      | (at_lookup; refine wpList_lookup_own_int _ rfl _ _ 74 rfl 3 3 .i64 keyI Try.underlying74 Try.underlying3 (zeroI _) b n D rfl HO.out.1 _ _ rfl hkey ?_; intro c hat hwc; clear hat hwc)
      | (go_at_call 54; refine (inRange_any _ _ _ _).mono ?_; rintro e w' ⟨rfl, rfl⟩)
      | go_in)
    go_ret
    exact ⟨ret_bool HN.out.symm, fun h => (by rw [HN.out] at h; cases h), grown_of_below HA.out⟩
  by_cases q2 : kd = 2 ∧ s = 0
  · obtain ⟨rfl, rfl⟩ := q2
    have HN : Hid (mvOk 2 m (f m) = true) := by show mvOk 2 m (f m) = true; rw [HM.out, hr]; rfl
    go_enter Try.func71, Try.ntmps71
    go_wp2_with (first
      | (at_lookup; refine wpList_lookup_own_int _ rfl _ _ 74 rfl 3 3 .i64 keyI Try.underlying74 Try.underlying3 (zeroI _) b n D rfl HO.out.1 _ _ rfl hkey ?_; intro c hat hwc; have hc : c = 0 := (by have := (HO.out.2 m).symm.trans hat; rw [HS.out] at this; simpa using this.symm); subst hc; clear hat hwc)
      | (at_mapUpdate; refine wpList_mapUpdate_own _ rfl _ _ _ 74 rfl 3 3 keyI Try.underlying74 _ b n D rfl HO.out.1 (by unfold maxLen; omega) _ _ _ rfl rfl hkey _ [] (plainElem_int Try.underlying3 (by decide)) ?_; intro w1 hown1 hgrow1; have H1 : Hid (w1.ownsMap Try.prog 3 (plainElem Try.prog 3) b (n + 1) (D.put (.int .i64 m) (.lit (.int .i64 1))) ∧ w.grownBy w1 (some b)) := ⟨hown1, (grown_of_below HA.out).trans hgrow1⟩; clear hown1 hgrow1)
      | (go_at_call 54; refine (inRange_any _ _ _ _).mono ?_; rintro e w' ⟨rfl, rfl⟩)
      | go_in)
    go_ret
    exact ⟨ret_bool HN.out.symm, fun _ => IMap.put HO.out.2 HO.out.1.isMap H1.out.1 (fun x => by simp [mvF, eq_comm]), H1.out.2⟩
  by_cases q3 : kd = 3 ∧ s = 1
  · obtain ⟨rfl, rfl⟩ := q3
    have HN : Hid (mvOk 3 m (f m) = true) := by show mvOk 3 m (f m) = true; rw [HM.out, hr]; rfl
    go_enter Try.func71, Try.ntmps71
    go_wp2_with (first
      | (at_lookup; refine wpList_lookup_own_int _ rfl _ _ 74 rfl 3 3 .i64 keyI Try.underlying74 Try.underlying3 (zeroI _) b n D rfl HO.out.1 _ _ rfl hkey ?_; intro c hat hwc; have hc : c = 1 := (by have := (HO.out.2 m).symm.trans hat; rw [HS.out] at this; simpa using this.symm); subst hc; clear hat hwc)
      | (at_mapUpdate; refine wpList_mapUpdate_own _ rfl _ _ _ 74 rfl 3 3 keyI Try.underlying74 _ b n D rfl HO.out.1 (by unfold maxLen; omega) _ _ _ rfl rfl hkey _ [] (plainElem_int Try.underlying3 (by decide)) ?_; intro w1 hown1 hgrow1; have H1 : Hid (w1.ownsMap Try.prog 3 (plainElem Try.prog 3) b (n + 1) (D.put (.int .i64 m) (.lit (.int .i64 2))) ∧ w.grownBy w1 (some b)) := ⟨hown1, (grown_of_below HA.out).trans hgrow1⟩; clear hown1 hgrow1)
      | (go_at_call 54; refine (inRange_any _ _ _ _).mono ?_; rintro e w' ⟨rfl, rfl⟩)
      | go_in)
    go_ret
    exact ⟨ret_bool HN.out.symm, fun _ => IMap.put HO.out.2 HO.out.1.isMap H1.out.1 (fun x => by simp [mvF, eq_comm]), H1.out.2⟩
  have HN : Hid (mvOk kd m (f m) = false) := by
    show mvOk kd m (f m) = false
    rw [HM.out, hr]
    by_cases a2 : kd = 2 <;> by_cases a3 : kd = 3 <;> by_cases b0 : s = 0 <;> by_cases b1 : s = 1 <;> simp_all
  have HQ : Hid (¬ (kd = 2 ∧ s = 0) ∧ ¬ (kd = 3 ∧ s = 1)) := ⟨q2, q3⟩
  clear q2 q3
  cases h2 : (kd == 2) <;> cases h3 : (kd == 3) <;> cases g0 : (s == 0) <;> cases g1 : (s == 1)
  all_goals first
    | (exfalso; simp at h2 h3 g0 g1; have := HQ.out; simp_all; done)
    | (exfalso; simp at h2 h3 g0 g1; omega)
    | skip
  all_goals
    go_enter Try.func71, Try.ntmps71
    go_wp2_with (first
      | (at_lookup; refine wpList_lookup_own_int _ rfl _ _ 74 rfl 3 3 .i64 keyI Try.underlying74 Try.underlying3 (zeroI _) b n D rfl HO.out.1 _ _ rfl hkey ?_; intro c hat hwc; have hc : c = s := (by have := (HO.out.2 m).symm.trans hat; rw [HS.out] at this; simpa using this.symm); subst hc; clear hat hwc)
      | (go_at_call 54; refine (inRange_any _ _ _ _).mono ?_; rintro e w' ⟨rfl, rfl⟩)
      | go_in)
    go_ret
    exact ⟨ret_bool HN.out.symm, fun h => (by rw [HN.out] at h; cases h), grown_of_below HA.out⟩
end Go.Proofs.Ytjophhiccbkpjaa
