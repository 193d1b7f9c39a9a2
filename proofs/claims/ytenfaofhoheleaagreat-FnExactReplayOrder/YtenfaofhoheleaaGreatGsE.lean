/- The contract of idsWithTid. -/
import Derived.Test.YtenfaofhoheleaaGreatGsD
import Derived.Test.YtenfaofhoheleaaGreatHeP
import Derived.Deep.AppendLies
import Derived.Maps.AppendAt
namespace Go.Proofs.YtenfaofhoheleaaGreat
open Go.RowKit
set_option linter.unusedVariables false

theorem idsL_len (T : Nat → RuV) : ∀ m, (idsL T m).length ≤ m
  | 0 => Nat.le_refl _
  | m + 1 => by
    have := idsL_len T m
    simp only [idsL]
    split
    · simp; omega
    · omega
def IdsPost (T : Nat → RuV) (n : Nat) (w : World) (r : Ending) (w' : World) : Prop := ∃ v, r = .returned v ∧ w'.ownsRow w.heap.size 3 1 v (idsL T n).length ((idsL T n).map (Value.int .i64)) ∧ Below w.heap.size w w'
set_option maxRecDepth 100000 in
set_option maxHeartbeats 4000000 in
theorem idsWithTid_any (a : Option Addr) (n cap : Nat) (T : Nat → RuV) (U : Nat → RuA) (w : World) (hn : n ≤ 1048576) (hs : RuS w a n T U) :
    Calls Tryz.prog 65 #[.slice a n cap] w fun r w' => IdsPost T n w r w' := by
  have HS : Hid (RuS w a n T U) := hs
  clear hs
  obtain ⟨i0, hi0, hz0, hz1, hz2⟩ := info_parts info_int
  go_enter Tryz.func65, Tryz.ntmps65
  go_wp2
  go_loopw [8, 3] (fun x v wr => ∃ m : Nat, m ≤ n ∧ x = .int .i64 m ∧ wr.ownsRow w.heap.size 3 1 v (idsL T m).length ((idsL T m).map (Value.int .i64)) ∧ Below w.heap.size w wr) (fun x _ _ => n - (intOf x).toNat)
  case atStart => exact ⟨0, Nat.zero_le _, rfl, World.ownsRow_nil _ _ _ _, Below.refl _ _⟩
  case round =>
    obtain ⟨m, hm, rfl, hown, hBi⟩ := hrel
    by_cases hml : m < n
    · rcases (HS.out.next hBi).1 with h | ⟨b, off, rfl, hbs, hE⟩
      · omega
      have hml' : (m : Int) < (n : Int) := by omega
      obtain ⟨c0, c1, c2, c3, c4, c5, c6⟩ := ru_cells hE hml
      have hzi : w.heap.size ≤ wr.heap.size := hBi.size
      have hLk : (idsL T m).length ≤ 1048576 := by have := idsL_len T m; omega
      cases hb : hasB (T m).st
      · have HE : Hid (idsL T (m + 1) = idsL T m) := by show _ = _; rw [idsL, if_neg (by rw [hb]; simp)]
        have HH : Hid (wr.ownsRow w.heap.size 3 1 u3 (idsL T m).length ((idsL T m).map (Value.int .i64)) ∧ Below w.heap.size w wr) := ⟨hown, hBi⟩
        clear hown hBi hE
        go_wp2_with (go_at_call 87; refine (hasTid_any _ _).mono ?_; rintro e w' ⟨rfl, rfl⟩)
        go_roundw
        case rel => exact ⟨m + 1, by omega, by go_num, by rw [HE.out]; exact own_keep HH.out.1 (Go.Joins.below_alloc1 _ _), HH.out.2.alloc hzi _⟩
        case measure => simp [intOf]; omega
      · have HE : Hid (idsL T (m + 1) = idsL T m ++ [(T m).id]) := by show _ = _; rw [idsL, if_pos hb]
        obtain ⟨L, hL⟩ : ∃ L, L = idsL T m := ⟨_, rfl⟩
        rw [← hL] at HE hLk hown
        have HW : Hid ((wr.alloc (.cells #[.int .i64 (T m).id, .int .i64 (T m).st, .slice (U m).la (T m).ln (U m).lc, .slice (U m).ca (T m).cn (U m).cc, .int .i64 (T m).e, .int .i64 (T m).s, .bool (T m).b] 71)).ownsRow w.heap.size 3 1 u3 L.length (L.map (Value.int .i64)) ∧ Below w.heap.size w (wr.alloc (.cells #[.int .i64 (T m).id, .int .i64 (T m).st, .slice (U m).la (T m).ln (U m).lc, .slice (U m).ca (T m).cn (U m).cc, .int .i64 (T m).e, .int .i64 (T m).s, .bool (T m).b] 71))) := ⟨own_keep hown (Go.Joins.below_alloc1 _ _), hBi.alloc hzi _⟩
        have hnw := cells_new (wr.alloc (.cells #[.int .i64 (T m).id, .int .i64 (T m).st, .slice (U m).la (T m).ln (U m).lc, .slice (U m).ca (T m).cn (U m).cc, .int .i64 (T m).e, .int .i64 (T m).s, .bool (T m).b] 71)) [.int .i64 (T m).id] 3
        have HNW : Hid (∀ j u, [Value.int .i64 (T m).id][j]? = some u → ((wr.alloc (.cells #[.int .i64 (T m).id, .int .i64 (T m).st, .slice (U m).la (T m).ln (U m).lc, .slice (U m).ca (T m).cn (U m).cc, .int .i64 (T m).e, .int .i64 (T m).s, .bool (T m).b] 71)).alloc (.cells #[.int .i64 (T m).id] 3)).cell? ((⟨wr.heap.size + 1, 0, none⟩ : Addr).add j) = some u) := by rw [World.size_alloc] at hnw; exact hnw
        clear hown hBi hL hE hnw
        go_wp2_with (first
          | (go_at_call 87; refine (hasTid_any _ _).mono ?_; rintro e w' ⟨rfl, rfl⟩)
          | (at_builtin; refine wpList_append_own_at _ rfl (.tmp 15) (.tmp 18) 24 rfl w.heap.size 3 i0 (.int .i64 0) 1 8 Tryz.underlying24 hi0 hz0 hz1 hz2 rfl (by decide) u3 L.length (L.map (Value.int .i64)) rfl (World.ownsRow.alloc HW.out.1 _) ⟨wr.heap.size + 1, 0, none⟩ 1 1 [.int .i64 (T m).id] rfl rfl HNW.out (by intro u hu; simp at hu; subst hu; rfl) (by unfold maxLen; omega) (by omega) (by simp <;> omega) ?_; intro v4 w4 hown hgrow hnil hwhere)
          | go_in)
        have HFF : Hid (w4.ownsRow w.heap.size 3 1 v4 (idsL T (m + 1)).length ((idsL T (m + 1)).map (Value.int .i64)) ∧ Below w.heap.size w w4) := by
          refine ⟨?_, (HW.out.2.alloc HW.out.2.size _).grown hgrow (by simp; omega) (fun j hj => (HW.out.1.lt j hj).1)⟩
          rw [HE.out, List.map_append, List.length_append]; exact hown
        clear hown hgrow hnil hwhere
        go_wp2
        go_roundw
        case rel => exact ⟨m + 1, by omega, by go_num, HFF.out.1, HFF.out.2⟩
        case measure => simp [intOf]; omega
    · have hmn : m = n := by omega
      subst hmn
      have HH : Hid (wr.ownsRow w.heap.size 3 1 u3 (idsL T m).length ((idsL T m).map (Value.int .i64)) ∧ Below w.heap.size w wr) := ⟨hown, hBi⟩
      clear hown hBi
      go_wp2
      go_ret
      exact ⟨_, rfl, HH.out.1, HH.out.2⟩
end Go.Proofs.YtenfaofhoheleaaGreat
