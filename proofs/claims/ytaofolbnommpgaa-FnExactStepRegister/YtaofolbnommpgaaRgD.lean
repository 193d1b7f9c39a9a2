/- Registers: timesOf and the program's GoodRegister. -/
import Derived.Test.YtaofolbnommpgaaMgC
import Derived.Test.YtaofolbnommpgaaNtT
import Derived.Test.YtaofolbnommpgaaRg2
namespace Go.Proofs.Ytaofolbnommpgaa
open Go.RowKit
set_option linter.unusedVariables false

theorem tm_take {l : List (Sh.T shRegOp)} {k : Nat} (h : k < l.length) : tmL (l.take (k + 1)) = tmL (l.take k) ++ tmO l[k] := by
  rw [List.take_succ_eq_append_getElem h, tmL, tmL, List.flatMap_append]; simp
theorem tm_take_len {l : List (Sh.T shRegOp)} {k : Nat} (hk : k ≤ 1000) : (tmL (l.take k)).length ≤ 2000 := by
  have h1 := tm_len (l.take k)
  have h2 : (l.take k).length ≤ k := List.length_take_le _ _
  omega
theorem AppB.int {W0 W W' : World} {lo : Nat} {v v' : Value} {l : List (Sh.T .int)} {xs : List Value} {B : Nat → Nat → Prop} {x : Int} (h : AppR W0 lo .int v l xs B) (ho : W0.ownsRow lo 3 1 v l.length xs) (hW : Below W0.heap.size W0 W) (hlo : lo ≤ W0.heap.size)
    (h2 : W'.ownsRow lo 3 1 v' (l.length + 1) (xs ++ [.int .i64 x])) (hg : W.grownBy W' v.ownBlock) (hwh : v'.ownBlock = v.ownBlock ∨ v'.ownBlock = some W.heap.size) : AppB W' lo 3 .int v' (l ++ [x]) :=
  AppR.app (e := .int) (ec := [.int .i64 x]) h ho hW rfl hlo rfl h2 hg hwh

/-- One number more, of a variable's box that was made just ahead. -/
theorem AppB.intBx {b w0 w' : World} {v v' : Value} {l : List (Sh.T .int)} {xs vs : List Value} {B : Nat → Nat → Prop} {x : Int} {t : TypeId} (h : AppR w0 b.heap.size .int v l xs B) (ho : w0.ownsRow b.heap.size 3 1 v l.length xs) (hb : Below b.heap.size b w0)
    (h2 : w'.ownsRow b.heap.size 3 1 v' (l.length + 1) (xs ++ [.int .i64 x])) (hg : ((w0.alloc (.cells vs.toArray t)).alloc (.cells #[.int .i64 x] 3)).grownBy w' v.ownBlock) (hwh : v'.ownBlock = v.ownBlock ∨ v'.ownBlock = some ((w0.alloc (.cells vs.toArray t)).alloc (.cells #[.int .i64 x] 3)).heap.size) :
    AppB w' b.heap.size 3 .int v' (l ++ [x]) ∧ Below b.heap.size b w' ∧ Bx w' w0.heap.size vs := by
  have hz := hb.size
  have h1 : Below w0.heap.size w0 (w0.alloc (.cells vs.toArray t)) := Go.Joins.below_alloc1 _ _
  refine ⟨AppB.int h ho (h1.trans ((Go.Joins.below_alloc1 _ _).mono h1.size)) hz h2 hg hwh, ((hb.alloc hz _).alloc (by simp; omega) _).grown hg (by simp; omega) (fun j hj => (ho.lt j hj).1), ((Bx.new w0 vs t).alloc _).grow hg (fun q => ?_)⟩
  have := (ho.lt _ q.symm).2
  omega

set_option maxRecDepth 100000 in
set_option maxHeartbeats 4000000 in
theorem timesOf_n (a : Option Addr) (cap : Nat) (l : List (Sh.T shRegOp)) (w : World) (hn : l.length ≤ 1000) (h : Lies w (.list shRegOp) [.slice a l.length cap] l) :
    Calls Try.prog 60 #[.slice a l.length cap] w fun r w' => (∃ a' cap', r = .returned (.slice a' (tmL l).length cap') ∧ (tmL l).length ≤ cap' ∧ cap' ≤ 9223372036854775807 ∧ Lies w' (.list .int) [.slice a' (tmL l).length cap'] (tmL l)) ∧ Below w.heap.size w w' := by
  have HL : Hid (Lies w (.list shRegOp) [.slice a l.length cap] l) := h
  clear h
  obtain ⟨n, hnn⟩ : ∃ n, n = l.length := ⟨_, rfl⟩
  have HN : Hid (n = l.length) := hnn
  rw [← hnn] at hn ⊢
  clear hnn
  obtain ⟨i0, hi0, hz0, hz1, hz2⟩ := info_parts inf_int
  go_enter Try.func60, Try.ntmps60
  go_wp2
  go_loopw [8, 3] (fun i v wr => ∃ k : Nat, k ≤ n ∧ i = .int .i64 k ∧ AppB wr w.heap.size 3 .int v (tmL (l.take k)) ∧ Below w.heap.size w wr) (fun i _ _ => n - (intOf i).toNat)
  case atStart => exact ⟨0, Nat.zero_le _, rfl, AppB.nil _ _ _ _, Below.refl _ _⟩
  case round =>
    obtain ⟨k, hk, rfl, hA, hBr⟩ := hrel
    have HK : Hid (AppB wr w.heap.size 3 .int u3 (tmL (l.take k)) ∧ Below w.heap.size w wr) := ⟨hA, hBr⟩
    clear hA
    by_cases hlt : k < n
    · have hlx : k < l.length := by have := HN.out; omega
      have hlt' : (k : Int) < (n : Int) := by omega
      obtain ⟨xg, xoff, xgo, xgs, xec, xel, xhec, xle⟩ := Lies.elem (HL.out.next hBr) hlx
      subst xgo
      rcases xX : l[k] with ⟨x0, x1, x2, x3, x4, ⟨x5, x6, x7, ⟨⟩⟩, x8, x9, ⟨⟩⟩
      rw [xX] at xle
      have xH : Hid (l[k] = (x0, x1, x2, x3, x4, (x5, x6, x7, ()), x8, x9, ())) := xX
      clear xX
      obtain ⟨xa1, xk1, xev, xq1⟩ := lies_RegOp xle
      subst xev
      have xc0 : wr.cell? ⟨xg, xoff + k * 10, none⟩ = some (.int .i64 x0) := xhec 0 (by simp)
      have xc1 : wr.cell? ⟨xg, xoff + k * 10 + 1, none⟩ = some (.bool x1) := xhec 1 (by simp)
      have xc2 : wr.cell? ⟨xg, xoff + k * 10 + 2, none⟩ = some (.string x2) := xhec 2 (by simp)
      have xc3 : wr.cell? ⟨xg, xoff + k * 10 + 3, none⟩ = some (.int .i64 x3) := xhec 3 (by simp)
      have xc4 : wr.cell? ⟨xg, xoff + k * 10 + 4, none⟩ = some (.slice xa1 x4.length xk1) := xhec 4 (by simp)
      have xc5 : wr.cell? ⟨xg, xoff + k * 10 + 5, none⟩ = some (.int .i64 x5) := xhec 5 (by simp)
      have xc6 : wr.cell? ⟨xg, xoff + k * 10 + 6, none⟩ = some (.int .i64 x6) := xhec 6 (by simp)
      have xc7 : wr.cell? ⟨xg, xoff + k * 10 + 7, none⟩ = some (.string x7) := xhec 7 (by simp)
      have xc8 : wr.cell? ⟨xg, xoff + k * 10 + 8, none⟩ = some (.int .i64 x8) := xhec 8 (by simp)
      have xc9 : wr.cell? ⟨xg, xoff + k * 10 + 9, none⟩ = some (.int .i64 x9) := xhec 9 (by simp)
      clear xhec xel xle
      clear hBr xq1
      have HT : Hid (tmL (l.take (k + 1)) = tmL (l.take k) ++ (x8 :: if x3 = 3 then [x9] else [])) := Hid.intro (by rw [tm_take hlx, xH.out]; rfl)
      have hTk := tm_take_len (l := l) (k := k) (by omega)
      obtain ⟨xs, B, ho, hR⟩ := HK.out.1
      obtain ⟨M, hM⟩ : ∃ M, M = tmL (l.take k) := ⟨_, rfl⟩
      rw [← hM] at hTk ho hR HT
      have HR : Hid (AppR wr w.heap.size .int u3 M xs B ∧ wr.ownsRow w.heap.size 3 1 u3 M.length xs ∧ Below w.heap.size w wr) := ⟨hR, ho, HK.out.2⟩
      clear hR ho hM HK
      have hzw : w.heap.size ≤ wr.heap.size := HR.out.2.2.size
      have HNW : Hid (∀ j u, [Value.int .i64 x8][j]? = some u → ((wr.alloc (.cells #[.int .i64 x0, .bool x1, .string x2, .int .i64 x3, .slice xa1 x4.length xk1, .int .i64 x5, .int .i64 x6, .string x7, .int .i64 x8, .int .i64 x9] 53)).alloc (.cells #[.int .i64 x8] 3)).cell? ((⟨wr.heap.size + 1, 0, none⟩ : Addr).add j) = some u) := by
        have hnw := cells_new (wr.alloc (.cells #[.int .i64 x0, .bool x1, .string x2, .int .i64 x3, .slice xa1 x4.length xk1, .int .i64 x5, .int .i64 x6, .string x7, .int .i64 x8, .int .i64 x9] 53)) [.int .i64 x8] 3
        rw [World.size_alloc] at hnw
        exact hnw
      have HO2 : Hid (((wr.alloc (.cells #[.int .i64 x0, .bool x1, .string x2, .int .i64 x3, .slice xa1 x4.length xk1, .int .i64 x5, .int .i64 x6, .string x7, .int .i64 x8, .int .i64 x9] 53)).alloc (.cells #[.int .i64 x8] 3)).ownsRow w.heap.size 3 1 u3 M.length xs) := (HR.out.2.1.alloc _).alloc _
      by_cases e : x3 = 3
      · have e' : (x3 == 3) = true := by simpa using e
        have HT2 : Hid (tmL (l.take (k + 1)) = (M ++ [x8]) ++ [x9]) := Hid.intro (by rw [HT.out, if_pos e]; simp)
        have HML : Hid ((M ++ [x8]).length ≤ 2001) := Hid.intro (by rw [List.length_append]; simp; omega)
        clear e HT
        go_wp2_with (first
          | (at_builtin; refine wpList_append_own_at _ rfl (.tmp 12) (.tmp 15) 51 rfl (w.heap.size) 3 i0 (.int .i64 0) 1 8 Try.underlying51 hi0 hz0 hz1 hz2 rfl (by decide) u3 M.length (xs) rfl (HO2.out) ⟨wr.heap.size + 1, 0, none⟩ 1 1 [.int .i64 x8] rfl rfl (HNW.out) (by intro u hu; simp at hu; subst hu; rfl) (by unfold maxLen; omega) (by omega) (by simp <;> omega) ?_; intro v8 w8 hown8 hgrow8 hnil8 hwh8; have HA1 : Hid (AppB w8 w.heap.size 3 .int v8 (M ++ [x8]) ∧ Below w.heap.size w w8 ∧ Bx w8 wr.heap.size [.int .i64 x0, .bool x1, .string x2, .int .i64 x3, .slice xa1 x4.length xk1, .int .i64 x5, .int .i64 x6, .string x7, .int .i64 x8, .int .i64 x9]) := AppB.intBx HR.out.1 HR.out.2.1 HR.out.2.2 hown8 hgrow8 hwh8; have d3 := HA1.out.2.2.cell 3 rfl; have d9 := HA1.out.2.2.cell 9 rfl; have dz := HA1.out.2.2.2; obtain ⟨ys, C, ho, hR⟩ := HA1.out.1; have HR2 : Hid (AppR w8 w.heap.size .int v8 (M ++ [x8]) ys C ∧ w8.ownsRow w.heap.size 3 1 v8 (M ++ [x8]).length ys ∧ Below w.heap.size w w8) := ⟨hR, ho, HA1.out.2.1⟩; clear hR ho; have hlen := HML.out; obtain ⟨M2, hM2⟩ : ∃ y, y = M ++ [x8] := ⟨_, rfl⟩; rw [← hM2] at hlen HR2 HT2; clear hM2; have hz8 : w.heap.size ≤ w8.heap.size := HR2.out.2.2.size; have HNW2 : Hid (∀ j u, [Value.int .i64 x9][j]? = some u → (w8.alloc (.cells #[.int .i64 x9] 3)).cell? ((⟨w8.heap.size, 0, none⟩ : Addr).add j) = some u) := cells_new w8 [.int .i64 x9] 3; have HO3 : Hid ((w8.alloc (.cells #[.int .i64 x9] 3)).ownsRow w.heap.size 3 1 v8 M2.length ys) := HR2.out.2.1.alloc _; clear hown8 hgrow8 hnil8 hwh8)
          | (at_builtin; refine wpList_append_own_at _ rfl (.tmp 20) (.tmp 23) 51 rfl (w.heap.size) 3 i0 (.int .i64 0) 1 8 Try.underlying51 hi0 hz0 hz1 hz2 rfl (by decide) v8 M2.length (ys) rfl (HO3.out) ⟨w8.heap.size, 0, none⟩ 1 1 [.int .i64 x9] rfl rfl (HNW2.out) (by intro u hu; simp at hu; subst hu; rfl) (by unfold maxLen; omega) (by omega) (by simp <;> omega) ?_; intro v9 w9 hown9 hgrow9 hnil9 hwh9; have HF : Hid (AppB w9 w.heap.size 3 .int v9 (M2 ++ [x9]) ∧ Below w.heap.size w w9) := ⟨AppB.int HR2.out.1 HR2.out.2.1 (Go.Joins.below_alloc1 w8 _) hz8 hown9 hgrow9 hwh9, (HR2.out.2.2.alloc hz8 _).grown hgrow9 (by simp; omega) (fun j hj => (HR2.out.2.1.lt j hj).1)⟩; clear hown9 hgrow9 hnil9 hwh9)
          | go_in)
        go_roundw
        case rel => exact ⟨k + 1, by omega, by go_num, by rw [HT2.out]; exact HF.out.1, HF.out.2⟩
        case measure => simp [intOf]; omega
      · have e' : (x3 == 3) = false := by simpa using e
        have HT2 : Hid (tmL (l.take (k + 1)) = (M ++ [x8])) := Hid.intro (by rw [HT.out, if_neg e])
        clear e HT
        go_wp2_with (first | (at_builtin; refine wpList_append_own_at _ rfl (.tmp 12) (.tmp 15) 51 rfl (w.heap.size) 3 i0 (.int .i64 0) 1 8 Try.underlying51 hi0 hz0 hz1 hz2 rfl (by decide) u3 M.length (xs) rfl (HO2.out) ⟨wr.heap.size + 1, 0, none⟩ 1 1 [.int .i64 x8] rfl rfl (HNW.out) (by intro u hu; simp at hu; subst hu; rfl) (by unfold maxLen; omega) (by omega) (by simp <;> omega) ?_; intro v8 w8 hown8 hgrow8 hnil8 hwh8; have HA1 : Hid (AppB w8 w.heap.size 3 .int v8 (M ++ [x8]) ∧ Below w.heap.size w w8 ∧ Bx w8 wr.heap.size [.int .i64 x0, .bool x1, .string x2, .int .i64 x3, .slice xa1 x4.length xk1, .int .i64 x5, .int .i64 x6, .string x7, .int .i64 x8, .int .i64 x9]) := AppB.intBx HR.out.1 HR.out.2.1 HR.out.2.2 hown8 hgrow8 hwh8; have d3 := HA1.out.2.2.cell 3 rfl; have d9 := HA1.out.2.2.cell 9 rfl; have dz := HA1.out.2.2.2; clear hown8 hgrow8 hnil8 hwh8) | go_in)
        go_roundw
        case rel => exact ⟨k + 1, by omega, by go_num, by rw [HT2.out]; exact HA1.out.1, HA1.out.2.1⟩
        case measure => simp [intOf]; omega
    · have hkn : k = n := by omega
      obtain ⟨a', cap', hv, hle, hO⟩ := HK.out.1.own
      have hcap : cap' ≤ 9223372036854775807 := by
        obtain ⟨xs, B, ho, _⟩ := HK.out.1
        rw [hv] at ho
        obtain ⟨_, q | ⟨g', c', cur, q, _, _, _, hm, _⟩⟩ := ho
        · have := q.1; simp only [Value.slice.injEq] at this; omega
        · simp only [Value.slice.injEq] at q
          unfold maxLen at hm
          omega
      have e : tmL (l.take k) = tmL l := by rw [hkn, HN.out, List.take_length]
      rw [e] at hv hle hO
      have HF : Hid ((∃ a' cap', Ending.returned u3 = .returned (.slice a' (tmL l).length cap') ∧ (tmL l).length ≤ cap' ∧ cap' ≤ 9223372036854775807 ∧ Lies wr (.list .int) [.slice a' (tmL l).length cap'] (tmL l)) ∧ Below w.heap.size w wr) := ⟨⟨a', cap', by rw [hv], hle, hcap, hO.lies⟩, HK.out.2⟩
      clear hv hle hO hcap e hkn HK hBr
      go_wp2
      go_ret
      exact HF.out
end Go.Proofs.Ytaofolbnommpgaa
