/- slices.All at numbers, as an iterator; maps.Insert, maps.Collect of it: the contract of countsOf. -/
import Derived.RangeFuncNested
import Derived.RangeFuncBound
import Derived.RangeFuncCalls
import Derived.RangeFuncLeaves
import Derived.Shelf.Abstract
import Derived.Shelf.RegionOpen
import Derived.WalkKit
import Derived.OwnWalkIn
import Derived.TacticsInMore
import Derived.LoopNIn
import Derived.LoopIn
import Derived.Maps.OwnIn
import Derived.Test.YtnglgndocmkbfaaShMg
import Derived.Test.YtnglgndocmkbfaaCtA
namespace Go.Proofs.Ytnglgndocmkbfaa
open Go.RowKit Go.Shelf
set_option linter.unusedVariables false
set_option linter.unusedSimpArgs false
attribute [local go_sem] Oper.semAt_some

/-- Keys that are numbers. -/
abbrev kvI : Int → Value := Value.int .i64
theorem findNow_int (k : Int) : ∀ (es : List MapEntry) (l : List (Int × Value)) (i : Nat), EsL kvI es l → Instr.findNow (.int .i64) (.int .i64 k) es i = some (fnd k l i)
  | [], [], i, _ => rfl
  | e :: es, [], i, h => by have := h.len; simp at this
  | [], p :: l, i, h => by have := h.len; simp at this
  | e :: es, p :: l, i, h => by
    obtain ⟨h1, h2, h3⟩ := h.cons
    have ih := findNow_int k es l (i + 1) h3
    unfold Instr.findNow fnd
    rw [h1]
    simp only [kvI, Instr.sameNow, if_true]
    by_cases q : p.1 = k
    · rw [if_pos q, q]; simp [h2]
    · rw [if_neg q]
      have : (k == p.1) = false := beq_false_of_ne (fun e => q e.symm)
      simp [this, ih]
theorem keyL_int {P : Program} {kt : TypeId} (hk : P.underlying kt = some (.int .i64)) : KeyL P kt kvI where
  check c k w := by unfold Instr.checkKey; simp [run_underlying hk, Result.andThen]
  find k es l w h := by unfold Instr.findKey; simp [run_underlying hk, findNow_int k es l 0 h, Result.andThen]
  same k := by simp [kvI, Instr.sameBits]
/-- Places with what stands there. -/
def intM (L : List Int) (n : Nat) : List (Int × Value) := (List.range n).map (fun x : Nat => ((x : Int), Value.int .i64 (atI L x)))
def intP (L : List Int) (pre : List Nat) : List (Int × Value) := pre.foldl (fun l (x : Nat) => putK (x : Int) (Value.int .i64 (atI L x)) l) []
theorem intP_snoc (L : List Int) (pre : List Nat) (x : Nat) : intP L (pre ++ [x]) = putK (x : Int) (Value.int .i64 (atI L x)) (intP L pre) := by simp [intP]
theorem intP_range (L : List Int) : ∀ n, intP L (List.range n) = intM L n
  | 0 => rfl
  | n + 1 => by
    rw [List.range_succ, intP_snoc, intP_range L n, putK_new]
    · unfold intM; rw [List.range_succ, List.map_append]; rfl
    · intro p hp e
      obtain ⟨i, hi, rfl⟩ := List.mem_map.1 hp
      have := List.mem_range.1 hi
      simp only at e; omega
theorem wpListIn_store {F : Fence} {nF : Nat} {P : Program} {w : World} {o : Oper} {a : Act} {Q : Exit → Act → World → Prop} {ops : Array Oper} {rest : List Oper} {b : Nat} {α : Type} {kv : α → Value} {l : List (α × Value)} {t kt vt : TypeId} [DecidableEq α]
    (hg : o.guard = none) (m x v : Operand) (hop : o.op = Op.mapUpdate t m x v) (ht : P.underlying t = some (.map kt vt)) (hk : KeyL P kt kv) (h : MpX kv w b l) (hm : a.eval m = .map (some b)) {k : α} (hx : a.eval x = kv k) {val : Value} (hv : a.eval v = val)
    (hK : ∀ w', MpX kv w' b (putK k val l) → w.grownBy w' (some b) → w'.heap.size = w.heap.size → wpListIn F nF P ops Q rest (a.put o.dst undef) w') : wpListIn F nF P ops Q (o :: rest) a w := by
  refine wpListIn_plain hg fun K' hK' => ?_
  obtain ⟨w', hrun, r1, r2, r3⟩ := h.store ht hk k val
  unfold Oper.wpIn
  refine ⟨by simp [Oper.about, hop], ?_⟩
  rw [Oper.semAt_plain F _ _ (by rw [hop]; intro c hc'; cases hc')]
  simp [execOp, hop, hm, hx, hv, hrun, Result.andThen]
  exact hK' _ _ (hK w' r1 r2 r3)

set_option maxRecDepth 100000 in
set_option maxHeartbeats 4000000 in
theorem all1_in (n : Nat) (hn : 1 ≤ n) (l Bs n₀ b off len cap : Nat) (L : List Int) (hreach : len ≤ 1048576) (hb : b < n₀) (hBn : Bs < n₀) (J Jx : List Nat → World → Prop)
    (hY : ∀ (pre : List Nat) (x : Nat) (W : World), J pre W → pre.length < len → YieldAt Fence.wide (n - 1) Try.prog l #[.int .i64 (x : Int), .int .i64 (atI L x)] W fun e W' =>
      (e = .returned (.bool true) ∧ J (pre ++ [x]) W' ∧ Below n₀ W W') ∨ (e = .returned (.bool false) ∧ Jx (pre ++ [x]) W'))
    (W : World) (hn0 : n₀ ≤ W.heap.size) (hBs : W.cell? ⟨Bs, 0, none⟩ = some (.slice (some ⟨b, off, none⟩) len cap)) (hc : Elems W b off len 1 (intF (atI L))) (h0 : J [] W) :
    CallsIn Fence.wide n Try.prog 149 #[.func (.yield l) #[] #[], .pointer (some ⟨Bs, 0, none⟩)] W fun e W' => (∃ v, e = .returned v) ∧
      ((∃ ys, ys = List.range len ∧ J ys W') ∨ (∃ pre, (∃ k, k ≤ len ∧ pre = List.range k) ∧ Jx pre W')) := by
  refine callsIn_of_wp Try.func149 rfl trivial ?_ rfl
  simp only [Try.ntmps149, List.size_toArray, List.length_cons, List.length_nil, Nat.reduceAdd, Nat.reduceSub, Array.replicate_succ, Array.replicate_zero, List.push_toArray, List.append_toArray, List.nil_append, List.cons_append]
  have HC : Hid (Elems W b off len 1 (intF (atI L))) := hc
  clear hc
  gi_wp2
  gi_loopw [7] (fun i wr => ∃ k : Nat, k ≤ len ∧ i = .int .i64 k ∧ J (List.range k) wr ∧ Below n₀ W wr) (fun i _ => len - (intOf i).toNat)
  case atStart => exact ⟨0, Nat.zero_le _, rfl, h0, Below.refl _ _⟩
  case round =>
    obtain ⟨k, hk, rfl, hJs, hnx⟩ := hrel
    by_cases hlt : k < len
    · have hlt' : (k : Int) < (len : Int) := by omega
      have c0 := int_cell (HC.out.below hnx hb) hlt
      obtain ⟨fn, tmps, assign, body, hy, hR⟩ := hY _ k _ hJs (by simp; exact hlt)
      (try dsimp only at hy)
      gi_wp2
      refine hR.mono ?_
      rintro e W3 (⟨rfl, hJ3, hk3⟩ | ⟨rfl, hJx3⟩)
      · gi_wp2
        go_roundw
        case rel => exact ⟨k + 1, by omega, by go_num, by rw [List.range_succ]; exact hJ3, hnx.trans hk3⟩
        case measure => simp [intOf]; omega
      · gi_wp2
        refine bodyPost_ret (results_none rfl _ _ _) rfl ?_
        exact ⟨⟨_, rfl⟩, .inr ⟨_, ⟨k + 1, by omega, by rw [List.range_succ]⟩, hJx3⟩⟩
    · have hkl : k = len := by omega
      have hlt' : ¬ (k : Int) < (len : Int) := by omega
      have HK : Hid (k = len) := hkl
      clear hkl
      gi_wp2
      go_end0
      exact ⟨⟨_, rfl⟩, .inl (by rw [← HK.out]; exact hJs)⟩

theorem all_stops (n : Nat) (hn : 1 ≤ n) (Bs : Nat) (g : Nat) (off len cap : Nat) (L : List Int) (hreach : len ≤ 1048576) (w : World) (hBs : Bs < w.heap.size) (hg : g < w.heap.size)
    (hc : w.cell? ⟨Bs, 0, none⟩ = some (.slice (some ⟨g, off, none⟩) len cap)) (hs : Elems w g off len 1 (intF (atI L))) :
    SeqStopsK Fence.wide n Try.prog 149 #[.pointer (some ⟨Bs, 0, none⟩)] (fun x : Nat => #[.int .i64 (x : Int), .int .i64 (atI L x)]) (Below w.heap.size) (fun ys => ys = List.range len)
      (fun pre => ∃ k, k ≤ len ∧ pre = List.range k) len w := fun l J Jx W hW hJ hJx hY h0 => by
  have hc' := (hW.cell (p := ⟨Bs, 0, none⟩) hBs).trans hc
  exact all1_in n hn l Bs w.heap.size g off len cap L hreach hg hBs J Jx hY W hW.size hc' (hs.below hW hg) h0

set_option maxHeartbeats 1000000 in
theorem all_any (a : Option Addr) (len cap : Nat) (w : World) :
    Calls Try.prog 133 #[.slice a len cap] w fun e w' => e = .returned (.func (.func 149) #[] #[.pointer (some ⟨w.heap.size, 0, none⟩)]) ∧ w' = w.alloc (.cells #[.slice a len cap] 23) := by
  go_enter Try.func133, Try.ntmps133
  go_wp2
  go_ret
  exact ⟨rfl, rfl⟩

/-- Between the rounds: the map in block b, its box in block m. -/
def InI (w0 : World) (L : List Int) (b m : Nat) (pre : List Nat) (W : World) : Prop := MpX kvI W b (intP L pre) ∧ Boxed W m 141 (.map (some b)) ∧ Below w0.heap.size w0 W
set_option maxRecDepth 100000 in
set_option maxHeartbeats 8000000 in
theorem insInts_in (n : Nat) (hn : 4 ≤ n) (b Bs len : Nat) (L : List Int) (hl : len ≤ 1048576) (w0 w : World) (hw : Below w0.heap.size w0 w) (hb : w0.heap.size ≤ b) (hm : MpX kvI w b [])
    (hseq : SeqStopsK Fence.wide (n - 1) Try.prog 149 #[.pointer (some ⟨Bs, 0, none⟩)] (fun x : Nat => #[.int .i64 (x : Int), .int .i64 (atI L x)]) (Below w0.heap.size) (fun ys => ys = List.range len) (fun pre => ∃ k, k ≤ len ∧ pre = List.range k) len w0) :
    CallsIn Fence.wide n Try.prog 148 #[.map (some b), .func (.func 149) #[] #[.pointer (some ⟨Bs, 0, none⟩)]] w fun r w' => r = .returned (.tuple #[]) ∧ MpX kvI w' b (intM L len) ∧ Below w0.heap.size w0 w' := by
  have h1 : 1 ≤ n := by omega
  have hbw : b < w.heap.size := hm.lt
  refine callsIn_of_wp_marks Try.func148 rfl trivial ?_ rfl
  simp only [Try.ntmps148, List.size_toArray, List.length_cons, List.length_nil, Nat.reduceAdd, Nat.reduceSub, Array.replicate_succ, Array.replicate_zero, List.push_toArray, List.append_toArray, List.nil_append, List.cons_append]
  gi_wp2
  have bL := Boxed.new w 141 (.map (some b))
  have hB0 : Below w.heap.size w (w.alloc (.cells #[.map (some b)] 141)) := Go.Joins.below_alloc1 _ _
  have hsz : (w.alloc (.cells #[.map (some b)] 141)).heap.size = w.heap.size + 1 := by simp
  obtain ⟨W0, hW0⟩ : ∃ W0, w.alloc (.cells #[.map (some b)] 141) = W0 := ⟨_, rfl⟩
  rw [hW0] at bL hB0 hsz ⊢
  clear hW0
  have hBW : Below w0.heap.size w0 W0 := hw.trans (hB0.mono hw.size)
  have hm0 : MpX kvI W0 b [] := hm.keep (hB0.block b hbw)
  refine wpIn_rangeFunc_ownH rfl h1 (gf := 149) (lb := #[.pointer (some ⟨Bs, 0, none⟩)]) rfl trivial (enters_of Try.func149 (by kernel_rfl) rfl) hseq belowK_t (belowK_b hBW.size) hBW (fun _ => rfl)
    (InI w0 L b w.heap.size) (fun _ _ _ => False) (fun s W W' row h hg hr => ⟨h.1.keep (hg.block b h.1.lt (fun e => by have := (hr b e.symm).1; omega)), h.2.1.kept hg (fun e => by have := (hr _ e.symm).1; omega), h.2.2.grown hg h.2.2.size (fun k e => by have := (hr k e).1; have := hBW.size; omega)⟩) (fun c s W W' row h _ _ => h)
    ⟨hm0, bL, hBW⟩
    (fun x a' W => a' = { tmps := #[.map (some b), .func (.func 149) #[] #[.pointer (some ⟨Bs, 0, none⟩)], .pointer (some ⟨w.heap.size, 0, none⟩), undef, .int .i64 (x : Int), .int .i64 (atI L x), .func (.func 149) #[] #[.pointer (some ⟨Bs, 0, none⟩)], .int .i64 (x : Int), .int .i64 (atI L x), undef, undef, undef], defers := [] }) (fun x a' _ W W' row h _ _ => h)
    ?assign ?body ?done ?stop
  case assign =>
    rintro l pre x W Kk hI hK
    gi_wp2
    exact hK _ _ (KeepsFrom.refl _ _) (Below.refl _ _) hI rfl
  case body =>
    rintro l pre x a' W hl2 _ hI rfl hlt
    have HI : Hid (InI w0 L b w.heap.size pre W) := hI
    have cL := hI.2.1.cell
    have zL := hI.2.1.lt
    clear hI
    gi_wp2_with (gi_at_mapUpdate; refine wpListIn_store rfl _ _ _ (t := 141) rfl Try.underlying141 (keyL_int Try.underlying3) HI.out.1 rfl (k := (x : Int)) rfl rfl ?_; intro w9 hm9 hg9 hz9)
    exact ⟨KeepsFrom.of_grownBy hg9 (fun j e => by cases e; omega), (Below.refl _ _).grown hg9 HI.out.2.2.size (fun k e => by cases e; exact hb), by rw [intP_snoc]; exact hm9, HI.out.2.1.kept hg9 (fun e => by cases e; omega), HI.out.2.2.grown hg9 HI.out.2.2.size (fun k e => by cases e; exact hb)⟩
  case done =>
    rintro D ys W hD rfl hI hK
    have hg := grownBy_putObj' W D (.deferred none)
    have hDb : some b ≠ some D := fun e => by cases e; omega
    have h9 := hI.1.keep (hg.block b hI.1.lt hDb)
    have h8 := hI.2.2.grown hg hI.2.2.size (fun k e => by cases e; have := hBW.size; omega)
    rw [intP_range] at h9
    gi_wp2
    refine ⟨by simp, .inl ⟨_, _, rfl, run_takeDeferred hK, ?_⟩⟩
    exact ⟨.tuple #[], by simp [results, Try.f148, go_sem], rfl, h9, h8⟩
  case stop =>
    rintro D c pre W hD _ h hK
    exact h.elim
end Go.Proofs.Ytnglgndocmkbfaa
