/- Who wrote a key last: the contract of lastWriter. -/
import Derived.Test.YthbpjmnlgfahmaaBwd
namespace Go.Proofs.Ythbpjmnlgfahmaa
open Go.RowKit Go.Shelf
set_option linter.unusedVariables false
attribute [local go_sem] Oper.semAt_some

set_option maxRecDepth 100000 in
set_option maxHeartbeats 4000000 in
theorem lastWriter_in (F : Fence) (n : Nat) (h4 : F.fn 78) (h6 : F.fn 102) (h8 : F.fn 111) (hro : F.round = none) (hn : 3 ≤ n) (a : Option Addr) (len cap : Nat) (K T : Nat → Int) (S : Nat → ByteArray) (key : ByteArray) (w : World) (hl : len ≤ 1048576) (hs : Sl w a len 3 (opF K T S)) :
    CallsIn F n Try.prog 78 #[.slice a len cap, .string key] w fun e W' => e = .returned (.int .i64 (lastN (wrB K S key) T len)) ∧ Below w.heap.size w W' := by
  have h1 : 1 ≤ n := by omega
  refine callsIn_of_wp_marks Try.func78 rfl h4 ?_ hro
  simp only [Try.ntmps78, List.size_toArray, List.length_cons, List.length_nil, Nat.reduceAdd, Nat.reduceSub, Array.replicate_succ, Array.replicate_zero, List.push_toArray, List.append_toArray, List.nil_append, List.cons_append]
  gi_wp2_with (gi_at_call 102; refine (bwd_in F (n - 1) h6 hro _ _ _ _).mono ?_; rintro e w' ⟨rfl, rfl⟩)
  have bK := ((Boxed.new w 9 (.string key)).alloc (.cells #[.int .i64 0] 3)).alloc (.cells #[.slice a len cap] 32)
  have bR := (Boxed.new (w.alloc (.cells #[.string key] 9)) 3 (.int .i64 0)).alloc (.cells #[.slice a len cap] 32)
  have bN := Boxed.new ((w.alloc (.cells #[.string key] 9)).alloc (.cells #[.int .i64 0] 3)) 32 (.slice a len cap)
  simp only [World.size_alloc] at bR bN
  have hB0 : Below w.heap.size w (((w.alloc (.cells #[.string key] 9)).alloc (.cells #[.int .i64 0] 3)).alloc (.cells #[.slice a len cap] 32)) := (((Below.refl _ w).alloc (Nat.le_refl _) _).alloc (by simp) _).alloc (by simp; omega) _
  have hsz : (((w.alloc (.cells #[.string key] 9)).alloc (.cells #[.int .i64 0] 3)).alloc (.cells #[.slice a len cap] 32)).heap.size = w.heap.size + 3 := by simp
  obtain ⟨W0, hW0⟩ : ∃ W0, ((w.alloc (.cells #[.string key] 9)).alloc (.cells #[.int .i64 0] 3)).alloc (.cells #[.slice a len cap] 32) = W0 := ⟨_, rfl⟩
  rw [hW0] at bK bR bN hB0 hsz ⊢
  clear hW0
  have HB0 : Hid (Below w.heap.size w W0 ∧ Boxed W0 w.heap.size 9 (.string key) ∧ Boxed W0 (w.heap.size + 1) 3 (.int .i64 0)) := ⟨hB0, bK, bR⟩
  refine wpIn_rangeFunc_ownH hro h1 (gf := 111) (lb := #[.pointer (some ⟨w.heap.size + 1 + 1, 0, none⟩)]) rfl h8 (enters_of Try.func111 (by kernel_rfl) rfl)
    (bwd_stops F (n - 1) h8 hro (by omega) (w.heap.size + 1 + 1) a len cap K T S hl W0 (by omega) bN.cell (hs.below hB0 (Nat.le_refl _))) belowK_t (belowK_b (Nat.le_refl _)) (Below.refl _ _) (fun _ => rfl)
    (fun pre W => (∀ y ∈ pre, wrB K S key y = false) ∧ Below W0.heap.size W0 W)
    (fun c pre W => (c = .ret ∧ ∃ ini last, pre = ini ++ [last] ∧ (∀ y ∈ ini, wrB K S key y = false) ∧ wrB K S key last = true ∧ W.cell? ⟨w.heap.size + 1, 0, none⟩ = some (.int .i64 (T last))) ∧ Below w.heap.size w W)
    (OwnFrom.and (ownFrom_pure _ (fun pre => ∀ y ∈ pre, wrB K S key y = false)) (ownFrom_below (Nat.le_refl _) (Nat.le_refl _)))
    (fun c => OwnFrom.and (Own.from (fun s A B row hs hg hr => by obtain ⟨hc, ini, last, e1, e2, e3, e4⟩ := hs; exact ⟨hc, ini, last, e1, e2, e3, cell_kept e4 hg hr⟩) _) (ownFrom_below (Nat.le_refl _) (by omega)))
    ⟨by simp, Below.refl _ _⟩
    (fun x a' W => ∃ Bx, w.heap.size + 1 < Bx ∧ (W.cell? ⟨Bx, 0, none⟩ = some (.int .i64 (K x)) ∧ W.cell? ⟨Bx, 1, none⟩ = some (.int .i64 (T x)) ∧ W.cell? ⟨Bx, 2, none⟩ = some (.string (S x))) ∧ a' = { tmps := #[.slice a len cap, .string key, undef, .pointer (some ⟨w.heap.size, 0, none⟩), .pointer (some ⟨w.heap.size + 1, 0, none⟩), undef, .pointer (some ⟨Bx, 0, none⟩), .slice a len cap, .func (.func 111) #[] #[.pointer (some ⟨w.heap.size + 1 + 1, 0, none⟩)], .int .i64 (x : Int), .agg #[.int .i64 (K x), .int .i64 (T x), .string (S x)], undef, undef, undef, undef, undef, undef, undef, undef, undef, undef, undef], defers := [] })
    (fun x a' _ X Y row hs hg hr => by obtain ⟨Bx, g1, ⟨g2, g3, g4⟩, g5⟩ := hs; exact ⟨Bx, g1, ⟨cell_kept g2 hg (fun r e => (hr r e).2), cell_kept g3 hg (fun r e => (hr r e).2), cell_kept g4 hg (fun r e => (hr r e).2)⟩, g5⟩)
    ?assign ?body ?done ?stop
  case assign =>
    rintro l pre x W Kk ⟨hp, hB1⟩ hK
    gi_wp2
    have hsW := hB1.size
    exact hK _ _ ((KeepsOthers.alloc _ _).from _) ((Below.refl _ W).alloc hsW _) ⟨hp, hB1.alloc hsW _⟩ ⟨W.heap.size, by omega, ⟨by simp, by simp, by simp⟩, rfl⟩
  case body =>
    rintro l pre x a' W hl2 _ ⟨hp, hB1⟩ ⟨Bx, hBx, ⟨x0, x1, x2⟩, rfl⟩ hlt
    have cK := (hB1.cell (p := ⟨w.heap.size, 0, none⟩) (show w.heap.size < W0.heap.size by omega)).trans bK.cell
    have cR := (hB1.cell (p := ⟨w.heap.size + 1, 0, none⟩) (show w.heap.size + 1 < W0.heap.size by omega)).trans bR.cell
    have fR := (hB1.frozen (p := ⟨w.heap.size + 1, 0, none⟩) (show w.heap.size + 1 < W0.heap.size by omega)).trans bR.frozen
    have HB : Hid (Below W0.heap.size W0 W ∧ (∀ y ∈ pre, wrB K S key y = false)) := ⟨hB1, hp⟩
    have HBw : Hid (Below w.heap.size w W) := HB0.out.1.trans (hB1.mono (by omega))
    have HW : Hid (wrB K S key x = (K x == 2 && (S x).toList == key.toList)) := rfl
    clear hB1 hp bK bR bN hB0
    cases h2 : (K x == 2)
    · gi_wp2
      exact ⟨KeepsFrom.refl _ _, Below.refl _ _, fun y hy => (List.mem_append.1 hy).elim (HB.out.2 y) (fun e => by simp at e; subst e; rw [HW.out, h2]; rfl), HB.out.1⟩
    · cases h3 : ((S x).toList == key.toList)
      · gi_wp2
        exact ⟨KeepsFrom.refl _ _, Below.refl _ _, fun y hy => (List.mem_append.1 hy).elim (HB.out.2 y) (fun e => by simp at e; subst e; rw [HW.out, h2, h3]; rfl), HB.out.1⟩
      · gi_wp2
        exact ⟨(KeepsOthers.setCell _ _ _).from _, ⟨rfl, pre, x, rfl, HB.out.2, by rw [HW.out, h2, h3]; rfl, World.cell?_setCell_same' _ _ _ (by rw [cR]; rfl)⟩, HBw.out.setCell (p := ⟨w.heap.size + 1, 0, none⟩) (by simp) _⟩
  case done =>
    rintro D ys W hD rfl ⟨hne, hB1⟩ hK
    have cR := (hB1.cell (p := ⟨w.heap.size + 1, 0, none⟩) (show w.heap.size + 1 < W0.heap.size by omega)).trans bR.cell
    have fR := (hB1.frozen (p := ⟨w.heap.size + 1, 0, none⟩) (show w.heap.size + 1 < W0.heap.size by omega)).trans bR.frozen
    have HBw : Hid (Below w.heap.size w W) := HB0.out.1.trans (hB1.mono (by omega))
    gi_wp2
    have hK' := (KeepsOthers.setCell W ⟨w.heap.size + 1, 0, none⟩ (.int .i64 0)).same D _ hK rfl
    refine ⟨by simp, .inl ⟨_, _, rfl, run_takeDeferred hK', ?_⟩⟩
    have hc5 := cell_kept (World.cell?_setCell_same' W ⟨w.heap.size + 1, 0, none⟩ (.int .i64 0) (by rw [cR]; rfl)) (grownBy_putObj' _ D (.deferred none)) (fun r e => by cases e; exact ⟨_, hK', rfl⟩)
    refine ⟨.int .i64 0, ?_, by rw [lastN_none (fun j hj => hne j (down_mem.2 ⟨len - 1 - j, by omega, by omega⟩))], (HBw.out.setCell (p := ⟨w.heap.size + 1, 0, none⟩) (by simp) _).trans (belowK_b (w := w) (Nat.le_refl _) _ D _ _ (by omega) hK' rfl rfl)⟩
    simp [results, Try.f78, go_sem, hc5]
  case stop =>
    rintro D c pre W hD ⟨k, hk, rfl⟩ ⟨⟨rfl, ini, last, e1, e2, e3, hcr⟩, hB⟩ hK
    gi_wp2
    refine ⟨by simp, .inl ⟨_, _, rfl, run_takeDeferred hK, ?_⟩⟩
    have hc5 := cell_kept hcr (grownBy_putObj' _ D (.deferred none)) (fun r e => by cases e; exact ⟨_, hK, rfl⟩)
    obtain ⟨k', rfl⟩ : ∃ k', k = k' + 1 := by
      cases k with
      | zero => simp [down] at e1
      | succ k' => exact ⟨k', rfl⟩
    rw [down_succ] at e1
    obtain ⟨rfl, e5⟩ := List.append_inj' e1 rfl
    obtain rfl : len - 1 - k' = last := by simpa using e5
    refine ⟨.int .i64 (T (len - 1 - k')), ?_, by rw [lastN_at (k := len - 1 - k') (by omega) e3 (fun j h1 h2 => e2 j (down_mem.2 ⟨len - 1 - j, by omega, by omega⟩))], hB.trans (belowK_b (w := w) (Nat.le_refl _) W D _ _ (by omega) hK rfl rfl)⟩
    simp [results, Try.f78, go_sem, hc5]

theorem lastWriter_any (a : Option Addr) (len cap : Nat) (K T : Nat → Int) (S : Nat → ByteArray) (key : ByteArray) (w : World) (hl : len ≤ 1048576) (hs : Sl w a len 3 (opF K T S)) :
    Calls Try.prog 78 #[.slice a len cap, .string key] w fun e W' => e = .returned (.int .i64 (lastN (wrB K S key) T len)) ∧ Below w.heap.size w W' :=
  (callsIn_wide (n := 3)).1 (lastWriter_in Fence.wide 3 trivial trivial trivial rfl (Nat.le_refl _) a len cap K T S key w hl hs)
end Go.Proofs.Ythbpjmnlgfahmaa
