/- The contract of edgesOf: an array of nine by nine bools. -/
import Derived.Test.YthbpjmnlgfahmaaCfC
import Derived.Test.YthbpjmnlgfahmaaOpS
import Derived.Test.YthbpjmnlgfahmaaBx
import Derived.Deep.MidRow
namespace Go.Proofs.Ythbpjmnlgfahmaa
open Go.RowKit
set_option linter.unusedVariables false

/-- Block g holds 81 bools and may be written. -/
def EArr (w : World) (g : Nat) (f : Nat → Bool) : Prop := (∀ i, i < 81 → w.cell? ⟨g, i, none⟩ = some (.bool (f i)) ∧ w.frozen? ⟨g, i, none⟩ = false) ∧ g < w.heap.size
theorem EArr.next {w w' : World} {g : Nat} {f : Nat → Bool} (h : EArr w g f) (hb : Below w.heap.size w w') : EArr w' g f :=
  ⟨fun i hi => ⟨(hb.cell (p := ⟨g, i, none⟩) h.2).trans (h.1 i hi).1, (hb.frozen (p := ⟨g, i, none⟩) h.2).trans (h.1 i hi).2⟩, Nat.lt_of_lt_of_le h.2 hb.size⟩
theorem EArr.set {w : World} {g k : Nat} {x : Nat → Bool} (h : EArr w g x) (hk : k < 81) (n : Bool) : EArr (w.setCell ⟨g, k, none⟩ (.bool n)) g (fun i => if i = k then n else x i) := by
  refine ⟨fun i hi => ⟨?_, by simpa using (h.1 i hi).2⟩, by simpa using h.2⟩
  by_cases e : i = k
  · subst e; simp only [if_true]; exact World.cell?_setCell_same _ _ _ (h.1 i hi).1
  · rw [World.cell?_setCell_other _ _ _ _ (addr_ne (fun q => e q.symm))]; simp only [if_neg e]; exact (h.1 i hi).1
theorem EArr.setOther {w : World} {g g' q : Nat} {x : Nat → Bool} {v : Value} (h : EArr w g x) (hg : g ≠ g') : EArr (w.setCell ⟨g', q, none⟩ v) g x :=
  ⟨fun i hi => ⟨by rw [World.cell?_setCell_other _ _ _ _ (addr_ne' (fun e => hg e.symm))]; exact (h.1 i hi).1, by simpa using (h.1 i hi).2⟩, by simpa using h.2⟩
theorem rep_new (w : World) (N : Nat) (v : Value) (t : TypeId) (i : Nat) (hi : i < N) : (w.alloc (.cells (Array.replicate N v) t)).cell? ⟨w.heap.size, i, none⟩ = some v := by
  have e : Array.replicate N v = (List.replicate N v).toArray := by simp
  rw [e]
  have := cells_new w (List.replicate N v) t i v (by simp [hi])
  rw [show ((⟨w.heap.size, 0, none⟩ : Addr).add i) = ⟨w.heap.size, i, none⟩ by unfold Addr.add; split <;> simp_all] at this
  exact this
theorem rep_frz (w : World) (c : Array Value) (t : TypeId) (i : Nat) : (w.alloc (.cells c t)).frozen? ⟨w.heap.size, i, none⟩ = false := by simp
theorem EArr.new (w : World) (c : Array Value) (t : TypeId) (hc : c = Array.replicate 81 (.bool false)) : EArr (w.alloc (.cells c t)) w.heap.size (fun _ => false) := by
  subst hc
  exact ⟨fun i hi => ⟨rep_new w 81 (.bool false) _ i hi, rep_frz w _ _ i⟩, by rw [World.size_alloc]; exact Nat.lt_succ_self _⟩
theorem two_tabs (w : World) (c c' : Array Value) (t t' : TypeId) (hc : c = Array.replicate 81 (.bool false)) (hc' : c' = Array.replicate 81 (.bool false)) :
    EArr ((w.alloc (.cells c t)).alloc (.cells c' t')) w.heap.size (fun _ => false) ∧ EArr ((w.alloc (.cells c t)).alloc (.cells c' t')) (w.heap.size + 1) (fun _ => false) :=
  ⟨(EArr.new w c t hc).next (Go.Joins.below_alloc1 _ _), by
    have := EArr.new (w.alloc (.cells c t)) c' t' hc'
    rw [World.size_alloc] at this
    exact this⟩
theorem Op1.setOther {w : World} {g g' q : Nat} {k t : Int} {s : ByteArray} {v : Value} (h : Op1 w g k t s) (hg : g ≠ g') : Op1 (w.setCell ⟨g', q, none⟩ v) g k t s := by
  obtain ⟨h0, h1, h2, h3⟩ := h
  refine ⟨?_, ?_, ?_, by simpa using h3⟩ <;> rw [World.cell?_setCell_other _ _ _ _ (addr_ne' (fun e => hg e.symm))] <;> assumption
def tabV (f : Nat → Bool) : List Value := (List.range 81).map fun i => Value.bool (f i)
theorem tabV_at (f : Nat → Bool) (j : Nat) (v : Value) (h : (tabV f)[j]? = some v) : j < 81 ∧ v = .bool (f j) := by
  have hj : j < 81 := by
    rcases Nat.lt_or_ge j 81 with q | q
    · exact q
    · rw [List.getElem?_eq_none (by simp [tabV]; omega)] at h; cases h
  refine ⟨hj, ?_⟩
  have e : (tabV f)[j]? = some (Value.bool (f j)) := by unfold tabV; rw [List.getElem?_map, List.getElem?_range hj]; rfl
  rw [e] at h; exact (Option.some.inj h).symm
theorem tabV_len (f : Nat → Bool) : (tabV f).length = 81 := by simp [tabV]
theorem tabV_size (f : Nat → Bool) : (tabV f).toArray.size = 81 := by simp [tabV]
theorem EArr.range {w : World} {g : Nat} {f : Nat → Bool} (h : EArr w g f) : w.rangeAt g 0 (tabV f) := by
  intro j v hv
  obtain ⟨hj, rfl⟩ := tabV_at f j v hv
  rw [Nat.zero_add]; exact (h.1 j hj).1
theorem EArr.there {w : World} {g : Nat} {f : Nat → Bool} (h : EArr w g f) : w.there g 0 81 := by
  intro j hj
  rw [Nat.zero_add]
  exact ⟨by rw [(h.1 j hj).1]; rfl, (h.1 j hj).2⟩
theorem tabV_one (f : Nat → Bool) : (tabV f).toArray.all (·.oneCell') = true := all_oneCell_toArray (fun v hv => by
  simp only [tabV, List.mem_map] at hv
  obtain ⟨i, _, rfl⟩ := hv; rfl)
theorem info_tab : (Try.prog.info? 98).map (·.size) = some 81 := by kernel_rfl

theorem below_setCells' {B b : Nat} {a : World} (hb : B ≤ b) : ∀ (vs : List Value) (o : Nat) (w : World), Below B a w → Below B a (w.setCells b o vs)
  | [], _, _, h => h
  | v :: vs, o, w, h => below_setCells' hb vs (o + 1) _ (h.setCell (p := ⟨b, o, none⟩) hb v)
theorem res_cell {P : Program} {fn : Func} {c : Nat} {t : TypeId} {A : Addr} {v : Value} {w : World} {tmps : Array Value} (h : fn.results = #[.cell c t]) (ht : tmps.getD c undef = .pointer (some A)) (hl : (loadVar t A).run P w = .ok v w) : (results fn tmps).run P w = .ok v w := by
  unfold results
  rw [h]
  simp only [List.mapM_toArray, List.mapM_cons, List.mapM_nil, ht, asAddr, bind_assoc, pure_bind, map_eq_pure_bind, Sem.run_bind, Sem.run_pure, Result.andThen_ok, hl]
  rfl
def EdPost (K T : Nat → Int) (S : Nat → ByteArray) (n : Nat) (w : World) (r : Ending) (w' : World) : Prop :=
  (∃ f : Nat → Bool, r = .returned (.agg (tabV f).toArray) ∧ ∀ x y, x < 9 → y < 9 → f (9 * x + y) = edB K T S n x y) ∧ Below w.heap.size w w'

set_option maxRecDepth 100000 in
set_option maxHeartbeats 4000000 in
theorem edgesOf_any (a : Option Addr) (n cap : Nat) (K T : Nat → Int) (S : Nat → ByteArray) (w : World) (hn : n ≤ 1048576) (hcap : n ≤ cap) (hg : goodP (okO K T S) K T n) (hs : Sl w a n 3 (opF K T S)) :
    Calls Try.prog 73 #[.slice a n cap] w (EdPost K T S n w) := by
  have HS : Hid (Sl w a n 3 (opF K T S)) := hs
  have HG : Hid (goodP (okO K T S) K T n) := hg
  clear hs hg
  go_enter Try.func73, Try.ntmps73
  go_wp2
  go_loopw [10] (fun i wr => ∃ (k : Nat) (f : Nat → Bool), k ≤ n ∧ i = .int .i64 k ∧ EArr wr w.heap.size (fun _ => false) ∧ EArr wr (w.heap.size + 1) f ∧ FitE K T S n f k 0 ∧ Below w.heap.size w wr) (fun i _ => n - (intOf i).toNat)
  case atStart => exact ⟨0, _, Nat.zero_le _, rfl, (two_tabs w _ _ _ _ (by rfl) (by rfl)).1, (two_tabs w _ _ _ _ (by rfl) (by rfl)).2, FitE.zero _ _ _ _, (by repeat (first | refine Below.setCell ?_ (by (try simp) <;> omega) _ | refine Below.alloc ?_ (by (try simp) <;> omega) _ | refine Below.drew ?_ | assumption | exact Below.refl _ _ | refine Below.trans ?_ (Below.mono (by assumption) (by (try simp) <;> omega))))⟩
  case round =>
    obtain ⟨k, f, hk, rfl, hA, hC, hF, hBr⟩ := hrel
    obtain ⟨wo, hwo⟩ : ∃ x, x = wr := ⟨wr, rfl⟩
    subst hwo
    by_cases hlt : k < n
    · rcases HS.out.below hBr (Nat.le_refl _) with h | ⟨b, off, rfl, hbs, hE⟩
      · omega
      have hlt' : (k : Int) < (n : Int) := by omega
      have hkc : (k : Int) + 1 ≤ (cap : Int) := by omega
      obtain ⟨c0, c1, c2⟩ := op_cells hE hlt
      have hz2 : w.heap.size + 1 < wo.heap.size := hC.2
      obtain ⟨p, hp, hp1, hp9⟩ := op_t (show opB (K k) (T k) (S k) = true from (HG.out.2 k hlt).1)
      have HP : Hid (T k = (p : Int)) := hp
      have hp9' : (p : Int) < 9 := by omega
      rw [hp] at c1
      have HH : Hid (EArr wo w.heap.size (fun _ => false) ∧ EArr wo (w.heap.size + 1) f ∧ FitE K T S n f k 0 ∧ Below w.heap.size w wo) := ⟨hA, hC, hF, hBr⟩
      clear hA hC hF hBr hE hp
      go_wp2
      · subst h
        go_loopw [20] (fun j wr => ∃ (m : Nat) (f : Nat → Bool), m ≤ n - (k + 1) ∧ j = .int .i64 m ∧ EArr wr w.heap.size (fun _ => false) ∧ EArr wr (w.heap.size + 1) f ∧ FitE K T S n f k m ∧ Op1 wr wo.heap.size (K k) (p : Int) (S k) ∧ Below w.heap.size w wr) (fun j _ => n - (k + 1) - (intOf j).toNat)
        case atStart => exact ⟨0, f, Nat.zero_le _, rfl, HH.out.1.next (Go.Joins.below_alloc1 _ _), HH.out.2.1.next (Go.Joins.below_alloc1 _ _), HH.out.2.2.1, Op1.new _ _ _ _ _, HH.out.2.2.2.alloc HH.out.2.2.2.size _⟩
        case round =>
          obtain ⟨m, f, hm, rfl, hA, hC, hF, hev, hBi⟩ := hrel
          clear HH c0 c1 c2
          by_cases hik : m < n - (k + 1)
          · exfalso; omega
          · have hik2 : m = n - (k + 1) := by omega
            subst hik2
            have HH : Hid (EArr wr w.heap.size (fun _ => false) ∧ EArr wr (w.heap.size + 1) f ∧ FitE K T S n f k (n - (k + 1)) ∧ Below w.heap.size w wr) := ⟨hA, hC, hF, hBi⟩
            clear hA hC hF hBi hev
            go_wp2
            go_roundw
            case rel => exact ⟨k + 1, f, by omega, by go_num, HH.out.1, HH.out.2.1, HH.out.2.2.1.next, HH.out.2.2.2⟩
            case measure => simp [intOf]; omega
      · skip
        go_loopw [20] (fun j wr => ∃ (m : Nat) (f : Nat → Bool), m ≤ n - (k + 1) ∧ j = .int .i64 m ∧ EArr wr w.heap.size (fun _ => false) ∧ EArr wr (w.heap.size + 1) f ∧ FitE K T S n f k m ∧ Op1 wr wo.heap.size (K k) (p : Int) (S k) ∧ Below w.heap.size w wr) (fun j _ => n - (k + 1) - (intOf j).toNat)
        case atStart => exact ⟨0, f, Nat.zero_le _, rfl, HH.out.1.next (Go.Joins.below_alloc1 _ _), HH.out.2.1.next (Go.Joins.below_alloc1 _ _), HH.out.2.2.1, Op1.new _ _ _ _ _, HH.out.2.2.2.alloc HH.out.2.2.2.size _⟩
        case round =>
          obtain ⟨m, f, hm, rfl, hA, hC, hF, hev, hBi⟩ := hrel
          clear HH c0 c1 c2
          by_cases hik : m < n - (k + 1)
          · have hik' : (m : Int) < ((n - (k + 1) : Nat) : Int) := by omega
            rcases HS.out.below hBi (Nat.le_refl _) with h | ⟨b', off', hbe, hbs', hE⟩
            · omega
            cases hbe
            obtain ⟨d0, d1, d2⟩ := op_cells hE (show k + 1 + m < n by omega)
            rw [off_at] at d0 d1 d2
            obtain ⟨q, hq, hq1, hq9⟩ := op_t (show opB (K (k + 1 + m)) (T (k + 1 + m)) (S (k + 1 + m)) = true from (HG.out.2 (k + 1 + m) (by omega)).1)
            have hq9' : (q : Int) < 9 := by omega
            have HQ : Hid (T (k + 1 + m) = (q : Int)) := hq
            rw [hq] at d1
            have hzi : w.heap.size ≤ wr.heap.size := hBi.size
            have HE1 : Hid (Op1 wr wo.heap.size (K k) (p : Int) (S k)) := hev
            obtain ⟨g0, g1, g2, hgl⟩ := hev
            have HH : Hid (EArr wr w.heap.size (fun _ => false) ∧ EArr wr (w.heap.size + 1) f ∧ FitE K T S n f k m ∧ Below w.heap.size w wr) := ⟨hA, hC, hF, hBi⟩
            obtain ⟨cb, hcb⟩ : ∃ cb, cb = clB (K k) (p : Int) (S k) (K (k + 1 + m)) (q : Int) (S (k + 1 + m)) := ⟨_, rfl⟩
            have HCl : Hid (clN K T S k (k + 1 + m) = cb) := by show _ = _; rw [hcb, ← HP.out, ← HQ.out]; rfl
            have HK : Hid (∀ W : World, Calls Try.prog 100 #[.agg #[.int .i64 (K k), .int .i64 (p : Int), .string (S k)], .agg #[.int .i64 (K (k + 1 + m)), .int .i64 (q : Int), .string (S (k + 1 + m))]] W fun r w' => r = .returned (.bool cb) ∧ Below W.heap.size W w') := fun W => hcb ▸ inConflict_any _ _ _ _ _ _ W
            clear hA hC hF hBi hE hcb hq
            go_wp2_with fail
            refine (HK.out _).mono ?_
            rintro r w1 ⟨rfl, hb1⟩
            have HB1 : Hid (Below wr.heap.size wr w1) := below_next (Go.Joins.below_alloc1 _ _) hb1
            have n0 := HE1.out.next (HB1.out)
            have e1 : w1.cell? ⟨wr.heap.size, 1, none⟩ = some (.int .i64 (q : Int)) := (hb1.cell (p := ⟨wr.heap.size, 1, none⟩) (by simp)).trans (by simp)
            have hz1 : wr.heap.size < w1.heap.size := by have := hb1.size; simp at this; omega
            have HO : Hid (Op1 w1 wo.heap.size (K k) (p : Int) (S k)) := n0
            obtain ⟨m0, m1, m2, hml⟩ := n0
            have hC1 := HH.out.2.1.next HB1.out
            have x1 := (hC1.1 (9 * p + q) (by omega)).1
            have x2 := (hC1.1 (9 * p + q) (by omega)).2
            have x3 := hC1.2
            have hoff : p * 9 + q = 9 * p + q := by omega
            clear hb1 d0 d1 d2 g0 g1 g2 hC1
            cases cb
            · go_wp2
              go_roundw
              case rel => exact ⟨m + 1, f, by omega, by go_num, HH.out.1.next HB1.out, HH.out.2.1.next HB1.out, HH.out.2.2.1.skip HCl.out, HO.out, HH.out.2.2.2.trans (HB1.out.mono hzi)⟩
              case measure => simp [intOf]; omega
            · go_wp2
              go_region
              go_wp2
              go_roundw
              case rel =>
                have hz3 : w.heap.size ≤ w1.heap.size := by have := HB1.out.size; omega
                have hr : ∀ W : World, Below W.heap.size W W.drew := fun W => (Below.refl _ _).drew
                exact ⟨m + 1, _, by omega, by go_num, ((HH.out.1.next HB1.out).setOther (by omega)).next (hr _), ((HH.out.2.1.next HB1.out).set (k := 9 * p + q) (by omega) true).next (hr _), HH.out.2.2.1.set (by omega) HP.out HQ.out hp9 hq9 HCl.out, (HO.out.setOther (by omega)).next (hr _), ((HH.out.2.2.2.trans (HB1.out.mono hzi)).setCell (p := ⟨w.heap.size + 1, 9 * p + q, none⟩) (by simp) _).drew⟩
              case measure => simp [intOf]; omega
          · have hik2 : m = n - (k + 1) := by omega
            subst hik2
            have HH : Hid (EArr wr w.heap.size (fun _ => false) ∧ EArr wr (w.heap.size + 1) f ∧ FitE K T S n f k (n - (k + 1)) ∧ Below w.heap.size w wr) := ⟨hA, hC, hF, hBi⟩
            clear hA hC hF hBi hev
            go_wp2
            go_roundw
            case rel => exact ⟨k + 1, f, by omega, by go_num, HH.out.1, HH.out.2.1, HH.out.2.2.1.next, HH.out.2.2.2⟩
            case measure => simp [intOf]; omega
    · have hkn : k = n := by omega
      subst hkn
      have HH : Hid (FitE K T S k f k 0 ∧ Below w.heap.size w wo) := ⟨hF, hBr⟩
      have r1 := hC.range
      have t1 : wo.there w.heap.size 0 (tabV f).toArray.size := by rw [tabV_size]; exact hA.there
      have t2 : (Try.prog.info? 98).map (·.size) = some (tabV f).toArray.size := by rw [tabV_size]; exact info_tab
      have t3 : (Try.prog.info? 98).map (·.size) = some (tabV f).length := by rw [tabV_len]; exact info_tab
      have r2 : (wo.setCells w.heap.size 0 (tabV f)).rangeAt w.heap.size 0 (tabV f) := World.rangeAt_setCells_same _ _ _ _ (by rw [tabV_len]; exact hA.there)
      clear hA hC hF hBr
      go_wp2_with (first
        | (refine wpList_load_mid rfl 98 (.tmp 3) rfl (w.heap.size + 1) 0 rfl (tabV f) _ r1 Try.underlying98 rfl t3 ?_)
        | (refine wpList_store_mid rfl 98 (.tmp 2) (.tmp 35) rfl w.heap.size 0 (tabV f).toArray rfl rfl t1 t2 (tabV_one f) ?_))
      have hbz : Below w.heap.size w (wo.setCells w.heap.size 0 (tabV f)) := below_setCells' (Nat.le_refl _) _ _ _ HH.out.2
      have hrun := run_loadVar_mid (P := Try.prog) (wo.setCells w.heap.size 0 (tabV f)) w.heap.size 0 98 (tabV f) _ r2 Try.underlying98 rfl t3
      generalize wo.setCells w.heap.size 0 (tabV f) = wz at *
      refine bodyPost_ret (v := .agg (tabV f).toArray) ?_ rfl ⟨⟨f, rfl, fun x y hx hy => HH.out.1.done hx hy⟩, hbz⟩
      exact res_cell Try.results73 rfl hrun
end Go.Proofs.Ythbpjmnlgfahmaa
