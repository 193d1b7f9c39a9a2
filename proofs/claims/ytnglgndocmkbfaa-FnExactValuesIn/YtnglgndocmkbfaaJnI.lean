/- maps.Copy and the program's join, at one kind of map. Written by tools/mkJn.py. -/
import Derived.Test.YtnglgndocmkbfaaMiI
import Derived.Test.YtnglgndocmkbfaaShMt
import Derived.Test.YtnglgndocmkbfaaShM
namespace Go.Proofs.Ytnglgndocmkbfaa
open Go.RowKit
set_option linter.unusedVariables false
set_option linter.unusedSimpArgs false

abbrev evI : Int → Value := Value.int .i64
set_option maxHeartbeats 400000 in
theorem greaterCount_n (x y : Int) (w : World) : Calls Try.prog 113 #[.int .i64 x, .int .i64 y] w fun r w' => r = .returned (.int .i64 (max x y)) ∧ w' = w := by
  by_cases h : x ≤ y
  · have HN : Hid (max x y = y) := Hid.intro (by omega)
    rw [HN.out]
    go_enter Try.func113, Try.ntmps113
    go_wp2
    go_ret
    exact ⟨by first | rfl | (simp; omega), rfl⟩
  · have HN : Hid (max x y = x) := Hid.intro (by omega)
    rw [HN.out]
    go_enter Try.func113, Try.ntmps113
    go_wp2
    go_ret
    exact ⟨by first | rfl | (simp; omega), rfl⟩
/-- What is left of f when lf is still to come. -/
def lessF {α β : Type} [DecidableEq α] (f : α → Option β) (lf : List (α × β)) : α → Option β := fun k => if (getK k lf).isSome then none else f k
theorem lessF_nil {α β : Type} [DecidableEq α] {f : α → Option β} (k : α) : lessF f [] k = f k := rfl
theorem lessF_all {α β : Type} [DecidableEq α] {f : α → Option β} {lf : List (α × β)} (hn : KeysN lf) (h : ∀ k v, f k = some v → (k, v) ∈ lf) (k : α) : lessF f lf k = none := by
  unfold lessF
  cases e : f k with
  | none => simp
  | some v => rw [getK_of hn (h k v e)]; rfl
theorem getK_erase {α β : Type} [DecidableEq α] {lf : List (α × β)} (hn : KeysN lf) {i : Nat} (hi : i < lf.length) (k : α) : getK k (lf.eraseIdx i) = if lf[i].1 = k then none else getK k lf := by
  by_cases q : lf[i].1 = k
  · rw [if_pos q]; exact getK_none.2 (fun r hr e => ((mem_erase hn hi).1 hr).2 (e.trans q.symm))
  · rw [if_neg q]
    cases hg : getK k lf with
    | none => exact getK_none.2 (fun r hr e => getK_none.1 hg r ((mem_erase hn hi).1 hr).1 e)
    | some v => exact getK_of (keysN_erase hn i) ((mem_erase hn hi).2 ⟨getK_mem hg, fun e => q e.symm⟩)
theorem lessF_step {α β : Type} [DecidableEq α] {f : α → Option β} {lf : List (α × β)} (hn : KeysN lf) (hf : ∀ p ∈ lf, f p.1 = some p.2) {i : Nat} (hi : i < lf.length) (k : α) : updF (lessF f lf) lf[i].1 lf[i].2 k = lessF f (lf.eraseIdx i) k := by
  unfold updF lessF
  rw [getK_erase hn hi]
  by_cases q : lf[i].1 = k
  · rw [if_pos q, if_pos q, ← q]; simp [hf _ (List.getElem_mem hi)]
  · rw [if_neg q, if_neg q]
/-- What a join tells. -/
def jnF {α β : Type} (tg : β → β → β) (f g : α → Option β) : α → Option β := fun k => match g k with | none => f k | some y => match f k with | none => some y | some x => some (tg x y)
/-- What it tells when lf is still to come of the second. -/
def jnL {α β : Type} [DecidableEq α] (tg : β → β → β) (f g : α → Option β) (lf : List (α × β)) : α → Option β := fun k => if (getK k lf).isSome then f k else jnF tg f g k
theorem jnL_nil {α β : Type} [DecidableEq α] {tg : β → β → β} {f g : α → Option β} (k : α) : jnL tg f g [] k = jnF tg f g k := rfl
theorem jnL_all {α β : Type} [DecidableEq α] {tg : β → β → β} {f g : α → Option β} {lf : List (α × β)} (hn : KeysN lf) (h : ∀ k v, g k = some v → (k, v) ∈ lf) (k : α) : jnL tg f g lf k = f k := by
  unfold jnL jnF
  cases e : g k with
  | none => simp
  | some v => rw [getK_of hn (h k v e)]; rfl
theorem jnL_step {α β : Type} [DecidableEq α] {tg : β → β → β} {f g : α → Option β} {lf : List (α × β)} (hn : KeysN lf) (hf : ∀ p ∈ lf, g p.1 = some p.2) {i : Nat} (hi : i < lf.length) {v : β} (hv : jnF tg f g lf[i].1 = some v) (k : α) : updF (jnL tg f g lf) lf[i].1 v k = jnL tg f g (lf.eraseIdx i) k := by
  unfold updF jnL
  rw [getK_erase hn hi]
  by_cases q : lf[i].1 = k
  · rw [if_pos q, if_pos q, ← q]; simp [hv]
  · rw [if_neg q, if_neg q]
theorem MpT.turnS {α β : Type} [DecidableEq α] {kv : α → Value} {ev : β → Value} {S : Nat → Prop} {w w' : World} {b : Nat} {f : α → Option β} (h : MpT kv ev w b f) (ht : TurnS S w w') (hS : ¬ S b) : MpT kv ev w' b f := h.keep (ht.block h.lt hS)
theorem turnS_grown {S : Nat → Prop} {w W W' : World} {row : Option Nat} (h : TurnS S w W) (hg : W.grownBy W' row) (hr : ∀ k, row = some k → S k ∨ w.heap.size ≤ k) : TurnS S w W' :=
  ⟨hg.os.trans h.1, hg.tape.trans h.2.1, hg.output.trans h.2.2.1, Nat.le_trans h.2.2.2.1 hg.size, fun k hk hx => (hg.block k (Nat.lt_of_lt_of_le hk h.2.2.2.1) (fun e => by rcases hr k e.symm with q | q; (· exact hx q); (· omega))).trans (h.2.2.2.2 k hk hx)⟩

set_option maxRecDepth 100000 in
set_option maxHeartbeats 2000000 in
theorem copyI_n (b c : Nat) (f : Int → Option (Int)) (w : World) (h : MpT kvI evI w b f) (hd : MpT kvI evI w c (fun _ => none)) (hbc : b ≠ c) :
    Calls Try.prog 131 #[.map (some c), .map (some b)] w fun r w' => r = .returned (.tuple #[]) ∧ MpT kvI evI w' c f ∧ TurnS (fun k => k = c) w w' := by
  have HX : Hid (MpT kvI evI w b f ∧ MpT kvI evI w c (fun _ => none)) := ⟨h, hd⟩
  have hcw := hd.lt
  have hbw := h.lt
  clear h hd
  go_enter Try.func131, Try.ntmps131
  go_wp2_with (first | (at_range; refine wpList_rangeT rfl (.tmp 6) rfl Try.underlying142 rfl HX.out.1 ?_; intro w0 lf hrg0 hall hb0 hs0) | go_in)
  obtain ⟨r, hr⟩ : ∃ r, r = w.heap.size := ⟨_, rfl⟩
  rw [← hr] at hrg0 ⊢
  have HI : Hid (RgT kvI evI w0 b r f lf ∧ MpT kvI evI w0 c (lessF f lf) ∧ TurnS (fun k => k = c) w w0) := ⟨hrg0, (HX.out.2.next hb0).ext (fun k => (lessF_all hrg0.2.1 hall k).symm), TurnS.of_below hb0⟩
  have HR : Hid (r = w.heap.size) := hr
  have hrc : r ≠ c := by omega
  have hrb : r ≠ b := by omega
  clear hrg0 hall hb0 hs0 hr
  go_frame
  go_loopw [] (fun wr => ∃ lf, RgT kvI evI wr b r f lf ∧ MpT kvI evI wr c (lessF f lf) ∧ TurnS (fun k => k = c) w wr) (fun wr => wr.rangeLeft b r)
  case atStart => exact ⟨_, HI.out⟩
  case round =>
    obtain ⟨lf, hA⟩ := hrel
    have HA := Hid.intro hA
    clear hA HI
    go_wp2_with (first | (at_next; refine wpList_nextT rfl (.tmp 7) rfl rfl HA.out.1 ?_ ?_) | go_in)
    · intro hl0
      have HF : Hid (MpT kvI evI wr c f ∧ TurnS (fun k => k = c) w wr) := Hid.intro (by
        have h1 := HA.out.2.1
        rw [hl0] at h1
        exact ⟨h1, HA.out.2.2⟩)
      clear hl0
      go_wp2
      go_end0
      exact ⟨rfl, HF.out⟩
    · intro i hi w1 hrg hg hsz hen
      have HW : Hid (RgT kvI evI w1 b r f (lf.eraseIdx i) ∧ MpT kvI evI w1 c (lessF f lf) ∧ TurnS (fun k => k = c) w w1) := ⟨hrg, HA.out.2.1.grown hg (fun e => by cases e; exact hrc rfl), turnS_grown HA.out.2.2 hg (fun k e => by cases e; exact Or.inr (by rw [HR.out]; exact Nat.le_refl _))⟩
      have HS := Hid.intro (lessF_step HA.out.1.2.1 HA.out.1.2.2 hi)
      have HLF : Hid ((lf.eraseIdx i).length < lf.length) := Hid.intro (by rw [List.length_eraseIdx]; rw [if_pos hi]; omega)
      obtain ⟨q, hq⟩ : ∃ q, q = lf[i] := ⟨_, rfl⟩
      rw [← hq] at hen HS ⊢
      obtain ⟨qk, qv⟩ := q
      have HS : Hid (∀ k, updF (lessF f lf) qk qv k = lessF f (lf.eraseIdx i) k) := HS
      simp only at hen ⊢
      clear hq hrg hg hsz
      go_wp2_with (at_mapUpdate; refine wpList_storeT rfl _ _ _ rfl Try.underlying142 (keyL_int Try.underlying3) HW.out.2.1 rfl (k := qk) rfl (val := qv) rfl ?_; intro w9 hm9 hg9 hz9)
      clear hen
      have HF : Hid (RgT kvI evI w9 b r f (lf.eraseIdx i) ∧ MpT kvI evI w9 c (lessF f (lf.eraseIdx i)) ∧ TurnS (fun k => k = c) w w9) := ⟨HW.out.1.grown hg9 (fun e => by cases e; exact hbc rfl) (fun e => by cases e; exact hrc rfl), hm9.ext HS.out, turnS_grown HW.out.2.2 hg9 (fun k e => by cases e; exact Or.inl rfl)⟩
      clear hm9 hg9 hz9
      go_roundw
      case rel => exact ⟨_, HF.out⟩
      case measure =>
        have h1 := HF.out.1.left
        have h2 := HA.out.1.left
        have h3 := HLF.out
        rw [h1, h2]; exact h3

set_option maxRecDepth 100000 in
set_option maxHeartbeats 4000000 in
theorem joinI_n (b c : Nat) (f g : Int → Option (Int)) (w : World) (h : MpT kvI evI w b f) (hc : MpT kvI evI w c g) :
    Calls Try.prog 111 #[.map (some b), .map (some c), .func (.func 113) #[] #[]] w fun r w' => ∃ m, r = .returned (.map (some m)) ∧ w.heap.size ≤ m ∧ MpT kvI evI w' m (jnF (fun x y : Int => max x y) f g) ∧ Below w.heap.size w w' := by
  have HX : Hid (MpT kvI evI w b f ∧ MpT kvI evI w c g) := ⟨h, hc⟩
  have hcw := hc.lt
  have hbw := h.lt
  clear h hc
  obtain ⟨d, hd⟩ : ∃ d, d = w.heap.size := ⟨_, rfl⟩
  have HD : Hid (d = w.heap.size) := hd
  have hdb : d ≠ b := by omega
  have hdc : d ≠ c := by omega
  have hbd : b ≠ d := by omega
  have hcd : c ≠ d := by omega
  obtain ⟨w1, hw1⟩ : ∃ q, q = w.alloc (.map #[] 0) := ⟨_, rfl⟩
  have hb1 : Below w.heap.size w w1 := hw1 ▸ Go.Joins.below_alloc1 _ _
  have H1 : Hid (MpT kvI evI w1 b f ∧ MpT kvI evI w1 c g ∧ MpT kvI evI w1 d (fun _ => none) ∧ Below w.heap.size w w1) := ⟨HX.out.1.next hb1, HX.out.2.next hb1, by rw [hd, hw1]; exact MpT.made w, hb1⟩
  clear hb1
  have hmm := @run_makeMap Try.prog
  go_enter Try.func111, Try.ntmps111
  go_wp2_with fail
  rw [← hw1, ← hd]
  clear hw1 hd hmm
  refine (copyI_n b d f w1 H1.out.1 H1.out.2.2.1 hbd).mono ?_
  rintro e w2 ⟨rfl, hm2, ht2⟩
  have H2 : Hid (MpT kvI evI w2 b f ∧ MpT kvI evI w2 c g ∧ MpT kvI evI w2 d f ∧ Below w.heap.size w w2) := ⟨H1.out.1.turnS ht2 hbd, H1.out.2.1.turnS ht2 hcd, hm2, H1.out.2.2.2.trans (ht2.below (fun k e => by have e : k = d := e; have := HD.out; omega) H1.out.2.2.2.size)⟩
  clear hm2 ht2 H1
  go_wp2_with (first | (at_range; refine wpList_rangeT rfl (.tmp 16) rfl Try.underlying142 rfl H2.out.2.1 ?_; intro w0 lf hrg0 hall hb0 hs0) | go_in)
  obtain ⟨r, hr⟩ : ∃ r, r = w2.heap.size := ⟨_, rfl⟩
  rw [← hr] at hrg0 ⊢
  have HI : Hid (RgT kvI evI w0 c r g lf ∧ MpT kvI evI w0 b f ∧ MpT kvI evI w0 d (jnL (fun x y : Int => max x y) f g lf) ∧ Below w.heap.size w w0) := ⟨hrg0, H2.out.1.next hb0, (H2.out.2.2.1.next hb0).ext (fun k => (jnL_all hrg0.2.1 hall k).symm), below_next H2.out.2.2.2 hb0⟩
  have HR : Hid (r = w2.heap.size ∧ w.heap.size ≤ w2.heap.size) := ⟨hr, H2.out.2.2.2.size⟩
  have hrd : r ≠ d := by have := H2.out.2.2.1.lt; omega
  have hrb : r ≠ b := by have := H2.out.1.lt; omega
  have hrc : r ≠ c := by have := H2.out.2.1.lt; omega
  clear hrg0 hall hb0 hs0 hr H2
  go_frame
  go_loopw [] (fun wr => ∃ lf, RgT kvI evI wr c r g lf ∧ MpT kvI evI wr b f ∧ MpT kvI evI wr d (jnL (fun x y : Int => max x y) f g lf) ∧ Below w.heap.size w wr) (fun wr => wr.rangeLeft c r)
  case atStart => exact ⟨_, HI.out⟩
  case round =>
    obtain ⟨lf, hA⟩ := hrel
    have HA := Hid.intro hA
    clear hA HI
    go_wp2_with (first | (at_next; refine wpList_nextT rfl (.tmp 17) rfl rfl HA.out.1 ?_ ?_) | go_in)
    · intro hl0
      have HF : Hid (MpT kvI evI wr d (jnF (fun x y : Int => max x y) f g) ∧ Below w.heap.size w wr) := Hid.intro (by
        have h1 := HA.out.2.2.1
        rw [hl0] at h1
        exact ⟨h1, HA.out.2.2.2⟩)
      clear hl0
      go_wp2
      go_ret
      exact ⟨d, rfl, Nat.le_of_eq HD.out.symm, HF.out⟩
    · intro i hi w3 hrg hg hsz hen
      have HW : Hid (RgT kvI evI w3 c r g (lf.eraseIdx i) ∧ MpT kvI evI w3 b f ∧ MpT kvI evI w3 d (jnL (fun x y : Int => max x y) f g lf) ∧ Below w.heap.size w w3) := ⟨hrg, HA.out.2.1.grown hg (fun e => by cases e; exact hrb rfl), HA.out.2.2.1.grown hg (fun e => by cases e; exact hrd rfl), HA.out.2.2.2.grown hg HA.out.2.2.2.size (fun k e => by cases e; have := HR.out; omega)⟩
      have HS : Hid (∀ v, jnF (fun x y : Int => max x y) f g lf[i].1 = some v → ∀ k, updF (jnL (fun x y : Int => max x y) f g lf) lf[i].1 v k = jnL (fun x y : Int => max x y) f g (lf.eraseIdx i) k) := Hid.intro (fun v hv => jnL_step HA.out.1.2.1 HA.out.1.2.2 hi hv)
      have HG : Hid (g lf[i].1 = some lf[i].2) := Hid.intro (HA.out.1.2.2 _ (List.getElem_mem hi))
      have HLF : Hid ((lf.eraseIdx i).length < lf.length) := Hid.intro (by rw [List.length_eraseIdx]; rw [if_pos hi]; omega)
      obtain ⟨q, hq⟩ : ∃ q, q = lf[i] := ⟨_, rfl⟩
      rw [← hq] at hen HS HG ⊢
      obtain ⟨qk, y⟩ := q
      have HS : Hid (∀ v, jnF (fun x y : Int => max x y) f g qk = some v → ∀ k, updF (jnL (fun x y : Int => max x y) f g lf) qk v k = jnL (fun x y : Int => max x y) f g (lf.eraseIdx i) k) := HS
      have HG : Hid (g qk = some y) := HG
      simp only at hen ⊢
      clear hq hrg hg hsz
      cases hfk : f qk with
      | none =>
        have HJ : Hid (jnF (fun x y : Int => max x y) f g qk = some y) := Hid.intro (by unfold jnF; rw [HG.out, hfk])
        go_wp2_with (first | (at_lookup; refine wpList_lookT rfl _ _ rfl Try.underlying142 (keyL_int Try.underlying3) (z := .int .i64 0) (by kernel_rfl) HW.out.2.1 rfl (k := qk) rfl ?_; rw [hfk]; dsimp only) | (at_mapUpdate; refine wpList_storeT rfl _ _ _ rfl Try.underlying142 (keyL_int Try.underlying3) HW.out.2.2.1 rfl (k := qk) rfl (val := y) rfl ?_; intro w9 hm9 hg9 hz9))
        clear hen
        have HF : Hid (RgT kvI evI w9 c r g (lf.eraseIdx i) ∧ MpT kvI evI w9 b f ∧ MpT kvI evI w9 d (jnL (fun x y : Int => max x y) f g (lf.eraseIdx i)) ∧ Below w.heap.size w w9) := ⟨HW.out.1.grown hg9 (fun e => by cases e; exact hcd rfl) (fun e => by cases e; exact hrd rfl), HW.out.2.1.grown hg9 (fun e => by cases e; exact hbd rfl), hm9.ext (HS.out _ HJ.out), HW.out.2.2.2.grown hg9 HW.out.2.2.2.size (fun k e => by cases e; exact Nat.le_of_eq HD.out.symm)⟩
        clear hm9 hg9 hz9 hfk
        go_roundw
        case rel => exact ⟨_, HF.out⟩
        case measure =>
          have h1 := HF.out.1.left
          have h2 := HA.out.1.left
          have h3 := HLF.out
          rw [h1, h2]; exact h3
      | some x =>
        have HJ : Hid (jnF (fun x y : Int => max x y) f g qk = some ((fun x y : Int => max x y) x y)) := Hid.intro (by unfold jnF; rw [HG.out, hfk])
        go_wp2_with (at_lookup; refine wpList_lookT rfl _ _ rfl Try.underlying142 (keyL_int Try.underlying3) (z := .int .i64 0) (by kernel_rfl) HW.out.2.1 rfl (k := qk) rfl ?_; rw [hfk]; dsimp only)
        refine (greaterCount_n x y _).mono ?_
        rintro e w' ⟨rfl, hw⟩
        have hw := hw.symm
        subst hw
        clear hen
        go_wp2_with (at_mapUpdate; refine wpList_storeT rfl _ _ _ rfl Try.underlying142 (keyL_int Try.underlying3) HW.out.2.2.1 rfl (k := qk) rfl (val := (fun x y : Int => max x y) x y) rfl ?_; intro w9 hm9 hg9 hz9)
        have HF : Hid (RgT kvI evI w9 c r g (lf.eraseIdx i) ∧ MpT kvI evI w9 b f ∧ MpT kvI evI w9 d (jnL (fun x y : Int => max x y) f g (lf.eraseIdx i)) ∧ Below w.heap.size w w9) := ⟨HW.out.1.grown hg9 (fun e => by cases e; exact hcd rfl) (fun e => by cases e; exact hrd rfl), HW.out.2.1.grown hg9 (fun e => by cases e; exact hbd rfl), hm9.ext (HS.out _ HJ.out), HW.out.2.2.2.grown hg9 HW.out.2.2.2.size (fun k e => by cases e; exact Nat.le_of_eq HD.out.symm)⟩
        clear hm9 hg9 hz9 hfk
        go_roundw
        case rel => exact ⟨_, HF.out⟩
        case measure =>
          have h1 := HF.out.1.left
          have h2 := HA.out.1.left
          have h3 := HLF.out
          rw [h1, h2]; exact h3
end Go.Proofs.Ytnglgndocmkbfaa
