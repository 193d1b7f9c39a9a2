/- maps.Copy and the program's join, at one kind of map. Written by tools/mkJn.py. -/
import Derived.Test.YtnglgndocmkbfaaHdG
import Derived.Test.YtnglgndocmkbfaaShMt
import Derived.Test.YtnglgndocmkbfaaShM
namespace Go.Proofs.Ytnglgndocmkbfaa
open Go.RowKit
set_option linter.unusedVariables false
set_option linter.unusedSimpArgs false

set_option maxRecDepth 100000 in
set_option maxHeartbeats 2000000 in
theorem copyH_n (b c : Nat) (f : Int × Int → Option (HrV)) (w : World) (h : MpT kvP evH w b f) (hd : MpT kvP evH w c (fun _ => none)) (hbc : b ≠ c) :
    Calls Try.prog 122 #[.map (some c), .map (some b)] w fun r w' => r = .returned (.tuple #[]) ∧ MpT kvP evH w' c f ∧ TurnS (fun k => k = c) w w' := by
  have HX : Hid (MpT kvP evH w b f ∧ MpT kvP evH w c (fun _ => none)) := ⟨h, hd⟩
  have hcw := hd.lt
  have hbw := h.lt
  clear h hd
  go_enter Try.func122, Try.ntmps122
  go_wp2_with (first | (at_range; refine wpList_rangeT rfl (.tmp 6) rfl Try.underlying108 rfl HX.out.1 ?_; intro w0 lf hrg0 hall hb0 hs0) | go_in)
  obtain ⟨r, hr⟩ : ∃ r, r = w.heap.size := ⟨_, rfl⟩
  rw [← hr] at hrg0 ⊢
  have HI : Hid (RgT kvP evH w0 b r f lf ∧ MpT kvP evH w0 c (lessF f lf) ∧ TurnS (fun k => k = c) w w0) := ⟨hrg0, (HX.out.2.next hb0).ext (fun k => (lessF_all hrg0.2.1 hall k).symm), TurnS.of_below hb0⟩
  have HR : Hid (r = w.heap.size) := hr
  have hrc : r ≠ c := by omega
  have hrb : r ≠ b := by omega
  clear hrg0 hall hb0 hs0 hr
  go_frame
  go_loopw [] (fun wr => ∃ lf, RgT kvP evH wr b r f lf ∧ MpT kvP evH wr c (lessF f lf) ∧ TurnS (fun k => k = c) w wr) (fun wr => wr.rangeLeft b r)
  case atStart => exact ⟨_, HI.out⟩
  case round =>
    obtain ⟨lf, hA⟩ := hrel
    have HA := Hid.intro hA
    clear hA HI
    go_wp2_with (first | (at_next; refine wpList_nextT rfl (.tmp 7) rfl rfl HA.out.1 ?_ ?_) | go_in)
    · intro hl0
      have HF : Hid (MpT kvP evH wr c f ∧ TurnS (fun k => k = c) w wr) := Hid.intro (by
        have h1 := HA.out.2.1
        rw [hl0] at h1
        exact ⟨h1, HA.out.2.2⟩)
      clear hl0
      go_wp2
      go_end0
      exact ⟨rfl, HF.out⟩
    · intro i hi w1 hrg hg hsz hen
      have HW : Hid (RgT kvP evH w1 b r f (lf.eraseIdx i) ∧ MpT kvP evH w1 c (lessF f lf) ∧ TurnS (fun k => k = c) w w1) := ⟨hrg, HA.out.2.1.grown hg (fun e => by cases e; exact hrc rfl), turnS_grown HA.out.2.2 hg (fun k e => by cases e; exact Or.inr (by rw [HR.out]; exact Nat.le_refl _))⟩
      have HS := Hid.intro (lessF_step HA.out.1.2.1 HA.out.1.2.2 hi)
      have HLF : Hid ((lf.eraseIdx i).length < lf.length) := Hid.intro (by rw [List.length_eraseIdx]; rw [if_pos hi]; omega)
      obtain ⟨q, hq⟩ : ∃ q, q = lf[i] := ⟨_, rfl⟩
      rw [← hq] at hen HS ⊢
      obtain ⟨⟨k0, k1⟩, v0, v1, v2, v3⟩ := q
      have HS : Hid (∀ k, updF (lessF f lf) (k0, k1) (v0, v1, v2, v3) k = lessF f (lf.eraseIdx i) k) := HS
      simp only at hen ⊢
      obtain ⟨w4, hw4⟩ : ∃ q, q = (w1.alloc (.cells #[.int .i64 k0, .int .i64 k1] 111)).alloc (.cells #[.string v0, .int .i64 v1, .int .i64 v2, .bool v3] 115) := ⟨_, rfl⟩
      obtain ⟨bk, hbkE⟩ : ∃ q, q = w1.heap.size := ⟨_, rfl⟩
      have hb4 : Below w1.heap.size w1 w4 := hw4 ▸ ((Below.refl _ _).alloc (Nat.le_refl _) _).alloc (by simp) _
      have HK4 : Hid (Bx w4 bk [.int .i64 k0, .int .i64 k1] ∧ Bx w4 (bk + 1) [.string v0, .int .i64 v1, .int .i64 v2, .bool v3]) := ⟨hbkE ▸ hw4 ▸ (Bx.new w1 [_, _] _).alloc _, hbkE ▸ hw4 ▸ Bx.newAt (by simp)⟩
      have HW4 : Hid (RgT kvP evH w4 b r f (lf.eraseIdx i) ∧ MpT kvP evH w4 c (lessF f lf) ∧ TurnS (fun k => k = c) w w4) := ⟨HW.out.1.next hb4, HW.out.2.1.next hb4, HW.out.2.2.next hb4⟩
      clear hq hrg hg hsz hb4
      go_upto_region 3 with fail
      rw [← hw4, ← hbkE]
      clear hw4 hbkE hen
      have s0 := HK4.out.1.cell 0 rfl
      have s1 := HK4.out.1.cell 1 rfl
      have sz := HK4.out.1.2
      have t0 := HK4.out.2.cell 0 rfl
      have t1 := HK4.out.2.cell 1 rfl
      have t2 := HK4.out.2.cell 2 rfl
      have t3 := HK4.out.2.cell 3 rfl
      have tz := HK4.out.2.2
      go_wp2_with (at_mapUpdate; refine wpList_storeT rfl _ _ _ rfl Try.underlying108 keyL_place HW4.out.2.1 rfl (k := (k0, k1)) rfl (val := (v0, v1, v2, v3)) rfl ?_; intro w9 hm9 hg9 hz9)
      have HF : Hid (RgT kvP evH w9 b r f (lf.eraseIdx i) ∧ MpT kvP evH w9 c (lessF f (lf.eraseIdx i)) ∧ TurnS (fun k => k = c) w w9) := ⟨HW4.out.1.grown hg9 (fun e => by cases e; exact hbc rfl) (fun e => by cases e; exact hrc rfl), hm9.ext HS.out, turnS_grown HW4.out.2.2 hg9 (fun k e => by cases e; exact Or.inl rfl)⟩
      clear hm9 hg9 hz9 s0 s1 sz t0 t1 t2 t3 tz
      go_roundw
      case rel => first | exact ⟨_, HF.out⟩ | exact ⟨_, _, _, _, _, _, _, _, _, _, _, _, _, _, _, _, _, _, _, _, ⟨_, HF.out⟩, rfl⟩ | exact ⟨_, _, _, _, _, _, _, _, _, _, _, _, _, _, _, _, _, _, _, _, _, ⟨_, HF.out⟩, rfl⟩ | exact ⟨_, _, _, _, _, _, _, _, _, _, _, _, _, _, _, _, _, _, _, _, _, _, ⟨_, HF.out⟩, rfl⟩ | exact ⟨_, _, _, _, _, _, _, _, _, _, _, _, _, _, _, _, _, _, _, _, _, _, _, ⟨_, HF.out⟩, rfl⟩ | exact ⟨_, _, _, _, _, _, _, _, _, _, _, _, _, _, _, _, _, _, _, _, _, _, _, _, ⟨_, HF.out⟩, rfl⟩ | exact ⟨_, _, _, _, _, _, _, _, _, _, _, _, _, _, _, _, _, _, _, _, _, _, _, _, _, ⟨_, HF.out⟩, rfl⟩
      case measure =>
        have h1 := HF.out.1.left
        have h2 := HA.out.1.left
        have h3 := HLF.out
        rw [h1, h2]; exact h3

set_option maxRecDepth 100000 in
set_option maxHeartbeats 4000000 in
theorem joinH_n (b c : Nat) (f g : Int × Int → Option (HrV)) (w : World) (h : MpT kvP evH w b f) (hc : MpT kvP evH w c g) :
    Calls Try.prog 80 #[.map (some b), .map (some c), .func (.func 82) #[] #[]] w fun r w' => ∃ m, r = .returned (.map (some m)) ∧ w.heap.size ≤ m ∧ MpT kvP evH w' m (jnF togH f g) ∧ Below w.heap.size w w' := by
  have HX : Hid (MpT kvP evH w b f ∧ MpT kvP evH w c g) := ⟨h, hc⟩
  have hcw := hc.lt
  have hbw := h.lt
  clear h hc
  obtain ⟨d, hd⟩ : ∃ d, d = w.heap.size := ⟨_, rfl⟩
  have HD : Hid (d = w.heap.size) := hd
  have hdb : d ≠ b := by omega
  have hdc : d ≠ c := by omega
  have hbd : b ≠ d := by omega
  have hcd : c ≠ d := by omega
  obtain ⟨w1, hw1⟩ : ∃ q, q = w.alloc (.map #[] 0) := ⟨_, rfl⟩
  have hb1 : Below w.heap.size w w1 := hw1 ▸ Go.Joins.below_alloc1 _ _
  have H1 : Hid (MpT kvP evH w1 b f ∧ MpT kvP evH w1 c g ∧ MpT kvP evH w1 d (fun _ => none) ∧ Below w.heap.size w w1) := ⟨HX.out.1.next hb1, HX.out.2.next hb1, by rw [hd, hw1]; exact MpT.made w, hb1⟩
  clear hb1
  have hmm := @run_makeMap Try.prog
  go_enter Try.func80, Try.ntmps80
  go_wp2_with fail
  rw [← hw1, ← hd]
  clear hw1 hd hmm
  refine (copyH_n b d f w1 H1.out.1 H1.out.2.2.1 hbd).mono ?_
  rintro e w2 ⟨rfl, hm2, ht2⟩
  have H2 : Hid (MpT kvP evH w2 b f ∧ MpT kvP evH w2 c g ∧ MpT kvP evH w2 d f ∧ Below w.heap.size w w2) := ⟨H1.out.1.turnS ht2 hbd, H1.out.2.1.turnS ht2 hcd, hm2, H1.out.2.2.2.trans (ht2.below (fun k e => by have e : k = d := e; have := HD.out; omega) H1.out.2.2.2.size)⟩
  clear hm2 ht2 H1
  go_wp2_with (first | (at_range; refine wpList_rangeT rfl (.tmp 16) rfl Try.underlying108 rfl H2.out.2.1 ?_; intro w0 lf hrg0 hall hb0 hs0) | go_in)
  obtain ⟨r, hr⟩ : ∃ r, r = w2.heap.size := ⟨_, rfl⟩
  rw [← hr] at hrg0 ⊢
  have HI : Hid (RgT kvP evH w0 c r g lf ∧ MpT kvP evH w0 b f ∧ MpT kvP evH w0 d (jnL togH f g lf) ∧ Below w.heap.size w w0) := ⟨hrg0, H2.out.1.next hb0, (H2.out.2.2.1.next hb0).ext (fun k => (jnL_all hrg0.2.1 hall k).symm), below_next H2.out.2.2.2 hb0⟩
  have HR : Hid (r = w2.heap.size ∧ w.heap.size ≤ w2.heap.size) := ⟨hr, H2.out.2.2.2.size⟩
  have hrd : r ≠ d := by have := H2.out.2.2.1.lt; omega
  have hrb : r ≠ b := by have := H2.out.1.lt; omega
  have hrc : r ≠ c := by have := H2.out.2.1.lt; omega
  clear hrg0 hall hb0 hs0 hr H2
  go_frame
  go_loopw [] (fun wr => ∃ lf, RgT kvP evH wr c r g lf ∧ MpT kvP evH wr b f ∧ MpT kvP evH wr d (jnL togH f g lf) ∧ Below w.heap.size w wr) (fun wr => wr.rangeLeft c r)
  case atStart => exact ⟨_, HI.out⟩
  case round =>
    obtain ⟨lf, hA⟩ := hrel
    have HA := Hid.intro hA
    clear hA HI
    go_wp2_with (first | (at_next; refine wpList_nextT rfl (.tmp 17) rfl rfl HA.out.1 ?_ ?_) | go_in)
    · intro hl0
      have HF : Hid (MpT kvP evH wr d (jnF togH f g) ∧ Below w.heap.size w wr) := Hid.intro (by
        have h1 := HA.out.2.2.1
        rw [hl0] at h1
        exact ⟨h1, HA.out.2.2.2⟩)
      clear hl0
      go_wp2
      go_ret
      exact ⟨d, rfl, Nat.le_of_eq HD.out.symm, HF.out⟩
    · intro i hi w3 hrg hg hsz hen
      have HW : Hid (RgT kvP evH w3 c r g (lf.eraseIdx i) ∧ MpT kvP evH w3 b f ∧ MpT kvP evH w3 d (jnL togH f g lf) ∧ Below w.heap.size w w3) := ⟨hrg, HA.out.2.1.grown hg (fun e => by cases e; exact hrb rfl), HA.out.2.2.1.grown hg (fun e => by cases e; exact hrd rfl), HA.out.2.2.2.grown hg HA.out.2.2.2.size (fun k e => by cases e; have := HR.out; omega)⟩
      have HS : Hid (∀ v, jnF togH f g lf[i].1 = some v → ∀ k, updF (jnL togH f g lf) lf[i].1 v k = jnL togH f g (lf.eraseIdx i) k) := Hid.intro (fun v hv => jnL_step HA.out.1.2.1 HA.out.1.2.2 hi hv)
      have HG : Hid (g lf[i].1 = some lf[i].2) := Hid.intro (HA.out.1.2.2 _ (List.getElem_mem hi))
      have HLF : Hid ((lf.eraseIdx i).length < lf.length) := Hid.intro (by rw [List.length_eraseIdx]; rw [if_pos hi]; omega)
      obtain ⟨q, hq⟩ : ∃ q, q = lf[i] := ⟨_, rfl⟩
      rw [← hq] at hen HS HG ⊢
      obtain ⟨⟨k0, k1⟩, v0, v1, v2, v3⟩ := q
      have HS : Hid (∀ v, jnF togH f g (k0, k1) = some v → ∀ k, updF (jnL togH f g lf) (k0, k1) v k = jnL togH f g (lf.eraseIdx i) k) := HS
      have HG : Hid (g (k0, k1) = some (v0, v1, v2, v3)) := HG
      simp only at hen ⊢
      obtain ⟨w4, hw4⟩ : ∃ q, q = (w3.alloc (.cells #[.int .i64 k0, .int .i64 k1] 111)).alloc (.cells #[.string v0, .int .i64 v1, .int .i64 v2, .bool v3] 115) := ⟨_, rfl⟩
      obtain ⟨bk, hbkE⟩ : ∃ q, q = w3.heap.size := ⟨_, rfl⟩
      have hb4 : Below w3.heap.size w3 w4 := hw4 ▸ ((Below.refl _ _).alloc (Nat.le_refl _) _).alloc (by simp) _
      have HK4 : Hid (Bx w4 bk [.int .i64 k0, .int .i64 k1] ∧ Bx w4 (bk + 1) [.string v0, .int .i64 v1, .int .i64 v2, .bool v3]) := ⟨hbkE ▸ hw4 ▸ (Bx.new w3 [_, _] _).alloc _, hbkE ▸ hw4 ▸ Bx.newAt (by simp)⟩
      have hb := hb4
      have HW4 : Hid (RgT kvP evH w4 c r g (lf.eraseIdx i) ∧ MpT kvP evH w4 b f ∧ MpT kvP evH w4 d (jnL togH f g lf) ∧ Below w.heap.size w w4) := ⟨HW.out.1.next hb, HW.out.2.1.next hb, HW.out.2.2.1.next hb, below_next HW.out.2.2.2 hb⟩
      have hlt4 : Hid (d < bk ∧ b < bk ∧ c < bk ∧ r < bk ∧ w.heap.size ≤ bk) := Hid.intro (by rw [hbkE]; exact ⟨HW.out.2.2.1.lt, HW.out.2.1.lt, HW.out.1.1.lt.1, HW.out.1.1.lt.2.1, HW.out.2.2.2.size⟩)
      clear hq hrg hg hsz hb4 hb
      go_upto_region 6 with fail
      rw [← hw4, ← hbkE]
      clear hw4 hbkE hen
      have s0 := HK4.out.1.cell 0 rfl
      have s1 := HK4.out.1.cell 1 rfl
      have sz := HK4.out.1.2
      have t0 := HK4.out.2.cell 0 rfl
      have t1 := HK4.out.2.cell 1 rfl
      have t2 := HK4.out.2.cell 2 rfl
      have t3 := HK4.out.2.cell 3 rfl
      have tz := HK4.out.2.2
      cases hfk : f (k0, k1) with
      | none =>
        have HJ : Hid (jnF togH f g (k0, k1) = some (v0, v1, v2, v3)) := Hid.intro (by unfold jnF; rw [HG.out, hfk])
        obtain ⟨w5, hw5⟩ : ∃ q, q = w4.alloc (.cells #[.string ⟨#[]⟩, .int .i64 0, .int .i64 0, .bool false] 115) := ⟨_, rfl⟩
        have hb : Below w4.heap.size w4 w5 := hw5 ▸ Go.Joins.below_alloc1 _ _
        have HW5 : Hid (RgT kvP evH w5 c r g (lf.eraseIdx i) ∧ MpT kvP evH w5 b f ∧ MpT kvP evH w5 d (jnL togH f g lf) ∧ Below w.heap.size w w5) := ⟨HW4.out.1.next hb, HW4.out.2.1.next hb, HW4.out.2.2.1.next hb, below_next HW4.out.2.2.2 hb⟩
        have HK5 : Hid (Bx w5 bk [.int .i64 k0, .int .i64 k1] ∧ Bx w5 (bk + 1) [.string v0, .int .i64 v1, .int .i64 v2, .bool v3]) := ⟨HK4.out.1.next hb, HK4.out.2.next hb⟩
        clear hb
        go_upto_region 7 with (at_lookup; refine wpList_lookT rfl _ _ rfl Try.underlying108 keyL_place (z := .agg #[.string ⟨#[]⟩, .int .i64 0, .int .i64 0, .bool false]) (by kernel_rfl) HW4.out.2.1 rfl (k := (k0, k1)) rfl ?_; rw [hfk]; dsimp only)
        rw [← hw5]
        clear hw5 s0 s1 sz t0 t1 t2 t3 tz
        have s0 := HK5.out.1.cell 0 rfl
        have s1 := HK5.out.1.cell 1 rfl
        have sz := HK5.out.1.2
        have t0 := HK5.out.2.cell 0 rfl
        have t1 := HK5.out.2.cell 1 rfl
        have t2 := HK5.out.2.cell 2 rfl
        have t3 := HK5.out.2.cell 3 rfl
        have tz := HK5.out.2.2
        go_wp2_with (at_mapUpdate; refine wpList_storeT rfl _ _ _ rfl Try.underlying108 keyL_place HW5.out.2.2.1 rfl (k := (k0, k1)) rfl (val := (v0, v1, v2, v3)) rfl ?_; intro w9 hm9 hg9 hz9)
        have HF : Hid (RgT kvP evH w9 c r g (lf.eraseIdx i) ∧ MpT kvP evH w9 b f ∧ MpT kvP evH w9 d (jnL togH f g (lf.eraseIdx i)) ∧ Below w.heap.size w w9) := ⟨HW5.out.1.grown hg9 (fun e => by cases e; exact hcd rfl) (fun e => by cases e; exact hrd rfl), HW5.out.2.1.grown hg9 (fun e => by cases e; exact hbd rfl), hm9.ext (HS.out _ HJ.out), HW5.out.2.2.2.grown hg9 HW5.out.2.2.2.size (fun k e => by cases e; exact Nat.le_of_eq HD.out.symm)⟩
        clear hm9 hg9 hz9 hfk s0 s1 sz t0 t1 t2 t3 tz
        go_roundw
        case rel => first | exact ⟨_, HF.out⟩ | exact ⟨_, _, _, _, _, _, _, _, _, _, _, _, _, _, _, _, _, _, _, _, ⟨_, HF.out⟩, rfl⟩ | exact ⟨_, _, _, _, _, _, _, _, _, _, _, _, _, _, _, _, _, _, _, _, _, ⟨_, HF.out⟩, rfl⟩ | exact ⟨_, _, _, _, _, _, _, _, _, _, _, _, _, _, _, _, _, _, _, _, _, _, ⟨_, HF.out⟩, rfl⟩ | exact ⟨_, _, _, _, _, _, _, _, _, _, _, _, _, _, _, _, _, _, _, _, _, _, _, ⟨_, HF.out⟩, rfl⟩ | exact ⟨_, _, _, _, _, _, _, _, _, _, _, _, _, _, _, _, _, _, _, _, _, _, _, _, ⟨_, HF.out⟩, rfl⟩ | exact ⟨_, _, _, _, _, _, _, _, _, _, _, _, _, _, _, _, _, _, _, _, _, _, _, _, _, ⟨_, HF.out⟩, rfl⟩
        case measure =>
          have h1 := HF.out.1.left
          have h2 := HA.out.1.left
          have h3 := HLF.out
          rw [h1, h2]; exact h3
      | some x =>
        obtain ⟨x0, x1, x2, x3⟩ := x
        have HJ : Hid (jnF togH f g (k0, k1) = some (togH (x0, x1, x2, x3) (v0, v1, v2, v3))) := Hid.intro (by unfold jnF; rw [HG.out, hfk])
        obtain ⟨w5, hw5⟩ : ∃ q, q = w4.alloc (.cells #[.string x0, .int .i64 x1, .int .i64 x2, .bool x3] 115) := ⟨_, rfl⟩
        obtain ⟨bx, hbxE⟩ : ∃ q, q = w4.heap.size := ⟨_, rfl⟩
        have hb : Below w4.heap.size w4 w5 := hw5 ▸ Go.Joins.below_alloc1 _ _
        have HW5 : Hid (RgT kvP evH w5 c r g (lf.eraseIdx i) ∧ MpT kvP evH w5 b f ∧ MpT kvP evH w5 d (jnL togH f g lf) ∧ Below w.heap.size w w5) := ⟨HW4.out.1.next hb, HW4.out.2.1.next hb, HW4.out.2.2.1.next hb, below_next HW4.out.2.2.2 hb⟩
        have HK5 : Hid ((Bx w5 bk [.int .i64 k0, .int .i64 k1] ∧ Bx w5 (bk + 1) [.string v0, .int .i64 v1, .int .i64 v2, .bool v3]) ∧ Bx w5 bx [.string x0, .int .i64 x1, .int .i64 x2, .bool x3] ∧ (d < bk ∧ b < bk ∧ c < bk ∧ r < bk ∧ w.heap.size ≤ bk)) := ⟨⟨HK4.out.1.next hb, HK4.out.2.next hb⟩, hbxE ▸ hw5 ▸ Bx.new w4 [_, _, _, _] _, hlt4.out⟩
        clear hb
        go_upto_region 7 with (at_lookup; refine wpList_lookT rfl _ _ rfl Try.underlying108 keyL_place (z := .agg #[.string ⟨#[]⟩, .int .i64 0, .int .i64 0, .bool false]) (by kernel_rfl) HW4.out.2.1 rfl (k := (k0, k1)) rfl ?_; rw [hfk]; dsimp only)
        rw [← hw5, ← hbxE]
        clear hw5 hbxE s0 s1 sz t0 t1 t2 t3 tz hfk
        have s0 := HK5.out.1.1.cell 0 rfl
        have s1 := HK5.out.1.1.cell 1 rfl
        have sz := HK5.out.1.1.2
        have t0 := HK5.out.1.2.cell 0 rfl
        have t1 := HK5.out.1.2.cell 1 rfl
        have t2 := HK5.out.1.2.cell 2 rfl
        have t3 := HK5.out.1.2.cell 3 rfl
        have tz := HK5.out.1.2.2
        have q0 := HK5.out.2.1.cell 0 rfl
        have q1 := HK5.out.2.1.cell 1 rfl
        have q2 := HK5.out.2.1.cell 2 rfl
        have q3 := HK5.out.2.1.cell 3 rfl
        have qz := HK5.out.2.1.2
        go_wp2_with fail
        refine (heardTogether_n (x0, x1, x2, x3) (v0, v1, v2, v3) w5).mono ?_
        rintro e w6 ⟨rfl, hb⟩
        obtain ⟨⟨y0, y1, y2, y3⟩, hy⟩ : ∃ y, y = togH (x0, x1, x2, x3) (v0, v1, v2, v3) := ⟨_, rfl⟩
        rw [← hy] at HJ ⊢
        simp only
        clear hy
        have HW6 : Hid (RgT kvP evH w6 c r g (lf.eraseIdx i) ∧ MpT kvP evH w6 b f ∧ MpT kvP evH w6 d (jnL togH f g lf) ∧ Below w.heap.size w w6) := ⟨HW5.out.1.next hb, HW5.out.2.1.next hb, HW5.out.2.2.1.next hb, below_next HW5.out.2.2.2 hb⟩
        have HK6 : Hid (Bx w6 bk [.int .i64 k0, .int .i64 k1] ∧ Bx w6 (bk + 1) [.string v0, .int .i64 v1, .int .i64 v2, .bool v3]) := ⟨HK5.out.1.1.next hb, HK5.out.1.2.next hb⟩
        clear hb s0 s1 sz t0 t1 t2 t3 tz q0 q1 q2 q3 qz
        obtain ⟨w7, hw7⟩ : ∃ q, q = ((((w6.setCell ⟨bk + 1, 0, none⟩ (.string y0)).setCell ⟨bk + 1, 1, none⟩ (.int .i64 y1)).setCell ⟨bk + 1, 2, none⟩ (.int .i64 y2)).setCell ⟨bk + 1, 3, none⟩ (.bool y3)) := ⟨_, rfl⟩
        have ht := set4 w6 (bk + 1) (.string y0) (.int .i64 y1) (.int .i64 y2) (.bool y3)
        rw [← hw7] at ht
        have HK7 : Hid (Bx w7 bk [.int .i64 k0, .int .i64 k1] ∧ Bx w7 (bk + 1) [.string y0, .int .i64 y1, .int .i64 y2, .bool y3]) := ⟨HK6.out.1.turnS ht (by omega), hw7 ▸ (((HK6.out.2.set (k := 0) (by simp) _).set (k := 1) (by simp) _).set (k := 2) (by simp) _).set (k := 3) (by simp) _⟩
        have HW7 : Hid (RgT kvP evH w7 c r g (lf.eraseIdx i) ∧ MpT kvP evH w7 b f ∧ MpT kvP evH w7 d (jnL togH f g lf) ∧ Below w.heap.size w w7) := Hid.intro (by
          have hl := HK5.out.2.2
          exact ⟨HW6.out.1.keep (ht.block HW6.out.1.1.lt.1 (fun e => by have e : c = bk + 1 := e; omega)) (ht.block HW6.out.1.1.lt.2.1 (fun e => by have e : r = bk + 1 := e; omega)), HW6.out.2.1.turnS ht (fun e => by have e : b = bk + 1 := e; omega), HW6.out.2.2.1.turnS ht (fun e => by have e : d = bk + 1 := e; omega), HW6.out.2.2.2.trans (ht.below (fun k e => by have e : k = bk + 1 := e; omega) HW6.out.2.2.2.size)⟩)
        clear ht
        have s0 := HK6.out.1.cell 0 rfl
        have s1 := HK6.out.1.cell 1 rfl
        have sz := HK6.out.1.2
        have t0 := HK6.out.2.cell 0 rfl
        have t1 := HK6.out.2.cell 1 rfl
        have t2 := HK6.out.2.cell 2 rfl
        have t3 := HK6.out.2.cell 3 rfl
        have tz := HK6.out.2.2
        have f0 := HK6.out.2.frz 0 (by simp)
        have f1 := HK6.out.2.frz 1 (by simp)
        have f2 := HK6.out.2.frz 2 (by simp)
        have f3 := HK6.out.2.frz 3 (by simp)
        go_upto_region 9 with fail
        rw [← hw7]
        clear hw7 s0 s1 sz t0 t1 t2 t3 tz f0 f1 f2 f3
        have s0 := HK7.out.1.cell 0 rfl
        have s1 := HK7.out.1.cell 1 rfl
        have sz := HK7.out.1.2
        have t0 := HK7.out.2.cell 0 rfl
        have t1 := HK7.out.2.cell 1 rfl
        have t2 := HK7.out.2.cell 2 rfl
        have t3 := HK7.out.2.cell 3 rfl
        have tz := HK7.out.2.2
        go_wp2_with (at_mapUpdate; refine wpList_storeT rfl _ _ _ rfl Try.underlying108 keyL_place HW7.out.2.2.1 rfl (k := (k0, k1)) rfl (val := (y0, y1, y2, y3)) rfl ?_; intro w9 hm9 hg9 hz9)
        have HF : Hid (RgT kvP evH w9 c r g (lf.eraseIdx i) ∧ MpT kvP evH w9 b f ∧ MpT kvP evH w9 d (jnL togH f g (lf.eraseIdx i)) ∧ Below w.heap.size w w9) := ⟨HW7.out.1.grown hg9 (fun e => by cases e; exact hcd rfl) (fun e => by cases e; exact hrd rfl), HW7.out.2.1.grown hg9 (fun e => by cases e; exact hbd rfl), hm9.ext (HS.out _ HJ.out), HW7.out.2.2.2.grown hg9 HW7.out.2.2.2.size (fun k e => by cases e; exact Nat.le_of_eq HD.out.symm)⟩
        clear hm9 hg9 hz9 s0 s1 sz t0 t1 t2 t3 tz
        go_roundw
        case rel => first | exact ⟨_, HF.out⟩ | exact ⟨_, _, _, _, _, _, _, _, _, _, _, _, _, _, _, _, _, _, _, _, ⟨_, HF.out⟩, rfl⟩ | exact ⟨_, _, _, _, _, _, _, _, _, _, _, _, _, _, _, _, _, _, _, _, _, ⟨_, HF.out⟩, rfl⟩ | exact ⟨_, _, _, _, _, _, _, _, _, _, _, _, _, _, _, _, _, _, _, _, _, _, ⟨_, HF.out⟩, rfl⟩ | exact ⟨_, _, _, _, _, _, _, _, _, _, _, _, _, _, _, _, _, _, _, _, _, _, _, ⟨_, HF.out⟩, rfl⟩ | exact ⟨_, _, _, _, _, _, _, _, _, _, _, _, _, _, _, _, _, _, _, _, _, _, _, _, ⟨_, HF.out⟩, rfl⟩ | exact ⟨_, _, _, _, _, _, _, _, _, _, _, _, _, _, _, _, _, _, _, _, _, _, _, _, _, ⟨_, HF.out⟩, rfl⟩
        case measure =>
          have h1 := HF.out.1.left
          have h2 := HA.out.1.left
          have h3 := HLF.out
          rw [h1, h2]; exact h3
end Go.Proofs.Ytnglgndocmkbfaa
