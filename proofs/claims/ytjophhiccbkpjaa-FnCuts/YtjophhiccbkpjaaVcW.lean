/- The contract of vectorsOf. -/
import Derived.Test.YtjophhiccbkpjaaVcM
import Derived.Test.YtjophhiccbkpjaaLamW
import Derived.Test.YtjophhiccbkpjaaEvS
namespace Go.Proofs.Ytjophhiccbkpjaa
open Go.RowKit Go.Maps
set_option linter.unusedVariables false

theorem VArr.new (w : World) (t : TypeId) : VArr (w.alloc (.cells #[.int .i64 0, .int .i64 0, .int .i64 0, .int .i64 0, .int .i64 0, .int .i64 0, .int .i64 0, .int .i64 0, .int .i64 0, .int .i64 0, .int .i64 0, .int .i64 0, .int .i64 0, .int .i64 0, .int .i64 0, .int .i64 0, .int .i64 0, .int .i64 0, .int .i64 0, .int .i64 0, .int .i64 0, .int .i64 0, .int .i64 0, .int .i64 0, .int .i64 0, .int .i64 0, .int .i64 0, .int .i64 0, .int .i64 0, .int .i64 0, .int .i64 0, .int .i64 0, .int .i64 0, .int .i64 0, .int .i64 0, .int .i64 0] t)) w.heap.size (fun _ _ => 0) := by
  refine ⟨fun q hq p hp => ?_, by simp⟩
  have e : (#[.int .i64 0, .int .i64 0, .int .i64 0, .int .i64 0, .int .i64 0, .int .i64 0, .int .i64 0, .int .i64 0, .int .i64 0, .int .i64 0, .int .i64 0, .int .i64 0, .int .i64 0, .int .i64 0, .int .i64 0, .int .i64 0, .int .i64 0, .int .i64 0, .int .i64 0, .int .i64 0, .int .i64 0, .int .i64 0, .int .i64 0, .int .i64 0, .int .i64 0, .int .i64 0, .int .i64 0, .int .i64 0, .int .i64 0, .int .i64 0, .int .i64 0, .int .i64 0, .int .i64 0, .int .i64 0, .int .i64 0, .int .i64 0] : Array Value) = Array.replicate 36 (.int .i64 0) := rfl
  rw [e]
  constructor
  · rw [World.cell?_alloc_new]
    rw [Array.getElem?_replicate, if_pos (by omega)]
  · simp
theorem vec_six {w : World} {g q : Nat} {f : Nat → Nat → Int} (h : VArr w g f) (hq : q < 6) : (w.cell? ⟨g, q * 6, none⟩ = some (.int .i64 (f q 0)) ∧ w.cell? ⟨g, q * 6 + 1, none⟩ = some (.int .i64 (f q 1)) ∧ w.cell? ⟨g, q * 6 + 2, none⟩ = some (.int .i64 (f q 2)) ∧ w.cell? ⟨g, q * 6 + 3, none⟩ = some (.int .i64 (f q 3)) ∧ w.cell? ⟨g, q * 6 + 4, none⟩ = some (.int .i64 (f q 4)) ∧ w.cell? ⟨g, q * 6 + 5, none⟩ = some (.int .i64 (f q 5))) ∧
    (w.frozen? ⟨g, q * 6, none⟩ = false ∧ w.frozen? ⟨g, q * 6 + 1, none⟩ = false ∧ w.frozen? ⟨g, q * 6 + 2, none⟩ = false ∧ w.frozen? ⟨g, q * 6 + 3, none⟩ = false ∧ w.frozen? ⟨g, q * 6 + 4, none⟩ = false ∧ w.frozen? ⟨g, q * 6 + 5, none⟩ = false) :=
  ⟨⟨(h.1 q hq 0 (by omega)).1, (h.1 q hq 1 (by omega)).1, (h.1 q hq 2 (by omega)).1, (h.1 q hq 3 (by omega)).1, (h.1 q hq 4 (by omega)).1, (h.1 q hq 5 (by omega)).1⟩,
   ⟨(h.1 q hq 0 (by omega)).2, (h.1 q hq 1 (by omega)).2, (h.1 q hq 2 (by omega)).2, (h.1 q hq 3 (by omega)).2, (h.1 q hq 4 (by omega)).2, (h.1 q hq 5 (by omega)).2⟩⟩

theorem lastV_bd (K P M : Nat → Int) {k : Nat} (hk : k ≤ 60) (q p : Nat) : 0 ≤ lastV K P M k q p ∧ lastV K P M k q p ≤ 60 := by
  have h1 := vc_bd K P M (lastB (fun j => P j == (q : Int)) k) p
  have h2 := lastB_le (fun j => P j == (q : Int)) k
  simp only [lastV]; omega
theorem sentV_bd (K P M : Nat → Int) {k : Nat} (hk : k ≤ 60) (m : Int) (p : Nat) : 0 ≤ sentV K P M k m p ∧ sentV K P M k m p ≤ 60 := by
  have h1 := vc_bd K P M (lastB (fun j => K j == 2 && M j == m) k) p
  have h2 := lastB_le (fun j => K j == 2 && M j == m) k
  simp only [sentV]; omega
theorem ev_other6 {w : World} {g g' o : Nat} {k p m : Int} {u : Nat → Int} (h : Ev1 w g k p m) (hg : g ≠ g') : Ev1 (set6 w g' o u) g k p m := by
  have e : ∀ t, (set6 w g' o u).cell? ⟨g, t, none⟩ = w.cell? ⟨g, t, none⟩ := fun t => by
    unfold set6
    rw [World.cell?_setCell_other _ _ _ _ (addr_ne' (fun e => hg e.symm)), World.cell?_setCell_other _ _ _ _ (addr_ne' (fun e => hg e.symm)), World.cell?_setCell_other _ _ _ _ (addr_ne' (fun e => hg e.symm)), World.cell?_setCell_other _ _ _ _ (addr_ne' (fun e => hg e.symm)), World.cell?_setCell_other _ _ _ _ (addr_ne' (fun e => hg e.symm)), World.cell?_setCell_other _ _ _ _ (addr_ne' (fun e => hg e.symm))]
  exact ⟨(e 0).trans h.1, (e 1).trans h.2.1, (e 2).trans h.2.2.1, by rw [set6_size]; exact h.2.2.2⟩
/-- A row stands where a store goes above all that it owns. -/
theorem rowAbove {w : World} {base B : Nat} {e : TypeId} {size : Nat} {v : Value} {n : Nat} {xs : List Value} {p : Addr} {x : Value} (h : w.ownsRow base e size v n xs) (hr : ∀ j, v.ownBlock = some j → j < B) (hB : B ≤ p.block) : (w.setCell p x).ownsRow base e size v n xs := by
  obtain ⟨h1, h2⟩ := h
  refine ⟨h1, ?_⟩
  rcases h2 with h2 | ⟨g, cap, cur, hv, hg, hh, r⟩
  · exact Or.inl h2
  · have : g < B := hr g (by rw [hv]; rfl)
    exact Or.inr ⟨g, cap, cur, hv, hg, by rw [Below.heap_setCell _ _ _ _ (by omega)]; exact hh, r⟩
theorem rowAbove6 {w : World} {base B g o : Nat} {e : TypeId} {size : Nat} {v : Value} {n : Nat} {xs : List Value} {u : Nat → Int} (h : w.ownsRow base e size v n xs) (hr : ∀ j, v.ownBlock = some j → j < B) (hB : B ≤ g) : (set6 w g o u).ownsRow base e size v n xs := by
  unfold set6
  exact rowAbove (rowAbove (rowAbove (rowAbove (rowAbove (rowAbove h hr (p := ⟨g, o, none⟩) hB) hr (p := ⟨g, o + 1, none⟩) hB) hr (p := ⟨g, o + 2, none⟩) hB) hr (p := ⟨g, o + 3, none⟩) hB) hr (p := ⟨g, o + 4, none⟩) hB) hr (p := ⟨g, o + 5, none⟩) hB
theorem cells_at {w : World} {s : Nat} (hs : w.heap.size = s) (C : List Value) (e : TypeId) : ∀ j u, C[j]? = some u → (w.alloc (.cells C.toArray e)).cell? ((⟨s, 0, none⟩ : Addr).add j) = some u := hs ▸ cells_new w C e
theorem vec_end {K P M : Nat → Int} {B w3 w4 : World} {g k : Nat} {v v4 : Value} {o : Obj} {u : Nat → Int} (hB : B.heap.size ≤ g) (hv : VArr w3 g (lastV K P M (k + 1))) (hi : VMap w3 (g + 1) (k + 1) (sentV K P M (k + 1))) (ho : w3.ownsRow (g + 2) 73 6 v k (cellsL (vecF K P M) 6 k)) (hb : Below B.heap.size B w3)
    (hu : u = vc K P M (k + 1)) (hown : w4.ownsRow (g + 2) 73 6 v4 (k + 1) (cellsL (vecF K P M) 6 k ++ [.int .i64 (u 0), .int .i64 (u 1), .int .i64 (u 2), .int .i64 (u 3), .int .i64 (u 4), .int .i64 (u 5)])) (hg : (w3.alloc o).grownBy w4 v.ownBlock) : VecS K P M B w4 g (k + 1) v4 := by
  have ha := Go.Joins.below_alloc1 w3 o
  have ho' := own_keep ho ha
  obtain ⟨n1, n2⟩ := row_ne ho'
  refine ⟨(hv.below ha hv.2).grown hg n1, (hi.below ha hi.lt).grown hg n2, ?_, below_row ho' (hb.alloc hb.size o) hg hB⟩
  have e : (List.range 6).map (vecF K P M k) = [.int .i64 (u 0), .int .i64 (u 1), .int .i64 (u 2), .int .i64 (u 3), .int .i64 (u 4), .int .i64 (u 5)] := by subst hu; rfl
  rw [cellsL, e]; exact hown

set_option maxRecDepth 100000 in
set_option maxHeartbeats 4000000 in
theorem vectors_any (a : Option Addr) (n cap : Nat) (K P M : Nat → Int) (w : World) (h60 : n ≤ 60) (hM : ∀ i, i < n → -9223372036854775808 ≤ M i ∧ M i ≤ 9223372036854775807) (hev : ∀ i, i < n → evOk K P M i = true) (hs : Sl w a n 3 (evF K P M)) :
    Calls Try.prog 55 #[.slice a n cap] w fun r w' => (∃ a' cap', r = .returned (.slice a' n cap') ∧ SRow w' w.heap.size w'.heap.size a' n 6 (vecF K P M)) ∧ Below w.heap.size w w' := by
  have HM : Hid (∀ i, i < n → -9223372036854775808 ≤ M i ∧ M i ≤ 9223372036854775807) := hM
  have HS : Hid (Sl w a n 3 (evF K P M)) := hs
  have HE : Hid (∀ i, i < n → evOk K P M i = true) := hev
  clear hs hM hev
  have hmm := @run_makeMap Try.prog
  obtain ⟨i0, hi, hz0, hz1, hz2⟩ := info_parts info_vec
  go_enter Try.func55, Try.ntmps55
  obtain ⟨g, hgd⟩ : ∃ g, g = w.heap.size := ⟨_, rfl⟩
  go_wp2_with (at_make; refine wpList_make_own _ rfl (.const (.int .i64 0)) (.tmp 11) 78 rfl (g + 2) 73 i0 (.agg #[.int .i64 0, .int .i64 0, .int .i64 0, .int .i64 0, .int .i64 0, .int .i64 0]) 6 Try.underlying78 hi hz0 hz1 .i64 .i64 _ n rfl rfl rfl (by rw [hz2]; omega) (by unfold maxLen; omega) (by simp <;> omega) ?_; intro w2 hown hgrow)
  have hv0 : VArr w2 g (lastV K P M 0) := by
    rw [hgd]
    have := ((VArr.new w 99).below (Go.Joins.below_alloc1 _ (.map #[] 0)) (by simp)).grown hgrow (by simp)
    exact this.congr (fun q _ p _ => by simp [lastV, lastB, vc_zero])
  have hm0 : VMap w2 (g + 1) 0 (sentV K P M 0) := by
    rw [hgd]
    have := (VMap.made (w.alloc (.cells #[.int .i64 0, .int .i64 0, .int .i64 0, .int .i64 0, .int .i64 0, .int .i64 0, .int .i64 0, .int .i64 0, .int .i64 0, .int .i64 0, .int .i64 0, .int .i64 0, .int .i64 0, .int .i64 0, .int .i64 0, .int .i64 0, .int .i64 0, .int .i64 0, .int .i64 0, .int .i64 0, .int .i64 0, .int .i64 0, .int .i64 0, .int .i64 0, .int .i64 0, .int .i64 0, .int .i64 0, .int .i64 0, .int .i64 0, .int .i64 0, .int .i64 0, .int .i64 0, .int .i64 0, .int .i64 0, .int .i64 0, .int .i64 0] 99))).grown hgrow (by simp)
    have := this.congr (f' := sentV K P M 0) (fun m p _ => by simp [sentV, lastB, vc_zero])
    simpa using this
  have hb0 : Below w.heap.size w w2 := (((Below.refl _ _).alloc (Nat.le_refl _) _).alloc (by simp) _).grown hgrow (by simp; omega) (fun k hk => by cases hk)
  have hl0 : w2.ownsRow (g + 2) 73 6 (.slice (some ⟨w.heap.size + 1 + 1, 0, none⟩) 0 n) 0 (cellsL (vecF K P M) 6 0) := by simpa [cellsL] using hown
  have H0 : Hid (VecS K P M w w2 g 0 (.slice (some ⟨w.heap.size + 1 + 1, 0, none⟩) 0 n)) := ⟨hv0, hm0, hl0, hb0⟩
  have HGd : Hid (g = w.heap.size) := hgd
  have hwg : w.heap.size ≤ g := by omega
  rw [← hgd]
  rw [← hgd] at H0
  clear hv0 hm0 hl0 hb0 hown hgrow hmm hgd
  go_wp2
  go_loopw [15, 5] (fun i v wr => ∃ k : Nat, k ≤ n ∧ i = .int .i64 k ∧ VecS K P M w wr g k v) (fun i _ _ => n - (intOf i).toNat)
  case atStart => exact ⟨0, Nat.zero_le _, rfl, H0.out⟩
  case round =>
    obtain ⟨k, hk, rfl, hL⟩ := hrel
    clear H0
    by_cases hlt : k < n
    · rcases HS.out.below hL.2.2.2 (Nat.le_refl _) with h | ⟨b, off, rfl, hbs, hEl⟩
      · omega
      have hlt' : (k : Int) < (n : Int) := by omega
      obtain ⟨⟨q, hp, hq⟩, hkd⟩ := ev_kind (HE.out k hlt)
      obtain ⟨c0, c1, c2⟩ := ev_cells hEl hlt
      rw [hp] at c1
      obtain ⟨⟨d0, d1, d2, d3, d4, d5⟩, f0, f1, f2, f3, f4, f5⟩ := vec_six hL.1 hq
      have hgl := hL.1.2
      have hq' : (q : Int) < 6 := by omega
      have HP : Hid (P k = (q : Int)) := hp
      have HL : Hid (VecS K P M w wr g k u5) := hL
      clear hEl hL hp
      obtain ⟨x, hx⟩ : ∃ x, x = lastV K P M k q := ⟨_, rfl⟩
      rw [← hx] at d0 d1 d2 d3 d4 d5
      have HX : Hid (x = lastV K P M k q) := hx
      clear hx
      have hs : w.heap.size ≤ wr.heap.size := HL.out.2.2.2.size
      have hk6 : k ≤ 60 := by omega
      have hrow : ∀ j, u5.ownBlock = some j → j < wr.heap.size := fun j hj => (HL.out.2.2.1.lt j hj).2
      rcases hkd with h1 | h2 | h3
      · have e3 : (K k == 3) = false := by simp [h1]
        have e2 : (K k == 2) = false := by simp [h1]
        have HK3 : Hid (K k ≠ 3) := by show K k ≠ 3; omega
        have HK2 : Hid (K k ≠ 2) := by show K k ≠ 2; omega
        clear h1
        obtain ⟨u, hu⟩ : ∃ u, u = vc K P M (k + 1) := ⟨_, rfl⟩
        have HU : Hid (u = vc K P M (k + 1)) := hu
        clear hu

        have HYU : Hid (∀ i, i < 6 → (if i = q then x q + 1 else x i) = u i) := fun i _ => by rw [HU.out, vc_else HP.out HK3.out i, HX.out]; by_cases e : i = q <;> simp [e]
        have hyb : 0 ≤ x q ∧ x q ≤ 60 := by rw [HX.out]; exact lastV_bd K P M hk6 q q
        obtain ⟨y, hy⟩ : ∃ y, y = x := ⟨_, rfl⟩
        go_upto_region 10 with fail
        obtain ⟨wA, hwA⟩ : ∃ z, z = ((wr.alloc (.cells #[.int .i64 (K k), .int .i64 q, .int .i64 (M k)] 49)).alloc (.cells #[.int .i64 (x 0), .int .i64 (x 1), .int .i64 (x 2), .int .i64 (x 3), .int .i64 (x 4), .int .i64 (x 5)] 73)) := ⟨_, rfl⟩
        rw [← hwA]
        have hb : Below wr.heap.size wr wA := by rw [hwA]; exact ((Below.refl _ _).alloc (Nat.le_refl _) _).alloc (by simp) _
        have hSA : VecS K P M w wA g k u5 := HL.out.next hb
        have hVA : Vec wA (wr.heap.size + 1) y := by rw [hwA, hy]; have := Vec.new (wr.alloc (.cells #[.int .i64 (K k), .int .i64 q, .int .i64 (M k)] 49)) x 73; simpa using this
        have hEA : Ev1 wA wr.heap.size (K k) q (M k) := by rw [hwA]; exact (Ev1.new wr (K k) q (M k) 49).next (Go.Joins.below_alloc1 _ _)
        rw [← hy] at HYU hyb
        clear hb hwA hy

        have A_ : Hid (VecS K P M w wA g k u5 ∧ Vec wA (wr.heap.size + 1) y ∧ Ev1 wA wr.heap.size (K k) q (M k)) := ⟨hSA, hVA, hEA⟩
        obtain ⟨b0, b1, b2, bz⟩ := hEA
        have yq := (hVA.1 q hq).1
        have yf := (hVA.1 q hq).2
        have gz := hVA.2
        clear hSA hVA d0 d1 d2 d3 d4 d5 f0 f1 f2 f3 f4 f5 c0 c1 c2
        go_upto_region 11 with fail
        obtain ⟨wB, hwB⟩ : ∃ z, z = wA.setCell ⟨wr.heap.size + 1, q, none⟩ (.int .i64 (y q + 1)) := ⟨_, rfl⟩
        rw [← hwB]
        have hVB : Vec wB (wr.heap.size + 1) u := by rw [hwB]; exact (A_.out.2.1.set hq _).congr HYU.out
        have hEB : Ev1 wB wr.heap.size (K k) q (M k) := by
          rw [hwB]
          exact ⟨by rw [World.cell?_setCell_other _ _ _ _ (addr_ne' (by omega))]; exact b0, by rw [World.cell?_setCell_other _ _ _ _ (addr_ne' (by omega))]; exact b1, by rw [World.cell?_setCell_other _ _ _ _ (addr_ne' (by omega))]; exact b2, by simpa using bz⟩
        have hSB : VecS K P M w wB g k u5 := by
          rw [hwB]
          obtain ⟨q1, q2, q3, q4⟩ := A_.out.1
          exact ⟨q1.below (B := wr.heap.size) ((Below.refl _ _).setCell (p := ⟨wr.heap.size + 1, q, none⟩) (by simp) _) hgl, q2.setCell (by omega), rowAbove q3 hrow (by simp), q4.setCell (p := ⟨wr.heap.size + 1, q, none⟩) (by simp; omega) _⟩
        have B_ : Hid (VecS K P M w wB g k u5 ∧ Vec wB (wr.heap.size + 1) u ∧ Ev1 wB wr.heap.size (K k) q (M k)) := ⟨hSB, hVB, hEB⟩
        clear hwB b0 b1 b2 bz yq yf gz A_ wA
        obtain ⟨b0, b1, b2, bz⟩ := hEB
        obtain ⟨⟨d0, d1, d2, d3, d4, d5⟩, f0, f1, f2, f3, f4, f5⟩ := vec_six hSB.1 hq
        obtain ⟨⟨v0, v1, v2, v3, v4, v5⟩, vr_⟩ := hVB.six
        clear vr_
        have gz := hVB.2
        have gb := hSB.1.2
        clear hSB hVB
        go_upto_region 12 with fail
        obtain ⟨wC, hwC⟩ : ∃ z, z = set6 wB g (q * 6) u := ⟨_, rfl⟩
        have hwC' := hwC
        unfold set6 at hwC'
        rw [← hwC']
        clear hwC'
        have hVC : Vec wC (wr.heap.size + 1) u := by rw [hwC]; exact B_.out.2.1.other6 (by omega)
        have hEC : Ev1 wC wr.heap.size (K k) q (M k) := by
          rw [hwC]
          exact ev_other6 B_.out.2.2 (by omega)
        have C_ : Hid (VArr wC g (lastV K P M (k + 1)) ∧ VMap wC (g + 1) k (sentV K P M k) ∧ wC.ownsRow (g + 2) 73 6 u5 k (cellsL (vecF K P M) 6 k) ∧ Below w.heap.size w wC) := by
          obtain ⟨q1, q2, q3, q4⟩ := B_.out.1
          rw [hwC]
          exact ⟨(q1.put6 hq u).congr (fun i _ p hp6 => by rw [HU.out]; exact lastV_step HP.out i p), q2.other6 (by omega), row6 q3 (by omega), set6_below q4 hwg⟩
        clear hwC b0 b1 b2 bz d0 d1 d2 d3 d4 d5 f0 f1 f2 f3 f4 f5 v0 v1 v2 v3 v4 v5 gz gb B_ wB
        obtain ⟨b0, b1, b2, bz⟩ := hEC
        obtain ⟨⟨v0, v1, v2, v3, v4, v5⟩, vr_⟩ := hVC.six
        clear vr_
        have gz := hVC.2
        have hzc : w.heap.size ≤ wC.heap.size := C_.out.2.2.2.size
        have hgc : g + 2 ≤ wC.heap.size := by have := C_.out.2.1.lt; omega
        clear hVC

        go_wp2_with (first
          | (at_builtin; refine wpList_append_own _ rfl (.tmp 49) (.tmp 51) 78 rfl (g + 2) 73 i0 (.agg #[.int .i64 0, .int .i64 0, .int .i64 0, .int .i64 0, .int .i64 0, .int .i64 0]) 6 48 Try.underlying78 hi hz0 hz1 hz2 rfl (by decide) u5 k (cellsL (vecF K P M) 6 k) rfl (World.ownsRow.alloc C_.out.2.2.1 _) ⟨_, 0, none⟩ 1 1 [.int .i64 (u 0), .int .i64 (u 1), .int .i64 (u 2), .int .i64 (u 3), .int .i64 (u 4), .int .i64 (u 5)] rfl rfl (cells_at (by first | rfl | simp) _ _) (by intro z hz; simp at hz; rcases hz with rfl | rfl | rfl | rfl | rfl | rfl <;> rfl) (by unfold maxLen; omega) (by omega) (by simp <;> omega) ?_; intro v4 w4 hown hgrow hnil)
          | go_in)
        have HF : Hid (VecS K P M w w4 g (k + 1) v4) := vec_end hwg C_.out.1 ((C_.out.2.1.mono (Nat.le_succ _)).congr (fun m p _ => (sentV_keep HK2.out m p).symm)) C_.out.2.2.1 C_.out.2.2.2 HU.out hown hgrow

        clear hown hgrow hnil
        go_wp2
        go_roundw
        case rel => exact ⟨k + 1, by omega, by go_num, HF.out⟩
        case measure => simp [intOf]; omega
      · have e3 : (K k == 3) = false := by simp [h2]
        have e2 : (K k == 2) = true := by simp [h2]
        have HK3 : Hid (K k ≠ 3) := by show K k ≠ 3; omega
        have HK2 : Hid (K k = 2) := h2
        clear h2
        obtain ⟨u, hu⟩ : ∃ u, u = vc K P M (k + 1) := ⟨_, rfl⟩
        have HU : Hid (u = vc K P M (k + 1)) := hu
        clear hu

        have HYU : Hid (∀ i, i < 6 → (if i = q then x q + 1 else x i) = u i) := fun i _ => by rw [HU.out, vc_else HP.out HK3.out i, HX.out]; by_cases e : i = q <;> simp [e]
        have hyb : 0 ≤ x q ∧ x q ≤ 60 := by rw [HX.out]; exact lastV_bd K P M hk6 q q
        obtain ⟨y, hy⟩ : ∃ y, y = x := ⟨_, rfl⟩
        go_upto_region 10 with fail
        obtain ⟨wA, hwA⟩ : ∃ z, z = ((wr.alloc (.cells #[.int .i64 (K k), .int .i64 q, .int .i64 (M k)] 49)).alloc (.cells #[.int .i64 (x 0), .int .i64 (x 1), .int .i64 (x 2), .int .i64 (x 3), .int .i64 (x 4), .int .i64 (x 5)] 73)) := ⟨_, rfl⟩
        rw [← hwA]
        have hb : Below wr.heap.size wr wA := by rw [hwA]; exact ((Below.refl _ _).alloc (Nat.le_refl _) _).alloc (by simp) _
        have hSA : VecS K P M w wA g k u5 := HL.out.next hb
        have hVA : Vec wA (wr.heap.size + 1) y := by rw [hwA, hy]; have := Vec.new (wr.alloc (.cells #[.int .i64 (K k), .int .i64 q, .int .i64 (M k)] 49)) x 73; simpa using this
        have hEA : Ev1 wA wr.heap.size (K k) q (M k) := by rw [hwA]; exact (Ev1.new wr (K k) q (M k) 49).next (Go.Joins.below_alloc1 _ _)
        rw [← hy] at HYU hyb
        clear hb hwA hy

        have A_ : Hid (VecS K P M w wA g k u5 ∧ Vec wA (wr.heap.size + 1) y ∧ Ev1 wA wr.heap.size (K k) q (M k)) := ⟨hSA, hVA, hEA⟩
        obtain ⟨b0, b1, b2, bz⟩ := hEA
        have yq := (hVA.1 q hq).1
        have yf := (hVA.1 q hq).2
        have gz := hVA.2
        clear hSA hVA d0 d1 d2 d3 d4 d5 f0 f1 f2 f3 f4 f5 c0 c1 c2
        go_upto_region 11 with fail
        obtain ⟨wB, hwB⟩ : ∃ z, z = wA.setCell ⟨wr.heap.size + 1, q, none⟩ (.int .i64 (y q + 1)) := ⟨_, rfl⟩
        rw [← hwB]
        have hVB : Vec wB (wr.heap.size + 1) u := by rw [hwB]; exact (A_.out.2.1.set hq _).congr HYU.out
        have hEB : Ev1 wB wr.heap.size (K k) q (M k) := by
          rw [hwB]
          exact ⟨by rw [World.cell?_setCell_other _ _ _ _ (addr_ne' (by omega))]; exact b0, by rw [World.cell?_setCell_other _ _ _ _ (addr_ne' (by omega))]; exact b1, by rw [World.cell?_setCell_other _ _ _ _ (addr_ne' (by omega))]; exact b2, by simpa using bz⟩
        have hSB : VecS K P M w wB g k u5 := by
          rw [hwB]
          obtain ⟨q1, q2, q3, q4⟩ := A_.out.1
          exact ⟨q1.below (B := wr.heap.size) ((Below.refl _ _).setCell (p := ⟨wr.heap.size + 1, q, none⟩) (by simp) _) hgl, q2.setCell (by omega), rowAbove q3 hrow (by simp), q4.setCell (p := ⟨wr.heap.size + 1, q, none⟩) (by simp; omega) _⟩
        have B_ : Hid (VecS K P M w wB g k u5 ∧ Vec wB (wr.heap.size + 1) u ∧ Ev1 wB wr.heap.size (K k) q (M k)) := ⟨hSB, hVB, hEB⟩
        clear hwB b0 b1 b2 bz yq yf gz A_ wA
        obtain ⟨b0, b1, b2, bz⟩ := hEB
        obtain ⟨⟨d0, d1, d2, d3, d4, d5⟩, f0, f1, f2, f3, f4, f5⟩ := vec_six hSB.1 hq
        obtain ⟨⟨v0, v1, v2, v3, v4, v5⟩, vr_⟩ := hVB.six
        clear vr_
        have gz := hVB.2
        have gb := hSB.1.2
        clear hSB hVB
        go_upto_region 12 with fail
        obtain ⟨wC, hwC⟩ : ∃ z, z = set6 wB g (q * 6) u := ⟨_, rfl⟩
        have hwC' := hwC
        unfold set6 at hwC'
        rw [← hwC']
        clear hwC'
        have hVC : Vec wC (wr.heap.size + 1) u := by rw [hwC]; exact B_.out.2.1.other6 (by omega)
        have hEC : Ev1 wC wr.heap.size (K k) q (M k) := by
          rw [hwC]
          exact ev_other6 B_.out.2.2 (by omega)
        have C_ : Hid (VArr wC g (lastV K P M (k + 1)) ∧ VMap wC (g + 1) k (sentV K P M k) ∧ wC.ownsRow (g + 2) 73 6 u5 k (cellsL (vecF K P M) 6 k) ∧ Below w.heap.size w wC) := by
          obtain ⟨q1, q2, q3, q4⟩ := B_.out.1
          rw [hwC]
          exact ⟨(q1.put6 hq u).congr (fun i _ p hp6 => by rw [HU.out]; exact lastV_step HP.out i p), q2.other6 (by omega), row6 q3 (by omega), set6_below q4 hwg⟩
        clear hwC b0 b1 b2 bz d0 d1 d2 d3 d4 d5 f0 f1 f2 f3 f4 f5 v0 v1 v2 v3 v4 v5 gz gb B_ wB
        obtain ⟨b0, b1, b2, bz⟩ := hEC
        obtain ⟨⟨v0, v1, v2, v3, v4, v5⟩, vr_⟩ := hVC.six
        clear vr_
        have gz := hVC.2
        have hzc : w.heap.size ≤ wC.heap.size := C_.out.2.2.2.size
        have hgc : g + 2 ≤ wC.heap.size := by have := C_.out.2.1.lt; omega
        have hVC0 : Hid (Vec wC (wr.heap.size + 1) u) := hVC
        clear hVC

        obtain ⟨D, hoD, hfD⟩ := C_.out.2.1
        have HD : Hid (wC.ownsMap Try.prog 3 selfR (g + 1) k D ∧ ∀ m, D.atKey (.int .i64 m) (.held (vec fun _ => 0)) = .held (vec (sentV K P M k m))) := ⟨hoD, hfD⟩
        clear hoD hfD
        have hkey : keyOf Try.prog 3 (.int .i64 (M k)) = some (.int .i64 (M k)) := keyOf_int_mk Try.underlying3 (WalkArith.wf_i64 (by have := HM.out k hlt; omega))
        go_wp2_with (first
          | (at_mapUpdate; refine wpList_mapUpdate_own _ rfl _ _ _ 100 rfl 3 73 keyI Try.underlying100 selfR (g + 1) k D rfl HD.out.1 (by unfold maxLen; omega) _ _ _ rfl rfl hkey _ [] rfl ?_; intro wD hown1 hgrow1; have D_ : Hid (VArr wD g (lastV K P M (k + 1)) ∧ VMap wD (g + 1) (k + 1) (sentV K P M (k + 1)) ∧ wD.ownsRow (g + 2) 73 6 u5 k (cellsL (vecF K P M) 6 k) ∧ Below w.heap.size w wD) := ⟨C_.out.1.grown hgrow1 (by simp), VMap.put (u := u) HD.out.2 HD.out.1.isMap hown1 (fun m p => by rw [HU.out]; exact sentV_put HK2.out m p), own_grown C_.out.2.2.1 hgrow1 (by omega), C_.out.2.2.2.grown hgrow1 C_.out.2.2.2.size (fun j hj => by cases hj; omega)⟩; have hgd2 : g + 2 ≤ wD.heap.size := (by have := D_.out.2.1.lt; omega); have hVD := hVC0.out.grown hgrow1 (by simp; omega); obtain ⟨⟨t0, t1, t2, t3, t4, t5⟩, _⟩ := hVD.six; have tz := hVD.2; clear hown1 hgrow1 hVD)
          | (at_builtin; refine wpList_append_own _ rfl (.tmp 49) (.tmp 51) 78 rfl (g + 2) 73 i0 (.agg #[.int .i64 0, .int .i64 0, .int .i64 0, .int .i64 0, .int .i64 0, .int .i64 0]) 6 48 Try.underlying78 hi hz0 hz1 hz2 rfl (by decide) u5 k (cellsL (vecF K P M) 6 k) rfl (World.ownsRow.alloc D_.out.2.2.1 _) ⟨_, 0, none⟩ 1 1 [.int .i64 (u 0), .int .i64 (u 1), .int .i64 (u 2), .int .i64 (u 3), .int .i64 (u 4), .int .i64 (u 5)] rfl rfl (cells_at (by first | rfl | simp) _ _) (by intro z hz; simp at hz; rcases hz with rfl | rfl | rfl | rfl | rfl | rfl <;> rfl) (by unfold maxLen; omega) (by omega) (by simp <;> omega) ?_; intro v4 w4 hown hgrow hnil)
          | go_in)
        have HF : Hid (VecS K P M w w4 g (k + 1) v4) := vec_end hwg D_.out.1 D_.out.2.1 D_.out.2.2.1 D_.out.2.2.2 HU.out hown hgrow

        clear hown hgrow hnil
        go_wp2
        go_roundw
        case rel => exact ⟨k + 1, by omega, by go_num, HF.out⟩
        case measure => simp [intOf]; omega
      · have e3 : (K k == 3) = true := by simp [h3]
        have e2 : (K k == 2) = false := by simp [h3]
        have HK3 : Hid (K k = 3) := h3
        have HK2 : Hid (K k ≠ 2) := by show K k ≠ 2; omega
        clear h3
        obtain ⟨u, hu⟩ : ∃ u, u = vc K P M (k + 1) := ⟨_, rfl⟩
        have HU : Hid (u = vc K P M (k + 1)) := hu
        clear hu

        obtain ⟨z, hz⟩ : ∃ z, z = sentV K P M k (M k) := ⟨_, rfl⟩
        have HZ : Hid (z = sentV K P M k (M k)) := hz
        clear hz
        obtain ⟨y, hy⟩ : ∃ y : Nat → Int, y = fun i => max (x i) (z i) := ⟨_, rfl⟩
        have HYU : Hid (∀ i, i < 6 → (if i = q then y q + 1 else y i) = u i) := fun i _ => by rw [HU.out, vc_take HP.out HK3.out i, ← HX.out, ← HZ.out, hy]; by_cases e : i = q <;> simp [e]
        have hyb : 0 ≤ y q ∧ y q ≤ 60 := by have h1 := lastV_bd K P M hk6 q q; have h2 := sentV_bd K P M hk6 (M k) q; rw [hy, HX.out, HZ.out]; simp only []; omega
        have hlk : (Instr.lookup 100 (.map (some (g + 1))) (.int .i64 (M k)) false).run Try.prog ((wr.alloc (.cells #[.int .i64 (K k), .int .i64 q, .int .i64 (M k)] 49)).alloc (.cells #[.int .i64 (x 0), .int .i64 (x 1), .int .i64 (x 2), .int .i64 (x 3), .int .i64 (x 4), .int .i64 (x 5)] 73)) = .ok (.agg #[.int .i64 (z 0), .int .i64 (z 1), .int .i64 (z 2), .int .i64 (z 3), .int .i64 (z 4), .int .i64 (z 5)]) ((wr.alloc (.cells #[.int .i64 (K k), .int .i64 q, .int .i64 (M k)] 49)).alloc (.cells #[.int .i64 (x 0), .int .i64 (x 1), .int .i64 (x 2), .int .i64 (x 3), .int .i64 (x 4), .int .i64 (x 5)] 73)) := by
          have hb : Below wr.heap.size wr ((wr.alloc (.cells #[.int .i64 (K k), .int .i64 q, .int .i64 (M k)] 49)).alloc (.cells #[.int .i64 (x 0), .int .i64 (x 1), .int .i64 (x 2), .int .i64 (x 3), .int .i64 (x 4), .int .i64 (x 5)] 73)) := ((Below.refl _ _).alloc (Nat.le_refl _) _).alloc (by simp) _
          rw [HZ.out]
          exact (HL.out.2.1.below hb HL.out.2.1.lt).look (HM.out k hlt)
        go_wp2_with fail
        refine (greater_any x z _).mono ?_
        rintro r wG ⟨rfl, hbG⟩
        rw [← hy]
        have HGv : Hid (Vec wG (wr.heap.size + 1) x ∧ Ev1 wG wr.heap.size (K k) q (M k) ∧ VecS K P M w wG g k u5) := by
          have hb : Below wr.heap.size wr ((wr.alloc (.cells #[.int .i64 (K k), .int .i64 q, .int .i64 (M k)] 49)).alloc (.cells #[.int .i64 (x 0), .int .i64 (x 1), .int .i64 (x 2), .int .i64 (x 3), .int .i64 (x 4), .int .i64 (x 5)] 73)) := ((Below.refl _ _).alloc (Nat.le_refl _) _).alloc (by simp) _
          have h1 := Vec.new (wr.alloc (.cells #[.int .i64 (K k), .int .i64 q, .int .i64 (M k)] 49)) x 73
          have h2 : Vec ((wr.alloc (.cells #[.int .i64 (K k), .int .i64 q, .int .i64 (M k)] 49)).alloc (.cells #[.int .i64 (x 0), .int .i64 (x 1), .int .i64 (x 2), .int .i64 (x 3), .int .i64 (x 4), .int .i64 (x 5)] 73)) (wr.heap.size + 1) x := by simpa using h1
          exact ⟨h2.below hbG h2.2, ((Ev1.new wr (K k) q (M k) 49).next (Go.Joins.below_alloc1 _ _)).next hbG, (HL.out.next hb).next hbG⟩
        clear hlk hbG hy
        unfold vec
        obtain ⟨⟨g0, g1, g2, g3, g4, g5⟩, h0, h1, h2, h3, h4, h5⟩ := HGv.out.1.six
        have gg := HGv.out.1.2
        obtain ⟨b0, b1, b2, bz⟩ := HGv.out.2.1
        go_upto_region 10 with fail
        obtain ⟨wA, hwA⟩ : ∃ t, t = set6 wG (wr.heap.size + 1) 0 y := ⟨_, rfl⟩
        have hwA' := hwA
        unfold set6 at hwA'
        rw [← hwA']
        clear hwA'
        have hVA : Vec wA (wr.heap.size + 1) y := by rw [hwA]; exact HGv.out.1.put6 y
        have hEA : Ev1 wA wr.heap.size (K k) q (M k) := by rw [hwA]; exact ev_other6 HGv.out.2.1 (by omega)
        have hSA : VecS K P M w wA g k u5 := by
          obtain ⟨q1, q2, q3, q4⟩ := HGv.out.2.2
          rw [hwA]
          exact ⟨q1.below (B := wr.heap.size) (set6_below (Below.refl _ _) (by omega)) hgl, q2.other6 (by omega), rowAbove6 q3 hrow (by omega), set6_below q4 (by omega)⟩
        clear hwA g0 g1 g2 g3 g4 g5 h0 h1 h2 h3 h4 h5 gg b0 b1 b2 bz HGv wG

        have A_ : Hid (VecS K P M w wA g k u5 ∧ Vec wA (wr.heap.size + 1) y ∧ Ev1 wA wr.heap.size (K k) q (M k)) := ⟨hSA, hVA, hEA⟩
        obtain ⟨b0, b1, b2, bz⟩ := hEA
        have yq := (hVA.1 q hq).1
        have yf := (hVA.1 q hq).2
        have gz := hVA.2
        clear hSA hVA d0 d1 d2 d3 d4 d5 f0 f1 f2 f3 f4 f5 c0 c1 c2
        go_upto_region 11 with fail
        obtain ⟨wB, hwB⟩ : ∃ z, z = wA.setCell ⟨wr.heap.size + 1, q, none⟩ (.int .i64 (y q + 1)) := ⟨_, rfl⟩
        rw [← hwB]
        have hVB : Vec wB (wr.heap.size + 1) u := by rw [hwB]; exact (A_.out.2.1.set hq _).congr HYU.out
        have hEB : Ev1 wB wr.heap.size (K k) q (M k) := by
          rw [hwB]
          exact ⟨by rw [World.cell?_setCell_other _ _ _ _ (addr_ne' (by omega))]; exact b0, by rw [World.cell?_setCell_other _ _ _ _ (addr_ne' (by omega))]; exact b1, by rw [World.cell?_setCell_other _ _ _ _ (addr_ne' (by omega))]; exact b2, by simpa using bz⟩
        have hSB : VecS K P M w wB g k u5 := by
          rw [hwB]
          obtain ⟨q1, q2, q3, q4⟩ := A_.out.1
          exact ⟨q1.below (B := wr.heap.size) ((Below.refl _ _).setCell (p := ⟨wr.heap.size + 1, q, none⟩) (by simp) _) hgl, q2.setCell (by omega), rowAbove q3 hrow (by simp), q4.setCell (p := ⟨wr.heap.size + 1, q, none⟩) (by simp; omega) _⟩
        have B_ : Hid (VecS K P M w wB g k u5 ∧ Vec wB (wr.heap.size + 1) u ∧ Ev1 wB wr.heap.size (K k) q (M k)) := ⟨hSB, hVB, hEB⟩
        clear hwB b0 b1 b2 bz yq yf gz A_ wA
        obtain ⟨b0, b1, b2, bz⟩ := hEB
        obtain ⟨⟨d0, d1, d2, d3, d4, d5⟩, f0, f1, f2, f3, f4, f5⟩ := vec_six hSB.1 hq
        obtain ⟨⟨v0, v1, v2, v3, v4, v5⟩, vr_⟩ := hVB.six
        clear vr_
        have gz := hVB.2
        have gb := hSB.1.2
        clear hSB hVB
        go_upto_region 12 with fail
        obtain ⟨wC, hwC⟩ : ∃ z, z = set6 wB g (q * 6) u := ⟨_, rfl⟩
        have hwC' := hwC
        unfold set6 at hwC'
        rw [← hwC']
        clear hwC'
        have hVC : Vec wC (wr.heap.size + 1) u := by rw [hwC]; exact B_.out.2.1.other6 (by omega)
        have hEC : Ev1 wC wr.heap.size (K k) q (M k) := by
          rw [hwC]
          exact ev_other6 B_.out.2.2 (by omega)
        have C_ : Hid (VArr wC g (lastV K P M (k + 1)) ∧ VMap wC (g + 1) k (sentV K P M k) ∧ wC.ownsRow (g + 2) 73 6 u5 k (cellsL (vecF K P M) 6 k) ∧ Below w.heap.size w wC) := by
          obtain ⟨q1, q2, q3, q4⟩ := B_.out.1
          rw [hwC]
          exact ⟨(q1.put6 hq u).congr (fun i _ p hp6 => by rw [HU.out]; exact lastV_step HP.out i p), q2.other6 (by omega), row6 q3 (by omega), set6_below q4 hwg⟩
        clear hwC b0 b1 b2 bz d0 d1 d2 d3 d4 d5 f0 f1 f2 f3 f4 f5 v0 v1 v2 v3 v4 v5 gz gb B_ wB
        obtain ⟨b0, b1, b2, bz⟩ := hEC
        obtain ⟨⟨v0, v1, v2, v3, v4, v5⟩, vr_⟩ := hVC.six
        clear vr_
        have gz := hVC.2
        have hzc : w.heap.size ≤ wC.heap.size := C_.out.2.2.2.size
        have hgc : g + 2 ≤ wC.heap.size := by have := C_.out.2.1.lt; omega
        clear hVC

        go_wp2_with (first
          | (at_builtin; refine wpList_append_own _ rfl (.tmp 49) (.tmp 51) 78 rfl (g + 2) 73 i0 (.agg #[.int .i64 0, .int .i64 0, .int .i64 0, .int .i64 0, .int .i64 0, .int .i64 0]) 6 48 Try.underlying78 hi hz0 hz1 hz2 rfl (by decide) u5 k (cellsL (vecF K P M) 6 k) rfl (World.ownsRow.alloc C_.out.2.2.1 _) ⟨_, 0, none⟩ 1 1 [.int .i64 (u 0), .int .i64 (u 1), .int .i64 (u 2), .int .i64 (u 3), .int .i64 (u 4), .int .i64 (u 5)] rfl rfl (cells_at (by first | rfl | simp) _ _) (by intro z hz; simp at hz; rcases hz with rfl | rfl | rfl | rfl | rfl | rfl <;> rfl) (by unfold maxLen; omega) (by omega) (by simp <;> omega) ?_; intro v4 w4 hown hgrow hnil)
          | go_in)
        have HF : Hid (VecS K P M w w4 g (k + 1) v4) := vec_end hwg C_.out.1 ((C_.out.2.1.mono (Nat.le_succ _)).congr (fun m p _ => (sentV_keep HK2.out m p).symm)) C_.out.2.2.1 C_.out.2.2.2 HU.out hown hgrow

        clear hown hgrow hnil
        go_wp2
        go_roundw
        case rel => exact ⟨k + 1, by omega, by go_num, HF.out⟩
        case measure => simp [intOf]; omega
    · have hkn : k = n := by omega
      subst hkn
      obtain ⟨a4, cap4, rfl, _, hx⟩ := SRow.of hL.2.2.1
      have HF : Hid (SRow wr (g + 2) wr.heap.size a4 k 6 (vecF K P M) ∧ Below w.heap.size w wr) := ⟨hx, hL.2.2.2⟩
      clear hL hx
      go_wp2
      go_ret
      exact ⟨⟨a4, cap4, rfl, HF.out.1.wide (by omega)⟩, HF.out.2⟩
end Go.Proofs.Ytjophhiccbkpjaa
