/- impl.WaitsFor: who waits for whom, sorted, each once. -/
import Derived.Test.YtnapgnkhajkbkaaWfA
import Derived.Test.YtnapgnkhajkbkaaSoN
import Derived.Test.YtnapgnkhajkbkaaGlL
namespace Go.Proofs.Ytnapgnkhajkbkaa
open Go.RowKit
set_option linter.unusedVariables false

theorem grow_size (w : World) (os : Array Obj) : (Go.Sort.grow w os).heap.size = w.heap.size + os.size := by simp [Go.Sort.grow]
theorem putK_size (w : World) (g n : Nat) (d : Array (Int × Int)) : (Go.Sort.putRowK Try.encPr 2 (Go.Sort.ahead w n) g 0 d).heap.size = w.heap.size := by simp [Go.Sort.putRowK, Go.Sort.putRow, Go.Sort.mapBlock, Go.Sort.ahead]
theorem putK_other (w : World) (g n k : Nat) (d : Array (Int × Int)) (h : k ≠ g) : (Go.Sort.putRowK Try.encPr 2 (Go.Sort.ahead w n) g 0 d).heap[k]? = w.heap[k]? := by
  simp [Go.Sort.putRowK, Go.Sort.putRow, Go.Sort.mapBlock, Go.Sort.ahead, Array.getElem?_modify, Ne.symm h]
theorem sortK_trn (w : World) (g n : Nat) (d : Array (Int × Int)) (os : Array Obj) : Trn g (g + 1) w (sortWorldK Try.encPr 2 w g 0 n d os) := by
  refine ⟨rfl, rfl, rfl, ?_, fun k hk hne => ?_⟩
  · show w.heap.size ≤ (Go.Sort.grow (Go.Sort.putRowK Try.encPr 2 (Go.Sort.ahead w n) g 0 d) os).heap.size
    rw [grow_size, putK_size]; omega
  · show (Go.Sort.grow (Go.Sort.putRowK Try.encPr 2 (Go.Sort.ahead w n) g 0 d) os).heap[k]? = _
    rw [← putK_other w g n k d (by omega)]
    simp only [Go.Sort.grow]
    rw [Array.getElem?_append_left (by rw [putK_size]; exact hk)]
theorem holds_row {w : World} {g k : Nat} {d : Array (Int × Int)} (h : Go.Sort.HoldsK Try.encPr 2 w g 0 d) (hk : d.size = k) (hg : g < w.heap.size) : RowP w g k (fun i => d[i]!) := by
  subst hk
  refine ⟨fun i hi c hc => ?_, fun q hq => ?_, hg⟩
  · have := (h.cell (i := i) (c := c) hi hc).1
    rw [this]
    match c, hc with
    | 0, _ => rfl
    | 1, _ => rfl
  · have := h.cell (i := q / 2) (c := q % 2) (by omega) (by omega)
    rw [show 0 + q / 2 * 2 + q % 2 = q by omega] at this
    exact ⟨⟨_, this.1⟩, this.2⟩
theorem row_holds {w : World} {base g cap : Nat} {R : List (Int × Int)} (h : w.ownsRow base 35 2 (.slice (some ⟨g, 0, none⟩) R.length cap) R.length (cellsP R)) : Go.Sort.HoldsK Try.encPr 2 w g 0 R.toArray := by
  intro t ht
  rw [Go.Sort.size_flatK] at ht
  have ht' : t < R.length * 2 := by simpa using ht
  rw [Go.Sort.get_flatK _ _ _ _ ht]
  have hl := cellsP_len R
  have h1 := cellsP_at R (t / 2) (t % 2) (by omega) (by omega)
  rw [show t / 2 * 2 + t % 2 = t by omega] at h1
  have hr := (room_made h) t ht'
  refine ⟨?_, by rw [Nat.zero_add]; exact hr.2⟩
  rw [Nat.zero_add, World.ownsRow.cellAt h t (by omega), h1]
  have hd : R.toArray[t / 2]! = (pP R (t / 2), pQ R (t / 2)) := by
    rw [at_pq (show t / 2 < R.length by omega)]
    simp [show t / 2 < R.length by omega]
  rw [hd]
  rcases Nat.mod_two_eq_zero_or_one t with e | e <;> rw [e] <;> rfl
theorem sort_row {w : World} {base g cap : Nat} {R : List (Int × Int)} (hR : R.length ≤ 1048576) (hg : g < w.heap.size) (h : w.ownsRow base 35 2 (.slice (some ⟨g, 0, none⟩) R.length cap) R.length (cellsP R)) :
    Calls Try.prog 46 #[.slice (some ⟨g, 0, none⟩) R.length cap, .func (.func 47) #[] #[]] w fun r w' => r = .returned (.tuple #[]) ∧ ∃ d : Nat → Int × Int, RowP w' g R.length d ∧ (∀ i j, i < j → j < R.length → ¬ PLt (d j) (d i)) ∧ (∀ z, (∃ j, j < R.length ∧ d j = z) ↔ z ∈ R) ∧ Trn g (g + 1) w w' := by
  have hs : R.toArray.size = R.length := by simp
  have hh := row_holds h
  have hc := Try.sortPairs g 0 cap R.toArray w hh hg (by rw [hs]; omega)
  rw [hs] at hc
  refine hc.mono ?_
  rintro r w' ⟨rfl, d', n, os, hp, hso, rfl⟩
  obtain ⟨p1, _, p3⟩ := hp
  rw [hs] at p1
  refine ⟨rfl, fun i => d'[i]!, ?_, fun i j hij hj => ?_, fun z => ?_, sortK_trn w g n d' os⟩
  · refine holds_row (Go.Sort.holdsK_grow Try.encPr 2 _ os g 0 d' (by rw [putK_size]; exact hg) (Go.Sort.holdsK_putRowK Try.encPr 2 _ g 0 R.toArray d' (Go.Sort.holdsK_ahead Try.encPr 2 w n g 0 _ hh) (by rw [p1, hs]))) p1 ?_
    exact Nat.lt_of_lt_of_le hg (sortK_trn w g n d' os).2.2.2.1
  · have := hso i j (Nat.zero_le _) hij hj
    exact (Try.ltPrN _ _).1 this
  · have e1 : (d'.extract 0 R.length).toList = d'.toList := by rw [← p1]; simp
    have e2 : (R.toArray.extract 0 R.length).toList = R := by rw [← hs]; simp
    rw [e1, e2] at p3
    rw [← p3.mem_iff]
    constructor
    · rintro ⟨j, hj, rfl⟩
      simp [p1, hj]
    · intro hz
      obtain ⟨j, hj, e⟩ := List.getElem_of_mem hz
      refine ⟨j, by simpa [p1] using hj, ?_⟩
      have hj' : j < d'.size := by simpa using hj
      simp only [getElem!_pos d' j hj']
      simpa using e
theorem CpPost.row {w W : World} {g k cap : Nat} {d : Nat → Int × Int} {lo : Nat} {r : Ending} (h : CpPost g k cap d w r W) (hlo : lo ≤ g) : ∃ (R : List (Int × Int)), R = ddN d k ∧ r = .returned (.slice (some ⟨g, 0, none⟩) R.length cap) ∧ PRow W lo W.heap.size (some ⟨g, 0, none⟩) R.length (pP R) (pQ R) ∧ Trn g (g + 1) w W := by
  obtain ⟨e, h1, h2, h3, h4⟩ := h
  refine ⟨ddN d k, rfl, h1, ⟨Or.inr ⟨g, rfl, hlo, h2.2.2, h2.2.2, fun i hi c hc => ?_, h2.2.1⟩, Nat.le_refl _⟩, h4⟩
  rw [h2.1 i hi c hc]
  have := h3 i hi
  match c, hc with
  | 0, _ => simp [prF, pP, this]
  | 1, _ => simp [prF, pQ, this]
theorem ddN_len (d : Nat → Int × Int) : ∀ k, (ddN d k).length ≤ k
  | 0 => Nat.le_refl _
  | k + 1 => by
    have := ddN_len d k
    rw [ddN]; split
    · omega
    · simp; omega
set_option maxHeartbeats 1000000 in
theorem compact_none (a : Option Addr) (cap : Nat) (w : World) : Calls Try.prog 48 #[.slice a 0 cap] w fun r w' => r = .returned (.slice a 0 cap) ∧ w' = w := by
  go_enter Try.func48, Try.ntmps48
  go_wp2
  go_ret
  exact ⟨rfl, rfl⟩

set_option maxRecDepth 100000 in
set_option maxHeartbeats 8000000 in
theorem waitsFor_any (a : Option Addr) (n cap : Nat) (V : Nat → LkV) (A : Nat → LkA) (w : World) (hn : n ≤ 1048576) (hz : ∀ i, i < n → LkOk (V i)) (hs : LkS w a n V A) :
    Calls Try.prog 15 #[.slice a n cap] w (WaitPost V n w) := by
  have hmf : ∀ (fn : Fn) (first cap : Array Value) (w : World), (Instr.makeFunc fn first cap).run Try.prog w = .ok (.func fn first cap) w := fun _ _ _ _ => rfl
  have HS : Hid (LkS w a n V A ∧ ∀ i, i < n → LkOk (V i)) := ⟨hs, hz⟩
  clear hs hz
  go_enter Try.func15, Try.ntmps15
  go_wp2_with fail
  refine (goodLocks_any _ _ _ V A _ hn HS.out.2 HS.out.1).mono ?_
  rintro r w1 ⟨rfl, hb1⟩
  have HB1 : Hid (Below w.heap.size w w1) := hb1
  clear hb1
  cases hg : goodL V n
  · have HG0 : Hid (goodL V n = false) := hg
    clear hg
    go_wp2
    go_ret2
    exact wait_no HG0.out HB1.out
  have HG : Hid (goodL V n = true) := hg
  have HGP : Hid (∀ i, i < n → (V i).w.n ≤ 8 ∧ (V i).h.n ≤ 1000 ∧ ∀ q j, q < j → j < (V i).w.n → (V i).w.t q ≠ (V i).w.t j) := (good_parts hg).2
  have hn20 : n ≤ 20 := (good_parts hg).1
  clear hg
  go_wp2
  go_loopw [14, 4] (fun x v wr => ∃ i : Nat, i ≤ n ∧ x = .int .i64 i ∧ ApX w wr v (inW V i) (8064 * i)) (fun x _ _ => n - (intOf x).toNat)
  case atStart => exact ⟨0, Nat.zero_le _, rfl, [], World.ownsRow_nil _ _ _ _, fun z => by simp [inW_zero], by simp, HB1.out⟩
  case round =>
    obtain ⟨i, hi, rfl, hW⟩ := hrel
    obtain ⟨wo, hwo⟩ : ∃ x, x = wr := ⟨wr, rfl⟩
    subst hwo
    have HW : Hid (ApX w wo u4 (inW V i) (8064 * i)) := hW
    clear hW HB1
    by_cases hlt : i < n
    · have hlt' : (i : Int) < (n : Int) := by omega
      have hsr := HS.out.1.next HW.out.below
      rcases hsr.1 with h | ⟨b, off, rfl, hbs, hE⟩
      · omega
      obtain ⟨c0, c1, c2⟩ := lk_cells hE hlt
      have HGI := Hid.out HGP i hlt
      have HAT : Hid (∀ W, Below w.heap.size w W → HdAt W (A i) (V i)) := fun W hb => (HS.out.1.next hb).2 i hlt
      clear hsr hE
      obtain ⟨Vi, hVi⟩ : ∃ x, x = V i := ⟨_, rfl⟩
      obtain ⟨Ai, hAi⟩ : ∃ x, x = A i := ⟨_, rfl⟩
      have HVI : Hid (V i = Vi) := hVi.symm
      rw [← hVi] at c0 c1 c2 HGI
      rw [← hAi] at c1 c2
      rw [← hVi, ← hAi] at HAT
      clear hVi hAi
      obtain ⟨key, ⟨hN, ht, hm⟩, ⟨wN, wt, wm⟩⟩ := Vi
      obtain ⟨ha, hc, wa, wc⟩ := Ai
      simp only at c0 c1 c2 HGI
      have HDI : Hid (∀ q j, q < j → j < wN → wt q ≠ wt j) := HGI.2.2
      have hgp : wN ≤ 8 ∧ hN ≤ 1000 := ⟨HGI.1, HGI.2.1⟩
      clear HGI
      have HSL : Hid (∀ W, Below w.heap.size w W → Sl W ha hN 2 (hdF ht hm) ∧ Sl W wa wN 2 (hdF wt wm) ∧ hN ≤ hc ∧ wN ≤ wc) := HAT.out
      clear HAT
      have HB0 := Bx.new wo [.string key, .slice ha hN hc, .slice wa wN wc] 48
      have HX : Hid (Bx (wo.alloc (.cells #[.string key, .slice ha hN hc, .slice wa wN wc] 48)) wo.heap.size [.string key, .slice ha hN hc, .slice wa wN wc] ∧ ApX w (wo.alloc (.cells #[.string key, .slice ha hN hc, .slice wa wN wc] 48)) u4 (inW V i) (8064 * i) ∧ ∀ j, u4.ownBlock = some j → j ≠ wo.heap.size) := ⟨HB0, HW.out.next (Go.Joins.below_alloc1 _ _), fun j hj => by have := (HW.out.own j hj).2; omega⟩
      clear HB0 HW
      obtain ⟨v, hv⟩ : ∃ v : LkV, v = ⟨key, ⟨hN, ht, hm⟩, ⟨wN, wt, wm⟩⟩ := ⟨_, rfl⟩
      have HV : Hid (v = ⟨key, ⟨hN, ht, hm⟩, ⟨wN, wt, wm⟩⟩ ∧ V i = v) := ⟨hv, HVI.out.trans hv.symm⟩
      clear hv HVI
      go_wp2
      clear c0 c1 c2
      obtain ⟨g1, hg1⟩ : ∃ x, x = wo.heap.size := ⟨_, rfl⟩
      rw [← hg1] at HX ⊢
      clear hg1
      go_loopw [21, 4] (fun x u wr => ∃ j : Nat, j ≤ wN ∧ x = .int .i64 j ∧ ApX w wr u (fun z => inW V i z ∨ inJ v j z) (8064 * i + 1008 * j) ∧ Bx wr g1 [.string key, .slice ha hN hc, .slice wa wN wc] ∧ ∀ j, u.ownBlock = some j → j ≠ g1) (fun x _ _ => wN - (intOf x).toNat)
      case atStart => exact ⟨0, Nat.zero_le _, rfl, HX.out.2.1.congr (fun z => by simp [inJ_zero]) (by omega), HX.out.1, HX.out.2.2⟩
      case round =>
        obtain ⟨j, hj, rfl, hW, hbx, hap⟩ := hrel
        obtain ⟨wq, hwq⟩ : ∃ x, x = wr := ⟨wr, rfl⟩
        subst hwq
        have HW : Hid (ApX w wq u4 (fun z => inW V i z ∨ inJ v j z) (8064 * i + 1008 * j) ∧ Bx wq g1 [.string key, .slice ha hN hc, .slice wa wN wc] ∧ ∀ j, u4.ownBlock = some j → j ≠ g1) := ⟨hW, hbx, hap⟩
        clear hW hbx hap HX
        by_cases hlj : j < wN
        · have hlj' : (j : Int) < (wN : Int) := by omega
          have hsl := HSL.out wq HW.out.1.below
          have hwc := hsl.2.2.2
          have hjc : (j : Int) ≤ (wc : Int) := by omega
          rcases hsl.2.1 with h | ⟨b', off', rfl, hbs', hE'⟩
          · omega
          obtain ⟨c0, c1⟩ := hd_cells hE' hlj
          have d1 := HW.out.2.1.cell 1 rfl
          have d2 := HW.out.2.1.cell 2 rfl
          have dz := HW.out.2.1.2
          clear hsl hE'
          have HTJ : Hid (v.w.t j = wt j ∧ v.h.n = hN ∧ v.h.t = ht ∧ v.w.t = wt) := by rw [HV.out.1]; exact ⟨rfl, rfl, rfl, rfl⟩
          have HDJ : Hid (∀ q, q < j → wt q ≠ wt j) := fun q hq => HDI.out q j hq hlj
          generalize ht0 : wt j = t0 at *
          generalize wm j = m0 at *
          clear ht0
          have HB0 := Bx.new wq [.int .i64 t0, .int .i64 m0] 50
          have HX : Hid (Bx (wq.alloc (.cells #[.int .i64 t0, .int .i64 m0] 50)) wq.heap.size [.int .i64 t0, .int .i64 m0] ∧ Bx (wq.alloc (.cells #[.int .i64 t0, .int .i64 m0] 50)) g1 [.string key, .slice ha hN hc, .slice (some ⟨b', off', none⟩) wN wc] ∧ ApX w (wq.alloc (.cells #[.int .i64 t0, .int .i64 m0] 50)) u4 (fun z => inW V i z ∨ inJ v j z) (8064 * i + 1008 * j) ∧ (∀ j, u4.ownBlock = some j → j ≠ g1 ∧ j ≠ wq.heap.size)) := ⟨HB0, HW.out.2.1.next (Go.Joins.below_alloc1 _ _), HW.out.1.next (Go.Joins.below_alloc1 _ _), fun j hj => ⟨HW.out.2.2 j hj, by have := (HW.out.1.own j hj).2; omega⟩⟩
          clear HB0 HW
          go_wp2_with fail
          clear c0 c1 d1 d2 dz
          obtain ⟨g2, hg2⟩ : ∃ x, x = wq.heap.size := ⟨_, rfl⟩
          rw [← hg2] at HX ⊢
          clear hg2
          refine (appendPairs_any w _ u4 _ _ t0 ha hN hc ht hm (by omega) HX.out.2.2.1 (fun W hb => (HSL.out W hb).1)).mono ?_
          rintro r w5 ⟨v5, rfl, hX5, hA5⟩
          have H5 : Hid (ApX w w5 v5 (fun z => (inW V i z ∨ inJ v j z) ∨ inA ht t0 hN z) (8064 * i + 1008 * j + hN) ∧ Bx w5 g1 [.string key, .slice ha hN hc, .slice (some ⟨b', off', none⟩) wN wc] ∧ Bx w5 g2 [.int .i64 t0, .int .i64 m0] ∧ (∀ j, v5.ownBlock = some j → j ≠ g1 ∧ j ≠ g2)) := by
            refine ⟨hX5, HX.out.2.1.same (hA5.1 g1 HX.out.2.1.2 (fun e => (HX.out.2.2.2 g1 e).1 rfl)) hA5.2.2, HX.out.1.same (hA5.1 g2 HX.out.1.2 (fun e => (HX.out.2.2.2 g2 e).2 rfl)) hA5.2.2, fun j hj => ?_⟩
            rcases hA5.2.1 j hj with q | q
            · exact HX.out.2.2.2 j q
            · have h1 := HX.out.2.1.2; have h2 := HX.out.1.2; exact ⟨by omega, by omega⟩
          clear hX5 hA5 HX
          have hbd : Below w5.heap.size w5 w5.drew := (Below.refl _ _).drew
          have H6 : Hid (ApX w w5.drew v5 (fun z => (inW V i z ∨ inJ v j z) ∨ inA ht t0 hN z) (8064 * i + 1008 * j + hN) ∧ Bx w5.drew g1 [.string key, .slice ha hN hc, .slice (some ⟨b', off', none⟩) wN wc] ∧ Bx w5.drew g2 [.int .i64 t0, .int .i64 m0] ∧ (∀ j, v5.ownBlock = some j → j ≠ g1 ∧ j ≠ g2)) := ⟨H5.out.1.next hbd, H5.out.2.1.next hbd, H5.out.2.2.1.next hbd, H5.out.2.2.2⟩
          clear hbd H5
          have HSJ : Hid (∀ W, Below w.heap.size w W → Sl W (some ⟨b', off', none⟩) j 2 (hdF wt wm)) := fun W hb => ((HSL.out W hb).2.1).le (Nat.le_of_lt hlj)
          go_upto_region 11 with fail
          refine wp_region_noPanic ?_
          refine wp_region_held_drew (S := fun W => Bx W g1 [.string key, .slice ha hN hc, .slice (some ⟨b', off', none⟩) wN wc] ∧ Bx W g2 [.int .i64 t0, .int .i64 m0]) (by kernel_rfl) ⟨H6.out.2.1, H6.out.2.2.1⟩ (fun hHeld => ?_)
          refine take_v (v := ?_) 0 ⟨some 32, Op.move (Operand.tmp 4), _, _, _, none⟩ rfl (fun _ _ _ h => h) ?_ hHeld ?_
          rotate_left
          · (intro W _; go_simp <;> (try with_reducible rfl))
          refine take_v (v := ?_) 1 ⟨some 33, Op.fieldAddr 50 (Operand.tmp 8) 0, _, _, _, none⟩ rfl (fun _ _ _ h => h) ?_ hHeld ?_
          rotate_left
          · (intro W _; go_simp <;> (try with_reducible rfl))
          refine take_v (v := ?_) 2 ⟨some 34, Op.load 3 (Operand.tmp 33), _, _, _, none⟩ rfl (fun _ _ _ h => h) ?_ hHeld ?_
          rotate_left
          · (intro W hSW; (have s0 := hSW.1.cell 2 rfl; have s1 := hSW.2.cell 0 rfl; have s2 := hSW.1.2; have s3 := hSW.2.2); go_simp <;> (try with_reducible rfl))
          refine take_v (v := ?_) 3 ⟨some 35, Op.fieldAddr 48 (Operand.tmp 6) 2, _, _, _, none⟩ rfl (fun _ _ _ h => h) ?_ hHeld ?_
          rotate_left
          · (intro W _; go_simp <;> (try with_reducible rfl))
          refine take_v (v := ?_) 4 ⟨some 36, Op.load 46 (Operand.tmp 35), _, _, _, none⟩ rfl (fun _ _ _ h => h) ?_ hHeld ?_
          rotate_left
          · (intro W hSW; (have s0 := hSW.1.cell 2 rfl; have s1 := hSW.2.cell 0 rfl; have s2 := hSW.1.2; have s3 := hSW.2.2); go_simp <;> (try with_reducible rfl))
          refine take_v (v := ?_) 5 ⟨some 37, Op.move (Operand.tmp 7), _, _, _, none⟩ rfl (fun _ _ _ h => h) ?_ hHeld ?_
          rotate_left
          · (intro W _; go_simp <;> (try with_reducible rfl))
          refine take_v (v := ?_) 6 ⟨some 38, Op.slice 46 (Operand.tmp 36) none (some (Operand.tmp 37)) none, _, _, _, none⟩ rfl (fun _ _ _ h => h) ?_ hHeld ?_
          rotate_left
          · (intro W _; go_simp <;> (try with_reducible rfl))
          refine ready_call 7 ⟨some 39, Op.call { callee := Callee.value (Operand.func 45), args := #[Operand.tmp 32, Operand.tmp 34, Operand.tmp 38], argTypes := #[30, 3, 46] }, _, _, _, none⟩ (by kernel_rfl) rfl (by kernel_rfl) (fun KC hK => ?_)
          go_wp2_with fail
          refine (appendPairs_any w _ v5 _ _ t0 (some ⟨b', off', none⟩) j wc wt wm (by omega) H6.out.1 HSJ.out).mono ?_
          rintro r w7 ⟨v7, rfl, hX7, hA7⟩
          have H7 : Hid (ApX w w7 v7 (fun z => ((inW V i z ∨ inJ v j z) ∨ inA ht t0 hN z) ∨ inA wt t0 j z) (8064 * i + 1008 * j + hN + j) ∧ Bx w7 g1 [.string key, .slice ha hN hc, .slice (some ⟨b', off', none⟩) wN wc] ∧ Bx w7 g2 [.int .i64 t0, .int .i64 m0] ∧ (∀ j, v7.ownBlock = some j → j ≠ g1)) := ⟨hX7, H6.out.2.1.same (hA7.1 g1 H6.out.2.1.2 (fun e => (H6.out.2.2.2 g1 e).1 rfl)) hA7.2.2, H6.out.2.2.1.same (hA7.1 g2 H6.out.2.2.1.2 (fun e => (H6.out.2.2.2 g2 e).2 rfl)) hA7.2.2, fun j hj => (hA7.2.1 j hj).elim (fun q => (H6.out.2.2.2 j q).1) (fun q => by have h1 := H6.out.2.1.2; omega)⟩
          clear hX7 hA7
          refine hK.out _ _ ⟨H7.out.2.1, H7.out.2.2.1⟩ (fun hHeld => ?_)
          clear hK KC
          refine take_v (v := ?_) 8 ⟨some 4, Op.assign (Operand.tmp 39), _, _, _, none⟩ rfl (fun _ _ _ h => h) ?_ hHeld ?_
          rotate_left
          · (intro W _; go_simp <;> (try with_reducible rfl))
          refine wpAnyH_done (by kernel_rfl) ?_ _
          refine NoPanic.normal ?_
          clear hHeld
          have HF : Hid (ApX w w7 v7 (fun z => inW V i z ∨ inJ v (j + 1) z) (8064 * i + 1008 * (j + 1)) ∧ Bx w7 g1 [.string key, .slice ha hN hc, .slice (some ⟨b', off', none⟩) wN wc] ∧ ∀ j, v7.ownBlock = some j → j ≠ g1) := by
            refine ⟨H7.out.1.congr (fun z => ?_) (by omega), H7.out.2.1, H7.out.2.2.2⟩
            have e1 : inH v j v.h.n z ↔ inA ht t0 hN z := by unfold inH inA; rw [HTJ.out.1, HTJ.out.2.1, HTJ.out.2.2.1]
            have e2 : inQ v j j z ↔ inA wt t0 j z := by
              unfold inQ inA
              rw [HTJ.out.1, HTJ.out.2.2.2]
              constructor
              · rintro ⟨h, p, hp, q⟩; exact ⟨h, p, hp, q, HDJ.out p hp⟩
              · rintro ⟨h, p, hp, q, _⟩; exact ⟨h, p, hp, q⟩
            rw [inJ_succ, e1, e2]
            simp only [or_assoc]
          clear H6 H7
          go_wp2
          go_roundw
          case rel => exact ⟨j + 1, by omega, by go_num, HF.out⟩
          case measure => simp [intOf]; omega
        · have hlj' : ¬ (j : Int) < (wN : Int) := by omega
          have HWE : Hid (ApX w wq u4 (inW V (i + 1)) (8064 * (i + 1))) := HW.out.1.congr (fun z => by rw [inW_succ, HV.out.2, HV.out.1, show wN = j by omega]) (by omega)
          clear HW
          go_wp2
          go_roundw
          case rel => exact ⟨i + 1, by omega, by go_num, HWE.out⟩
          case measure => simp [intOf]; omega
    · have hin : i = n := by omega
      have hlt' : ¬ (i : Int) < (n : Int) := by omega
      obtain ⟨R, r1, r2, r3, r4⟩ := HW.out
      have HR : Hid (wo.ownsRow w.heap.size 35 2 u4 R.length (cellsP R) ∧ (∀ z, z ∈ R ↔ inW V n z) ∧ Below w.heap.size w wo) := ⟨r1, by rw [← hin]; exact r2, r4⟩
      have hRl : R.length ≤ 1048576 := by omega
      clear r1 r2 r3 r4 HW hin
      rcases Go.Joins.ownsRow_forms HR.out.1 with hf | ⟨g, cap5, rfl⟩
      · obtain ⟨rfl, h0⟩ := hf
        have hRn : R = [] := List.length_eq_zero_iff.1 h0
        subst hRn
        clear h0
        have HP : Hid (WaitPost V n w (.returned (.tuple #[.slice none 0 0, .bool true])) wo) := ⟨[], List.Pairwise.nil, fun z => by rw [HR.out.2.1 z, HG.out]; simp, by simp, by rw [HG.out]; exact ⟨⟨none, 0, rfl, Or.inl rfl, Nat.le_refl _⟩, HR.out.2.2⟩⟩
        clear HR
        go_wp2_with (first
          | (go_at_call 46; refine (Try.sortPairs_none none 0 _ _).mono ?_; rintro e w' ⟨rfl, hw⟩; have hw := hw.symm; subst hw)
          | (go_at_call 48; refine (compact_none none 0 _).mono ?_; rintro e w' ⟨rfl, hw⟩; have hw := hw.symm; subst hw))
        go_ret2
        exact HP.out
      · have hgl := HR.out.1.lt g rfl
        have hcc : R.length ≤ cap5 ∧ cap5 ≤ maxLen := by
          rcases HR.out.1.2 with ⟨e, hn⟩ | ⟨g', c, cur, e, _, _, q1, q2, _⟩
          · cases e
          · simp only [Value.slice.injEq, true_and] at e
            obtain ⟨_, rfl⟩ := e
            exact ⟨q1, q2⟩
        unfold maxLen at hcc
        go_wp2_with fail
        refine (sort_row hRl hgl.2 HR.out.1).mono ?_
        rintro r w6 ⟨rfl, d, hrow, hso, hmem, htr⟩
        have H6 : Hid (RowP w6 g R.length d ∧ (∀ i j, i < j → j < R.length → ¬ PLt (d j) (d i)) ∧ (∀ z, (∃ j, j < R.length ∧ d j = z) ↔ z ∈ R) ∧ Below w.heap.size w w6) := ⟨hrow, hso, hmem, below_trn HR.out.2.2 htr hgl.1⟩
        clear hrow hso hmem htr
        go_wp2_with fail
        refine (compact_any g R.length cap5 d w6 hRl hcc.1 (by omega) H6.out.1).mono ?_
        rintro r w7 hcp
        obtain ⟨R', hR', rfl, hp, ht7⟩ := hcp.row hgl.1
        have HP : Hid (WaitPost V n w (.returned (.tuple #[.slice (some ⟨g, 0, none⟩) R'.length cap5, .bool true])) w7) := by
          refine ⟨R', by rw [hR']; exact ddN_sort H6.out.2.1, fun z => ?_, by rw [hR']; have := ddN_len d R.length; omega, by rw [HG.out]; exact ⟨⟨_, _, rfl, hp⟩, below_trn H6.out.2.2.2 ht7 hgl.1⟩⟩
          rw [hR', ddN_mem, H6.out.2.2.1 z, HR.out.2.1 z, HG.out]; simp
        clear hcp hR' hp ht7 H6 HR
        generalize R'.length = l' at *
        go_wp2
        go_ret2
        exact HP.out
end Go.Proofs.Ytnapgnkhajkbkaa
