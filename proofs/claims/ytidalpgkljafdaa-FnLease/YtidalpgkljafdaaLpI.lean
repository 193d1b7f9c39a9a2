/- Leases: the program's PlayLeases. Written by tools/mkLpI.py. -/
import Derived.Test.YtidalpgkljafdaaLpG
import Derived.Test.YtidalpgkljafdaaLeU
namespace Go.Proofs.Ytidalpgkljafdaa
open Go.RowKit
set_option linter.unusedVariables false
set_option linter.unusedSimpArgs false

/-- Between the steps of a play of leases. -/
def LqS (w : World) (b : Nat) (wr : World) (y : Sh.T shLeases) (v : Value) (D : List (Sh.T .int)) : Prop := ∃ (p3 : Option Addr) (q3 : Nat) (p4 : Option Addr) (q4 m : Nat), PyS shLeases .int 3 [.int .i64 0, .int .i64 0, .slice none 0 0, .int .i64 0, .int .i64 0, .slice none 0 0] w b wr [.int .i64 y.1, .int .i64 y.2.1, .slice p3 m q3, .int .i64 y.2.2.2.1, .int .i64 y.2.2.2.2.1, .slice p4 m q4] y v D
theorem own_cells {W : World} {cs : List Value} {sk nw : Int} {cl : List (Sh.T .int)} {ho un : Int} {kn : List (Sh.T .int)} {S : Nat → Prop} (h : Own W shLeases cs (sk, nw, cl, ho, un, kn, ()) S) (hl : kn.length = cl.length) : ∃ (p3 : Option Addr) (q3 : Nat) (p4 : Option Addr) (q4 m : Nat), cs = [.int .i64 sk, .int .i64 nw, .slice p3 m q3, .int .i64 ho, .int .i64 un, .slice p4 m q4] := by
  obtain ⟨a1, k1, _, a2, k2, _, e, _⟩ := own_Leases h
  exact ⟨a1, k1, a2, k2, cl.length, by rw [e, hl]⟩
theorem lies_lel {W : World} {sk nw : Int} {cl : List (Sh.T .int)} {ho un : Int} {kn : List (Sh.T .int)} {p3 : Option Addr} {q3 : Nat} {p4 : Option Addr} {q4 m : Nat} (h : Lies W shLeases [.int .i64 sk, .int .i64 nw, .slice p3 m q3, .int .i64 ho, .int .i64 un, .slice p4 m q4] (sk, nw, cl, ho, un, kn, ())) : LeL W p3 m q3 p4 m q4 cl kn := by
  obtain ⟨a1, k1, a2, k2, e, h1, h2⟩ := lies_Leases h
  simp only [List.cons.injEq, Value.slice.injEq, and_true, true_and] at e
  obtain ⟨⟨rfl, e1, rfl⟩, rfl, e2, rfl⟩ := e
  exact ⟨h1, h2, e1, e2⟩
theorem stepLease_g (cs : List Value) (sk nw : Int) (cl : List (Sh.T .int)) (ho un : Int) (kn : List (Sh.T .int)) (a b n : Int) (w : World) (E : Option (Sh.T shLeases)) (hE : leB sk nw cl ho un kn a b n = E) (hg : goodL sk nw cl ho un kn) (h : Lies w shLeases cs (sk, nw, cl, ho, un, kn, ())) :
    Calls Try.prog 16 #[.agg cs.toArray, .agg #[.int .i64 a, .int .i64 b, .int .i64 n]] w (LsP E w) := by
  have := stepLease_n cs sk nw cl ho un kn a b n w (Nat.le_trans (good_szL (y := (sk, nw, cl, ho, un, kn, ())) hg) (by decide)) h
  rw [leS_yes hg, hE] at this
  exact this

set_option maxRecDepth 100000 in
set_option maxHeartbeats 8000000 in
theorem playLeases_n (mm sk0 : Int) (a2 : Option Addr) (c2 : Nat) (l : List (Sh.T shLeaseStep)) (w : World) (hn : l.length ≤ 1073741824) (h2 : Lies w (.list shLeaseStep) [.slice a2 l.length c2] l) :
    Calls Try.prog 11 #[.int .i64 mm, .int .i64 sk0, .slice a2 l.length c2] w (LpR mm sk0 l w) := by
  have HL := Hid.intro h2
  clear h2
  obtain ⟨i0, hi0, hz0, hz1, hz2⟩ := info_parts inf_int
  obtain ⟨w0, hw0⟩ : ∃ x, x = w.alloc (.cells #[.int .i64 0, .int .i64 0, .slice none 0 0, .int .i64 0, .int .i64 0, .slice none 0 0] 28) := ⟨_, rfl⟩
  have HB0 : Hid (Bx w0 w.heap.size [.int .i64 0, .int .i64 0, .slice none 0 0, .int .i64 0, .int .i64 0, .slice none 0 0] ∧ Below w.heap.size w w0 ∧ w0.heap.size = w.heap.size + 1) := ⟨hw0 ▸ Bx.new w [_, _, _, _, _, _] _, hw0 ▸ Go.Joins.below_alloc1 _ _, by rw [hw0]; simp⟩
  go_enter Try.func11, Try.ntmps11
  go_wp2_with fail
  rw [← hw0]
  clear hw0
  refine (newLeases_n mm sk0 _).mono ?_
  by_cases c0 : (1 ≤ mm ∧ mm ≤ 12) ∧ (0 ≤ sk0 ∧ sk0 ≤ 1000)
  case neg =>
    rw [nwL_no c0]
    rintro r w1 ⟨cs, rfl, ho, hb⟩
    have ho : Own w1 shLeases cs (0, 0, [], 0, 0, [], ()) _ := ho
    obtain ⟨p1, q1, _, p2, q2, _, hev, _⟩ := own_Leases ho
    subst hev
    have HB1 : Hid (Bx w1 w.heap.size [.int .i64 0, .int .i64 0, .slice none 0 0, .int .i64 0, .int .i64 0, .slice none 0 0] ∧ Below w.heap.size w w1) := ⟨HB0.out.1.next hb, below_next HB0.out.2.1 hb⟩
    have HN : Hid (¬ lpOk mm sk0 l) := Hid.intro (fun q => c0 q.1)
    clear ho hb HB0 c0
    have r0 := HB1.out.1.cell 0 rfl
    have r1 := HB1.out.1.cell 1 rfl
    have r2 := HB1.out.1.cell 2 rfl
    have r3 := HB1.out.1.cell 3 rfl
    have r4 := HB1.out.1.cell 4 rfl
    have r5 := HB1.out.1.cell 5 rfl
    have rz := HB1.out.1.2
    have rf0 := HB1.out.1.frz 0 (by simp)
    have rf1 := HB1.out.1.frz 1 (by simp)
    have rf2 := HB1.out.1.frz 2 (by simp)
    have rf3 := HB1.out.1.frz 3 (by simp)
    have rf4 := HB1.out.1.frz 4 (by simp)
    have rf5 := HB1.out.1.frz 5 (by simp)
    simp only [Option.isSome_none]
    go_wp2_with fail
    refine bodyPost_ret (v := .tuple #[.agg #[.int .i64 0, .int .i64 0, .slice none 0 0, .int .i64 0, .int .i64 0, .slice none 0 0], .slice none 0 0, .bool false]) (by simp [results, Try.results11, go_sem, *]) rfl (LpR.no HN.out ?_)
    exact (HB1.out.2.trans ((set6 w1 w.heap.size _ _ _ _ _ _).below (fun k e => by have e : k = w.heap.size := e; omega) HB1.out.2.size)).alloc (by have := HB1.out.2.size; simp; omega) _
  have HG0 : Hid (goodX (lp0 mm sk0)) := Hid.intro (good_lp0 c0)
  rw [nwL_yes c0]
  rintro r w1 ⟨cs, rfl, ho, hb⟩
  obtain ⟨S0, hS0⟩ : ∃ S, lp0 mm sk0 = S := ⟨_, rfl⟩
  have ho : Own w1 shLeases cs S0 (Btw w0.heap.size w1.heap.size) := hS0 ▸ ho
  rw [hS0] at HG0
  obtain ⟨sk, nw, cl, ho', un, kn, ⟨⟩⟩ := S0
  have HGG : Hid (goodL sk nw cl ho' un kn) := HG0
  obtain ⟨p3, q3, p4, q4, m, hcs⟩ := own_cells ho (cl_ne HGG.out).2.2
  subst hcs
  have HB1 : Hid (Bx w1 w.heap.size [.int .i64 0, .int .i64 0, .slice none 0 0, .int .i64 0, .int .i64 0, .slice none 0 0] ∧ Below w.heap.size w w1) := ⟨HB0.out.1.next hb, below_next HB0.out.2.1 hb⟩
  have HO : Hid (Own w1 shLeases [.int .i64 sk, .int .i64 nw, .slice p3 m q3, .int .i64 ho', .int .i64 un, .slice p4 m q4] (sk, nw, cl, ho', un, kn, ()) (Btw w0.heap.size w1.heap.size) ∧ w0.heap.size = w.heap.size + 1) := ⟨ho, HB0.out.2.2⟩
  clear ho hb HB0
  have r0 := HB1.out.1.cell 0 rfl
  have r1 := HB1.out.1.cell 1 rfl
  have r2 := HB1.out.1.cell 2 rfl
  have r3 := HB1.out.1.cell 3 rfl
  have r4 := HB1.out.1.cell 4 rfl
  have r5 := HB1.out.1.cell 5 rfl
  have rz := HB1.out.1.2
  have rf0 := HB1.out.1.frz 0 (by simp)
  have rf1 := HB1.out.1.frz 1 (by simp)
  have rf2 := HB1.out.1.frz 2 (by simp)
  have rf3 := HB1.out.1.frz 3 (by simp)
  have rf4 := HB1.out.1.frz 4 (by simp)
  have rf5 := HB1.out.1.frz 5 (by simp)
  simp only [Option.isSome_some]
  by_cases c1 : l.length ≤ 100
  case neg =>
    have HN : Hid (¬ lpOk mm sk0 l) := Hid.intro (fun q => c1 q.2)
    have c1' : (100 : Int) < (l.length : Int) := by omega
    clear c0 c1
    go_wp2_with fail
    refine bodyPost_ret (v := .tuple #[.agg #[.int .i64 0, .int .i64 0, .slice none 0 0, .int .i64 0, .int .i64 0, .slice none 0 0], .slice none 0 0, .bool false]) (by simp [results, Try.results11, go_sem, *]) rfl (LpR.no HN.out ?_)
    exact (HB1.out.2.trans ((set6 w1 w.heap.size _ _ _ _ _ _).below (fun k e => by have e : k = w.heap.size := e; omega) HB1.out.2.size)).alloc (by have := HB1.out.2.size; simp; omega) _
  have c1' : (l.length : Int) ≤ 100 := by omega
  have HY : Hid (lpA mm sk0 l = lpF (sk, nw, cl, ho', un, kn, ()) l ∧ tf (lpOk mm sk0 l) = true) := Hid.intro (by rw [← hS0]; exact lp_yes ⟨c0, c1⟩)
  clear c0 hS0
  obtain ⟨w2, hw2⟩ : ∃ x, x = w1.alloc (.cells #[.int .i64 sk, .int .i64 nw, .slice p3 m q3, .int .i64 ho', .int .i64 un, .slice p4 m q4] 28) := ⟨_, rfl⟩
  have HI0 : Hid (PyS shLeases .int 3 [.int .i64 0, .int .i64 0, .slice none 0 0, .int .i64 0, .int .i64 0, .slice none 0 0] w w1.heap.size w2 [.int .i64 sk, .int .i64 nw, .slice p3 m q3, .int .i64 ho', .int .i64 un, .slice p4 m q4] (sk, nw, cl, ho', un, kn, ()) (.slice none 0 0) []) := Hid.intro (hw2 ▸ PyS.start0 (cs := [.int .i64 sk, .int .i64 nw, .slice p3 m q3, .int .i64 ho', .int .i64 un, .slice p4 m q4]) HB1.out.1 HO.out.1 (fun k hk => by have := HO.out.2; simp only [Btw] at hk; omega) HB1.out.2)
  go_wp2_with (at_make; rw [← hw2]; refine wpList_plain rfl fun K9 hK9 => ?_; refine wp_make_int (.tmp 31) (.tmp 31) 26 3 rfl i0 Try.underlying26 hi0 hz0 hz1 l.length rfl rfl (by rw [hz2]; omega) (by unfold maxLen; omega) ?_; intro w3 hA3; refine hK9 _ _ ?_; obtain ⟨g, hgE⟩ : ∃ y, y = w2.heap.size := ⟨_, rfl⟩; rw [← hgE] at hA3 ⊢; have HI : Hid (LqS w w1.heap.size w3 (sk, nw, cl, ho', un, kn, ()) (.slice (some ⟨g, 0, none⟩) l.length l.length) ([] ++ List.replicate (l.length - 0) 0)) := Hid.intro ⟨_, _, _, _, _, HI0.out.list hA3⟩; clear hA3 hgE hw2)
  obtain ⟨b, hbE⟩ : ∃ b, b = w1.heap.size := ⟨_, rfl⟩
  rw [← hbE] at HI ⊢
  clear hbE HI0 HO HB1 r0 rf0 r1 rf1 r2 rf2 r3 rf3 r4 rf4 r5 rf5 rz
  obtain ⟨S0, hS0⟩ : ∃ S : Sh.T shLeases, S = (sk, nw, cl, ho', un, kn, ()) := ⟨_, rfl⟩
  rw [← hS0] at HI HY HG0
  clear hS0 HGG
  go_loopw [35] (fun i wr => ∃ (k : Nat), k ≤ l.length ∧ i = .int .i64 k ∧ LqS w b wr (lpF S0 (l.take k)).1 (.slice (some ⟨g, 0, none⟩) l.length l.length) ((lpF S0 (l.take k)).2 ++ List.replicate (l.length - k) 0)) (fun i _ => l.length - (intOf i).toNat)
  case atStart => exact ⟨0, Nat.zero_le _, rfl, HI.out⟩
  case round =>
    obtain ⟨k, hk, rfl, hC⟩ := hrel
    clear HI
    have HG : Hid (goodX (lpF S0 (l.take k)).1) := Hid.intro (lp_good HG0.out hk)
    have HDL : Hid ((lpF S0 (l.take k)).2.length = k) := Hid.intro (lp_len hk)
    by_cases hlt : k < l.length
    · have hlt' : (k : Int) < (l.length : Int) := by omega
      have HLE : Hid (Lies wr (.list shLeaseStep) [.slice a2 l.length c2] l) := Hid.intro (by obtain ⟨_, _, _, _, _, q⟩ := hC; exact HL.out.next q.2.2.2.1)
      obtain ⟨xg, xoff, xgo, xgs, xec, xel, xhec, xle⟩ := Lies.elem (HLE.out) hlt
      subst xgo
      rcases xX : l[k] with ⟨x0, x1, x2, ⟨⟩⟩
      rw [xX] at xle
      have xH : Hid (l[k] = (x0, x1, x2, ())) := xX
      clear xX
      obtain xev := lies_LeaseStep xle
      subst xev
      have xc0 : wr.cell? ⟨xg, xoff + k * 3, none⟩ = some (.int .i64 x0) := xhec 0 (by simp)
      have xc1 : wr.cell? ⟨xg, xoff + k * 3 + 1, none⟩ = some (.int .i64 x1) := xhec 1 (by simp)
      have xc2 : wr.cell? ⟨xg, xoff + k * 3 + 2, none⟩ = some (.int .i64 x2) := xhec 2 (by simp)
      clear xhec xel xle
      have HPD := Hid.intro (lp_take (s := S0) hlt)
      rw [xH.out] at HPD
      clear HLE
      generalize lpF S0 (l.take k) = F at hC HG HDL HPD
      obtain ⟨⟨sk, nw, cl, ho, un, kn, ⟨⟩⟩, D⟩ := F
      obtain ⟨p3, q3, p4, q4, m, hC⟩ := hC
      have HC : Hid (PyS shLeases .int 3 [.int .i64 0, .int .i64 0, .slice none 0 0, .int .i64 0, .int .i64 0, .slice none 0 0] w b wr [.int .i64 sk, .int .i64 nw, .slice p3 m q3, .int .i64 ho, .int .i64 un, .slice p4 m q4] (sk, nw, cl, ho, un, kn, ()) (.slice (some ⟨g, 0, none⟩) l.length l.length) (D ++ List.replicate (l.length - k) 0)) := hC
      have HG : Hid (goodL sk nw cl ho un kn) := HG
      have HDL : Hid (D.length = k) := HDL
      obtain ⟨E, hE⟩ : ∃ E, leB sk nw cl ho un kn x0 x1 x2 = E := ⟨_, rfl⟩
      have HEE : Hid (leB sk nw cl ho un kn x0 x1 x2 = E) := hE
      have HPD : Hid (lpF S0 (l.take (k + 1)) = (E.getD (sk, nw, cl, ho, un, kn, ()), D ++ [blN (E.getD (sk, nw, cl, ho, un, kn, ()))])) := Hid.intro (by rw [HPD.out]; unfold lpT; rw [show leX (sk, nw, cl, ho, un, kn, ()) (x0, x1, x2, ()) = E from hE])
      have s0 := hC.2.1.cell 0 rfl
      have s1 := hC.2.1.cell 1 rfl
      have s2 := hC.2.1.cell 2 rfl
      have s3 := hC.2.1.cell 3 rfl
      have s4 := hC.2.1.cell 4 rfl
      have s5 := hC.2.1.cell 5 rfl
      have sz := hC.2.1.2
      clear hC hE
      obtain ⟨W1, hW1⟩ : ∃ x, x = wr.alloc (.cells #[.int .i64 x0, .int .i64 x1, .int .i64 x2] 34) := ⟨_, rfl⟩
      have HW1 : Hid (Below wr.heap.size wr W1) := hW1 ▸ Go.Joins.below_alloc1 _ _
      go_wp2_with fail
      rw [← hW1]
      clear hW1 xc0 xc1 xc2
      cases E with
      | none =>
        refine (stepLease_g [.int .i64 sk, .int .i64 nw, .slice p3 m q3, .int .i64 ho, .int .i64 un, .slice p4 m q4] sk nw cl ho un kn x0 x1 x2 _ none HEE.out HG.out (HC.out.lies.next HW1.out)).mono ?_
        rintro r W2 ⟨cs2, rfl, ho9, hb⟩
        have ho9 : Own W2 shLeases cs2 (0, 0, [], 0, 0, [], ()) _ := ho9
        obtain ⟨p5, q5, _, p6, q6, _, hev, _⟩ := own_Leases ho9
        subst hev
        have HC2 := Hid.intro (HC.out.next (below_next HW1.out hb))
        have HPD : Hid (lpF S0 (l.take (k + 1)) = ((sk, nw, cl, ho, un, kn, ()), D ++ [blN (sk, nw, cl, ho, un, kn, ())])) := HPD
        have HGY : Hid (goodL sk nw cl ho un kn) := HG
        clear ho9 hb s0 s1 s2 s3 s4 s5 sz
        have s0 := HC2.out.2.1.cell 0 rfl
        have s1 := HC2.out.2.1.cell 1 rfl
        have s2 := HC2.out.2.1.cell 2 rfl
        have s3 := HC2.out.2.1.cell 3 rfl
        have s4 := HC2.out.2.1.cell 4 rfl
        have s5 := HC2.out.2.1.cell 5 rfl
        have sz := HC2.out.2.1.2
        simp only [Option.isSome_none]
        obtain ⟨Y, hY⟩ : ∃ x, x = W2.alloc (.cells #[.int .i64 0, .int .i64 0, .slice p5 (List.length (α := Sh.T .int) []) q5, .int .i64 0, .int .i64 0, .slice p6 (List.length (α := Sh.T .int) []) q6] 28) := ⟨_, rfl⟩
        have HQ := Hid.intro (hY ▸ HC2.out.next (Go.Joins.below_alloc1 _ _) : PyS shLeases .int 3 [.int .i64 0, .int .i64 0, .slice none 0 0, .int .i64 0, .int .i64 0, .slice none 0 0] w b Y [.int .i64 sk, .int .i64 nw, .slice p3 m q3, .int .i64 ho, .int .i64 un, .slice p4 m q4] (sk, nw, cl, ho, un, kn, ()) (.slice (some ⟨g, 0, none⟩) l.length l.length) (D ++ List.replicate (l.length - k) 0))
        go_wp2_with fail
        try simp only [List.length_nil] at hY
        rw [← hY]
        clear hY s0 s1 s2 s3 s4 s5 sz HC2
        skip
        refine (believersIn_n sk nw p3 q3 ho un p4 m q4 cl kn Y HGY.out (lies_lel HQ.out.lies)).mono ?_
        rintro r W3 ⟨a9, c9, rfl, _, hb⟩
        have HQ3 := Hid.intro (HQ.out.next hb)
        obtain ⟨N9, hN9⟩ : ∃ x, x = blv sk cl kn cl.length := ⟨_, rfl⟩
        rw [← hN9]
        have hN12 : N9.length ≤ 12 := by rw [hN9]; have h1 := blv_len sk cl kn cl.length; have h2 := HGY.out.2.2.2.1; omega
        have HPD2 : Hid (lpF S0 (l.take (k + 1)) = ((sk, nw, cl, ho, un, kn, ()), D ++ [(N9.length : Int)])) := Hid.intro (by rw [HPD.out, hN9]; rfl)
        clear hb hN9
        have hDD := HQ3.out.did (k := k) (by rw [List.length_append, List.length_replicate, HDL.out]; omega) hlt (N9.length : Int)
        obtain ⟨⟨x9, hx9⟩, hf9, hg9, hgb, hPP⟩ := hDD
        have HPP := Hid.intro hPP
        clear hPP
        go_wp2_with fail
        go_roundw
        case rel => exact ⟨k + 1, by omega, by go_num, by rw [HPD2.out]; exact ⟨_, _, _, _, _, by rw [← lp_set HDL.out hlt]; exact HPP.out⟩⟩
        case measure => simp [intOf]; omega
      | some y =>
        refine (stepLease_g [.int .i64 sk, .int .i64 nw, .slice p3 m q3, .int .i64 ho, .int .i64 un, .slice p4 m q4] sk nw cl ho un kn x0 x1 x2 _ (some y) HEE.out HG.out (HC.out.lies.next HW1.out)).mono ?_
        obtain ⟨sk2, nw2, cl2, ho2, un2, kn2, ⟨⟩⟩ := y
        have HGY : Hid (goodL sk2 nw2 cl2 ho2 un2 kn2) := Hid.intro (leB_good (y := (sk2, nw2, cl2, ho2, un2, kn2, ())) HG.out HEE.out)
        rintro r W2 ⟨cs2, rfl, ho9, hb⟩
        have ho9 : Own W2 shLeases cs2 (sk2, nw2, cl2, ho2, un2, kn2, ()) _ := ho9
        obtain ⟨p5, q5, p6, q6, m2, hev⟩ := own_cells ho9 (cl_ne HGY.out).2.2
        subst hev
        have hb2 := below_next HW1.out hb
        have HC2 := Hid.intro (HC.out.next hb2)
        have HP2 : Hid (PyS shLeases .int 3 [.int .i64 0, .int .i64 0, .slice none 0 0, .int .i64 0, .int .i64 0, .slice none 0 0] w b ((((((W2.setCell ⟨b, 0, none⟩ (.int .i64 sk2)).setCell ⟨b, 1, none⟩ (.int .i64 nw2)).setCell ⟨b, 2, none⟩ (.slice p5 m2 q5)).setCell ⟨b, 3, none⟩ (.int .i64 ho2)).setCell ⟨b, 4, none⟩ (.int .i64 un2)).setCell ⟨b, 5, none⟩ (.slice p6 m2 q6)) [.int .i64 sk2, .int .i64 nw2, .slice p5 m2 q5, .int .i64 ho2, .int .i64 un2, .slice p6 m2 q6] (sk2, nw2, cl2, ho2, un2, kn2, ()) (.slice (some ⟨g, 0, none⟩) l.length l.length) (D ++ List.replicate (l.length - k) 0)) := Hid.intro (HC.out.put hb2 ho9 (fun k hk => ⟨Nat.le_trans HW1.out.size hk.1, hk.2⟩) (set6 W2 b _ _ _ _ _ _) (HC2.out.2.1.set6 _ _ _ _ _ _))
        have HPD : Hid (lpF S0 (l.take (k + 1)) = ((sk2, nw2, cl2, ho2, un2, kn2, ()), D ++ [blN (sk2, nw2, cl2, ho2, un2, kn2, ())])) := HPD
        clear ho9 hb hb2 s0 s1 s2 s3 s4 s5 sz
        have s0 := HC2.out.2.1.cell 0 rfl
        have s1 := HC2.out.2.1.cell 1 rfl
        have s2 := HC2.out.2.1.cell 2 rfl
        have s3 := HC2.out.2.1.cell 3 rfl
        have s4 := HC2.out.2.1.cell 4 rfl
        have s5 := HC2.out.2.1.cell 5 rfl
        have sz := HC2.out.2.1.2
        have sf0 := HC2.out.2.1.frz 0 (by simp)
        have sf1 := HC2.out.2.1.frz 1 (by simp)
        have sf2 := HC2.out.2.1.frz 2 (by simp)
        have sf3 := HC2.out.2.1.frz 3 (by simp)
        have sf4 := HC2.out.2.1.frz 4 (by simp)
        have sf5 := HC2.out.2.1.frz 5 (by simp)
        simp only [Option.isSome_some]
        obtain ⟨Y, hY⟩ : ∃ x, x = ((((((W2.setCell ⟨b, 0, none⟩ (.int .i64 sk2)).setCell ⟨b, 1, none⟩ (.int .i64 nw2)).setCell ⟨b, 2, none⟩ (.slice p5 m2 q5)).setCell ⟨b, 3, none⟩ (.int .i64 ho2)).setCell ⟨b, 4, none⟩ (.int .i64 un2)).setCell ⟨b, 5, none⟩ (.slice p6 m2 q6)).alloc (.cells #[.int .i64 sk2, .int .i64 nw2, .slice p5 m2 q5, .int .i64 ho2, .int .i64 un2, .slice p6 m2 q6] 28) := ⟨_, rfl⟩
        have HQ := Hid.intro (hY ▸ HP2.out.next (Go.Joins.below_alloc1 _ _) : PyS shLeases .int 3 [.int .i64 0, .int .i64 0, .slice none 0 0, .int .i64 0, .int .i64 0, .slice none 0 0] w b Y [.int .i64 sk2, .int .i64 nw2, .slice p5 m2 q5, .int .i64 ho2, .int .i64 un2, .slice p6 m2 q6] (sk2, nw2, cl2, ho2, un2, kn2, ()) (.slice (some ⟨g, 0, none⟩) l.length l.length) (D ++ List.replicate (l.length - k) 0))
        go_wp2_with fail
        rw [← hY]
        clear hY s0 s1 s2 s3 s4 s5 sz sf0 sf1 sf2 sf3 sf4 sf5 HC2 HP2
        skip
        refine (believersIn_n sk2 nw2 p5 q5 ho2 un2 p6 m2 q6 cl2 kn2 Y HGY.out (lies_lel HQ.out.lies)).mono ?_
        rintro r W3 ⟨a9, c9, rfl, _, hb⟩
        have HQ3 := Hid.intro (HQ.out.next hb)
        obtain ⟨N9, hN9⟩ : ∃ x, x = blv sk2 cl2 kn2 cl2.length := ⟨_, rfl⟩
        rw [← hN9]
        have hN12 : N9.length ≤ 12 := by rw [hN9]; have h1 := blv_len sk2 cl2 kn2 cl2.length; have h2 := HGY.out.2.2.2.1; omega
        have HPD2 : Hid (lpF S0 (l.take (k + 1)) = ((sk2, nw2, cl2, ho2, un2, kn2, ()), D ++ [(N9.length : Int)])) := Hid.intro (by rw [HPD.out, hN9]; rfl)
        clear hb hN9
        have hDD := HQ3.out.did (k := k) (by rw [List.length_append, List.length_replicate, HDL.out]; omega) hlt (N9.length : Int)
        obtain ⟨⟨x9, hx9⟩, hf9, hg9, hgb, hPP⟩ := hDD
        have HPP := Hid.intro hPP
        clear hPP
        go_wp2_with fail
        go_roundw
        case rel => exact ⟨k + 1, by omega, by go_num, by rw [HPD2.out]; exact ⟨_, _, _, _, _, by rw [← lp_set HDL.out hlt]; exact HPP.out⟩⟩
        case measure => simp [intOf]; omega
    · have hkn : k = l.length := by omega
      have hC2 : LqS w b wr (lpF S0 l).1 (.slice (some ⟨g, 0, none⟩) l.length l.length) (lpF S0 l).2 := by
        have := hC
        rw [hkn, List.take_length, Nat.sub_self, List.replicate_zero, List.append_nil] at this
        exact this
      clear hC HG HDL hkn
      generalize lpF S0 l = F at hC2 HY
      obtain ⟨⟨sk, nw, cl, ho, un, kn, ⟨⟩⟩, D⟩ := F
      obtain ⟨p3, q3, p4, q4, m, hC2⟩ := hC2
      have HC : Hid (PyS shLeases .int 3 [.int .i64 0, .int .i64 0, .slice none 0 0, .int .i64 0, .int .i64 0, .slice none 0 0] w b wr [.int .i64 sk, .int .i64 nw, .slice p3 m q3, .int .i64 ho, .int .i64 un, .slice p4 m q4] (sk, nw, cl, ho, un, kn, ()) (.slice (some ⟨g, 0, none⟩) l.length l.length) D) := hC2
      clear hC2
      have s0 := HC.out.2.1.cell 0 rfl
      have s1 := HC.out.2.1.cell 1 rfl
      have s2 := HC.out.2.1.cell 2 rfl
      have s3 := HC.out.2.1.cell 3 rfl
      have s4 := HC.out.2.1.cell 4 rfl
      have s5 := HC.out.2.1.cell 5 rfl
      have sz := HC.out.2.1.2
      have r0 := HC.out.1.cell 0 rfl
      have r1 := HC.out.1.cell 1 rfl
      have r2 := HC.out.1.cell 2 rfl
      have r3 := HC.out.1.cell 3 rfl
      have r4 := HC.out.1.cell 4 rfl
      have r5 := HC.out.1.cell 5 rfl
      have rz := HC.out.1.2
      have rf0 := HC.out.1.frz 0 (by simp)
      have rf1 := HC.out.1.frz 1 (by simp)
      have rf2 := HC.out.1.frz 2 (by simp)
      have rf3 := HC.out.1.frz 3 (by simp)
      have rf4 := HC.out.1.frz 4 (by simp)
      have rf5 := HC.out.1.frz 5 (by simp)
      have HP : Hid (LpR mm sk0 l w (.returned (.tuple #[.agg #[.int .i64 sk, .int .i64 nw, .slice p3 m q3, .int .i64 ho, .int .i64 un, .slice p4 m q4], .slice (some ⟨g, 0, none⟩) l.length l.length, .bool true])) ((((((wr.setCell ⟨w.heap.size, 0, none⟩ (.int .i64 sk)).setCell ⟨w.heap.size, 1, none⟩ (.int .i64 nw)).setCell ⟨w.heap.size, 2, none⟩ (.slice p3 m q3)).setCell ⟨w.heap.size, 3, none⟩ (.int .i64 ho)).setCell ⟨w.heap.size, 4, none⟩ (.int .i64 un)).setCell ⟨w.heap.size, 5, none⟩ (.slice p4 m q4))) := Hid.intro (by
        unfold LpR; rw [HY.out.1, HY.out.2]; exact HC.out.done (set6 wr w.heap.size _ _ _ _ _ _))
      go_wp2_with fail
      exact bodyPost_ret (v := .tuple #[.agg #[.int .i64 sk, .int .i64 nw, .slice p3 m q3, .int .i64 ho, .int .i64 un, .slice p4 m q4], .slice (some ⟨g, 0, none⟩) l.length l.length, .bool true]) (by simp [results, Try.results11, go_sem, *]) rfl HP.out
end Go.Proofs.Ytidalpgkljafdaa
