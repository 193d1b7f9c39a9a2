/- Put together of: PsI, PsS, PsL. -/
import Derived.Test.YtmhkfangfhanlaaMgE
/- Synods: the program's PlaySynod. -/
namespace Go.Proofs.Ytmhkfangfhanlaa
open Go.RowKit
set_option linter.unusedVariables false
set_option linter.unusedSimpArgs false

theorem stepSynod_g (cs : List Value) (A : List (Sh.T shAcceptor)) (P : List (Sh.T shProposer)) (acc : Bool) (bal node : Int) (w : World) (E : Option SyD) (hE : stB A P acc bal node = E) (hg : goodS A P) (h : Lies w shSynod cs (A, P, ())) :
    Calls Try.prog 35 #[.agg cs.toArray, .agg #[.bool acc, .int .i64 bal, .int .i64 node]] w (StP E w) := by
  have := stepSynod_n cs A P acc bal node w (by have := good_size hg; omega) h
  rw [stS_good hg, hE] at this
  exact this
theorem PlS.start {w w1 w3 : World} {g : Nat} {S : SyD} {c0 c1 : Value} {n lo hi : Nat} {xs : List Value} {t : TypeId} (hr : Bx w1 w.heap.size [.slice none 0 0, .slice none 0 0]) (hO : Own w1 shSynod [c0, c1] (S.1, S.2, ()) (Btw lo hi)) (hlo : w.heap.size + 1 ≤ lo) (hhi : hi ≤ w1.heap.size) (hB : Below w.heap.size w w1) (hg : g = (w1.alloc (.cells #[c0, c1] t)).heap.size) (hown : w3.ownsRow (w.heap.size + 1) 4 1 (.slice (some ⟨g, 0, none⟩) n n) n xs) (hx : xs = blC (List.replicate n false)) (hgr : (w1.alloc (.cells #[c0, c1] t)).grownBy w3 none) :
    PlS w w1.heap.size w3 S c0 c1 (.slice (some ⟨g, 0, none⟩) n n) (List.replicate n false) := by
  have hb2 : Below w1.heap.size w1 (w1.alloc (.cells #[c0, c1] t)) := Go.Joins.below_alloc1 _ _
  have hb3 : Below (w1.alloc (.cells #[c0, c1] t)).heap.size (w1.alloc (.cells #[c0, c1] t)) w3 := ⟨hgr.os, hgr.tape, hgr.output, hgr.size, fun k hk => hgr.block k hk (fun q => by cases q)⟩
  have hb : Below w1.heap.size w1 w3 := below_next hb2 hb3
  have hz : (w1.alloc (.cells #[c0, c1] t)).heap.size = w1.heap.size + 1 := by simp
  have hlt := hown.lt g rfl
  subst hx
  have hrow : w3.ownsRow (w.heap.size + 1) 4 1 (.slice (some ⟨g, 0, none⟩) n n) (List.replicate n false).length (blC (List.replicate n false)) := by rw [List.length_replicate]; exact hown
  have h1z := hr.2
  refine ⟨hr.next hb, (Bx.new w1 [c0, c1] t).next hb3, ⟨Btw lo hi, fun k => k = g, hO.next hb, OwnX.of_flat (e := .bool) rfl hrow (fun k hk => by cases hk; rfl), fun k hk => ?_, fun k hk => ?_⟩, below_next hB hb, h1z⟩
  · simp only [Btw] at hk
    have := hb.size
    exact ⟨by omega, by omega, by omega, fun q => by have q : k = g := q; omega⟩
  · have hk : k = g := hk
    subst hk
    exact ⟨hlt.1, hlt.2, by omega⟩

set_option maxRecDepth 100000 in
set_option maxHeartbeats 8000000 in
theorem playSynod_n (m : Int) (a1 : Option Addr) (k1 : Nat) (vs : List (Sh.T .str)) (a2 : Option Addr) (k2 : Nat) (l : List (Sh.T shSynodStep)) (w : World) (hz : szD (.list .str) vs ≤ 1073741824) (hn : l.length ≤ 1073741824) (h1 : Lies w (.list .str) [.slice a1 vs.length k1] vs) (h2 : Lies w (.list shSynodStep) [.slice a2 l.length k2] l) :
    Calls Try.prog 12 #[.int .i64 m, .slice a1 vs.length k1, .slice a2 l.length k2] w (PlR m vs l w) := by
  have HL : Hid (Lies w (.list .str) [.slice a1 vs.length k1] vs ∧ Lies w (.list shSynodStep) [.slice a2 l.length k2] l ∧ szD (.list .str) vs ≤ 1073741824) := ⟨h1, h2, hz⟩
  clear h1 h2 hz
  obtain ⟨i0, hi0, hz0, hz1, hz2⟩ := info_parts inf_bool
  obtain ⟨w0, hw0⟩ : ∃ x, x = w.alloc (.cells #[.slice none 0 0, .slice none 0 0] 30) := ⟨_, rfl⟩
  have HB0 : Hid (Bx w0 w.heap.size [.slice none 0 0, .slice none 0 0] ∧ Below w.heap.size w w0 ∧ w0.heap.size = w.heap.size + 1) := ⟨hw0 ▸ Bx.new w [_, _] _, hw0 ▸ Go.Joins.below_alloc1 _ _, by rw [hw0]; simp⟩
  go_enter Try.func12, Try.ntmps12
  go_wp2_with fail
  rw [← hw0]
  clear hw0
  refine (newSynod_n m a1 k1 vs _ HL.out.2.2 (HL.out.1.next HB0.out.2.1)).mono ?_
  rintro r w1 ⟨cs, rfl, ho, hb⟩
  obtain ⟨p1, q1, _, p2, q2, _, hev, _⟩ := own_Synod ho
  subst hev
  have HB1 : Hid (Bx w1 w.heap.size [.slice none 0 0, .slice none 0 0] ∧ Below w.heap.size w w1) := ⟨HB0.out.1.next hb, below_next HB0.out.2.1 hb⟩
  have HO : Hid (Own w1 shSynod [.slice p1 (nwAc m vs).length q1, .slice p2 (nwPs m vs).length q2] (nwAc m vs, nwPs m vs, ()) (Btw w0.heap.size w1.heap.size) ∧ w0.heap.size = w.heap.size + 1) := ⟨ho, HB0.out.2.2⟩
  clear ho hb HB0
  have r0 := (HB1.out.1).cell 0 rfl; have r1 := (HB1.out.1).cell 1 rfl; have rz := (HB1.out.1).2
  have rf0 := HB1.out.1.frz 0 (by simp)
  have rf1 := HB1.out.1.frz 1 (by simp)
  have HE : Hid (∀ (u0 u1 : Value) (o : Obj), Below w.heap.size w (((w1.setCell ⟨w.heap.size, 0, none⟩ u0).setCell ⟨w.heap.size, 1, none⟩ u1).alloc o)) := Hid.intro (fun u0 u1 o => ((HB1.out.2.setCell (p := ⟨w.heap.size, 0, none⟩) (Nat.le_refl _) _).setCell (p := ⟨w.heap.size, 1, none⟩) (Nat.le_refl _) _).alloc (by have := HB1.out.2.size; simp; omega) _)
  by_cases c0 : nwP m vs
  case neg =>
    have HN : Hid (¬ plOk m vs l) := Hid.intro (fun q => c0 q.1)
    rw [tf_no c0]
    clear c0
    go_wp2_with fail
    exact bodyPost_ret (v := .tuple #[.agg #[.slice none 0 0, .slice none 0 0], .slice none 0 0, .bool false]) (by simp [results, Try.results12, go_sem, *]) rfl (PlR.no HN.out (HE.out _ _ _))
  rw [tf_yes c0]
  by_cases c1 : l.length ≤ 120
  case neg =>
    have HN : Hid (¬ plOk m vs l) := Hid.intro (fun q => c1 q.2)
    have c1' : (120 : Int) < (l.length : Int) := by omega
    clear c0 c1
    go_wp2_with fail
    exact bodyPost_ret (v := .tuple #[.agg #[.slice none 0 0, .slice none 0 0], .slice none 0 0, .bool false]) (by simp [results, Try.results12, go_sem, *]) rfl (PlR.no HN.out (HE.out _ _ _))
  have c1' : (l.length : Int) ≤ 120 := by omega
  have HY : Hid (plA m vs l = plF (pl0 m vs) l ∧ tf (plOk m vs l) = true) := Hid.intro (pl_yes ⟨c0, c1⟩)
  have HG0 : Hid (goodS (pl0 m vs).1 (pl0 m vs).2) := Hid.intro (good_new c0)
  have HAC := nw_some c0
  have HO2 : Hid (Own w1 shSynod [.slice p1 (pl0 m vs).1.length q1, .slice p2 (pl0 m vs).2.length q2] ((pl0 m vs).1, (pl0 m vs).2, ()) (Btw w0.heap.size w1.heap.size) ∧ w0.heap.size = w.heap.size + 1) := Hid.intro (by have := HO.out; rw [HAC.1, HAC.2.1] at this; exact this)
  rw [show nwAc m vs = (pl0 m vs).1 from HAC.1, show nwPs m vs = (pl0 m vs).2 from HAC.2.1]
  obtain ⟨S0, hS0⟩ : ∃ S, pl0 m vs = S := ⟨_, rfl⟩
  rw [hS0] at HO2 HG0 HY ⊢
  clear HO HAC c0 HE hS0
  obtain ⟨w2, hw2⟩ : ∃ x, x = w1.alloc (.cells #[.slice p1 S0.1.length q1, .slice p2 S0.2.length q2] 30) := ⟨_, rfl⟩
  have hwz : w.heap.size + 1 ≤ w2.heap.size := by have := HB1.out.2.size; rw [hw2]; simp; omega
  go_wp2_with (at_make; rw [← hw2]; refine wpList_make_full _ rfl (.tmp 31) (.tmp 31) 31 rfl (w.heap.size + 1) 4 i0 (.bool false) 1 Try.underlying31 hi0 hz0 hz1 .i64 .i64 _ _ l.length rfl rfl rfl rfl (by rw [hz2]; omega) (by unfold maxLen; omega) hwz ?_; intro w3 hown hgrow; have HW2 := Hid.intro hw2; clear hw2)
  obtain ⟨g, hg⟩ : ∃ g, g = w2.heap.size := ⟨_, rfl⟩
  have HI : Hid (PlS w w1.heap.size w3 S0 (.slice p1 S0.1.length q1) (.slice p2 S0.2.length q2) (.slice (some ⟨g, 0, none⟩) l.length l.length) ([] ++ List.replicate (l.length - 0) false)) := Hid.intro (PlS.start (t := 30) HB1.out.1 HO2.out.1 (by have := HO2.out.2; omega) (Nat.le_refl _) HB1.out.2 (HW2.out ▸ hg) (hg ▸ hown) (by
    have e := toList_madeCells_one (.bool false) (l.length * 1)
    have e2 : blC (List.replicate l.length false) = List.replicate l.length (Value.bool false) := by
      have : ∀ n : Nat, blC (List.replicate n false) = List.replicate n (Value.bool false) := by
        intro n
        induction n with
        | zero => rfl
        | succ n ih => rw [List.replicate_succ, List.replicate_succ, ← ih]; rfl
      exact this _
    rw [e2]
    rw [Nat.mul_one] at e ⊢
    exact e) (HW2.out ▸ hgrow))
  obtain ⟨b, hbE⟩ : ∃ b, b = w1.heap.size := ⟨_, rfl⟩
  rw [← hbE] at HI ⊢
  rw [← hg]
  clear hown hgrow HW2 hwz hbE hg HO2 HB1 r0 r1 rz rf0 rf1
  go_loopw [35] (fun i wr => ∃ (k : Nat) (p3 : Option Addr) (q3 : Nat) (p4 : Option Addr) (q4 : Nat), k ≤ l.length ∧ i = .int .i64 k ∧ PlS w b wr (plF S0 (l.take k)).1 (.slice p3 (plF S0 (l.take k)).1.1.length q3) (.slice p4 (plF S0 (l.take k)).1.2.length q4) (.slice (some ⟨g, 0, none⟩) l.length l.length) ((plF S0 (l.take k)).2 ++ List.replicate (l.length - k) false)) (fun i _ => l.length - (intOf i).toNat)
  case atStart => exact ⟨0, p1, q1, p2, q2, Nat.zero_le _, rfl, HI.out⟩
  case round =>
    obtain ⟨k, p3, q3, p4, q4, hk, rfl, hC⟩ := hrel
    clear HI
    have HG : Hid (goodS (plF S0 (l.take k)).1.1 (plF S0 (l.take k)).1.2) := Hid.intro (pl_good HG0.out hk)
    have HDL : Hid ((plF S0 (l.take k)).2.length = k) := Hid.intro (pl_len hk)
    by_cases hlt : k < l.length
    · have hlt' : (k : Int) < (l.length : Int) := by omega
      have HLE : Hid (Lies wr (.list shSynodStep) [.slice a2 l.length k2] l) := HL.out.2.1.next hC.2.2.2.1
      obtain ⟨xg, xoff, xgo, xgs, xec, xel, xhec, xle⟩ := Lies.elem (HLE.out) hlt
      subst xgo
      rcases xX : l[k] with ⟨x0, x1, x2, ⟨⟩⟩
      rw [xX] at xle
      have xH : Hid (l[k] = (x0, x1, x2, ())) := xX
      clear xX
      obtain xev := lies_SynodStep xle
      subst xev
      have xc0 : wr.cell? ⟨xg, xoff + k * 3, none⟩ = some (.bool x0) := xhec 0 (by simp)
      have xc1 : wr.cell? ⟨xg, xoff + k * 3 + 1, none⟩ = some (.int .i64 x1) := xhec 1 (by simp)
      have xc2 : wr.cell? ⟨xg, xoff + k * 3 + 2, none⟩ = some (.int .i64 x2) := xhec 2 (by simp)
      clear xhec xel xle
      obtain ⟨E, hE⟩ : ∃ E, stB (plF S0 (l.take k)).1.1 (plF S0 (l.take k)).1.2 x0 x1 x2 = E := ⟨_, rfl⟩
      have HPD : Hid (plF S0 (l.take (k + 1)) = (E.getD (plF S0 (l.take k)).1, (plF S0 (l.take k)).2 ++ [E.isSome])) := Hid.intro (pl_done hlt xH.out E hE)
      have HEE : Hid (stB (plF S0 (l.take k)).1.1 (plF S0 (l.take k)).1.2 x0 x1 x2 = E) := hE
      clear hE HLE
      generalize plF S0 (l.take k) = F at hC HG HDL HPD HEE
      obtain ⟨⟨A, P⟩, D⟩ := F
      have HC : Hid (PlS w b wr (A, P) (.slice p3 A.length q3) (.slice p4 P.length q4) (.slice (some ⟨g, 0, none⟩) l.length l.length) (D ++ List.replicate (l.length - k) false)) := hC
      have s0 := hC.2.1.cell 0 rfl
      have s1 := hC.2.1.cell 1 rfl
      have sz := hC.2.1.2
      clear hC
      obtain ⟨W1, hW1⟩ : ∃ x, x = wr.alloc (.cells #[.bool x0, .int .i64 x1, .int .i64 x2] 65) := ⟨_, rfl⟩
      have HW1 : Hid (Below wr.heap.size wr W1) := hW1 ▸ Go.Joins.below_alloc1 _ _
      go_wp2_with fail
      rw [← hW1]
      clear hW1
      cases E with
      | none =>
        refine (stepSynod_g [.slice p3 A.length q3, .slice p4 P.length q4] A P x0 x1 x2 _ none HEE.out HG.out (by
          obtain ⟨_, _, ⟨_, _, q, _⟩, _⟩ := HC.out
          exact q.lies.next HW1.out)).mono ?_
        rintro r W2 ⟨cs2, rfl, ho, hb⟩
        obtain ⟨p5, q5, _, p6, q6, _, hev, _⟩ := own_Synod ho
        subst hev
        have HF : Hid (∀ o : Obj, PlS w b (W2.alloc o) (A, P) (.slice p3 A.length q3) (.slice p4 P.length q4) (.slice (some ⟨g, 0, none⟩) l.length l.length) ((D ++ [false]) ++ List.replicate (l.length - (k + 1)) false)) := Hid.intro (fun o => by rw [← pl_rest HDL.out hlt]; exact HC.out.next (below_next (below_next HW1.out hb) (Go.Joins.below_alloc1 _ _)))
        clear ho hb s0 s1 sz xc0 xc1 xc2
        simp only [Option.isSome_none]
        go_wp2_with fail
        go_roundw
        case rel => exact ⟨k + 1, p3, q3, p4, q4, by omega, by go_num, by rw [HPD.out]; exact HF.out _⟩
        case measure => simp [intOf]; omega
      | some y =>
        refine (stepSynod_g [.slice p3 A.length q3, .slice p4 P.length q4] A P x0 x1 x2 _ (some y) HEE.out HG.out (by
          obtain ⟨_, _, ⟨_, _, q, _⟩, _⟩ := HC.out
          exact q.lies.next HW1.out)).mono ?_
        rintro r W2 ⟨cs2, rfl, ho, hb⟩
        obtain ⟨p5, q5, _, p6, q6, _, hev, _⟩ := own_Synod ho
        have hev : cs2 = [.slice p5 y.1.length q5, .slice p6 y.2.length q6] := hev
        subst hev
        have H2 : Hid (PlS w b ((W2.setCell ⟨b, 0, none⟩ (.slice p5 y.1.length q5)).setCell ⟨b, 1, none⟩ (.slice p6 y.2.length q6)) y (.slice p5 y.1.length q5) (.slice p6 y.2.length q6) (.slice (some ⟨g, 0, none⟩) l.length l.length) (D ++ List.replicate (l.length - k) false)) := Hid.intro (HC.out.put (below_next HW1.out hb) ho HW1.out.size (Nat.le_refl _))
        have HDD := H2.out.did (k := k) (by rw [List.length_append, List.length_replicate, HDL.out]; omega) hlt
        have HF : Hid (∀ o : Obj, PlS w b ((((W2.setCell ⟨b, 0, none⟩ (.slice p5 y.1.length q5)).setCell ⟨b, 1, none⟩ (.slice p6 y.2.length q6)).setCell ⟨g, k, none⟩ (.bool true)).alloc o) y (.slice p5 y.1.length q5) (.slice p6 y.2.length q6) (.slice (some ⟨g, 0, none⟩) l.length l.length) ((D ++ [true]) ++ List.replicate (l.length - (k + 1)) false)) := Hid.intro (fun o => by rw [← pl_set HDL.out hlt]; exact HDD.2.2.2.next (Go.Joins.below_alloc1 _ _))
        have HC2 := Hid.intro (HC.out.next (below_next HW1.out hb))
        have HD2 := HC2.out.did (k := k) (by rw [List.length_append, List.length_replicate, HDL.out]; omega) hlt
        obtain ⟨⟨u, hu⟩, hfz, hgz, _⟩ := HD2
        have hgb : g ≠ b := by
          obtain ⟨_, _, ⟨_, Sd, _, q4, _, q6⟩, _⟩ := HC2.out
          exact (q6 g ((q4.flat rfl).2 g rfl)).2.2
        have hbg : b ≠ g := Ne.symm hgb
        clear ho hb s0 s1 sz xc0 xc1 xc2 HDD H2
        have s0 := HC2.out.2.1.cell 0 rfl
        have s1 := HC2.out.2.1.cell 1 rfl
        have sz := HC2.out.2.1.2
        have sf0 := HC2.out.2.1.frz 0 (by simp)
        have sf1 := HC2.out.2.1.frz 1 (by simp)
        have HR : Hid (PlS w b W2 (A, P) (.slice p3 A.length q3) (.slice p4 P.length q4) (.slice (some ⟨g, 0, none⟩) l.length l.length) (D ++ List.replicate (l.length - k) false)) := HC2
        clear HC2
        simp only [Option.isSome_some]
        go_wp2_with fail
        go_roundw
        case rel => exact ⟨k + 1, p5, q5, p6, q6, by omega, by go_num, by rw [HPD.out]; exact HF.out _⟩
        case measure => simp [intOf]; omega
    · have hkn : k = l.length := by omega
      have HC : Hid (PlS w b wr (plF S0 l).1 (.slice p3 (plF S0 l).1.1.length q3) (.slice p4 (plF S0 l).1.2.length q4) (.slice (some ⟨g, 0, none⟩) l.length l.length) (plF S0 l).2) := Hid.intro (by
        have := hC
        rw [hkn, List.take_length, Nat.sub_self, List.replicate_zero, List.append_nil] at this
        exact this)
      clear hC HG HDL hkn
      have HP : Hid (PlR m vs l w (.returned (.tuple #[.agg #[.slice p3 (plF S0 l).1.1.length q3, .slice p4 (plF S0 l).1.2.length q4], .slice (some ⟨g, 0, none⟩) l.length l.length, .bool true])) ((wr.setCell ⟨w.heap.size, 0, none⟩ (.slice p3 (plF S0 l).1.1.length q3)).setCell ⟨w.heap.size, 1, none⟩ (.slice p4 (plF S0 l).1.2.length q4))) := Hid.intro (by
        unfold PlR; rw [HY.out.1, HY.out.2]; exact HC.out.done)
      have s0 := HC.out.2.1.cell 0 rfl
      have s1 := HC.out.2.1.cell 1 rfl
      have sz := HC.out.2.1.2
      have r0 := HC.out.1.cell 0 rfl
      have r1 := HC.out.1.cell 1 rfl
      have rz := HC.out.1.2
      have rf0 := HC.out.1.frz 0 (by simp)
      have rf1 := HC.out.1.frz 1 (by simp)
      go_wp2_with fail
      exact bodyPost_ret (v := .tuple #[.agg #[.slice p3 (plF S0 l).1.1.length q3, .slice p4 (plF S0 l).1.2.length q4], .slice (some ⟨g, 0, none⟩) l.length l.length, .bool true]) (by simp [results, Try.results12, go_sem, *]) rfl HP.out
end Go.Proofs.Ytmhkfangfhanlaa
/- Synods: the specification's PlaySynod. Written by tools/mkPsS.py. -/
namespace Go.Proofs.Ytmhkfangfhanlaa
open Go.RowKit
set_option linter.unusedVariables false
set_option linter.unusedSimpArgs false

section
variable {w wr W : World} {b : Nat} {S S' : SyD} {c0 c1 v u0 u1 : Value} {D : List Bool} {S1 : Nat → Prop}
theorem PlS.putS (h : PlS w b wr S c0 c1 v D) (hb : Below wr.heap.size wr W) (hO : Own W shSynod [u0, u1] (S'.1, S'.2, ()) S1) (hS : ∀ k, S1 k → wr.heap.size ≤ k ∧ k < W.heap.size) : PlS w b ((W.setCell ⟨b, 0, none⟩ u0).setCell ⟨b, 1, none⟩ u1) S' u0 u1 v D := h.put hb (hO.mono (S' := Btw wr.heap.size W.heap.size) hS) (Nat.le_refl _) (Nat.le_refl _)
theorem PlS.end2 (h : PlS w b wr S c0 c1 v D) (hb : Below wr.heap.size wr W) (hO : Own W shSynod [u0, u1] (S.1, S.2, ()) S1) (hS : ∀ k, S1 k → wr.heap.size ≤ k ∧ k < W.heap.size) : PlP S.1 S.2 D true w (.returned (.tuple #[.agg #[u0, u1], v, .bool true])) ((W.setCell ⟨w.heap.size, 0, none⟩ u0).setCell ⟨w.heap.size, 1, none⟩ u1) := by
  obtain ⟨h1, h2, ⟨So, Sd, h3, h4, h5, h6⟩, h7, h8⟩ := h
  have hz := hb.size
  have hw := h7.size
  have hbz := h2.2
  have n1 : ¬ S1 w.heap.size := fun q => by have := (hS _ q).1; omega
  have n2 : ¬ Sd w.heap.size := fun q => by have := (h6 _ q).1; omega
  refine ⟨u0, u1, v, S1, Sd, rfl, (hO.set (p := ⟨w.heap.size, 0, none⟩) n1 _).set (p := ⟨w.heap.size, 1, none⟩) n1 _, (((h4.next hb).set (p := ⟨w.heap.size, 0, none⟩) n2 _).set (p := ⟨w.heap.size, 1, none⟩) n2 _).own, fun k hk => ?_, fun k hk => ?_, ((below_next h7 hb).setCell (p := ⟨w.heap.size, 0, none⟩) (Nat.le_refl _) _).setCell (p := ⟨w.heap.size, 1, none⟩) (Nat.le_refl _) _⟩
  · have := hS k hk; simp only [Btw, World.size_setCell]; exact ⟨by omega, fun q => by have := (h6 k q).2.1; omega⟩
  · have := h6 k hk; simp only [Btw, World.size_setCell]; omega
theorem PlS.start0 {w1 : World} {lo hi : Nat} {t : TypeId} (hr : Bx w1 w.heap.size [.slice none 0 0, .slice none 0 0]) (hO : Own w1 shSynod [c0, c1] (S.1, S.2, ()) (Btw lo hi)) (hlo : w.heap.size + 1 ≤ lo) (hhi : hi ≤ w1.heap.size) (hB : Below w.heap.size w w1) : PlS w w1.heap.size (w1.alloc (.cells #[c0, c1] t)) S c0 c1 (.slice none 0 0) [] := by
  have hb : Below w1.heap.size w1 (w1.alloc (.cells #[c0, c1] t)) := Go.Joins.below_alloc1 _ _
  have hz : (w1.alloc (.cells #[c0, c1] t)).heap.size = w1.heap.size + 1 := by simp
  refine ⟨hr.next hb, Bx.new w1 [c0, c1] t, ⟨Btw lo hi, fun _ => False, hO.next hb, OwnX.nil', fun k hk => ?_, fun k q => q.elim⟩, below_next hB hb, hr.2⟩
  simp only [Btw] at hk
  exact ⟨by omega, by omega, by omega, id⟩
theorem box_doneX {b7 : Nat} {s : Ty} {cs : List Value} {x : s.T} {S2 : Nat → Prop} (h7 : Bx W b7 [.slice none 0 0, .slice none 0 0]) (hb7 : wr.heap.size < b7) (hO : OwnX W wr.heap.size s cs x S2) (hS : ∀ k, S2 k → wr.heap.size < k ∧ k < W.heap.size ∧ k ≠ b7) (hb : Below wr.heap.size wr W) (va vp : Value) :
    Bx ((W.setCell ⟨b7, 0, none⟩ va).setCell ⟨b7, 1, none⟩ vp) b7 [va, vp] ∧ OwnX ((W.setCell ⟨b7, 0, none⟩ va).setCell ⟨b7, 1, none⟩ vp) wr.heap.size s cs x S2 ∧ (∀ k, S2 k → wr.heap.size < k ∧ k < ((W.setCell ⟨b7, 0, none⟩ va).setCell ⟨b7, 1, none⟩ vp).heap.size) ∧ Below wr.heap.size wr ((W.setCell ⟨b7, 0, none⟩ va).setCell ⟨b7, 1, none⟩ vp) :=
  ⟨(h7.set (k := 0) (by simp) va).set (k := 1) (by simp) vp, (hO.set (p := ⟨b7, 0, none⟩) (fun q => (hS _ q).2.2 rfl) va).set (p := ⟨b7, 1, none⟩) (fun q => (hS _ q).2.2 rfl) vp, fun k hk => ⟨(hS k hk).1, by simp only [World.size_setCell]; exact (hS k hk).2.1⟩, (hb.setCell (p := ⟨b7, 0, none⟩) (by show wr.heap.size ≤ b7; omega) va).setCell (p := ⟨b7, 1, none⟩) (by show wr.heap.size ≤ b7; omega) vp⟩
theorem box_name {Y : World} {b7 : Nat} {s : Ty} {cs : List Value} {x : s.T} {S2 : Nat → Prop} {va vp : Value} (h : Bx Y b7 [va, vp] ∧ OwnX Y wr.heap.size s cs x S2 ∧ (∀ k, S2 k → wr.heap.size < k ∧ k < Y.heap.size) ∧ Below wr.heap.size wr Y) : ∃ Wz, Wz = Y ∧ (Bx Wz b7 [va, vp] ∧ OwnX Wz wr.heap.size s cs x S2 ∧ (∀ k, S2 k → wr.heap.size < k ∧ k < Wz.heap.size) ∧ Below wr.heap.size wr Wz) := ⟨Y, rfl, h⟩
theorem syn_lens {lo : Nat} {a3 : Option Addr} {k3 n3 : Nat} {a4 : Option Addr} {k4 n4 : Nat} {A : List (Sh.T shAcceptor)} {P : List (Sh.T shProposer)} (h : OwnX W lo tySynod [.slice a3 n3 k3, .slice a4 n4 k4] (A, P, ()) S1) : n3 = A.length ∧ n4 = P.length := by
  obtain ⟨_, _, _, _, e, q1, q2, _⟩ := ownx_Synod h
  simp only [List.cons.injEq, and_true] at e
  obtain ⟨rfl, rfl⟩ := e
  obtain ⟨_, _, e1⟩ := q1.vform
  obtain ⟨_, _, e2⟩ := q2.vform
  cases e1; cases e2
  exact ⟨rfl, rfl⟩
end

set_option maxRecDepth 100000 in
set_option maxHeartbeats 8000000 in
theorem specPlaySynod_n (m : Int) (a1 : Option Addr) (k1 : Nat) (vs : List (Sh.T .str)) (a2 : Option Addr) (k2 : Nat) (l : List (Sh.T shSynodStep)) (w : World) (hz : szD (.list .str) vs ≤ 1073741824) (hn : l.length ≤ 1073741824) (h1 : Lies w (.list .str) [.slice a1 vs.length k1] vs) (h2 : Lies w (.list shSynodStep) [.slice a2 l.length k2] l) :
    Calls Try.prog 13 #[.int .i64 m, .slice a1 vs.length k1, .slice a2 l.length k2] w (PlR m vs l w) := by
  have HL : Hid (Lies w (.list .str) [.slice a1 vs.length k1] vs ∧ Lies w (.list shSynodStep) [.slice a2 l.length k2] l ∧ szD (.list .str) vs ≤ 1073741824) := ⟨h1, h2, hz⟩
  clear h1 h2 hz
  obtain ⟨i0, hi0, hz0, hz1, hz2⟩ := info_parts inf_bool
  obtain ⟨w0, hw0⟩ : ∃ x, x = w.alloc (.cells #[.slice none 0 0, .slice none 0 0] 30) := ⟨_, rfl⟩
  have HB0 : Hid (Bx w0 w.heap.size [.slice none 0 0, .slice none 0 0] ∧ Below w.heap.size w w0 ∧ w0.heap.size = w.heap.size + 1) := ⟨hw0 ▸ Bx.new w [_, _] _, hw0 ▸ Go.Joins.below_alloc1 _ _, by rw [hw0]; simp⟩
  go_enter Try.func13, Try.ntmps13
  go_wp2_with fail
  rw [← hw0]
  clear hw0
  refine (specNewSynod_n m a1 k1 vs _ HL.out.2.2 (HL.out.1.next HB0.out.2.1)).mono ?_
  rintro r w1 ⟨cs, rfl, ho, hb⟩
  obtain ⟨p1, q1, _, p2, q2, _, hev, _⟩ := own_Synod ho
  subst hev
  have HB1 : Hid (Bx w1 w.heap.size [.slice none 0 0, .slice none 0 0] ∧ Below w.heap.size w w1) := ⟨HB0.out.1.next hb, below_next HB0.out.2.1 hb⟩
  have HO : Hid (Own w1 shSynod [.slice p1 (nwAc m vs).length q1, .slice p2 (nwPs m vs).length q2] (nwAc m vs, nwPs m vs, ()) (Btw w0.heap.size w1.heap.size) ∧ w0.heap.size = w.heap.size + 1) := ⟨ho, HB0.out.2.2⟩
  clear ho hb HB0
  have r0 := (HB1.out.1).cell 0 rfl; have r1 := (HB1.out.1).cell 1 rfl; have rz := (HB1.out.1).2
  have rf0 := HB1.out.1.frz 0 (by simp)
  have rf1 := HB1.out.1.frz 1 (by simp)
  have HE : Hid (∀ (u0 u1 : Value) (o : Obj), Below w.heap.size w (((w1.setCell ⟨w.heap.size, 0, none⟩ u0).setCell ⟨w.heap.size, 1, none⟩ u1).alloc o)) := Hid.intro (fun u0 u1 o => ((HB1.out.2.setCell (p := ⟨w.heap.size, 0, none⟩) (Nat.le_refl _) _).setCell (p := ⟨w.heap.size, 1, none⟩) (Nat.le_refl _) _).alloc (by have := HB1.out.2.size; simp; omega) _)
  by_cases c0 : nwP m vs
  case neg =>
    have HN : Hid (¬ plOk m vs l) := Hid.intro (fun q => c0 q.1)
    rw [tf_no c0]
    clear c0
    go_wp2_with fail
    exact bodyPost_ret (v := .tuple #[.agg #[.slice none 0 0, .slice none 0 0], .slice none 0 0, .bool false]) (by simp [results, Try.results13, go_sem, *]) rfl (PlR.no HN.out (HE.out _ _ _))
  rw [tf_yes c0]
  by_cases c1 : l.length ≤ 120
  case neg =>
    have HN : Hid (¬ plOk m vs l) := Hid.intro (fun q => c1 q.2)
    have c1' : (120 : Int) < (l.length : Int) := by omega
    clear c0 c1
    go_wp2_with fail
    exact bodyPost_ret (v := .tuple #[.agg #[.slice none 0 0, .slice none 0 0], .slice none 0 0, .bool false]) (by simp [results, Try.results13, go_sem, *]) rfl (PlR.no HN.out (HE.out _ _ _))
  have c1' : (l.length : Int) ≤ 120 := by omega
  have HY : Hid (plA m vs l = plF (pl0 m vs) l ∧ tf (plOk m vs l) = true) := Hid.intro (pl_yes ⟨c0, c1⟩)
  have HG0 : Hid (goodS (pl0 m vs).1 (pl0 m vs).2) := Hid.intro (good_new c0)
  have HAC := nw_some c0
  have HO2 : Hid (Own w1 shSynod [.slice p1 (pl0 m vs).1.length q1, .slice p2 (pl0 m vs).2.length q2] ((pl0 m vs).1, (pl0 m vs).2, ()) (Btw w0.heap.size w1.heap.size) ∧ w0.heap.size = w.heap.size + 1) := Hid.intro (by have := HO.out; rw [HAC.1, HAC.2.1] at this; exact this)
  rw [show nwAc m vs = (pl0 m vs).1 from HAC.1, show nwPs m vs = (pl0 m vs).2 from HAC.2.1]
  obtain ⟨S0, hS0⟩ : ∃ S, pl0 m vs = S := ⟨_, rfl⟩
  rw [hS0] at HO2 HG0 HY ⊢
  clear HO HAC c0 HE hS0
  obtain ⟨w2, hw2⟩ : ∃ x, x = w1.alloc (.cells #[.slice p1 S0.1.length q1, .slice p2 S0.2.length q2] 30) := ⟨_, rfl⟩
  have HI : Hid (PlS w w1.heap.size w2 S0 (.slice p1 S0.1.length q1) (.slice p2 S0.2.length q2) (.slice none 0 0) []) := Hid.intro (hw2 ▸ PlS.start0 HB1.out.1 HO2.out.1 (by have := HO2.out.2; omega) (Nat.le_refl _) HB1.out.2)
  go_wp2_with fail
  rw [← hw2]
  obtain ⟨b, hbE⟩ : ∃ b, b = w1.heap.size := ⟨_, rfl⟩
  rw [← hbE] at HI ⊢
  clear hw2 hbE HO2 HB1 r0 r1 rz rf0 rf1
  go_loopw [32, 11] (fun i vl wr => ∃ (k : Nat) (v : Value) (p3 : Option Addr) (q3 : Nat) (p4 : Option Addr) (q4 : Nat), k ≤ l.length ∧ i = .int .i64 k ∧ vl = v ∧ PlS w b wr (plF S0 (l.take k)).1 (.slice p3 (plF S0 (l.take k)).1.1.length q3) (.slice p4 (plF S0 (l.take k)).1.2.length q4) v (plF S0 (l.take k)).2) (fun i _ _ => l.length - (intOf i).toNat)
  case atStart => exact ⟨0, _, p1, q1, p2, q2, Nat.zero_le _, rfl, rfl, HI.out⟩
  case round =>
    obtain ⟨k, v, p3, q3, p4, q4, hk, rfl, hvl, hC⟩ := hrel
    have hvl := hvl.symm
    subst hvl
    clear HI
    have HG : Hid (goodS (plF S0 (l.take k)).1.1 (plF S0 (l.take k)).1.2) := Hid.intro (pl_good HG0.out hk)
    have HDL : Hid ((plF S0 (l.take k)).2.length = k) := Hid.intro (pl_len hk)
    by_cases hlt : k < l.length
    · have hlt' : (k : Int) < (l.length : Int) := by omega
      have HLE : Hid (Lies wr (.list shSynodStep) [.slice a2 l.length k2] l) := HL.out.2.1.next hC.2.2.2.1
      obtain ⟨xg, xoff, xgo, xgs, xec, xel, xhec, xle⟩ := Lies.elem (HLE.out) hlt
      subst xgo
      rcases xX : l[k] with ⟨x0, x1, x2, ⟨⟩⟩
      rw [xX] at xle
      have xH : Hid (l[k] = (x0, x1, x2, ())) := xX
      clear xX
      obtain xev := lies_SynodStep xle
      subst xev
      have xc0 : wr.cell? ⟨xg, xoff + k * 3, none⟩ = some (.bool x0) := xhec 0 (by simp)
      have xc1 : wr.cell? ⟨xg, xoff + k * 3 + 1, none⟩ = some (.int .i64 x1) := xhec 1 (by simp)
      have xc2 : wr.cell? ⟨xg, xoff + k * 3 + 2, none⟩ = some (.int .i64 x2) := xhec 2 (by simp)
      clear xhec xel xle
      have HPD := Hid.intro (pl_done (s := S0) hlt xH.out _ rfl)
      clear HLE
      generalize plF S0 (l.take k) = F at hC HG HDL HPD
      obtain ⟨⟨A, P⟩, D⟩ := F
      have HPD : Hid (plF S0 (l.take (k + 1)) = ((stB A P x0 x1 x2).getD (A, P), D ++ [(stB A P x0 x1 x2).isSome])) := HPD
      have HG : Hid (goodS A P) := HG
      have HDL : Hid (D.length = k) := HDL
      have HC : Hid (PlS w b wr (A, P) (.slice p3 A.length q3) (.slice p4 P.length q4) v D) := hC
      have HZ : Hid (szD shSynod (A, P, ()) ≤ 1073741824) := Hid.intro (by have := good_size HG.out; omega)
      have HLS : Hid (Lies wr shSynod [.slice p3 A.length q3, .slice p4 P.length q4] (A, P, ())) := Hid.intro (by obtain ⟨_, _, ⟨_, _, q, _⟩, _⟩ := HC.out; exact q.lies)
      have HBL : Hid (b < wr.heap.size) := hC.2.1.2
      clear hC
      obtain ⟨W1, hW1⟩ : ∃ x, x = wr.alloc (.cells #[.bool x0, .int .i64 x1, .int .i64 x2] 65) := ⟨_, rfl⟩
      have HD : Hid (Bx W1.drew b [.slice p3 A.length q3, .slice p4 P.length q4] ∧ Bx W1.drew wr.heap.size [.bool x0, .int .i64 x1, .int .i64 x2] ∧ Below wr.heap.size wr W1.drew ∧ wr.heap.size < W1.drew.heap.size) := Hid.intro (by
        have hb : Below wr.heap.size wr W1.drew := below_next (hW1 ▸ Go.Joins.below_alloc1 _ _ : Below wr.heap.size wr W1) (below_drew _)
        have hz : wr.heap.size < W1.drew.heap.size := by have e : W1.drew.heap.size = W1.heap.size := rfl; rw [e, hW1]; simp
        exact ⟨HC.out.2.1.next hb, (hW1 ▸ Bx.new wr [_, _, _] _ : Bx W1 _ _).next (below_drew _), hb, hz⟩)
      go_upto_region 8 with fail
      rw [← hW1]
      clear hW1 xc0 xc1 xc2
      refine wp_region_noPanic ?_
      refine wp_region_held_drew (S := fun W => Bx W b [.slice p3 A.length q3, .slice p4 P.length q4] ∧ Bx W wr.heap.size [.bool x0, .int .i64 x1, .int .i64 x2]) (by kernel_rfl) ⟨HD.out.1, HD.out.2.1⟩ (fun hHeld => ?_)
      obtain ⟨X0, hX0⟩ : ∃ x, x = W1.drew := ⟨_, rfl⟩
      rw [← hX0] at HD hHeld ⊢
      clear hX0
      rename_i W1x
      refine take_v (v := ?_) 0 ⟨some 37, Op.load 30 (Operand.tmp 9), _, _, _, none⟩ rfl (fun _ _ _ h => h) ?_ hHeld ?_
      rotate_left
      · (intro W hSW; (have s0 := hSW.1.cell 0 rfl; have s1 := hSW.1.cell 1 rfl; have sz := hSW.1.2; have t0 := hSW.2.cell 0 rfl; have t1 := hSW.2.cell 1 rfl; have t2 := hSW.2.cell 2 rfl; have tz := hSW.2.2); go_simp <;> (try with_reducible rfl))
      refine take_v (v := ?_) 2 ⟨some 39, Op.load 65 (Operand.tmp 13), _, _, _, none⟩ rfl (fun _ _ _ h => h) ?_ hHeld ?_
      rotate_left
      · (intro W hSW; (have s0 := hSW.1.cell 0 rfl; have s1 := hSW.1.cell 1 rfl; have sz := hSW.1.2; have t0 := hSW.2.cell 0 rfl; have t1 := hSW.2.cell 1 rfl; have t2 := hSW.2.cell 2 rfl; have tz := hSW.2.2); go_simp <;> (try with_reducible rfl))
      refine ready_two 1 7 ⟨some 38, Op.call { callee := Callee.value (Operand.func 49), args := #[Operand.tmp 37], argTypes := #[30] }, _, _, _, none⟩ ⟨some 14, Op.alloc 30, _, _, _, none⟩ (by kernel_rfl) rfl rfl (by kernel_rfl) (by kernel_rfl) (fun KC hK => ?_) (fun KC hK => ?_)
      ·
        go_wp2_with fail
        refine (l10Own_n [.slice p3 A.length q3, .slice p4 P.length q4] A P _ HZ.out (HLS.out.next HD.out.2.2.1)).mono ?_
        intro r W1 hT1
        obtain ⟨a3, k3, a4, k4, SO, rfl, hO, hSO, hb⟩ := toX_out hT1 HD.out.2.2.1
        have hz1 := HD.out.2.2.2
        (first | (have HO1 := (show Hid (OwnX W1 wr.heap.size tySynod [.slice a3 A.length k3, .slice a4 P.length k4] (A, P, ()) SO ∧ (∀ k, SO k → wr.heap.size < k ∧ k < W1.heap.size ∧ k ≠ b7)) from ⟨hO, fun k hk => ⟨Nat.lt_of_lt_of_le hz1 (hSO k hk).1, (hSO k hk).2, fun e => by have h1 := (hSO k hk).1; have h2 := H7.out.1.2; omega⟩⟩)) | (have HO1 := (show Hid (OwnX W1 wr.heap.size tySynod [.slice a3 A.length k3, .slice a4 P.length k4] (A, P, ()) SO ∧ (∀ k, SO k → wr.heap.size < k ∧ k < W1.heap.size)) from ⟨hO, fun k hk => ⟨Nat.lt_of_lt_of_le hz1 (hSO k hk).1, (hSO k hk).2⟩⟩)))
        have HD := (show Hid (Bx W1 b [.slice p3 A.length q3, .slice p4 P.length q4] ∧ Bx W1 wr.heap.size [.bool x0, .int .i64 x1, .int .i64 x2] ∧ Below wr.heap.size wr W1 ∧ wr.heap.size < W1.heap.size) from ⟨HD.out.1.next hb, HD.out.2.1.next hb, below_next HD.out.2.2.1 hb, Nat.lt_of_lt_of_le HD.out.2.2.2 hb.size⟩)
        (first | (have H7 := (show Hid (Bx W1 b7 [.slice none 0 0, .slice none 0 0] ∧ wr.heap.size < b7) from ⟨H7.out.1.next hb, H7.out.2⟩)) | skip)
        clear hb hO hSO hT1 hz1
        refine hK.out _ _ ⟨HD.out.1, HD.out.2.1⟩ (fun hHeld => ?_)
        clear hK KC
        refine ready_two 3 7 ⟨some 40, Op.call { callee := Callee.value (Operand.func 48), args := #[Operand.tmp 38, Operand.tmp 39], argTypes := #[30, 65] }, _, _, _, none⟩ ⟨some 14, Op.alloc 30, _, _, _, none⟩ (by kernel_rfl) rfl rfl (by kernel_rfl) (by kernel_rfl) (fun KC hK => ?_) (fun KC hK => ?_)
        ·
          go_wp2_with fail
          refine (l10Step_n _ _ A P x0 x1 x2 wr.heap.size SO _ HG.out HO1.out.1 (fun k hk => by have := HO1.out.2 k hk; omega) HD.out.2.2.1.size).mono ?_
          intro r W2 hQ2
          obtain ⟨S2, rfl, hO2, hS2, hT⟩ := hQ2.out
          have hzz := HD.out.2.2.2
          (first | (have HO2 := (show Hid (OwnX W2 wr.heap.size tySynod [.slice a3 A.length k3, .slice a4 P.length k4] (((stB A P x0 x1 x2).getD (A, P)).1, ((stB A P x0 x1 x2).getD (A, P)).2, ()) S2 ∧ (∀ k, S2 k → wr.heap.size < k ∧ k < W2.heap.size ∧ k ≠ b7)) from ⟨hO2, fun k hk => by have h7 := H7.out.1.2; have hz := hT.size; rcases hS2 k hk with q | q; (· have := HO1.out.2 k q; omega); omega⟩)) | (have HO2 := (show Hid (OwnX W2 wr.heap.size tySynod [.slice a3 A.length k3, .slice a4 P.length k4] (((stB A P x0 x1 x2).getD (A, P)).1, ((stB A P x0 x1 x2).getD (A, P)).2, ()) S2 ∧ (∀ k, S2 k → wr.heap.size < k ∧ k < W2.heap.size)) from ⟨hO2, fun k hk => by have hz := hT.size; rcases hS2 k hk with q | q; (· have := HO1.out.2 k q; omega); omega⟩)))
          (first | (have H7 := (show Hid (Bx W2 b7 [.slice none 0 0, .slice none 0 0] ∧ wr.heap.size < b7) from ⟨H7.out.1.turnS hT (fun q => (HO1.out.2 _ q).2.2 rfl), H7.out.2⟩)) | skip)
          have HD := (show Hid (Bx W2 b [.slice p3 A.length q3, .slice p4 P.length q4] ∧ Bx W2 wr.heap.size [.bool x0, .int .i64 x1, .int .i64 x2] ∧ Below wr.heap.size wr W2 ∧ wr.heap.size < W2.heap.size) from ⟨HD.out.1.turnS hT (fun q => by have := (HO1.out.2 _ q).1; have := HBL.out; omega), HD.out.2.1.turnS hT (fun q => by have := (HO1.out.2 _ q).1; omega), HD.out.2.2.1.trans (hT.below (fun k q => by have := (HO1.out.2 k q).1; omega) HD.out.2.2.1.size), Nat.lt_of_lt_of_le HD.out.2.2.2 hT.size⟩)
          clear hO2 hT hS2 hzz hQ2
          refine hK.out _ _ ⟨HD.out.1, HD.out.2.1⟩ (fun hHeld => ?_)
          clear hK KC
          refine take_v (v := ?_) 4 ⟨some 36, Op.move (Operand.tmp 40), _, _, _, none⟩ rfl (fun _ _ _ h => h) ?_ hHeld ?_
          rotate_left
          · (intro W _; go_simp <;> (try with_reducible rfl))
          refine take_v (v := ?_) 5 ⟨some 41, Op.extract (Operand.tmp 36) 0, _, _, _, none⟩ rfl (fun _ _ _ h => h) ?_ hHeld ?_
          rotate_left
          · (intro W _; go_simp <;> (try with_reducible rfl))
          refine take_v (v := ?_) 6 ⟨some 42, Op.extract (Operand.tmp 36) 1, _, _, _, none⟩ rfl (fun _ _ _ h => h) ?_ hHeld ?_
          rotate_left
          · (intro W _; go_simp <;> (try with_reducible rfl))
          refine ready_call 7 ⟨some 14, Op.alloc 30, _, _, _, none⟩ (by kernel_rfl) rfl (by kernel_rfl) (fun KC hK => ?_)
          go_wp2_with fail
          (first | (obtain ⟨W7, hW7⟩ : ∃ x, x = W2.alloc (.cells #[.slice none 0 0, .slice none 0 0] 30) := ⟨_, rfl⟩; have hb : Below W2.heap.size W2 W7 := hW7 ▸ Go.Joins.below_alloc1 _ _; obtain ⟨b7, hb7⟩ : ∃ b, b = W2.heap.size := ⟨_, rfl⟩; have H7 : Hid (Bx W7 b7 [.slice none 0 0, .slice none 0 0] ∧ wr.heap.size < b7) := ⟨hb7 ▸ hW7 ▸ Bx.new W2 [_, _] _, by rw [hb7]; exact HD.out.2.2.2⟩; have HO2 := (show Hid (OwnX W7 wr.heap.size tySynod [.slice a3 A.length k3, .slice a4 P.length k4] (((stB A P x0 x1 x2).getD (A, P)).1, ((stB A P x0 x1 x2).getD (A, P)).2, ()) S2 ∧ (∀ k, S2 k → wr.heap.size < k ∧ k < W7.heap.size ∧ k ≠ b7)) from ⟨HO2.out.1.next hb, fun k hk => ⟨(HO2.out.2 k hk).1, Nat.lt_of_lt_of_le (HO2.out.2 k hk).2 hb.size, by have := (HO2.out.2 k hk).2; omega⟩⟩); have HD := (show Hid (Bx W7 b [.slice p3 A.length q3, .slice p4 P.length q4] ∧ Bx W7 wr.heap.size [.bool x0, .int .i64 x1, .int .i64 x2] ∧ Below wr.heap.size wr W7 ∧ wr.heap.size < W7.heap.size) from ⟨HD.out.1.next hb, HD.out.2.1.next hb, below_next HD.out.2.2.1 hb, Nat.lt_of_lt_of_le HD.out.2.2.2 hb.size⟩); rw [← hW7, ← hb7]; clear hW7 hb7 hb) | (obtain ⟨W7, hW7⟩ : ∃ x, x = W1.alloc (.cells #[.slice none 0 0, .slice none 0 0] 30) := ⟨_, rfl⟩; have hb : Below W1.heap.size W1 W7 := hW7 ▸ Go.Joins.below_alloc1 _ _; obtain ⟨b7, hb7⟩ : ∃ b, b = W1.heap.size := ⟨_, rfl⟩; have H7 : Hid (Bx W7 b7 [.slice none 0 0, .slice none 0 0] ∧ wr.heap.size < b7) := ⟨hb7 ▸ hW7 ▸ Bx.new W1 [_, _] _, by rw [hb7]; exact HD.out.2.2.2⟩; have HO1 := (show Hid (OwnX W7 wr.heap.size tySynod [.slice a3 A.length k3, .slice a4 P.length k4] (A, P, ()) SO ∧ (∀ k, SO k → wr.heap.size < k ∧ k < W7.heap.size ∧ k ≠ b7)) from ⟨HO1.out.1.next hb, fun k hk => ⟨(HO1.out.2 k hk).1, Nat.lt_of_lt_of_le (HO1.out.2 k hk).2 hb.size, by have := (HO1.out.2 k hk).2; omega⟩⟩); have HD := (show Hid (Bx W7 b [.slice p3 A.length q3, .slice p4 P.length q4] ∧ Bx W7 wr.heap.size [.bool x0, .int .i64 x1, .int .i64 x2] ∧ Below wr.heap.size wr W7 ∧ wr.heap.size < W7.heap.size) from ⟨HD.out.1.next hb, HD.out.2.1.next hb, below_next HD.out.2.2.1 hb, Nat.lt_of_lt_of_le HD.out.2.2.2 hb.size⟩); rw [← hW7, ← hb7]; clear hW7 hb7 hb) | (obtain ⟨W7, hW7⟩ : ∃ x, x = X0.alloc (.cells #[.slice none 0 0, .slice none 0 0] 30) := ⟨_, rfl⟩; have hb : Below X0.heap.size X0 W7 := hW7 ▸ Go.Joins.below_alloc1 _ _; obtain ⟨b7, hb7⟩ : ∃ b, b = X0.heap.size := ⟨_, rfl⟩; have H7 : Hid (Bx W7 b7 [.slice none 0 0, .slice none 0 0] ∧ wr.heap.size < b7) := ⟨hb7 ▸ hW7 ▸ Bx.new X0 [_, _] _, by rw [hb7]; exact HD.out.2.2.2⟩; skip; have HD := (show Hid (Bx W7 b [.slice p3 A.length q3, .slice p4 P.length q4] ∧ Bx W7 wr.heap.size [.bool x0, .int .i64 x1, .int .i64 x2] ∧ Below wr.heap.size wr W7 ∧ wr.heap.size < W7.heap.size) from ⟨HD.out.1.next hb, HD.out.2.1.next hb, below_next HD.out.2.2.1 hb, Nat.lt_of_lt_of_le HD.out.2.2.2 hb.size⟩); rw [← hW7, ← hb7]; clear hW7 hb7 hb))
          refine hK.out _ _ ⟨HD.out.1, HD.out.2.1⟩ (fun hHeld => ?_)
          clear hK KC
          refine ready_call 8 ⟨none, Op.store 30 (Operand.tmp 14) (Operand.tmp 41), _, _, _, none⟩ (by kernel_rfl) rfl (by kernel_rfl) (fun KC hK => ?_)
          have d0 := H7.out.1.cell 0 rfl
          have d1 := H7.out.1.cell 1 rfl
          have dz := H7.out.1.2
          have f0 := H7.out.1.frz 0 (by simp)
          have f1 := H7.out.1.frz 1 (by simp)
          have h7 := H7.out.2
          have hbl := HBL.out
          go_wp2_with fail
          have HF := Hid.intro (box_doneX H7.out.1 H7.out.2 HO2.out.1 HO2.out.2 HD.out.2.2.1 (.slice a3 A.length k3) (.slice a4 P.length k4))
          clear d0 d1 dz f0 f1
          refine hK.out _ _ ⟨(HD.out.1.other (by omega)).other (by omega), (HD.out.2.1.other (by omega)).other (by omega)⟩ (fun hHeld => ?_)
          clear hK KC
          refine take_v (v := ?_) 9 ⟨some 15, Op.assign (Operand.tmp 42), _, _, _, none⟩ rfl (fun _ _ _ h => h) ?_ hHeld ?_
          rotate_left
          · (intro W _; go_simp <;> (try with_reducible rfl))
          refine wpAnyH_done (by kernel_rfl) ?_ _
          refine NoPanic.normal ?_
          (obtain ⟨Wz, hWz, HFz⟩ := box_name HF.out)
          rw [← hWz]
          have HF := Hid.intro HFz
          clear hHeld hWz HFz H7 HO1 HO2 HD
          have HCz := Hid.intro (HC.out.next HF.out.2.2.2)
          have m0 := HF.out.1.cell 0 rfl
          have m1 := HF.out.1.cell 1 rfl
          have mz := HF.out.1.2
          have s0 := HCz.out.2.1.cell 0 rfl
          have s1 := HCz.out.2.1.cell 1 rfl
          have sz := HCz.out.2.1.2
          have sf0 := HCz.out.2.1.frz 0 (by simp)
          have sf1 := HCz.out.2.1.frz 1 (by simp)
          have hDk : D.length + 1 ≤ maxLen := by have := HDL.out; unfold maxLen; omega
          have hDb : (D.length + 1) * 1 ≤ 140737488355328 := by have := HDL.out; omega
          (obtain ⟨E, hEE⟩ : ∃ E, E = stB A P x0 x1 x2 := ⟨_, rfl⟩)
          rw [← hEE] at HF HPD ⊢
          clear hEE
          cases E with
          | none =>
            simp only [Option.isSome_none]
            have HA := Hid.intro (HCz.out.next (Go.Joins.below_alloc1 Wz (.cells #[.bool false] 4)))
            go_wp2_with (first | (at_builtin; (obtain ⟨_, _, ⟨So9, Sd9, _, hOd, _, _⟩, _⟩ := HA.out); refine wpList_appx rfl (.tmp 45) (.tmp 47) 31 4 rfl i0 (.bool false) 1 (w.heap.size + 1) .bool rfl Try.underlying31 hi0 hz0 hz1 hz2 rfl (by decide) v D [false] Sd9 rfl hOd (some ⟨Wz.heap.size, 0, none⟩) 1 rfl (lies_one (w := Wz) (e := .bool) (cs := [.bool false]) (x := false) 4 rfl rfl) hDk hDb (by have h1 := HA.out.2.2.2.1.size; have h2 := HA.out.1.2; omega) ?_; intro v9 w9 hO9 hg9 hwh9; have H9 := Hid.intro (HA.out.app hO9 hg9 hwh9); clear hO9 hg9 hwh9) | go_in)
            go_roundw
            case rel => exact ⟨k + 1, v9, p3, q3, p4, q4, by omega, by go_num, rfl, by rw [HPD.out]; exact H9.out⟩
            case measure => simp [intOf]; omega
          | some y =>
            simp only [Option.isSome_some]
            have HA1 := Hid.intro (HC.out.putS (S' := y) HF.out.2.2.2 (u0 := .slice a3 A.length k3) (u1 := .slice a4 P.length k4) HF.out.2.1.own (fun k hk => by have := HF.out.2.2.1 k hk; omega))
            have HA := Hid.intro (HA1.out.next (Go.Joins.below_alloc1 _ (.cells #[.bool true] 4)))
            have HYL : Hid (A.length = y.1.length ∧ P.length = y.2.length) := Hid.intro (syn_lens HF.out.2.1)
            go_wp2_with (first | (at_builtin; (obtain ⟨_, _, ⟨So9, Sd9, _, hOd, _, _⟩, _⟩ := HA.out); refine wpList_appx rfl (.tmp 45) (.tmp 47) 31 4 rfl i0 (.bool false) 1 (w.heap.size + 1) .bool rfl Try.underlying31 hi0 hz0 hz1 hz2 rfl (by decide) v D [true] Sd9 rfl hOd (some ⟨Wz.heap.size, 0, none⟩) 1 rfl (by have q := lies_one (w := (Wz.setCell ⟨b, 0, none⟩ (.slice a3 A.length k3)).setCell ⟨b, 1, none⟩ (.slice a4 P.length k4)) (e := .bool) (cs := [.bool true]) (x := true) 4 rfl rfl; rw [World.size_setCell, World.size_setCell] at q; exact q) hDk hDb (by have h1 := HA.out.2.2.2.1.size; have h2 := HA.out.1.2; omega) ?_; intro v9 w9 hO9 hg9 hwh9; have H9 := Hid.intro (HA.out.app hO9 hg9 hwh9); clear hO9 hg9 hwh9) | go_in)
            go_roundw
            case rel => exact ⟨k + 1, v9, a3, k3, a4, k4, by omega, by go_num, rfl, by rw [HPD.out]; have q := H9.out; rw [HYL.out.1, HYL.out.2] at q; exact q⟩
            case measure => simp [intOf]; omega
        ·
          go_wp2_with fail
          (first | (obtain ⟨W7, hW7⟩ : ∃ x, x = W2.alloc (.cells #[.slice none 0 0, .slice none 0 0] 30) := ⟨_, rfl⟩; have hb : Below W2.heap.size W2 W7 := hW7 ▸ Go.Joins.below_alloc1 _ _; obtain ⟨b7, hb7⟩ : ∃ b, b = W2.heap.size := ⟨_, rfl⟩; have H7 : Hid (Bx W7 b7 [.slice none 0 0, .slice none 0 0] ∧ wr.heap.size < b7) := ⟨hb7 ▸ hW7 ▸ Bx.new W2 [_, _] _, by rw [hb7]; exact HD.out.2.2.2⟩; have HO2 := (show Hid (OwnX W7 wr.heap.size tySynod [.slice a3 A.length k3, .slice a4 P.length k4] (((stB A P x0 x1 x2).getD (A, P)).1, ((stB A P x0 x1 x2).getD (A, P)).2, ()) S2 ∧ (∀ k, S2 k → wr.heap.size < k ∧ k < W7.heap.size ∧ k ≠ b7)) from ⟨HO2.out.1.next hb, fun k hk => ⟨(HO2.out.2 k hk).1, Nat.lt_of_lt_of_le (HO2.out.2 k hk).2 hb.size, by have := (HO2.out.2 k hk).2; omega⟩⟩); have HD := (show Hid (Bx W7 b [.slice p3 A.length q3, .slice p4 P.length q4] ∧ Bx W7 wr.heap.size [.bool x0, .int .i64 x1, .int .i64 x2] ∧ Below wr.heap.size wr W7 ∧ wr.heap.size < W7.heap.size) from ⟨HD.out.1.next hb, HD.out.2.1.next hb, below_next HD.out.2.2.1 hb, Nat.lt_of_lt_of_le HD.out.2.2.2 hb.size⟩); rw [← hW7, ← hb7]; clear hW7 hb7 hb) | (obtain ⟨W7, hW7⟩ : ∃ x, x = W1.alloc (.cells #[.slice none 0 0, .slice none 0 0] 30) := ⟨_, rfl⟩; have hb : Below W1.heap.size W1 W7 := hW7 ▸ Go.Joins.below_alloc1 _ _; obtain ⟨b7, hb7⟩ : ∃ b, b = W1.heap.size := ⟨_, rfl⟩; have H7 : Hid (Bx W7 b7 [.slice none 0 0, .slice none 0 0] ∧ wr.heap.size < b7) := ⟨hb7 ▸ hW7 ▸ Bx.new W1 [_, _] _, by rw [hb7]; exact HD.out.2.2.2⟩; have HO1 := (show Hid (OwnX W7 wr.heap.size tySynod [.slice a3 A.length k3, .slice a4 P.length k4] (A, P, ()) SO ∧ (∀ k, SO k → wr.heap.size < k ∧ k < W7.heap.size ∧ k ≠ b7)) from ⟨HO1.out.1.next hb, fun k hk => ⟨(HO1.out.2 k hk).1, Nat.lt_of_lt_of_le (HO1.out.2 k hk).2 hb.size, by have := (HO1.out.2 k hk).2; omega⟩⟩); have HD := (show Hid (Bx W7 b [.slice p3 A.length q3, .slice p4 P.length q4] ∧ Bx W7 wr.heap.size [.bool x0, .int .i64 x1, .int .i64 x2] ∧ Below wr.heap.size wr W7 ∧ wr.heap.size < W7.heap.size) from ⟨HD.out.1.next hb, HD.out.2.1.next hb, below_next HD.out.2.2.1 hb, Nat.lt_of_lt_of_le HD.out.2.2.2 hb.size⟩); rw [← hW7, ← hb7]; clear hW7 hb7 hb) | (obtain ⟨W7, hW7⟩ : ∃ x, x = X0.alloc (.cells #[.slice none 0 0, .slice none 0 0] 30) := ⟨_, rfl⟩; have hb : Below X0.heap.size X0 W7 := hW7 ▸ Go.Joins.below_alloc1 _ _; obtain ⟨b7, hb7⟩ : ∃ b, b = X0.heap.size := ⟨_, rfl⟩; have H7 : Hid (Bx W7 b7 [.slice none 0 0, .slice none 0 0] ∧ wr.heap.size < b7) := ⟨hb7 ▸ hW7 ▸ Bx.new X0 [_, _] _, by rw [hb7]; exact HD.out.2.2.2⟩; skip; have HD := (show Hid (Bx W7 b [.slice p3 A.length q3, .slice p4 P.length q4] ∧ Bx W7 wr.heap.size [.bool x0, .int .i64 x1, .int .i64 x2] ∧ Below wr.heap.size wr W7 ∧ wr.heap.size < W7.heap.size) from ⟨HD.out.1.next hb, HD.out.2.1.next hb, below_next HD.out.2.2.1 hb, Nat.lt_of_lt_of_le HD.out.2.2.2 hb.size⟩); rw [← hW7, ← hb7]; clear hW7 hb7 hb))
          refine hK.out _ _ ⟨HD.out.1, HD.out.2.1⟩ (fun hHeld => ?_)
          clear hK KC
          refine ready_call 3 ⟨some 40, Op.call { callee := Callee.value (Operand.func 48), args := #[Operand.tmp 38, Operand.tmp 39], argTypes := #[30, 65] }, _, _, _, none⟩ (by kernel_rfl) rfl (by kernel_rfl) (fun KC hK => ?_)
          go_wp2_with fail
          refine (l10Step_n _ _ A P x0 x1 x2 wr.heap.size SO _ HG.out HO1.out.1 (fun k hk => by have := HO1.out.2 k hk; omega) HD.out.2.2.1.size).mono ?_
          intro r W2 hQ2
          obtain ⟨S2, rfl, hO2, hS2, hT⟩ := hQ2.out
          have hzz := HD.out.2.2.2
          (first | (have HO2 := (show Hid (OwnX W2 wr.heap.size tySynod [.slice a3 A.length k3, .slice a4 P.length k4] (((stB A P x0 x1 x2).getD (A, P)).1, ((stB A P x0 x1 x2).getD (A, P)).2, ()) S2 ∧ (∀ k, S2 k → wr.heap.size < k ∧ k < W2.heap.size ∧ k ≠ b7)) from ⟨hO2, fun k hk => by have h7 := H7.out.1.2; have hz := hT.size; rcases hS2 k hk with q | q; (· have := HO1.out.2 k q; omega); omega⟩)) | (have HO2 := (show Hid (OwnX W2 wr.heap.size tySynod [.slice a3 A.length k3, .slice a4 P.length k4] (((stB A P x0 x1 x2).getD (A, P)).1, ((stB A P x0 x1 x2).getD (A, P)).2, ()) S2 ∧ (∀ k, S2 k → wr.heap.size < k ∧ k < W2.heap.size)) from ⟨hO2, fun k hk => by have hz := hT.size; rcases hS2 k hk with q | q; (· have := HO1.out.2 k q; omega); omega⟩)))
          (first | (have H7 := (show Hid (Bx W2 b7 [.slice none 0 0, .slice none 0 0] ∧ wr.heap.size < b7) from ⟨H7.out.1.turnS hT (fun q => (HO1.out.2 _ q).2.2 rfl), H7.out.2⟩)) | skip)
          have HD := (show Hid (Bx W2 b [.slice p3 A.length q3, .slice p4 P.length q4] ∧ Bx W2 wr.heap.size [.bool x0, .int .i64 x1, .int .i64 x2] ∧ Below wr.heap.size wr W2 ∧ wr.heap.size < W2.heap.size) from ⟨HD.out.1.turnS hT (fun q => by have := (HO1.out.2 _ q).1; have := HBL.out; omega), HD.out.2.1.turnS hT (fun q => by have := (HO1.out.2 _ q).1; omega), HD.out.2.2.1.trans (hT.below (fun k q => by have := (HO1.out.2 k q).1; omega) HD.out.2.2.1.size), Nat.lt_of_lt_of_le HD.out.2.2.2 hT.size⟩)
          clear hO2 hT hS2 hzz hQ2
          refine hK.out _ _ ⟨HD.out.1, HD.out.2.1⟩ (fun hHeld => ?_)
          clear hK KC
          refine take_v (v := ?_) 4 ⟨some 36, Op.move (Operand.tmp 40), _, _, _, none⟩ rfl (fun _ _ _ h => h) ?_ hHeld ?_
          rotate_left
          · (intro W _; go_simp <;> (try with_reducible rfl))
          refine take_v (v := ?_) 5 ⟨some 41, Op.extract (Operand.tmp 36) 0, _, _, _, none⟩ rfl (fun _ _ _ h => h) ?_ hHeld ?_
          rotate_left
          · (intro W _; go_simp <;> (try with_reducible rfl))
          refine take_v (v := ?_) 6 ⟨some 42, Op.extract (Operand.tmp 36) 1, _, _, _, none⟩ rfl (fun _ _ _ h => h) ?_ hHeld ?_
          rotate_left
          · (intro W _; go_simp <;> (try with_reducible rfl))
          refine ready_call 8 ⟨none, Op.store 30 (Operand.tmp 14) (Operand.tmp 41), _, _, _, none⟩ (by kernel_rfl) rfl (by kernel_rfl) (fun KC hK => ?_)
          have d0 := H7.out.1.cell 0 rfl
          have d1 := H7.out.1.cell 1 rfl
          have dz := H7.out.1.2
          have f0 := H7.out.1.frz 0 (by simp)
          have f1 := H7.out.1.frz 1 (by simp)
          have h7 := H7.out.2
          have hbl := HBL.out
          go_wp2_with fail
          have HF := Hid.intro (box_doneX H7.out.1 H7.out.2 HO2.out.1 HO2.out.2 HD.out.2.2.1 (.slice a3 A.length k3) (.slice a4 P.length k4))
          clear d0 d1 dz f0 f1
          refine hK.out _ _ ⟨(HD.out.1.other (by omega)).other (by omega), (HD.out.2.1.other (by omega)).other (by omega)⟩ (fun hHeld => ?_)
          clear hK KC
          refine take_v (v := ?_) 9 ⟨some 15, Op.assign (Operand.tmp 42), _, _, _, none⟩ rfl (fun _ _ _ h => h) ?_ hHeld ?_
          rotate_left
          · (intro W _; go_simp <;> (try with_reducible rfl))
          refine wpAnyH_done (by kernel_rfl) ?_ _
          refine NoPanic.normal ?_
          (obtain ⟨Wz, hWz, HFz⟩ := box_name HF.out)
          rw [← hWz]
          have HF := Hid.intro HFz
          clear hHeld hWz HFz H7 HO1 HO2 HD
          have HCz := Hid.intro (HC.out.next HF.out.2.2.2)
          have m0 := HF.out.1.cell 0 rfl
          have m1 := HF.out.1.cell 1 rfl
          have mz := HF.out.1.2
          have s0 := HCz.out.2.1.cell 0 rfl
          have s1 := HCz.out.2.1.cell 1 rfl
          have sz := HCz.out.2.1.2
          have sf0 := HCz.out.2.1.frz 0 (by simp)
          have sf1 := HCz.out.2.1.frz 1 (by simp)
          have hDk : D.length + 1 ≤ maxLen := by have := HDL.out; unfold maxLen; omega
          have hDb : (D.length + 1) * 1 ≤ 140737488355328 := by have := HDL.out; omega
          (obtain ⟨E, hEE⟩ : ∃ E, E = stB A P x0 x1 x2 := ⟨_, rfl⟩)
          rw [← hEE] at HF HPD ⊢
          clear hEE
          cases E with
          | none =>
            simp only [Option.isSome_none]
            have HA := Hid.intro (HCz.out.next (Go.Joins.below_alloc1 Wz (.cells #[.bool false] 4)))
            go_wp2_with (first | (at_builtin; (obtain ⟨_, _, ⟨So9, Sd9, _, hOd, _, _⟩, _⟩ := HA.out); refine wpList_appx rfl (.tmp 45) (.tmp 47) 31 4 rfl i0 (.bool false) 1 (w.heap.size + 1) .bool rfl Try.underlying31 hi0 hz0 hz1 hz2 rfl (by decide) v D [false] Sd9 rfl hOd (some ⟨Wz.heap.size, 0, none⟩) 1 rfl (lies_one (w := Wz) (e := .bool) (cs := [.bool false]) (x := false) 4 rfl rfl) hDk hDb (by have h1 := HA.out.2.2.2.1.size; have h2 := HA.out.1.2; omega) ?_; intro v9 w9 hO9 hg9 hwh9; have H9 := Hid.intro (HA.out.app hO9 hg9 hwh9); clear hO9 hg9 hwh9) | go_in)
            go_roundw
            case rel => exact ⟨k + 1, v9, p3, q3, p4, q4, by omega, by go_num, rfl, by rw [HPD.out]; exact H9.out⟩
            case measure => simp [intOf]; omega
          | some y =>
            simp only [Option.isSome_some]
            have HA1 := Hid.intro (HC.out.putS (S' := y) HF.out.2.2.2 (u0 := .slice a3 A.length k3) (u1 := .slice a4 P.length k4) HF.out.2.1.own (fun k hk => by have := HF.out.2.2.1 k hk; omega))
            have HA := Hid.intro (HA1.out.next (Go.Joins.below_alloc1 _ (.cells #[.bool true] 4)))
            have HYL : Hid (A.length = y.1.length ∧ P.length = y.2.length) := Hid.intro (syn_lens HF.out.2.1)
            go_wp2_with (first | (at_builtin; (obtain ⟨_, _, ⟨So9, Sd9, _, hOd, _, _⟩, _⟩ := HA.out); refine wpList_appx rfl (.tmp 45) (.tmp 47) 31 4 rfl i0 (.bool false) 1 (w.heap.size + 1) .bool rfl Try.underlying31 hi0 hz0 hz1 hz2 rfl (by decide) v D [true] Sd9 rfl hOd (some ⟨Wz.heap.size, 0, none⟩) 1 rfl (by have q := lies_one (w := (Wz.setCell ⟨b, 0, none⟩ (.slice a3 A.length k3)).setCell ⟨b, 1, none⟩ (.slice a4 P.length k4)) (e := .bool) (cs := [.bool true]) (x := true) 4 rfl rfl; rw [World.size_setCell, World.size_setCell] at q; exact q) hDk hDb (by have h1 := HA.out.2.2.2.1.size; have h2 := HA.out.1.2; omega) ?_; intro v9 w9 hO9 hg9 hwh9; have H9 := Hid.intro (HA.out.app hO9 hg9 hwh9); clear hO9 hg9 hwh9) | go_in)
            go_roundw
            case rel => exact ⟨k + 1, v9, a3, k3, a4, k4, by omega, by go_num, rfl, by rw [HPD.out]; have q := H9.out; rw [HYL.out.1, HYL.out.2] at q; exact q⟩
            case measure => simp [intOf]; omega
      ·
        go_wp2_with fail
        (first | (obtain ⟨W7, hW7⟩ : ∃ x, x = W2.alloc (.cells #[.slice none 0 0, .slice none 0 0] 30) := ⟨_, rfl⟩; have hb : Below W2.heap.size W2 W7 := hW7 ▸ Go.Joins.below_alloc1 _ _; obtain ⟨b7, hb7⟩ : ∃ b, b = W2.heap.size := ⟨_, rfl⟩; have H7 : Hid (Bx W7 b7 [.slice none 0 0, .slice none 0 0] ∧ wr.heap.size < b7) := ⟨hb7 ▸ hW7 ▸ Bx.new W2 [_, _] _, by rw [hb7]; exact HD.out.2.2.2⟩; have HO2 := (show Hid (OwnX W7 wr.heap.size tySynod [.slice a3 A.length k3, .slice a4 P.length k4] (((stB A P x0 x1 x2).getD (A, P)).1, ((stB A P x0 x1 x2).getD (A, P)).2, ()) S2 ∧ (∀ k, S2 k → wr.heap.size < k ∧ k < W7.heap.size ∧ k ≠ b7)) from ⟨HO2.out.1.next hb, fun k hk => ⟨(HO2.out.2 k hk).1, Nat.lt_of_lt_of_le (HO2.out.2 k hk).2 hb.size, by have := (HO2.out.2 k hk).2; omega⟩⟩); have HD := (show Hid (Bx W7 b [.slice p3 A.length q3, .slice p4 P.length q4] ∧ Bx W7 wr.heap.size [.bool x0, .int .i64 x1, .int .i64 x2] ∧ Below wr.heap.size wr W7 ∧ wr.heap.size < W7.heap.size) from ⟨HD.out.1.next hb, HD.out.2.1.next hb, below_next HD.out.2.2.1 hb, Nat.lt_of_lt_of_le HD.out.2.2.2 hb.size⟩); rw [← hW7, ← hb7]; clear hW7 hb7 hb) | (obtain ⟨W7, hW7⟩ : ∃ x, x = W1.alloc (.cells #[.slice none 0 0, .slice none 0 0] 30) := ⟨_, rfl⟩; have hb : Below W1.heap.size W1 W7 := hW7 ▸ Go.Joins.below_alloc1 _ _; obtain ⟨b7, hb7⟩ : ∃ b, b = W1.heap.size := ⟨_, rfl⟩; have H7 : Hid (Bx W7 b7 [.slice none 0 0, .slice none 0 0] ∧ wr.heap.size < b7) := ⟨hb7 ▸ hW7 ▸ Bx.new W1 [_, _] _, by rw [hb7]; exact HD.out.2.2.2⟩; have HO1 := (show Hid (OwnX W7 wr.heap.size tySynod [.slice a3 A.length k3, .slice a4 P.length k4] (A, P, ()) SO ∧ (∀ k, SO k → wr.heap.size < k ∧ k < W7.heap.size ∧ k ≠ b7)) from ⟨HO1.out.1.next hb, fun k hk => ⟨(HO1.out.2 k hk).1, Nat.lt_of_lt_of_le (HO1.out.2 k hk).2 hb.size, by have := (HO1.out.2 k hk).2; omega⟩⟩); have HD := (show Hid (Bx W7 b [.slice p3 A.length q3, .slice p4 P.length q4] ∧ Bx W7 wr.heap.size [.bool x0, .int .i64 x1, .int .i64 x2] ∧ Below wr.heap.size wr W7 ∧ wr.heap.size < W7.heap.size) from ⟨HD.out.1.next hb, HD.out.2.1.next hb, below_next HD.out.2.2.1 hb, Nat.lt_of_lt_of_le HD.out.2.2.2 hb.size⟩); rw [← hW7, ← hb7]; clear hW7 hb7 hb) | (obtain ⟨W7, hW7⟩ : ∃ x, x = X0.alloc (.cells #[.slice none 0 0, .slice none 0 0] 30) := ⟨_, rfl⟩; have hb : Below X0.heap.size X0 W7 := hW7 ▸ Go.Joins.below_alloc1 _ _; obtain ⟨b7, hb7⟩ : ∃ b, b = X0.heap.size := ⟨_, rfl⟩; have H7 : Hid (Bx W7 b7 [.slice none 0 0, .slice none 0 0] ∧ wr.heap.size < b7) := ⟨hb7 ▸ hW7 ▸ Bx.new X0 [_, _] _, by rw [hb7]; exact HD.out.2.2.2⟩; skip; have HD := (show Hid (Bx W7 b [.slice p3 A.length q3, .slice p4 P.length q4] ∧ Bx W7 wr.heap.size [.bool x0, .int .i64 x1, .int .i64 x2] ∧ Below wr.heap.size wr W7 ∧ wr.heap.size < W7.heap.size) from ⟨HD.out.1.next hb, HD.out.2.1.next hb, below_next HD.out.2.2.1 hb, Nat.lt_of_lt_of_le HD.out.2.2.2 hb.size⟩); rw [← hW7, ← hb7]; clear hW7 hb7 hb))
        refine hK.out _ _ ⟨HD.out.1, HD.out.2.1⟩ (fun hHeld => ?_)
        clear hK KC
        refine ready_call 1 ⟨some 38, Op.call { callee := Callee.value (Operand.func 49), args := #[Operand.tmp 37], argTypes := #[30] }, _, _, _, none⟩ (by kernel_rfl) rfl (by kernel_rfl) (fun KC hK => ?_)
        go_wp2_with fail
        refine (l10Own_n [.slice p3 A.length q3, .slice p4 P.length q4] A P _ HZ.out (HLS.out.next HD.out.2.2.1)).mono ?_
        intro r W1 hT1
        obtain ⟨a3, k3, a4, k4, SO, rfl, hO, hSO, hb⟩ := toX_out hT1 HD.out.2.2.1
        have hz1 := HD.out.2.2.2
        (first | (have HO1 := (show Hid (OwnX W1 wr.heap.size tySynod [.slice a3 A.length k3, .slice a4 P.length k4] (A, P, ()) SO ∧ (∀ k, SO k → wr.heap.size < k ∧ k < W1.heap.size ∧ k ≠ b7)) from ⟨hO, fun k hk => ⟨Nat.lt_of_lt_of_le hz1 (hSO k hk).1, (hSO k hk).2, fun e => by have h1 := (hSO k hk).1; have h2 := H7.out.1.2; omega⟩⟩)) | (have HO1 := (show Hid (OwnX W1 wr.heap.size tySynod [.slice a3 A.length k3, .slice a4 P.length k4] (A, P, ()) SO ∧ (∀ k, SO k → wr.heap.size < k ∧ k < W1.heap.size)) from ⟨hO, fun k hk => ⟨Nat.lt_of_lt_of_le hz1 (hSO k hk).1, (hSO k hk).2⟩⟩)))
        have HD := (show Hid (Bx W1 b [.slice p3 A.length q3, .slice p4 P.length q4] ∧ Bx W1 wr.heap.size [.bool x0, .int .i64 x1, .int .i64 x2] ∧ Below wr.heap.size wr W1 ∧ wr.heap.size < W1.heap.size) from ⟨HD.out.1.next hb, HD.out.2.1.next hb, below_next HD.out.2.2.1 hb, Nat.lt_of_lt_of_le HD.out.2.2.2 hb.size⟩)
        (first | (have H7 := (show Hid (Bx W1 b7 [.slice none 0 0, .slice none 0 0] ∧ wr.heap.size < b7) from ⟨H7.out.1.next hb, H7.out.2⟩)) | skip)
        clear hb hO hSO hT1 hz1
        refine hK.out _ _ ⟨HD.out.1, HD.out.2.1⟩ (fun hHeld => ?_)
        clear hK KC
        refine ready_call 3 ⟨some 40, Op.call { callee := Callee.value (Operand.func 48), args := #[Operand.tmp 38, Operand.tmp 39], argTypes := #[30, 65] }, _, _, _, none⟩ (by kernel_rfl) rfl (by kernel_rfl) (fun KC hK => ?_)
        go_wp2_with fail
        refine (l10Step_n _ _ A P x0 x1 x2 wr.heap.size SO _ HG.out HO1.out.1 (fun k hk => by have := HO1.out.2 k hk; omega) HD.out.2.2.1.size).mono ?_
        intro r W2 hQ2
        obtain ⟨S2, rfl, hO2, hS2, hT⟩ := hQ2.out
        have hzz := HD.out.2.2.2
        (first | (have HO2 := (show Hid (OwnX W2 wr.heap.size tySynod [.slice a3 A.length k3, .slice a4 P.length k4] (((stB A P x0 x1 x2).getD (A, P)).1, ((stB A P x0 x1 x2).getD (A, P)).2, ()) S2 ∧ (∀ k, S2 k → wr.heap.size < k ∧ k < W2.heap.size ∧ k ≠ b7)) from ⟨hO2, fun k hk => by have h7 := H7.out.1.2; have hz := hT.size; rcases hS2 k hk with q | q; (· have := HO1.out.2 k q; omega); omega⟩)) | (have HO2 := (show Hid (OwnX W2 wr.heap.size tySynod [.slice a3 A.length k3, .slice a4 P.length k4] (((stB A P x0 x1 x2).getD (A, P)).1, ((stB A P x0 x1 x2).getD (A, P)).2, ()) S2 ∧ (∀ k, S2 k → wr.heap.size < k ∧ k < W2.heap.size)) from ⟨hO2, fun k hk => by have hz := hT.size; rcases hS2 k hk with q | q; (· have := HO1.out.2 k q; omega); omega⟩)))
        (first | (have H7 := (show Hid (Bx W2 b7 [.slice none 0 0, .slice none 0 0] ∧ wr.heap.size < b7) from ⟨H7.out.1.turnS hT (fun q => (HO1.out.2 _ q).2.2 rfl), H7.out.2⟩)) | skip)
        have HD := (show Hid (Bx W2 b [.slice p3 A.length q3, .slice p4 P.length q4] ∧ Bx W2 wr.heap.size [.bool x0, .int .i64 x1, .int .i64 x2] ∧ Below wr.heap.size wr W2 ∧ wr.heap.size < W2.heap.size) from ⟨HD.out.1.turnS hT (fun q => by have := (HO1.out.2 _ q).1; have := HBL.out; omega), HD.out.2.1.turnS hT (fun q => by have := (HO1.out.2 _ q).1; omega), HD.out.2.2.1.trans (hT.below (fun k q => by have := (HO1.out.2 k q).1; omega) HD.out.2.2.1.size), Nat.lt_of_lt_of_le HD.out.2.2.2 hT.size⟩)
        clear hO2 hT hS2 hzz hQ2
        refine hK.out _ _ ⟨HD.out.1, HD.out.2.1⟩ (fun hHeld => ?_)
        clear hK KC
        refine take_v (v := ?_) 4 ⟨some 36, Op.move (Operand.tmp 40), _, _, _, none⟩ rfl (fun _ _ _ h => h) ?_ hHeld ?_
        rotate_left
        · (intro W _; go_simp <;> (try with_reducible rfl))
        refine take_v (v := ?_) 5 ⟨some 41, Op.extract (Operand.tmp 36) 0, _, _, _, none⟩ rfl (fun _ _ _ h => h) ?_ hHeld ?_
        rotate_left
        · (intro W _; go_simp <;> (try with_reducible rfl))
        refine take_v (v := ?_) 6 ⟨some 42, Op.extract (Operand.tmp 36) 1, _, _, _, none⟩ rfl (fun _ _ _ h => h) ?_ hHeld ?_
        rotate_left
        · (intro W _; go_simp <;> (try with_reducible rfl))
        refine ready_call 8 ⟨none, Op.store 30 (Operand.tmp 14) (Operand.tmp 41), _, _, _, none⟩ (by kernel_rfl) rfl (by kernel_rfl) (fun KC hK => ?_)
        have d0 := H7.out.1.cell 0 rfl
        have d1 := H7.out.1.cell 1 rfl
        have dz := H7.out.1.2
        have f0 := H7.out.1.frz 0 (by simp)
        have f1 := H7.out.1.frz 1 (by simp)
        have h7 := H7.out.2
        have hbl := HBL.out
        go_wp2_with fail
        have HF := Hid.intro (box_doneX H7.out.1 H7.out.2 HO2.out.1 HO2.out.2 HD.out.2.2.1 (.slice a3 A.length k3) (.slice a4 P.length k4))
        clear d0 d1 dz f0 f1
        refine hK.out _ _ ⟨(HD.out.1.other (by omega)).other (by omega), (HD.out.2.1.other (by omega)).other (by omega)⟩ (fun hHeld => ?_)
        clear hK KC
        refine take_v (v := ?_) 9 ⟨some 15, Op.assign (Operand.tmp 42), _, _, _, none⟩ rfl (fun _ _ _ h => h) ?_ hHeld ?_
        rotate_left
        · (intro W _; go_simp <;> (try with_reducible rfl))
        refine wpAnyH_done (by kernel_rfl) ?_ _
        refine NoPanic.normal ?_
        (obtain ⟨Wz, hWz, HFz⟩ := box_name HF.out)
        rw [← hWz]
        have HF := Hid.intro HFz
        clear hHeld hWz HFz H7 HO1 HO2 HD
        have HCz := Hid.intro (HC.out.next HF.out.2.2.2)
        have m0 := HF.out.1.cell 0 rfl
        have m1 := HF.out.1.cell 1 rfl
        have mz := HF.out.1.2
        have s0 := HCz.out.2.1.cell 0 rfl
        have s1 := HCz.out.2.1.cell 1 rfl
        have sz := HCz.out.2.1.2
        have sf0 := HCz.out.2.1.frz 0 (by simp)
        have sf1 := HCz.out.2.1.frz 1 (by simp)
        have hDk : D.length + 1 ≤ maxLen := by have := HDL.out; unfold maxLen; omega
        have hDb : (D.length + 1) * 1 ≤ 140737488355328 := by have := HDL.out; omega
        (obtain ⟨E, hEE⟩ : ∃ E, E = stB A P x0 x1 x2 := ⟨_, rfl⟩)
        rw [← hEE] at HF HPD ⊢
        clear hEE
        cases E with
        | none =>
          simp only [Option.isSome_none]
          have HA := Hid.intro (HCz.out.next (Go.Joins.below_alloc1 Wz (.cells #[.bool false] 4)))
          go_wp2_with (first | (at_builtin; (obtain ⟨_, _, ⟨So9, Sd9, _, hOd, _, _⟩, _⟩ := HA.out); refine wpList_appx rfl (.tmp 45) (.tmp 47) 31 4 rfl i0 (.bool false) 1 (w.heap.size + 1) .bool rfl Try.underlying31 hi0 hz0 hz1 hz2 rfl (by decide) v D [false] Sd9 rfl hOd (some ⟨Wz.heap.size, 0, none⟩) 1 rfl (lies_one (w := Wz) (e := .bool) (cs := [.bool false]) (x := false) 4 rfl rfl) hDk hDb (by have h1 := HA.out.2.2.2.1.size; have h2 := HA.out.1.2; omega) ?_; intro v9 w9 hO9 hg9 hwh9; have H9 := Hid.intro (HA.out.app hO9 hg9 hwh9); clear hO9 hg9 hwh9) | go_in)
          go_roundw
          case rel => exact ⟨k + 1, v9, p3, q3, p4, q4, by omega, by go_num, rfl, by rw [HPD.out]; exact H9.out⟩
          case measure => simp [intOf]; omega
        | some y =>
          simp only [Option.isSome_some]
          have HA1 := Hid.intro (HC.out.putS (S' := y) HF.out.2.2.2 (u0 := .slice a3 A.length k3) (u1 := .slice a4 P.length k4) HF.out.2.1.own (fun k hk => by have := HF.out.2.2.1 k hk; omega))
          have HA := Hid.intro (HA1.out.next (Go.Joins.below_alloc1 _ (.cells #[.bool true] 4)))
          have HYL : Hid (A.length = y.1.length ∧ P.length = y.2.length) := Hid.intro (syn_lens HF.out.2.1)
          go_wp2_with (first | (at_builtin; (obtain ⟨_, _, ⟨So9, Sd9, _, hOd, _, _⟩, _⟩ := HA.out); refine wpList_appx rfl (.tmp 45) (.tmp 47) 31 4 rfl i0 (.bool false) 1 (w.heap.size + 1) .bool rfl Try.underlying31 hi0 hz0 hz1 hz2 rfl (by decide) v D [true] Sd9 rfl hOd (some ⟨Wz.heap.size, 0, none⟩) 1 rfl (by have q := lies_one (w := (Wz.setCell ⟨b, 0, none⟩ (.slice a3 A.length k3)).setCell ⟨b, 1, none⟩ (.slice a4 P.length k4)) (e := .bool) (cs := [.bool true]) (x := true) 4 rfl rfl; rw [World.size_setCell, World.size_setCell] at q; exact q) hDk hDb (by have h1 := HA.out.2.2.2.1.size; have h2 := HA.out.1.2; omega) ?_; intro v9 w9 hO9 hg9 hwh9; have H9 := Hid.intro (HA.out.app hO9 hg9 hwh9); clear hO9 hg9 hwh9) | go_in)
          go_roundw
          case rel => exact ⟨k + 1, v9, a3, k3, a4, k4, by omega, by go_num, rfl, by rw [HPD.out]; have q := H9.out; rw [HYL.out.1, HYL.out.2] at q; exact q⟩
          case measure => simp [intOf]; omega
    · have hkn : k = l.length := by omega
      have HC : Hid (PlS w b wr (plF S0 l).1 (.slice p3 (plF S0 l).1.1.length q3) (.slice p4 (plF S0 l).1.2.length q4) v (plF S0 l).2) := Hid.intro (by have := hC; rw [hkn, List.take_length] at this; exact this)
      have HG : Hid (goodS (plF S0 l).1.1 (plF S0 l).1.2) := Hid.intro (by have := HG.out; rw [hkn, List.take_length] at this; exact this)
      clear hC HDL hkn
      generalize plF S0 l = F at HC HG HY
      obtain ⟨⟨A, P⟩, D⟩ := F
      have HC : Hid (PlS w b wr (A, P) (.slice p3 A.length q3) (.slice p4 P.length q4) v D) := HC
      have HG : Hid (goodS A P) := HG
      have HLS : Hid (Lies wr shSynod [.slice p3 A.length q3, .slice p4 P.length q4] (A, P, ()) ∧ szD shSynod (A, P, ()) ≤ 1073741824) := Hid.intro (by obtain ⟨_, _, ⟨_, _, q, _⟩, _⟩ := HC.out; exact ⟨q.lies, by have := good_size HG.out; omega⟩)
      have s0 := HC.out.2.1.cell 0 rfl
      have s1 := HC.out.2.1.cell 1 rfl
      have sz := HC.out.2.1.2
      go_wp2_with fail
      refine (l10Own_n [.slice p3 A.length q3, .slice p4 P.length q4] A P _ HLS.out.2 HLS.out.1).mono ?_
      intro r W1 hT1
      obtain ⟨a3, k3, a4, k4, SO, rfl, hO, hSO, hb⟩ := toX_out hT1 (Below.refl wr.heap.size wr)
      have HP : Hid (PlR m vs l w (.returned (.tuple #[.agg #[.slice a3 A.length k3, .slice a4 P.length k4], v, .bool true])) ((W1.setCell ⟨w.heap.size, 0, none⟩ (.slice a3 A.length k3)).setCell ⟨w.heap.size, 1, none⟩ (.slice a4 P.length k4))) := Hid.intro (by
        unfold PlR; rw [HY.out.1, HY.out.2]; exact HC.out.end2 hb hO.own hSO)
      have HC2 := Hid.intro (HC.out.next hb)
      clear hT1 hO hSO hb s0 s1 sz
      have r0 := HC2.out.1.cell 0 rfl
      have r1 := HC2.out.1.cell 1 rfl
      have rz := HC2.out.1.2
      have rf0 := HC2.out.1.frz 0 (by simp)
      have rf1 := HC2.out.1.frz 1 (by simp)
      go_wp2_with fail
      exact bodyPost_ret (v := .tuple #[.agg #[.slice a3 A.length k3, .slice a4 P.length k4], v, .bool true]) (by simp [results, Try.results13, go_sem, *]) rfl HP.out
end Go.Proofs.Ytmhkfangfhanlaa
/- Synods: both sides of PlaySynod as its law speaks of them. -/
namespace Go.Proofs.Ytmhkfangfhanlaa
open Go.RowKit
set_option linter.unusedVariables false
set_option linter.unusedSimpArgs false

theorem cnt_bools {l : List (Sh.T .bool)} (h : szD (.list .bool) l ≤ 1073741824) : cntD (.list .bool) l ≤ 100000000000 := by
  have h2 := cnt_le (.list .bool) l ⟨by decide, trivial⟩
  have h3 : Sh.c (.list .bool) = 1 := rfl
  omega
theorem cnt_steps {l : List (Sh.T shSynodStep)} (h : szD (.list shSynodStep) l ≤ 1073741824) : cntD (.list shSynodStep) l ≤ 100000000000 := by
  have h2 := cnt_le (.list shSynodStep) l ⟨by decide, trivial, trivial, trivial, trivial⟩
  have h3 : Sh.c (.list shSynodStep) = 1 := rfl
  omega
theorem sz_bools {l : List (Sh.T .bool)} (h : l.length ≤ 1000) : szD (.list .bool) l ≤ 1073741824 := by
  have e : szD (.list .bool) l = l.length + (l.map (szD .bool)).sum := rfl
  have := sum_le (e := .bool) (B := 0) (l := l) (fun x _ => Nat.le_refl 0)
  omega
theorem len_steps {l : List (Sh.T shSynodStep)} (h : szD (.list shSynodStep) l ≤ 1073741824) : l.length ≤ 1073741824 := by
  have e : szD (.list shSynodStep) l = l.length + (l.map (szD shSynodStep)).sum := rfl
  omega
theorem sz_plA (m : Int) (vs : List (Sh.T .str)) (l : List (Sh.T shSynodStep)) : szD shSynod ((plA m vs l).1.1, (plA m vs l).1.2, ()) ≤ 1073741824 ∧ szD (.list .bool) (plA m vs l).2 ≤ 1073741824 := by
  by_cases h : plOk m vs l
  · rw [(pl_yes h).1]
    have h1 := pl_good (s := pl0 m vs) (l := l) (good_new h.1) (Nat.le_refl l.length)
    have h2 := pl_len (s := pl0 m vs) (l := l) (Nat.le_refl l.length)
    rw [List.take_length] at h1 h2
    have h3 := good_size h1
    exact ⟨Nat.le_trans h3 (by decide), sz_bools (by have := h.2; omega)⟩
  · rw [(pl_no h).1]
    exact ⟨by show 0 + 0 + (0 + 0 + 0) ≤ _; omega, sz_bools (by simp)⟩
def PlH (m : Int) (vs : List (Sh.T .str)) (l : List (Sh.T shSynodStep)) (AC : List (Sh.T shAcceptor)) (PS : List (Sh.T shProposer)) (D : List (Sh.T .bool)) (z : Bool) : Prop := (plA m vs l).1.1 = AC ∧ (plA m vs l).1.2 = PS ∧ (plA m vs l).2 = D ∧ tf (plOk m vs l) = z
theorem playSynod_l (m : Int) (a1 : Option Addr) (k1 : Nat) (vs : List (Sh.T .str)) (a2 : Option Addr) (k2 : Nat) (l : List (Sh.T shSynodStep)) (w : World) (AC : List (Sh.T shAcceptor)) (PS : List (Sh.T shProposer)) (D : List (Sh.T .bool)) (z : Bool) (hA : PlH m vs l AC PS D z) (hz : szD (.list .str) vs ≤ 1073741824) (hn : szD (.list shSynodStep) l ≤ 1073741824) (h1 : Lies w (.list .str) [.slice a1 vs.length k1] vs) (h2 : Lies w (.list shSynodStep) [.slice a2 l.length k2] l) :
    Calls Try.prog 12 #[.int .i64 m, .slice a1 vs.length k1, .slice a2 l.length k2] w (PlP AC PS D z w) := by
  rw [← hA.1, ← hA.2.1, ← hA.2.2.1, ← hA.2.2.2]; exact playSynod_n m a1 k1 vs a2 k2 l w hz (len_steps hn) h1 h2
theorem specPlaySynod_l (m : Int) (a1 : Option Addr) (k1 : Nat) (vs : List (Sh.T .str)) (a2 : Option Addr) (k2 : Nat) (l : List (Sh.T shSynodStep)) (w : World) (AC : List (Sh.T shAcceptor)) (PS : List (Sh.T shProposer)) (D : List (Sh.T .bool)) (z : Bool) (hA : PlH m vs l AC PS D z) (hz : szD (.list .str) vs ≤ 1073741824) (hn : szD (.list shSynodStep) l ≤ 1073741824) (h1 : Lies w (.list .str) [.slice a1 vs.length k1] vs) (h2 : Lies w (.list shSynodStep) [.slice a2 l.length k2] l) :
    Calls Try.prog 13 #[.int .i64 m, .slice a1 vs.length k1, .slice a2 l.length k2] w (PlP AC PS D z w) := by
  rw [← hA.1, ← hA.2.1, ← hA.2.2.1, ← hA.2.2.2]; exact specPlaySynod_n m a1 k1 vs a2 k2 l w hz (len_steps hn) h1 h2
theorem plp_out {AC : List (Sh.T shAcceptor)} {PS : List (Sh.T shProposer)} {D : List (Sh.T .bool)} {z : Bool} {W W' : World} {r : Ending} (h : PlP AC PS D z W r W') : ∃ (a3 : Option Addr) (k3 : Nat) (a4 : Option Addr) (k4 : Nat) (a5 : Option Addr) (k5 : Nat) (S1 S2 : Nat → Prop), r = .returned (.tuple #[.agg #[.slice a3 AC.length k3, .slice a4 PS.length k4], .slice a5 D.length k5, .bool z]) ∧ Own W' shSynod [.slice a3 AC.length k3, .slice a4 PS.length k4] (AC, PS, ()) S1 ∧ Own W' (.list .bool) [.slice a5 D.length k5] D S2 ∧ ((∀ k, S1 k → W.heap.size ≤ k ∧ k < W'.heap.size) ∧ (∀ k, S2 k → W.heap.size ≤ k ∧ k < W'.heap.size) ∧ (∀ k, S1 k → ¬ S2 k)) ∧ Below W.heap.size W W' := by
  obtain ⟨c0, c1, v, S1, S2, rfl, ho, hod, hs1, hs2, hb⟩ := h
  obtain ⟨a3, k3, _, a4, k4, _, hev, _⟩ := own_Synod ho
  simp only [List.cons.injEq, and_true] at hev
  obtain ⟨rfl, rfl⟩ := hev
  obtain ⟨a5, k5, e5, _⟩ := hod.lies
  simp only [List.cons.injEq, and_true] at e5
  subst e5
  exact ⟨a3, k3, a4, k4, a5, k5, S1, S2, rfl, ho, hod, ⟨fun k hk => (hs1 k hk).1, hs2, fun k hk => (hs1 k hk).2⟩, hb⟩
end Go.Proofs.Ytmhkfangfhanlaa
