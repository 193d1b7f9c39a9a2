/- Synods: the program's PlaySynod. -/
import Derived.Test.YtmhkfangfhanlaaPsP
namespace Go.Proofs.Ytmhkfangfhanlaa
open Go.RowKit
set_option linter.unusedVariables false
set_option linter.unusedSimpArgs false

theorem stepSynod_g (cs : List Value) (A : List (Sh.T shAcceptor)) (P : List (Sh.T shProposer)) (acc : Bool) (bal node : Int) (w : World) (E : Option SyD) (hE : stB A P acc bal node = E) (hg : goodS A P) (h : Lies w shSynod cs (A, P, ())) :
    Calls Try.prog 35 #[.agg cs.toArray, .agg #[.bool acc, .int .i64 bal, .int .i64 node]] w (StP E w) := by
  have := stepSynod_n cs A P acc bal node w (by have := good_size hg; omega) h
  rw [stS_good hg, hE] at this
  exact this
theorem PlS.start {w w1 w3 : World} {g : Nat} {S : SyD} {c0 c1 : Value} {n lo hi : Nat} {xs : List Value} {t : TypeId} (hr : Bx w1 w.heap.size [.slice none 0 0, .slice none 0 0]) (hO : Own w1 shSynod [c0, c1] (S.1, S.2, ()) (Btw lo hi)) (hlo : w.heap.size + 1 ≤ lo) (hhi : hi ≤ w1.heap.size) (hB : Below w.heap.size w w1) (hg : g = (w1.alloc (.cells #[c0, c1] t)).heap.size) (hown : w3.ownsRow (w.heap.size + 1) 4 1 (.slice (some ⟨g, 0, none⟩) n n) n xs) (hx : xs = blC (List.replicate n false)) (hgr : (w1.alloc (.cells #[c0, c1] t)).grownBy w3 none) :
    PlS w w1.heap.size w3 S c0 c1 (.slice (some ⟨g, 0, none⟩) n n) (List.replicate n false) := by
  have hb2 : Below w1.heap.size w1 (w1.alloc (.cells #[c0, c1] t)) := Go.Joins.below_alloc1 _ _
  have hb3 : Below (w1.alloc (.cells #[c0, c1] t)).heap.size (w1.alloc (.cells #[c0, c1] t)) w3 := ⟨hgr.os, hgr.tape, hgr.output, hgr.size, fun k hk => hgr.block k hk (fun q => by cases q)⟩
  have hb : Below w1.heap.size w1 w3 := below_next hb2 hb3
  have hz : (w1.alloc (.cells #[c0, c1] t)).heap.size = w1.heap.size + 1 := by simp
  have hlt := hown.lt g rfl
  subst hx
  have hrow : w3.ownsRow (w.heap.size + 1) 4 1 (.slice (some ⟨g, 0, none⟩) n n) (List.replicate n false).length (blC (List.replicate n false)) := by rw [List.length_replicate]; exact hown
  have h1z := hr.2
  refine ⟨hr.next hb, (Bx.new w1 [c0, c1] t).next hb3, ⟨Btw lo hi, fun k => k = g, hO.next hb, OwnX.of_flat (e := .bool) rfl hrow (fun k hk => by cases hk; rfl), fun k hk => ?_, fun k hk => ?_⟩, below_next hB hb, h1z⟩
  · simp only [Btw] at hk
    have := hb.size
    exact ⟨by omega, by omega, by omega, fun q => by have q : k = g := q; omega⟩
  · have hk : k = g := hk
    subst hk
    exact ⟨hlt.1, hlt.2, by omega⟩

set_option maxRecDepth 100000 in
set_option maxHeartbeats 8000000 in
theorem playSynod_n (m : Int) (a1 : Option Addr) (k1 : Nat) (vs : List (Sh.T .str)) (a2 : Option Addr) (k2 : Nat) (l : List (Sh.T shSynodStep)) (w : World) (hz : szD (.list .str) vs ≤ 1073741824) (hn : l.length ≤ 1073741824) (h1 : Lies w (.list .str) [.slice a1 vs.length k1] vs) (h2 : Lies w (.list shSynodStep) [.slice a2 l.length k2] l) :
    Calls Try.prog 12 #[.int .i64 m, .slice a1 vs.length k1, .slice a2 l.length k2] w (PlR m vs l w) := by
  have HL : Hid (Lies w (.list .str) [.slice a1 vs.length k1] vs ∧ Lies w (.list shSynodStep) [.slice a2 l.length k2] l ∧ szD (.list .str) vs ≤ 1073741824) := ⟨h1, h2, hz⟩
  clear h1 h2 hz
  obtain ⟨i0, hi0, hz0, hz1, hz2⟩ := info_parts inf_bool
  obtain ⟨w0, hw0⟩ : ∃ x, x = w.alloc (.cells #[.slice none 0 0, .slice none 0 0] 30) := ⟨_, rfl⟩
  have HB0 : Hid (Bx w0 w.heap.size [.slice none 0 0, .slice none 0 0] ∧ Below w.heap.size w w0 ∧ w0.heap.size = w.heap.size + 1) := ⟨hw0 ▸ Bx.new w [_, _] _, hw0 ▸ Go.Joins.below_alloc1 _ _, by rw [hw0]; simp⟩
  go_enter Try.func12, Try.ntmps12
  go_wp2_with fail
  rw [← hw0]
  clear hw0
  refine (newSynod_n m a1 k1 vs _ HL.out.2.2 (HL.out.1.next HB0.out.2.1)).mono ?_
  rintro r w1 ⟨cs, rfl, ho, hb⟩
  obtain ⟨p1, q1, _, p2, q2, _, hev, _⟩ := own_Synod ho
  subst hev
  have HB1 : Hid (Bx w1 w.heap.size [.slice none 0 0, .slice none 0 0] ∧ Below w.heap.size w w1) := ⟨HB0.out.1.next hb, below_next HB0.out.2.1 hb⟩
  have HO : Hid (Own w1 shSynod [.slice p1 (nwAc m vs).length q1, .slice p2 (nwPs m vs).length q2] (nwAc m vs, nwPs m vs, ()) (Btw w0.heap.size w1.heap.size) ∧ w0.heap.size = w.heap.size + 1) := ⟨ho, HB0.out.2.2⟩
  clear ho hb HB0
  have r0 := (HB1.out.1).cell 0 rfl; have r1 := (HB1.out.1).cell 1 rfl; have rz := (HB1.out.1).2
  have rf0 := HB1.out.1.frz 0 (by simp)
  have rf1 := HB1.out.1.frz 1 (by simp)
  have HE : Hid (∀ (u0 u1 : Value) (o : Obj), Below w.heap.size w (((w1.setCell ⟨w.heap.size, 0, none⟩ u0).setCell ⟨w.heap.size, 1, none⟩ u1).alloc o)) := Hid.intro (fun u0 u1 o => ((HB1.out.2.setCell (p := ⟨w.heap.size, 0, none⟩) (Nat.le_refl _) _).setCell (p := ⟨w.heap.size, 1, none⟩) (Nat.le_refl _) _).alloc (by have := HB1.out.2.size; simp; omega) _)
  by_cases c0 : nwP m vs
  case neg =>
    have HN : Hid (¬ plOk m vs l) := Hid.intro (fun q => c0 q.1)
    rw [tf_no c0]
    clear c0
    go_wp2_with fail
    exact bodyPost_ret (v := .tuple #[.agg #[.slice none 0 0, .slice none 0 0], .slice none 0 0, .bool false]) (by simp [results, Try.results12, go_sem, *]) rfl (PlR.no HN.out (HE.out _ _ _))
  rw [tf_yes c0]
  by_cases c1 : l.length ≤ 120
  case neg =>
    have HN : Hid (¬ plOk m vs l) := Hid.intro (fun q => c1 q.2)
    have c1' : (120 : Int) < (l.length : Int) := by omega
    clear c0 c1
    go_wp2_with fail
    exact bodyPost_ret (v := .tuple #[.agg #[.slice none 0 0, .slice none 0 0], .slice none 0 0, .bool false]) (by simp [results, Try.results12, go_sem, *]) rfl (PlR.no HN.out (HE.out _ _ _))
  have c1' : (l.length : Int) ≤ 120 := by omega
  have HY : Hid (plA m vs l = plF (pl0 m vs) l ∧ tf (plOk m vs l) = true) := Hid.intro (pl_yes ⟨c0, c1⟩)
  have HG0 : Hid (goodS (pl0 m vs).1 (pl0 m vs).2) := Hid.intro (good_new c0)
  have HAC := nw_some c0
  have HO2 : Hid (Own w1 shSynod [.slice p1 (pl0 m vs).1.length q1, .slice p2 (pl0 m vs).2.length q2] ((pl0 m vs).1, (pl0 m vs).2, ()) (Btw w0.heap.size w1.heap.size) ∧ w0.heap.size = w.heap.size + 1) := Hid.intro (by have := HO.out; rw [HAC.1, HAC.2.1] at this; exact this)
  rw [show nwAc m vs = (pl0 m vs).1 from HAC.1, show nwPs m vs = (pl0 m vs).2 from HAC.2.1]
  obtain ⟨S0, hS0⟩ : ∃ S, pl0 m vs = S := ⟨_, rfl⟩
  rw [hS0] at HO2 HG0 HY ⊢
  clear HO HAC c0 HE hS0
  obtain ⟨w2, hw2⟩ : ∃ x, x = w1.alloc (.cells #[.slice p1 S0.1.length q1, .slice p2 S0.2.length q2] 30) := ⟨_, rfl⟩
  have hwz : w.heap.size + 1 ≤ w2.heap.size := by have := HB1.out.2.size; rw [hw2]; simp; omega
  go_wp2_with (at_make; rw [← hw2]; refine wpList_make_full _ rfl (.tmp 31) (.tmp 31) 31 rfl (w.heap.size + 1) 4 i0 (.bool false) 1 Try.underlying31 hi0 hz0 hz1 .i64 .i64 _ _ l.length rfl rfl rfl rfl (by rw [hz2]; omega) (by unfold maxLen; omega) hwz ?_; intro w3 hown hgrow; have HW2 := Hid.intro hw2; clear hw2)
  obtain ⟨g, hg⟩ : ∃ g, g = w2.heap.size := ⟨_, rfl⟩
  have HI : Hid (PlS w w1.heap.size w3 S0 (.slice p1 S0.1.length q1) (.slice p2 S0.2.length q2) (.slice (some ⟨g, 0, none⟩) l.length l.length) ([] ++ List.replicate (l.length - 0) false)) := Hid.intro (PlS.start (t := 30) HB1.out.1 HO2.out.1 (by have := HO2.out.2; omega) (Nat.le_refl _) HB1.out.2 (HW2.out ▸ hg) (hg ▸ hown) (by
    have e := toList_madeCells_one (.bool false) (l.length * 1)
    have e2 : blC (List.replicate l.length false) = List.replicate l.length (Value.bool false) := by
      have : ∀ n : Nat, blC (List.replicate n false) = List.replicate n (Value.bool false) := by
        intro n
        induction n with
        | zero => rfl
        | succ n ih => rw [List.replicate_succ, List.replicate_succ, ← ih]; rfl
      exact this _
    rw [e2]
    rw [Nat.mul_one] at e ⊢
    exact e) (HW2.out ▸ hgrow))
  obtain ⟨b, hbE⟩ : ∃ b, b = w1.heap.size := ⟨_, rfl⟩
  rw [← hbE] at HI ⊢
  rw [← hg]
  clear hown hgrow HW2 hwz hbE hg HO2 HB1 r0 r1 rz rf0 rf1
  go_loopw [35] (fun i wr => ∃ (k : Nat) (p3 : Option Addr) (q3 : Nat) (p4 : Option Addr) (q4 : Nat), k ≤ l.length ∧ i = .int .i64 k ∧ PlS w b wr (plF S0 (l.take k)).1 (.slice p3 (plF S0 (l.take k)).1.1.length q3) (.slice p4 (plF S0 (l.take k)).1.2.length q4) (.slice (some ⟨g, 0, none⟩) l.length l.length) ((plF S0 (l.take k)).2 ++ List.replicate (l.length - k) false)) (fun i _ => l.length - (intOf i).toNat)
  case atStart => exact ⟨0, p1, q1, p2, q2, Nat.zero_le _, rfl, HI.out⟩
  case round =>
    obtain ⟨k, p3, q3, p4, q4, hk, rfl, hC⟩ := hrel
    clear HI
    have HG : Hid (goodS (plF S0 (l.take k)).1.1 (plF S0 (l.take k)).1.2) := Hid.intro (pl_good HG0.out hk)
    have HDL : Hid ((plF S0 (l.take k)).2.length = k) := Hid.intro (pl_len hk)
    by_cases hlt : k < l.length
    · have hlt' : (k : Int) < (l.length : Int) := by omega
      have HLE : Hid (Lies wr (.list shSynodStep) [.slice a2 l.length k2] l) := HL.out.2.1.next hC.2.2.2.1
      obtain ⟨xg, xoff, xgo, xgs, xec, xel, xhec, xle⟩ := Lies.elem (HLE.out) hlt
      subst xgo
      rcases xX : l[k] with ⟨x0, x1, x2, ⟨⟩⟩
      rw [xX] at xle
      have xH : Hid (l[k] = (x0, x1, x2, ())) := xX
      clear xX
      obtain xev := lies_SynodStep xle
      subst xev
      have xc0 : wr.cell? ⟨xg, xoff + k * 3, none⟩ = some (.bool x0) := xhec 0 (by simp)
      have xc1 : wr.cell? ⟨xg, xoff + k * 3 + 1, none⟩ = some (.int .i64 x1) := xhec 1 (by simp)
      have xc2 : wr.cell? ⟨xg, xoff + k * 3 + 2, none⟩ = some (.int .i64 x2) := xhec 2 (by simp)
      clear xhec xel xle
      obtain ⟨E, hE⟩ : ∃ E, stB (plF S0 (l.take k)).1.1 (plF S0 (l.take k)).1.2 x0 x1 x2 = E := ⟨_, rfl⟩
      have HPD : Hid (plF S0 (l.take (k + 1)) = (E.getD (plF S0 (l.take k)).1, (plF S0 (l.take k)).2 ++ [E.isSome])) := Hid.intro (pl_done hlt xH.out E hE)
      have HEE : Hid (stB (plF S0 (l.take k)).1.1 (plF S0 (l.take k)).1.2 x0 x1 x2 = E) := hE
      clear hE HLE
      generalize plF S0 (l.take k) = F at hC HG HDL HPD HEE
      obtain ⟨⟨A, P⟩, D⟩ := F
      have HC : Hid (PlS w b wr (A, P) (.slice p3 A.length q3) (.slice p4 P.length q4) (.slice (some ⟨g, 0, none⟩) l.length l.length) (D ++ List.replicate (l.length - k) false)) := hC
      have s0 := hC.2.1.cell 0 rfl
      have s1 := hC.2.1.cell 1 rfl
      have sz := hC.2.1.2
      clear hC
      obtain ⟨W1, hW1⟩ : ∃ x, x = wr.alloc (.cells #[.bool x0, .int .i64 x1, .int .i64 x2] 65) := ⟨_, rfl⟩
      have HW1 : Hid (Below wr.heap.size wr W1) := hW1 ▸ Go.Joins.below_alloc1 _ _
      go_wp2_with fail
      rw [← hW1]
      clear hW1
      cases E with
      | none =>
        refine (stepSynod_g [.slice p3 A.length q3, .slice p4 P.length q4] A P x0 x1 x2 _ none HEE.out HG.out (by
          obtain ⟨_, _, ⟨_, _, q, _⟩, _⟩ := HC.out
          exact q.lies.next HW1.out)).mono ?_
        rintro r W2 ⟨cs2, rfl, ho, hb⟩
        obtain ⟨p5, q5, _, p6, q6, _, hev, _⟩ := own_Synod ho
        subst hev
        have HF : Hid (∀ o : Obj, PlS w b (W2.alloc o) (A, P) (.slice p3 A.length q3) (.slice p4 P.length q4) (.slice (some ⟨g, 0, none⟩) l.length l.length) ((D ++ [false]) ++ List.replicate (l.length - (k + 1)) false)) := Hid.intro (fun o => by rw [← pl_rest HDL.out hlt]; exact HC.out.next (below_next (below_next HW1.out hb) (Go.Joins.below_alloc1 _ _)))
        clear ho hb s0 s1 sz xc0 xc1 xc2
        simp only [Option.isSome_none]
        go_wp2_with fail
        go_roundw
        case rel => exact ⟨k + 1, p3, q3, p4, q4, by omega, by go_num, by rw [HPD.out]; exact HF.out _⟩
        case measure => simp [intOf]; omega
      | some y =>
        refine (stepSynod_g [.slice p3 A.length q3, .slice p4 P.length q4] A P x0 x1 x2 _ (some y) HEE.out HG.out (by
          obtain ⟨_, _, ⟨_, _, q, _⟩, _⟩ := HC.out
          exact q.lies.next HW1.out)).mono ?_
        rintro r W2 ⟨cs2, rfl, ho, hb⟩
        obtain ⟨p5, q5, _, p6, q6, _, hev, _⟩ := own_Synod ho
        have hev : cs2 = [.slice p5 y.1.length q5, .slice p6 y.2.length q6] := hev
        subst hev
        have H2 : Hid (PlS w b ((W2.setCell ⟨b, 0, none⟩ (.slice p5 y.1.length q5)).setCell ⟨b, 1, none⟩ (.slice p6 y.2.length q6)) y (.slice p5 y.1.length q5) (.slice p6 y.2.length q6) (.slice (some ⟨g, 0, none⟩) l.length l.length) (D ++ List.replicate (l.length - k) false)) := Hid.intro (HC.out.put (below_next HW1.out hb) ho HW1.out.size (Nat.le_refl _))
        have HDD := H2.out.did (k := k) (by rw [List.length_append, List.length_replicate, HDL.out]; omega) hlt
        have HF : Hid (∀ o : Obj, PlS w b ((((W2.setCell ⟨b, 0, none⟩ (.slice p5 y.1.length q5)).setCell ⟨b, 1, none⟩ (.slice p6 y.2.length q6)).setCell ⟨g, k, none⟩ (.bool true)).alloc o) y (.slice p5 y.1.length q5) (.slice p6 y.2.length q6) (.slice (some ⟨g, 0, none⟩) l.length l.length) ((D ++ [true]) ++ List.replicate (l.length - (k + 1)) false)) := Hid.intro (fun o => by rw [← pl_set HDL.out hlt]; exact HDD.2.2.2.next (Go.Joins.below_alloc1 _ _))
        have HC2 := Hid.intro (HC.out.next (below_next HW1.out hb))
        have HD2 := HC2.out.did (k := k) (by rw [List.length_append, List.length_replicate, HDL.out]; omega) hlt
        obtain ⟨⟨u, hu⟩, hfz, hgz, _⟩ := HD2
        have hgb : g ≠ b := by
          obtain ⟨_, _, ⟨_, Sd, _, q4, _, q6⟩, _⟩ := HC2.out
          exact (q6 g ((q4.flat rfl).2 g rfl)).2.2
        have hbg : b ≠ g := Ne.symm hgb
        clear ho hb s0 s1 sz xc0 xc1 xc2 HDD H2
        have s0 := HC2.out.2.1.cell 0 rfl
        have s1 := HC2.out.2.1.cell 1 rfl
        have sz := HC2.out.2.1.2
        have sf0 := HC2.out.2.1.frz 0 (by simp)
        have sf1 := HC2.out.2.1.frz 1 (by simp)
        have HR : Hid (PlS w b W2 (A, P) (.slice p3 A.length q3) (.slice p4 P.length q4) (.slice (some ⟨g, 0, none⟩) l.length l.length) (D ++ List.replicate (l.length - k) false)) := HC2
        clear HC2
        simp only [Option.isSome_some]
        go_wp2_with fail
        go_roundw
        case rel => exact ⟨k + 1, p5, q5, p6, q6, by omega, by go_num, by rw [HPD.out]; exact HF.out _⟩
        case measure => simp [intOf]; omega
    · have hkn : k = l.length := by omega
      have HC : Hid (PlS w b wr (plF S0 l).1 (.slice p3 (plF S0 l).1.1.length q3) (.slice p4 (plF S0 l).1.2.length q4) (.slice (some ⟨g, 0, none⟩) l.length l.length) (plF S0 l).2) := Hid.intro (by
        have := hC
        rw [hkn, List.take_length, Nat.sub_self, List.replicate_zero, List.append_nil] at this
        exact this)
      clear hC HG HDL hkn
      have HP : Hid (PlR m vs l w (.returned (.tuple #[.agg #[.slice p3 (plF S0 l).1.1.length q3, .slice p4 (plF S0 l).1.2.length q4], .slice (some ⟨g, 0, none⟩) l.length l.length, .bool true])) ((wr.setCell ⟨w.heap.size, 0, none⟩ (.slice p3 (plF S0 l).1.1.length q3)).setCell ⟨w.heap.size, 1, none⟩ (.slice p4 (plF S0 l).1.2.length q4))) := Hid.intro (by
        unfold PlR; rw [HY.out.1, HY.out.2]; exact HC.out.done)
      have s0 := HC.out.2.1.cell 0 rfl
      have s1 := HC.out.2.1.cell 1 rfl
      have sz := HC.out.2.1.2
      have r0 := HC.out.1.cell 0 rfl
      have r1 := HC.out.1.cell 1 rfl
      have rz := HC.out.1.2
      have rf0 := HC.out.1.frz 0 (by simp)
      have rf1 := HC.out.1.frz 1 (by simp)
      go_wp2_with fail
      exact bodyPost_ret (v := .tuple #[.agg #[.slice p3 (plF S0 l).1.1.length q3, .slice p4 (plF S0 l).1.2.length q4], .slice (some ⟨g, 0, none⟩) l.length l.length, .bool true]) (by simp [results, Try.results12, go_sem, *]) rfl HP.out
end Go.Proofs.Ytmhkfangfhanlaa
