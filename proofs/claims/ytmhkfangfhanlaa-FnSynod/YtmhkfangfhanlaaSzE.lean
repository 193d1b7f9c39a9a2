/- Synods: spec.StepSynod. -/
import Derived.Test.YtmhkfangfhanlaaSzD
import Derived.Test.YtmhkfangfhanlaaSyS
namespace Go.Proofs.Ytmhkfangfhanlaa
open Go.RowKit
set_option linter.unusedVariables false
set_option linter.unusedSimpArgs false

theorem StP.done {A : Option (List (Sh.T shAcceptor) × List (Sh.T shProposer))} {w W : World} {va vp : Value} {x : List (Sh.T shAcceptor) × List (Sh.T shProposer)} {S2 : Nat → Prop} (h : A = Option.some x) (hO : OwnX W w.heap.size tySynod [va, vp] (x.1, x.2, ()) S2) (hS : ∀ k, S2 k → w.heap.size + 1 + 1 < k ∧ k < W.heap.size) (hb : Below w.heap.size w W) (u0 u1 : Value) : StP A w (.returned (.tuple #[.agg #[va, vp], .bool true])) ((W.setCell ⟨w.heap.size + 1 + 1, 0, none⟩ u0).setCell ⟨w.heap.size + 1 + 1, 1, none⟩ u1) := by
  have hn : ¬ S2 (w.heap.size + 1 + 1) := fun q => by have := (hS _ q).1; omega
  have h1 := (hO.set (p := ⟨w.heap.size + 1 + 1, 0, none⟩) hn u0).set (p := ⟨w.heap.size + 1 + 1, 1, none⟩) hn u1
  exact StP.some h h1 (fun k hk => by have := hS k hk; simp only [Btw, World.size_setCell]; omega) ((hb.setCell (p := ⟨w.heap.size + 1 + 1, 0, none⟩) (by simp; omega) _).setCell (p := ⟨w.heap.size + 1 + 1, 1, none⟩) (by simp; omega) _)
theorem box_done {w W : World} {b7 : Nat} {s : Ty} {cs : List Value} {x : s.T} {S2 : Nat → Prop} (h7 : Bx W b7 [.slice none 0 0, .slice none 0 0]) (hb7 : w.heap.size + 1 + 1 < b7) (hO : OwnX W w.heap.size s cs x S2) (hS : ∀ k, S2 k → w.heap.size + 1 + 1 < k ∧ k < W.heap.size ∧ k ≠ b7) (hr : Bx W (w.heap.size + 1 + 1) [.slice none 0 0, .slice none 0 0]) (hb : Below w.heap.size w W) (va vp : Value) :
    Bx ((W.setCell ⟨b7, 0, none⟩ va).setCell ⟨b7, 1, none⟩ vp) b7 [va, vp] ∧ OwnX ((W.setCell ⟨b7, 0, none⟩ va).setCell ⟨b7, 1, none⟩ vp) w.heap.size s cs x S2 ∧ (∀ k, S2 k → w.heap.size + 1 + 1 < k ∧ k < ((W.setCell ⟨b7, 0, none⟩ va).setCell ⟨b7, 1, none⟩ vp).heap.size) ∧ Bx ((W.setCell ⟨b7, 0, none⟩ va).setCell ⟨b7, 1, none⟩ vp) (w.heap.size + 1 + 1) [.slice none 0 0, .slice none 0 0] ∧ Below w.heap.size w ((W.setCell ⟨b7, 0, none⟩ va).setCell ⟨b7, 1, none⟩ vp) :=
  ⟨(h7.set (k := 0) (by simp) va).set (k := 1) (by simp) vp, (hO.set (p := ⟨b7, 0, none⟩) (fun q => (hS _ q).2.2 rfl) va).set (p := ⟨b7, 1, none⟩) (fun q => (hS _ q).2.2 rfl) vp, fun k hk => ⟨(hS k hk).1, by simp only [World.size_setCell]; exact (hS k hk).2.1⟩, (hr.other (by omega)).other (by omega), (hb.setCell (p := ⟨b7, 0, none⟩) (by show w.heap.size ≤ b7; omega) va).setCell (p := ⟨b7, 1, none⟩) (by show w.heap.size ≤ b7; omega) vp⟩
theorem StQ.out {w w' : World} {lo : Nat} {S : Nat → Prop} {va vp : Value} {ac : List (Sh.T shAcceptor)} {pr : List (Sh.T shProposer)} {A : Option (List (Sh.T shAcceptor) × List (Sh.T shProposer))} {r : Ending} (h : StQ w lo S va vp ac pr A r w') : ∃ S2 : Nat → Prop, r = .returned (.tuple #[.agg #[va, vp], .bool A.isSome]) ∧ OwnX w' lo tySynod [va, vp] ((A.getD (ac, pr)).1, (A.getD (ac, pr)).2, ()) S2 ∧ (∀ k, S2 k → S k ∨ (w.heap.size ≤ k ∧ k < w'.heap.size)) ∧ TurnS S w w' := ⟨_, h.1, h.2.1, fun _ q => q, h.2.2⟩
theorem toX_out {W w0 w' : World} {r : Ending} {ac : List (Sh.T shAcceptor)} {ps : List (Sh.T shProposer)} (h : ToX tySynod (ac, ps, ()) W r w') (hb0 : Below w0.heap.size w0 W) : ∃ (a3 : Option Addr) (k3 : Nat) (a4 : Option Addr) (k4 : Nat) (SO : Nat → Prop), r = .returned (.agg #[.slice a3 (List.length (α := Sh.T shAcceptor) ac) k3, .slice a4 (List.length (α := Sh.T shProposer) ps) k4]) ∧ OwnX w' w0.heap.size tySynod [.slice a3 (List.length (α := Sh.T shAcceptor) ac) k3, .slice a4 (List.length (α := Sh.T shProposer) ps) k4] (ac, ps, ()) SO ∧ (∀ k, SO k → W.heap.size ≤ k ∧ k < w'.heap.size) ∧ Below W.heap.size W w' := by
  obtain ⟨cs, rfl, hO, hb⟩ := h
  obtain ⟨va, S1, vp, S2, hcs, q1, q2, _⟩ := ownx_Synod hO
  subst hcs
  obtain ⟨a3, k3, e3⟩ := q1.vform
  obtain ⟨a4, k4, e4⟩ := q2.vform
  subst e3 e4
  exact ⟨a3, k3, a4, k4, Btw W.heap.size w'.heap.size, rfl, hO.lower hb0.size, fun k hk => hk, hb⟩

set_option maxRecDepth 100000 in
set_option maxHeartbeats 4000000 in
theorem specStepSynod_n (cs : List Value) (ac : List (Sh.T shAcceptor)) (ps : List (Sh.T shProposer)) (acc : Bool) (bal node : Int) (w : World) (hz : szD shSynod (ac, ps, ()) ≤ 1073741824) (h : Lies w shSynod cs (ac, ps, ())) :
    Calls Try.prog 33 #[.agg cs.toArray, .agg #[.bool acc, .int .i64 bal, .int .i64 node]] w (StP (stS ac ps acc bal node) w) := by
  obtain ⟨a1, k1, a2, k2, rfl, h1, h2⟩ := lies_Synod h
  have HL : Hid (Lies w (.list shAcceptor) [.slice a1 ac.length k1] ac ∧ Lies w (.list shProposer) [.slice a2 ps.length k2] ps) := ⟨h1, h2⟩
  have HZ : Hid (szD shSynod (ac, ps, ()) ≤ 1073741824) := hz
  clear h h1 h2 hz
  obtain ⟨w0, hw0⟩ : ∃ x, x = ((w.alloc (.cells #[.slice a1 ac.length k1, .slice a2 ps.length k2] 30)).alloc (.cells #[.bool acc, .int .i64 bal, .int .i64 node] 65)).alloc (.cells #[.slice none 0 0, .slice none 0 0] 30) := ⟨_, rfl⟩
  have HB0 : Hid (Bx w0 w.heap.size [.slice a1 ac.length k1, .slice a2 ps.length k2] ∧ Bx w0 (w.heap.size + 1) [.bool acc, .int .i64 bal, .int .i64 node] ∧ Bx w0 (w.heap.size + 1 + 1) [.slice none 0 0, .slice none 0 0] ∧ Below w.heap.size w w0) :=
    ⟨hw0 ▸ ((Bx.new w [_, _] _).alloc _).alloc _, hw0 ▸ (Bx.newAt (by simp)).alloc _, hw0 ▸ Bx.newAt (by simp), hw0 ▸ (((Below.refl _ _).alloc (Nat.le_refl _) _).alloc (by simp) _).alloc (by simp; omega) _⟩
  go_enter Try.func33, Try.ntmps33
  go_wp2_with fail
  rw [← hw0]
  clear hw0
  refine (specGoodSynod_n [.slice a1 ac.length k1, .slice a2 ps.length k2] ac ps _ HZ.out (mk_Synod (HL.out.1.next HB0.out.2.2.2) (HL.out.2.next HB0.out.2.2.2))).mono ?_
  rintro r w1 ⟨rfl, hb⟩
  have HB1 : Hid (Bx w1 w.heap.size [.slice a1 ac.length k1, .slice a2 ps.length k2] ∧ Bx w1 (w.heap.size + 1) [.bool acc, .int .i64 bal, .int .i64 node] ∧ Bx w1 (w.heap.size + 1 + 1) [.slice none 0 0, .slice none 0 0] ∧ Below w.heap.size w w1) := ⟨HB0.out.1.next hb, HB0.out.2.1.next hb, HB0.out.2.2.1.next hb, below_next HB0.out.2.2.2 hb⟩
  clear hb HB0
  by_cases c0 : goodS ac ps
  case neg =>
    rw [tf_no c0]
    have HN : Hid (stS ac ps acc bal node = none) := Hid.intro (stS_no c0)
    have r0 := (HB1.out.2.2.1).cell 0 rfl; have r1 := (HB1.out.2.2.1).cell 1 rfl; have rz := (HB1.out.2.2.1).2
    have rf0 := HB1.out.2.2.1.frz 0 (by simp)
    have rf1 := HB1.out.2.2.1.frz 1 (by simp)
    clear c0
    go_wp2_with fail
    exact bodyPost_ret (v := .tuple #[.agg #[.slice none 0 0, .slice none 0 0], .bool false]) (by simp [results, Try.results33, go_sem, *]) rfl (StP.zero HN.out ((HB1.out.2.2.2.setCell (p := ⟨w.heap.size + 1 + 1, 0, none⟩) (by simp; omega) _).setCell (p := ⟨w.heap.size + 1 + 1, 1, none⟩) (by simp; omega) _))
  rw [tf_yes c0]
  have HG : Hid (goodS ac ps) := c0
  have HS : Hid (stS ac ps acc bal node = stB ac ps acc bal node) := Hid.intro (stS_good c0)
  clear c0
  have HD : Hid (Bx w1.drew w.heap.size [.slice a1 ac.length k1, .slice a2 ps.length k2] ∧ Bx w1.drew (w.heap.size + 1) [.bool acc, .int .i64 bal, .int .i64 node] ∧ Bx w1.drew (w.heap.size + 1 + 1) [.slice none 0 0, .slice none 0 0] ∧ Below w.heap.size w w1.drew) := ⟨HB1.out.1.next (below_drew _), HB1.out.2.1.next (below_drew _), HB1.out.2.2.1.next (below_drew _), below_next HB1.out.2.2.2 (below_drew _)⟩
  clear HB1
  go_upto_region 3 with fail
  refine wp_region_noPanic ?_
  refine wp_region_held_drew (S := fun W => Bx W w.heap.size [.slice a1 ac.length k1, .slice a2 ps.length k2] ∧ Bx W (w.heap.size + 1) [.bool acc, .int .i64 bal, .int .i64 node]) (by kernel_rfl) ⟨HD.out.1, HD.out.2.1⟩ (fun hHeld => ?_)
  obtain ⟨X0, hX0⟩ : ∃ x, x = w1.drew := ⟨_, rfl⟩
  rw [← hX0] at HD hHeld ⊢
  clear hX0
  refine take_v (v := ?_) 0 ⟨some 13, Op.load 30 (Operand.tmp 2), _, _, _, none⟩ rfl (fun _ _ _ h => h) ?_ hHeld ?_
  rotate_left
  · (intro W hSW; (have s0 := hSW.1.cell 0 rfl; have s1 := hSW.1.cell 1 rfl; have sz := hSW.1.2; have t0 := hSW.2.cell 0 rfl; have t1 := hSW.2.cell 1 rfl; have t2 := hSW.2.cell 2 rfl; have tz := hSW.2.2); go_simp <;> (try with_reducible rfl))
  refine take_v (v := ?_) 2 ⟨some 15, Op.load 65 (Operand.tmp 3), _, _, _, none⟩ rfl (fun _ _ _ h => h) ?_ hHeld ?_
  rotate_left
  · (intro W hSW; (have s0 := hSW.1.cell 0 rfl; have s1 := hSW.1.cell 1 rfl; have sz := hSW.1.2; have t0 := hSW.2.cell 0 rfl; have t1 := hSW.2.cell 1 rfl; have t2 := hSW.2.cell 2 rfl; have tz := hSW.2.2); go_simp <;> (try with_reducible rfl))
  refine ready_two 1 7 ⟨some 14, Op.call { callee := Callee.value (Operand.func 49), args := #[Operand.tmp 13], argTypes := #[30] }, _, _, _, none⟩ ⟨some 6, Op.alloc 30, _, _, _, none⟩ (by kernel_rfl) rfl rfl (by kernel_rfl) (by kernel_rfl) (fun KC hK => ?_) (fun KC hK => ?_)
  ·
    go_wp2_with fail
    refine (l10Own_n [.slice a1 ac.length k1, .slice a2 ps.length k2] ac ps _ HZ.out (mk_Synod (HL.out.1.next HD.out.2.2.2) (HL.out.2.next HD.out.2.2.2))).mono ?_
    intro r W1 hT1
    obtain ⟨a3, k3, a4, k4, SO, rfl, hO, hSO, hb⟩ := toX_out hT1 HD.out.2.2.2
    have hz1 := HD.out.2.2.1.2
    (first | (have HO1 := (show Hid (OwnX W1 w.heap.size tySynod [.slice a3 ac.length k3, .slice a4 ps.length k4] (ac, ps, ()) SO ∧ (∀ k, SO k → w.heap.size + 1 + 1 < k ∧ k < W1.heap.size ∧ k ≠ b7)) from ⟨hO, fun k hk => ⟨Nat.lt_of_lt_of_le hz1 (hSO k hk).1, (hSO k hk).2, fun e => by have h1 := (hSO k hk).1; have h2 := H7.out.1.2; omega⟩⟩)) | (have HO1 := (show Hid (OwnX W1 w.heap.size tySynod [.slice a3 ac.length k3, .slice a4 ps.length k4] (ac, ps, ()) SO ∧ (∀ k, SO k → w.heap.size + 1 + 1 < k ∧ k < W1.heap.size)) from ⟨hO, fun k hk => ⟨Nat.lt_of_lt_of_le hz1 (hSO k hk).1, (hSO k hk).2⟩⟩)))
    have HD := (show Hid (Bx W1 w.heap.size [.slice a1 ac.length k1, .slice a2 ps.length k2] ∧ Bx W1 (w.heap.size + 1) [.bool acc, .int .i64 bal, .int .i64 node] ∧ Bx W1 (w.heap.size + 1 + 1) [.slice none 0 0, .slice none 0 0] ∧ Below w.heap.size w W1) from ⟨HD.out.1.next hb, HD.out.2.1.next hb, HD.out.2.2.1.next hb, below_next HD.out.2.2.2 hb⟩)
    (first | (have H7 := (show Hid (Bx W1 b7 [.slice none 0 0, .slice none 0 0] ∧ w.heap.size + 1 + 1 < b7) from ⟨H7.out.1.next hb, H7.out.2⟩)) | skip)
    clear hb hO hSO hT1 hz1
    refine hK.out _ _ ⟨HD.out.1, HD.out.2.1⟩ (fun hHeld => ?_)
    clear hK KC
    refine ready_two 3 7 ⟨some 16, Op.call { callee := Callee.value (Operand.func 48), args := #[Operand.tmp 14, Operand.tmp 15], argTypes := #[30, 65] }, _, _, _, none⟩ ⟨some 6, Op.alloc 30, _, _, _, none⟩ (by kernel_rfl) rfl rfl (by kernel_rfl) (by kernel_rfl) (fun KC hK => ?_) (fun KC hK => ?_)
    ·
      go_wp2_with fail
      refine (l10Step_n _ _ ac ps acc bal node w.heap.size SO _ HG.out HO1.out.1 (fun k hk => by have := HO1.out.2 k hk; omega) HD.out.2.2.2.size).mono ?_
      intro r W2 hQ2
      obtain ⟨S2, rfl, hO2, hS2, hT⟩ := hQ2.out
      have hzz := HD.out.2.2.1.2
      (first | (have HO2 := (show Hid (OwnX W2 w.heap.size tySynod [.slice a3 ac.length k3, .slice a4 ps.length k4] (((stB ac ps acc bal node).getD (ac, ps)).1, ((stB ac ps acc bal node).getD (ac, ps)).2, ()) S2 ∧ (∀ k, S2 k → w.heap.size + 1 + 1 < k ∧ k < W2.heap.size ∧ k ≠ b7)) from ⟨hO2, fun k hk => by have h7 := H7.out.1.2; have hz := hT.size; rcases hS2 k hk with q | q; (· have := HO1.out.2 k q; omega); (have q := q; omega)⟩)) | (have HO2 := (show Hid (OwnX W2 w.heap.size tySynod [.slice a3 ac.length k3, .slice a4 ps.length k4] (((stB ac ps acc bal node).getD (ac, ps)).1, ((stB ac ps acc bal node).getD (ac, ps)).2, ()) S2 ∧ (∀ k, S2 k → w.heap.size + 1 + 1 < k ∧ k < W2.heap.size)) from ⟨hO2, fun k hk => by have hz := hT.size; rcases hS2 k hk with q | q; (· have := HO1.out.2 k q; omega); (have q := q; omega)⟩)))
      (first | (have H7 := (show Hid (Bx W2 b7 [.slice none 0 0, .slice none 0 0] ∧ w.heap.size + 1 + 1 < b7) from ⟨H7.out.1.turnS hT (fun q => (HO1.out.2 _ q).2.2 rfl), H7.out.2⟩)) | skip)
      have HD := (show Hid (Bx W2 w.heap.size [.slice a1 ac.length k1, .slice a2 ps.length k2] ∧ Bx W2 (w.heap.size + 1) [.bool acc, .int .i64 bal, .int .i64 node] ∧ Bx W2 (w.heap.size + 1 + 1) [.slice none 0 0, .slice none 0 0] ∧ Below w.heap.size w W2) from ⟨HD.out.1.turnS hT (fun q => by have := (HO1.out.2 _ q).1; omega), HD.out.2.1.turnS hT (fun q => by have := (HO1.out.2 _ q).1; omega), HD.out.2.2.1.turnS hT (fun q => by have := (HO1.out.2 _ q).1; omega), HD.out.2.2.2.trans (hT.below (fun k q => by have := (HO1.out.2 k q).1; omega) HD.out.2.2.2.size)⟩)
      clear hO2 hT hS2 hzz hQ2
      refine hK.out _ _ ⟨HD.out.1, HD.out.2.1⟩ (fun hHeld => ?_)
      clear hK KC
      refine take_v (v := ?_) 4 ⟨some 12, Op.move (Operand.tmp 16), _, _, _, none⟩ rfl (fun _ _ _ h => h) ?_ hHeld ?_
      rotate_left
      · (intro W _; go_simp <;> (try with_reducible rfl))
      refine take_v (v := ?_) 5 ⟨some 17, Op.extract (Operand.tmp 12) 0, _, _, _, none⟩ rfl (fun _ _ _ h => h) ?_ hHeld ?_
      rotate_left
      · (intro W _; go_simp <;> (try with_reducible rfl))
      refine take_v (v := ?_) 6 ⟨some 18, Op.extract (Operand.tmp 12) 1, _, _, _, none⟩ rfl (fun _ _ _ h => h) ?_ hHeld ?_
      rotate_left
      · (intro W _; go_simp <;> (try with_reducible rfl))
      refine ready_call 7 ⟨some 6, Op.alloc 30, _, _, _, none⟩ (by kernel_rfl) rfl (by kernel_rfl) (fun KC hK => ?_)
      go_wp2_with fail
      (first | (obtain ⟨W7, hW7⟩ : ∃ x, x = W2.alloc (.cells #[.slice none 0 0, .slice none 0 0] 30) := ⟨_, rfl⟩; have hb : Below W2.heap.size W2 W7 := hW7 ▸ Go.Joins.below_alloc1 _ _; obtain ⟨b7, hb7⟩ : ∃ b, b = W2.heap.size := ⟨_, rfl⟩; have H7 : Hid (Bx W7 b7 [.slice none 0 0, .slice none 0 0] ∧ w.heap.size + 1 + 1 < b7) := ⟨hb7 ▸ hW7 ▸ Bx.new W2 [_, _] _, by have := HD.out.2.2.1.2; omega⟩; have HO2 := (show Hid (OwnX W7 w.heap.size tySynod [.slice a3 ac.length k3, .slice a4 ps.length k4] (((stB ac ps acc bal node).getD (ac, ps)).1, ((stB ac ps acc bal node).getD (ac, ps)).2, ()) S2 ∧ (∀ k, S2 k → w.heap.size + 1 + 1 < k ∧ k < W7.heap.size ∧ k ≠ b7)) from ⟨HO2.out.1.next hb, fun k hk => ⟨(HO2.out.2 k hk).1, Nat.lt_of_lt_of_le (HO2.out.2 k hk).2 hb.size, by have := (HO2.out.2 k hk).2; omega⟩⟩); have HD := (show Hid (Bx W7 w.heap.size [.slice a1 ac.length k1, .slice a2 ps.length k2] ∧ Bx W7 (w.heap.size + 1) [.bool acc, .int .i64 bal, .int .i64 node] ∧ Bx W7 (w.heap.size + 1 + 1) [.slice none 0 0, .slice none 0 0] ∧ Below w.heap.size w W7) from ⟨HD.out.1.next hb, HD.out.2.1.next hb, HD.out.2.2.1.next hb, below_next HD.out.2.2.2 hb⟩); rw [← hW7, ← hb7]; clear hW7 hb7 hb) | (obtain ⟨W7, hW7⟩ : ∃ x, x = W1.alloc (.cells #[.slice none 0 0, .slice none 0 0] 30) := ⟨_, rfl⟩; have hb : Below W1.heap.size W1 W7 := hW7 ▸ Go.Joins.below_alloc1 _ _; obtain ⟨b7, hb7⟩ : ∃ b, b = W1.heap.size := ⟨_, rfl⟩; have H7 : Hid (Bx W7 b7 [.slice none 0 0, .slice none 0 0] ∧ w.heap.size + 1 + 1 < b7) := ⟨hb7 ▸ hW7 ▸ Bx.new W1 [_, _] _, by have := HD.out.2.2.1.2; omega⟩; have HO1 := (show Hid (OwnX W7 w.heap.size tySynod [.slice a3 ac.length k3, .slice a4 ps.length k4] (ac, ps, ()) SO ∧ (∀ k, SO k → w.heap.size + 1 + 1 < k ∧ k < W7.heap.size ∧ k ≠ b7)) from ⟨HO1.out.1.next hb, fun k hk => ⟨(HO1.out.2 k hk).1, Nat.lt_of_lt_of_le (HO1.out.2 k hk).2 hb.size, by have := (HO1.out.2 k hk).2; omega⟩⟩); have HD := (show Hid (Bx W7 w.heap.size [.slice a1 ac.length k1, .slice a2 ps.length k2] ∧ Bx W7 (w.heap.size + 1) [.bool acc, .int .i64 bal, .int .i64 node] ∧ Bx W7 (w.heap.size + 1 + 1) [.slice none 0 0, .slice none 0 0] ∧ Below w.heap.size w W7) from ⟨HD.out.1.next hb, HD.out.2.1.next hb, HD.out.2.2.1.next hb, below_next HD.out.2.2.2 hb⟩); rw [← hW7, ← hb7]; clear hW7 hb7 hb) | (obtain ⟨W7, hW7⟩ : ∃ x, x = X0.alloc (.cells #[.slice none 0 0, .slice none 0 0] 30) := ⟨_, rfl⟩; have hb : Below X0.heap.size X0 W7 := hW7 ▸ Go.Joins.below_alloc1 _ _; obtain ⟨b7, hb7⟩ : ∃ b, b = X0.heap.size := ⟨_, rfl⟩; have H7 : Hid (Bx W7 b7 [.slice none 0 0, .slice none 0 0] ∧ w.heap.size + 1 + 1 < b7) := ⟨hb7 ▸ hW7 ▸ Bx.new X0 [_, _] _, by have := HD.out.2.2.1.2; omega⟩; skip; have HD := (show Hid (Bx W7 w.heap.size [.slice a1 ac.length k1, .slice a2 ps.length k2] ∧ Bx W7 (w.heap.size + 1) [.bool acc, .int .i64 bal, .int .i64 node] ∧ Bx W7 (w.heap.size + 1 + 1) [.slice none 0 0, .slice none 0 0] ∧ Below w.heap.size w W7) from ⟨HD.out.1.next hb, HD.out.2.1.next hb, HD.out.2.2.1.next hb, below_next HD.out.2.2.2 hb⟩); rw [← hW7, ← hb7]; clear hW7 hb7 hb))
      refine hK.out _ _ ⟨HD.out.1, HD.out.2.1⟩ (fun hHeld => ?_)
      clear hK KC
      refine ready_call 8 ⟨none, Op.store 30 (Operand.tmp 6) (Operand.tmp 17), _, _, _, none⟩ (by kernel_rfl) rfl (by kernel_rfl) (fun KC hK => ?_)
      have d0 := H7.out.1.cell 0 rfl
      have d1 := H7.out.1.cell 1 rfl
      have dz := H7.out.1.2
      have f0 := H7.out.1.frz 0 (by simp)
      have f1 := H7.out.1.frz 1 (by simp)
      have h7 := H7.out.2
      go_wp2_with fail
      have HF := Hid.intro (box_done H7.out.1 H7.out.2 HO2.out.1 HO2.out.2 HD.out.2.2.1 HD.out.2.2.2 (.slice a3 ac.length k3) (.slice a4 ps.length k4))
      clear d0 d1 dz f0 f1
      refine hK.out _ _ ⟨(HD.out.1.other (by omega)).other (by omega), (HD.out.2.1.other (by omega)).other (by omega)⟩ (fun hHeld => ?_)
      clear hK KC
      refine take_v (v := ?_) 9 ⟨some 7, Op.assign (Operand.tmp 18), _, _, _, none⟩ rfl (fun _ _ _ h => h) ?_ hHeld ?_
      rotate_left
      · (intro W _; go_simp <;> (try with_reducible rfl))
      refine wpAnyH_done (by kernel_rfl) ?_ _
      refine NoPanic.normal ?_
      clear hHeld
      have r0 := HF.out.2.2.2.1.cell 0 rfl
      have r1 := HF.out.2.2.2.1.cell 1 rfl
      have rz := HF.out.2.2.2.1.2
      have rf0 := HF.out.2.2.2.1.frz 0 (by simp)
      have rf1 := HF.out.2.2.2.1.frz 1 (by simp)
      have b0 := HF.out.1.cell 0 rfl
      have b1 := HF.out.1.cell 1 rfl
      have bz := HF.out.1.2
      have hne : b7 ≠ w.heap.size + 1 + 1 := by omega
      (obtain ⟨E, hEE⟩ : ∃ E, E = stB ac ps acc bal node := ⟨_, rfl⟩)
      rw [← hEE] at HS HF ⊢
      clear hEE HO1 HO2 H7 HD
      cases E with
      | none =>
        have HN : Hid (stS ac ps acc bal node = none) := HS
        simp only [Option.isSome_none]
        go_wp2_with fail
        exact bodyPost_ret (v := .tuple #[.agg #[.slice none 0 0, .slice none 0 0], .bool false]) (by simp [results, Try.results33, go_sem, *]) rfl (StP.zero HN.out ((HF.out.2.2.2.2.setCell (p := ⟨w.heap.size + 1 + 1, 0, none⟩) (by simp; omega) _).setCell (p := ⟨w.heap.size + 1 + 1, 1, none⟩) (by simp; omega) _))
      | some y =>
        have HN : Hid (stS ac ps acc bal node = some y) := HS
        simp only [Option.isSome_some]
        go_wp2_with fail
        exact bodyPost_ret (v := .tuple #[.agg #[.slice a3 ac.length k3, .slice a4 ps.length k4], .bool true]) (by simp [results, Try.results33, go_sem, *]) rfl (StP.done HN.out HF.out.2.1 HF.out.2.2.1 HF.out.2.2.2.2 _ _)
    ·
      go_wp2_with fail
      (first | (obtain ⟨W7, hW7⟩ : ∃ x, x = W2.alloc (.cells #[.slice none 0 0, .slice none 0 0] 30) := ⟨_, rfl⟩; have hb : Below W2.heap.size W2 W7 := hW7 ▸ Go.Joins.below_alloc1 _ _; obtain ⟨b7, hb7⟩ : ∃ b, b = W2.heap.size := ⟨_, rfl⟩; have H7 : Hid (Bx W7 b7 [.slice none 0 0, .slice none 0 0] ∧ w.heap.size + 1 + 1 < b7) := ⟨hb7 ▸ hW7 ▸ Bx.new W2 [_, _] _, by have := HD.out.2.2.1.2; omega⟩; have HO2 := (show Hid (OwnX W7 w.heap.size tySynod [.slice a3 ac.length k3, .slice a4 ps.length k4] (((stB ac ps acc bal node).getD (ac, ps)).1, ((stB ac ps acc bal node).getD (ac, ps)).2, ()) S2 ∧ (∀ k, S2 k → w.heap.size + 1 + 1 < k ∧ k < W7.heap.size ∧ k ≠ b7)) from ⟨HO2.out.1.next hb, fun k hk => ⟨(HO2.out.2 k hk).1, Nat.lt_of_lt_of_le (HO2.out.2 k hk).2 hb.size, by have := (HO2.out.2 k hk).2; omega⟩⟩); have HD := (show Hid (Bx W7 w.heap.size [.slice a1 ac.length k1, .slice a2 ps.length k2] ∧ Bx W7 (w.heap.size + 1) [.bool acc, .int .i64 bal, .int .i64 node] ∧ Bx W7 (w.heap.size + 1 + 1) [.slice none 0 0, .slice none 0 0] ∧ Below w.heap.size w W7) from ⟨HD.out.1.next hb, HD.out.2.1.next hb, HD.out.2.2.1.next hb, below_next HD.out.2.2.2 hb⟩); rw [← hW7, ← hb7]; clear hW7 hb7 hb) | (obtain ⟨W7, hW7⟩ : ∃ x, x = W1.alloc (.cells #[.slice none 0 0, .slice none 0 0] 30) := ⟨_, rfl⟩; have hb : Below W1.heap.size W1 W7 := hW7 ▸ Go.Joins.below_alloc1 _ _; obtain ⟨b7, hb7⟩ : ∃ b, b = W1.heap.size := ⟨_, rfl⟩; have H7 : Hid (Bx W7 b7 [.slice none 0 0, .slice none 0 0] ∧ w.heap.size + 1 + 1 < b7) := ⟨hb7 ▸ hW7 ▸ Bx.new W1 [_, _] _, by have := HD.out.2.2.1.2; omega⟩; have HO1 := (show Hid (OwnX W7 w.heap.size tySynod [.slice a3 ac.length k3, .slice a4 ps.length k4] (ac, ps, ()) SO ∧ (∀ k, SO k → w.heap.size + 1 + 1 < k ∧ k < W7.heap.size ∧ k ≠ b7)) from ⟨HO1.out.1.next hb, fun k hk => ⟨(HO1.out.2 k hk).1, Nat.lt_of_lt_of_le (HO1.out.2 k hk).2 hb.size, by have := (HO1.out.2 k hk).2; omega⟩⟩); have HD := (show Hid (Bx W7 w.heap.size [.slice a1 ac.length k1, .slice a2 ps.length k2] ∧ Bx W7 (w.heap.size + 1) [.bool acc, .int .i64 bal, .int .i64 node] ∧ Bx W7 (w.heap.size + 1 + 1) [.slice none 0 0, .slice none 0 0] ∧ Below w.heap.size w W7) from ⟨HD.out.1.next hb, HD.out.2.1.next hb, HD.out.2.2.1.next hb, below_next HD.out.2.2.2 hb⟩); rw [← hW7, ← hb7]; clear hW7 hb7 hb) | (obtain ⟨W7, hW7⟩ : ∃ x, x = X0.alloc (.cells #[.slice none 0 0, .slice none 0 0] 30) := ⟨_, rfl⟩; have hb : Below X0.heap.size X0 W7 := hW7 ▸ Go.Joins.below_alloc1 _ _; obtain ⟨b7, hb7⟩ : ∃ b, b = X0.heap.size := ⟨_, rfl⟩; have H7 : Hid (Bx W7 b7 [.slice none 0 0, .slice none 0 0] ∧ w.heap.size + 1 + 1 < b7) := ⟨hb7 ▸ hW7 ▸ Bx.new X0 [_, _] _, by have := HD.out.2.2.1.2; omega⟩; skip; have HD := (show Hid (Bx W7 w.heap.size [.slice a1 ac.length k1, .slice a2 ps.length k2] ∧ Bx W7 (w.heap.size + 1) [.bool acc, .int .i64 bal, .int .i64 node] ∧ Bx W7 (w.heap.size + 1 + 1) [.slice none 0 0, .slice none 0 0] ∧ Below w.heap.size w W7) from ⟨HD.out.1.next hb, HD.out.2.1.next hb, HD.out.2.2.1.next hb, below_next HD.out.2.2.2 hb⟩); rw [← hW7, ← hb7]; clear hW7 hb7 hb))
      refine hK.out _ _ ⟨HD.out.1, HD.out.2.1⟩ (fun hHeld => ?_)
      clear hK KC
      refine ready_call 3 ⟨some 16, Op.call { callee := Callee.value (Operand.func 48), args := #[Operand.tmp 14, Operand.tmp 15], argTypes := #[30, 65] }, _, _, _, none⟩ (by kernel_rfl) rfl (by kernel_rfl) (fun KC hK => ?_)
      go_wp2_with fail
      refine (l10Step_n _ _ ac ps acc bal node w.heap.size SO _ HG.out HO1.out.1 (fun k hk => by have := HO1.out.2 k hk; omega) HD.out.2.2.2.size).mono ?_
      intro r W2 hQ2
      obtain ⟨S2, rfl, hO2, hS2, hT⟩ := hQ2.out
      have hzz := HD.out.2.2.1.2
      (first | (have HO2 := (show Hid (OwnX W2 w.heap.size tySynod [.slice a3 ac.length k3, .slice a4 ps.length k4] (((stB ac ps acc bal node).getD (ac, ps)).1, ((stB ac ps acc bal node).getD (ac, ps)).2, ()) S2 ∧ (∀ k, S2 k → w.heap.size + 1 + 1 < k ∧ k < W2.heap.size ∧ k ≠ b7)) from ⟨hO2, fun k hk => by have h7 := H7.out.1.2; have hz := hT.size; rcases hS2 k hk with q | q; (· have := HO1.out.2 k q; omega); (have q := q; omega)⟩)) | (have HO2 := (show Hid (OwnX W2 w.heap.size tySynod [.slice a3 ac.length k3, .slice a4 ps.length k4] (((stB ac ps acc bal node).getD (ac, ps)).1, ((stB ac ps acc bal node).getD (ac, ps)).2, ()) S2 ∧ (∀ k, S2 k → w.heap.size + 1 + 1 < k ∧ k < W2.heap.size)) from ⟨hO2, fun k hk => by have hz := hT.size; rcases hS2 k hk with q | q; (· have := HO1.out.2 k q; omega); (have q := q; omega)⟩)))
      (first | (have H7 := (show Hid (Bx W2 b7 [.slice none 0 0, .slice none 0 0] ∧ w.heap.size + 1 + 1 < b7) from ⟨H7.out.1.turnS hT (fun q => (HO1.out.2 _ q).2.2 rfl), H7.out.2⟩)) | skip)
      have HD := (show Hid (Bx W2 w.heap.size [.slice a1 ac.length k1, .slice a2 ps.length k2] ∧ Bx W2 (w.heap.size + 1) [.bool acc, .int .i64 bal, .int .i64 node] ∧ Bx W2 (w.heap.size + 1 + 1) [.slice none 0 0, .slice none 0 0] ∧ Below w.heap.size w W2) from ⟨HD.out.1.turnS hT (fun q => by have := (HO1.out.2 _ q).1; omega), HD.out.2.1.turnS hT (fun q => by have := (HO1.out.2 _ q).1; omega), HD.out.2.2.1.turnS hT (fun q => by have := (HO1.out.2 _ q).1; omega), HD.out.2.2.2.trans (hT.below (fun k q => by have := (HO1.out.2 k q).1; omega) HD.out.2.2.2.size)⟩)
      clear hO2 hT hS2 hzz hQ2
      refine hK.out _ _ ⟨HD.out.1, HD.out.2.1⟩ (fun hHeld => ?_)
      clear hK KC
      refine take_v (v := ?_) 4 ⟨some 12, Op.move (Operand.tmp 16), _, _, _, none⟩ rfl (fun _ _ _ h => h) ?_ hHeld ?_
      rotate_left
      · (intro W _; go_simp <;> (try with_reducible rfl))
      refine take_v (v := ?_) 5 ⟨some 17, Op.extract (Operand.tmp 12) 0, _, _, _, none⟩ rfl (fun _ _ _ h => h) ?_ hHeld ?_
      rotate_left
      · (intro W _; go_simp <;> (try with_reducible rfl))
      refine take_v (v := ?_) 6 ⟨some 18, Op.extract (Operand.tmp 12) 1, _, _, _, none⟩ rfl (fun _ _ _ h => h) ?_ hHeld ?_
      rotate_left
      · (intro W _; go_simp <;> (try with_reducible rfl))
      refine ready_call 8 ⟨none, Op.store 30 (Operand.tmp 6) (Operand.tmp 17), _, _, _, none⟩ (by kernel_rfl) rfl (by kernel_rfl) (fun KC hK => ?_)
      have d0 := H7.out.1.cell 0 rfl
      have d1 := H7.out.1.cell 1 rfl
      have dz := H7.out.1.2
      have f0 := H7.out.1.frz 0 (by simp)
      have f1 := H7.out.1.frz 1 (by simp)
      have h7 := H7.out.2
      go_wp2_with fail
      have HF := Hid.intro (box_done H7.out.1 H7.out.2 HO2.out.1 HO2.out.2 HD.out.2.2.1 HD.out.2.2.2 (.slice a3 ac.length k3) (.slice a4 ps.length k4))
      clear d0 d1 dz f0 f1
      refine hK.out _ _ ⟨(HD.out.1.other (by omega)).other (by omega), (HD.out.2.1.other (by omega)).other (by omega)⟩ (fun hHeld => ?_)
      clear hK KC
      refine take_v (v := ?_) 9 ⟨some 7, Op.assign (Operand.tmp 18), _, _, _, none⟩ rfl (fun _ _ _ h => h) ?_ hHeld ?_
      rotate_left
      · (intro W _; go_simp <;> (try with_reducible rfl))
      refine wpAnyH_done (by kernel_rfl) ?_ _
      refine NoPanic.normal ?_
      clear hHeld
      have r0 := HF.out.2.2.2.1.cell 0 rfl
      have r1 := HF.out.2.2.2.1.cell 1 rfl
      have rz := HF.out.2.2.2.1.2
      have rf0 := HF.out.2.2.2.1.frz 0 (by simp)
      have rf1 := HF.out.2.2.2.1.frz 1 (by simp)
      have b0 := HF.out.1.cell 0 rfl
      have b1 := HF.out.1.cell 1 rfl
      have bz := HF.out.1.2
      have hne : b7 ≠ w.heap.size + 1 + 1 := by omega
      (obtain ⟨E, hEE⟩ : ∃ E, E = stB ac ps acc bal node := ⟨_, rfl⟩)
      rw [← hEE] at HS HF ⊢
      clear hEE HO1 HO2 H7 HD
      cases E with
      | none =>
        have HN : Hid (stS ac ps acc bal node = none) := HS
        simp only [Option.isSome_none]
        go_wp2_with fail
        exact bodyPost_ret (v := .tuple #[.agg #[.slice none 0 0, .slice none 0 0], .bool false]) (by simp [results, Try.results33, go_sem, *]) rfl (StP.zero HN.out ((HF.out.2.2.2.2.setCell (p := ⟨w.heap.size + 1 + 1, 0, none⟩) (by simp; omega) _).setCell (p := ⟨w.heap.size + 1 + 1, 1, none⟩) (by simp; omega) _))
      | some y =>
        have HN : Hid (stS ac ps acc bal node = some y) := HS
        simp only [Option.isSome_some]
        go_wp2_with fail
        exact bodyPost_ret (v := .tuple #[.agg #[.slice a3 ac.length k3, .slice a4 ps.length k4], .bool true]) (by simp [results, Try.results33, go_sem, *]) rfl (StP.done HN.out HF.out.2.1 HF.out.2.2.1 HF.out.2.2.2.2 _ _)
  ·
    go_wp2_with fail
    (first | (obtain ⟨W7, hW7⟩ : ∃ x, x = W2.alloc (.cells #[.slice none 0 0, .slice none 0 0] 30) := ⟨_, rfl⟩; have hb : Below W2.heap.size W2 W7 := hW7 ▸ Go.Joins.below_alloc1 _ _; obtain ⟨b7, hb7⟩ : ∃ b, b = W2.heap.size := ⟨_, rfl⟩; have H7 : Hid (Bx W7 b7 [.slice none 0 0, .slice none 0 0] ∧ w.heap.size + 1 + 1 < b7) := ⟨hb7 ▸ hW7 ▸ Bx.new W2 [_, _] _, by have := HD.out.2.2.1.2; omega⟩; have HO2 := (show Hid (OwnX W7 w.heap.size tySynod [.slice a3 ac.length k3, .slice a4 ps.length k4] (((stB ac ps acc bal node).getD (ac, ps)).1, ((stB ac ps acc bal node).getD (ac, ps)).2, ()) S2 ∧ (∀ k, S2 k → w.heap.size + 1 + 1 < k ∧ k < W7.heap.size ∧ k ≠ b7)) from ⟨HO2.out.1.next hb, fun k hk => ⟨(HO2.out.2 k hk).1, Nat.lt_of_lt_of_le (HO2.out.2 k hk).2 hb.size, by have := (HO2.out.2 k hk).2; omega⟩⟩); have HD := (show Hid (Bx W7 w.heap.size [.slice a1 ac.length k1, .slice a2 ps.length k2] ∧ Bx W7 (w.heap.size + 1) [.bool acc, .int .i64 bal, .int .i64 node] ∧ Bx W7 (w.heap.size + 1 + 1) [.slice none 0 0, .slice none 0 0] ∧ Below w.heap.size w W7) from ⟨HD.out.1.next hb, HD.out.2.1.next hb, HD.out.2.2.1.next hb, below_next HD.out.2.2.2 hb⟩); rw [← hW7, ← hb7]; clear hW7 hb7 hb) | (obtain ⟨W7, hW7⟩ : ∃ x, x = W1.alloc (.cells #[.slice none 0 0, .slice none 0 0] 30) := ⟨_, rfl⟩; have hb : Below W1.heap.size W1 W7 := hW7 ▸ Go.Joins.below_alloc1 _ _; obtain ⟨b7, hb7⟩ : ∃ b, b = W1.heap.size := ⟨_, rfl⟩; have H7 : Hid (Bx W7 b7 [.slice none 0 0, .slice none 0 0] ∧ w.heap.size + 1 + 1 < b7) := ⟨hb7 ▸ hW7 ▸ Bx.new W1 [_, _] _, by have := HD.out.2.2.1.2; omega⟩; have HO1 := (show Hid (OwnX W7 w.heap.size tySynod [.slice a3 ac.length k3, .slice a4 ps.length k4] (ac, ps, ()) SO ∧ (∀ k, SO k → w.heap.size + 1 + 1 < k ∧ k < W7.heap.size ∧ k ≠ b7)) from ⟨HO1.out.1.next hb, fun k hk => ⟨(HO1.out.2 k hk).1, Nat.lt_of_lt_of_le (HO1.out.2 k hk).2 hb.size, by have := (HO1.out.2 k hk).2; omega⟩⟩); have HD := (show Hid (Bx W7 w.heap.size [.slice a1 ac.length k1, .slice a2 ps.length k2] ∧ Bx W7 (w.heap.size + 1) [.bool acc, .int .i64 bal, .int .i64 node] ∧ Bx W7 (w.heap.size + 1 + 1) [.slice none 0 0, .slice none 0 0] ∧ Below w.heap.size w W7) from ⟨HD.out.1.next hb, HD.out.2.1.next hb, HD.out.2.2.1.next hb, below_next HD.out.2.2.2 hb⟩); rw [← hW7, ← hb7]; clear hW7 hb7 hb) | (obtain ⟨W7, hW7⟩ : ∃ x, x = X0.alloc (.cells #[.slice none 0 0, .slice none 0 0] 30) := ⟨_, rfl⟩; have hb : Below X0.heap.size X0 W7 := hW7 ▸ Go.Joins.below_alloc1 _ _; obtain ⟨b7, hb7⟩ : ∃ b, b = X0.heap.size := ⟨_, rfl⟩; have H7 : Hid (Bx W7 b7 [.slice none 0 0, .slice none 0 0] ∧ w.heap.size + 1 + 1 < b7) := ⟨hb7 ▸ hW7 ▸ Bx.new X0 [_, _] _, by have := HD.out.2.2.1.2; omega⟩; skip; have HD := (show Hid (Bx W7 w.heap.size [.slice a1 ac.length k1, .slice a2 ps.length k2] ∧ Bx W7 (w.heap.size + 1) [.bool acc, .int .i64 bal, .int .i64 node] ∧ Bx W7 (w.heap.size + 1 + 1) [.slice none 0 0, .slice none 0 0] ∧ Below w.heap.size w W7) from ⟨HD.out.1.next hb, HD.out.2.1.next hb, HD.out.2.2.1.next hb, below_next HD.out.2.2.2 hb⟩); rw [← hW7, ← hb7]; clear hW7 hb7 hb))
    refine hK.out _ _ ⟨HD.out.1, HD.out.2.1⟩ (fun hHeld => ?_)
    clear hK KC
    refine ready_call 1 ⟨some 14, Op.call { callee := Callee.value (Operand.func 49), args := #[Operand.tmp 13], argTypes := #[30] }, _, _, _, none⟩ (by kernel_rfl) rfl (by kernel_rfl) (fun KC hK => ?_)
    go_wp2_with fail
    refine (l10Own_n [.slice a1 ac.length k1, .slice a2 ps.length k2] ac ps _ HZ.out (mk_Synod (HL.out.1.next HD.out.2.2.2) (HL.out.2.next HD.out.2.2.2))).mono ?_
    intro r W1 hT1
    obtain ⟨a3, k3, a4, k4, SO, rfl, hO, hSO, hb⟩ := toX_out hT1 HD.out.2.2.2
    have hz1 := HD.out.2.2.1.2
    (first | (have HO1 := (show Hid (OwnX W1 w.heap.size tySynod [.slice a3 ac.length k3, .slice a4 ps.length k4] (ac, ps, ()) SO ∧ (∀ k, SO k → w.heap.size + 1 + 1 < k ∧ k < W1.heap.size ∧ k ≠ b7)) from ⟨hO, fun k hk => ⟨Nat.lt_of_lt_of_le hz1 (hSO k hk).1, (hSO k hk).2, fun e => by have h1 := (hSO k hk).1; have h2 := H7.out.1.2; omega⟩⟩)) | (have HO1 := (show Hid (OwnX W1 w.heap.size tySynod [.slice a3 ac.length k3, .slice a4 ps.length k4] (ac, ps, ()) SO ∧ (∀ k, SO k → w.heap.size + 1 + 1 < k ∧ k < W1.heap.size)) from ⟨hO, fun k hk => ⟨Nat.lt_of_lt_of_le hz1 (hSO k hk).1, (hSO k hk).2⟩⟩)))
    have HD := (show Hid (Bx W1 w.heap.size [.slice a1 ac.length k1, .slice a2 ps.length k2] ∧ Bx W1 (w.heap.size + 1) [.bool acc, .int .i64 bal, .int .i64 node] ∧ Bx W1 (w.heap.size + 1 + 1) [.slice none 0 0, .slice none 0 0] ∧ Below w.heap.size w W1) from ⟨HD.out.1.next hb, HD.out.2.1.next hb, HD.out.2.2.1.next hb, below_next HD.out.2.2.2 hb⟩)
    (first | (have H7 := (show Hid (Bx W1 b7 [.slice none 0 0, .slice none 0 0] ∧ w.heap.size + 1 + 1 < b7) from ⟨H7.out.1.next hb, H7.out.2⟩)) | skip)
    clear hb hO hSO hT1 hz1
    refine hK.out _ _ ⟨HD.out.1, HD.out.2.1⟩ (fun hHeld => ?_)
    clear hK KC
    refine ready_call 3 ⟨some 16, Op.call { callee := Callee.value (Operand.func 48), args := #[Operand.tmp 14, Operand.tmp 15], argTypes := #[30, 65] }, _, _, _, none⟩ (by kernel_rfl) rfl (by kernel_rfl) (fun KC hK => ?_)
    go_wp2_with fail
    refine (l10Step_n _ _ ac ps acc bal node w.heap.size SO _ HG.out HO1.out.1 (fun k hk => by have := HO1.out.2 k hk; omega) HD.out.2.2.2.size).mono ?_
    intro r W2 hQ2
    obtain ⟨S2, rfl, hO2, hS2, hT⟩ := hQ2.out
    have hzz := HD.out.2.2.1.2
    (first | (have HO2 := (show Hid (OwnX W2 w.heap.size tySynod [.slice a3 ac.length k3, .slice a4 ps.length k4] (((stB ac ps acc bal node).getD (ac, ps)).1, ((stB ac ps acc bal node).getD (ac, ps)).2, ()) S2 ∧ (∀ k, S2 k → w.heap.size + 1 + 1 < k ∧ k < W2.heap.size ∧ k ≠ b7)) from ⟨hO2, fun k hk => by have h7 := H7.out.1.2; have hz := hT.size; rcases hS2 k hk with q | q; (· have := HO1.out.2 k q; omega); (have q := q; omega)⟩)) | (have HO2 := (show Hid (OwnX W2 w.heap.size tySynod [.slice a3 ac.length k3, .slice a4 ps.length k4] (((stB ac ps acc bal node).getD (ac, ps)).1, ((stB ac ps acc bal node).getD (ac, ps)).2, ()) S2 ∧ (∀ k, S2 k → w.heap.size + 1 + 1 < k ∧ k < W2.heap.size)) from ⟨hO2, fun k hk => by have hz := hT.size; rcases hS2 k hk with q | q; (· have := HO1.out.2 k q; omega); (have q := q; omega)⟩)))
    (first | (have H7 := (show Hid (Bx W2 b7 [.slice none 0 0, .slice none 0 0] ∧ w.heap.size + 1 + 1 < b7) from ⟨H7.out.1.turnS hT (fun q => (HO1.out.2 _ q).2.2 rfl), H7.out.2⟩)) | skip)
    have HD := (show Hid (Bx W2 w.heap.size [.slice a1 ac.length k1, .slice a2 ps.length k2] ∧ Bx W2 (w.heap.size + 1) [.bool acc, .int .i64 bal, .int .i64 node] ∧ Bx W2 (w.heap.size + 1 + 1) [.slice none 0 0, .slice none 0 0] ∧ Below w.heap.size w W2) from ⟨HD.out.1.turnS hT (fun q => by have := (HO1.out.2 _ q).1; omega), HD.out.2.1.turnS hT (fun q => by have := (HO1.out.2 _ q).1; omega), HD.out.2.2.1.turnS hT (fun q => by have := (HO1.out.2 _ q).1; omega), HD.out.2.2.2.trans (hT.below (fun k q => by have := (HO1.out.2 k q).1; omega) HD.out.2.2.2.size)⟩)
    clear hO2 hT hS2 hzz hQ2
    refine hK.out _ _ ⟨HD.out.1, HD.out.2.1⟩ (fun hHeld => ?_)
    clear hK KC
    refine take_v (v := ?_) 4 ⟨some 12, Op.move (Operand.tmp 16), _, _, _, none⟩ rfl (fun _ _ _ h => h) ?_ hHeld ?_
    rotate_left
    · (intro W _; go_simp <;> (try with_reducible rfl))
    refine take_v (v := ?_) 5 ⟨some 17, Op.extract (Operand.tmp 12) 0, _, _, _, none⟩ rfl (fun _ _ _ h => h) ?_ hHeld ?_
    rotate_left
    · (intro W _; go_simp <;> (try with_reducible rfl))
    refine take_v (v := ?_) 6 ⟨some 18, Op.extract (Operand.tmp 12) 1, _, _, _, none⟩ rfl (fun _ _ _ h => h) ?_ hHeld ?_
    rotate_left
    · (intro W _; go_simp <;> (try with_reducible rfl))
    refine ready_call 8 ⟨none, Op.store 30 (Operand.tmp 6) (Operand.tmp 17), _, _, _, none⟩ (by kernel_rfl) rfl (by kernel_rfl) (fun KC hK => ?_)
    have d0 := H7.out.1.cell 0 rfl
    have d1 := H7.out.1.cell 1 rfl
    have dz := H7.out.1.2
    have f0 := H7.out.1.frz 0 (by simp)
    have f1 := H7.out.1.frz 1 (by simp)
    have h7 := H7.out.2
    go_wp2_with fail
    have HF := Hid.intro (box_done H7.out.1 H7.out.2 HO2.out.1 HO2.out.2 HD.out.2.2.1 HD.out.2.2.2 (.slice a3 ac.length k3) (.slice a4 ps.length k4))
    clear d0 d1 dz f0 f1
    refine hK.out _ _ ⟨(HD.out.1.other (by omega)).other (by omega), (HD.out.2.1.other (by omega)).other (by omega)⟩ (fun hHeld => ?_)
    clear hK KC
    refine take_v (v := ?_) 9 ⟨some 7, Op.assign (Operand.tmp 18), _, _, _, none⟩ rfl (fun _ _ _ h => h) ?_ hHeld ?_
    rotate_left
    · (intro W _; go_simp <;> (try with_reducible rfl))
    refine wpAnyH_done (by kernel_rfl) ?_ _
    refine NoPanic.normal ?_
    clear hHeld
    have r0 := HF.out.2.2.2.1.cell 0 rfl
    have r1 := HF.out.2.2.2.1.cell 1 rfl
    have rz := HF.out.2.2.2.1.2
    have rf0 := HF.out.2.2.2.1.frz 0 (by simp)
    have rf1 := HF.out.2.2.2.1.frz 1 (by simp)
    have b0 := HF.out.1.cell 0 rfl
    have b1 := HF.out.1.cell 1 rfl
    have bz := HF.out.1.2
    have hne : b7 ≠ w.heap.size + 1 + 1 := by omega
    (obtain ⟨E, hEE⟩ : ∃ E, E = stB ac ps acc bal node := ⟨_, rfl⟩)
    rw [← hEE] at HS HF ⊢
    clear hEE HO1 HO2 H7 HD
    cases E with
    | none =>
      have HN : Hid (stS ac ps acc bal node = none) := HS
      simp only [Option.isSome_none]
      go_wp2_with fail
      exact bodyPost_ret (v := .tuple #[.agg #[.slice none 0 0, .slice none 0 0], .bool false]) (by simp [results, Try.results33, go_sem, *]) rfl (StP.zero HN.out ((HF.out.2.2.2.2.setCell (p := ⟨w.heap.size + 1 + 1, 0, none⟩) (by simp; omega) _).setCell (p := ⟨w.heap.size + 1 + 1, 1, none⟩) (by simp; omega) _))
    | some y =>
      have HN : Hid (stS ac ps acc bal node = some y) := HS
      simp only [Option.isSome_some]
      go_wp2_with fail
      exact bodyPost_ret (v := .tuple #[.agg #[.slice a3 ac.length k3, .slice a4 ps.length k4], .bool true]) (by simp [results, Try.results33, go_sem, *]) rfl (StP.done HN.out HF.out.2.1 HF.out.2.2.1 HF.out.2.2.2.2 _ _)
end Go.Proofs.Ytmhkfangfhanlaa
