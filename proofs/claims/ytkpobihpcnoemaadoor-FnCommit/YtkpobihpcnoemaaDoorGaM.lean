/- Put together of: CrG, CrI, CrS, CrL, CrM. -/
import Derived.Test.YtkpobihpcnoemaaDoorGaH
import Derived.Test.YtkpobihpcnoemaaDoorGaL
import Derived.Test.YtkpobihpcnoemaaDoorShPl
import Derived.Test.YtkpobihpcnoemaaDoorCmC
/- Commits: plays, mathematics and what holds between steps. Written by tools/mkCrP.py. -/
namespace Go.Proofs.YtkpobihpcnoemaaDoor
open Go.RowKit
set_option linter.unusedVariables false
set_option linter.unusedSimpArgs false

abbrev Stp := Sh.T shCommitStep
def plE (x : Cmt) (s : Stp) : Option Cmt := stC x.1 x.2.1 x.2.2 s.1 s.2.1 s.2.2.1
def plT (F : Cmt × List (Sh.T .bool)) (s : Stp) : Cmt × List (Sh.T .bool) := ((plE F.1 s).getD F.1, F.2 ++ [(plE F.1 s).isSome])
def plF (s : Cmt) (l : List Stp) : Cmt × List (Sh.T .bool) := l.foldl plT (s, [])
theorem pl_take {s : Cmt} {l : List Stp} {k : Nat} (h : k < l.length) : plF s (l.take (k + 1)) = plT (plF s (l.take k)) l[k] := by
  unfold plF; rw [List.take_succ_eq_append_getElem h, List.foldl_append]; rfl
theorem pl_len {s : Cmt} {l : List Stp} : ∀ {k : Nat}, k ≤ l.length → (plF s (l.take k)).2.length = k
  | 0, _ => by rw [List.take_zero]; rfl
  | k + 1, h => by rw [pl_take h]; show ((plF s (l.take k)).2 ++ [_]).length = _; rw [List.length_append, pl_len (by omega)]; rfl
def goodX (x : Cmt) : Prop := goodC x.1 x.2.1 x.2.2 = true
theorem pl_good {s : Cmt} {l : List Stp} (hg : goodX s) : ∀ {k : Nat}, k ≤ l.length → goodX (plF s (l.take k)).1
  | 0, _ => by rw [List.take_zero]; exact hg
  | k + 1, h => by
    have ih := pl_good hg (k := k) (l := l) (by omega)
    rw [pl_take h]
    show goodX ((plE (plF s (l.take k)).1 l[k]).getD (plF s (l.take k)).1)
    cases he : plE (plF s (l.take k)).1 l[k] with
    | none => exact ih
    | some y => exact stC_good ih he
def plOk (am : List (Sh.T .int)) (l : List Stp) : Bool := nwOk am && decide (l.length ≤ 100)
def plA (am : List (Sh.T .int)) (l : List Stp) : Cmt × List (Sh.T .bool) := if plOk am l = true then plF (nwC am, 0, 0) l else (([], 0, 0), [])
theorem pl_no {am : List (Sh.T .int)} {l : List Stp} (h : plOk am l = false) : plA am l = (([], 0, 0), []) := by unfold plA; rw [h]; rfl
theorem pl_yes {am : List (Sh.T .int)} {l : List Stp} (h1 : nwOk am = true) (h2 : l.length ≤ 100) : plA am l = plF (nwC am, 0, 0) l ∧ plOk am l = true := by
  have h : plOk am l = true := by unfold plOk; rw [h1, decide_eq_true h2]; rfl
  exact ⟨by unfold plA; rw [if_pos h], h⟩
/-- What a play answers. -/
def PcR (am : List (Sh.T .int)) (l : List Stp) (w : World) (r : Ending) (w' : World) : Prop := PyP shCommit .bool ((plA am l).1.1, (plA am l).1.2.1, (plA am l).1.2.2, ()) (plA am l).2 (plOk am l) w r w'
theorem own_cmZ {W : World} : Own W shCommit [.slice none 0 0, .int .i64 0, .int .i64 0] ([], 0, 0, ()) (fun _ => False) := by
  have h : OwnX W 0 tyCommit [.slice none 0 0, .int .i64 0, .int .i64 0] ([], 0, 0, ()) (fun _ => False) := mkownx_Commit (x0 := []) (S1 := fun _ => False) OwnX.nil' (fun k hk => hk)
  exact h.own
theorem PcR.no {am : List (Sh.T .int)} {l : List Stp} {w w' : World} (h : plOk am l = false) (hb : Below w.heap.size w w') : PcR am l w (.returned (.tuple #[.agg #[.slice none 0 0, .int .i64 0, .int .i64 0], .slice none 0 0, .bool false])) w' := by
  unfold PcR; rw [pl_no h, h]
  exact ⟨[.slice none 0 0, .int .i64 0, .int .i64 0], _, fun _ => False, fun _ => False, rfl, own_cmZ, Own.none (Nat.zero_le _), fun k q => q.elim, fun k q => q.elim, hb⟩
/-- Between the steps. -/
def PqS (w : World) (b : Nat) (wr : World) (x : Cmt) (v : Value) (D : List (Sh.T .bool)) : Prop := ∃ (p : Option Addr) (q : Nat), PyS shCommit .bool 4 [.slice none 0 0, .int .i64 0, .int .i64 0] w b wr [.slice p x.1.length q, .int .i64 x.2.1, .int .i64 x.2.2] (x.1, x.2.1, x.2.2, ()) v D
theorem Bx.set3c {W : World} {b : Nat} {v0 v1 v2 : Value} (h : Bx W b [v0, v1, v2]) (u0 u1 u2 : Value) : Bx (((W.setCell ⟨b, 0, none⟩ u0).setCell ⟨b, 1, none⟩ u1).setCell ⟨b, 2, none⟩ u2) b [u0, u1, u2] := ((h.set (k := 0) (by simp) u0).set (k := 1) (by simp) u1).set (k := 2) (by simp) u2
theorem OwnX.setb {W : World} {lo : Nat} {t : TypeId} {g n cap : Nat} {l : List (Sh.T .bool)} {S : Nat → Prop} (h : OwnX W lo (.list .bool t) [.slice (some ⟨g, 0, none⟩) n cap] l S) {k : Nat} (hk : k < l.length) (x : Bool) : OwnX (W.setCell ⟨g, k, none⟩ (.bool x)) lo (.list .bool t) [.slice (some ⟨g, 0, none⟩) n cap] (l.set k x) S := by
  obtain ⟨g', cap', ec, Bk, hv, hg, hlo, hS, hB, hec, hcells, hroom, hO, hch, hback⟩ := OwnX.lens (e := .bool) h hk
  simp only [Value.slice.injEq, Option.some.injEq, Addr.mk.injEq, and_true] at hv
  obtain ⟨rfl, _, _⟩ := hv
  have e : k * Ty.c .bool = k := Nat.mul_one k
  have hO : ec = [.bool l[k]] := hO
  subst hO
  have h2 := hch.set (j := 0) (by simp) (.bool x)
  rw [e] at h2 hback
  exact (hback (W.setCell ⟨g, k, none⟩ (.bool x)) [.bool x] x Bk (fun _ => False) (fun b _ _ hb _ => Below.heap_setCell _ _ _ _ hb) h2 rfl (fun b hb => Or.inl hb) (fun b q => q.elim)).mono (fun b q => q.elim id False.elim)
theorem OwnX.boolt {W : World} {lo : Nat} {t : TypeId} {g n cap : Nat} {l : List (Sh.T .bool)} {S : Nat → Prop} (h : OwnX W lo (.list .bool t) [.slice (some ⟨g, 0, none⟩) n cap] l S) {k : Nat} (hk : k < l.length) : W.cell? ⟨g, k, none⟩ = some (.bool l[k]) ∧ W.frozen? ⟨g, k, none⟩ = false ∧ g < W.heap.size := by
  obtain ⟨g', cap', ec, Bk, hv, hg, hlo, hS, hB, hec, hcells, hroom, hO, hch, hback⟩ := OwnX.lens (e := .bool) h hk
  simp only [Value.slice.injEq, Option.some.injEq, Addr.mk.injEq, and_true] at hv
  obtain ⟨rfl, _, _⟩ := hv
  have e : k * Ty.c .bool = k := Nat.mul_one k
  have hO : ec = [.bool l[k]] := hO
  subst hO
  have h1 := hcells 0 (by simp)
  rw [e] at h1
  have hr : k < l.length * Ty.c .bool := Nat.lt_of_lt_of_le hk (Nat.le_of_eq (Nat.mul_one _).symm)
  exact ⟨h1, (hroom k hr).2, hg⟩
theorem PyS.didb {s : Sh} {t : TypeId} {zc : List Value} {w W : World} {b : Nat} {cs : List Value} {y : s.T} {D : List (Sh.T .bool)} {g cap n k : Nat} (h : PyS s .bool t zc w b W cs y (.slice (some ⟨g, 0, none⟩) n cap) D) (hn : n = D.length) (hk : k < n) (u : Bool) : (∃ x, W.cell? ⟨g, k, none⟩ = some (.bool x)) ∧ W.frozen? ⟨g, k, none⟩ = false ∧ g < W.heap.size ∧ g ≠ b ∧ PyS s .bool t zc w b (W.setCell ⟨g, k, none⟩ (.bool u)) cs y (.slice (some ⟨g, 0, none⟩) n cap) (D.set k u) := by
  subst hn
  obtain ⟨h1, h2, ⟨So, Sd, h3, h4, h5, h6⟩, h7, h8⟩ := h
  obtain ⟨row, hrS⟩ := h4.flat rfl
  have hg : Sd g := hrS g rfl
  have hg6 := h6 g hg
  have hi := OwnX.boolt h4 hk
  refine ⟨⟨_, hi.1⟩, hi.2.1, hi.2.2, hg6.2.2, h1.other (by omega), h2.other (Ne.symm hg6.2.2), ⟨So, Sd, h3.set (p := ⟨g, k, none⟩) (fun q => (h5 g q).2.2.2 hg) _, OwnX.setb h4 hk u, fun j hj => ?_, fun j hj => ?_⟩, h7.setCell (p := ⟨g, k, none⟩) (by show w.heap.size ≤ g; omega) _, h8⟩
  · have := h5 j hj; simp only [World.size_setCell]; exact this
  · have := h6 j hj; simp only [World.size_setCell]; exact this
theorem inf_boolC : (Tryd.prog.info? 4).map (fun i => (i.zero, i.size, i.bytes)) = some (some (.bool false), 1, 1) := by kernel_rfl
theorem flat_falses (n : Nat) : List.flatMap (valC .bool) (List.replicate n false) = List.replicate n (.bool false) := by
  induction n with
  | zero => rfl
  | succ n ih => rw [List.replicate_succ, List.replicate_succ]; show valC .bool false ++ List.flatMap (valC .bool) (List.replicate n false) = _; rw [ih]; rfl
theorem wp_make_boolC {P : Program} {w : World} {o : Oper} {a : Act} {K : Act → World → Prop} {Q : Exit → Act → World → Prop} (l c : Operand) (t e : TypeId) (hop : o.op = Op.makeSlice t l c) (i : TypeInfo) (h1 : P.underlying t = some (.slice e)) (h2 : P.info? e = some i) (h3 : i.zero = some (.bool false)) (h4 : i.size = 1)
    (n : Nat) (hl : a.eval l = .int .i64 (n : Int)) (hc : a.eval c = .int .i64 (n : Int)) (b2 : i.bytes * n ≤ 281474976710656) (b3 : n ≤ maxLen)
    (hK : ∀ w', ApS .bool e w w' (.slice (some ⟨w.heap.size, 0, none⟩) n n) (List.replicate n false) → K (a.put o.dst (.slice (some ⟨w.heap.size, 0, none⟩) n n)) w') : o.wp P a w K Q := by
  obtain ⟨w', hrun, r1, r2⟩ := run_make_full (P := P) w w.heap.size t e i (.bool false) 1 h1 h2 h3 h4 .i64 .i64 n b2 b3 (Nat.le_refl _)
  unfold Oper.wp
  simp [execOp, hop, hl, hc, hrun, Result.andThen]
  refine hK w' ⟨OwnX.of_flat (e := .bool) rfl ?_ (fun k hk => r1.lt k hk), ⟨r2.os, r2.tape, r2.output, r2.size, fun k hk => r2.block k hk (fun q => by cases q)⟩⟩
  have e1 : (madeCells (Value.bool false).cells (n * 1)).toList = List.flatMap (valC .bool) (List.replicate n false) := by
    rw [flat_falses, Nat.mul_one]; exact toList_madeCells_one _ _
  have r1' := r1
  rw [e1] at r1'
  rw [List.length_replicate]
  exact r1'
theorem pl_set {D : List (Sh.T .bool)} {k n : Nat} {u : Bool} (hD : D.length = k) (h : k < n) : (D ++ List.replicate (n - k) false).set k u = (D ++ [u]) ++ List.replicate (n - (k + 1)) false := by
  have e : n - k = (n - (k + 1)) + 1 := by omega
  rw [e, List.replicate_succ, List.set_append_right _ _ (by omega), hD, Nat.sub_self, List.append_assoc]; rfl
theorem scp_some {y : Cmt} {w w' : World} {r : Ending} (h : ScP (some y) w r w') : AnC y.1 y.2.1 y.2.2 true w r w' := h
theorem scp_none {w w' : World} {r : Ending} (h : ScP none w r w') : AnC [] 0 0 false w r w' := h
theorem AnC.parts {ss : List Shd} {dr rc : Int} {ok : Bool} {w w' : World} {r : Ending} (h : AnC ss dr rc ok w r w') : ∃ p q, r = .returned (.tuple #[.agg #[.slice p ss.length q, .int .i64 dr, .int .i64 rc], .bool ok]) ∧ OwnX w' w.heap.size tyCommit [.slice p ss.length q, .int .i64 dr, .int .i64 rc] (ss, dr, rc, ()) (Btw w.heap.size w'.heap.size) ∧ Below w.heap.size w w' := by
  obtain ⟨v, e, hO, hb⟩ := h
  obtain ⟨v', e', hl⟩ := LsU.of hO (Nat.le_refl _)
  have e2 : v = v' := by simpa using e'
  subst e2
  obtain ⟨p, q, rfl⟩ := hl.form
  exact ⟨p, q, e, hO, hb⟩

end Go.Proofs.YtkpobihpcnoemaaDoor
/- Commits: impl.PlayCommit. Written by tools/mkCrP.py. -/
namespace Go.Proofs.YtkpobihpcnoemaaDoor
open Go.RowKit
set_option linter.unusedVariables false
set_option linter.unusedSimpArgs false


set_option maxRecDepth 100000 in
set_option maxHeartbeats 8000000 in
theorem playCommit_n (a1 : Option Addr) (k1 : Nat) (am : List (Sh.T .int)) (a2 : Option Addr) (c2 : Nat) (l : List Stp) (w : World) (hm : am.length ≤ 1073741824) (hn : l.length ≤ 1073741824) (hf : Flt w) (h1 : Lies w (.list .int) [.slice a1 am.length k1] am) (h2 : Lies w (.list shCommitStep) [.slice a2 l.length c2] l) :
    Calls Tryd.prog 8 #[.slice a1 am.length k1, .slice a2 l.length c2] w (PcR am l w) := by
  have HL := Hid.intro h2
  have HFL := Hid.intro hf
  obtain ⟨i0, hi0, hz0, hz1, hz2⟩ := info_parts inf_boolC
  obtain ⟨w0, hw0⟩ : ∃ x, x = w.alloc (.cells #[.slice none 0 0, .int .i64 0, .int .i64 0] 29) := ⟨_, rfl⟩
  have HB0 : Hid (Bx w0 w.heap.size [.slice none 0 0, .int .i64 0, .int .i64 0] ∧ Below w.heap.size w w0 ∧ w0.heap.size = w.heap.size + 1) := Hid.intro ⟨hw0 ▸ Bx.new w [_, _, _] _, hw0 ▸ Go.Joins.below_alloc1 _ _, by rw [hw0]; simp⟩
  have HL1 := Hid.intro (h1.next HB0.out.2.1)
  clear h1 h2 hf
  go_enter Tryd.func8, Tryd.ntmps8
  go_wp2_with fail
  rw [← hw0]
  clear hw0
  refine (newCommit_x a1 k1 am _ hm HL1.out).mono ?_
  intro r w1 hA
  obtain ⟨p, q, rfl, hO, hb⟩ := hA.parts
  clear hA
  obtain ⟨w2, hw2⟩ : ∃ x, x = w1.alloc (.cells #[.slice p (nwC am).length q, .int .i64 0, .int .i64 0] 29) := ⟨_, rfl⟩
  have HI0 : Hid (PyS shCommit .bool 4 [.slice none 0 0, .int .i64 0, .int .i64 0] w w1.heap.size w2 [.slice p (nwC am).length q, .int .i64 0, .int .i64 0] (nwC am, 0, 0, ()) (.slice none 0 0) []) := Hid.intro (hw2 ▸ PyS.start0 (cs := [.slice p (nwC am).length q, .int .i64 0, .int .i64 0]) (t2 := 29) (HB0.out.1.next hb) hO.own (fun k hk => by have := HB0.out.2.2; simp only [Btw] at hk; omega) (below_next HB0.out.2.1 hb))
  clear hO hb HB0
  go_upto_region 2 with fail
  rw [← hw2]
  clear hw2
  have r0 := (HI0.out.1).cell 0 rfl; have r1 := (HI0.out.1).cell 1 rfl; have r2 := (HI0.out.1).cell 2 rfl; have rz := (HI0.out.1).2
  have rf0 := HI0.out.1.frz 0 (by simp)
  have rf1 := HI0.out.1.frz 1 (by simp)
  have rf2 := HI0.out.1.frz 2 (by simp)
  cases hok : nwOk am
  case false =>
    have HN : Hid (plOk am l = false) := Hid.intro (by unfold plOk; rw [hok]; rfl)
    go_wp2_with fail
    refine bodyPost_ret (v := .tuple #[.agg #[.slice none 0 0, .int .i64 0, .int .i64 0], .slice none 0 0, .bool false]) (by simp [results, Tryd.results8, go_sem, *]) rfl (PcR.no HN.out ?_)
    exact HI0.out.2.2.2.1.trans ((set3 w2 w.heap.size _ _ _).below (fun k e => by have e : k = w.heap.size := e; omega) HI0.out.2.2.2.1.size)
  by_cases c1 : l.length ≤ 100
  case neg =>
    have HN : Hid (plOk am l = false) := Hid.intro (by unfold plOk; rw [decide_eq_false c1, Bool.and_false])
    have c1' : (100 : Int) < (l.length : Int) := by omega
    go_wp2_with fail
    refine bodyPost_ret (v := .tuple #[.agg #[.slice none 0 0, .int .i64 0, .int .i64 0], .slice none 0 0, .bool false]) (by simp [results, Tryd.results8, go_sem, *]) rfl (PcR.no HN.out ?_)
    exact HI0.out.2.2.2.1.trans ((set3 w2 w.heap.size _ _ _).below (fun k e => by have e : k = w.heap.size := e; omega) HI0.out.2.2.2.1.size)
  have c1' : (l.length : Int) ≤ 100 := by omega
  have HY : Hid (plA am l = plF (nwC am, 0, 0) l ∧ plOk am l = true) := Hid.intro (pl_yes hok c1)
  have HG0 : Hid (goodX (nwC am, 0, 0)) := Hid.intro (by have h := nw_good hok; have e := nw_some hok; show goodC (nwC am) 0 0 = true; rw [e]; exact h)
  clear hok r0 r1 r2 rz rf0 rf1 rf2
  obtain ⟨b, hbE⟩ : ∃ b, b = w1.heap.size := ⟨_, rfl⟩
  rw [← hbE] at HI0 ⊢
  clear hbE
  go_wp2_with (at_make; refine wpList_plain rfl fun K9 hK9 => ?_; refine wp_make_boolC (.tmp 28) (.tmp 28) 30 4 rfl i0 Tryd.underlying30 hi0 hz0 hz1 l.length rfl rfl (by rw [hz2]; omega) (by unfold maxLen; omega) ?_; intro w3 hA3; refine hK9 _ _ ?_; obtain ⟨g, hgE⟩ : ∃ y, y = w2.heap.size := ⟨_, rfl⟩; rw [← hgE] at hA3 ⊢; have HI : Hid (PqS w b w3 (nwC am, 0, 0) (.slice (some ⟨g, 0, none⟩) l.length l.length) ([] ++ List.replicate (l.length - 0) false)) := Hid.intro ⟨_, _, HI0.out.list hA3⟩; clear hA3 hgE)
  clear HI0
  go_loopw [32] (fun i wr => ∃ (k : Nat), k ≤ l.length ∧ i = .int .i64 k ∧ PqS w b wr (plF (nwC am, 0, 0) (l.take k)).1 (.slice (some ⟨g, 0, none⟩) l.length l.length) ((plF (nwC am, 0, 0) (l.take k)).2 ++ List.replicate (l.length - k) false)) (fun i _ => l.length - (intOf i).toNat)
  case atStart => exact ⟨0, Nat.zero_le _, rfl, HI.out⟩
  case round =>
    obtain ⟨k, hk, rfl, hC⟩ := hrel
    clear HI
    have HG : Hid (goodX (plF (nwC am, 0, 0) (l.take k)).1) := Hid.intro (pl_good HG0.out hk)
    have HDL : Hid ((plF (nwC am, 0, 0) (l.take k)).2.length = k) := Hid.intro (pl_len hk)
    by_cases hlt : k < l.length
    · have hlt' : (k : Int) < (l.length : Int) := by omega
      have HLE : Hid (Lies wr (.list shCommitStep) [.slice a2 l.length c2] l) := Hid.intro (by obtain ⟨_, _, q⟩ := hC; exact HL.out.next q.2.2.2.1)
      obtain ⟨xg, xoff, xgo, xgs, xec, xel, xhec, xle⟩ := Lies.elem (HLE.out) hlt
      subst xgo
      rcases xX : l[k] with ⟨x0, x1, x2, ⟨⟩⟩
      rw [xX] at xle
      have xH : Hid (l[k] = (x0, x1, x2, ())) := xX
      clear xX
      obtain xev := lies_CommitStep xle
      subst xev
      have xc0 : wr.cell? ⟨xg, xoff + k * 3, none⟩ = some (.int .i64 x0) := xhec 0 (by simp)
      have xc1 : wr.cell? ⟨xg, xoff + k * 3 + 1, none⟩ = some (.int .i64 x1) := xhec 1 (by simp)
      have xc2 : wr.cell? ⟨xg, xoff + k * 3 + 2, none⟩ = some (.int .i64 x2) := xhec 2 (by simp)
      clear xhec xel xle
      have HPD := Hid.intro (pl_take (s := (nwC am, 0, 0)) hlt)
      rw [xH.out] at HPD
      clear HLE
      generalize plF (nwC am, 0, 0) (l.take k) = F at hC HG HDL HPD
      obtain ⟨⟨ss, dr, rc⟩, D⟩ := F
      obtain ⟨p, q, hC⟩ := hC
      have HC : Hid (PyS shCommit .bool 4 [.slice none 0 0, .int .i64 0, .int .i64 0] w b wr [.slice p ss.length q, .int .i64 dr, .int .i64 rc] (ss, dr, rc, ()) (.slice (some ⟨g, 0, none⟩) l.length l.length) (D ++ List.replicate (l.length - k) false)) := Hid.intro hC
      have HG : Hid (goodC ss dr rc = true) := HG
      have HDL : Hid (D.length = k) := HDL
      obtain ⟨E, hE⟩ : ∃ E, stC ss dr rc x0 x1 x2 = E := ⟨_, rfl⟩
      have HE : Hid (stC ss dr rc x0 x1 x2 = E) := Hid.intro hE
      have HPD : Hid (plF (nwC am, 0, 0) (l.take (k + 1)) = (E.getD (ss, dr, rc), D ++ [E.isSome])) := Hid.intro (by rw [← hE]; exact HPD.out)
      have s0 := (hC.2.1).cell 0 rfl; have s1 := (hC.2.1).cell 1 rfl; have s2 := (hC.2.1).cell 2 rfl; have sz := (hC.2.1).2
      clear hC hE
      obtain ⟨W1, hW1⟩ : ∃ x, x = wr.alloc (.cells #[.int .i64 x0, .int .i64 x1, .int .i64 x2] 48) := ⟨_, rfl⟩
      have HW1 : Hid (Below wr.heap.size wr W1) := Hid.intro (hW1 ▸ Go.Joins.below_alloc1 _ _)
      go_wp2_with fail
      rw [← hW1]
      clear hW1 xc0 xc1 xc2 s0 s1 s2 sz
      have hzc := good_szC HG.out
      refine (stepCommit_n [.slice p ss.length q, .int .i64 dr, .int .i64 rc] ss dr rc x0 x1 x2 _ (by omega) (HFL.out.next (below_next HC.out.2.2.2.1 HW1.out) HFL.out.lt) (HC.out.lies.next HW1.out)).mono ?_
      rw [stS_yes HG.out, HE.out]
      cases E with
      | none =>
        intro r W2 h9
        obtain ⟨p5, q5, rfl, ho9, hb⟩ := (scp_none h9).parts
        clear h9
        have HC2 := Hid.intro (HC.out.next (below_next HW1.out hb))
        have HPD : Hid (plF (nwC am, 0, 0) (l.take (k + 1)) = ((ss, dr, rc), D ++ [false])) := HPD
        clear ho9 hb
        obtain ⟨Y, hY⟩ : ∃ x, x = W2.alloc (.cells #[.slice p5 0 q5, .int .i64 0, .int .i64 0] 29) := ⟨_, rfl⟩
        have HQ := Hid.intro (hY ▸ HC2.out.next (Go.Joins.below_alloc1 _ _))
        go_upto_region 11 with fail
        rw [← hY]
        clear hY HC2
        have hDD := HQ.out.didb (k := k) (by rw [List.length_append, List.length_replicate, HDL.out]; omega) hlt false
        obtain ⟨⟨x9, hx9⟩, hf9, hg9, hgb, hPP⟩ := hDD
        have HPP := Hid.intro hPP
        clear hPP
        have s0 := (HQ.out.2.1).cell 0 rfl; have s1 := (HQ.out.2.1).cell 1 rfl; have s2 := (HQ.out.2.1).cell 2 rfl; have sz := (HQ.out.2.1).2
        go_wp2_with fail
        go_roundw
        case rel => exact ⟨k + 1, by omega, by go_num, by rw [HPD.out]; exact ⟨_, _, by rw [← pl_set HDL.out hlt]; exact HPP.out⟩⟩
        case measure => simp [intOf]; omega
      | some y =>
        intro r W2 h9
        obtain ⟨p5, q5, rfl, ho9, hb⟩ := (scp_some h9).parts
        clear h9
        obtain ⟨ss2, dr2, rc2⟩ := y
        have hb2 := below_next HW1.out hb
        have HC2 := Hid.intro (HC.out.next hb2)
        have HP2 : Hid (PyS shCommit .bool 4 [.slice none 0 0, .int .i64 0, .int .i64 0] w b (((W2.setCell ⟨b, 0, none⟩ (.slice p5 ss2.length q5)).setCell ⟨b, 1, none⟩ (.int .i64 dr2)).setCell ⟨b, 2, none⟩ (.int .i64 rc2)) [.slice p5 ss2.length q5, .int .i64 dr2, .int .i64 rc2] (ss2, dr2, rc2, ()) (.slice (some ⟨g, 0, none⟩) l.length l.length) (D ++ List.replicate (l.length - k) false)) := Hid.intro (HC.out.put hb2 ho9.own (fun k hk => ⟨Nat.le_trans HW1.out.size hk.1, hk.2⟩) (set3 W2 b _ _ _) (HC2.out.2.1.set3c _ _ _))
        have HPD : Hid (plF (nwC am, 0, 0) (l.take (k + 1)) = ((ss2, dr2, rc2), D ++ [true])) := HPD
        clear ho9 hb hb2
        have s0 := (HC2.out.2.1).cell 0 rfl; have s1 := (HC2.out.2.1).cell 1 rfl; have s2 := (HC2.out.2.1).cell 2 rfl; have sz := (HC2.out.2.1).2
        have sf0 := HC2.out.2.1.frz 0 (by simp)
        have sf1 := HC2.out.2.1.frz 1 (by simp)
        have sf2 := HC2.out.2.1.frz 2 (by simp)
        obtain ⟨Y, hY⟩ : ∃ x, x = (((W2.setCell ⟨b, 0, none⟩ (.slice p5 ss2.length q5)).setCell ⟨b, 1, none⟩ (.int .i64 dr2)).setCell ⟨b, 2, none⟩ (.int .i64 rc2)).alloc (.cells #[.slice p5 ss2.length q5, .int .i64 dr2, .int .i64 rc2] 29) := ⟨_, rfl⟩
        have HQ := Hid.intro (hY ▸ HP2.out.next (Go.Joins.below_alloc1 _ _))
        go_upto_region 11 with fail
        rw [← hY]
        clear hY s0 s1 s2 sz sf0 sf1 sf2 HC2 HP2
        have hDD := HQ.out.didb (k := k) (by rw [List.length_append, List.length_replicate, HDL.out]; omega) hlt true
        obtain ⟨⟨x9, hx9⟩, hf9, hg9, hgb, hPP⟩ := hDD
        have HPP := Hid.intro hPP
        clear hPP
        have s0 := (HQ.out.2.1).cell 0 rfl; have s1 := (HQ.out.2.1).cell 1 rfl; have s2 := (HQ.out.2.1).cell 2 rfl; have sz := (HQ.out.2.1).2
        go_wp2_with fail
        go_roundw
        case rel => exact ⟨k + 1, by omega, by go_num, by rw [HPD.out]; exact ⟨_, _, by rw [← pl_set HDL.out hlt]; exact HPP.out⟩⟩
        case measure => simp [intOf]; omega
    · have hkn : k = l.length := by omega
      have hC2 : PqS w b wr (plF (nwC am, 0, 0) l).1 (.slice (some ⟨g, 0, none⟩) l.length l.length) (plF (nwC am, 0, 0) l).2 := by
        have := hC
        rw [hkn, List.take_length, Nat.sub_self, List.replicate_zero, List.append_nil] at this
        exact this
      clear hC HG HDL hkn
      generalize plF (nwC am, 0, 0) l = F at hC2 HY
      obtain ⟨⟨ss, dr, rc⟩, D⟩ := F
      obtain ⟨p, q, hC2⟩ := hC2
      have HC : Hid (PyS shCommit .bool 4 [.slice none 0 0, .int .i64 0, .int .i64 0] w b wr [.slice p ss.length q, .int .i64 dr, .int .i64 rc] (ss, dr, rc, ()) (.slice (some ⟨g, 0, none⟩) l.length l.length) D) := Hid.intro hC2
      clear hC2
      have HP : Hid (PcR am l w (.returned (.tuple #[.agg #[.slice p ss.length q, .int .i64 dr, .int .i64 rc], (.slice (some ⟨g, 0, none⟩) l.length l.length), .bool true])) (((wr.setCell ⟨w.heap.size, 0, none⟩ (.slice p ss.length q)).setCell ⟨w.heap.size, 1, none⟩ (.int .i64 dr)).setCell ⟨w.heap.size, 2, none⟩ (.int .i64 rc))) := Hid.intro (by
        unfold PcR; rw [HY.out.1, HY.out.2]; exact HC.out.done (set3 wr w.heap.size _ _ _))
      have s0 := (HC.out.2.1).cell 0 rfl; have s1 := (HC.out.2.1).cell 1 rfl; have s2 := (HC.out.2.1).cell 2 rfl; have sz := (HC.out.2.1).2
      have r0 := (HC.out.1).cell 0 rfl; have r1 := (HC.out.1).cell 1 rfl; have r2 := (HC.out.1).cell 2 rfl; have rz := (HC.out.1).2
      have rf0 := HC.out.1.frz 0 (by simp)
      have rf1 := HC.out.1.frz 1 (by simp)
      have rf2 := HC.out.1.frz 2 (by simp)
      go_wp2_with fail
      exact bodyPost_ret (v := .tuple #[.agg #[.slice p ss.length q, .int .i64 dr, .int .i64 rc], (.slice (some ⟨g, 0, none⟩) l.length l.length), .bool true]) (by simp [results, Tryd.results8, go_sem, *]) rfl HP.out

end Go.Proofs.YtkpobihpcnoemaaDoor
/- Commits: spec.PlayCommit. Written by tools/mkCrP.py. -/
namespace Go.Proofs.YtkpobihpcnoemaaDoor
open Go.RowKit
set_option linter.unusedVariables false
set_option linter.unusedSimpArgs false


set_option maxRecDepth 100000 in
set_option maxHeartbeats 8000000 in
theorem specPlayCommit_n (a1 : Option Addr) (k1 : Nat) (am : List (Sh.T .int)) (a2 : Option Addr) (c2 : Nat) (l : List Stp) (w : World) (hm : am.length ≤ 1073741824) (hn : l.length ≤ 1073741824) (h1 : Lies w (.list .int) [.slice a1 am.length k1] am) (h2 : Lies w (.list shCommitStep) [.slice a2 l.length c2] l) :
    Calls Tryd.prog 9 #[.slice a1 am.length k1, .slice a2 l.length c2] w (PcR am l w) := by
  have HL := Hid.intro h2
  skip
  obtain ⟨i0, hi0, hz0, hz1, hz2⟩ := info_parts inf_boolC
  obtain ⟨w0, hw0⟩ : ∃ x, x = w.alloc (.cells #[.slice none 0 0, .int .i64 0, .int .i64 0] 29) := ⟨_, rfl⟩
  have HB0 : Hid (Bx w0 w.heap.size [.slice none 0 0, .int .i64 0, .int .i64 0] ∧ Below w.heap.size w w0 ∧ w0.heap.size = w.heap.size + 1) := Hid.intro ⟨hw0 ▸ Bx.new w [_, _, _] _, hw0 ▸ Go.Joins.below_alloc1 _ _, by rw [hw0]; simp⟩
  have HL1 := Hid.intro (h1.next HB0.out.2.1)
  clear h1 h2
  go_enter Tryd.func9, Tryd.ntmps9
  go_wp2_with fail
  rw [← hw0]
  clear hw0
  refine (specNewCommit_x a1 k1 am _ hm HL1.out).mono ?_
  intro r w1 hA
  obtain ⟨p, q, rfl, hO, hb⟩ := hA.parts
  clear hA
  obtain ⟨w2, hw2⟩ : ∃ x, x = w1.alloc (.cells #[.slice p (nwC am).length q, .int .i64 0, .int .i64 0] 29) := ⟨_, rfl⟩
  have HI0 : Hid (PyS shCommit .bool 4 [.slice none 0 0, .int .i64 0, .int .i64 0] w w1.heap.size w2 [.slice p (nwC am).length q, .int .i64 0, .int .i64 0] (nwC am, 0, 0, ()) (.slice none 0 0) []) := Hid.intro (hw2 ▸ PyS.start0 (cs := [.slice p (nwC am).length q, .int .i64 0, .int .i64 0]) (t2 := 29) (HB0.out.1.next hb) hO.own (fun k hk => by have := HB0.out.2.2; simp only [Btw] at hk; omega) (below_next HB0.out.2.1 hb))
  clear hO hb HB0
  go_upto_region 2 with fail
  rw [← hw2]
  clear hw2
  have r0 := (HI0.out.1).cell 0 rfl; have r1 := (HI0.out.1).cell 1 rfl; have r2 := (HI0.out.1).cell 2 rfl; have rz := (HI0.out.1).2
  have rf0 := HI0.out.1.frz 0 (by simp)
  have rf1 := HI0.out.1.frz 1 (by simp)
  have rf2 := HI0.out.1.frz 2 (by simp)
  cases hok : nwOk am
  case false =>
    have HN : Hid (plOk am l = false) := Hid.intro (by unfold plOk; rw [hok]; rfl)
    go_wp2_with fail
    refine bodyPost_ret (v := .tuple #[.agg #[.slice none 0 0, .int .i64 0, .int .i64 0], .slice none 0 0, .bool false]) (by simp [results, Tryd.results9, go_sem, *]) rfl (PcR.no HN.out ?_)
    exact HI0.out.2.2.2.1.trans ((set3 w2 w.heap.size _ _ _).below (fun k e => by have e : k = w.heap.size := e; omega) HI0.out.2.2.2.1.size)
  by_cases c1 : l.length ≤ 100
  case neg =>
    have HN : Hid (plOk am l = false) := Hid.intro (by unfold plOk; rw [decide_eq_false c1, Bool.and_false])
    have c1' : (100 : Int) < (l.length : Int) := by omega
    go_wp2_with fail
    refine bodyPost_ret (v := .tuple #[.agg #[.slice none 0 0, .int .i64 0, .int .i64 0], .slice none 0 0, .bool false]) (by simp [results, Tryd.results9, go_sem, *]) rfl (PcR.no HN.out ?_)
    exact HI0.out.2.2.2.1.trans ((set3 w2 w.heap.size _ _ _).below (fun k e => by have e : k = w.heap.size := e; omega) HI0.out.2.2.2.1.size)
  have c1' : (l.length : Int) ≤ 100 := by omega
  have HY : Hid (plA am l = plF (nwC am, 0, 0) l ∧ plOk am l = true) := Hid.intro (pl_yes hok c1)
  have HG0 : Hid (goodX (nwC am, 0, 0)) := Hid.intro (by have h := nw_good hok; have e := nw_some hok; show goodC (nwC am) 0 0 = true; rw [e]; exact h)
  clear hok r0 r1 r2 rz rf0 rf1 rf2
  obtain ⟨b, hbE⟩ : ∃ b, b = w1.heap.size := ⟨_, rfl⟩
  rw [← hbE] at HI0 ⊢
  clear hbE
  have HI : Hid (PqS w b w2 (nwC am, 0, 0) (.slice none 0 0) []) := Hid.intro ⟨_, _, HI0.out⟩
  clear HI0
  go_wp2_with fail
  go_loopw [29, 9] (fun i vl wr => ∃ (k : Nat) (v : Value), k ≤ l.length ∧ i = .int .i64 k ∧ vl = v ∧ PqS w b wr (plF (nwC am, 0, 0) (l.take k)).1 v (plF (nwC am, 0, 0) (l.take k)).2) (fun i _ _ => l.length - (intOf i).toNat)
  case atStart => exact ⟨0, _, Nat.zero_le _, rfl, rfl, HI.out⟩
  case round =>
    obtain ⟨k, v, hk, rfl, hvl, hC⟩ := hrel
    have hvl := hvl.symm
    subst hvl
    clear HI
    have HG : Hid (goodX (plF (nwC am, 0, 0) (l.take k)).1) := Hid.intro (pl_good HG0.out hk)
    have HDL : Hid ((plF (nwC am, 0, 0) (l.take k)).2.length = k) := Hid.intro (pl_len hk)
    by_cases hlt : k < l.length
    · have hlt' : (k : Int) < (l.length : Int) := by omega
      have HLE : Hid (Lies wr (.list shCommitStep) [.slice a2 l.length c2] l) := Hid.intro (by obtain ⟨_, _, q⟩ := hC; exact HL.out.next q.2.2.2.1)
      obtain ⟨xg, xoff, xgo, xgs, xec, xel, xhec, xle⟩ := Lies.elem (HLE.out) hlt
      subst xgo
      rcases xX : l[k] with ⟨x0, x1, x2, ⟨⟩⟩
      rw [xX] at xle
      have xH : Hid (l[k] = (x0, x1, x2, ())) := xX
      clear xX
      obtain xev := lies_CommitStep xle
      subst xev
      have xc0 : wr.cell? ⟨xg, xoff + k * 3, none⟩ = some (.int .i64 x0) := xhec 0 (by simp)
      have xc1 : wr.cell? ⟨xg, xoff + k * 3 + 1, none⟩ = some (.int .i64 x1) := xhec 1 (by simp)
      have xc2 : wr.cell? ⟨xg, xoff + k * 3 + 2, none⟩ = some (.int .i64 x2) := xhec 2 (by simp)
      clear xhec xel xle
      have HPD := Hid.intro (pl_take (s := (nwC am, 0, 0)) hlt)
      rw [xH.out] at HPD
      clear HLE
      generalize plF (nwC am, 0, 0) (l.take k) = F at hC HG HDL HPD
      obtain ⟨⟨ss, dr, rc⟩, D⟩ := F
      obtain ⟨p, q, hC⟩ := hC
      have HC : Hid (PyS shCommit .bool 4 [.slice none 0 0, .int .i64 0, .int .i64 0] w b wr [.slice p ss.length q, .int .i64 dr, .int .i64 rc] (ss, dr, rc, ()) v D) := Hid.intro hC
      have HG : Hid (goodC ss dr rc = true) := HG
      have HDL : Hid (D.length = k) := HDL
      obtain ⟨E, hE⟩ : ∃ E, stC ss dr rc x0 x1 x2 = E := ⟨_, rfl⟩
      have HE : Hid (stC ss dr rc x0 x1 x2 = E) := Hid.intro hE
      have HPD : Hid (plF (nwC am, 0, 0) (l.take (k + 1)) = (E.getD (ss, dr, rc), D ++ [E.isSome])) := Hid.intro (by rw [← hE]; exact HPD.out)
      clear hC hE
      obtain ⟨hn3, hr3, _, _⟩ := good_small HG.out
      have HR := Hid.intro hr3
      have HZ : Hid (szD shCommit (ss, dr, rc, ()) ≤ 1073741824) := Hid.intro (Nat.le_trans (good_szC HG.out) (by decide))
      clear hr3
      have hn0 := hn
      replace hn := hn3
      obtain ⟨W1, hW1⟩ : ∃ x, x = wr.alloc (.cells #[.int .i64 x0, .int .i64 x1, .int .i64 x2] 48) := ⟨_, rfl⟩
      have HW1 : Hid (Below wr.heap.size wr W1.drew ∧ Bx W1.drew wr.heap.size [.int .i64 x0, .int .i64 x1, .int .i64 x2]) := Hid.intro ⟨below_next (hW1 ▸ Go.Joins.below_alloc1 _ _ : Below wr.heap.size wr W1) (below_drew _), (hW1 ▸ Bx.new wr [_, _, _] _ : Bx W1 _ _).next (below_drew _)⟩
      go_upto_region 8 with fail
      rw [← hW1]
      clear hW1 xc0 xc1 xc2
      obtain ⟨X0, hX0⟩ : ∃ x, x = W1.drew := ⟨_, rfl⟩
      have HX := Hid.intro (hX0 ▸ HC.out.next HW1.out.1)
      have HT : Hid (Bx X0 wr.heap.size [.int .i64 x0, .int .i64 x1, .int .i64 x2]) := Hid.intro (hX0 ▸ HW1.out.2)
      have hbw : Below X0.heap.size X0 X0 := Below.refl _ _
      have HLI := Hid.intro HX.out.lies
      clear HW1 HC
      cases E with
      | none =>
        refine wp_region_noPanic ?_
        refine wp_region_held_drew (S := fun W => Below X0.heap.size X0 W) (by kernel_rfl) (hX0 ▸ Below.refl _ _) (fun hHeld => ?_)
        rw [← hX0] at hHeld ⊢
        clear hX0
        refine take_v (v := ?_) 0 ⟨some 34, Op.load 29 (Operand.tmp 7), _, _, _, none⟩ rfl (fun _ _ _ h => h) ?_ hHeld ?_
        rotate_left
        · (intro W hSW; (have s0 := (HX.out.2.1.next hSW).cell 0 rfl; have s1 := (HX.out.2.1.next hSW).cell 1 rfl; have s2 := (HX.out.2.1.next hSW).cell 2 rfl; have sz := (HX.out.2.1.next hSW).2; have t0 := (HT.out.next hSW).cell 0 rfl; have t1 := (HT.out.next hSW).cell 1 rfl; have t2 := (HT.out.next hSW).cell 2 rfl; have tz := (HT.out.next hSW).2); go_simp <;> (try with_reducible rfl))
        refine take_v (v := ?_) 2 ⟨some 36, Op.load 48 (Operand.tmp 11), _, _, _, none⟩ rfl (fun _ _ _ h => h) ?_ hHeld ?_
        rotate_left
        · (intro W hSW; (have s0 := (HX.out.2.1.next hSW).cell 0 rfl; have s1 := (HX.out.2.1.next hSW).cell 1 rfl; have s2 := (HX.out.2.1.next hSW).cell 2 rfl; have sz := (HX.out.2.1.next hSW).2; have t0 := (HT.out.next hSW).cell 0 rfl; have t1 := (HT.out.next hSW).cell 1 rfl; have t2 := (HT.out.next hSW).cell 2 rfl; have tz := (HT.out.next hSW).2); go_simp <;> (try with_reducible rfl))
        refine ready_two 1 7 ⟨some 35, Op.call { callee := Callee.value (Operand.func 39), args := #[Operand.tmp 34], argTypes := #[29] }, _, _, _, none⟩ ⟨some 12, Op.alloc 29, _, _, _, none⟩ (by kernel_rfl) rfl rfl (by kernel_rfl) (by kernel_rfl) (fun KC hK => ?_) (fun KC hK => ?_)
        ·
          go_wp2_with fail
          refine (l15Own_n [.slice p ss.length q, .int .i64 dr, .int .i64 rc] ss dr rc _ HZ.out (HLI.out.next hbw)).mono ?_
          rintro r W1 ⟨cs1, rfl, hO, hb⟩
          obtain ⟨v1, hcs, hl1⟩ := LsU.of hO (Nat.le_refl _)
          subst hcs
          obtain ⟨va1, vc1, hv1⟩ := hl1.form
          subst hv1
          have HO1 := Hid.intro (And.intro hl1 hbw.size)
          (first | (have h7n := Hid.intro (Or.inl (b := W1.heap.size ≤ b7) H7.out.1.2); have H7 := Hid.intro (And.intro (H7.out.1.next hb) H7.out.2)) | skip)
          have hbw := below_next hbw hb
          clear hb hO hl1
          refine hK.out _ _ hbw (fun hHeld => ?_)
          clear hK KC
          refine ready_two 3 7 ⟨some 37, Op.call { callee := Callee.value (Operand.func 38), args := #[Operand.tmp 35, Operand.tmp 36], argTypes := #[29, 48] }, _, _, _, none⟩ ⟨some 12, Op.alloc 29, _, _, _, none⟩ (by kernel_rfl) rfl rfl (by kernel_rfl) (by kernel_rfl) (fun KC hK => ?_) (fun KC hK => ?_)
          ·
            go_wp2_with fail
            refine (l15Step_n _ _ _ ss dr rc x0 x1 x2 _ hn HR.out HO1.out.1).mono ?_
            rintro r W2 ⟨hyes, hno, hT⟩
            obtain ⟨d5, e5, rfl⟩ := hno HE.out
            have hsz := Hid.intro hT.size
            (first | (have H7 := Hid.intro (And.intro (H7.out.1.turnS hT (fun q => by simp only [Btw] at q; rcases h7n.out with e | e; (first | exact e.elim | omega); omega)) H7.out.2)) | skip)
            have hbw := hbw.trans (hT.below (fun k q => Nat.le_trans HO1.out.2 q.1) hbw.size)
            clear hyes hno hT
            refine hK.out _ _ hbw (fun hHeld => ?_)
            clear hK KC
            refine take_v (v := ?_) 4 ⟨some 33, Op.move (Operand.tmp 37), _, _, _, none⟩ rfl (fun _ _ _ h => h) ?_ hHeld ?_
            rotate_left
            · (intro W _; go_simp <;> (try with_reducible rfl))
            refine take_v (v := ?_) 5 ⟨some 38, Op.extract (Operand.tmp 33) 0, _, _, _, none⟩ rfl (fun _ _ _ h => h) ?_ hHeld ?_
            rotate_left
            · (intro W _; go_simp <;> (try with_reducible rfl))
            refine take_v (v := ?_) 6 ⟨some 39, Op.extract (Operand.tmp 33) 1, _, _, _, none⟩ rfl (fun _ _ _ h => h) ?_ hHeld ?_
            rotate_left
            · (intro W _; go_simp <;> (try with_reducible rfl))
            refine ready_call 7 ⟨some 12, Op.alloc 29, _, _, _, none⟩ (by kernel_rfl) rfl (by kernel_rfl) (fun KC hK => ?_)
            go_wp2_with fail
            (first | (obtain ⟨W7, hW7⟩ : ∃ x, x = W2.alloc (.cells #[.slice none 0 0, .int .i64 0, .int .i64 0] 29) := ⟨_, rfl⟩; have hb : Below W2.heap.size W2 W7 := hW7 ▸ Go.Joins.below_alloc1 _ _; obtain ⟨b7, hb7⟩ : ∃ b, b = W2.heap.size := ⟨_, rfl⟩; have H7 : Hid (Bx W7 b7 [.slice none 0 0, .int .i64 0, .int .i64 0] ∧ X0.heap.size ≤ b7) := Hid.intro ⟨hb7 ▸ hW7 ▸ Bx.new W2 [_, _, _] _, hb7 ▸ hbw.size⟩; have h7n : Hid (False ∨ W1.heap.size ≤ b7) := Hid.intro (Or.inr (by have := hsz.out; omega)); have hbw := below_next hbw hb; rw [← hW7, ← hb7]; clear hW7 hb7 hb) | (obtain ⟨W7, hW7⟩ : ∃ x, x = W1.alloc (.cells #[.slice none 0 0, .int .i64 0, .int .i64 0] 29) := ⟨_, rfl⟩; have hb : Below W1.heap.size W1 W7 := hW7 ▸ Go.Joins.below_alloc1 _ _; obtain ⟨b7, hb7⟩ : ∃ b, b = W1.heap.size := ⟨_, rfl⟩; have H7 : Hid (Bx W7 b7 [.slice none 0 0, .int .i64 0, .int .i64 0] ∧ X0.heap.size ≤ b7) := Hid.intro ⟨hb7 ▸ hW7 ▸ Bx.new W1 [_, _, _] _, hb7 ▸ hbw.size⟩; have h7n : Hid (False ∨ W1.heap.size ≤ b7) := Hid.intro (Or.inr (by omega)); have HO1 := Hid.intro (And.intro (LsU.next HO1.out.1 hb) HO1.out.2); have hbw := below_next hbw hb; rw [← hW7, ← hb7]; clear hW7 hb7 hb) | (obtain ⟨W7, hW7⟩ : ∃ x, x = X0.alloc (.cells #[.slice none 0 0, .int .i64 0, .int .i64 0] 29) := ⟨_, rfl⟩; have hb : Below X0.heap.size X0 W7 := hW7 ▸ Go.Joins.below_alloc1 _ _; obtain ⟨b7, hb7⟩ : ∃ b, b = X0.heap.size := ⟨_, rfl⟩; have H7 : Hid (Bx W7 b7 [.slice none 0 0, .int .i64 0, .int .i64 0] ∧ X0.heap.size ≤ b7) := Hid.intro ⟨hb7 ▸ hW7 ▸ Bx.new X0 [_, _, _] _, hb7 ▸ hbw.size⟩; have hbw := below_next hbw hb; rw [← hW7, ← hb7]; clear hW7 hb7 hb))
            refine hK.out _ _ hbw (fun hHeld => ?_)
            clear hK KC
            refine ready_call 8 ⟨none, Op.store 29 (Operand.tmp 12) (Operand.tmp 38), _, _, _, none⟩ (by kernel_rfl) rfl (by kernel_rfl) (fun KC hK => ?_)
            have d0 := H7.out.1.cell 0 rfl
            have d1 := H7.out.1.cell 1 rfl
            have d2 := H7.out.1.cell 2 rfl
            have dz := H7.out.1.2
            have f0 := H7.out.1.frz 0 (by simp)
            have f1 := H7.out.1.frz 1 (by simp)
            have f2 := H7.out.1.frz 2 (by simp)
            go_wp2_with fail
            clear d0 d1 d2 dz f0 f1 f2
            have HF := Hid.intro (boxC_none H7.out.1 hbw H7.out.2 (.slice va1 ss.length vc1) (.int .i64 d5) (.int .i64 e5))
            refine hK.out _ _ HF.out.2.1 (fun hHeld => ?_)
            clear hK KC
            refine take_v (v := ?_) 9 ⟨some 13, Op.assign (Operand.tmp 39), _, _, _, none⟩ rfl (fun _ _ _ h => h) ?_ hHeld ?_
            rotate_left
            · (intro W _; go_simp <;> (try with_reducible rfl))
            refine wpAnyH_done (by kernel_rfl) ?_ _
            refine NoPanic.normal ?_
            clear hHeld
            (first | (obtain ⟨X9, hX9⟩ : ∃ x, x = ((W7.setCell ⟨b7, 0, none⟩ (.slice va1 ss.length vc1)).setCell ⟨b7, 1, none⟩ (.int .i64 d5)).setCell ⟨b7, 2, none⟩ (.int .i64 e5) := ⟨_, rfl⟩; rw [← hX9] at HF ⊢; clear hX9) | (obtain ⟨X9, hX9⟩ : ∃ x, x = ((W2.setCell ⟨b7, 0, none⟩ (.slice va1 ss.length vc1)).setCell ⟨b7, 1, none⟩ (.int .i64 d5)).setCell ⟨b7, 2, none⟩ (.int .i64 e5) := ⟨_, rfl⟩; rw [← hX9] at HF ⊢; clear hX9))
            clear hbw H7 HO1 h7n hsz
            have HQ := Hid.intro (HX.out.next HF.out.2.1)
            have HPD : Hid (plF (nwC am, 0, 0) (l.take (k + 1)) = ((ss, dr, rc), D ++ [false])) := HPD
            have HA := Hid.intro (HQ.out.next (Go.Joins.below_alloc1 X9 (.cells #[.bool false] 4)))
            have s0 := (HQ.out.2.1).cell 0 rfl; have s1 := (HQ.out.2.1).cell 1 rfl; have s2 := (HQ.out.2.1).cell 2 rfl; have sz := (HQ.out.2.1).2
            have hDk : D.length + 1 ≤ maxLen := by have := HDL.out; unfold maxLen; omega
            have hDb : (D.length + 1) * 1 ≤ 140737488355328 := by have := HDL.out; omega
            go_wp2_with (first | (at_builtin; (obtain ⟨Sd9, hOd⟩ := HA.out.row); refine wpList_appx rfl (.tmp 42) (.tmp 44) 30 4 rfl i0 (.bool false) 1 (w.heap.size + 1) .bool rfl Tryd.underlying30 hi0 hz0 hz1 hz2 rfl (by decide) v D [false] Sd9 rfl hOd (some ⟨X9.heap.size, 0, none⟩) 1 rfl (lies_one (w := X9) (e := .bool) (cs := [.bool false]) (x := false) 4 rfl rfl) hDk hDb (by have h1 := HA.out.2.2.2.1.size; have h2 := HA.out.1.2; omega) ?_; intro v9 w9 hO9 hg9 hwh9; have H9 := Hid.intro (HA.out.app rfl hO9 hg9 hwh9); clear hO9 hg9 hwh9) | go_in)
            go_roundw
            case rel => exact ⟨k + 1, v9, by omega, by go_num, rfl, by rw [HPD.out]; exact ⟨_, _, H9.out⟩⟩
            case measure => simp [intOf]; omega
          ·
            go_wp2_with fail
            (first | (obtain ⟨W7, hW7⟩ : ∃ x, x = W2.alloc (.cells #[.slice none 0 0, .int .i64 0, .int .i64 0] 29) := ⟨_, rfl⟩; have hb : Below W2.heap.size W2 W7 := hW7 ▸ Go.Joins.below_alloc1 _ _; obtain ⟨b7, hb7⟩ : ∃ b, b = W2.heap.size := ⟨_, rfl⟩; have H7 : Hid (Bx W7 b7 [.slice none 0 0, .int .i64 0, .int .i64 0] ∧ X0.heap.size ≤ b7) := Hid.intro ⟨hb7 ▸ hW7 ▸ Bx.new W2 [_, _, _] _, hb7 ▸ hbw.size⟩; have h7n : Hid (False ∨ W1.heap.size ≤ b7) := Hid.intro (Or.inr (by have := hsz.out; omega)); have hbw := below_next hbw hb; rw [← hW7, ← hb7]; clear hW7 hb7 hb) | (obtain ⟨W7, hW7⟩ : ∃ x, x = W1.alloc (.cells #[.slice none 0 0, .int .i64 0, .int .i64 0] 29) := ⟨_, rfl⟩; have hb : Below W1.heap.size W1 W7 := hW7 ▸ Go.Joins.below_alloc1 _ _; obtain ⟨b7, hb7⟩ : ∃ b, b = W1.heap.size := ⟨_, rfl⟩; have H7 : Hid (Bx W7 b7 [.slice none 0 0, .int .i64 0, .int .i64 0] ∧ X0.heap.size ≤ b7) := Hid.intro ⟨hb7 ▸ hW7 ▸ Bx.new W1 [_, _, _] _, hb7 ▸ hbw.size⟩; have h7n : Hid (False ∨ W1.heap.size ≤ b7) := Hid.intro (Or.inr (by omega)); have HO1 := Hid.intro (And.intro (LsU.next HO1.out.1 hb) HO1.out.2); have hbw := below_next hbw hb; rw [← hW7, ← hb7]; clear hW7 hb7 hb) | (obtain ⟨W7, hW7⟩ : ∃ x, x = X0.alloc (.cells #[.slice none 0 0, .int .i64 0, .int .i64 0] 29) := ⟨_, rfl⟩; have hb : Below X0.heap.size X0 W7 := hW7 ▸ Go.Joins.below_alloc1 _ _; obtain ⟨b7, hb7⟩ : ∃ b, b = X0.heap.size := ⟨_, rfl⟩; have H7 : Hid (Bx W7 b7 [.slice none 0 0, .int .i64 0, .int .i64 0] ∧ X0.heap.size ≤ b7) := Hid.intro ⟨hb7 ▸ hW7 ▸ Bx.new X0 [_, _, _] _, hb7 ▸ hbw.size⟩; have hbw := below_next hbw hb; rw [← hW7, ← hb7]; clear hW7 hb7 hb))
            refine hK.out _ _ hbw (fun hHeld => ?_)
            clear hK KC
            refine ready_call 3 ⟨some 37, Op.call { callee := Callee.value (Operand.func 38), args := #[Operand.tmp 35, Operand.tmp 36], argTypes := #[29, 48] }, _, _, _, none⟩ (by kernel_rfl) rfl (by kernel_rfl) (fun KC hK => ?_)
            go_wp2_with fail
            refine (l15Step_n _ _ _ ss dr rc x0 x1 x2 _ hn HR.out HO1.out.1).mono ?_
            rintro r W2 ⟨hyes, hno, hT⟩
            obtain ⟨d5, e5, rfl⟩ := hno HE.out
            have hsz := Hid.intro hT.size
            (first | (have H7 := Hid.intro (And.intro (H7.out.1.turnS hT (fun q => by simp only [Btw] at q; rcases h7n.out with e | e; (first | exact e.elim | omega); omega)) H7.out.2)) | skip)
            have hbw := hbw.trans (hT.below (fun k q => Nat.le_trans HO1.out.2 q.1) hbw.size)
            clear hyes hno hT
            refine hK.out _ _ hbw (fun hHeld => ?_)
            clear hK KC
            refine take_v (v := ?_) 4 ⟨some 33, Op.move (Operand.tmp 37), _, _, _, none⟩ rfl (fun _ _ _ h => h) ?_ hHeld ?_
            rotate_left
            · (intro W _; go_simp <;> (try with_reducible rfl))
            refine take_v (v := ?_) 5 ⟨some 38, Op.extract (Operand.tmp 33) 0, _, _, _, none⟩ rfl (fun _ _ _ h => h) ?_ hHeld ?_
            rotate_left
            · (intro W _; go_simp <;> (try with_reducible rfl))
            refine take_v (v := ?_) 6 ⟨some 39, Op.extract (Operand.tmp 33) 1, _, _, _, none⟩ rfl (fun _ _ _ h => h) ?_ hHeld ?_
            rotate_left
            · (intro W _; go_simp <;> (try with_reducible rfl))
            refine ready_call 8 ⟨none, Op.store 29 (Operand.tmp 12) (Operand.tmp 38), _, _, _, none⟩ (by kernel_rfl) rfl (by kernel_rfl) (fun KC hK => ?_)
            have d0 := H7.out.1.cell 0 rfl
            have d1 := H7.out.1.cell 1 rfl
            have d2 := H7.out.1.cell 2 rfl
            have dz := H7.out.1.2
            have f0 := H7.out.1.frz 0 (by simp)
            have f1 := H7.out.1.frz 1 (by simp)
            have f2 := H7.out.1.frz 2 (by simp)
            go_wp2_with fail
            clear d0 d1 d2 dz f0 f1 f2
            have HF := Hid.intro (boxC_none H7.out.1 hbw H7.out.2 (.slice va1 ss.length vc1) (.int .i64 d5) (.int .i64 e5))
            refine hK.out _ _ HF.out.2.1 (fun hHeld => ?_)
            clear hK KC
            refine take_v (v := ?_) 9 ⟨some 13, Op.assign (Operand.tmp 39), _, _, _, none⟩ rfl (fun _ _ _ h => h) ?_ hHeld ?_
            rotate_left
            · (intro W _; go_simp <;> (try with_reducible rfl))
            refine wpAnyH_done (by kernel_rfl) ?_ _
            refine NoPanic.normal ?_
            clear hHeld
            (first | (obtain ⟨X9, hX9⟩ : ∃ x, x = ((W7.setCell ⟨b7, 0, none⟩ (.slice va1 ss.length vc1)).setCell ⟨b7, 1, none⟩ (.int .i64 d5)).setCell ⟨b7, 2, none⟩ (.int .i64 e5) := ⟨_, rfl⟩; rw [← hX9] at HF ⊢; clear hX9) | (obtain ⟨X9, hX9⟩ : ∃ x, x = ((W2.setCell ⟨b7, 0, none⟩ (.slice va1 ss.length vc1)).setCell ⟨b7, 1, none⟩ (.int .i64 d5)).setCell ⟨b7, 2, none⟩ (.int .i64 e5) := ⟨_, rfl⟩; rw [← hX9] at HF ⊢; clear hX9))
            clear hbw H7 HO1 h7n hsz
            have HQ := Hid.intro (HX.out.next HF.out.2.1)
            have HPD : Hid (plF (nwC am, 0, 0) (l.take (k + 1)) = ((ss, dr, rc), D ++ [false])) := HPD
            have HA := Hid.intro (HQ.out.next (Go.Joins.below_alloc1 X9 (.cells #[.bool false] 4)))
            have s0 := (HQ.out.2.1).cell 0 rfl; have s1 := (HQ.out.2.1).cell 1 rfl; have s2 := (HQ.out.2.1).cell 2 rfl; have sz := (HQ.out.2.1).2
            have hDk : D.length + 1 ≤ maxLen := by have := HDL.out; unfold maxLen; omega
            have hDb : (D.length + 1) * 1 ≤ 140737488355328 := by have := HDL.out; omega
            go_wp2_with (first | (at_builtin; (obtain ⟨Sd9, hOd⟩ := HA.out.row); refine wpList_appx rfl (.tmp 42) (.tmp 44) 30 4 rfl i0 (.bool false) 1 (w.heap.size + 1) .bool rfl Tryd.underlying30 hi0 hz0 hz1 hz2 rfl (by decide) v D [false] Sd9 rfl hOd (some ⟨X9.heap.size, 0, none⟩) 1 rfl (lies_one (w := X9) (e := .bool) (cs := [.bool false]) (x := false) 4 rfl rfl) hDk hDb (by have h1 := HA.out.2.2.2.1.size; have h2 := HA.out.1.2; omega) ?_; intro v9 w9 hO9 hg9 hwh9; have H9 := Hid.intro (HA.out.app rfl hO9 hg9 hwh9); clear hO9 hg9 hwh9) | go_in)
            go_roundw
            case rel => exact ⟨k + 1, v9, by omega, by go_num, rfl, by rw [HPD.out]; exact ⟨_, _, H9.out⟩⟩
            case measure => simp [intOf]; omega
        ·
          go_wp2_with fail
          (first | (obtain ⟨W7, hW7⟩ : ∃ x, x = W2.alloc (.cells #[.slice none 0 0, .int .i64 0, .int .i64 0] 29) := ⟨_, rfl⟩; have hb : Below W2.heap.size W2 W7 := hW7 ▸ Go.Joins.below_alloc1 _ _; obtain ⟨b7, hb7⟩ : ∃ b, b = W2.heap.size := ⟨_, rfl⟩; have H7 : Hid (Bx W7 b7 [.slice none 0 0, .int .i64 0, .int .i64 0] ∧ X0.heap.size ≤ b7) := Hid.intro ⟨hb7 ▸ hW7 ▸ Bx.new W2 [_, _, _] _, hb7 ▸ hbw.size⟩; have h7n : Hid (False ∨ W1.heap.size ≤ b7) := Hid.intro (Or.inr (by have := hsz.out; omega)); have hbw := below_next hbw hb; rw [← hW7, ← hb7]; clear hW7 hb7 hb) | (obtain ⟨W7, hW7⟩ : ∃ x, x = W1.alloc (.cells #[.slice none 0 0, .int .i64 0, .int .i64 0] 29) := ⟨_, rfl⟩; have hb : Below W1.heap.size W1 W7 := hW7 ▸ Go.Joins.below_alloc1 _ _; obtain ⟨b7, hb7⟩ : ∃ b, b = W1.heap.size := ⟨_, rfl⟩; have H7 : Hid (Bx W7 b7 [.slice none 0 0, .int .i64 0, .int .i64 0] ∧ X0.heap.size ≤ b7) := Hid.intro ⟨hb7 ▸ hW7 ▸ Bx.new W1 [_, _, _] _, hb7 ▸ hbw.size⟩; have h7n : Hid (False ∨ W1.heap.size ≤ b7) := Hid.intro (Or.inr (by omega)); have HO1 := Hid.intro (And.intro (LsU.next HO1.out.1 hb) HO1.out.2); have hbw := below_next hbw hb; rw [← hW7, ← hb7]; clear hW7 hb7 hb) | (obtain ⟨W7, hW7⟩ : ∃ x, x = X0.alloc (.cells #[.slice none 0 0, .int .i64 0, .int .i64 0] 29) := ⟨_, rfl⟩; have hb : Below X0.heap.size X0 W7 := hW7 ▸ Go.Joins.below_alloc1 _ _; obtain ⟨b7, hb7⟩ : ∃ b, b = X0.heap.size := ⟨_, rfl⟩; have H7 : Hid (Bx W7 b7 [.slice none 0 0, .int .i64 0, .int .i64 0] ∧ X0.heap.size ≤ b7) := Hid.intro ⟨hb7 ▸ hW7 ▸ Bx.new X0 [_, _, _] _, hb7 ▸ hbw.size⟩; have hbw := below_next hbw hb; rw [← hW7, ← hb7]; clear hW7 hb7 hb))
          refine hK.out _ _ hbw (fun hHeld => ?_)
          clear hK KC
          refine ready_call 1 ⟨some 35, Op.call { callee := Callee.value (Operand.func 39), args := #[Operand.tmp 34], argTypes := #[29] }, _, _, _, none⟩ (by kernel_rfl) rfl (by kernel_rfl) (fun KC hK => ?_)
          go_wp2_with fail
          refine (l15Own_n [.slice p ss.length q, .int .i64 dr, .int .i64 rc] ss dr rc _ HZ.out (HLI.out.next hbw)).mono ?_
          rintro r W1 ⟨cs1, rfl, hO, hb⟩
          obtain ⟨v1, hcs, hl1⟩ := LsU.of hO (Nat.le_refl _)
          subst hcs
          obtain ⟨va1, vc1, hv1⟩ := hl1.form
          subst hv1
          have HO1 := Hid.intro (And.intro hl1 hbw.size)
          (first | (have h7n := Hid.intro (Or.inl (b := W1.heap.size ≤ b7) H7.out.1.2); have H7 := Hid.intro (And.intro (H7.out.1.next hb) H7.out.2)) | skip)
          have hbw := below_next hbw hb
          clear hb hO hl1
          refine hK.out _ _ hbw (fun hHeld => ?_)
          clear hK KC
          refine ready_call 3 ⟨some 37, Op.call { callee := Callee.value (Operand.func 38), args := #[Operand.tmp 35, Operand.tmp 36], argTypes := #[29, 48] }, _, _, _, none⟩ (by kernel_rfl) rfl (by kernel_rfl) (fun KC hK => ?_)
          go_wp2_with fail
          refine (l15Step_n _ _ _ ss dr rc x0 x1 x2 _ hn HR.out HO1.out.1).mono ?_
          rintro r W2 ⟨hyes, hno, hT⟩
          obtain ⟨d5, e5, rfl⟩ := hno HE.out
          have hsz := Hid.intro hT.size
          (first | (have H7 := Hid.intro (And.intro (H7.out.1.turnS hT (fun q => by simp only [Btw] at q; rcases h7n.out with e | e; (first | exact e.elim | omega); omega)) H7.out.2)) | skip)
          have hbw := hbw.trans (hT.below (fun k q => Nat.le_trans HO1.out.2 q.1) hbw.size)
          clear hyes hno hT
          refine hK.out _ _ hbw (fun hHeld => ?_)
          clear hK KC
          refine take_v (v := ?_) 4 ⟨some 33, Op.move (Operand.tmp 37), _, _, _, none⟩ rfl (fun _ _ _ h => h) ?_ hHeld ?_
          rotate_left
          · (intro W _; go_simp <;> (try with_reducible rfl))
          refine take_v (v := ?_) 5 ⟨some 38, Op.extract (Operand.tmp 33) 0, _, _, _, none⟩ rfl (fun _ _ _ h => h) ?_ hHeld ?_
          rotate_left
          · (intro W _; go_simp <;> (try with_reducible rfl))
          refine take_v (v := ?_) 6 ⟨some 39, Op.extract (Operand.tmp 33) 1, _, _, _, none⟩ rfl (fun _ _ _ h => h) ?_ hHeld ?_
          rotate_left
          · (intro W _; go_simp <;> (try with_reducible rfl))
          refine ready_call 8 ⟨none, Op.store 29 (Operand.tmp 12) (Operand.tmp 38), _, _, _, none⟩ (by kernel_rfl) rfl (by kernel_rfl) (fun KC hK => ?_)
          have d0 := H7.out.1.cell 0 rfl
          have d1 := H7.out.1.cell 1 rfl
          have d2 := H7.out.1.cell 2 rfl
          have dz := H7.out.1.2
          have f0 := H7.out.1.frz 0 (by simp)
          have f1 := H7.out.1.frz 1 (by simp)
          have f2 := H7.out.1.frz 2 (by simp)
          go_wp2_with fail
          clear d0 d1 d2 dz f0 f1 f2
          have HF := Hid.intro (boxC_none H7.out.1 hbw H7.out.2 (.slice va1 ss.length vc1) (.int .i64 d5) (.int .i64 e5))
          refine hK.out _ _ HF.out.2.1 (fun hHeld => ?_)
          clear hK KC
          refine take_v (v := ?_) 9 ⟨some 13, Op.assign (Operand.tmp 39), _, _, _, none⟩ rfl (fun _ _ _ h => h) ?_ hHeld ?_
          rotate_left
          · (intro W _; go_simp <;> (try with_reducible rfl))
          refine wpAnyH_done (by kernel_rfl) ?_ _
          refine NoPanic.normal ?_
          clear hHeld
          (first | (obtain ⟨X9, hX9⟩ : ∃ x, x = ((W7.setCell ⟨b7, 0, none⟩ (.slice va1 ss.length vc1)).setCell ⟨b7, 1, none⟩ (.int .i64 d5)).setCell ⟨b7, 2, none⟩ (.int .i64 e5) := ⟨_, rfl⟩; rw [← hX9] at HF ⊢; clear hX9) | (obtain ⟨X9, hX9⟩ : ∃ x, x = ((W2.setCell ⟨b7, 0, none⟩ (.slice va1 ss.length vc1)).setCell ⟨b7, 1, none⟩ (.int .i64 d5)).setCell ⟨b7, 2, none⟩ (.int .i64 e5) := ⟨_, rfl⟩; rw [← hX9] at HF ⊢; clear hX9))
          clear hbw H7 HO1 h7n hsz
          have HQ := Hid.intro (HX.out.next HF.out.2.1)
          have HPD : Hid (plF (nwC am, 0, 0) (l.take (k + 1)) = ((ss, dr, rc), D ++ [false])) := HPD
          have HA := Hid.intro (HQ.out.next (Go.Joins.below_alloc1 X9 (.cells #[.bool false] 4)))
          have s0 := (HQ.out.2.1).cell 0 rfl; have s1 := (HQ.out.2.1).cell 1 rfl; have s2 := (HQ.out.2.1).cell 2 rfl; have sz := (HQ.out.2.1).2
          have hDk : D.length + 1 ≤ maxLen := by have := HDL.out; unfold maxLen; omega
          have hDb : (D.length + 1) * 1 ≤ 140737488355328 := by have := HDL.out; omega
          go_wp2_with (first | (at_builtin; (obtain ⟨Sd9, hOd⟩ := HA.out.row); refine wpList_appx rfl (.tmp 42) (.tmp 44) 30 4 rfl i0 (.bool false) 1 (w.heap.size + 1) .bool rfl Tryd.underlying30 hi0 hz0 hz1 hz2 rfl (by decide) v D [false] Sd9 rfl hOd (some ⟨X9.heap.size, 0, none⟩) 1 rfl (lies_one (w := X9) (e := .bool) (cs := [.bool false]) (x := false) 4 rfl rfl) hDk hDb (by have h1 := HA.out.2.2.2.1.size; have h2 := HA.out.1.2; omega) ?_; intro v9 w9 hO9 hg9 hwh9; have H9 := Hid.intro (HA.out.app rfl hO9 hg9 hwh9); clear hO9 hg9 hwh9) | go_in)
          go_roundw
          case rel => exact ⟨k + 1, v9, by omega, by go_num, rfl, by rw [HPD.out]; exact ⟨_, _, H9.out⟩⟩
          case measure => simp [intOf]; omega
      | some x =>
        obtain ⟨s', d', r'⟩ := x
        refine wp_region_noPanic ?_
        refine wp_region_held_drew (S := fun W => Below X0.heap.size X0 W) (by kernel_rfl) (hX0 ▸ Below.refl _ _) (fun hHeld => ?_)
        rw [← hX0] at hHeld ⊢
        clear hX0
        refine take_v (v := ?_) 0 ⟨some 34, Op.load 29 (Operand.tmp 7), _, _, _, none⟩ rfl (fun _ _ _ h => h) ?_ hHeld ?_
        rotate_left
        · (intro W hSW; (have s0 := (HX.out.2.1.next hSW).cell 0 rfl; have s1 := (HX.out.2.1.next hSW).cell 1 rfl; have s2 := (HX.out.2.1.next hSW).cell 2 rfl; have sz := (HX.out.2.1.next hSW).2; have t0 := (HT.out.next hSW).cell 0 rfl; have t1 := (HT.out.next hSW).cell 1 rfl; have t2 := (HT.out.next hSW).cell 2 rfl; have tz := (HT.out.next hSW).2); go_simp <;> (try with_reducible rfl))
        refine take_v (v := ?_) 2 ⟨some 36, Op.load 48 (Operand.tmp 11), _, _, _, none⟩ rfl (fun _ _ _ h => h) ?_ hHeld ?_
        rotate_left
        · (intro W hSW; (have s0 := (HX.out.2.1.next hSW).cell 0 rfl; have s1 := (HX.out.2.1.next hSW).cell 1 rfl; have s2 := (HX.out.2.1.next hSW).cell 2 rfl; have sz := (HX.out.2.1.next hSW).2; have t0 := (HT.out.next hSW).cell 0 rfl; have t1 := (HT.out.next hSW).cell 1 rfl; have t2 := (HT.out.next hSW).cell 2 rfl; have tz := (HT.out.next hSW).2); go_simp <;> (try with_reducible rfl))
        refine ready_two 1 7 ⟨some 35, Op.call { callee := Callee.value (Operand.func 39), args := #[Operand.tmp 34], argTypes := #[29] }, _, _, _, none⟩ ⟨some 12, Op.alloc 29, _, _, _, none⟩ (by kernel_rfl) rfl rfl (by kernel_rfl) (by kernel_rfl) (fun KC hK => ?_) (fun KC hK => ?_)
        ·
          go_wp2_with fail
          refine (l15Own_n [.slice p ss.length q, .int .i64 dr, .int .i64 rc] ss dr rc _ HZ.out (HLI.out.next hbw)).mono ?_
          rintro r W1 ⟨cs1, rfl, hO, hb⟩
          obtain ⟨v1, hcs, hl1⟩ := LsU.of hO (Nat.le_refl _)
          subst hcs
          obtain ⟨va1, vc1, hv1⟩ := hl1.form
          subst hv1
          have HO1 := Hid.intro (And.intro hl1 hbw.size)
          (first | (have h7n := Hid.intro (Or.inl (b := W1.heap.size ≤ b7) H7.out.1.2); have H7 := Hid.intro (And.intro (H7.out.1.next hb) H7.out.2)) | skip)
          have hbw := below_next hbw hb
          clear hb hO hl1
          refine hK.out _ _ hbw (fun hHeld => ?_)
          clear hK KC
          refine ready_two 3 7 ⟨some 37, Op.call { callee := Callee.value (Operand.func 38), args := #[Operand.tmp 35, Operand.tmp 36], argTypes := #[29, 48] }, _, _, _, none⟩ ⟨some 12, Op.alloc 29, _, _, _, none⟩ (by kernel_rfl) rfl rfl (by kernel_rfl) (by kernel_rfl) (fun KC hK => ?_) (fun KC hK => ?_)
          ·
            go_wp2_with fail
            refine (l15Step_n _ _ _ ss dr rc x0 x1 x2 _ hn HR.out HO1.out.1).mono ?_
            rintro r W2 ⟨hyes, hno, hT⟩
            obtain ⟨rfl, hl2⟩ := hyes _ HE.out
            have HO2 := Hid.intro hl2
            clear hl2
            have hsz := Hid.intro hT.size
            (first | (have H7 := Hid.intro (And.intro (H7.out.1.turnS hT (fun q => by simp only [Btw] at q; rcases h7n.out with e | e; (first | exact e.elim | omega); omega)) H7.out.2)) | skip)
            have hbw := hbw.trans (hT.below (fun k q => Nat.le_trans HO1.out.2 q.1) hbw.size)
            clear hyes hno hT
            refine hK.out _ _ hbw (fun hHeld => ?_)
            clear hK KC
            refine take_v (v := ?_) 4 ⟨some 33, Op.move (Operand.tmp 37), _, _, _, none⟩ rfl (fun _ _ _ h => h) ?_ hHeld ?_
            rotate_left
            · (intro W _; go_simp <;> (try with_reducible rfl))
            refine take_v (v := ?_) 5 ⟨some 38, Op.extract (Operand.tmp 33) 0, _, _, _, none⟩ rfl (fun _ _ _ h => h) ?_ hHeld ?_
            rotate_left
            · (intro W _; go_simp <;> (try with_reducible rfl))
            refine take_v (v := ?_) 6 ⟨some 39, Op.extract (Operand.tmp 33) 1, _, _, _, none⟩ rfl (fun _ _ _ h => h) ?_ hHeld ?_
            rotate_left
            · (intro W _; go_simp <;> (try with_reducible rfl))
            refine ready_call 7 ⟨some 12, Op.alloc 29, _, _, _, none⟩ (by kernel_rfl) rfl (by kernel_rfl) (fun KC hK => ?_)
            go_wp2_with fail
            (first | (obtain ⟨W7, hW7⟩ : ∃ x, x = W2.alloc (.cells #[.slice none 0 0, .int .i64 0, .int .i64 0] 29) := ⟨_, rfl⟩; have hb : Below W2.heap.size W2 W7 := hW7 ▸ Go.Joins.below_alloc1 _ _; obtain ⟨b7, hb7⟩ : ∃ b, b = W2.heap.size := ⟨_, rfl⟩; have H7 : Hid (Bx W7 b7 [.slice none 0 0, .int .i64 0, .int .i64 0] ∧ X0.heap.size ≤ b7) := Hid.intro ⟨hb7 ▸ hW7 ▸ Bx.new W2 [_, _, _] _, hb7 ▸ hbw.size⟩; have h7n : Hid (False ∨ W1.heap.size ≤ b7) := Hid.intro (Or.inr (by have := hsz.out; omega)); have HO2 := Hid.intro (LsU.next HO2.out hb); have hbw := below_next hbw hb; rw [← hW7, ← hb7]; clear hW7 hb7 hb) | (obtain ⟨W7, hW7⟩ : ∃ x, x = W1.alloc (.cells #[.slice none 0 0, .int .i64 0, .int .i64 0] 29) := ⟨_, rfl⟩; have hb : Below W1.heap.size W1 W7 := hW7 ▸ Go.Joins.below_alloc1 _ _; obtain ⟨b7, hb7⟩ : ∃ b, b = W1.heap.size := ⟨_, rfl⟩; have H7 : Hid (Bx W7 b7 [.slice none 0 0, .int .i64 0, .int .i64 0] ∧ X0.heap.size ≤ b7) := Hid.intro ⟨hb7 ▸ hW7 ▸ Bx.new W1 [_, _, _] _, hb7 ▸ hbw.size⟩; have h7n : Hid (False ∨ W1.heap.size ≤ b7) := Hid.intro (Or.inr (by omega)); have HO1 := Hid.intro (And.intro (LsU.next HO1.out.1 hb) HO1.out.2); have hbw := below_next hbw hb; rw [← hW7, ← hb7]; clear hW7 hb7 hb) | (obtain ⟨W7, hW7⟩ : ∃ x, x = X0.alloc (.cells #[.slice none 0 0, .int .i64 0, .int .i64 0] 29) := ⟨_, rfl⟩; have hb : Below X0.heap.size X0 W7 := hW7 ▸ Go.Joins.below_alloc1 _ _; obtain ⟨b7, hb7⟩ : ∃ b, b = X0.heap.size := ⟨_, rfl⟩; have H7 : Hid (Bx W7 b7 [.slice none 0 0, .int .i64 0, .int .i64 0] ∧ X0.heap.size ≤ b7) := Hid.intro ⟨hb7 ▸ hW7 ▸ Bx.new X0 [_, _, _] _, hb7 ▸ hbw.size⟩; have hbw := below_next hbw hb; rw [← hW7, ← hb7]; clear hW7 hb7 hb))
            refine hK.out _ _ hbw (fun hHeld => ?_)
            clear hK KC
            refine ready_call 8 ⟨none, Op.store 29 (Operand.tmp 12) (Operand.tmp 38), _, _, _, none⟩ (by kernel_rfl) rfl (by kernel_rfl) (fun KC hK => ?_)
            have d0 := H7.out.1.cell 0 rfl
            have d1 := H7.out.1.cell 1 rfl
            have d2 := H7.out.1.cell 2 rfl
            have dz := H7.out.1.2
            have f0 := H7.out.1.frz 0 (by simp)
            have f1 := H7.out.1.frz 1 (by simp)
            have f2 := H7.out.1.frz 2 (by simp)
            go_wp2_with fail
            clear d0 d1 d2 dz f0 f1 f2
            have HF := Hid.intro (boxC_some H7.out.1 HO2.out (by first | exact h7n.out | exact h7n.out.imp False.elim id) hbw H7.out.2 (.slice va1 ss.length vc1) (.int .i64 d') (.int .i64 r'))
            refine hK.out _ _ HF.out.2.1 (fun hHeld => ?_)
            clear hK KC
            refine take_v (v := ?_) 9 ⟨some 13, Op.assign (Operand.tmp 39), _, _, _, none⟩ rfl (fun _ _ _ h => h) ?_ hHeld ?_
            rotate_left
            · (intro W _; go_simp <;> (try with_reducible rfl))
            refine wpAnyH_done (by kernel_rfl) ?_ _
            refine NoPanic.normal ?_
            clear hHeld
            (first | (obtain ⟨X9, hX9⟩ : ∃ x, x = ((W7.setCell ⟨b7, 0, none⟩ (.slice va1 ss.length vc1)).setCell ⟨b7, 1, none⟩ (.int .i64 d')).setCell ⟨b7, 2, none⟩ (.int .i64 r') := ⟨_, rfl⟩; rw [← hX9] at HF ⊢; clear hX9) | (obtain ⟨X9, hX9⟩ : ∃ x, x = ((W2.setCell ⟨b7, 0, none⟩ (.slice va1 ss.length vc1)).setCell ⟨b7, 1, none⟩ (.int .i64 d')).setCell ⟨b7, 2, none⟩ (.int .i64 r') := ⟨_, rfl⟩; rw [← hX9] at HF ⊢; clear hX9))
            clear hbw H7 HO2 h7n hsz
            have HCz := Hid.intro (HX.out.next HF.out.2.1)
            have HPD : Hid (plF (nwC am, 0, 0) (l.take (k + 1)) = ((s', d', r'), D ++ [true])) := HPD
            have HLN : Hid (ss.length = s'.length) := Hid.intro (by obtain ⟨_, _, e⟩ := HF.out.2.2.2.form; simp only [Value.slice.injEq] at e; exact e.2.1)
            have y0 := (HF.out.1).cell 0 rfl; have y1 := (HF.out.1).cell 1 rfl; have y2 := (HF.out.1).cell 2 rfl; have yz := (HF.out.1).2
            have s0 := (HCz.out.2.1).cell 0 rfl; have s1 := (HCz.out.2.1).cell 1 rfl; have s2 := (HCz.out.2.1).cell 2 rfl; have sz := (HCz.out.2.1).2
            have sf0 := HCz.out.2.1.frz 0 (by simp)
            have sf1 := HCz.out.2.1.frz 1 (by simp)
            have sf2 := HCz.out.2.1.frz 2 (by simp)
            have hb7b : b7 ≠ b := by have h1 := HX.out.2.1.2; have h2 := HF.out.2.2.1; omega
            (obtain ⟨Z, hZ⟩ : ∃ x, x = (((X9.setCell ⟨b, 0, none⟩ (.slice va1 ss.length vc1)).setCell ⟨b, 1, none⟩ (.int .i64 d')).setCell ⟨b, 2, none⟩ (.int .i64 r')) := ⟨_, rfl⟩)
            have HQ0 := Hid.intro (HX.out.put HF.out.2.1 (HF.out.2.2.2.commit d' r').own (fun k hk => by have h1 := HO1.out.2; have h2 := HF.out.2.2.2.2; simp only [Btw] at hk; omega) (hZ ▸ set3 X9 b _ _ _) (hZ ▸ HCz.out.2.1.set3c _ _ _))
            have HQ : Hid (PyS shCommit .bool 4 [.slice none 0 0, .int .i64 0, .int .i64 0] w b Z [.slice va1 s'.length vc1, .int .i64 d', .int .i64 r'] (s', d', r', ()) v D) := Hid.intro (by have h := HQ0.out; rwa [HLN.out] at h)
            go_upto_region 11 with fail
            rw [← hZ]
            clear hZ s0 s1 s2 sz sf0 sf1 sf2 y0 y1 y2 yz HQ0
            have HA := Hid.intro (HQ.out.next (Go.Joins.below_alloc1 Z (.cells #[.bool true] 4)))
            have s0 := (HQ.out.2.1).cell 0 rfl; have s1 := (HQ.out.2.1).cell 1 rfl; have s2 := (HQ.out.2.1).cell 2 rfl; have sz := (HQ.out.2.1).2
            have hDk : D.length + 1 ≤ maxLen := by have := HDL.out; unfold maxLen; omega
            have hDb : (D.length + 1) * 1 ≤ 140737488355328 := by have := HDL.out; omega
            go_wp2_with (first | (at_builtin; (obtain ⟨Sd9, hOd⟩ := HA.out.row); refine wpList_appx rfl (.tmp 42) (.tmp 44) 30 4 rfl i0 (.bool false) 1 (w.heap.size + 1) .bool rfl Tryd.underlying30 hi0 hz0 hz1 hz2 rfl (by decide) v D [true] Sd9 rfl hOd (some ⟨Z.heap.size, 0, none⟩) 1 rfl (lies_one (w := Z) (e := .bool) (cs := [.bool true]) (x := true) 4 rfl rfl) hDk hDb (by have h1 := HA.out.2.2.2.1.size; have h2 := HA.out.1.2; omega) ?_; intro v9 w9 hO9 hg9 hwh9; have H9 := Hid.intro (HA.out.app rfl hO9 hg9 hwh9); clear hO9 hg9 hwh9) | go_in)
            go_roundw
            case rel => exact ⟨k + 1, v9, by omega, by go_num, rfl, by rw [HPD.out]; exact ⟨_, _, H9.out⟩⟩
            case measure => simp [intOf]; omega
          ·
            go_wp2_with fail
            (first | (obtain ⟨W7, hW7⟩ : ∃ x, x = W2.alloc (.cells #[.slice none 0 0, .int .i64 0, .int .i64 0] 29) := ⟨_, rfl⟩; have hb : Below W2.heap.size W2 W7 := hW7 ▸ Go.Joins.below_alloc1 _ _; obtain ⟨b7, hb7⟩ : ∃ b, b = W2.heap.size := ⟨_, rfl⟩; have H7 : Hid (Bx W7 b7 [.slice none 0 0, .int .i64 0, .int .i64 0] ∧ X0.heap.size ≤ b7) := Hid.intro ⟨hb7 ▸ hW7 ▸ Bx.new W2 [_, _, _] _, hb7 ▸ hbw.size⟩; have h7n : Hid (False ∨ W1.heap.size ≤ b7) := Hid.intro (Or.inr (by have := hsz.out; omega)); have HO2 := Hid.intro (LsU.next HO2.out hb); have hbw := below_next hbw hb; rw [← hW7, ← hb7]; clear hW7 hb7 hb) | (obtain ⟨W7, hW7⟩ : ∃ x, x = W1.alloc (.cells #[.slice none 0 0, .int .i64 0, .int .i64 0] 29) := ⟨_, rfl⟩; have hb : Below W1.heap.size W1 W7 := hW7 ▸ Go.Joins.below_alloc1 _ _; obtain ⟨b7, hb7⟩ : ∃ b, b = W1.heap.size := ⟨_, rfl⟩; have H7 : Hid (Bx W7 b7 [.slice none 0 0, .int .i64 0, .int .i64 0] ∧ X0.heap.size ≤ b7) := Hid.intro ⟨hb7 ▸ hW7 ▸ Bx.new W1 [_, _, _] _, hb7 ▸ hbw.size⟩; have h7n : Hid (False ∨ W1.heap.size ≤ b7) := Hid.intro (Or.inr (by omega)); have HO1 := Hid.intro (And.intro (LsU.next HO1.out.1 hb) HO1.out.2); have hbw := below_next hbw hb; rw [← hW7, ← hb7]; clear hW7 hb7 hb) | (obtain ⟨W7, hW7⟩ : ∃ x, x = X0.alloc (.cells #[.slice none 0 0, .int .i64 0, .int .i64 0] 29) := ⟨_, rfl⟩; have hb : Below X0.heap.size X0 W7 := hW7 ▸ Go.Joins.below_alloc1 _ _; obtain ⟨b7, hb7⟩ : ∃ b, b = X0.heap.size := ⟨_, rfl⟩; have H7 : Hid (Bx W7 b7 [.slice none 0 0, .int .i64 0, .int .i64 0] ∧ X0.heap.size ≤ b7) := Hid.intro ⟨hb7 ▸ hW7 ▸ Bx.new X0 [_, _, _] _, hb7 ▸ hbw.size⟩; have hbw := below_next hbw hb; rw [← hW7, ← hb7]; clear hW7 hb7 hb))
            refine hK.out _ _ hbw (fun hHeld => ?_)
            clear hK KC
            refine ready_call 3 ⟨some 37, Op.call { callee := Callee.value (Operand.func 38), args := #[Operand.tmp 35, Operand.tmp 36], argTypes := #[29, 48] }, _, _, _, none⟩ (by kernel_rfl) rfl (by kernel_rfl) (fun KC hK => ?_)
            go_wp2_with fail
            refine (l15Step_n _ _ _ ss dr rc x0 x1 x2 _ hn HR.out HO1.out.1).mono ?_
            rintro r W2 ⟨hyes, hno, hT⟩
            obtain ⟨rfl, hl2⟩ := hyes _ HE.out
            have HO2 := Hid.intro hl2
            clear hl2
            have hsz := Hid.intro hT.size
            (first | (have H7 := Hid.intro (And.intro (H7.out.1.turnS hT (fun q => by simp only [Btw] at q; rcases h7n.out with e | e; (first | exact e.elim | omega); omega)) H7.out.2)) | skip)
            have hbw := hbw.trans (hT.below (fun k q => Nat.le_trans HO1.out.2 q.1) hbw.size)
            clear hyes hno hT
            refine hK.out _ _ hbw (fun hHeld => ?_)
            clear hK KC
            refine take_v (v := ?_) 4 ⟨some 33, Op.move (Operand.tmp 37), _, _, _, none⟩ rfl (fun _ _ _ h => h) ?_ hHeld ?_
            rotate_left
            · (intro W _; go_simp <;> (try with_reducible rfl))
            refine take_v (v := ?_) 5 ⟨some 38, Op.extract (Operand.tmp 33) 0, _, _, _, none⟩ rfl (fun _ _ _ h => h) ?_ hHeld ?_
            rotate_left
            · (intro W _; go_simp <;> (try with_reducible rfl))
            refine take_v (v := ?_) 6 ⟨some 39, Op.extract (Operand.tmp 33) 1, _, _, _, none⟩ rfl (fun _ _ _ h => h) ?_ hHeld ?_
            rotate_left
            · (intro W _; go_simp <;> (try with_reducible rfl))
            refine ready_call 8 ⟨none, Op.store 29 (Operand.tmp 12) (Operand.tmp 38), _, _, _, none⟩ (by kernel_rfl) rfl (by kernel_rfl) (fun KC hK => ?_)
            have d0 := H7.out.1.cell 0 rfl
            have d1 := H7.out.1.cell 1 rfl
            have d2 := H7.out.1.cell 2 rfl
            have dz := H7.out.1.2
            have f0 := H7.out.1.frz 0 (by simp)
            have f1 := H7.out.1.frz 1 (by simp)
            have f2 := H7.out.1.frz 2 (by simp)
            go_wp2_with fail
            clear d0 d1 d2 dz f0 f1 f2
            have HF := Hid.intro (boxC_some H7.out.1 HO2.out (by first | exact h7n.out | exact h7n.out.imp False.elim id) hbw H7.out.2 (.slice va1 ss.length vc1) (.int .i64 d') (.int .i64 r'))
            refine hK.out _ _ HF.out.2.1 (fun hHeld => ?_)
            clear hK KC
            refine take_v (v := ?_) 9 ⟨some 13, Op.assign (Operand.tmp 39), _, _, _, none⟩ rfl (fun _ _ _ h => h) ?_ hHeld ?_
            rotate_left
            · (intro W _; go_simp <;> (try with_reducible rfl))
            refine wpAnyH_done (by kernel_rfl) ?_ _
            refine NoPanic.normal ?_
            clear hHeld
            (first | (obtain ⟨X9, hX9⟩ : ∃ x, x = ((W7.setCell ⟨b7, 0, none⟩ (.slice va1 ss.length vc1)).setCell ⟨b7, 1, none⟩ (.int .i64 d')).setCell ⟨b7, 2, none⟩ (.int .i64 r') := ⟨_, rfl⟩; rw [← hX9] at HF ⊢; clear hX9) | (obtain ⟨X9, hX9⟩ : ∃ x, x = ((W2.setCell ⟨b7, 0, none⟩ (.slice va1 ss.length vc1)).setCell ⟨b7, 1, none⟩ (.int .i64 d')).setCell ⟨b7, 2, none⟩ (.int .i64 r') := ⟨_, rfl⟩; rw [← hX9] at HF ⊢; clear hX9))
            clear hbw H7 HO2 h7n hsz
            have HCz := Hid.intro (HX.out.next HF.out.2.1)
            have HPD : Hid (plF (nwC am, 0, 0) (l.take (k + 1)) = ((s', d', r'), D ++ [true])) := HPD
            have HLN : Hid (ss.length = s'.length) := Hid.intro (by obtain ⟨_, _, e⟩ := HF.out.2.2.2.form; simp only [Value.slice.injEq] at e; exact e.2.1)
            have y0 := (HF.out.1).cell 0 rfl; have y1 := (HF.out.1).cell 1 rfl; have y2 := (HF.out.1).cell 2 rfl; have yz := (HF.out.1).2
            have s0 := (HCz.out.2.1).cell 0 rfl; have s1 := (HCz.out.2.1).cell 1 rfl; have s2 := (HCz.out.2.1).cell 2 rfl; have sz := (HCz.out.2.1).2
            have sf0 := HCz.out.2.1.frz 0 (by simp)
            have sf1 := HCz.out.2.1.frz 1 (by simp)
            have sf2 := HCz.out.2.1.frz 2 (by simp)
            have hb7b : b7 ≠ b := by have h1 := HX.out.2.1.2; have h2 := HF.out.2.2.1; omega
            (obtain ⟨Z, hZ⟩ : ∃ x, x = (((X9.setCell ⟨b, 0, none⟩ (.slice va1 ss.length vc1)).setCell ⟨b, 1, none⟩ (.int .i64 d')).setCell ⟨b, 2, none⟩ (.int .i64 r')) := ⟨_, rfl⟩)
            have HQ0 := Hid.intro (HX.out.put HF.out.2.1 (HF.out.2.2.2.commit d' r').own (fun k hk => by have h1 := HO1.out.2; have h2 := HF.out.2.2.2.2; simp only [Btw] at hk; omega) (hZ ▸ set3 X9 b _ _ _) (hZ ▸ HCz.out.2.1.set3c _ _ _))
            have HQ : Hid (PyS shCommit .bool 4 [.slice none 0 0, .int .i64 0, .int .i64 0] w b Z [.slice va1 s'.length vc1, .int .i64 d', .int .i64 r'] (s', d', r', ()) v D) := Hid.intro (by have h := HQ0.out; rwa [HLN.out] at h)
            go_upto_region 11 with fail
            rw [← hZ]
            clear hZ s0 s1 s2 sz sf0 sf1 sf2 y0 y1 y2 yz HQ0
            have HA := Hid.intro (HQ.out.next (Go.Joins.below_alloc1 Z (.cells #[.bool true] 4)))
            have s0 := (HQ.out.2.1).cell 0 rfl; have s1 := (HQ.out.2.1).cell 1 rfl; have s2 := (HQ.out.2.1).cell 2 rfl; have sz := (HQ.out.2.1).2
            have hDk : D.length + 1 ≤ maxLen := by have := HDL.out; unfold maxLen; omega
            have hDb : (D.length + 1) * 1 ≤ 140737488355328 := by have := HDL.out; omega
            go_wp2_with (first | (at_builtin; (obtain ⟨Sd9, hOd⟩ := HA.out.row); refine wpList_appx rfl (.tmp 42) (.tmp 44) 30 4 rfl i0 (.bool false) 1 (w.heap.size + 1) .bool rfl Tryd.underlying30 hi0 hz0 hz1 hz2 rfl (by decide) v D [true] Sd9 rfl hOd (some ⟨Z.heap.size, 0, none⟩) 1 rfl (lies_one (w := Z) (e := .bool) (cs := [.bool true]) (x := true) 4 rfl rfl) hDk hDb (by have h1 := HA.out.2.2.2.1.size; have h2 := HA.out.1.2; omega) ?_; intro v9 w9 hO9 hg9 hwh9; have H9 := Hid.intro (HA.out.app rfl hO9 hg9 hwh9); clear hO9 hg9 hwh9) | go_in)
            go_roundw
            case rel => exact ⟨k + 1, v9, by omega, by go_num, rfl, by rw [HPD.out]; exact ⟨_, _, H9.out⟩⟩
            case measure => simp [intOf]; omega
        ·
          go_wp2_with fail
          (first | (obtain ⟨W7, hW7⟩ : ∃ x, x = W2.alloc (.cells #[.slice none 0 0, .int .i64 0, .int .i64 0] 29) := ⟨_, rfl⟩; have hb : Below W2.heap.size W2 W7 := hW7 ▸ Go.Joins.below_alloc1 _ _; obtain ⟨b7, hb7⟩ : ∃ b, b = W2.heap.size := ⟨_, rfl⟩; have H7 : Hid (Bx W7 b7 [.slice none 0 0, .int .i64 0, .int .i64 0] ∧ X0.heap.size ≤ b7) := Hid.intro ⟨hb7 ▸ hW7 ▸ Bx.new W2 [_, _, _] _, hb7 ▸ hbw.size⟩; have h7n : Hid (False ∨ W1.heap.size ≤ b7) := Hid.intro (Or.inr (by have := hsz.out; omega)); have HO2 := Hid.intro (LsU.next HO2.out hb); have hbw := below_next hbw hb; rw [← hW7, ← hb7]; clear hW7 hb7 hb) | (obtain ⟨W7, hW7⟩ : ∃ x, x = W1.alloc (.cells #[.slice none 0 0, .int .i64 0, .int .i64 0] 29) := ⟨_, rfl⟩; have hb : Below W1.heap.size W1 W7 := hW7 ▸ Go.Joins.below_alloc1 _ _; obtain ⟨b7, hb7⟩ : ∃ b, b = W1.heap.size := ⟨_, rfl⟩; have H7 : Hid (Bx W7 b7 [.slice none 0 0, .int .i64 0, .int .i64 0] ∧ X0.heap.size ≤ b7) := Hid.intro ⟨hb7 ▸ hW7 ▸ Bx.new W1 [_, _, _] _, hb7 ▸ hbw.size⟩; have h7n : Hid (False ∨ W1.heap.size ≤ b7) := Hid.intro (Or.inr (by omega)); have HO1 := Hid.intro (And.intro (LsU.next HO1.out.1 hb) HO1.out.2); have hbw := below_next hbw hb; rw [← hW7, ← hb7]; clear hW7 hb7 hb) | (obtain ⟨W7, hW7⟩ : ∃ x, x = X0.alloc (.cells #[.slice none 0 0, .int .i64 0, .int .i64 0] 29) := ⟨_, rfl⟩; have hb : Below X0.heap.size X0 W7 := hW7 ▸ Go.Joins.below_alloc1 _ _; obtain ⟨b7, hb7⟩ : ∃ b, b = X0.heap.size := ⟨_, rfl⟩; have H7 : Hid (Bx W7 b7 [.slice none 0 0, .int .i64 0, .int .i64 0] ∧ X0.heap.size ≤ b7) := Hid.intro ⟨hb7 ▸ hW7 ▸ Bx.new X0 [_, _, _] _, hb7 ▸ hbw.size⟩; have hbw := below_next hbw hb; rw [← hW7, ← hb7]; clear hW7 hb7 hb))
          refine hK.out _ _ hbw (fun hHeld => ?_)
          clear hK KC
          refine ready_call 1 ⟨some 35, Op.call { callee := Callee.value (Operand.func 39), args := #[Operand.tmp 34], argTypes := #[29] }, _, _, _, none⟩ (by kernel_rfl) rfl (by kernel_rfl) (fun KC hK => ?_)
          go_wp2_with fail
          refine (l15Own_n [.slice p ss.length q, .int .i64 dr, .int .i64 rc] ss dr rc _ HZ.out (HLI.out.next hbw)).mono ?_
          rintro r W1 ⟨cs1, rfl, hO, hb⟩
          obtain ⟨v1, hcs, hl1⟩ := LsU.of hO (Nat.le_refl _)
          subst hcs
          obtain ⟨va1, vc1, hv1⟩ := hl1.form
          subst hv1
          have HO1 := Hid.intro (And.intro hl1 hbw.size)
          (first | (have h7n := Hid.intro (Or.inl (b := W1.heap.size ≤ b7) H7.out.1.2); have H7 := Hid.intro (And.intro (H7.out.1.next hb) H7.out.2)) | skip)
          have hbw := below_next hbw hb
          clear hb hO hl1
          refine hK.out _ _ hbw (fun hHeld => ?_)
          clear hK KC
          refine ready_call 3 ⟨some 37, Op.call { callee := Callee.value (Operand.func 38), args := #[Operand.tmp 35, Operand.tmp 36], argTypes := #[29, 48] }, _, _, _, none⟩ (by kernel_rfl) rfl (by kernel_rfl) (fun KC hK => ?_)
          go_wp2_with fail
          refine (l15Step_n _ _ _ ss dr rc x0 x1 x2 _ hn HR.out HO1.out.1).mono ?_
          rintro r W2 ⟨hyes, hno, hT⟩
          obtain ⟨rfl, hl2⟩ := hyes _ HE.out
          have HO2 := Hid.intro hl2
          clear hl2
          have hsz := Hid.intro hT.size
          (first | (have H7 := Hid.intro (And.intro (H7.out.1.turnS hT (fun q => by simp only [Btw] at q; rcases h7n.out with e | e; (first | exact e.elim | omega); omega)) H7.out.2)) | skip)
          have hbw := hbw.trans (hT.below (fun k q => Nat.le_trans HO1.out.2 q.1) hbw.size)
          clear hyes hno hT
          refine hK.out _ _ hbw (fun hHeld => ?_)
          clear hK KC
          refine take_v (v := ?_) 4 ⟨some 33, Op.move (Operand.tmp 37), _, _, _, none⟩ rfl (fun _ _ _ h => h) ?_ hHeld ?_
          rotate_left
          · (intro W _; go_simp <;> (try with_reducible rfl))
          refine take_v (v := ?_) 5 ⟨some 38, Op.extract (Operand.tmp 33) 0, _, _, _, none⟩ rfl (fun _ _ _ h => h) ?_ hHeld ?_
          rotate_left
          · (intro W _; go_simp <;> (try with_reducible rfl))
          refine take_v (v := ?_) 6 ⟨some 39, Op.extract (Operand.tmp 33) 1, _, _, _, none⟩ rfl (fun _ _ _ h => h) ?_ hHeld ?_
          rotate_left
          · (intro W _; go_simp <;> (try with_reducible rfl))
          refine ready_call 8 ⟨none, Op.store 29 (Operand.tmp 12) (Operand.tmp 38), _, _, _, none⟩ (by kernel_rfl) rfl (by kernel_rfl) (fun KC hK => ?_)
          have d0 := H7.out.1.cell 0 rfl
          have d1 := H7.out.1.cell 1 rfl
          have d2 := H7.out.1.cell 2 rfl
          have dz := H7.out.1.2
          have f0 := H7.out.1.frz 0 (by simp)
          have f1 := H7.out.1.frz 1 (by simp)
          have f2 := H7.out.1.frz 2 (by simp)
          go_wp2_with fail
          clear d0 d1 d2 dz f0 f1 f2
          have HF := Hid.intro (boxC_some H7.out.1 HO2.out (by first | exact h7n.out | exact h7n.out.imp False.elim id) hbw H7.out.2 (.slice va1 ss.length vc1) (.int .i64 d') (.int .i64 r'))
          refine hK.out _ _ HF.out.2.1 (fun hHeld => ?_)
          clear hK KC
          refine take_v (v := ?_) 9 ⟨some 13, Op.assign (Operand.tmp 39), _, _, _, none⟩ rfl (fun _ _ _ h => h) ?_ hHeld ?_
          rotate_left
          · (intro W _; go_simp <;> (try with_reducible rfl))
          refine wpAnyH_done (by kernel_rfl) ?_ _
          refine NoPanic.normal ?_
          clear hHeld
          (first | (obtain ⟨X9, hX9⟩ : ∃ x, x = ((W7.setCell ⟨b7, 0, none⟩ (.slice va1 ss.length vc1)).setCell ⟨b7, 1, none⟩ (.int .i64 d')).setCell ⟨b7, 2, none⟩ (.int .i64 r') := ⟨_, rfl⟩; rw [← hX9] at HF ⊢; clear hX9) | (obtain ⟨X9, hX9⟩ : ∃ x, x = ((W2.setCell ⟨b7, 0, none⟩ (.slice va1 ss.length vc1)).setCell ⟨b7, 1, none⟩ (.int .i64 d')).setCell ⟨b7, 2, none⟩ (.int .i64 r') := ⟨_, rfl⟩; rw [← hX9] at HF ⊢; clear hX9))
          clear hbw H7 HO2 h7n hsz
          have HCz := Hid.intro (HX.out.next HF.out.2.1)
          have HPD : Hid (plF (nwC am, 0, 0) (l.take (k + 1)) = ((s', d', r'), D ++ [true])) := HPD
          have HLN : Hid (ss.length = s'.length) := Hid.intro (by obtain ⟨_, _, e⟩ := HF.out.2.2.2.form; simp only [Value.slice.injEq] at e; exact e.2.1)
          have y0 := (HF.out.1).cell 0 rfl; have y1 := (HF.out.1).cell 1 rfl; have y2 := (HF.out.1).cell 2 rfl; have yz := (HF.out.1).2
          have s0 := (HCz.out.2.1).cell 0 rfl; have s1 := (HCz.out.2.1).cell 1 rfl; have s2 := (HCz.out.2.1).cell 2 rfl; have sz := (HCz.out.2.1).2
          have sf0 := HCz.out.2.1.frz 0 (by simp)
          have sf1 := HCz.out.2.1.frz 1 (by simp)
          have sf2 := HCz.out.2.1.frz 2 (by simp)
          have hb7b : b7 ≠ b := by have h1 := HX.out.2.1.2; have h2 := HF.out.2.2.1; omega
          (obtain ⟨Z, hZ⟩ : ∃ x, x = (((X9.setCell ⟨b, 0, none⟩ (.slice va1 ss.length vc1)).setCell ⟨b, 1, none⟩ (.int .i64 d')).setCell ⟨b, 2, none⟩ (.int .i64 r')) := ⟨_, rfl⟩)
          have HQ0 := Hid.intro (HX.out.put HF.out.2.1 (HF.out.2.2.2.commit d' r').own (fun k hk => by have h1 := HO1.out.2; have h2 := HF.out.2.2.2.2; simp only [Btw] at hk; omega) (hZ ▸ set3 X9 b _ _ _) (hZ ▸ HCz.out.2.1.set3c _ _ _))
          have HQ : Hid (PyS shCommit .bool 4 [.slice none 0 0, .int .i64 0, .int .i64 0] w b Z [.slice va1 s'.length vc1, .int .i64 d', .int .i64 r'] (s', d', r', ()) v D) := Hid.intro (by have h := HQ0.out; rwa [HLN.out] at h)
          go_upto_region 11 with fail
          rw [← hZ]
          clear hZ s0 s1 s2 sz sf0 sf1 sf2 y0 y1 y2 yz HQ0
          have HA := Hid.intro (HQ.out.next (Go.Joins.below_alloc1 Z (.cells #[.bool true] 4)))
          have s0 := (HQ.out.2.1).cell 0 rfl; have s1 := (HQ.out.2.1).cell 1 rfl; have s2 := (HQ.out.2.1).cell 2 rfl; have sz := (HQ.out.2.1).2
          have hDk : D.length + 1 ≤ maxLen := by have := HDL.out; unfold maxLen; omega
          have hDb : (D.length + 1) * 1 ≤ 140737488355328 := by have := HDL.out; omega
          go_wp2_with (first | (at_builtin; (obtain ⟨Sd9, hOd⟩ := HA.out.row); refine wpList_appx rfl (.tmp 42) (.tmp 44) 30 4 rfl i0 (.bool false) 1 (w.heap.size + 1) .bool rfl Tryd.underlying30 hi0 hz0 hz1 hz2 rfl (by decide) v D [true] Sd9 rfl hOd (some ⟨Z.heap.size, 0, none⟩) 1 rfl (lies_one (w := Z) (e := .bool) (cs := [.bool true]) (x := true) 4 rfl rfl) hDk hDb (by have h1 := HA.out.2.2.2.1.size; have h2 := HA.out.1.2; omega) ?_; intro v9 w9 hO9 hg9 hwh9; have H9 := Hid.intro (HA.out.app rfl hO9 hg9 hwh9); clear hO9 hg9 hwh9) | go_in)
          go_roundw
          case rel => exact ⟨k + 1, v9, by omega, by go_num, rfl, by rw [HPD.out]; exact ⟨_, _, H9.out⟩⟩
          case measure => simp [intOf]; omega
    · have hkn : k = l.length := by omega
      have hC2 : PqS w b wr (plF (nwC am, 0, 0) l).1 v (plF (nwC am, 0, 0) l).2 := by
        have := hC
        rw [hkn, List.take_length] at this
        exact this
      have HG2 : Hid (goodX (plF (nwC am, 0, 0) l).1) := Hid.intro (by have := HG.out; rw [hkn, List.take_length] at this; exact this)
      clear hC HG HDL hkn
      generalize plF (nwC am, 0, 0) l = F at hC2 HY HG2
      obtain ⟨⟨ss, dr, rc⟩, D⟩ := F
      obtain ⟨p, q, hC2⟩ := hC2
      have HC : Hid (PyS shCommit .bool 4 [.slice none 0 0, .int .i64 0, .int .i64 0] w b wr [.slice p ss.length q, .int .i64 dr, .int .i64 rc] (ss, dr, rc, ()) v D) := Hid.intro hC2
      have HZ : Hid (szD shCommit (ss, dr, rc, ()) ≤ 1073741824) := Hid.intro (Nat.le_trans (good_szC (show goodC ss dr rc = true from HG2.out)) (by decide))
      clear hC2 HG2
      have s0 := (HC.out.2.1).cell 0 rfl; have s1 := (HC.out.2.1).cell 1 rfl; have s2 := (HC.out.2.1).cell 2 rfl; have sz := (HC.out.2.1).2
      go_wp2_with fail
      refine (l15Own_n [.slice p ss.length q, .int .i64 dr, .int .i64 rc] ss dr rc _ HZ.out HC.out.lies).mono ?_
      rintro r W1 ⟨cs1, rfl, hO1, hb⟩
      obtain ⟨v1, hcs, hl1⟩ := LsU.of hO1 (Nat.le_refl _)
      subst hcs
      obtain ⟨p5, q5, hv1⟩ := hl1.form
      subst hv1
      have HC2 := Hid.intro (HC.out.next hb)
      have HP : Hid (PcR am l w (.returned (.tuple #[.agg #[.slice p5 ss.length q5, .int .i64 dr, .int .i64 rc], v, .bool true])) (((W1.setCell ⟨w.heap.size, 0, none⟩ (.slice p5 ss.length q5)).setCell ⟨w.heap.size, 1, none⟩ (.int .i64 dr)).setCell ⟨w.heap.size, 2, none⟩ (.int .i64 rc))) := Hid.intro (by
        unfold PcR; rw [HY.out.1, HY.out.2]; exact HC.out.done2 hb hO1.own (fun k hk => by simp only [Btw] at hk; exact hk) (set3 W1 w.heap.size _ _ _))
      clear hO1 hb hl1 s0 s1 s2 sz
      have r0 := (HC2.out.1).cell 0 rfl; have r1 := (HC2.out.1).cell 1 rfl; have r2 := (HC2.out.1).cell 2 rfl; have rz := (HC2.out.1).2
      have rf0 := HC2.out.1.frz 0 (by simp)
      have rf1 := HC2.out.1.frz 1 (by simp)
      have rf2 := HC2.out.1.frz 2 (by simp)
      go_wp2_with fail
      exact bodyPost_ret (v := .tuple #[.agg #[.slice p5 ss.length q5, .int .i64 dr, .int .i64 rc], v, .bool true]) (by simp [results, Tryd.results9, go_sem, *]) rfl HP.out

end Go.Proofs.YtkpobihpcnoemaaDoor
/- Commits: both sides of PlayCommit as its law speaks of them. Written by tools/mkCrP.py. -/
namespace Go.Proofs.YtkpobihpcnoemaaDoor
open Go.RowKit
set_option linter.unusedVariables false
set_option linter.unusedSimpArgs false

theorem sz_bools0 (l : List (Sh.T .bool)) : szD (.list .bool) l = l.length := sz_bools l
theorem cnt_csteps {l : List (Sh.T shCommitStep)} (h : szD (.list shCommitStep) l ≤ 1073741824) : cntD (.list shCommitStep) l ≤ 100000000000 := by
  have h2 := cnt_le (.list shCommitStep) l ⟨by decide, trivial, trivial, trivial, trivial⟩
  have h3 : Sh.c (.list shCommitStep) = 1 := rfl
  omega
theorem len_csteps {l : List (Sh.T shCommitStep)} (h : szD (.list shCommitStep) l ≤ 1073741824) : l.length ≤ 1073741824 := by
  have e : szD (.list shCommitStep) l = l.length + (l.map (szD shCommitStep)).sum := rfl
  omega
theorem sz_plA (am : List (Sh.T .int)) (l : List Stp) : szD shCommit ((plA am l).1.1, (plA am l).1.2.1, (plA am l).1.2.2, ()) ≤ 1073741824 ∧ szD (.list .bool) (plA am l).2 ≤ 1073741824 := by
  cases h : plOk am l
  · rw [pl_no h]
    exact ⟨Nat.zero_le _, Nat.zero_le _⟩
  · have h0 := h
    unfold plOk at h0
    simp only [Bool.and_eq_true, decide_eq_true_eq] at h0
    rw [(pl_yes h0.1 h0.2).1]
    have hg : goodX (nwC am, 0, 0) := by have h := nw_good h0.1; have e := nw_some h0.1; show goodC (nwC am) 0 0 = true; rw [e]; exact h
    have h1 := pl_good (l := l) hg (Nat.le_refl l.length)
    have h2 := pl_len (s := (nwC am, 0, 0)) (l := l) (Nat.le_refl l.length)
    rw [List.take_length] at h1 h2
    exact ⟨Nat.le_trans (good_szC h1) (by decide), by rw [sz_bools, h2]; have := h0.2; omega⟩
/-- These are the parts of what a play answers. -/
def PcH (am : List (Sh.T .int)) (l : List Stp) (NS : List Shd) (nd nr : Int) (D : List (Sh.T .bool)) (z : Bool) : Prop :=
  (plA am l).1.1 = NS ∧ (plA am l).1.2.1 = nd ∧ (plA am l).1.2.2 = nr ∧ (plA am l).2 = D ∧ plOk am l = z
theorem pch_sz {am : List (Sh.T .int)} {l : List Stp} {NS : List Shd} {nd nr : Int} {D : List (Sh.T .bool)} {z : Bool} (h : PcH am l NS nd nr D z) : szD shCommit (NS, nd, nr, ()) ≤ 1073741824 ∧ szD (.list .bool) D ≤ 1073741824 := by
  obtain ⟨h1, h2, h3, h4, h5⟩ := h
  rw [← h1, ← h2, ← h3, ← h4]; exact sz_plA am l
theorem pch_ans {am : List (Sh.T .int)} {l : List Stp} {NS : List Shd} {nd nr : Int} {D : List (Sh.T .bool)} {z : Bool} {w w' : World} {r : Ending} (h : PcH am l NS nd nr D z) (hp : PcR am l w r w') : PyP shCommit .bool (NS, nd, nr, ()) D z w r w' := by
  obtain ⟨h1, h2, h3, h4, h5⟩ := h
  rw [← h1, ← h2, ← h3, ← h4, ← h5]; exact hp
theorem playCommit_l (a1 : Option Addr) (k1 : Nat) (am : List (Sh.T .int)) (a2 : Option Addr) (k2 : Nat) (l : List Stp) (w : World) (NS : List Shd) (nd nr : Int) (D : List (Sh.T .bool)) (z : Bool) (hA : PcH am l NS nd nr D z) (hm : szD (.list .int) am ≤ 1073741824) (hn : szD (.list shCommitStep) l ≤ 1073741824) (hf : Flt w) (h1 : Lies w (.list .int) [.slice a1 am.length k1] am) (h2 : Lies w (.list shCommitStep) [.slice a2 l.length k2] l) :
    Calls Tryd.prog 8 #[.slice a1 am.length k1, .slice a2 l.length k2] w (PyP shCommit .bool (NS, nd, nr, ()) D z w) :=
  (playCommit_n a1 k1 am a2 k2 l w (by rw [sz_ints] at hm; exact hm) (len_csteps hn) hf h1 h2).mono (fun r w' hp => pch_ans hA hp)
theorem specPlayCommit_l (a1 : Option Addr) (k1 : Nat) (am : List (Sh.T .int)) (a2 : Option Addr) (k2 : Nat) (l : List Stp) (w : World) (NS : List Shd) (nd nr : Int) (D : List (Sh.T .bool)) (z : Bool) (hA : PcH am l NS nd nr D z) (hm : szD (.list .int) am ≤ 1073741824) (hn : szD (.list shCommitStep) l ≤ 1073741824) (h1 : Lies w (.list .int) [.slice a1 am.length k1] am) (h2 : Lies w (.list shCommitStep) [.slice a2 l.length k2] l) :
    Calls Tryd.prog 9 #[.slice a1 am.length k1, .slice a2 l.length k2] w (PyP shCommit .bool (NS, nd, nr, ()) D z w) :=
  (specPlayCommit_n a1 k1 am a2 k2 l w (by rw [sz_ints] at hm; exact hm) (len_csteps hn) h1 h2).mono (fun r w' hp => pch_ans hA hp)

end Go.Proofs.YtkpobihpcnoemaaDoor
/- Commits: what every play keeps: agreement and life. No Go text is spoken of here. -/
namespace Go.Proofs.YtkpobihpcnoemaaDoor
open Go.RowKit
set_option linter.unusedVariables false
set_option linter.unusedSimpArgs false

theorem agrB_0 {r : Rpl} (d : Int) (h : agrB 0 r = true) : agrB d r = true := by
  unfold agrB at h ⊢
  cases hd : rdn r
  · rw [hd] at h
    simp only [Bool.false_or] at h ⊢
    by_cases h3 : rhs r = 3
    · rw [if_pos h3] at h; exact absurd h (by decide)
    · rw [if_neg h3] at h ⊢
      by_cases h4 : rhs r = 4
      · rw [if_pos h4] at h; exact absurd h (by decide)
      · rw [if_neg h4]
  · rfl
theorem agr_0 {ss : List Shd} (d : Int) (h : ss.all (agsB 0) = true) : ss.all (agsB d) = true :=
  List.all_eq_true.2 fun s hs => List.all_eq_true.2 fun r hr => agrB_0 d (List.all_eq_true.1 (List.all_eq_true.1 h s hs) r hr)
/-- What a play keeps. -/
def invC (x : Cmt) : Prop := goodC x.1 x.2.1 x.2.2 = true ∧ agrA x.1 x.2.1 x.2.2 = true ∧ x.1.all livB = true
theorem agr_mk {ss : List Shd} {dr rc : Int} (h1 : rc = 0 ∨ rc = decN dr rc) (h2 : ss.all (agsB (decN dr rc)) = true) : agrA ss dr rc = true := by
  rw [agr_eq h1]; exact h2
theorem agr_out {ss : List Shd} {dr rc : Int} (h : agrA ss dr rc = true) : (rc = 0 ∨ rc = decN dr rc) ∧ ss.all (agsB (decN dr rc)) = true := by
  unfold agrA at h
  simp only [Bool.and_eq_true, Bool.or_eq_true, decide_eq_true_eq] at h
  exact h
theorem dec_012 {dr rc : Int} (h1 : inR dr 0 2 = true) (h2 : inR rc 0 2 = true) : decN dr rc = 0 ∨ decN dr rc = 1 ∨ decN dr rc = 2 := by
  have q1 := inR_iff.1 h1
  have q2 := inR_iff.1 h2
  by_cases q : dr = 0
  · rw [decN_0 q]; omega
  · rw [decN_n q]; omega
theorem nx_agr {l : List Shd} {dr rc : Int} {s : Shd} {j : Nat} {r y : Rpl} {k : Int} (h1 : inR dr 0 2 = true) (h2 : inR rc 0 2 = true) (h : nxR l dr rc s j r k = some y) : agrB (decN dr rc) y = true := by
  unfold nxR at h
  split at h
  · split at h
    · cases h; rfl
    · cases h
  · split at h
    · split at h
      · cases h; rfl
      · cases h
    · split at h
      · split at h
        · cases h; rfl
        · cases h
      · split at h
        · split at h
          · rename_i c
            cases h
            rcases dec_012 h1 h2 with q | q | q
            · exact absurd q c.1
            · rw [q]; rfl
            · rw [q]; rfl
          · cases h
        · cases h
theorem nx_liv {l : List Shd} {dr rc : Int} {s : Shd} {j : Nat} {r y : Rpl} {k : Int} (hj : j < (srs s).length) (h : nxR l dr rc s j r k = some y) : livB (mkS ((srs s).set j y)) = true := by
  have up : ∀ n : Int, livB (mkS ((srs s).set j (mkR false n))) = true := fun n => by
    unfold livB
    rw [srs_mk]
    exact List.any_eq_true.2 ⟨mkR false n, List.mem_iff_getElem.2 ⟨j, by rw [List.length_set]; exact hj, by rw [List.getElem_set_self]⟩, rfl⟩
  unfold nxR at h
  split at h
  · split at h
    · cases h; exact up 1
    · cases h
  · split at h
    · split at h
      · cases h; exact up 2
      · cases h
    · split at h
      · split at h
        · rename_i c; cases h; exact c
        · cases h
      · split at h
        · split at h
          · cases h; exact up _
          · cases h
        · cases h
theorem all_set {p : Shd → Bool} {ss : List Shd} {n : Nat} {x : Shd} (h : ss.all p = true) (hx : p x = true) : (ss.set n x).all p = true :=
  List.all_eq_true.2 fun o ho => by
    rcases List.mem_or_eq_of_mem_set ho with q | q
    · exact List.all_eq_true.1 h o q
    · rw [q]; exact hx
theorem stR_inv {ss : List Shd} {dr rc k i j : Int} {x : Cmt} (hv : invC (ss, dr, rc)) (h : stR ss dr rc k i j = some x) : invC x := by
  have hg := stR_good hv.1 h
  obtain ⟨h0, h1, h2⟩ := hv
  have h0 : goodC ss dr rc = true := h0
  have h1 : agrA ss dr rc = true := h1
  have h2 : ss.all livB = true := h2
  obtain ⟨a1, a2⟩ := agr_out h1
  obtain ⟨_, _, d1, d2⟩ := good_small h0
  unfold stR at h
  split at h
  · split at h
    · rename_i s hs
      split at h
      · rename_i r hr
        split at h
        · cases h
        · obtain ⟨y, hy, hx⟩ := Option.map_eq_some_iff.1 h
          subst hx
          have hj : j.toNat < (srs s).length := by
            rcases Nat.lt_or_ge j.toNat (srs s).length with q | q
            · exact q
            · rw [List.getElem?_eq_none q] at hr; cases hr
          have hm := List.mem_of_getElem? hs
          refine ⟨hg, agr_mk a1 (all_set a2 ?_), all_set h2 (nx_liv hj hy)⟩
          have h3 := List.all_eq_true.1 a2 s hm
          exact List.all_eq_true.2 fun o ho => by
            have ho : o ∈ (srs s).set j.toNat y := ho
            rcases List.mem_or_eq_of_mem_set ho with q | q
            · exact List.all_eq_true.1 h3 o q
            · rw [q]; exact nx_agr d1 d2 hy
      · cases h
    · cases h
  · cases h
theorem stC_inv {ss : List Shd} {dr rc k i j : Int} {x : Cmt} (hv : invC (ss, dr, rc)) (h : stC ss dr rc k i j = some x) : invC x := by
  have hg := stC_good hv.1 h
  have hv0 := hv
  obtain ⟨h0, h1, h2⟩ := hv
  have h0 : goodC ss dr rc = true := h0
  have h1 : agrA ss dr rc = true := h1
  have h2 : ss.all livB = true := h2
  obtain ⟨a1, a2⟩ := agr_out h1
  unfold stC at h
  split at h
  · split at h
    · rename_i c
      cases h
      have e := decN_zero.1 c.1
      rw [c.1] at a2
      exact ⟨hg, agr_mk (Or.inl e.2) (agr_0 _ a2), h2⟩
    · cases h
  · split at h
    · split at h
      · rename_i c
        cases h
        have e := decN_zero.1 c
        rw [c] at a2
        exact ⟨hg, agr_mk (Or.inl e.2) (agr_0 _ a2), h2⟩
      · cases h
    · split at h
      · split at h
        · rename_i c
          cases h
          by_cases q : dr = 0
          · have e : decN dr rc = 0 := decN_zero.2 ⟨q, c⟩
            rw [e] at a2
            exact ⟨hg, agr_mk (Or.inr (by rw [decN_0 q])) (agr_0 _ a2), h2⟩
          · have e : recN ss dr = dr := by unfold recN; rw [if_neg q]
            refine ⟨hg, ?_, h2⟩
            show agrA ss dr (recN ss dr) = true
            rw [e]
            refine agr_mk (Or.inr (by rw [decN_n q])) ?_
            rw [decN_n q] at a2 ⊢
            exact a2
        · cases h
      · exact stR_inv hv0 h
theorem pl_inv {s : Cmt} {l : List Stp} (hg : invC s) : ∀ {k : Nat}, k ≤ l.length → invC (plF s (l.take k)).1
  | 0, _ => by rw [List.take_zero]; exact hg
  | k + 1, h => by
    have ih := pl_inv hg (k := k) (l := l) (by omega)
    rw [pl_take h]
    show invC ((plE (plF s (l.take k)).1 l[k]).getD (plF s (l.take k)).1)
    cases he : plE (plF s (l.take k)).1 l[k] with
    | none => exact ih
    | some y => exact stC_inv ih he
theorem nw_inv {am : List (Sh.T .int)} (h : nwOk am = true) : invC (nwC am, 0, 0) := by
  have hg := nw_good h
  have e := nw_some h
  refine ⟨by show goodC (nwC am) 0 0 = true; rw [e]; exact hg, agr_mk (Or.inl rfl) ?_, ?_⟩
  · show (nwC am).all (agsB (decN 0 0)) = true
    rw [e]
    refine List.all_eq_true.2 fun s hs => ?_
    obtain ⟨n, _, rfl⟩ := List.mem_map.1 hs
    refine List.all_eq_true.2 fun r hr => ?_
    have hr : r ∈ List.replicate n.toNat (mkR false 0) := hr
    rw [List.eq_of_mem_replicate hr]
    rfl
  · show (nwC am).all livB = true
    rw [e]
    refine List.all_eq_true.2 fun s hs => ?_
    obtain ⟨n, hn, rfl⟩ := List.mem_map.1 hs
    unfold nwOk at h
    simp only [Bool.and_eq_true] at h
    have h1 := (inR_iff.1 (List.all_eq_true.1 h.2 n hn)).1
    show (List.replicate n.toNat (mkR false 0)).any upB = true
    exact List.any_eq_true.2 ⟨mkR false 0, List.mem_replicate.2 ⟨by omega, rfl⟩, rfl⟩
theorem pch_inv {am : List (Sh.T .int)} {l : List Stp} {NS : List Shd} {nd nr : Int} {D : List (Sh.T .bool)} (h : PcH am l NS nd nr D true) : invC (NS, nd, nr) := by
  obtain ⟨h1, h2, h3, h4, h5⟩ := h
  have h0 := h5
  unfold plOk at h0
  simp only [Bool.and_eq_true, decide_eq_true_eq] at h0
  have e := (pl_yes h0.1 h0.2).1
  have h6 := pl_inv (l := l) (nw_inv h0.1) (Nat.le_refl l.length)
  rw [List.take_length, ← e] at h6
  rw [← h1, ← h2, ← h3]
  exact h6
theorem pch_no {am : List (Sh.T .int)} {l : List Stp} {NS : List Shd} {nd nr : Int} {D : List (Sh.T .bool)} (h : PcH am l NS nd nr D false) : D = [] ∧ NS = [] ∧ nd = 0 ∧ nr = 0 := by
  obtain ⟨h1, h2, h3, h4, h5⟩ := h
  have e := pl_no h5
  rw [e] at h1 h2 h3 h4
  exact ⟨h4.symm, h1.symm, h2.symm, h3.symm⟩
theorem pch_len {am : List (Sh.T .int)} {l : List Stp} {NS : List Shd} {nd nr : Int} {D : List (Sh.T .bool)} {z : Bool} (h : PcH am l NS nd nr D z) : D.length ≤ 100 := by
  cases z
  · rw [(pch_no h).1]; exact Nat.zero_le _
  · obtain ⟨h1, h2, h3, h4, h5⟩ := h
    have h0 := h5
    unfold plOk at h0
    simp only [Bool.and_eq_true, decide_eq_true_eq] at h0
    have e := (pl_yes h0.1 h0.2).1
    have h6 := pl_len (s := (nwC am, 0, 0)) (l := l) (Nat.le_refl l.length)
    rw [List.take_length, ← e, h4] at h6
    rw [h6]; exact h0.2
end Go.Proofs.YtkpobihpcnoemaaDoor
