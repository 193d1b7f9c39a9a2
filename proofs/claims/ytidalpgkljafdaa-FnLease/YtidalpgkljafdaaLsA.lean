/- Leases: the program's steps on leases of its own. -/
import Derived.Test.YtidalpgkljafdaaLsG
import Derived.Test.YtidalpgkljafdaaLeU
import Derived.Test.YtidalpgkljafdaaShS
namespace Go.Proofs.Ytidalpgkljafdaa
open Go.RowKit
set_option linter.unusedVariables false
set_option linter.unusedSimpArgs false

/-- Leases in block g, whose lists lie in blocks of their own. -/
def LxS (W : World) (lo g : Nat) (sk nw : Int) (g1 k1 : Nat) (cl : List (Sh.T .int)) (ho un : Int) (g2 k2 : Nat) (kn : List (Sh.T .int)) (m : Nat) : Prop :=
  Bx W g [.int .i64 sk, .int .i64 nw, .slice (some ⟨g1, 0, none⟩) m k1, .int .i64 ho, .int .i64 un, .slice (some ⟨g2, 0, none⟩) m k2] ∧ Rw 3 W lo g1 k1 cl m ∧ Rw 3 W lo g2 k2 kn m ∧ g1 ≠ g2 ∧ g ≠ g1 ∧ g ≠ g2
section
variable {W W' : World} {lo g : Nat} {sk nw : Int} {g1 k1 : Nat} {cl : List (Sh.T .int)} {ho un : Int} {g2 k2 : Nat} {kn : List (Sh.T .int)} {m : Nat}
theorem LxS.next (h : LxS W lo g sk nw g1 k1 cl ho un g2 k2 kn m) (hb : Below W.heap.size W W') : LxS W' lo g sk nw g1 k1 cl ho un g2 k2 kn m := ⟨h.1.next hb, h.2.1.next hb, h.2.2.1.next hb, h.2.2.2⟩
theorem LxS.lel (h : LxS W lo g sk nw g1 k1 cl ho un g2 k2 kn m) : LeL W (some ⟨g1, 0, none⟩) m k1 (some ⟨g2, 0, none⟩) m k2 cl kn := ⟨h.2.1.lies, h.2.2.1.lies, h.2.1.2.symm, h.2.2.1.2.symm⟩
theorem LxS.setN (h : LxS W lo g sk nw g1 k1 cl ho un g2 k2 kn m) (x : Int) : LxS (W.setCell ⟨g, 1, none⟩ (.int .i64 x)) lo g sk x g1 k1 cl ho un g2 k2 kn m := ⟨h.1.set (k := 1) (by simp) _, h.2.1.other (p := ⟨g, 1, none⟩) (Ne.symm h.2.2.2.2.1) _, h.2.2.1.other (p := ⟨g, 1, none⟩) (Ne.symm h.2.2.2.2.2) _, h.2.2.2⟩
theorem LxS.setH (h : LxS W lo g sk nw g1 k1 cl ho un g2 k2 kn m) (x : Int) : LxS (W.setCell ⟨g, 3, none⟩ (.int .i64 x)) lo g sk nw g1 k1 cl x un g2 k2 kn m := ⟨h.1.set (k := 3) (by simp) _, h.2.1.other (p := ⟨g, 3, none⟩) (Ne.symm h.2.2.2.2.1) _, h.2.2.1.other (p := ⟨g, 3, none⟩) (Ne.symm h.2.2.2.2.2) _, h.2.2.2⟩
theorem LxS.setU (h : LxS W lo g sk nw g1 k1 cl ho un g2 k2 kn m) (x : Int) : LxS (W.setCell ⟨g, 4, none⟩ (.int .i64 x)) lo g sk nw g1 k1 cl ho x g2 k2 kn m := ⟨h.1.set (k := 4) (by simp) _, h.2.1.other (p := ⟨g, 4, none⟩) (Ne.symm h.2.2.2.2.1) _, h.2.2.1.other (p := ⟨g, 4, none⟩) (Ne.symm h.2.2.2.2.2) _, h.2.2.2⟩
theorem LxS.setK (h : LxS W lo g sk nw g1 k1 cl ho un g2 k2 kn m) {k : Nat} (hk : k < m) (x : Int) : LxS (W.setCell ⟨g2, k, none⟩ (.int .i64 x)) lo g sk nw g1 k1 cl ho un g2 k2 (kn.set k x) m := ⟨h.1.other h.2.2.2.2.2, h.2.1.other (p := ⟨g2, k, none⟩) h.2.2.2.1 _, h.2.2.1.set hk x, h.2.2.2⟩
theorem LxS.setC (h : LxS W lo g sk nw g1 k1 cl ho un g2 k2 kn m) {k : Nat} (hk : k < m) (x : Int) : LxS (W.setCell ⟨g1, k, none⟩ (.int .i64 x)) lo g sk nw g1 k1 (cl.set k x) ho un g2 k2 kn m := ⟨h.1.other h.2.2.2.2.1, h.2.1.set hk x, h.2.2.1.other (p := ⟨g1, k, none⟩) (Ne.symm h.2.2.2.1) _, h.2.2.2⟩
end
/-- What a step leaves. -/
def LtP (o : Option (Sh.T shLeases)) (W : World) (lo g g1 k1 g2 k2 m : Nat) (r : Ending) (W' : World) : Prop :=
  r = .returned (.bool o.isSome) ∧ TurnS (fun k => k = g ∨ k = g1 ∨ k = g2) W W' ∧ ∀ y : Sh.T shLeases, o = some y → LxS W' lo g y.1 y.2.1 g1 k1 y.2.2.1 y.2.2.2.1 y.2.2.2.2.1 g2 k2 y.2.2.2.2.2.1 m
section
variable {o : Option (Sh.T shLeases)} {W W' : World} {lo g g1 k1 g2 k2 m : Nat}
theorem LtP.no (h : o = none) (hb : Below W.heap.size W W') : LtP o W lo g g1 k1 g2 k2 m (.returned (.bool false)) W' := ⟨by rw [h]; rfl, TurnS.of_below hb, fun y q => by rw [h] at q; cases q⟩
theorem LtP.yes {sk nw : Int} {cl : List (Sh.T .int)} {ho un : Int} {kn : List (Sh.T .int)} (h : o = some (mkLe sk nw cl ho un kn)) (ht : TurnS (fun k => k = g ∨ k = g1 ∨ k = g2) W W') (hx : LxS W' lo g sk nw g1 k1 cl ho un g2 k2 kn m) : LtP o W lo g g1 k1 g2 k2 m (.returned (.bool true)) W' :=
  ⟨by rw [h]; rfl, ht, fun y q => by rw [h] at q; cases q; exact hx⟩
end
/-- What holds between the operations of a step. -/
def LxB (w W : World) (lo g : Nat) (sk nw : Int) (g1 k1 : Nat) (cl : List (Sh.T .int)) (ho un : Int) (g2 k2 : Nat) (kn : List (Sh.T .int)) (m : Nat) : Prop := LxS W lo g sk nw g1 k1 cl ho un g2 k2 kn m ∧ Below w.heap.size w W
theorem LxB.next {w W W' : World} {lo g : Nat} {sk nw : Int} {g1 k1 : Nat} {cl : List (Sh.T .int)} {ho un : Int} {g2 k2 : Nat} {kn : List (Sh.T .int)} {m : Nat} (h : LxB w W lo g sk nw g1 k1 cl ho un g2 k2 kn m) (hb : Below W.heap.size W W') : LxB w W' lo g sk nw g1 k1 cl ho un g2 k2 kn m := ⟨h.1.next hb, below_next h.2 hb⟩

set_option maxRecDepth 100000 in
set_option maxHeartbeats 2000000 in
theorem grantLease_n (lo g : Nat) (sk nw : Int) (g1 k1 : Nat) (cl : List (Sh.T .int)) (ho un : Int) (g2 k2 : Nat) (kn : List (Sh.T .int)) (m : Nat) (b n : Int) (w : World) (hg : goodL sk nw cl ho un kn) (h : LxS w lo g sk nw g1 k1 cl ho un g2 k2 kn m) :
    Calls Try.prog 65 #[.pointer (some ⟨g, 0, none⟩), .int .i64 b, .int .i64 n] w (LtP (leGrant sk nw cl ho un kn b n) w lo g g1 k1 g2 k2 m) := by
  have HX : Hid (LxB w w lo g sk nw g1 k1 cl ho un g2 k2 kn m) := ⟨h, Below.refl _ _⟩
  have HG := Hid.intro hg
  have hm1 : 1 ≤ m := by have h1 := hg.2.2.2.1; rw [h.2.1.2] at h1; omega
  have hm12 : m ≤ 12 := by have h1 := hg.2.2.2.1; rw [h.2.1.2] at h1; omega
  have HM : Hid (cl.length = m ∧ kn.length = m) := ⟨h.2.1.2, h.2.2.1.2⟩
  have hm30 : m ≤ 1073741824 := by omega
  have hnw1 := hg.2.1.1
  have hnw2 := hg.2.1.2
  have hun1 := hg.2.2.1.1
  have hun2 := hg.2.2.1.2
  have s0 := h.1.cell 0 rfl
  have s1 := h.1.cell 1 rfl
  have s2 := h.1.cell 2 rfl
  have s3 := h.1.cell 3 rfl
  have s4 := h.1.cell 4 rfl
  have s5 := h.1.cell 5 rfl
  have sz := h.1.2
  clear h hg
  cases c1 : inR b 0 ((m : Int) - 1)
  · have HN : Hid (leGrant sk nw cl ho un kn b n = none) := Hid.intro (leGrant_no (fun q => by have h1 := q.1; rw [HM.out.1] at h1; rw [inR_iff.2 h1] at c1; cases c1))
    have HC : Hid (inR b 0 ((m : Int) - 1) = false) := c1
    clear c1
    go_enter Try.func65, Try.ntmps65
    go_wp2_with (go_at_call 46; refine (HC.out ▸ hasNode_n sk nw (some ⟨g1, 0, none⟩) m k1 ho un _ b _ hm30 ⟨(some ⟨g2, 0, none⟩), m, k2, rfl⟩).mono ?_; rintro r w1 ⟨rfl, hb⟩; have HX1 := Hid.intro (HX.out.next hb); clear hb s0 s1 s2 s3 s4 s5 sz; have s0 := HX1.out.1.1.cell 0 rfl; have s1 := HX1.out.1.1.cell 1 rfl; have s2 := HX1.out.1.1.cell 2 rfl; have s3 := HX1.out.1.1.cell 3 rfl; have s4 := HX1.out.1.1.cell 4 rfl; have s5 := HX1.out.1.1.cell 5 rfl; have sz := HX1.out.1.1.2)
    go_ret
    exact LtP.no HN.out HX1.out.2
  have HC : Hid (inR b 0 ((m : Int) - 1) = true) := c1
  have hb12 := inR_iff.1 c1
  clear c1
  cases c2 : inR n 1 1000000
  · have HN : Hid (leGrant sk nw cl ho un kn b n = none) := Hid.intro (leGrant_no (fun q => by rw [inR_iff.2 q.2.1] at c2; cases c2))
    have HC2 : Hid (inR n 1 1000000 = false) := c2
    clear c2
    go_enter Try.func65, Try.ntmps65
    go_wp2_with (first | (go_at_call 46; refine (HC.out ▸ hasNode_n sk nw (some ⟨g1, 0, none⟩) m k1 ho un _ b _ hm30 ⟨(some ⟨g2, 0, none⟩), m, k2, rfl⟩).mono ?_; rintro r w1 ⟨rfl, hb⟩; have HX1 := Hid.intro (HX.out.next hb); clear hb s0 s1 s2 s3 s4 s5 sz; have s0 := HX1.out.1.1.cell 0 rfl; have s1 := HX1.out.1.1.cell 1 rfl; have s2 := HX1.out.1.1.cell 2 rfl; have s3 := HX1.out.1.1.cell 3 rfl; have s4 := HX1.out.1.1.cell 4 rfl; have s5 := HX1.out.1.1.cell 5 rfl; have sz := HX1.out.1.1.2) | (go_at_call 45; refine (HC2.out ▸ inRange_any _ _ _ _).mono ?_; rintro e w' ⟨rfl, hw'⟩; have hw' := hw'.symm; subst hw'))
    go_ret
    exact LtP.no HN.out HX1.out.2
  have HC2 : Hid (inR n 1 1000000 = true) := c2
  have hn12 := inR_iff.1 c2
  obtain ⟨hn1, hn2⟩ := hn12
  clear c2
  by_cases c3 : b = ho
  · have HN : Hid (leGrant sk nw cl ho un kn b n = some (mkLe sk nw cl b (max un (nw + n)) kn)) := Hid.intro ((leGrant_yes ⟨by rw [HM.out.1]; exact hb12, ⟨hn1, hn2⟩, Or.inl c3⟩).trans (by unfold grU; rw [if_pos c3]))
    subst c3
    go_enter Try.func65, Try.ntmps65
    go_wp2_with (first | (go_at_call 46; refine (HC.out ▸ hasNode_n sk nw (some ⟨g1, 0, none⟩) m k1 b un _ b _ hm30 ⟨(some ⟨g2, 0, none⟩), m, k2, rfl⟩).mono ?_; rintro r w1 ⟨rfl, hb⟩; have HX1 := Hid.intro (HX.out.next hb); clear hb s0 s1 s2 s3 s4 s5 sz; have s0 := HX1.out.1.1.cell 0 rfl; have s1 := HX1.out.1.1.cell 1 rfl; have s2 := HX1.out.1.1.cell 2 rfl; have s3 := HX1.out.1.1.cell 3 rfl; have s4 := HX1.out.1.1.cell 4 rfl; have s5 := HX1.out.1.1.cell 5 rfl; have sz := HX1.out.1.1.2; have sf3 := HX1.out.1.1.frz 3 (by simp); have sf4 := HX1.out.1.1.frz 4 (by simp)) | (go_at_call 45; refine (HC2.out ▸ inRange_any _ _ _ _).mono ?_; rintro e w' ⟨rfl, hw'⟩; have hw' := hw'.symm; subst hw'))
    all_goals (go_ret; exact LtP.yes (HN.out.trans (congrArg (fun u => some (mkLe sk nw cl b u kn)) (by omega))) ((TurnS.of_below HX1.out.2).set (p := ⟨g, 3, none⟩) (Or.inl rfl) _ |>.set (p := ⟨g, 4, none⟩) (Or.inl rfl) _) ((HX1.out.1.setH _).setU _))
  by_cases c4 : un ≤ nw
  · have HN : Hid (leGrant sk nw cl ho un kn b n = some (mkLe sk nw cl b (nw + n) kn)) := Hid.intro ((leGrant_yes ⟨by rw [HM.out.1]; exact hb12, ⟨hn1, hn2⟩, Or.inr c4⟩).trans (by unfold grU; rw [if_neg c3]))
    go_enter Try.func65, Try.ntmps65
    go_upto_region 6 with (first | (go_at_call 46; refine (HC.out ▸ hasNode_n sk nw (some ⟨g1, 0, none⟩) m k1 ho un _ b _ hm30 ⟨(some ⟨g2, 0, none⟩), m, k2, rfl⟩).mono ?_; rintro r w1 ⟨rfl, hb⟩; have HX1 := Hid.intro (HX.out.next hb); clear hb s0 s1 s2 s3 s4 s5 sz; have s0 := HX1.out.1.1.cell 0 rfl; have s1 := HX1.out.1.1.cell 1 rfl; have s2 := HX1.out.1.1.cell 2 rfl; have s3 := HX1.out.1.1.cell 3 rfl; have s4 := HX1.out.1.1.cell 4 rfl; have s5 := HX1.out.1.1.cell 5 rfl; have sz := HX1.out.1.1.2; have sf3 := HX1.out.1.1.frz 3 (by simp); have sf4 := HX1.out.1.1.frz 4 (by simp)) | (go_at_call 45; refine (HC2.out ▸ inRange_any _ _ _ _).mono ?_; rintro e w' ⟨rfl, hw'⟩; have hw' := hw'.symm; subst hw'))
    go_quiet (fail)
    have HX2 := Hid.intro (HX1.out.next (below_dN (Below.refl _ _) nq))
    obtain ⟨w2, hw2⟩ : ∃ y, y = w1.drewN nq := ⟨_, rfl⟩
    rw [← hw2] at HX2 ⊢
    clear hw2 s0 s1 s2 s3 s4 s5 sz sf3 sf4
    have s0 := HX2.out.1.1.cell 0 rfl
    have s1 := HX2.out.1.1.cell 1 rfl
    have s2 := HX2.out.1.1.cell 2 rfl
    have s3 := HX2.out.1.1.cell 3 rfl
    have s4 := HX2.out.1.1.cell 4 rfl
    have s5 := HX2.out.1.1.cell 5 rfl
    have sz := HX2.out.1.1.2
    have sf3 := HX2.out.1.1.frz 3 (by simp)
    have sf4 := HX2.out.1.1.frz 4 (by simp)
    go_wp2
    go_ret
    exact LtP.yes HN.out ((TurnS.of_below HX2.out.2).set (p := ⟨g, 3, none⟩) (Or.inl rfl) _ |>.set (p := ⟨g, 4, none⟩) (Or.inl rfl) _) ((HX2.out.1.setH _).setU _)
  · have HN : Hid (leGrant sk nw cl ho un kn b n = none) := Hid.intro (leGrant_no (fun q => q.2.2.elim c3 c4))
    have c4' : nw < un := by omega
    go_enter Try.func65, Try.ntmps65
    go_upto_region 6 with (first | (go_at_call 46; refine (HC.out ▸ hasNode_n sk nw (some ⟨g1, 0, none⟩) m k1 ho un _ b _ hm30 ⟨(some ⟨g2, 0, none⟩), m, k2, rfl⟩).mono ?_; rintro r w1 ⟨rfl, hb⟩; have HX1 := Hid.intro (HX.out.next hb); clear hb s0 s1 s2 s3 s4 s5 sz; have s0 := HX1.out.1.1.cell 0 rfl; have s1 := HX1.out.1.1.cell 1 rfl; have s2 := HX1.out.1.1.cell 2 rfl; have s3 := HX1.out.1.1.cell 3 rfl; have s4 := HX1.out.1.1.cell 4 rfl; have s5 := HX1.out.1.1.cell 5 rfl; have sz := HX1.out.1.1.2) | (go_at_call 45; refine (HC2.out ▸ inRange_any _ _ _ _).mono ?_; rintro e w' ⟨rfl, hw'⟩; have hw' := hw'.symm; subst hw'))
    go_quiet (fail)
    have HX2 := Hid.intro (HX1.out.next (below_dN (Below.refl _ _) nq))
    go_wp2
    go_ret
    exact LtP.no HN.out HX2.out.2

set_option maxRecDepth 100000 in
set_option maxHeartbeats 2000000 in
theorem tellLease_n (lo g : Nat) (sk nw : Int) (g1 k1 : Nat) (cl : List (Sh.T .int)) (ho un : Int) (g2 k2 : Nat) (kn : List (Sh.T .int)) (m : Nat) (b : Int) (w : World) (hg : goodL sk nw cl ho un kn) (h : LxS w lo g sk nw g1 k1 cl ho un g2 k2 kn m) :
    Calls Try.prog 66 #[.pointer (some ⟨g, 0, none⟩), .int .i64 b] w (LtP (leTell sk nw cl ho un kn b) w lo g g1 k1 g2 k2 m) := by
  have HX : Hid (LxB w w lo g sk nw g1 k1 cl ho un g2 k2 kn m) := ⟨h, Below.refl _ _⟩
  have HG := Hid.intro hg
  have hm1 : 1 ≤ m := by have h1 := hg.2.2.2.1; rw [h.2.1.2] at h1; omega
  have hm12 : m ≤ 12 := by have h1 := hg.2.2.2.1; rw [h.2.1.2] at h1; omega
  have HM : Hid (cl.length = m ∧ kn.length = m) := ⟨h.2.1.2, h.2.2.1.2⟩
  have hm30 : m ≤ 1073741824 := by omega
  have hnw1 := hg.2.1.1
  have hnw2 := hg.2.1.2
  have hun1 := hg.2.2.1.1
  have hun2 := hg.2.2.1.2
  have s0 := h.1.cell 0 rfl
  have s1 := h.1.cell 1 rfl
  have s2 := h.1.cell 2 rfl
  have s3 := h.1.cell 3 rfl
  have s4 := h.1.cell 4 rfl
  have s5 := h.1.cell 5 rfl
  have sz := h.1.2
  clear h hg
  cases c1 : inR b 0 ((m : Int) - 1)
  · have HN : Hid (leTell sk nw cl ho un kn b = none) := Hid.intro (leTell_no (fun q => by have h1 := q.1; rw [HM.out.1] at h1; rw [inR_iff.2 h1] at c1; cases c1))
    have HC : Hid (inR b 0 ((m : Int) - 1) = false) := c1
    clear c1
    go_enter Try.func66, Try.ntmps66
    go_wp2_with (go_at_call 46; refine (HC.out ▸ hasNode_n sk nw (some ⟨g1, 0, none⟩) m k1 ho un _ b _ hm30 ⟨(some ⟨g2, 0, none⟩), m, k2, rfl⟩).mono ?_; rintro r w1 ⟨rfl, hb⟩; have HX1 := Hid.intro (HX.out.next hb); clear hb s0 s1 s2 s3 s4 s5 sz; have s0 := HX1.out.1.1.cell 0 rfl; have s1 := HX1.out.1.1.cell 1 rfl; have s2 := HX1.out.1.1.cell 2 rfl; have s3 := HX1.out.1.1.cell 3 rfl; have s4 := HX1.out.1.1.cell 4 rfl; have s5 := HX1.out.1.1.cell 5 rfl; have sz := HX1.out.1.1.2)
    go_ret
    exact LtP.no HN.out HX1.out.2
  have HC : Hid (inR b 0 ((m : Int) - 1) = true) := c1
  have hb12 := inR_iff.1 c1
  clear c1
  by_cases c3 : b = ho
  case neg =>
    have HN : Hid (leTell sk nw cl ho un kn b = none) := Hid.intro (leTell_no (fun q => c3 q.2))
    go_enter Try.func66, Try.ntmps66
    go_wp2_with (go_at_call 46; refine (HC.out ▸ hasNode_n sk nw (some ⟨g1, 0, none⟩) m k1 ho un _ b _ hm30 ⟨(some ⟨g2, 0, none⟩), m, k2, rfl⟩).mono ?_; rintro r w1 ⟨rfl, hb⟩; have HX1 := Hid.intro (HX.out.next hb); clear hb s0 s1 s2 s3 s4 s5 sz; have s0 := HX1.out.1.1.cell 0 rfl; have s1 := HX1.out.1.1.cell 1 rfl; have s2 := HX1.out.1.1.cell 2 rfl; have s3 := HX1.out.1.1.cell 3 rfl; have s4 := HX1.out.1.1.cell 4 rfl; have s5 := HX1.out.1.1.cell 5 rfl; have sz := HX1.out.1.1.2)
    go_ret
    exact LtP.no HN.out HX1.out.2
  have HN0 : Hid (leTell sk nw cl ho un kn b = some (mkLe sk nw cl ho un (kn.set b.toNat un))) := Hid.intro (leTell_yes ⟨by rw [HM.out.1]; exact hb12, c3⟩)
  obtain ⟨k, hkE⟩ : ∃ k : Nat, b = (k : Int) := ⟨b.toNat, by omega⟩
  have hkm : k < m := by omega
  have hkm' : (k : Int) < (m : Int) := by omega
  have HN : Hid (leTell sk nw cl ho un kn b = some (mkLe sk nw cl ho un (kn.set k un))) := Hid.intro (by rw [HN0.out, hkE]; rfl)
  subst c3
  subst hkE
  clear hb12 HN0
  go_enter Try.func66, Try.ntmps66
  go_upto_region 3 with (go_at_call 46; refine (HC.out ▸ hasNode_n sk nw (some ⟨g1, 0, none⟩) m k1 (k : Int) un _ (k : Int) _ hm30 ⟨(some ⟨g2, 0, none⟩), m, k2, rfl⟩).mono ?_; rintro r w1 ⟨rfl, hb⟩; have HX1 := Hid.intro (HX.out.next hb); clear hb s0 s1 s2 s3 s4 s5 sz; have s0 := HX1.out.1.1.cell 0 rfl; have s1 := HX1.out.1.1.cell 1 rfl; have s2 := HX1.out.1.1.cell 2 rfl; have s3 := HX1.out.1.1.cell 3 rfl; have s4 := HX1.out.1.1.cell 4 rfl; have s5 := HX1.out.1.1.cell 5 rfl; have sz := HX1.out.1.1.2)
  have HX2 := Hid.intro (HX1.out.next (below_drew _))
  obtain ⟨w2, hw2⟩ : ∃ y, y = w1.drew := ⟨_, rfl⟩
  rw [← hw2] at HX2
  refine wp_region_noPanic ?_
  refine wp_region_held_drew (S := fun W => Bx W g [.int .i64 sk, .int .i64 nw, .slice (some ⟨g1, 0, none⟩) m k1, .int .i64 (k : Int), .int .i64 un, .slice (some ⟨g2, 0, none⟩) m k2]) (by kernel_rfl) (hw2 ▸ HX2.out.1.1) (fun hHeld => ?_)
  rw [← hw2] at hHeld ⊢
  clear hw2
  refine take_v (v := ?_) 0 ⟨some 19, Op.move (Operand.tmp 0), _, _, _, none⟩ rfl (fun _ _ _ h => h) ?_ hHeld ?_
  rotate_left
  · (intro W _; go_simp <;> (try with_reducible rfl))
  refine take_v (v := ?_) 1 ⟨some 20, Op.nilCheck (Operand.tmp 19), _, _, _, none⟩ rfl (fun _ _ _ h => h) ?_ hHeld ?_
  rotate_left
  · (intro W _; go_simp <;> (try with_reducible rfl))
  refine take_v (v := ?_) 2 ⟨some 21, Op.fieldAddr 28 (Operand.tmp 20) 5, _, _, _, none⟩ rfl (fun _ _ _ h => h) ?_ hHeld ?_
  rotate_left
  · (intro W _; go_simp <;> (try with_reducible rfl))
  refine take_v (v := ?_) 3 ⟨some 22, Op.load 26 (Operand.tmp 21), _, _, _, none⟩ rfl (fun _ _ _ h => h) ?_ hHeld ?_
  rotate_left
  · (intro W hSW; (have s0 := hSW.cell 0 rfl; have s1 := hSW.cell 1 rfl; have s2 := hSW.cell 2 rfl; have s3 := hSW.cell 3 rfl; have s4 := hSW.cell 4 rfl; have s5 := hSW.cell 5 rfl; have sz := hSW.2); go_simp <;> (try with_reducible rfl))
  refine take_v (v := ?_) 4 ⟨some 23, Op.move (Operand.tmp 1), _, _, _, none⟩ rfl (fun _ _ _ h => h) ?_ hHeld ?_
  rotate_left
  · (intro W _; go_simp <;> (try with_reducible rfl))
  refine take_v (v := ?_) 5 ⟨some 24, Op.move (Operand.tmp 0), _, _, _, none⟩ rfl (fun _ _ _ h => h) ?_ hHeld ?_
  rotate_left
  · (intro W _; go_simp <;> (try with_reducible rfl))
  refine take_v (v := ?_) 6 ⟨some 25, Op.nilCheck (Operand.tmp 24), _, _, _, none⟩ rfl (fun _ _ _ h => h) ?_ hHeld ?_
  rotate_left
  · (intro W _; go_simp <;> (try with_reducible rfl))
  refine take_v (v := ?_) 7 ⟨some 26, Op.fieldAddr 28 (Operand.tmp 25) 4, _, _, _, none⟩ rfl (fun _ _ _ h => h) ?_ hHeld ?_
  rotate_left
  · (intro W _; go_simp <;> (try with_reducible rfl))
  refine take_v (v := ?_) 8 ⟨some 27, Op.load 3 (Operand.tmp 26), _, _, _, none⟩ rfl (fun _ _ _ h => h) ?_ hHeld ?_
  rotate_left
  · (intro W hSW; (have s0 := hSW.cell 0 rfl; have s1 := hSW.cell 1 rfl; have s2 := hSW.cell 2 rfl; have s3 := hSW.cell 3 rfl; have s4 := hSW.cell 4 rfl; have s5 := hSW.cell 5 rfl; have sz := hSW.2); go_simp <;> (try with_reducible rfl))
  refine take_v (v := ?_) 9 ⟨some 28, Op.indexAddr 26 (Operand.tmp 22) (Operand.tmp 23), _, _, _, none⟩ rfl (fun _ _ _ h => h) ?_ hHeld ?_
  rotate_left
  · (intro W _; go_simp <;> (try with_reducible rfl))
  refine ready_call 10 ⟨none, Op.store 3 (Operand.tmp 28) (Operand.tmp 27), _, _, _, none⟩ (by kernel_rfl) rfl (by kernel_rfl) (fun KC hK => ?_)
  have hat := HX2.out.1.2.2.1.at hkm
  obtain ⟨q1, q2, q3⟩ := hat
  go_wp2_with fail
  clear q1 q2 q3
  refine hK.out _ _ (hHeld.other HX2.out.1.2.2.2.2.2) (fun hHeld => ?_)
  clear hK KC
  refine wpAnyH_done (by kernel_rfl) ?_ _
  refine NoPanic.normal ?_
  clear hHeld s0 s1 s2 s3 s4 s5 sz
  go_wp2
  go_ret
  exact LtP.yes HN.out ((TurnS.of_below HX2.out.2).set (p := ⟨g2, k, none⟩) (Or.inr (Or.inr rfl)) _) (HX2.out.1.setK hkm un)

set_option maxRecDepth 100000 in
set_option maxHeartbeats 2000000 in
theorem passTime_n (lo g : Nat) (sk nw : Int) (g1 k1 : Nat) (cl : List (Sh.T .int)) (ho un : Int) (g2 k2 : Nat) (kn : List (Sh.T .int)) (m : Nat) (n : Int) (w : World) (hg : goodL sk nw cl ho un kn) (h : LxS w lo g sk nw g1 k1 cl ho un g2 k2 kn m) :
    Calls Try.prog 67 #[.pointer (some ⟨g, 0, none⟩), .int .i64 n] w (LtP (leTime sk nw cl ho un kn n) w lo g g1 k1 g2 k2 m) := by
  have HX : Hid (LxB w w lo g sk nw g1 k1 cl ho un g2 k2 kn m) := ⟨h, Below.refl _ _⟩
  have HG := Hid.intro hg
  have hm1 : 1 ≤ m := by have h1 := hg.2.2.2.1; rw [h.2.1.2] at h1; omega
  have hm12 : m ≤ 12 := by have h1 := hg.2.2.2.1; rw [h.2.1.2] at h1; omega
  have HM : Hid (cl.length = m ∧ kn.length = m) := ⟨h.2.1.2, h.2.2.1.2⟩
  have hm30 : m ≤ 1073741824 := by omega
  have hnw1 := hg.2.1.1
  have hnw2 := hg.2.1.2
  have hun1 := hg.2.2.1.1
  have hun2 := hg.2.2.1.2
  have s0 := h.1.cell 0 rfl
  have s1 := h.1.cell 1 rfl
  have s2 := h.1.cell 2 rfl
  have s3 := h.1.cell 3 rfl
  have s4 := h.1.cell 4 rfl
  have s5 := h.1.cell 5 rfl
  have sz := h.1.2
  clear h hg
  have hsub : 0 ≤ 1000000 - nw := by omega
  have HX1 := Hid.intro (HX.out.next (below_drew _))
  obtain ⟨w1, hw1⟩ : ∃ y, y = w.drew := ⟨_, rfl⟩
  rw [← hw1] at HX1
  cases c1 : inR n 1 (1000000 - nw)
  · have HN : Hid (leTime sk nw cl ho un kn n = none) := Hid.intro (leTime_no (fun q => by rw [inR_iff.2 q.1] at c1; cases c1))
    have HC : Hid (inR n 1 (1000000 - nw) = false) := c1
    clear c1
    go_enter Try.func67, Try.ntmps67
    go_upto_region 1 with fail
    refine wp_region_noPanic ?_
    refine wp_region_held_drew (S := fun W => Bx W g [.int .i64 sk, .int .i64 nw, .slice (some ⟨g1, 0, none⟩) m k1, .int .i64 ho, .int .i64 un, .slice (some ⟨g2, 0, none⟩) m k2]) (by kernel_rfl) (hw1 ▸ HX1.out.1.1) (fun hHeld => ?_)
    rw [← hw1] at hHeld ⊢
    clear hw1
    refine take_v (v := ?_) 0 ⟨some 5, Op.move (Operand.tmp 1), _, _, _, none⟩ rfl (fun _ _ _ h => h) ?_ hHeld ?_
    rotate_left
    · (intro W _; go_simp <;> (try with_reducible rfl))
    refine take_v (v := ?_) 1 ⟨some 6, Op.move (Operand.tmp 0), _, _, _, none⟩ rfl (fun _ _ _ h => h) ?_ hHeld ?_
    rotate_left
    · (intro W _; go_simp <;> (try with_reducible rfl))
    refine take_v (v := ?_) 2 ⟨some 7, Op.nilCheck (Operand.tmp 6), _, _, _, none⟩ rfl (fun _ _ _ h => h) ?_ hHeld ?_
    rotate_left
    · (intro W _; go_simp <;> (try with_reducible rfl))
    refine take_v (v := ?_) 3 ⟨some 8, Op.fieldAddr 28 (Operand.tmp 7) 1, _, _, _, none⟩ rfl (fun _ _ _ h => h) ?_ hHeld ?_
    rotate_left
    · (intro W _; go_simp <;> (try with_reducible rfl))
    refine take_v (v := ?_) 4 ⟨some 9, Op.load 3 (Operand.tmp 8), _, _, _, none⟩ rfl (fun _ _ _ h => h) ?_ hHeld ?_
    rotate_left
    · (intro W hSW; (have s0 := hSW.cell 0 rfl; have s1 := hSW.cell 1 rfl; have s2 := hSW.cell 2 rfl; have s3 := hSW.cell 3 rfl; have s4 := hSW.cell 4 rfl; have s5 := hSW.cell 5 rfl; have sz := hSW.2); go_simp <;> (try with_reducible rfl))
    refine take_v (v := ?_) 5 ⟨some 10, Op.binOp BinOp.sub 3 (Operand.const (Value.int IntKind.i64 1000000)) (Operand.tmp 9) 3, _, _, _, none⟩ rfl (fun _ _ _ h => h) ?_ hHeld ?_
    rotate_left
    · (intro W _; go_simp <;> (try with_reducible rfl))
    refine ready_call 6 ⟨some 11, Op.call { callee := Callee.value (Operand.func 45), args := #[Operand.tmp 5, Operand.const (Value.int IntKind.i64 1), Operand.tmp 10], argTypes := #[3, 3, 3] }, _, _, _, none⟩ (by kernel_rfl) rfl (by kernel_rfl) (fun KC hK => ?_)
    go_wp2_with fail
    refine (HC.out ▸ inRange_any _ _ _ _).mono ?_
    rintro e w' ⟨rfl, hw'⟩
    have hw' := hw'.symm
    subst hw'
    refine hK.out _ _ hHeld (fun hHeld => ?_)
    clear hK KC
    refine take_v (v := ?_) 7 ⟨some 12, Op.unOp UnOp.not 4 (Operand.tmp 11), _, _, _, none⟩ rfl (fun _ _ _ h => h) ?_ hHeld ?_
    rotate_left
    · (intro W _; go_simp <;> (try with_reducible rfl))
    refine take_v (v := ?_) 8 ⟨some 13, Op.move (Operand.tmp 12), _, _, _, none⟩ rfl (fun _ _ _ h => h) ?_ hHeld ?_
    rotate_left
    · (intro W _; go_simp <;> (try with_reducible rfl))
    refine take_n 9 ⟨some 14, Op.move (Operand.tmp 0), _, _, _, some (8, false)⟩ rfl (fun _ _ _ h => h) hHeld ?_
    refine take_n 10 ⟨some 15, Op.nilCheck (Operand.tmp 14), _, _, _, some (8, false)⟩ rfl (fun _ _ _ h => h) hHeld ?_
    refine take_n 11 ⟨some 16, Op.load 28 (Operand.tmp 15), _, _, _, some (8, false)⟩ rfl (fun _ _ _ h => h) hHeld ?_
    refine take_n 12 ⟨some 17, Op.move (Operand.tmp 0), _, _, _, some (8, false)⟩ rfl (fun _ _ _ h => h) hHeld ?_
    refine take_n 13 ⟨some 18, Op.nilCheck (Operand.tmp 17), _, _, _, some (8, false)⟩ rfl (fun _ _ _ h => h) hHeld ?_
    refine take_n 14 ⟨some 19, Op.fieldAddr 28 (Operand.tmp 18) 1, _, _, _, some (8, false)⟩ rfl (fun _ _ _ h => h) hHeld ?_
    refine take_n 15 ⟨some 20, Op.load 3 (Operand.tmp 19), _, _, _, some (8, false)⟩ rfl (fun _ _ _ h => h) hHeld ?_
    refine take_n 16 ⟨some 21, Op.move (Operand.tmp 1), _, _, _, some (8, false)⟩ rfl (fun _ _ _ h => h) hHeld ?_
    refine take_n 17 ⟨some 22, Op.binOp BinOp.add 3 (Operand.tmp 20) (Operand.tmp 21) 3, _, _, _, some (8, false)⟩ rfl (fun _ _ _ h => h) hHeld ?_
    refine take_n 18 ⟨some 23, Op.call { callee := Callee.value (Operand.func 48), args := #[Operand.tmp 16, Operand.tmp 22], argTypes := #[28, 3] }, _, _, _, some (8, false)⟩ rfl (fun _ _ _ h => h) hHeld ?_
    refine take_n 19 ⟨some 24, Op.unOp UnOp.not 4 (Operand.tmp 23), _, _, _, some (8, false)⟩ rfl (fun _ _ _ h => h) hHeld ?_
    refine take_v (v := ?_) 20 ⟨some 25, Op.pick (Operand.tmp 13) (Operand.const (Value.bool true)) (Operand.tmp 24), _, _, _, none⟩ rfl (fun _ _ _ h => h) ?_ hHeld ?_
    rotate_left
    · (intro W _; go_simp <;> (try with_reducible rfl))
    refine wpAnyH_done (by kernel_rfl) ?_ _
    refine NoPanic.normal ?_
    clear hHeld
    go_wp2
    go_ret
    exact LtP.no HN.out HX1.out.2
  have HC : Hid (inR n 1 (1000000 - nw) = true) := c1
  have hn12 := inR_iff.1 c1
  obtain ⟨hn1, hn2⟩ := hn12
  clear c1
  have HT : Hid (0 ≤ nw + n ∧ nw + n ≤ 2000000) := Hid.intro (by omega)
  obtain ⟨z, hz⟩ : ∃ z, tf (∀ i, i < m → nearB sk (nw + n) (atI cl i) = true) = z := ⟨_, rfl⟩
  have HZ := Hid.intro hz
  cases z
  · have HN : Hid (leTime sk nw cl ho un kn n = none) := Hid.intro (leTime_no (fun q => by have h1 := q.2; rw [HM.out.1] at h1; rw [tf_yes h1] at hz; cases hz))
    clear hz
    go_enter Try.func67, Try.ntmps67
    go_upto_region 1 with fail
    refine wp_region_noPanic ?_
    refine wp_region_held_drew (S := fun W => Bx W g [.int .i64 sk, .int .i64 nw, .slice (some ⟨g1, 0, none⟩) m k1, .int .i64 ho, .int .i64 un, .slice (some ⟨g2, 0, none⟩) m k2]) (by kernel_rfl) (hw1 ▸ HX1.out.1.1) (fun hHeld => ?_)
    rw [← hw1] at hHeld ⊢
    clear hw1
    refine take_v (v := ?_) 0 ⟨some 5, Op.move (Operand.tmp 1), _, _, _, none⟩ rfl (fun _ _ _ h => h) ?_ hHeld ?_
    rotate_left
    · (intro W _; go_simp <;> (try with_reducible rfl))
    refine take_v (v := ?_) 1 ⟨some 6, Op.move (Operand.tmp 0), _, _, _, none⟩ rfl (fun _ _ _ h => h) ?_ hHeld ?_
    rotate_left
    · (intro W _; go_simp <;> (try with_reducible rfl))
    refine take_v (v := ?_) 2 ⟨some 7, Op.nilCheck (Operand.tmp 6), _, _, _, none⟩ rfl (fun _ _ _ h => h) ?_ hHeld ?_
    rotate_left
    · (intro W _; go_simp <;> (try with_reducible rfl))
    refine take_v (v := ?_) 3 ⟨some 8, Op.fieldAddr 28 (Operand.tmp 7) 1, _, _, _, none⟩ rfl (fun _ _ _ h => h) ?_ hHeld ?_
    rotate_left
    · (intro W _; go_simp <;> (try with_reducible rfl))
    refine take_v (v := ?_) 4 ⟨some 9, Op.load 3 (Operand.tmp 8), _, _, _, none⟩ rfl (fun _ _ _ h => h) ?_ hHeld ?_
    rotate_left
    · (intro W hSW; (have s0 := hSW.cell 0 rfl; have s1 := hSW.cell 1 rfl; have s2 := hSW.cell 2 rfl; have s3 := hSW.cell 3 rfl; have s4 := hSW.cell 4 rfl; have s5 := hSW.cell 5 rfl; have sz := hSW.2); go_simp <;> (try with_reducible rfl))
    refine take_v (v := ?_) 5 ⟨some 10, Op.binOp BinOp.sub 3 (Operand.const (Value.int IntKind.i64 1000000)) (Operand.tmp 9) 3, _, _, _, none⟩ rfl (fun _ _ _ h => h) ?_ hHeld ?_
    rotate_left
    · (intro W _; go_simp <;> (try with_reducible rfl))
    refine ready_call 6 ⟨some 11, Op.call { callee := Callee.value (Operand.func 45), args := #[Operand.tmp 5, Operand.const (Value.int IntKind.i64 1), Operand.tmp 10], argTypes := #[3, 3, 3] }, _, _, _, none⟩ (by kernel_rfl) rfl (by kernel_rfl) (fun KC hK => ?_)
    go_wp2_with fail
    refine (HC.out ▸ inRange_any _ _ _ _).mono ?_
    rintro e w' ⟨rfl, hw'⟩
    have hw' := hw'.symm
    subst hw'
    refine hK.out _ _ hHeld (fun hHeld => ?_)
    clear hK KC
    refine take_v (v := ?_) 7 ⟨some 12, Op.unOp UnOp.not 4 (Operand.tmp 11), _, _, _, none⟩ rfl (fun _ _ _ h => h) ?_ hHeld ?_
    rotate_left
    · (intro W _; go_simp <;> (try with_reducible rfl))
    refine take_v (v := ?_) 8 ⟨some 13, Op.move (Operand.tmp 12), _, _, _, none⟩ rfl (fun _ _ _ h => h) ?_ hHeld ?_
    rotate_left
    · (intro W _; go_simp <;> (try with_reducible rfl))
    refine take_v (v := ?_) 9 ⟨some 14, Op.move (Operand.tmp 0), _, _, _, some (8, false)⟩ rfl (fun _ _ _ h => h) ?_ hHeld ?_
    rotate_left
    · (intro W _; go_simp <;> (try with_reducible rfl))
    refine take_v (v := ?_) 10 ⟨some 15, Op.nilCheck (Operand.tmp 14), _, _, _, some (8, false)⟩ rfl (fun _ _ _ h => h) ?_ hHeld ?_
    rotate_left
    · (intro W _; go_simp <;> (try with_reducible rfl))
    refine take_v (v := ?_) 11 ⟨some 16, Op.load 28 (Operand.tmp 15), _, _, _, some (8, false)⟩ rfl (fun _ _ _ h => h) ?_ hHeld ?_
    rotate_left
    · (intro W hSW; (have s0 := hSW.cell 0 rfl; have s1 := hSW.cell 1 rfl; have s2 := hSW.cell 2 rfl; have s3 := hSW.cell 3 rfl; have s4 := hSW.cell 4 rfl; have s5 := hSW.cell 5 rfl; have sz := hSW.2); go_simp <;> (try with_reducible rfl))
    refine take_v (v := ?_) 12 ⟨some 17, Op.move (Operand.tmp 0), _, _, _, some (8, false)⟩ rfl (fun _ _ _ h => h) ?_ hHeld ?_
    rotate_left
    · (intro W _; go_simp <;> (try with_reducible rfl))
    refine take_v (v := ?_) 13 ⟨some 18, Op.nilCheck (Operand.tmp 17), _, _, _, some (8, false)⟩ rfl (fun _ _ _ h => h) ?_ hHeld ?_
    rotate_left
    · (intro W _; go_simp <;> (try with_reducible rfl))
    refine take_v (v := ?_) 14 ⟨some 19, Op.fieldAddr 28 (Operand.tmp 18) 1, _, _, _, some (8, false)⟩ rfl (fun _ _ _ h => h) ?_ hHeld ?_
    rotate_left
    · (intro W _; go_simp <;> (try with_reducible rfl))
    refine take_v (v := ?_) 15 ⟨some 20, Op.load 3 (Operand.tmp 19), _, _, _, some (8, false)⟩ rfl (fun _ _ _ h => h) ?_ hHeld ?_
    rotate_left
    · (intro W hSW; (have s0 := hSW.cell 0 rfl; have s1 := hSW.cell 1 rfl; have s2 := hSW.cell 2 rfl; have s3 := hSW.cell 3 rfl; have s4 := hSW.cell 4 rfl; have s5 := hSW.cell 5 rfl; have sz := hSW.2); go_simp <;> (try with_reducible rfl))
    refine take_v (v := ?_) 16 ⟨some 21, Op.move (Operand.tmp 1), _, _, _, some (8, false)⟩ rfl (fun _ _ _ h => h) ?_ hHeld ?_
    rotate_left
    · (intro W _; go_simp <;> (try with_reducible rfl))
    refine take_v (v := ?_) 17 ⟨some 22, Op.binOp BinOp.add 3 (Operand.tmp 20) (Operand.tmp 21) 3, _, _, _, some (8, false)⟩ rfl (fun _ _ _ h => h) ?_ hHeld ?_
    rotate_left
    · (intro W _; go_simp <;> (try with_reducible rfl))
    refine ready_call 18 ⟨some 23, Op.call { callee := Callee.value (Operand.func 48), args := #[Operand.tmp 16, Operand.tmp 22], argTypes := #[28, 3] }, _, _, _, some (8, false)⟩ (by kernel_rfl) rfl (by kernel_rfl) (fun KC hK => ?_)
    go_wp2_with fail
    refine (HZ.out ▸ areNear_n sk nw (some ⟨g1, 0, none⟩) k1 ho un (some ⟨g2, 0, none⟩) m k2 cl kn _ (nw + n) hm12 HG.out.1 HT.out HX1.out.1.lel).mono ?_
    rintro r w2 ⟨rfl, hb⟩
    have HX2 := Hid.intro (HX1.out.next hb)
    clear hb
    refine hK.out _ _ HX2.out.1.1 (fun hHeld => ?_)
    clear hK KC
    refine take_v (v := ?_) 19 ⟨some 24, Op.unOp UnOp.not 4 (Operand.tmp 23), _, _, _, some (8, false)⟩ rfl (fun _ _ _ h => h) ?_ hHeld ?_
    rotate_left
    · (intro W _; go_simp <;> (try with_reducible rfl))
    refine take_v (v := ?_) 20 ⟨some 25, Op.pick (Operand.tmp 13) (Operand.const (Value.bool true)) (Operand.tmp 24), _, _, _, none⟩ rfl (fun _ _ _ h => h) ?_ hHeld ?_
    rotate_left
    · (intro W _; go_simp <;> (try with_reducible rfl))
    refine wpAnyH_done (by kernel_rfl) ?_ _
    refine NoPanic.normal ?_
    clear hHeld
    go_wp2
    go_ret
    exact LtP.no HN.out HX2.out.2
  · have HN : Hid (leTime sk nw cl ho un kn n = some (mkLe sk (nw + n) cl ho un kn)) := Hid.intro (leTime_yes ⟨⟨hn1, hn2⟩, by have h1 := tf_iff.1 hz; rw [HM.out.1]; exact h1⟩)
    clear hz
    go_enter Try.func67, Try.ntmps67
    go_upto_region 1 with fail
    refine wp_region_noPanic ?_
    refine wp_region_held_drew (S := fun W => Bx W g [.int .i64 sk, .int .i64 nw, .slice (some ⟨g1, 0, none⟩) m k1, .int .i64 ho, .int .i64 un, .slice (some ⟨g2, 0, none⟩) m k2]) (by kernel_rfl) (hw1 ▸ HX1.out.1.1) (fun hHeld => ?_)
    rw [← hw1] at hHeld ⊢
    clear hw1
    refine take_v (v := ?_) 0 ⟨some 5, Op.move (Operand.tmp 1), _, _, _, none⟩ rfl (fun _ _ _ h => h) ?_ hHeld ?_
    rotate_left
    · (intro W _; go_simp <;> (try with_reducible rfl))
    refine take_v (v := ?_) 1 ⟨some 6, Op.move (Operand.tmp 0), _, _, _, none⟩ rfl (fun _ _ _ h => h) ?_ hHeld ?_
    rotate_left
    · (intro W _; go_simp <;> (try with_reducible rfl))
    refine take_v (v := ?_) 2 ⟨some 7, Op.nilCheck (Operand.tmp 6), _, _, _, none⟩ rfl (fun _ _ _ h => h) ?_ hHeld ?_
    rotate_left
    · (intro W _; go_simp <;> (try with_reducible rfl))
    refine take_v (v := ?_) 3 ⟨some 8, Op.fieldAddr 28 (Operand.tmp 7) 1, _, _, _, none⟩ rfl (fun _ _ _ h => h) ?_ hHeld ?_
    rotate_left
    · (intro W _; go_simp <;> (try with_reducible rfl))
    refine take_v (v := ?_) 4 ⟨some 9, Op.load 3 (Operand.tmp 8), _, _, _, none⟩ rfl (fun _ _ _ h => h) ?_ hHeld ?_
    rotate_left
    · (intro W hSW; (have s0 := hSW.cell 0 rfl; have s1 := hSW.cell 1 rfl; have s2 := hSW.cell 2 rfl; have s3 := hSW.cell 3 rfl; have s4 := hSW.cell 4 rfl; have s5 := hSW.cell 5 rfl; have sz := hSW.2); go_simp <;> (try with_reducible rfl))
    refine take_v (v := ?_) 5 ⟨some 10, Op.binOp BinOp.sub 3 (Operand.const (Value.int IntKind.i64 1000000)) (Operand.tmp 9) 3, _, _, _, none⟩ rfl (fun _ _ _ h => h) ?_ hHeld ?_
    rotate_left
    · (intro W _; go_simp <;> (try with_reducible rfl))
    refine ready_call 6 ⟨some 11, Op.call { callee := Callee.value (Operand.func 45), args := #[Operand.tmp 5, Operand.const (Value.int IntKind.i64 1), Operand.tmp 10], argTypes := #[3, 3, 3] }, _, _, _, none⟩ (by kernel_rfl) rfl (by kernel_rfl) (fun KC hK => ?_)
    go_wp2_with fail
    refine (HC.out ▸ inRange_any _ _ _ _).mono ?_
    rintro e w' ⟨rfl, hw'⟩
    have hw' := hw'.symm
    subst hw'
    refine hK.out _ _ hHeld (fun hHeld => ?_)
    clear hK KC
    refine take_v (v := ?_) 7 ⟨some 12, Op.unOp UnOp.not 4 (Operand.tmp 11), _, _, _, none⟩ rfl (fun _ _ _ h => h) ?_ hHeld ?_
    rotate_left
    · (intro W _; go_simp <;> (try with_reducible rfl))
    refine take_v (v := ?_) 8 ⟨some 13, Op.move (Operand.tmp 12), _, _, _, none⟩ rfl (fun _ _ _ h => h) ?_ hHeld ?_
    rotate_left
    · (intro W _; go_simp <;> (try with_reducible rfl))
    refine take_v (v := ?_) 9 ⟨some 14, Op.move (Operand.tmp 0), _, _, _, some (8, false)⟩ rfl (fun _ _ _ h => h) ?_ hHeld ?_
    rotate_left
    · (intro W _; go_simp <;> (try with_reducible rfl))
    refine take_v (v := ?_) 10 ⟨some 15, Op.nilCheck (Operand.tmp 14), _, _, _, some (8, false)⟩ rfl (fun _ _ _ h => h) ?_ hHeld ?_
    rotate_left
    · (intro W _; go_simp <;> (try with_reducible rfl))
    refine take_v (v := ?_) 11 ⟨some 16, Op.load 28 (Operand.tmp 15), _, _, _, some (8, false)⟩ rfl (fun _ _ _ h => h) ?_ hHeld ?_
    rotate_left
    · (intro W hSW; (have s0 := hSW.cell 0 rfl; have s1 := hSW.cell 1 rfl; have s2 := hSW.cell 2 rfl; have s3 := hSW.cell 3 rfl; have s4 := hSW.cell 4 rfl; have s5 := hSW.cell 5 rfl; have sz := hSW.2); go_simp <;> (try with_reducible rfl))
    refine take_v (v := ?_) 12 ⟨some 17, Op.move (Operand.tmp 0), _, _, _, some (8, false)⟩ rfl (fun _ _ _ h => h) ?_ hHeld ?_
    rotate_left
    · (intro W _; go_simp <;> (try with_reducible rfl))
    refine take_v (v := ?_) 13 ⟨some 18, Op.nilCheck (Operand.tmp 17), _, _, _, some (8, false)⟩ rfl (fun _ _ _ h => h) ?_ hHeld ?_
    rotate_left
    · (intro W _; go_simp <;> (try with_reducible rfl))
    refine take_v (v := ?_) 14 ⟨some 19, Op.fieldAddr 28 (Operand.tmp 18) 1, _, _, _, some (8, false)⟩ rfl (fun _ _ _ h => h) ?_ hHeld ?_
    rotate_left
    · (intro W _; go_simp <;> (try with_reducible rfl))
    refine take_v (v := ?_) 15 ⟨some 20, Op.load 3 (Operand.tmp 19), _, _, _, some (8, false)⟩ rfl (fun _ _ _ h => h) ?_ hHeld ?_
    rotate_left
    · (intro W hSW; (have s0 := hSW.cell 0 rfl; have s1 := hSW.cell 1 rfl; have s2 := hSW.cell 2 rfl; have s3 := hSW.cell 3 rfl; have s4 := hSW.cell 4 rfl; have s5 := hSW.cell 5 rfl; have sz := hSW.2); go_simp <;> (try with_reducible rfl))
    refine take_v (v := ?_) 16 ⟨some 21, Op.move (Operand.tmp 1), _, _, _, some (8, false)⟩ rfl (fun _ _ _ h => h) ?_ hHeld ?_
    rotate_left
    · (intro W _; go_simp <;> (try with_reducible rfl))
    refine take_v (v := ?_) 17 ⟨some 22, Op.binOp BinOp.add 3 (Operand.tmp 20) (Operand.tmp 21) 3, _, _, _, some (8, false)⟩ rfl (fun _ _ _ h => h) ?_ hHeld ?_
    rotate_left
    · (intro W _; go_simp <;> (try with_reducible rfl))
    refine ready_call 18 ⟨some 23, Op.call { callee := Callee.value (Operand.func 48), args := #[Operand.tmp 16, Operand.tmp 22], argTypes := #[28, 3] }, _, _, _, some (8, false)⟩ (by kernel_rfl) rfl (by kernel_rfl) (fun KC hK => ?_)
    go_wp2_with fail
    refine (HZ.out ▸ areNear_n sk nw (some ⟨g1, 0, none⟩) k1 ho un (some ⟨g2, 0, none⟩) m k2 cl kn _ (nw + n) hm12 HG.out.1 HT.out HX1.out.1.lel).mono ?_
    rintro r w2 ⟨rfl, hb⟩
    have HX2 := Hid.intro (HX1.out.next hb)
    clear hb
    refine hK.out _ _ HX2.out.1.1 (fun hHeld => ?_)
    clear hK KC
    refine take_v (v := ?_) 19 ⟨some 24, Op.unOp UnOp.not 4 (Operand.tmp 23), _, _, _, some (8, false)⟩ rfl (fun _ _ _ h => h) ?_ hHeld ?_
    rotate_left
    · (intro W _; go_simp <;> (try with_reducible rfl))
    refine take_v (v := ?_) 20 ⟨some 25, Op.pick (Operand.tmp 13) (Operand.const (Value.bool true)) (Operand.tmp 24), _, _, _, none⟩ rfl (fun _ _ _ h => h) ?_ hHeld ?_
    rotate_left
    · (intro W _; go_simp <;> (try with_reducible rfl))
    refine wpAnyH_done (by kernel_rfl) ?_ _
    refine NoPanic.normal ?_
    clear hHeld s0 s1 s2 s3 s4 s5 sz
    have s0 := HX2.out.1.1.cell 0 rfl
    have s1 := HX2.out.1.1.cell 1 rfl
    have s2 := HX2.out.1.1.cell 2 rfl
    have s3 := HX2.out.1.1.cell 3 rfl
    have s4 := HX2.out.1.1.cell 4 rfl
    have s5 := HX2.out.1.1.cell 5 rfl
    have sz := HX2.out.1.1.2
    have sf1 := HX2.out.1.1.frz 1 (by simp)
    go_wp2
    go_ret
    exact LtP.yes HN.out ((TurnS.of_below HX2.out.2).set (p := ⟨g, 1, none⟩) (Or.inl rfl) _) (HX2.out.1.setN _)
end Go.Proofs.Ytidalpgkljafdaa
