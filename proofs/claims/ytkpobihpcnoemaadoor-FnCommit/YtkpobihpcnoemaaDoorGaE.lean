/- Put together of: NtS, CmG. -/
import Derived.Test.YtkpobihpcnoemaaDoorSh
import Derived.Test.YtkpobihpcnoemaaDoorGaD
import Derived.Test.YtkpobihpcnoemaaDoorGaB
/- Shapes of this chapter's types. Written by tools/nest.py. -/
namespace Go.Proofs.YtkpobihpcnoemaaDoor
open Go.RowKit
set_option linter.unusedVariables false
set_option linter.unusedSimpArgs false

def shReplica : Sh := .pair .bool (.pair .int .nil)
theorem lies_Replica {w : World} {cs : List Value} {x0 : Bool} {x1 : Int} (h : Lies w shReplica cs (x0, x1, ())) : cs = [.bool x0, .int .i64 x1] := by
  obtain ⟨_, _, rfl, rfl, ⟨_, _, rfl, rfl, rfl⟩⟩ := h
  exact rfl
theorem mk_Replica {w : World} {x0 : Bool} {x1 : Int} : Lies w shReplica [.bool x0, .int .i64 x1] (x0, x1, ()) := ⟨_, _, rfl, rfl, ⟨_, _, rfl, rfl, rfl⟩⟩
theorem own_Replica {w : World} {cs : List Value} {x0 : Bool} {x1 : Int} {S : Nat → Prop} (h : Own w shReplica cs (x0, x1, ()) S) : cs = [.bool x0, .int .i64 x1] := by
  obtain ⟨_, _, s1, t1, rfl, rfl, ⟨_, _, s2, t2, rfl, rfl, rfl, d2, u2⟩, d1, u1⟩ := h
  exact rfl
theorem mkown_Replica {w : World} {x0 : Bool} {x1 : Int} {S : Nat → Prop} : Own w shReplica [.bool x0, .int .i64 x1] (x0, x1, ()) S := ⟨_, _, fun k => False, fun k => False ∨ False, rfl, rfl, ⟨_, _, fun k => False, fun k => False, rfl, rfl, rfl, fun k g _ => g.elim, fun _ h => h⟩, fun k g _ => g.elim, (by intro k h; (repeat' (rcases h with h | h)) <;> (first | exact h.elim))⟩
def shShard : Sh := .pair (.list shReplica) .nil
theorem lies_Shard {w : World} {cs : List Value} {x0 : List (Sh.T shReplica)} (h : Lies w shShard cs (x0, ())) : ∃ (a1 : Option Addr) (k1 : Nat), cs = [.slice a1 x0.length k1] ∧ Lies w (.list shReplica) [.slice a1 x0.length k1] x0 := by
  obtain ⟨_, _, rfl, h1, rfl⟩ := h
  obtain ⟨a1, k1, rfl, q1⟩ := h1
  exact ⟨a1, k1, rfl, ⟨a1, k1, rfl, q1⟩⟩
theorem mk_Shard {w : World} {a1 : Option Addr} {n1 k1 : Nat} {x0 : List (Sh.T shReplica)} (h1 : Lies w (.list shReplica) [.slice a1 n1 k1] x0) : Lies w shShard [.slice a1 n1 k1] (x0, ()) := ⟨_, _, rfl, h1, rfl⟩
theorem own_Shard {w : World} {cs : List Value} {x0 : List (Sh.T shReplica)} {S : Nat → Prop} (h : Own w shShard cs (x0, ()) S) : ∃ (a1 : Option Addr) (k1 : Nat) (S1 : Nat → Prop), cs = [.slice a1 x0.length k1] ∧ Own w (.list shReplica) [.slice a1 x0.length k1] x0 S1 ∧ (∀ k, S1 k → S k) := by
  obtain ⟨_, _, s1, t1, rfl, H1, rfl, d1, u1⟩ := h
  obtain ⟨a1, k1, rfl⟩ := own_form H1
  exact ⟨a1, k1, s1, rfl, H1, fun k e => (u1 _ (Or.inl e))⟩
theorem mkown_Shard {w : World} {a1 : Option Addr} {n1 k1 : Nat} {S1 : Nat → Prop} {x0 : List (Sh.T shReplica)} {S : Nat → Prop} (h1 : Own w (.list shReplica) [.slice a1 n1 k1] x0 S1) (e1 : ∀ k, S1 k → S k) : Own w shShard [.slice a1 n1 k1] (x0, ()) S := ⟨_, _, S1, fun k => False, rfl, h1, rfl, (by intro k g h; (repeat' (rcases h with h | h)) <;> (first | exact h.elim)), (by intro k h; (repeat' (rcases h with h | h)) <;> (first | exact h.elim | exact e1 k h))⟩
def shCommit : Sh := .pair (.list shShard) (.pair .int (.pair .int .nil))
theorem lies_Commit {w : World} {cs : List Value} {x0 : List (Sh.T shShard)} {x1 : Int} {x2 : Int} (h : Lies w shCommit cs (x0, x1, x2, ())) : ∃ (a1 : Option Addr) (k1 : Nat), cs = [.slice a1 x0.length k1, .int .i64 x1, .int .i64 x2] ∧ Lies w (.list shShard) [.slice a1 x0.length k1] x0 := by
  obtain ⟨_, _, rfl, h1, ⟨_, _, rfl, rfl, ⟨_, _, rfl, rfl, rfl⟩⟩⟩ := h
  obtain ⟨a1, k1, rfl, q1⟩ := h1
  exact ⟨a1, k1, rfl, ⟨a1, k1, rfl, q1⟩⟩
theorem mk_Commit {w : World} {a1 : Option Addr} {n1 k1 : Nat} {x0 : List (Sh.T shShard)} {x1 : Int} {x2 : Int} (h1 : Lies w (.list shShard) [.slice a1 n1 k1] x0) : Lies w shCommit [.slice a1 n1 k1, .int .i64 x1, .int .i64 x2] (x0, x1, x2, ()) := ⟨_, _, rfl, h1, ⟨_, _, rfl, rfl, ⟨_, _, rfl, rfl, rfl⟩⟩⟩
theorem own_Commit {w : World} {cs : List Value} {x0 : List (Sh.T shShard)} {x1 : Int} {x2 : Int} {S : Nat → Prop} (h : Own w shCommit cs (x0, x1, x2, ()) S) : ∃ (a1 : Option Addr) (k1 : Nat) (S1 : Nat → Prop), cs = [.slice a1 x0.length k1, .int .i64 x1, .int .i64 x2] ∧ Own w (.list shShard) [.slice a1 x0.length k1] x0 S1 ∧ (∀ k, S1 k → S k) := by
  obtain ⟨_, _, s1, t1, rfl, H1, ⟨_, _, s2, t2, rfl, rfl, ⟨_, _, s3, t3, rfl, rfl, rfl, d3, u3⟩, d2, u2⟩, d1, u1⟩ := h
  obtain ⟨a1, k1, rfl⟩ := own_form H1
  exact ⟨a1, k1, s1, rfl, H1, fun k e => (u1 _ (Or.inl e))⟩
theorem mkown_Commit {w : World} {a1 : Option Addr} {n1 k1 : Nat} {S1 : Nat → Prop} {x0 : List (Sh.T shShard)} {x1 : Int} {x2 : Int} {S : Nat → Prop} (h1 : Own w (.list shShard) [.slice a1 n1 k1] x0 S1) (e1 : ∀ k, S1 k → S k) : Own w shCommit [.slice a1 n1 k1, .int .i64 x1, .int .i64 x2] (x0, x1, x2, ()) S := ⟨_, _, S1, fun k => False ∨ False ∨ False, rfl, h1, ⟨_, _, fun k => False, fun k => False ∨ False, rfl, rfl, ⟨_, _, fun k => False, fun k => False, rfl, rfl, rfl, fun k g _ => g.elim, fun _ h => h⟩, fun k g _ => g.elim, fun _ h => h⟩, (by intro k g h; (repeat' (rcases h with h | h)) <;> (first | exact h.elim)), (by intro k h; (repeat' (rcases h with h | h)) <;> (first | exact h.elim | exact e1 k h))⟩
def shCommitStep : Sh := .pair .int (.pair .int (.pair .int .nil))
theorem lies_CommitStep {w : World} {cs : List Value} {x0 : Int} {x1 : Int} {x2 : Int} (h : Lies w shCommitStep cs (x0, x1, x2, ())) : cs = [.int .i64 x0, .int .i64 x1, .int .i64 x2] := by
  obtain ⟨_, _, rfl, rfl, ⟨_, _, rfl, rfl, ⟨_, _, rfl, rfl, rfl⟩⟩⟩ := h
  exact rfl
theorem mk_CommitStep {w : World} {x0 : Int} {x1 : Int} {x2 : Int} : Lies w shCommitStep [.int .i64 x0, .int .i64 x1, .int .i64 x2] (x0, x1, x2, ()) := ⟨_, _, rfl, rfl, ⟨_, _, rfl, rfl, ⟨_, _, rfl, rfl, rfl⟩⟩⟩
theorem own_CommitStep {w : World} {cs : List Value} {x0 : Int} {x1 : Int} {x2 : Int} {S : Nat → Prop} (h : Own w shCommitStep cs (x0, x1, x2, ()) S) : cs = [.int .i64 x0, .int .i64 x1, .int .i64 x2] := by
  obtain ⟨_, _, s1, t1, rfl, rfl, ⟨_, _, s2, t2, rfl, rfl, ⟨_, _, s3, t3, rfl, rfl, rfl, d3, u3⟩, d2, u2⟩, d1, u1⟩ := h
  exact rfl
theorem mkown_CommitStep {w : World} {x0 : Int} {x1 : Int} {x2 : Int} {S : Nat → Prop} : Own w shCommitStep [.int .i64 x0, .int .i64 x1, .int .i64 x2] (x0, x1, x2, ()) S := ⟨_, _, fun k => False, fun k => False ∨ False ∨ False, rfl, rfl, ⟨_, _, fun k => False, fun k => False ∨ False, rfl, rfl, ⟨_, _, fun k => False, fun k => False, rfl, rfl, rfl, fun k g _ => g.elim, fun _ h => h⟩, fun k g _ => g.elim, fun _ h => h⟩, fun k g _ => g.elim, (by intro k h; (repeat' (rcases h with h | h)) <;> (first | exact h.elim))⟩
end Go.Proofs.YtkpobihpcnoemaaDoor
/- Commits: what is good, what a step does, said plainly. No Go text is spoken of here. -/
namespace Go.Proofs.YtkpobihpcnoemaaDoor
open Go.RowKit
set_option linter.unusedVariables false

abbrev Rpl := Sh.T shReplica
abbrev Shd := Sh.T shShard
def rdn (r : Rpl) : Bool := r.1
def rhs (r : Rpl) : Int := r.2.1
def srs (s : Shd) : List Rpl := s.1
def mkR (d : Bool) (h : Int) : Rpl := (d, h, ())
def mkS (l : List Rpl) : Shd := (l, ())
@[simp] theorem rdn_mk (d : Bool) (h : Int) : rdn (mkR d h) = d := rfl
@[simp] theorem rhs_mk (d : Bool) (h : Int) : rhs (mkR d h) = h := rfl
@[simp] theorem srs_mk (l : List Rpl) : srs (mkS l) = l := rfl
def unkB (r : Rpl) : Bool := !inR (rhs r) 0 4
def upB (r : Rpl) : Bool := !rdn r
def lckB (r : Rpl) : Bool := !rdn r && !decide (rhs r = 2)
def kpB (r : Rpl) : Bool := !rdn r && (decide (rhs r = 2) || decide (rhs r = 3))
/-- The first of these, -1 for none. -/
def idxN (p : Rpl → Bool) (l : List Rpl) : Int := if l.any p then (l.findIdx p : Int) else -1
def shB (s : Shd) : Bool := inR (srs s).length 1 5 && !(srs s).any unkB
def livB (s : Shd) : Bool := (srs s).any upB
def prm (s : Shd) : Int := idxN upB (srs s)
def lkdB (s : Shd) : Bool := match (srs s).find? upB with
  | some r => decide (rhs r = 1) || decide (rhs r = 2)
  | none => false
def cpB (s : Shd) : Bool := livB s && !(srs s).any lckB
def ktB (s : Shd) : Bool := (srs s).any kpB
def goodC (l : List Shd) (dr rc : Int) : Bool := inR dr 0 2 && inR rc 0 2 && inR l.length 1 4 && l.all shB
def decN (dr rc : Int) : Int := if dr = 0 then rc else dr
def agrB (d : Int) (r : Rpl) : Bool := rdn r || (if rhs r = 3 then decide (d = 1) else if rhs r = 4 then decide (d = 2) else true)
def agsB (d : Int) (s : Shd) : Bool := (srs s).all (agrB d)
def agrA (l : List Shd) (dr rc : Int) : Bool := (decide (rc = 0) || decide (rc = decN dr rc)) && l.all (agsB (decN dr rc))
/-- What a replica becomes. -/
def nxR (l : List Shd) (dr rc : Int) (s : Shd) (j : Nat) (r : Rpl) (k : Int) : Option Rpl :=
  if k = 1 then (if decN dr rc = 0 ∧ prm s = j ∧ rhs r = 0 then some (mkR false 1) else none)
  else if k = 2 then (if decN dr rc = 0 ∧ l.all lkdB = true ∧ (rhs r = 0 ∨ rhs r = 1) then some (mkR false 2) else none)
  else if k = 5 then (if ((srs s).set j (mkR true 0)).any upB = true then some (mkR true 0) else none)
  else if k = 7 then (if decN dr rc ≠ 0 ∧ rhs r ≠ 3 ∧ rhs r ≠ 4 then some (mkR false (if decN dr rc = 1 then 3 else 4)) else none)
  else none
abbrev Cmt := List Shd × Int × Int
def atR (l : List Shd) (i j : Nat) (r : Rpl) : List Shd := match l[i]? with
  | some s => l.set i (mkS ((srs s).set j r))
  | none => l
/-- A step of a replica. -/
def stR (l : List Shd) (dr rc k i j : Int) : Option Cmt :=
  if 0 ≤ i ∧ 0 ≤ j then
    match l[i.toNat]? with
    | some s => match (srs s)[j.toNat]? with
      | some r => if rdn r = true then none else (nxR l dr rc s j.toNat r k).map fun r' => (l.set i.toNat (mkS ((srs s).set j.toNat r')), dr, rc)
      | none => none
    | none => none
  else none
def recN (l : List Shd) (dr : Int) : Int := if dr = 0 then (if l.all ktB then 1 else 2) else dr
/-- A step on a commit. -/
def stC (l : List Shd) (dr rc k i j : Int) : Option Cmt :=
  if k = 3 then (if decN dr rc = 0 ∧ l.all cpB = true then some (l, 1, rc) else none)
  else if k = 4 then (if decN dr rc = 0 then some (l, 2, rc) else none)
  else if k = 6 then (if rc = 0 then some (l, dr, recN l dr) else none)
  else stR l dr rc k i j
theorem decN_zero {dr rc : Int} : decN dr rc = 0 ↔ dr = 0 ∧ rc = 0 := by
  unfold decN
  by_cases h : dr = 0
  · rw [if_pos h]; exact ⟨fun q => ⟨h, q⟩, fun q => q.2⟩
  · rw [if_neg h]; exact ⟨fun q => absurd q h, fun q => absurd q.1 h⟩
theorem decN_0 {dr rc : Int} (h : dr = 0) : decN dr rc = rc := by unfold decN; rw [if_pos h]
theorem decN_n {dr rc : Int} (h : ¬ dr = 0) : decN dr rc = dr := by unfold decN; rw [if_neg h]
theorem idxN_none {p : Rpl → Bool} {l : List Rpl} (h : l.any p = false) : idxN p l = -1 := by unfold idxN; rw [h]; rfl
theorem idxN_at {p : Rpl → Bool} {l : List Rpl} {k : Nat} (hk : k < l.length) (h0 : ∀ o ∈ l.take k, p o = false) (h1 : p l[k] = true) : idxN p l = k ∧ l.any p = true ∧ l.find? p = some l[k] := by
  have ha : l.any p = true := List.any_eq_true.2 ⟨l[k], List.getElem_mem hk, h1⟩
  have hf : l.findIdx p = k := by
    rw [List.findIdx_eq hk]
    refine ⟨h1, fun j hj => ?_⟩
    refine h0 _ ?_
    rw [List.mem_iff_getElem]
    exact ⟨j, by rw [List.length_take]; omega, by rw [List.getElem_take]⟩
  refine ⟨by unfold idxN; rw [ha, hf]; rfl, ha, ?_⟩
  have := List.find?_eq_some_iff_append (p := p) (xs := l) (b := l[k])
  rw [this]
  refine ⟨h1, l.take k, l.drop (k + 1), ?_, fun a ha2 => ?_⟩
  · rw [← List.drop_eq_getElem_cons hk, List.take_append_drop]
  · rw [h0 a ha2]; rfl
theorem idxN_pos {p : Rpl → Bool} {l : List Rpl} : 0 ≤ idxN p l ↔ l.any p = true := by
  unfold idxN
  cases h : l.any p
  · simp
  · simp
theorem any_none {α : Type} {p : α → Bool} {l : List α} (h : ∀ o ∈ l, p o = false) : l.any p = false := by
  rw [List.any_eq_false]; intro o ho; rw [h o ho]; decide
theorem find_none {p : Rpl → Bool} {l : List Rpl} (h : l.any p = false) : l.find? p = none := by
  rw [List.find?_eq_none]; exact fun o ho => List.any_eq_false.1 h o ho
theorem all_yes {α : Type} {p : α → Bool} {l : List α} (h : ∀ o ∈ l, p o = true) : l.all p = true := List.all_eq_true.2 h
theorem all_no {α : Type} {p : α → Bool} {l : List α} {k : Nat} (hk : k < l.length) (h : p l[k] = false) : l.all p = false := by
  rw [List.all_eq_false]; exact ⟨l[k], List.getElem_mem hk, by rw [h]; decide⟩
theorem any_at {α : Type} {p : α → Bool} {l : List α} {k : Nat} (hk : k < l.length) (h : p l[k] = true) : l.any p = true := List.any_eq_true.2 ⟨l[k], List.getElem_mem hk, h⟩
/-- What goes with sizes. -/
theorem shd_size (s : Shd) : szD shShard s = (srs s).length := by
  show (s.1.length + (s.1.map (szD shReplica)).sum) + 0 = s.1.length
  rw [show s.1.map (szD shReplica) = s.1.map (fun _ => 0) from List.map_congr_left (fun _ _ => rfl)]
  have : ∀ n : List Rpl, (n.map (fun _ => 0)).sum = 0 := fun n => by induction n with
    | nil => rfl
    | cons a b h => simp [h]
  rw [this]; rfl
theorem cm_size (l : List Shd) (dr rc : Int) : szD shCommit (l, dr, rc, ()) = l.length + (l.map fun s => (srs s).length).sum := by
  show (l.length + (l.map (szD shShard)).sum) + 0 = _
  rw [show l.map (szD shShard) = l.map (fun s => (srs s).length) from List.map_congr_left (fun s _ => shd_size s)]
  rfl
theorem mem_sum_le {l : List Shd} {s : Shd} (h : s ∈ l) : (srs s).length ≤ (l.map fun s => (srs s).length).sum := by
  induction l with
  | nil => cases h
  | cons a b ih =>
    simp only [List.map_cons, List.sum_cons]
    rcases List.mem_cons.1 h with q | q
    · rw [q]; omega
    · have := ih q; omega
theorem cm_sizes {l : List Shd} {dr rc : Int} (h : szD shCommit (l, dr, rc, ()) ≤ 1073741824) : l.length ≤ 1073741824 ∧ ∀ s ∈ l, (srs s).length ≤ 1073741824 := by
  rw [cm_size] at h
  exact ⟨by omega, fun s hs => by have := mem_sum_le hs; omega⟩
end Go.Proofs.YtkpobihpcnoemaaDoor
