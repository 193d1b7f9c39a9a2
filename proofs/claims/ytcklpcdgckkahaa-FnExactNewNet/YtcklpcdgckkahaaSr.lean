/- A straight region walked over a frame that is not written out: only the slots that are read later are kept. No Go text is spoken of here. -/
import Derived.Test.YtcklpcdgckkahaaProg
import Derived.WalkKit
import Derived.WalkSpells
import Derived.WalkLawsBesides
import Derived.Deep.RegionHeld3
namespace Go.Proofs.Ytcklpcdgckkahaa
open Go.RowKit
set_option linter.unusedVariables false

def putR (a : Act) (s : Nat) : List Value → Act
  | [] => a
  | v :: vs => putR (a.put (some s) v) (s + 1) vs
theorem putR_snoc : ∀ (us : List Value) (a : Act) (s : Nat) (v : Value), putR a s (us ++ [v]) = (putR a s us).put (some (s + us.length)) v
  | [], a, s, v => rfl
  | u :: us, a, s, v => by
    rw [List.cons_append, putR, putR_snoc us, putR, List.length_cons, Nat.add_assoc, Nat.add_comm 1]
theorem size_put (a : Act) (d : Nat) (v : Value) : (a.put (some d) v).tmps.size = a.tmps.size := by simp [Act.put]
theorem eval_put_same {a : Act} {d : Nat} {v : Value} (h : d < a.tmps.size) : (a.put (some d) v).eval (.tmp d) = v := by
  simp [Act.put, Act.eval, Array.getD, h]
theorem eval_put_other {a : Act} {d k : Nat} {v : Value} (h : k ≠ d) : (a.put (some d) v).eval (.tmp k) = a.eval (.tmp k) := by
  simp only [Act.put, Act.eval, Array.getD_eq_getD_getElem?]
  rw [Array.getElem?_setIfInBounds_ne (fun e => h e.symm)]
/-- B is A with the n slots from s on written. -/
def Ext (A B : Act) (s n : Nat) : Prop := (∃ us : List Value, us.length = n ∧ B = putR A s us) ∧ B.tmps.size = A.tmps.size
theorem Ext.refl (A : Act) (s : Nat) : Ext A A s 0 := ⟨⟨[], rfl, rfl⟩, rfl⟩
theorem Ext.put {A B : Act} {s n : Nat} (h : Ext A B s n) (v : Value) : Ext A (B.put (some (s + n)) v) s (n + 1) := by
  obtain ⟨⟨us, hl, he⟩, hz⟩ := h
  refine ⟨⟨us ++ [v], by simp [hl], ?_⟩, by rw [size_put]; exact hz⟩
  rw [putR_snoc, ← he, hl]
theorem getElem?_of_eval {B : Act} {d : Nat} {b : Bool} (h : B.eval (.tmp d) = .bool b) : B.tmps[d]? = some (.bool b) := by
  simp only [Act.eval, Array.getD_eq_getD_getElem?] at h
  cases e : B.tmps[d]? with
  | none => rw [e] at h; simp [undef] at h
  | some v => rw [e] at h; simpa using h
/-- How B's operands are read: a function that the walk need not look into. -/
def Ev (B : Act) (E : Operand → Value) : Prop := B.eval = E
theorem Ev.at {B : Act} {E : Operand → Value} (h : Ev B E) (x : Operand) : B.eval x = E x := congrFun h x
theorem wanted_g {o : Oper} {ops : Array Oper} {B : Act} {E : Operand → Value} {b : Bool} (hV : Ev B E) (j d : Nat) (want : Bool) (he : E (.tmp d) = .bool b) (hg : o.guard = some (j, want) := by rfl) (hd : (ops[j]?).bind (·.dst) = some d := by rfl) : Region.wanted o (yielded ops B.tmps) = (b == want) := by
  unfold Region.wanted yielded
  rw [hg]
  simp only [hd, Option.bind_some, getElem?_of_eval ((hV.at _).trans he)]
  cases b <;> cases want <;> rfl
theorem wanted_u {o : Oper} {ops : Array Oper} {B : Act} {E : Operand → Value} (hV : Ev B E) (j d : Nat) (want : Bool) (he : E (.tmp d) = undef) (hg : o.guard = some (j, want) := by rfl) (hd : (ops[j]?).bind (·.dst) = some d := by rfl) : Region.wanted o (yielded ops B.tmps) = false := by
  unfold Region.wanted yielded
  rw [hg]
  simp only [hd, Option.bind_some]
  have he := (hV.at _).trans he
  simp only [Act.eval, Array.getD_eq_getD_getElem?] at he
  cases e : B.tmps[d]? with
  | none => rfl
  | some v =>
    rw [e] at he
    have : v = undef := by simpa using he
    subst this
    rfl
theorem wanted_p {o : Oper} {ops : Array Oper} {B : Act} (hg : o.guard = none := by rfl) : Region.wanted o (yielded ops B.tmps) = true := by unfold Region.wanted; rw [hg]
theorem sr_open {P : Program} {ops : Array Oper} {Q : Exit → Act → World → Prop} {l : List Oper} {a : Act} {w : World} (h : ∀ A E, A = a → Ev A E → (∀ c, E (.const c) = c) → (∀ f, E (.func f) = .func (.func f) #[] #[]) → wpList P ops Q l A w) : wpList P ops Q l a w := h a _ rfl rfl (fun _ => rfl) (fun _ => rfl)
/-- An operation that yields a value. -/
theorem sr_v {P : Program} {ops : Array Oper} {Q : Exit → Act → World → Prop} {rest : List Oper} {o : Oper} {A B : Act} {E : Operand → Value} {w : World} {v : Value} {s n : Nat} (d : Nat) (hE : Ext A B s n) (hV : Ev B E) (hw : Region.wanted o (yielded ops B.tmps) = true) (hx : (execOp E o).run P w = .ok (.value v) w) (hz : s + n < A.tmps.size) (hn : d = s + n)
    (h : ∀ B' E', Ext A B' s (n + 1) → Ev B' E' → E' (.tmp d) = v → (∀ k, k ≠ d → E' (.tmp k) = E (.tmp k)) → (∀ c, E' (.const c) = c) → (∀ f, E' (.func f) = .func (.func f) #[] #[]) → wpList P ops Q rest B' w) (hd : o.dst = some d := by rfl) : wpList P ops Q (o :: rest) B w := by
  subst hn
  have hV' : B.eval = E := hV
  subst hV'
  refine wpList_step fun K hK => ?_
  rw [if_pos hw]
  unfold Oper.wp
  rw [hx, Oper.upon_value]
  refine hK _ _ ?_
  rw [hd]
  exact h _ _ (hE.put v) rfl (eval_put_same (by rw [hE.2]; exact hz)) (fun k hk => eval_put_other hk) (fun _ => rfl) (fun _ => rfl)
/-- An operation that is passed by. -/
theorem sr_n {P : Program} {ops : Array Oper} {Q : Exit → Act → World → Prop} {rest : List Oper} {o : Oper} {A B : Act} {E : Operand → Value} {w : World} {s n : Nat} (d : Nat) (hE : Ext A B s n) (hV : Ev B E) (hw : Region.wanted o (yielded ops B.tmps) = false) (hz : s + n < A.tmps.size) (hn : d = s + n)
    (h : ∀ B' E', Ext A B' s (n + 1) → Ev B' E' → E' (.tmp d) = undef → (∀ k, k ≠ d → E' (.tmp k) = E (.tmp k)) → (∀ c, E' (.const c) = c) → (∀ f, E' (.func f) = .func (.func f) #[] #[]) → wpList P ops Q rest B' w) (hd : o.dst = some d := by rfl) : wpList P ops Q (o :: rest) B w := by
  subst hn
  have hV' : B.eval = E := hV
  subst hV'
  refine wpList_skip hw ?_
  rw [hd]
  exact h _ _ (hE.put undef) rfl (eval_put_same (by rw [hE.2]; exact hz)) (fun k hk => eval_put_other hk) (fun _ => rfl) (fun _ => rfl)
/-- A call of a function. -/
theorem sr_c {P : Program} {ops : Array Oper} {Q : Exit → Act → World → Prop} {rest : List Oper} {o : Oper} {A B : Act} {E : Operand → Value} {w : World} {s n : Nat} {f : FuncId} {args : Array Value} {C : Ending → World → Prop} (d : Nat) (hE : Ext A B s n) (hV : Ev B E) (hw : Region.wanted o (yielded ops B.tmps) = true) (hC : Calls P f args w C) (hx : (execOp E o).run P w = .ok (.enter f args) w) (hz : s + n < A.tmps.size) (hn : d = s + n)
    (h : ∀ r w', C r w' → ∃ v, r = .returned v ∧ ∀ B' E', Ext A B' s (n + 1) → Ev B' E' → E' (.tmp d) = v → (∀ k, k ≠ d → E' (.tmp k) = E (.tmp k)) → (∀ c, E' (.const c) = c) → (∀ f, E' (.func f) = .func (.func f) #[] #[]) → wpList P ops Q rest B' w') (hd : o.dst = some d := by rfl) : wpList P ops Q (o :: rest) B w := by
  subst hn
  have hV' : B.eval = E := hV
  subst hV'
  refine wpList_step fun K hK => ?_
  rw [if_pos hw]
  unfold Oper.wp
  rw [hx, Oper.upon_enter]
  refine hC.mono ?_
  intro r w' hr
  obtain ⟨v, rfl, h⟩ := h r w' hr
  refine hK _ _ ?_
  rw [hd]
  exact h _ _ (hE.put v) rfl (eval_put_same (by rw [hE.2]; exact hz)) (fun k hk => eval_put_other hk) (fun _ => rfl) (fun _ => rfl)
theorem putR_eq : ∀ (us : List Value) (A : Act) (s : Nat), s + us.length ≤ A.tmps.size → putR A s us = ⟨(A.tmps.toList.take s ++ us ++ A.tmps.toList.drop (s + us.length)).toArray, A.defers⟩
  | [], A, s, h => by
    simp only [putR, List.append_nil, List.length_nil, Nat.add_zero, List.take_append_drop]
  | v :: vs, A, s, h => by
    rw [putR, putR_eq vs _ (s + 1) (by rw [size_put]; simp only [List.length_cons] at h; omega)]
    have hs : s < A.tmps.toList.length := by simp only [List.length_cons] at h; rw [Array.length_toList]; omega
    have e1 : (A.put (some s) v).tmps.toList = A.tmps.toList.set s v := by simp [Act.put]
    have e2 : (A.put (some s) v).defers = A.defers := rfl
    rw [e1, e2, List.take_set, List.drop_set_of_lt (by omega)]
    have e3 : (A.tmps.toList.take (s + 1)).set s v = A.tmps.toList.take s ++ [v] := by
      rw [List.take_succ_eq_append_getElem hs, List.set_append_right _ _ (by rw [List.length_take]; omega), List.length_take, Nat.min_eq_left (by omega), Nat.sub_self]
      rfl
    rw [e3, List.append_assoc, List.append_assoc, List.length_cons, show s + (vs.length + 1) = s + 1 + vs.length by omega]
    simp
/-- The last slot that was written holds what it holds. -/
theorem Ext.last {A B : Act} {E : Operand → Value} {s n d : Nat} {v : Value} (h : Ext A B s (n + 1)) (hV : Ev B E) (he : E (.tmp d) = v) (hz : d < A.tmps.size) (hd : d = s + n) : ∃ us : List Value, us.length = n ∧ B = ⟨(A.tmps.toList.take s ++ (us ++ [v]) ++ A.tmps.toList.drop (d + 1)).toArray, A.defers⟩ := by
  subst hd
  obtain ⟨⟨us, hl, hB⟩, hs⟩ := h
  obtain ⟨us0, x, rfl⟩ : ∃ l x, us = l ++ [x] := by
    rcases List.eq_nil_or_concat us with e | ⟨l, x, e⟩
    · rw [e] at hl; simp at hl
    · exact ⟨l, x, by rw [e]; simp⟩
  have hl0 : us0.length = n := by simpa using hl
  have hx : x = v := by
    have h1 := (hV.at (.tmp (s + n))).trans he
    rw [hB, putR_snoc, hl0] at h1
    have hsz : (putR A s us0).tmps.size = A.tmps.size := by
      have := hs
      rw [hB, putR_snoc, size_put] at this
      exact this
    rw [eval_put_same (by rw [hsz]; exact hz)] at h1
    exact h1
  subst hx
  refine ⟨us0, hl0, ?_⟩
  rw [hB, putR_eq _ _ _ (by rw [hl]; omega), hl, show s + (n + 1) = s + n + 1 by omega]
/-- The operations of a region from the k-th on. -/
def wpI (P : Program) (l : List Oper) (Q : Exit → Act → World → Prop) (k : Nat) (B : Act) (w : World) : Prop := wpList P l.toArray Q (l.drop k) B w
theorem wpI.start {P : Program} {l : List Oper} {Q : Exit → Act → World → Prop} {a : Act} {w : World} (h : ∀ A E, A = a → Ev A E → (∀ c, E (.const c) = c) → (∀ f, E (.func f) = .func (.func f) #[] #[]) → wpI P l Q 0 A w) : wpList P l.toArray Q l a w := h a _ rfl rfl (fun _ => rfl) (fun _ => rfl)
theorem wpI.done {P : Program} {l : List Oper} {Q : Exit → Act → World → Prop} {k : Nat} {B : Act} {w : World} (hk : l.length = k) (h : Q .normal B w) : wpI P l Q k B w := by
  unfold wpI; rw [List.drop_of_length_le (by omega)]; exact wpList_nil h
theorem wpI.at {P : Program} {l : List Oper} {Q : Exit → Act → World → Prop} {k : Nat} {o : Oper} {B : Act} {w : World} (hi : l[k]? = some o) (h : wpList P l.toArray Q (o :: l.drop (k + 1)) B w) : wpI P l Q k B w := by
  unfold wpI
  obtain ⟨hk, rfl⟩ := List.getElem?_eq_some_iff.1 hi
  rw [List.drop_eq_getElem_cons hk]
  exact h
/-- The frame at the k-th operation: A with the slots from s on written; E reads it, E0 reads A. -/
structure St (A B : Act) (E0 E : Operand → Value) (s k : Nat) : Prop where
  x : Ext A B s k
  v : Ev B E
  c : ∀ c, E (.const c) = c
  f : ∀ f, E (.func f) = .func (.func f) #[] #[]
  o : ∀ k, k < s → E (.tmp k) = E0 (.tmp k)
theorem St.start {A : Act} {E : Operand → Value} {s : Nat} (hV : Ev A E) : St A A E E s 0 := by
  have hV' : A.eval = E := hV
  subst hV'
  exact ⟨Ext.refl _ _, rfl, fun _ => rfl, fun _ => rfl, fun _ _ => rfl⟩
theorem si_v {P : Program} {l : List Oper} {Q : Exit → Act → World → Prop} {k : Nat} {A B : Act} {E0 E : Operand → Value} {w : World} {v : Value} {s : Nat} {o : Oper} (d k' : Nat) (hi : l[k]? = some o) (hS : St A B E0 E s k) (hw : Region.wanted o (yielded l.toArray B.tmps) = true) (hx : (execOp E o).run P w = .ok (.value v) w) (hz : d < A.tmps.size)
    (h : ∀ B' E', St A B' E0 E' s k' → E' (.tmp d) = v → (∀ k, k ≠ d → E' (.tmp k) = E (.tmp k)) → wpI P l Q k' B' w) (hn : d = s + k := by rfl) (hk : k + 1 = k' := by rfl) (hd : o.dst = some d := by rfl) : wpI P l Q k B w := by
  subst hk
  exact wpI.at hi (sr_v d hS.x hS.v hw hx (hn ▸ hz) hn (fun B' E' h1 h2 h3 h4 h5 h6 => h B' E' ⟨h1, h2, h5, h6, fun k hk => (h4 k (by omega)).trans (hS.o k hk)⟩ h3 h4) hd)
theorem si_n {P : Program} {l : List Oper} {Q : Exit → Act → World → Prop} {k : Nat} {A B : Act} {E0 E : Operand → Value} {w : World} {s : Nat} {o : Oper} (d k' : Nat) (hi : l[k]? = some o) (hS : St A B E0 E s k) (hw : Region.wanted o (yielded l.toArray B.tmps) = false) (hz : d < A.tmps.size)
    (h : ∀ B' E', St A B' E0 E' s k' → E' (.tmp d) = undef → (∀ k, k ≠ d → E' (.tmp k) = E (.tmp k)) → wpI P l Q k' B' w) (hn : d = s + k := by rfl) (hk : k + 1 = k' := by rfl) (hd : o.dst = some d := by rfl) : wpI P l Q k B w := by
  subst hk
  exact wpI.at hi (sr_n d hS.x hS.v hw (hn ▸ hz) hn (fun B' E' h1 h2 h3 h4 h5 h6 => h B' E' ⟨h1, h2, h5, h6, fun k hk => (h4 k (by omega)).trans (hS.o k hk)⟩ h3 h4) hd)
theorem si_c {P : Program} {l : List Oper} {Q : Exit → Act → World → Prop} {k : Nat} {A B : Act} {E0 E : Operand → Value} {w : World} {s : Nat} {f : FuncId} {args : Array Value} {C : Ending → World → Prop} {o : Oper} (d k' : Nat) (hi : l[k]? = some o) (hS : St A B E0 E s k) (hw : Region.wanted o (yielded l.toArray B.tmps) = true) (hC : Calls P f args w C) (hx : (execOp E o).run P w = .ok (.enter f args) w) (hz : d < A.tmps.size)
    (h : ∀ r w', C r w' → ∃ v, r = .returned v ∧ ∀ B' E', St A B' E0 E' s k' → E' (.tmp d) = v → (∀ k, k ≠ d → E' (.tmp k) = E (.tmp k)) → wpI P l Q k' B' w') (hn : d = s + k := by rfl) (hk : k + 1 = k' := by rfl) (hd : o.dst = some d := by rfl) : wpI P l Q k B w := by
  subst hk
  refine wpI.at hi (sr_c d hS.x hS.v hw hC hx (hn ▸ hz) hn (fun r w' hr => ?_) hd)
  obtain ⟨v, hv, h⟩ := h r w' hr
  exact ⟨v, hv, fun B' E' h1 h2 h3 h4 h5 h6 => h B' E' ⟨h1, h2, h5, h6, fun k hk => (h4 k (by omega)).trans (hS.o k hk)⟩ h3 h4⟩
end Go.Proofs.Ytcklpcdgckkahaa
