/- Fences: an open fence is closed; the order in which its members come does not matter. -/
import Derived.Test.YtcbdlalpnlahcaaFoC
import Derived.Deep.DeepCutAuto
namespace Go.Proofs.Ytcbdlalpnlahcaa
open Go.RowKit
set_option linter.unusedVariables false
set_option linter.unusedSimpArgs false

theorem sorted_eq : ∀ (B A : List MbV), A.Perm B → A.Pairwise (fun x y => x.1 ≤ y.1) → B.Pairwise (fun x y => x.1 < y.1) → A = B
  | [], A, h, _, _ => h.eq_nil
  | b :: t, [], h, _, _ => by have := h.length_eq; simp at this
  | b :: t, a :: s, h, hA, hB => by
    have hB' := List.pairwise_cons.1 hB
    have hA' := List.pairwise_cons.1 hA
    have hab : a = b := by
      have ha : a ∈ b :: t := h.subset (by simp)
      have hb : b ∈ a :: s := h.symm.subset (by simp)
      rcases List.mem_cons.1 ha with q | q
      · exact q
      · rcases List.mem_cons.1 hb with r | r
        · exact r.symm
        · have h1 := hB'.1 a q
          have h2 := hA'.1 b r
          omega
    subst hab
    rw [sorted_eq t s (List.Perm.cons_inv h) hA'.2 hB'.2]
theorem row_holdsM {w : World} {base g cap : Nat} {R : List MbV} (h : w.ownsRow base 37 4 (.slice (some ⟨g, 0, none⟩) R.length cap) R.length (rowM R)) : Go.Sort.HoldsK Try.encMb 4 w g 0 R.toArray := by
  obtain ⟨hr, _⟩ := XRow.of h
  intro t ht
  rw [Go.Sort.size_flatK] at ht
  have ht' : t < R.length * 4 := by simpa using ht
  rw [Go.Sort.get_flatK _ _ _ _ ht]
  have h1 := rowM_at R (t / 4) (by omega)
  have hc : (rowM R)[t]? = (Try.encMb (R[t / 4]'(by omega)))[t % 4]? := by
    rw [← h1, List.getElem?_take_of_lt (by omega), List.getElem?_drop, show t / 4 * 4 + t % 4 = t by omega]
  have hroom := hr.room t ht'
  refine ⟨?_, by rw [Nat.zero_add]; exact hroom.2⟩
  rw [Nat.zero_add, hr.cell ht', hc]
  have hd : R.toArray[t / 4]! = R[t / 4]'(by omega) := by simp [show t / 4 < R.length by omega]
  rw [hd]
  have h4 : t % 4 < 4 := Nat.mod_lt _ (by omega)
  generalize R[t / 4]'(by omega) = x
  generalize t % 4 = m at h4
  match m, h4 with
  | 0, _ => rfl
  | 1, _ => rfl
  | 2, _ => rfl
  | 3, _ => rfl
theorem sort_rowM {w : World} {base g cap : Nat} {R M : List MbV} (hR : R.length ≤ 1048576) (hg : g < w.heap.size) (h : w.ownsRow base 37 4 (.slice (some ⟨g, 0, none⟩) R.length cap) R.length (rowM R)) (hp : R.Perm M) (hM : M.Pairwise (fun x y => x.1 < y.1)) :
    Calls Try.prog 71 #[.slice (some ⟨g, 0, none⟩) R.length cap, .func (.func 72) #[] #[]] w fun r w' => r = .returned (.tuple #[]) ∧ (∀ i (hi : i < M.length), Cells w' g (i * 4) (Try.encMb M[i])) ∧ Room w' g (M.length * 4) ∧ TurnS (fun k => k = g) w w' := by
  have hs : R.toArray.size = R.length := by simp
  have hh := row_holdsM h
  have hc := Try.sortMembers g 0 cap R.toArray w hh hg (by rw [hs]; omega)
  rw [hs] at hc
  refine hc.mono ?_
  rintro r w' ⟨rfl, d', n, os, hpm, hso, rfl⟩
  obtain ⟨p1, _, p3⟩ := hpm
  rw [hs] at p1
  have hdl : d'.toList = M := by
    refine sorted_eq M d'.toList ?_ ?_ hM
    · have e1 : d'.extract 0 R.length = d' := by rw [← p1]; simp
      have e2 : R.toArray.extract 0 R.length = R.toArray := by simp
      rw [e1, e2] at p3
      have p3 : d'.toList.Perm R := by simpa using p3
      exact p3.trans hp
    · rw [List.pairwise_iff_getElem]
      intro i j hi hj hij
      have hi' : i < d'.size := by simpa using hi
      have hj' : j < d'.size := by simpa using hj
      have := hso i j (Nat.zero_le _) hij (by omega)
      rw [Try.ltMbN] at this
      have e1 : d'[i]! = d'.toList[i] := by simp [hi']
      have e2 : d'[j]! = d'.toList[j] := by simp [hj']
      rw [e1, e2] at this
      omega
  have hsz : d'.size = M.length := by rw [← hdl]; simp
  have hH := Go.Sort.holdsK_grow Try.encMb 4 _ os g 0 d' (by rw [putM_size]; exact hg) (Go.Sort.holdsK_putRowK Try.encMb 4 _ g 0 R.toArray d' (Go.Sort.holdsK_ahead Try.encMb 4 w n g 0 _ hh) (by rw [p1, hs]))
  refine ⟨rfl, fun i hi => fun j hj => ?_, fun q hq => ?_, sortM_trn w g n d' os⟩
  · have hj4 : j < 4 := hj
    have := (hH.cell (i := i) (c := j) (by omega) hj4).1
    rw [Nat.zero_add] at this
    have e : d'[i]! = M[i] := by
      have h0 : i < d'.size := by omega
      have : d'[i]! = d'.toList[i]'(by simpa using h0) := by simp [h0]
      rw [this]
      simp only [hdl]
    rw [e] at this
    refine this.trans ?_
    generalize M[i] = x
    match j, hj4 with
    | 0, _ => rfl
    | 1, _ => rfl
    | 2, _ => rfl
    | 3, _ => rfl
  · have := hH.cell (i := q / 4) (c := q % 4) (by omega) (by omega)
    rw [show 0 + q / 4 * 4 + q % 4 = q by omega] at this
    exact ⟨⟨_, this.1⟩, this.2⟩
/-- What closed answers. -/
def ClP (lo : Nat) (y : Sh.T shFence) (w : World) (r : Ending) (w' : World) : Prop := ∃ cs : List Value, r = .returned (.agg cs.toArray) ∧ Own w' shFence cs y (fun k => lo ≤ k ∧ k < w'.heap.size) ∧ Below lo w w'
/-- While the members come, in any order. -/
def ClS (lo p b : Nat) (W wr : World) (r : Nat) (L R Lf : List MbV) (v : Value) : Prop :=
  RgX wr b r (Lf.map mbV) ∧ (R ++ Lf).Perm L ∧ wr.ownsRow (W.heap.size + 1) 37 4 v R.length (rowM R) ∧ Below W.heap.size W wr ∧ Bx wr W.heap.size [.int .i64 0, .int .i64 0, .slice none 0 0, .slice none 0 0] ∧ (∀ k, v.ownBlock = some k → k ≠ r) ∧ b < W.heap.size ∧ W.heap.size < r
theorem map_erase {α β : Type} (f : α → β) (l : List α) (i : Nat) : (l.map f).eraseIdx i = (l.eraseIdx i).map f := (Go.ChangeMaps.map_eraseIdx f l i).symm
theorem own_closed {lo p b g cap : Nat} {W w' : World} {ep du : Int} {ms : List (Sh.T shMember)} {en : List (Sh.T .int)} {L : List MbV} {B : Nat → Nat → Prop} {ve : Value} (h : OpX lo p b W ep du ms en L B ve) (hb : Below W.heap.size W w') (hg : W.heap.size ≤ g) (hgz : g < w'.heap.size) (hlo : lo ≤ W.heap.size) (hc : ms.length ≤ cap) (hm : cap ≤ maxLen) (hcell : ∀ i (hi : i < L.length), Cells w' g (i * 4) (Try.encMb L[i])) (hroom : Room w' g (L.length * 4)) : Own w' shFence [.int .i64 ep, .int .i64 du, .slice (some ⟨g, 0, none⟩) ms.length cap, ve] (mkFe ep du ms en) (fun k => lo ≤ k ∧ k < w'.heap.size) := by
  obtain ⟨va, vc, hv⟩ := h.2.2.2.1.vform
  have hv : ve = .slice va (List.length (α := Sh.T .int) en) vc := hv
  subst hv
  have hn := h.next hb
  have hs := h.sizes
  have hz := hb.size
  obtain ⟨h1, h2, ⟨m1, m2, m3, m4⟩, h4, h5, h6, h7, h8, h9⟩ := hn
  have m4' := h.2.2.1.2.2.2
  refine mkown_Fence (x0 := ep) (x1 := du) (S1 := fun k => k = g ∨ ∃ i, i < ms.length ∧ B i k) (S2 := fun k => (Value.slice va (List.length (α := Sh.T .int) en) vc).ownBlock = some k) (Or.inr ⟨g, cap, B, rfl, ⟨hc, hm⟩, hgz, Or.inl rfl, fun i hi k hk => ⟨Or.inr ⟨i, hi, hk⟩, by have := (m4' i hi k hk).2; omega⟩, fun i j hij hj k => m3 i j (show i < List.length (α := Sh.T shMember) ms by have : j < List.length (α := Sh.T shMember) ms := hj; omega) hj (by omega) k, by rw [← m1]; exact hroom, fun i hi => ⟨Try.encMb (L[i]'(by rw [m1]; exact hi)), rfl, hcell i (by rw [m1]; exact hi), (m2 i (by rw [m1]; exact hi) hi).own⟩⟩) h4.own (fun k q => ?_) (fun k q => ?_) (fun k q r => ?_)
  · rcases q with q | ⟨i, hi, q⟩
    · omega
    · exact ⟨(m4 i hi k q).1, (m4 i hi k q).2⟩
  · have := hs.2.2 k q; exact ⟨this.1, by omega⟩
  · rcases q with q | ⟨i, hi, q⟩
    · have := (hs.2.2 k r).2; omega
    · exact (h5 i hi k q).2.2 r
end Go.Proofs.Ytcbdlalpnlahcaa
