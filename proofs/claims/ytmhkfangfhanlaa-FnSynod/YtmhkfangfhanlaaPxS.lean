/- What FnSynod asks of a play: whatever is chosen was proposed; the law's own sameBools. -/
import Derived.Test.YtmhkfangfhanlaaMgI
namespace Go.Proofs.Ytmhkfangfhanlaa
open Go.RowKit
set_option linter.unusedVariables false
set_option linter.unusedSimpArgs false

theorem fix_from (own : ByteArray) (l : List (Sh.T shPromise)) : fixV own l = own ∨ ∃ x ∈ l, 0 < pbl x ∧ pvl x = fixV own l := by
  have key : ∀ (l : List (Sh.T shPromise)) (s : Int × ByteArray), 0 ≤ s.1 → (l.foldl fixS s = s ∨ ∃ x ∈ l, 0 < pbl x ∧ pvl x = (l.foldl fixS s).2) := by
    intro l
    induction l with
    | nil => intro s _; exact Or.inl rfl
    | cons x t ih =>
      intro s hs
      have e : (x :: t).foldl fixS s = t.foldl fixS (fixS s x) := rfl
      rw [e]
      by_cases q : s.1 < pbl x
      · have ex : fixS s x = (pbl x, pvl x) := if_pos q
        rcases ih (fixS s x) (by rw [ex]; show 0 ≤ pbl x; omega) with r | ⟨y, hy, r⟩
        · exact Or.inr ⟨x, List.mem_cons_self .., by omega, by rw [r, ex]⟩
        · exact Or.inr ⟨y, List.mem_cons_of_mem _ hy, r⟩
      · have ex : fixS s x = s := if_neg q
        rw [ex]
        rcases ih s hs with r | ⟨y, hy, r⟩
        · exact Or.inl r
        · exact Or.inr ⟨y, List.mem_cons_of_mem _ hy, r⟩
  rcases key l (0, own) (Int.le_refl _) with r | r
  · exact Or.inl (congrArg Prod.snd r)
  · exact Or.inr r
theorem val_in {A : List (Sh.T shAcceptor)} {P : List (Sh.T shProposer)} {vs : List (Sh.T .str)} (h : Played A P) (ho : ∀ c, c < P.length → (P.getD c pz1).1 ∈ vs) : ∀ k, fxo P k = true → vlo P k ∈ vs := by
  intro k
  induction k using Nat.strongRecOn with
  | ind k ih =>
    intro hf
    rcases pro_at h.good k with ⟨hk, hq⟩ | ⟨_, e, _⟩
    case inr => rw [e] at hf; cases hf
    rw [hq.2.2.2.1 hf]
    rcases fix_from (P.getD k pz1).1 (pmo P k) with r | ⟨y, hy, hb, r⟩
    · rw [r]; exact ho k hk
    · rw [← r]
      have hyl := (hq.2.1.1 y hy).2.1.2
      have hyn := (hq.2.1.1 y hy).1.1
      obtain ⟨j, hj⟩ : ∃ j : Nat, pnd y = (j : Int) := ⟨(pnd y).toNat, by omega⟩
      obtain ⟨d, hd⟩ : ∃ d : Nat, pbl y = (d : Int) + 1 := ⟨(pbl y - 1).toNat, by omega⟩
      have ht := (h.told k j y hy hj).2.1 d hd
      rw [ht.1]
      exact ih d (by omega) (vote_fixed h.good ht.2)
/-- What a play has. -/
structure One' (vs : List (Sh.T .str)) (A : List (Sh.T shAcceptor)) (P : List (Sh.T shProposer)) : Prop where
  one : Played A P
  vals : ∀ c, chosP A P c → vlo P c ∈ vs
theorem onePlay_of {m : Int} {vs : List (Sh.T .str)} {l : List (Sh.T shSynodStep)} {A : List (Sh.T shAcceptor)} {P : List (Sh.T shProposer)} {D : List (Sh.T .bool)} (h : PlH m vs l A P D true) : One' vs A P := by
  have o : plOk m vs l := tf_iff.1 h.2.2.2
  have e := (pl_yes o).1
  have hp := played_new o.1
  have p1 := played_k (l := l) hp l.length (Nat.le_refl _)
  have p2 := later_k (l := l) hp 0 l.length (by omega)
  rw [Nat.zero_add, List.take_length, List.take_zero] at p2
  rw [List.take_length] at p1
  obtain ⟨a1, b1, _⟩ := h
  rw [e] at a1 b1
  subst a1 b1
  refine ⟨p1, fun c hc => val_in p1 (fun d hd => ?_) c ?_⟩
  · rw [← (p2.2.2 d).2.2]
    show ((List.map mkPr vs).getD d pz1).1 ∈ vs
    have hl : d < vs.length := by
      have := p2.2.1
      have e2 : (plF (pl0 m vs) []).1.2.length = vs.length := by show (List.map mkPr vs).length = _; rw [List.length_map]
      rw [e2] at this
      omega
    rw [List.getD_eq_getElem?_getD, List.getElem?_map, List.getElem?_eq_getElem hl]
    exact List.getElem_mem hl
  · cases q : vto (plF (pl0 m vs) l).1.2 c with
    | nil => unfold chosP at hc; rw [q] at hc; simp at hc; omega
    | cons x t => exact vote_fixed p1.good (x := x) (by rw [q]; exact List.mem_cons_self ..)
theorem ne_texts {s t : ByteArray} (h : s ≠ t) : (s.toList == t.toList) = false := by
  cases q : (s.toList == t.toList)
  · rfl
  · exact absurd (bytes_eq (by simpa using q)) h
theorem none_did {m : Int} {vs : List (Sh.T .str)} {l : List (Sh.T shSynodStep)} {A : List (Sh.T shAcceptor)} {P : List (Sh.T shProposer)} {D : List (Sh.T .bool)} (h : PlH m vs l A P D false) : D = [] := by
  have o : ¬ plOk m vs l := fun q => by have := h.2.2.2; rw [tf_yes q] at this; cases this
  have e := (pl_no o).1
  rw [← h.2.2.1, e]

set_option maxRecDepth 100000 in
set_option maxHeartbeats 2000000 in
theorem sameBools_same (a a' : Option Addr) (cap cap' : Nat) (l : List (Sh.T .bool)) (w : World) (hn : l.length ≤ 1073741824) (hs : Lies w (.list .bool) [.slice a l.length cap] l) (hs' : Lies w (.list .bool) [.slice a' l.length cap'] l) :
    Calls Try.prog 14 #[.slice a l.length cap, .slice a' l.length cap'] w fun r w' => r = .returned (.bool true) ∧ Below w.heap.size w w' := by
  have HL : Hid (Lies w (.list .bool) [.slice a l.length cap] l ∧ Lies w (.list .bool) [.slice a' l.length cap'] l) := ⟨hs, hs'⟩
  clear hs hs'
  go_enter Try.func14, Try.ntmps14
  go_wp2
  go_loopw [13] (fun i wr => ∃ k : Nat, k ≤ l.length ∧ i = .int .i64 k ∧ Below w.heap.size w wr) (fun i _ => l.length - (intOf i).toNat)
  case atStart => exact ⟨0, Nat.zero_le _, rfl, Below.refl _ _⟩
  case round =>
    obtain ⟨k, hk, rfl, hBr⟩ := hrel
    by_cases hlt : k < l.length
    · obtain ⟨g, off, hgo, hgs, ec, hel, hec, hle⟩ := Lies.elem (HL.out.1.next hBr) hlt
      obtain ⟨g', off', hgo', hgs', ec', hel', hec', hle'⟩ := Lies.elem (HL.out.2.next hBr) hlt
      subst hgo hgo'
      have hev : ec = [.bool l[k]] := hle
      have hev' : ec' = [.bool l[k]] := hle'
      subst hev hev'
      have c0 : wr.cell? ⟨g, off + k, none⟩ = some (.bool l[k]) := by have := hec 0 (by simp); simpa [Sh.c] using this
      have c1 : wr.cell? ⟨g', off' + k, none⟩ = some (.bool l[k]) := by have := hec' 0 (by simp); simpa [Sh.c] using this
      obtain ⟨t, ht⟩ : ∃ t : Bool, t = l[k] := ⟨_, rfl⟩
      rw [← ht] at c0 c1
      have hlt' : (k : Int) < (l.length : Int) := by omega
      have HB : Hid (Below w.heap.size w wr) := hBr
      clear hec hec' hel hel' hle hle' ht hBr
      go_upto_region 6 with fail
      go_quiet (fail)
      go_wp2
      go_roundw
      case rel => exact ⟨k + 1, by omega, by go_num, below_drewN HB.out _⟩
      case measure => simp [intOf]; omega
    · have hkn : k = l.length := by omega
      have HB : Hid (Below w.heap.size w wr) := hBr
      clear hBr hkn
      go_wp2
      go_ret
      exact ⟨rfl, HB.out⟩
theorem playSynod_a (m : Int) (a1 : Option Addr) (k1 : Nat) (vs : List (Sh.T .str)) (a2 : Option Addr) (k2 : Nat) (l : List (Sh.T shSynodStep)) (w : World) (AC : List (Sh.T shAcceptor)) (PS : List (Sh.T shProposer)) (D : List (Sh.T .bool)) (z : Bool) (hA : PlH m vs l AC PS D z) (hz : szD (.list .str) vs ≤ 1000) (hn : l.length ≤ 121) (h1 : Lies w (.list .str) [.slice a1 vs.length k1] vs) (h2 : Lies w (.list shSynodStep) [.slice a2 l.length k2] l) :
    Calls Try.prog 12 #[.int .i64 m, .slice a1 vs.length k1, .slice a2 l.length k2] w (PlP AC PS D z w) ∧ Calls Try.prog 13 #[.int .i64 m, .slice a1 vs.length k1, .slice a2 l.length k2] w (PlP AC PS D z w) := by
  have q1 := playSynod_n m a1 k1 vs a2 k2 l w (by omega) (by omega) h1 h2
  have q2 := specPlaySynod_n m a1 k1 vs a2 k2 l w (by omega) (by omega) h1 h2
  rw [← hA.1, ← hA.2.1, ← hA.2.2.1, ← hA.2.2.2]
  exact ⟨q1, q2⟩
end Go.Proofs.Ytmhkfangfhanlaa
