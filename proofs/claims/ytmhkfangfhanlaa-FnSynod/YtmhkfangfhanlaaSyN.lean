/- Synods: NewSynod, on both sides. Written by tools/mkSyN.py. -/
import Derived.Test.YtmhkfangfhanlaaMgD
import Derived.Test.YtmhkfangfhanlaaNtT
import Derived.Test.YtmhkfangfhanlaaShM
import Derived.Test.YtmhkfangfhanlaaCln
namespace Go.Proofs.Ytmhkfangfhanlaa
open Go.RowKit
set_option linter.unusedVariables false
set_option linter.unusedSimpArgs false

def z0A : Sh.T shAcceptor := (0, 0, ⟨#[]⟩, ())
def mkPr (v : ByteArray) : Sh.T shProposer := (v, [], false, ⟨#[]⟩, [], ())
/-- What NewSynod takes. -/
def nwP (m : Int) (vs : List (Sh.T .str)) : Prop := (1 ≤ m ∧ m ≤ 12) ∧ (1 ≤ vs.length ∧ vs.length ≤ 8) ∧ ∀ v ∈ vs, valOk v = true
noncomputable def nwAc (m : Int) (vs : List (Sh.T .str)) : List (Sh.T shAcceptor) := if tf (nwP m vs) then List.replicate m.toNat z0A else []
noncomputable def nwPs (m : Int) (vs : List (Sh.T .str)) : List (Sh.T shProposer) := if tf (nwP m vs) then List.map mkPr vs else []
theorem nw_none {m : Int} {vs : List (Sh.T .str)} (h : ¬ nwP m vs) : nwAc m vs = [] ∧ nwPs m vs = [] ∧ tf (nwP m vs) = false := by unfold nwAc nwPs; rw [tf_no h]; exact ⟨rfl, rfl, rfl⟩
theorem nw_some {m : Int} {vs : List (Sh.T .str)} (h : nwP m vs) : nwAc m vs = List.replicate m.toNat z0A ∧ nwPs m vs = List.map mkPr vs ∧ tf (nwP m vs) = true := by unfold nwAc nwPs; rw [tf_yes h]; exact ⟨rfl, rfl, rfl⟩
theorem made_accs {w : World} {lo n : Nat} {v : Value} (h : w.ownsRow lo 91 3 v n (madeCells (Value.agg #[.int .i64 0, .int .i64 0, .string ⟨#[]⟩]).cells (n * 3)).toList) : AppB w lo 91 shAcceptor v (List.replicate n z0A) := by
  refine ⟨_, fun _ _ => False, by rw [List.length_replicate]; exact h, fun i hi => ?_, fun i hi b q => q.elim, fun i j _ _ b q => q.elim⟩
  rw [List.length_replicate] at hi
  have e := made_take #[.int .i64 0, .int .i64 0, .string ⟨#[]⟩] n i (by decide) hi
  have e2 : (((madeCells (Value.agg #[.int .i64 0, .int .i64 0, .string ⟨#[]⟩]).cells (n * 3)).toList.drop (i * shAcceptor.c)).take shAcceptor.c) = [.int .i64 0, .int .i64 0, .string ⟨#[]⟩] := e
  rw [e2, List.getElem_replicate]
  exact mkown_Acceptor (x0 := 0) (x1 := 0) (x2 := ⟨#[]⟩)
/-- Between the rounds: the answer's cell, the acceptors, the variable s in block b. -/
def SyN (w : World) (b : Nat) (wr : World) (n : Nat) (v : Value) (l : List (Sh.T shProposer)) : Prop :=
  Bx wr w.heap.size [.slice none 0 0, .slice none 0 0] ∧ Own wr (.list shAcceptor) [.slice (some ⟨w.heap.size + 1, 0, none⟩) n n] (List.replicate n z0A) (Btw (w.heap.size + 1) b) ∧
    Bx wr b [.slice (some ⟨w.heap.size + 1, 0, none⟩) n n, v] ∧ AppB wr (b + 1) 43 shProposer v l ∧ Below w.heap.size w wr ∧ b + 1 ≤ wr.heap.size ∧ w.heap.size + 1 < b
theorem SyN.next {w wr wr' : World} {b n : Nat} {v : Value} {l : List (Sh.T shProposer)} (h : SyN w b wr n v l) (hb : Below wr.heap.size wr wr') : SyN w b wr' n v l :=
  ⟨h.1.next hb, h.2.1.next hb, h.2.2.1.next hb, h.2.2.2.1.next hb, below_next h.2.2.2.2.1 hb, Nat.le_trans h.2.2.2.2.2.1 hb.size, h.2.2.2.2.2.2⟩
theorem own_mkPr {w : World} {v : ByteArray} {S : Nat → Prop} : Own w shProposer [.string v, .slice none 0 0, .bool false, .string ⟨#[]⟩, .slice none 0 0] (mkPr v) S :=
  mkown_Proposer (x0 := v) (x2 := false) (x3 := ⟨#[]⟩) (Own.none (S := fun _ => False) (Nat.zero_le _)) (Own.none (S := fun _ => False) (Nat.zero_le _)) (fun k e => e.elim) (fun k e => e.elim) (fun k e => e.elim)
/-- One proposer more: the append, and the store into the variable. -/
theorem SyN.app {w W W9 : World} {b n : Nat} {v v9 : Value} {l : List (Sh.T shProposer)} {xs : List Value} {B : Nat → Nat → Prop} {t : ByteArray} (h : SyN w b W n v l) (hR : AppR W (b + 1) shProposer v l xs B) (ho : W.ownsRow (b + 1) 43 5 v l.length xs)
    (h2 : W9.ownsRow (b + 1) 43 5 v9 (l.length + 1) (xs ++ [.string t, .slice none 0 0, .bool false, .string ⟨#[]⟩, .slice none 0 0])) (hg : W.grownBy W9 v.ownBlock) (hwh : v9.ownBlock = v.ownBlock ∨ v9.ownBlock = some W.heap.size) :
    SyN w b (W9.setCell ⟨b, 1, none⟩ v9) n v9 (l ++ [mkPr t]) ∧ Bx W9 b [.slice (some ⟨w.heap.size + 1, 0, none⟩) n n, v] := by
  have hbb := h.2.2.2.2.2.2
  have hlt : ∀ k, v.ownBlock = some k → b + 1 ≤ k := fun k hk => (ho.lt k hk).1
  have hA : AppB W9 (b + 1) 43 shProposer v9 (l ++ [mkPr t]) := AppR.app (ec := [.string t, .slice none 0 0, .bool false, .string ⟨#[]⟩, .slice none 0 0]) hR ho (Below.refl _ _) rfl h.2.2.2.2.2.1 own_mkPr h2 hg hwh
  have h0 := h.1.grow hg (fun q => by have := hlt _ q.symm; omega)
  have h3 := h.2.2.1.grow hg (fun q => by have := hlt _ q.symm; omega)
  have hO : Own W9 (.list shAcceptor) [.slice (some ⟨w.heap.size + 1, 0, none⟩) n n] (List.replicate n z0A) (Btw (w.heap.size + 1) b) := h.2.1.keep hg.size (fun k hk hB => hg.block k hk (fun q => by have := hlt k q.symm; have := hB.2; omega))
  have hB : Below w.heap.size w W9 := h.2.2.2.2.1.grown hg h.2.2.2.2.1.size (fun k hk => by have := hlt k hk; omega)
  exact ⟨⟨h0.other (by omega), hO.set (p := ⟨b, 1, none⟩) (by simp only [Btw]; omega) _, h3.set (k := 1) (by simp) v9, hA.other (p := ⟨b, 1, none⟩) (by simp) _, hB.setCell (p := ⟨b, 1, none⟩) (by simp; omega) _, by have := hg.size; have := h.2.2.2.2.2.1; simp; omega, hbb⟩, h3⟩
theorem SyN.done {w wr : World} {b n : Nat} {v : Value} {l : List (Sh.T shProposer)} (h : SyN w b wr n v l) : ∃ a cap, v = .slice a l.length cap ∧ Own ((wr.setCell ⟨w.heap.size, 0, none⟩ (.slice (some ⟨w.heap.size + 1, 0, none⟩) n n)).setCell ⟨w.heap.size, 1, none⟩ (.slice a l.length cap)) shSynod [.slice (some ⟨w.heap.size + 1, 0, none⟩) n n, .slice a l.length cap] (List.replicate n z0A, l, ()) (Btw w.heap.size wr.heap.size) := by
  obtain ⟨a, cap, rfl, _, hO⟩ := h.2.2.2.1.own
  refine ⟨a, cap, rfl, ?_⟩
  have := h.2.2.2.2.2
  have h1 := ((h.2.1.set (p := ⟨w.heap.size, 0, none⟩) (by simp only [Btw]; omega) (.slice (some ⟨w.heap.size + 1, 0, none⟩) n n)).set (p := ⟨w.heap.size, 1, none⟩) (by simp only [Btw]; omega) (.slice a l.length cap))
  have h2 := ((hO.set (p := ⟨w.heap.size, 0, none⟩) (by simp only [Btw]; omega) (.slice (some ⟨w.heap.size + 1, 0, none⟩) n n)).set (p := ⟨w.heap.size, 1, none⟩) (by simp only [Btw]; omega) (.slice a l.length cap))
  have hl : n = (List.replicate n z0A).length := List.length_replicate.symm
  exact mkown_Synod h1 h2 (fun k e => by simp only [Btw] at e ⊢; omega) (fun k e => by simp only [Btw] at e ⊢; omega) (fun k e f => by simp only [Btw] at e f; omega)
theorem SyN.start {w w1 : World} {n : Nat} {t : TypeId} (hb0 : Bx w1 w.heap.size [.slice none 0 0, .slice none 0 0]) (hown : w1.ownsRow (w.heap.size + 1) 91 3 (.slice (some ⟨w.heap.size + 1, 0, none⟩) n n) n (madeCells (Value.agg #[.int .i64 0, .int .i64 0, .string ⟨#[]⟩]).cells (n * 3)).toList) (hB : Below w.heap.size w w1) :
    SyN w w1.heap.size (w1.alloc (.cells #[.slice (some ⟨w.heap.size + 1, 0, none⟩) n n, .slice none 0 0] t)) n (.slice none 0 0) [] := by
  obtain ⟨a, cap, e1, _, hO⟩ := (made_accs hown).own
  rw [List.length_replicate] at e1 hO
  simp only [Value.slice.injEq] at e1
  obtain ⟨rfl, _, rfl⟩ := e1
  have hG : w.heap.size + 1 < w1.heap.size := (hown.lt (w.heap.size + 1) rfl).2
  have hn : Below w1.heap.size w1 (w1.alloc (.cells #[.slice (some ⟨w.heap.size + 1, 0, none⟩) n n, .slice none 0 0] t)) := Go.Joins.below_alloc1 _ _
  exact ⟨hb0.alloc _, hO.next hn, Bx.new w1 [_, _] _, AppB.nil _ _ _ _, hB.alloc hB.size _, by simp, hG⟩
theorem pr_take {vs : List (Sh.T .str)} {k : Nat} (h : k < vs.length) : List.map mkPr (vs.take (k + 1)) = List.map mkPr (vs.take k) ++ [mkPr vs[k]] := by
  rw [List.take_succ_eq_append_getElem h, List.map_append]; rfl
theorem str_elem {w : World} {g off : Nat} {vs : List (Sh.T .str)} {cap : Nat} {k : Nat} (h : Lies w (.list .str) [.slice (some ⟨g, off, none⟩) vs.length cap] vs) (hk : k < vs.length) : w.cell? ⟨g, off + k, none⟩ = some (.string vs[k]) ∧ g < w.heap.size := by
  obtain ⟨g', off', e, hg, ec, hl, hc, hle⟩ := Lies.elem h hk
  simp only [Option.some.injEq, Addr.mk.injEq, and_true] at e
  obtain ⟨rfl, rfl⟩ := e
  have hev : ec = [.string vs[k]] := hle
  subst hev
  have := hc 0 (by simp)
  exact ⟨by simpa [Sh.c] using this, hg⟩
theorem str_size {vs : List (Sh.T .str)} (h : szD (.list .str) vs ≤ 1073741824) {k : Nat} (hk : k < vs.length) : vs[k].size ≤ 1073741824 := by
  have := sz_mem (List.getElem_mem hk)
  have e : szD .str vs[k] = vs[k].size := rfl
  omega


set_option maxRecDepth 100000 in
set_option maxHeartbeats 4000000 in
theorem newSynod_n (m : Int) (a : Option Addr) (cap : Nat) (vs : List (Sh.T .str)) (w : World) (hz : szD (.list .str) vs ≤ 1073741824) (h : Lies w (.list .str) [.slice a vs.length cap] vs) :
    Calls Try.prog 25 #[.int .i64 m, .slice a vs.length cap] w (AnsP shSynod (nwAc m vs, nwPs m vs, ()) (tf (nwP m vs)) w) := by
  have HL : Hid (Lies w (.list .str) [.slice a vs.length cap] vs ∧ szD (.list .str) vs ≤ 1073741824) := ⟨h, hz⟩
  have hn : vs.length ≤ 1073741824 := by simp only [szD] at hz; omega
  clear h hz
  obtain ⟨nv, hnn⟩ : ∃ n, n = vs.length := ⟨_, rfl⟩
  have HNV : Hid (nv = vs.length) := hnn
  rw [← hnn] at hn ⊢
  clear hnn
  cases c0 : inR m 1 12
  · obtain ⟨e1, e2, e3⟩ := nw_none (m := m) (vs := vs) (fun q => by rw [inR_iff.2 q.1] at c0; cases c0)
    rw [e1, e2, e3]
    clear e1 e2 e3
    go_enter Try.func25, Try.ntmps25
    go_wp2_with (first | (go_at_call 54; refine (inRange_any _ _ _ _).mono ?_; rintro e w' ⟨rfl, rfl⟩))
    exact bodyPost_ret (v := .tuple #[.agg #[.slice none 0 0, .slice none 0 0], .bool false]) (by simp [results, Try.results25, go_sem, *]) rfl ⟨[.slice none 0 0, .slice none 0 0], rfl, mkown_Synod (Own.none (S := fun _ => False) (Nat.zero_le _)) (Own.none (S := fun _ => False) (Nat.zero_le _)) (fun k e => e.elim) (fun k e => e.elim) (fun k e => e.elim), (by repeat (first | refine Below.setCell ?_ (by (try simp) <;> omega) _ | refine Below.alloc ?_ (by (try simp) <;> omega) _ | refine Below.drew ?_ | assumption | exact Below.refl _ _ | refine Below.trans ?_ (Below.mono (by assumption) (by (try simp) <;> omega))))⟩
  cases c1 : inR (nv : Int) 1 8
  · obtain ⟨e1, e2, e3⟩ := nw_none (m := m) (vs := vs) (fun q => by have h1 := q.2.1; rw [← HNV.out] at h1; rw [inR_iff.2 (by omega)] at c1; cases c1)
    rw [e1, e2, e3]
    clear e1 e2 e3
    go_enter Try.func25, Try.ntmps25
    go_wp2_with (first | (go_at_call 54; refine (inRange_any _ _ _ _).mono ?_; rintro e w' ⟨rfl, rfl⟩))
    exact bodyPost_ret (v := .tuple #[.agg #[.slice none 0 0, .slice none 0 0], .bool false]) (by simp [results, Try.results25, go_sem, *]) rfl ⟨[.slice none 0 0, .slice none 0 0], rfl, mkown_Synod (Own.none (S := fun _ => False) (Nat.zero_le _)) (Own.none (S := fun _ => False) (Nat.zero_le _)) (fun k e => e.elim) (fun k e => e.elim) (fun k e => e.elim), (by repeat (first | refine Below.setCell ?_ (by (try simp) <;> omega) _ | refine Below.alloc ?_ (by (try simp) <;> omega) _ | refine Below.drew ?_ | assumption | exact Below.refl _ _ | refine Below.trans ?_ (Below.mono (by assumption) (by (try simp) <;> omega))))⟩
  have hb := inR_iff.1 c0
  have hb8 := inR_iff.1 c1
  obtain ⟨n, rfl⟩ : ∃ n : Nat, m = (n : Int) := ⟨m.toNat, by omega⟩
  obtain ⟨i0, hi0, hz0, hz1, hz2⟩ := info_parts inf_Acceptor
  go_enter Try.func25, Try.ntmps25
  go_wp2_with (first | (go_at_call 54; refine (inRange_any _ _ _ _).mono ?_; rintro e w' ⟨rfl, rfl⟩) | (at_make; refine wpList_make_full _ rfl (.tmp 19) (.tmp 19) 27 rfl (w.heap.size + 1) 91 i0 (.agg #[.int .i64 0, .int .i64 0, .string ⟨#[]⟩]) 3 Try.underlying27 hi0 hz0 hz1 .i64 .i64 _ _ n rfl rfl rfl rfl (by rw [hz2]; omega) (by unfold maxLen; omega) (by simp) ?_; intro w1 hown hgrow; have hBx : Bx w1 w.heap.size [.slice none 0 0, .slice none 0 0] := (Bx.new w [_, _] _).grow hgrow (fun q => by cases q)))
  rw [World.size_alloc] at hown
  have HI : Hid (SyN w w1.heap.size (w1.alloc (.cells #[.slice (some ⟨w.heap.size + 1, 0, none⟩) n n, .slice none 0 0] 30)) n (.slice none 0 0) (List.map mkPr (vs.take 0)) ∧ ∀ v ∈ vs.take 0, valOk v = true) := ⟨SyN.start hBx hown (((Below.refl _ _).alloc (Nat.le_refl _) _).grown hgrow (by simp) (fun k hk => by cases hk)), fun v hv => by simp at hv⟩
  obtain ⟨b, hbE⟩ : ∃ b, b = w1.heap.size := ⟨_, rfl⟩
  rw [← hbE] at HI ⊢
  clear hown hgrow hBx hi0 hz0 hz1 hz2 hbE
  obtain ⟨i0, hi0, hz0, hz1, hz2⟩ := info_parts inf_Proposer
  go_loopw [24] (fun i wr => ∃ (k : Nat) (v : Value), k ≤ nv ∧ i = .int .i64 k ∧ (SyN w b wr n v (List.map mkPr (vs.take k)) ∧ ∀ v ∈ vs.take k, valOk v = true)) (fun i _ => nv - (intOf i).toNat)
  case atStart => exact ⟨0, _, Nat.zero_le _, rfl, HI.out⟩
  case round =>
    obtain ⟨k, v, hk, rfl, hS, hV⟩ := hrel
    clear HI
    have HS : Hid (SyN w b wr n v (List.map mkPr (vs.take k)) ∧ ∀ v ∈ vs.take k, valOk v = true) := ⟨hS, hV⟩
    by_cases hlt : k < nv
    · have hlx : k < vs.length := by have := HNV.out; omega
      have hlt' : (k : Int) < (nv : Int) := by omega
      obtain ⟨xg, xoff, hxa, _⟩ := Lies.elem HL.out.1 hlx
      subst hxa
      obtain ⟨xc, xgs⟩ := str_elem (HL.out.1.next hS.2.2.2.2.1) hlx
      have hts := str_size HL.out.2 hlx
      have HPT : Hid (List.map mkPr (vs.take (k + 1)) = List.map mkPr (vs.take k) ++ [mkPr vs[k]]) := Hid.intro (pr_take hlx)
      have HML : Hid ((List.map mkPr (vs.take k)).length = k) := Hid.intro (by rw [List.length_map, List.length_take]; omega)
      have HTK : Hid (valOk vs[k] = true → ∀ v ∈ vs.take (k + 1), valOk v = true) := Hid.intro (fun q => mem_take_succ hlx hV q)
      have HNO : Hid (valOk vs[k] = false → ¬ nwP n vs) := Hid.intro (fun q p => by have := p.2.2 vs[k] (List.getElem_mem hlx); rw [q] at this; cases this)
      generalize vs[k] = t at *
      have HTS : Hid (t.size ≤ maxLen ∧ t.size ≤ 281474976710656) := ⟨size_text hts, by omega⟩
      have s0 := (hS.1).cell 0 rfl; have s1 := (hS.1).cell 1 rfl; have sz := (hS.1).2
      have f0 := hS.1.frz 0 (by simp)
      have f1 := hS.1.frz 1 (by simp)
      have HBW : Hid (Below w.heap.size w wr) := hS.2.2.2.2.1
      clear hV hts
      cases c2 : valOk t
      · obtain ⟨e1, e2, e3⟩ := nw_none (HNO.out c2)
        rw [e1, e2, e3]
        clear e1 e2 e3 hS
        go_wp2_with (first | (go_at_call 62; refine (isValue_any _ _ HTS.out.1).mono ?_; rintro e w' ⟨rfl, rfl⟩))
        exact bodyPost_ret (v := .tuple #[.agg #[.slice none 0 0, .slice none 0 0], .bool false]) (by simp [results, Try.results25, go_sem, *]) rfl ⟨[.slice none 0 0, .slice none 0 0], rfl, mkown_Synod (Own.none (S := fun _ => False) (Nat.zero_le _)) (Own.none (S := fun _ => False) (Nat.zero_le _)) (fun k e => e.elim) (fun k e => e.elim) (fun k e => e.elim), (HBW.out.setCell (p := ⟨w.heap.size, 0, none⟩) (Nat.le_refl _) _).setCell (p := ⟨w.heap.size, 1, none⟩) (Nat.le_refl _) _⟩
      clear s0 s1 sz f0 f1 hS
      obtain ⟨M, hM⟩ : ∃ M, M = List.map mkPr (vs.take k) := ⟨_, rfl⟩
      rw [← hM] at HS HPT HML
      clear hM
      have HTK2 := Hid.intro (HTK.out c2)
      have hml : M.length ≤ 1000 := by have := HML.out; omega
      have hzb : b + 1 ≤ wr.heap.size := HS.out.1.2.2.2.2.2.1
      have HD : Hid (SyN w b wr.drew n v M) := HS.out.1.next (below_drew _)
      clear HS
      go_upto_region 9 with (first | (go_at_call 62; refine (isValue_any _ _ HTS.out.1).mono ?_; rintro e w' ⟨rfl, hw⟩; have hw := hw.symm; subst hw; rw [c2]))
      refine wp_region_noPanic ?_
      refine wp_region_held_drew (S := fun W => True) (by kernel_rfl) trivial (fun hHeld => ?_)
      refine take_v (v := ?_) 0 ⟨some 32, Op.fieldAddr 30 (Operand.tmp 6) 1, _, _, _, none⟩ rfl (fun _ _ _ h => h) ?_ hHeld ?_
      rotate_left
      · (intro W _; go_simp <;> (try with_reducible rfl))
      refine take_v (v := ?_) 2 ⟨some 34, Op.move (Operand.tmp 8), _, _, _, none⟩ rfl (fun _ _ _ h => h) ?_ hHeld ?_
      rotate_left
      · (intro W _; go_simp <;> (try with_reducible rfl))
      refine ready_two 1 3 ⟨some 33, Op.load 28 (Operand.tmp 32), _, _, _, none⟩ ⟨some 35, Op.call { callee := Callee.value (Operand.func 53), args := #[Operand.tmp 34], argTypes := #[9] }, _, _, _, none⟩ (by kernel_rfl) rfl rfl (by kernel_rfl) (by kernel_rfl) (fun KC hK => ?_) (fun KC hK => ?_)
      ·
        have r0 := HD.out.2.2.1.cell 0 rfl
        have r1 := HD.out.2.2.1.cell 1 rfl
        have rz := HD.out.2.2.1.2
        go_wp2_with fail
        clear r0 r1 rz
        refine hK.out _ _ trivial (fun hHeld => ?_)
        clear hK KC
        refine ready_call 3 ⟨some 35, Op.call { callee := Callee.value (Operand.func 53), args := #[Operand.tmp 34], argTypes := #[9] }, _, _, _, none⟩ (by kernel_rfl) rfl (by kernel_rfl) (fun KC hK => ?_)
        go_wp2_with fail
        refine (clone_any _ _ HTS.out.2).mono ?_
        rintro r w3 ⟨rfl, hb⟩
        have HD := (show Hid (SyN w b w3 n v M) from HD.out.next hb)
        have hz3 : b + 1 ≤ w3.heap.size := HD.out.2.2.2.2.2.1
        clear hb
        refine hK.out _ _ trivial (fun hHeld => ?_)
        clear hK KC
        refine take_v (v := ?_) 4 ⟨some 36, Op.build 43 #[(0, Operand.tmp 35)], _, _, _, none⟩ rfl (fun _ _ _ h => h) ?_ hHeld ?_
        rotate_left
        · (intro W _; go_simp <;> (try with_reducible rfl))
        refine ready_call 5 ⟨some 37, Op.buildSlice 28 1 #[(0, Operand.tmp 36)], _, _, _, none⟩ (by kernel_rfl) rfl (by kernel_rfl) (fun KC hK => ?_)
        go_wp2_with fail
        have hS3 := HD.out.next (Go.Joins.below_alloc1 w3 (.cells #[.string t, .slice none 0 0, .bool false, .string ⟨#[]⟩, .slice none 0 0] 43))
        obtain ⟨xs, B, ho, hR⟩ := hS3.2.2.2.1
        have HR : Hid (SyN w b (w3.alloc (.cells #[.string t, .slice none 0 0, .bool false, .string ⟨#[]⟩, .slice none 0 0] 43)) n v M ∧ AppR (w3.alloc (.cells #[.string t, .slice none 0 0, .bool false, .string ⟨#[]⟩, .slice none 0 0] 43)) (b + 1) shProposer v M xs B ∧ (w3.alloc (.cells #[.string t, .slice none 0 0, .bool false, .string ⟨#[]⟩, .slice none 0 0] 43)).ownsRow (b + 1) 43 5 v M.length xs) := ⟨hS3, hR, ho⟩
        have HNW := Hid.intro (cells_new w3 [.string t, .slice none 0 0, .bool false, .string ⟨#[]⟩, .slice none 0 0] 43)
        clear hS3 ho hR
        refine hK.out _ _ trivial (fun hHeld => ?_)
        clear hK KC
        refine ready_call 6 ⟨some 38, Op.call { callee := Callee.builtin Builtin.append, args := #[Operand.tmp 33, Operand.tmp 37], argTypes := #[28, 28] }, _, _, _, none⟩ (by kernel_rfl) rfl (by kernel_rfl) (fun KC hK => ?_)
        refine wp_append_at _ (.tmp 33) (.tmp 37) 28 (by rfl) (b + 1) 43 i0 (.agg #[.string ⟨#[]⟩, .slice none 0 0, .bool false, .string ⟨#[]⟩, .slice none 0 0]) 5 88 Try.underlying28 hi0 hz0 hz1 hz2 rfl (by decide) v M.length xs (by rfl) HR.out.2.2 ⟨w3.heap.size, 0, none⟩ 1 1 [.string t, .slice none 0 0, .bool false, .string ⟨#[]⟩, .slice none 0 0] (by rfl) rfl HNW.out (by intro u hu; simp at hu; rcases hu with rfl | rfl | rfl | rfl | rfl <;> rfl) (by unfold maxLen; omega) (by omega) (by simp; omega) ?_
        intro v9 w9 hown9 hgrow9 hwh9
        have HF := Hid.intro (SyN.app HR.out.1 HR.out.2.1 HR.out.2.2 hown9 hgrow9 hwh9)
        obtain ⟨a9, c9, hv9, _, _⟩ := HF.out.1.2.2.2.1.own
        rw [List.length_append, List.length_singleton] at hv9
        subst hv9
        clear hown9 hgrow9 hwh9
        refine hK.out _ _ trivial (fun hHeld => ?_)
        clear hK KC
        refine take_v (v := ?_) 7 ⟨some 39, Op.fieldAddr 30 (Operand.tmp 6) 1, _, _, _, none⟩ rfl (fun _ _ _ h => h) ?_ hHeld ?_
        rotate_left
        · (intro W _; go_simp <;> (try with_reducible rfl))
        refine ready_call 8 ⟨none, Op.store 28 (Operand.tmp 39) (Operand.tmp 38), _, _, _, none⟩ (by kernel_rfl) rfl (by kernel_rfl) (fun KC hK => ?_)
        have r0 := HF.out.2.cell 0 rfl
        have r1 := HF.out.2.cell 1 rfl
        have rz := HF.out.2.2
        have q0 := HF.out.2.frz 0 (by simp)
        have q1 := HF.out.2.frz 1 (by simp)
        go_wp2_with fail
        clear r0 r1 rz q0 q1
        refine hK.out _ _ trivial (fun hHeld => ?_)
        clear hK KC
        refine wpAnyH_done (by kernel_rfl) ?_ _
        refine NoPanic.normal ?_
        clear hHeld
        go_wp2
        go_roundw
        case rel => exact ⟨k + 1, _, by omega, by go_num, by rw [HPT.out]; exact HF.out.1, HTK2.out⟩
        case measure => simp [intOf]; omega
      ·
        go_wp2_with fail
        refine (clone_any _ _ HTS.out.2).mono ?_
        rintro r w3 ⟨rfl, hb⟩
        have HD := (show Hid (SyN w b w3 n v M) from HD.out.next hb)
        have hz3 : b + 1 ≤ w3.heap.size := HD.out.2.2.2.2.2.1
        clear hb
        refine hK.out _ _ trivial (fun hHeld => ?_)
        clear hK KC
        refine take_v (v := ?_) 4 ⟨some 36, Op.build 43 #[(0, Operand.tmp 35)], _, _, _, none⟩ rfl (fun _ _ _ h => h) ?_ hHeld ?_
        rotate_left
        · (intro W _; go_simp <;> (try with_reducible rfl))
        refine ready_two 1 5 ⟨some 33, Op.load 28 (Operand.tmp 32), _, _, _, none⟩ ⟨some 37, Op.buildSlice 28 1 #[(0, Operand.tmp 36)], _, _, _, none⟩ (by kernel_rfl) rfl rfl (by kernel_rfl) (by kernel_rfl) (fun KC hK => ?_) (fun KC hK => ?_)
        ·
          have r0 := HD.out.2.2.1.cell 0 rfl
          have r1 := HD.out.2.2.1.cell 1 rfl
          have rz := HD.out.2.2.1.2
          go_wp2_with fail
          clear r0 r1 rz
          refine hK.out _ _ trivial (fun hHeld => ?_)
          clear hK KC
          refine ready_call 5 ⟨some 37, Op.buildSlice 28 1 #[(0, Operand.tmp 36)], _, _, _, none⟩ (by kernel_rfl) rfl (by kernel_rfl) (fun KC hK => ?_)
          go_wp2_with fail
          have hS3 := HD.out.next (Go.Joins.below_alloc1 w3 (.cells #[.string t, .slice none 0 0, .bool false, .string ⟨#[]⟩, .slice none 0 0] 43))
          obtain ⟨xs, B, ho, hR⟩ := hS3.2.2.2.1
          have HR : Hid (SyN w b (w3.alloc (.cells #[.string t, .slice none 0 0, .bool false, .string ⟨#[]⟩, .slice none 0 0] 43)) n v M ∧ AppR (w3.alloc (.cells #[.string t, .slice none 0 0, .bool false, .string ⟨#[]⟩, .slice none 0 0] 43)) (b + 1) shProposer v M xs B ∧ (w3.alloc (.cells #[.string t, .slice none 0 0, .bool false, .string ⟨#[]⟩, .slice none 0 0] 43)).ownsRow (b + 1) 43 5 v M.length xs) := ⟨hS3, hR, ho⟩
          have HNW := Hid.intro (cells_new w3 [.string t, .slice none 0 0, .bool false, .string ⟨#[]⟩, .slice none 0 0] 43)
          clear hS3 ho hR
          refine hK.out _ _ trivial (fun hHeld => ?_)
          clear hK KC
          refine ready_call 6 ⟨some 38, Op.call { callee := Callee.builtin Builtin.append, args := #[Operand.tmp 33, Operand.tmp 37], argTypes := #[28, 28] }, _, _, _, none⟩ (by kernel_rfl) rfl (by kernel_rfl) (fun KC hK => ?_)
          refine wp_append_at _ (.tmp 33) (.tmp 37) 28 (by rfl) (b + 1) 43 i0 (.agg #[.string ⟨#[]⟩, .slice none 0 0, .bool false, .string ⟨#[]⟩, .slice none 0 0]) 5 88 Try.underlying28 hi0 hz0 hz1 hz2 rfl (by decide) v M.length xs (by rfl) HR.out.2.2 ⟨w3.heap.size, 0, none⟩ 1 1 [.string t, .slice none 0 0, .bool false, .string ⟨#[]⟩, .slice none 0 0] (by rfl) rfl HNW.out (by intro u hu; simp at hu; rcases hu with rfl | rfl | rfl | rfl | rfl <;> rfl) (by unfold maxLen; omega) (by omega) (by simp; omega) ?_
          intro v9 w9 hown9 hgrow9 hwh9
          have HF := Hid.intro (SyN.app HR.out.1 HR.out.2.1 HR.out.2.2 hown9 hgrow9 hwh9)
          obtain ⟨a9, c9, hv9, _, _⟩ := HF.out.1.2.2.2.1.own
          rw [List.length_append, List.length_singleton] at hv9
          subst hv9
          clear hown9 hgrow9 hwh9
          refine hK.out _ _ trivial (fun hHeld => ?_)
          clear hK KC
          refine take_v (v := ?_) 7 ⟨some 39, Op.fieldAddr 30 (Operand.tmp 6) 1, _, _, _, none⟩ rfl (fun _ _ _ h => h) ?_ hHeld ?_
          rotate_left
          · (intro W _; go_simp <;> (try with_reducible rfl))
          refine ready_call 8 ⟨none, Op.store 28 (Operand.tmp 39) (Operand.tmp 38), _, _, _, none⟩ (by kernel_rfl) rfl (by kernel_rfl) (fun KC hK => ?_)
          have r0 := HF.out.2.cell 0 rfl
          have r1 := HF.out.2.cell 1 rfl
          have rz := HF.out.2.2
          have q0 := HF.out.2.frz 0 (by simp)
          have q1 := HF.out.2.frz 1 (by simp)
          go_wp2_with fail
          clear r0 r1 rz q0 q1
          refine hK.out _ _ trivial (fun hHeld => ?_)
          clear hK KC
          refine wpAnyH_done (by kernel_rfl) ?_ _
          refine NoPanic.normal ?_
          clear hHeld
          go_wp2
          go_roundw
          case rel => exact ⟨k + 1, _, by omega, by go_num, by rw [HPT.out]; exact HF.out.1, HTK2.out⟩
          case measure => simp [intOf]; omega
        ·
          go_wp2_with fail
          have hS3 := HD.out.next (Go.Joins.below_alloc1 w3 (.cells #[.string t, .slice none 0 0, .bool false, .string ⟨#[]⟩, .slice none 0 0] 43))
          obtain ⟨xs, B, ho, hR⟩ := hS3.2.2.2.1
          have HR : Hid (SyN w b (w3.alloc (.cells #[.string t, .slice none 0 0, .bool false, .string ⟨#[]⟩, .slice none 0 0] 43)) n v M ∧ AppR (w3.alloc (.cells #[.string t, .slice none 0 0, .bool false, .string ⟨#[]⟩, .slice none 0 0] 43)) (b + 1) shProposer v M xs B ∧ (w3.alloc (.cells #[.string t, .slice none 0 0, .bool false, .string ⟨#[]⟩, .slice none 0 0] 43)).ownsRow (b + 1) 43 5 v M.length xs) := ⟨hS3, hR, ho⟩
          have HNW := Hid.intro (cells_new w3 [.string t, .slice none 0 0, .bool false, .string ⟨#[]⟩, .slice none 0 0] 43)
          clear hS3 ho hR
          refine hK.out _ _ trivial (fun hHeld => ?_)
          clear hK KC
          refine ready_call 1 ⟨some 33, Op.load 28 (Operand.tmp 32), _, _, _, none⟩ (by kernel_rfl) rfl (by kernel_rfl) (fun KC hK => ?_)
          have r0 := HD.out.2.2.1.cell 0 rfl
          have r1 := HD.out.2.2.1.cell 1 rfl
          have rz := HD.out.2.2.1.2
          go_wp2_with fail
          clear r0 r1 rz
          refine hK.out _ _ trivial (fun hHeld => ?_)
          clear hK KC
          refine ready_call 6 ⟨some 38, Op.call { callee := Callee.builtin Builtin.append, args := #[Operand.tmp 33, Operand.tmp 37], argTypes := #[28, 28] }, _, _, _, none⟩ (by kernel_rfl) rfl (by kernel_rfl) (fun KC hK => ?_)
          refine wp_append_at _ (.tmp 33) (.tmp 37) 28 (by rfl) (b + 1) 43 i0 (.agg #[.string ⟨#[]⟩, .slice none 0 0, .bool false, .string ⟨#[]⟩, .slice none 0 0]) 5 88 Try.underlying28 hi0 hz0 hz1 hz2 rfl (by decide) v M.length xs (by rfl) HR.out.2.2 ⟨w3.heap.size, 0, none⟩ 1 1 [.string t, .slice none 0 0, .bool false, .string ⟨#[]⟩, .slice none 0 0] (by rfl) rfl HNW.out (by intro u hu; simp at hu; rcases hu with rfl | rfl | rfl | rfl | rfl <;> rfl) (by unfold maxLen; omega) (by omega) (by simp; omega) ?_
          intro v9 w9 hown9 hgrow9 hwh9
          have HF := Hid.intro (SyN.app HR.out.1 HR.out.2.1 HR.out.2.2 hown9 hgrow9 hwh9)
          obtain ⟨a9, c9, hv9, _, _⟩ := HF.out.1.2.2.2.1.own
          rw [List.length_append, List.length_singleton] at hv9
          subst hv9
          clear hown9 hgrow9 hwh9
          refine hK.out _ _ trivial (fun hHeld => ?_)
          clear hK KC
          refine take_v (v := ?_) 7 ⟨some 39, Op.fieldAddr 30 (Operand.tmp 6) 1, _, _, _, none⟩ rfl (fun _ _ _ h => h) ?_ hHeld ?_
          rotate_left
          · (intro W _; go_simp <;> (try with_reducible rfl))
          refine ready_call 8 ⟨none, Op.store 28 (Operand.tmp 39) (Operand.tmp 38), _, _, _, none⟩ (by kernel_rfl) rfl (by kernel_rfl) (fun KC hK => ?_)
          have r0 := HF.out.2.cell 0 rfl
          have r1 := HF.out.2.cell 1 rfl
          have rz := HF.out.2.2
          have q0 := HF.out.2.frz 0 (by simp)
          have q1 := HF.out.2.frz 1 (by simp)
          go_wp2_with fail
          clear r0 r1 rz q0 q1
          refine hK.out _ _ trivial (fun hHeld => ?_)
          clear hK KC
          refine wpAnyH_done (by kernel_rfl) ?_ _
          refine NoPanic.normal ?_
          clear hHeld
          go_wp2
          go_roundw
          case rel => exact ⟨k + 1, _, by omega, by go_num, by rw [HPT.out]; exact HF.out.1, HTK2.out⟩
          case measure => simp [intOf]; omega
    · have hkn : k = nv := by omega
      have HP : Hid (nwP n vs) := Hid.intro ⟨by omega, by have := HNV.out; omega, by have := hV; rwa [hkn, HNV.out, List.take_length] at this⟩
      have HE := Hid.intro (nw_some HP.out)
      have hS2 : SyN w b wr n v (List.map mkPr vs) := by have := hS; rwa [hkn, HNV.out, List.take_length] at this
      obtain ⟨av, cv, hve, hO⟩ := hS2.done
      subst hve
      have s0 := (hS.1).cell 0 rfl; have s1 := (hS.1).cell 1 rfl; have sz := (hS.1).2
      have f0 := hS.1.frz 0 (by simp)
      have f1 := hS.1.frz 1 (by simp)
      have p0 := (hS.2.2.1).cell 0 rfl; have p1 := (hS.2.2.1).cell 1 rfl; have pz := (hS.2.2.1).2
      have HF : Hid (Below w.heap.size w wr) := hS.2.2.2.2.1
      have HO := Hid.intro hO
      clear hS hS2 hV HS hkn hO
      go_wp2
      have hq := HO.out
      refine bodyPost_ret (v := .tuple #[.agg #[.slice (some ⟨w.heap.size + 1, 0, none⟩) n n, .slice av (List.map mkPr vs).length cv], .bool true]) (by simp [results, Try.results25, go_sem, *]) rfl ?_
      rw [HE.out.1, HE.out.2.1, HE.out.2.2, Int.toNat_natCast]
      exact ⟨[.slice (some ⟨w.heap.size + 1, 0, none⟩) n n, .slice av (List.map mkPr vs).length cv], rfl, by simpa using hq, (HF.out.setCell (p := ⟨w.heap.size, 0, none⟩) (Nat.le_refl _) _).setCell (p := ⟨w.heap.size, 1, none⟩) (Nat.le_refl _) _⟩


set_option maxRecDepth 100000 in
set_option maxHeartbeats 4000000 in
theorem specNewSynod_n (m : Int) (a : Option Addr) (cap : Nat) (vs : List (Sh.T .str)) (w : World) (hz : szD (.list .str) vs ≤ 1073741824) (h : Lies w (.list .str) [.slice a vs.length cap] vs) :
    Calls Try.prog 23 #[.int .i64 m, .slice a vs.length cap] w (AnsP shSynod (nwAc m vs, nwPs m vs, ()) (tf (nwP m vs)) w) := by
  have HL : Hid (Lies w (.list .str) [.slice a vs.length cap] vs ∧ szD (.list .str) vs ≤ 1073741824) := ⟨h, hz⟩
  have hn : vs.length ≤ 1073741824 := by simp only [szD] at hz; omega
  clear h hz
  obtain ⟨nv, hnn⟩ : ∃ n, n = vs.length := ⟨_, rfl⟩
  have HNV : Hid (nv = vs.length) := hnn
  rw [← hnn] at hn ⊢
  clear hnn
  cases c0 : inR m 1 12
  · obtain ⟨e1, e2, e3⟩ := nw_none (m := m) (vs := vs) (fun q => by rw [inR_iff.2 q.1] at c0; cases c0)
    rw [e1, e2, e3]
    clear e1 e2 e3
    go_enter Try.func23, Try.ntmps23
    go_wp2_with (first | (go_at_call 57; refine (l8Nodes_any _ _).mono ?_; rintro e w' ⟨rfl, rfl⟩) | (go_at_call 58; refine (l1In_any _ _ _ _).mono ?_; rintro e w' ⟨rfl, rfl⟩))
    exact bodyPost_ret (v := .tuple #[.agg #[.slice none 0 0, .slice none 0 0], .bool false]) (by simp [results, Try.results23, go_sem, *]) rfl ⟨[.slice none 0 0, .slice none 0 0], rfl, mkown_Synod (Own.none (S := fun _ => False) (Nat.zero_le _)) (Own.none (S := fun _ => False) (Nat.zero_le _)) (fun k e => e.elim) (fun k e => e.elim) (fun k e => e.elim), (by repeat (first | refine Below.setCell ?_ (by (try simp) <;> omega) _ | refine Below.alloc ?_ (by (try simp) <;> omega) _ | refine Below.drew ?_ | assumption | exact Below.refl _ _ | refine Below.trans ?_ (Below.mono (by assumption) (by (try simp) <;> omega))))⟩
  cases c1 : inR (nv : Int) 1 8
  · obtain ⟨e1, e2, e3⟩ := nw_none (m := m) (vs := vs) (fun q => by have h1 := q.2.1; rw [← HNV.out] at h1; rw [inR_iff.2 (by omega)] at c1; cases c1)
    rw [e1, e2, e3]
    clear e1 e2 e3
    go_enter Try.func23, Try.ntmps23
    go_wp2_with (first | (go_at_call 57; refine (l8Nodes_any _ _).mono ?_; rintro e w' ⟨rfl, rfl⟩) | (go_at_call 58; refine (l1In_any _ _ _ _).mono ?_; rintro e w' ⟨rfl, rfl⟩))
    exact bodyPost_ret (v := .tuple #[.agg #[.slice none 0 0, .slice none 0 0], .bool false]) (by simp [results, Try.results23, go_sem, *]) rfl ⟨[.slice none 0 0, .slice none 0 0], rfl, mkown_Synod (Own.none (S := fun _ => False) (Nat.zero_le _)) (Own.none (S := fun _ => False) (Nat.zero_le _)) (fun k e => e.elim) (fun k e => e.elim) (fun k e => e.elim), (by repeat (first | refine Below.setCell ?_ (by (try simp) <;> omega) _ | refine Below.alloc ?_ (by (try simp) <;> omega) _ | refine Below.drew ?_ | assumption | exact Below.refl _ _ | refine Below.trans ?_ (Below.mono (by assumption) (by (try simp) <;> omega))))⟩
  have hb := inR_iff.1 c0
  have hb8 := inR_iff.1 c1
  obtain ⟨n, rfl⟩ : ∃ n : Nat, m = (n : Int) := ⟨m.toNat, by omega⟩
  obtain ⟨i0, hi0, hz0, hz1, hz2⟩ := info_parts inf_Acceptor
  go_enter Try.func23, Try.ntmps23
  go_wp2_with (first | (go_at_call 57; refine (l8Nodes_any _ _).mono ?_; rintro e w' ⟨rfl, rfl⟩) | (go_at_call 58; refine (l1In_any _ _ _ _).mono ?_; rintro e w' ⟨rfl, rfl⟩) | (at_make; refine wpList_make_full _ rfl (.tmp 19) (.tmp 19) 27 rfl (w.heap.size + 1) 91 i0 (.agg #[.int .i64 0, .int .i64 0, .string ⟨#[]⟩]) 3 Try.underlying27 hi0 hz0 hz1 .i64 .i64 _ _ n rfl rfl rfl rfl (by rw [hz2]; omega) (by unfold maxLen; omega) (by simp) ?_; intro w1 hown hgrow; have hBx : Bx w1 w.heap.size [.slice none 0 0, .slice none 0 0] := (Bx.new w [_, _] _).grow hgrow (fun q => by cases q)))
  rw [World.size_alloc] at hown
  have HI : Hid (SyN w w1.heap.size (w1.alloc (.cells #[.slice (some ⟨w.heap.size + 1, 0, none⟩) n n, .slice none 0 0] 30)) n (.slice none 0 0) (List.map mkPr (vs.take 0)) ∧ ∀ v ∈ vs.take 0, valOk v = true) := ⟨SyN.start hBx hown (((Below.refl _ _).alloc (Nat.le_refl _) _).grown hgrow (by simp) (fun k hk => by cases hk)), fun v hv => by simp at hv⟩
  obtain ⟨b, hbE⟩ : ∃ b, b = w1.heap.size := ⟨_, rfl⟩
  rw [← hbE] at HI ⊢
  clear hown hgrow hBx hi0 hz0 hz1 hz2 hbE
  obtain ⟨i0, hi0, hz0, hz1, hz2⟩ := info_parts inf_Proposer
  go_loopw [24] (fun i wr => ∃ (k : Nat) (v : Value), k ≤ nv ∧ i = .int .i64 k ∧ (SyN w b wr n v (List.map mkPr (vs.take k)) ∧ ∀ v ∈ vs.take k, valOk v = true)) (fun i _ => nv - (intOf i).toNat)
  case atStart => exact ⟨0, _, Nat.zero_le _, rfl, HI.out⟩
  case round =>
    obtain ⟨k, v, hk, rfl, hS, hV⟩ := hrel
    clear HI
    have HS : Hid (SyN w b wr n v (List.map mkPr (vs.take k)) ∧ ∀ v ∈ vs.take k, valOk v = true) := ⟨hS, hV⟩
    by_cases hlt : k < nv
    · have hlx : k < vs.length := by have := HNV.out; omega
      have hlt' : (k : Int) < (nv : Int) := by omega
      obtain ⟨xg, xoff, hxa, _⟩ := Lies.elem HL.out.1 hlx
      subst hxa
      obtain ⟨xc, xgs⟩ := str_elem (HL.out.1.next hS.2.2.2.2.1) hlx
      have hts := str_size HL.out.2 hlx
      have HPT : Hid (List.map mkPr (vs.take (k + 1)) = List.map mkPr (vs.take k) ++ [mkPr vs[k]]) := Hid.intro (pr_take hlx)
      have HML : Hid ((List.map mkPr (vs.take k)).length = k) := Hid.intro (by rw [List.length_map, List.length_take]; omega)
      have HTK : Hid (valOk vs[k] = true → ∀ v ∈ vs.take (k + 1), valOk v = true) := Hid.intro (fun q => mem_take_succ hlx hV q)
      have HNO : Hid (valOk vs[k] = false → ¬ nwP n vs) := Hid.intro (fun q p => by have := p.2.2 vs[k] (List.getElem_mem hlx); rw [q] at this; cases this)
      generalize vs[k] = t at *
      have HTS : Hid (t.size ≤ maxLen ∧ t.size ≤ 281474976710656) := ⟨size_text hts, by omega⟩
      have s0 := (hS.1).cell 0 rfl; have s1 := (hS.1).cell 1 rfl; have sz := (hS.1).2
      have f0 := hS.1.frz 0 (by simp)
      have f1 := hS.1.frz 1 (by simp)
      have HBW : Hid (Below w.heap.size w wr) := hS.2.2.2.2.1
      clear hV hts
      cases c2 : valOk t
      · obtain ⟨e1, e2, e3⟩ := nw_none (HNO.out c2)
        rw [e1, e2, e3]
        clear e1 e2 e3 hS
        go_wp2_with (first | (go_at_call 60; refine (l1Value_any _ _ HTS.out.1).mono ?_; rintro e w' ⟨rfl, rfl⟩))
        exact bodyPost_ret (v := .tuple #[.agg #[.slice none 0 0, .slice none 0 0], .bool false]) (by simp [results, Try.results23, go_sem, *]) rfl ⟨[.slice none 0 0, .slice none 0 0], rfl, mkown_Synod (Own.none (S := fun _ => False) (Nat.zero_le _)) (Own.none (S := fun _ => False) (Nat.zero_le _)) (fun k e => e.elim) (fun k e => e.elim) (fun k e => e.elim), (HBW.out.setCell (p := ⟨w.heap.size, 0, none⟩) (Nat.le_refl _) _).setCell (p := ⟨w.heap.size, 1, none⟩) (Nat.le_refl _) _⟩
      clear s0 s1 sz f0 f1 hS
      obtain ⟨M, hM⟩ : ∃ M, M = List.map mkPr (vs.take k) := ⟨_, rfl⟩
      rw [← hM] at HS HPT HML
      clear hM
      have hS3 := HS.out.1.next (Go.Joins.below_alloc1 wr (.cells #[.string t, .slice none 0 0, .bool false, .string ⟨#[]⟩, .slice none 0 0] 43))
      obtain ⟨xs, B, ho, hR⟩ := hS3.2.2.2.1
      have HR : Hid (SyN w b (wr.alloc (.cells #[.string t, .slice none 0 0, .bool false, .string ⟨#[]⟩, .slice none 0 0] 43)) n v M ∧ AppR (wr.alloc (.cells #[.string t, .slice none 0 0, .bool false, .string ⟨#[]⟩, .slice none 0 0] 43)) (b + 1) shProposer v M xs B ∧ (wr.alloc (.cells #[.string t, .slice none 0 0, .bool false, .string ⟨#[]⟩, .slice none 0 0] 43)).ownsRow (b + 1) 43 5 v M.length xs) := ⟨hS3, hR, ho⟩
      have HNW := Hid.intro (cells_new wr [.string t, .slice none 0 0, .bool false, .string ⟨#[]⟩, .slice none 0 0] 43)
      have HTK2 := Hid.intro (HTK.out c2)
      have p0 := (HS.out.1.2.2.1).cell 0 rfl; have p1 := (HS.out.1.2.2.1).cell 1 rfl; have pz := (HS.out.1.2.2.1).2
      have hml : M.length ≤ 1000 := by have := HML.out; omega
      have hzb : b + 1 ≤ wr.heap.size := HS.out.1.2.2.2.2.2.1
      clear ho hR hS3 HS
      go_wp2_with (first | (go_at_call 60; refine (l1Value_any _ _ HTS.out.1).mono ?_; rintro e w' ⟨rfl, hw⟩; have hw := hw.symm; subst hw) | (at_builtin; refine wpList_append_own_at _ rfl (.tmp 33) (.tmp 36) 28 rfl (b + 1) 43 i0 (.agg #[.string ⟨#[]⟩, .slice none 0 0, .bool false, .string ⟨#[]⟩, .slice none 0 0]) 5 88 Try.underlying28 hi0 hz0 hz1 hz2 rfl (by decide) v M.length (xs) rfl (HR.out.2.2) ⟨wr.heap.size, 0, none⟩ 1 1 [.string t, .slice none 0 0, .bool false, .string ⟨#[]⟩, .slice none 0 0] rfl rfl (HNW.out) (by intro u hu; simp at hu; rcases hu with rfl | rfl | rfl | rfl | rfl <;> rfl) (by unfold maxLen; omega) (by omega) (by simp <;> omega) ?_; intro v9 w9 hown9 hgrow9 hnil9 hwh9; have HF := Hid.intro (SyN.app HR.out.1 HR.out.2.1 HR.out.2.2 hown9 hgrow9 hwh9); obtain ⟨a9, c9, hv9, _, _⟩ := HF.out.1.2.2.2.1.own; rw [List.length_append, List.length_singleton] at hv9; subst hv9; have r0 := HF.out.2.cell 0 rfl; have r1 := HF.out.2.cell 1 rfl; have rz := HF.out.2.2; have q0 := HF.out.2.frz 0 (by simp); have q1 := HF.out.2.frz 1 (by simp); clear hown9 hgrow9 hnil9 hwh9))
      go_roundw
      case rel => exact ⟨k + 1, _, by omega, by go_num, by rw [HPT.out]; exact HF.out.1, HTK2.out⟩
      case measure => simp [intOf]; omega
    · have hkn : k = nv := by omega
      have HP : Hid (nwP n vs) := Hid.intro ⟨by omega, by have := HNV.out; omega, by have := hV; rwa [hkn, HNV.out, List.take_length] at this⟩
      have HE := Hid.intro (nw_some HP.out)
      have hS2 : SyN w b wr n v (List.map mkPr vs) := by have := hS; rwa [hkn, HNV.out, List.take_length] at this
      obtain ⟨av, cv, hve, hO⟩ := hS2.done
      subst hve
      have s0 := (hS.1).cell 0 rfl; have s1 := (hS.1).cell 1 rfl; have sz := (hS.1).2
      have f0 := hS.1.frz 0 (by simp)
      have f1 := hS.1.frz 1 (by simp)
      have p0 := (hS.2.2.1).cell 0 rfl; have p1 := (hS.2.2.1).cell 1 rfl; have pz := (hS.2.2.1).2
      have HF : Hid (Below w.heap.size w wr) := hS.2.2.2.2.1
      have HO := Hid.intro hO
      clear hS hS2 hV HS hkn hO
      go_wp2
      have hq := HO.out
      refine bodyPost_ret (v := .tuple #[.agg #[.slice (some ⟨w.heap.size + 1, 0, none⟩) n n, .slice av (List.map mkPr vs).length cv], .bool true]) (by simp [results, Try.results23, go_sem, *]) rfl ?_
      rw [HE.out.1, HE.out.2.1, HE.out.2.2, Int.toNat_natCast]
      exact ⟨[.slice (some ⟨w.heap.size + 1, 0, none⟩) n n, .slice av (List.map mkPr vs).length cv], rfl, by simpa using hq, (HF.out.setCell (p := ⟨w.heap.size, 0, none⟩) (Nat.le_refl _) _).setCell (p := ⟨w.heap.size, 1, none⟩) (Nat.le_refl _) _⟩

end Go.Proofs.Ytmhkfangfhanlaa
