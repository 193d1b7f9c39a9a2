/- Synods: the program's cloneProposer. -/
import Derived.Test.YtmhkfangfhanlaaMgD
import Derived.Test.YtmhkfangfhanlaaNtT
import Derived.Test.YtmhkfangfhanlaaCln
import Derived.Test.YtmhkfangfhanlaaShM
namespace Go.Proofs.Ytmhkfangfhanlaa
open Go.RowKit
set_option linter.unusedVariables false
set_option linter.unusedSimpArgs false

abbrev prC (l : List (Sh.T shPromise)) : List Value := List.flatMap (valC tyPromise) l
abbrev inC (l : List (Sh.T .int)) : List Value := List.flatMap (valC .int) l
def mkPm (n b : Int) (t : ByteArray) : Sh.T shPromise := (n, b, t, ())
theorem flatMap_snoc {α : Type} (f : α → List Value) (l : List α) (x : α) : List.flatMap f (l ++ [x]) = List.flatMap f l ++ f x := by rw [List.flatMap_append]; simp
/-- While a proposer is cloned: the clone in block b, the answer's cell. -/
def CpS (w wr : World) (b : Nat) (own : ByteArray) (v1 : Value) (l : List (Sh.T shPromise)) (fx : Bool) (val : ByteArray) (v2 : Value) (vt : List (Sh.T .int)) : Prop :=
  Bx wr b [.string own, v1, .bool fx, .string val, v2] ∧ Bx wr (w.heap.size + 1) [.string ⟨#[]⟩, .slice none 0 0, .bool false, .string ⟨#[]⟩, .slice none 0 0] ∧
    wr.ownsRow (w.heap.size + 2) 96 3 v1 l.length (prC l) ∧ wr.ownsRow (w.heap.size + 2) 3 1 v2 vt.length (inC vt) ∧ (∀ k, v1.ownBlock = some k → k ≠ b ∧ v2.ownBlock ≠ some k) ∧ (∀ k, v2.ownBlock = some k → k ≠ b) ∧ w.heap.size + 1 < b ∧ Below w.heap.size w wr
section
variable {w wr wr' : World} {b : Nat} {own : ByteArray} {v1 : Value} {l : List (Sh.T shPromise)} {fx : Bool} {val : ByteArray} {v2 : Value} {vt : List (Sh.T .int)}
theorem CpS.next (h : CpS w wr b own v1 l fx val v2 vt) (hb : Below wr.heap.size wr wr') : CpS w wr' b own v1 l fx val v2 vt :=
  ⟨h.1.next hb, h.2.1.next hb, ownsRow_next h.2.2.1 hb, ownsRow_next h.2.2.2.1 hb, h.2.2.2.2.1, h.2.2.2.2.2.1, h.2.2.2.2.2.2.1, below_next h.2.2.2.2.2.2.2 hb⟩
theorem CpS.app {W W9 : World} {v9 : Value} {n b1 : Int} {t : ByteArray} (h : CpS w W b own v1 l fx val v2 vt) (h2 : W9.ownsRow (w.heap.size + 2) 96 3 v9 (l.length + 1) (prC l ++ [.int .i64 n, .int .i64 b1, .string t])) (hg : W.grownBy W9 v1.ownBlock) (hwh : v9.ownBlock = v1.ownBlock ∨ v9.ownBlock = some W.heap.size) :
    CpS w (W9.setCell ⟨b, 1, none⟩ v9) b own v9 (l ++ [mkPm n b1 t]) fx val v2 vt ∧ Bx W9 b [.string own, v1, .bool fx, .string val, v2] := by
  obtain ⟨h1, hz, ho1, ho2, ha1, ha2, hbb, hB⟩ := h
  have hl1 : ∀ k, v1.ownBlock = some k → w.heap.size + 2 ≤ k := fun k hk => (ho1.lt k hk).1
  have g1 := h1.grow hg (fun q => (ha1 b q.symm).1 rfl)
  have gz := hz.grow hg (fun q => by have := hl1 _ q.symm; omega)
  have ht := turn_set W9 ⟨b, 1, none⟩ v9
  have go2 : W9.ownsRow (w.heap.size + 2) 3 1 v2 vt.length (inC vt) := by
    obtain ⟨q0, q1⟩ := ho2
    refine ⟨q0, ?_⟩
    rcases q1 with q1 | ⟨g, cap, cur, hv, hgb, hh, r⟩
    · exact Or.inl q1
    · refine Or.inr ⟨g, cap, cur, hv, hgb, ?_, r⟩
      rw [hg.block g (by rcases Nat.lt_or_ge g W.heap.size with q | q; (· exact q); rw [Array.getElem?_eq_none q] at hh; cases hh) (fun q => (ha1 g q.symm).2 (by rw [hv]; rfl))]
      exact hh
  have hlt9 : ∀ k, v9.ownBlock = some k → k ≠ b ∧ v2.ownBlock ≠ some k := by
    intro k hk
    rcases hwh with q | q
    · exact ha1 k (q ▸ hk)
    · rw [q] at hk; cases hk
      exact ⟨fun e => by have := h1.2; omega, fun e => by have := (ho2.lt _ e).2; omega⟩
  refine ⟨⟨g1.set (k := 1) (by simp) v9, gz.other (by omega), ?_, ownsRow_turn go2 ht (fun k hk q => ha2 k hk q), hlt9, ha2, hbb, ?_⟩, g1⟩
  · have e1 : (l ++ [mkPm n b1 t]).length = l.length + 1 := by rw [List.length_append]; rfl
    have e2 : prC (l ++ [mkPm n b1 t]) = prC l ++ [.int .i64 n, .int .i64 b1, .string t] := by
      exact flatMap_snoc (α := tyPromise.T) (valC tyPromise) l (mkPm n b1 t)
    rw [e1, e2]
    exact ownsRow_turn h2 ht (fun k hk q => (hlt9 k hk).1 q)
  · exact (hB.grown hg hB.size (fun k hk => by have := hl1 k hk; omega)).setCell (p := ⟨b, 1, none⟩) (by simp; omega) _
theorem CpS.other {W : World} (h : CpS w W b own v1 l fx val v2 vt) {p : Addr} (h1 : p.block ≠ b) (h2 : p.block ≠ w.heap.size + 1) (h3 : v1.ownBlock ≠ some p.block) (h4 : v2.ownBlock ≠ some p.block) (h5 : w.heap.size ≤ p.block) (u : Value) : CpS w (W.setCell p u) b own v1 l fx val v2 vt := by
  obtain ⟨q1, qz, o1, o2, a1, a2, bb, hB⟩ := h
  have ht := turn_set W p u
  refine ⟨q1.turnS ht (fun e => h1 e.symm), qz.turnS ht (fun e => h2 e.symm), ownsRow_turn o1 ht (fun k hk e => h3 (by rw [hk, show k = p.block from e])), ownsRow_turn o2 ht (fun k hk e => h4 (by rw [hk, show k = p.block from e])), a1, a2, bb, hB.trans (ht.below (fun k e => ?_) hB.size)⟩
  rw [show k = p.block from e]; exact h5
theorem set5 (W : World) (g : Nat) (u0 u1 u2 u3 u4 : Value) : TurnS (fun k => k = g) W (((((W.setCell ⟨g, 0, none⟩ u0).setCell ⟨g, 1, none⟩ u1).setCell ⟨g, 2, none⟩ u2).setCell ⟨g, 3, none⟩ u3).setCell ⟨g, 4, none⟩ u4) :=
  (((((TurnS.refl (fun k => k = g) W).set (S := fun k => k = g) (p := ⟨g, 0, none⟩) rfl _).set (S := fun k => k = g) (p := ⟨g, 1, none⟩) rfl _).set (S := fun k => k = g) (p := ⟨g, 2, none⟩) rfl _).set (S := fun k => k = g) (p := ⟨g, 3, none⟩) rfl _).set (S := fun k => k = g) (p := ⟨g, 4, none⟩) rfl _
theorem CpS.start {W : World} (hbx : Bx W b [.string ⟨#[]⟩, .slice none 0 0, .bool false, .string ⟨#[]⟩, .slice none 0 0]) (hz : Bx W (w.heap.size + 1) [.string ⟨#[]⟩, .slice none 0 0, .bool false, .string ⟨#[]⟩, .slice none 0 0]) (hv : W.ownsRow (w.heap.size + 2) 3 1 v2 vt.length (inC vt)) (hne : ∀ k, v2.ownBlock = some k → k ≠ b) (hbb : w.heap.size + 1 < b) (hB : Below w.heap.size w W) :
    CpS w (((((W.setCell ⟨b, 0, none⟩ (.string own)).setCell ⟨b, 1, none⟩ (.slice none 0 0)).setCell ⟨b, 2, none⟩ (.bool fx)).setCell ⟨b, 3, none⟩ (.string val)).setCell ⟨b, 4, none⟩ v2) b own (.slice none 0 0) [] fx val v2 vt := by
  have hnb : w.heap.size + 1 ≠ b := by omega
  have ht : TurnS (fun k => k = b) W (((((W.setCell ⟨b, 0, none⟩ (.string own)).setCell ⟨b, 1, none⟩ (.slice none 0 0)).setCell ⟨b, 2, none⟩ (.bool fx)).setCell ⟨b, 3, none⟩ (.string val)).setCell ⟨b, 4, none⟩ v2) := set5 W b _ _ _ _ _
  exact ⟨((((hbx.set (k := 0) (by simp) (.string own)).set (k := 1) (by simp) (.slice none 0 0)).set (k := 2) (by simp) (.bool fx)).set (k := 3) (by simp) (.string val)).set (k := 4) (by simp) v2, ((((hz.other hnb).other hnb).other hnb).other hnb).other hnb, World.ownsRow_nil _ _ _ _, ownsRow_turn hv ht (fun k hk q => hne k hk q), fun k hk => (by cases hk), hne, hbb, ht.below (fun k hk => by omega) hB.size |> hB.trans⟩
/-- The clone is owned. -/
theorem CpS.done (h : CpS w wr b own v1 l fx val v2 vt) {W' : World} (hW : TurnS (fun k => k = w.heap.size + 1) wr W') : OwnX W' w.heap.size tyProposer [.string own, v1, .bool fx, .string val, v2] (own, l, fx, val, vt, ()) (Btw w.heap.size W'.heap.size) := by
  obtain ⟨h1, hz, ho1, ho2, ha1, ha2, hbb, hB⟩ := h
  have hl1 := fun k hk => ho1.lt k hk
  have hl2 := fun k hk => ho2.lt k hk
  have q1 := ownsRow_turn ho1 hW (fun k hk q => by have := (hl1 k hk).1; omega)
  have q2 := ownsRow_turn ho2 hW (fun k hk q => by have := (hl2 k hk).1; omega)
  have hs := hW.size
  refine mkownx_Proposer (S1 := fun k => v1.ownBlock = some k) (S2 := fun k => v2.ownBlock = some k) ((OwnX.of_flat (e := tyPromise) rfl q1 (fun k hk => hk)).lower (by omega)) ((OwnX.of_flat (e := .int) rfl q2 (fun k hk => hk)).lower (by omega)) (fun k hk => ?_) (fun k hk => ?_) (fun k e f => (ha1 k e).2 f)
  · have := hl1 k hk; simp only [Btw]; omega
  · have := hl2 k hk; simp only [Btw]; omega
end
theorem pr_news {w : World} {n b1 : Int} {t : ByteArray} (ty : TypeId) : ∀ j u, [Value.int .i64 n, .int .i64 b1, .string t][j]? = some u → (w.alloc (.cells #[.int .i64 n, .int .i64 b1, .string t] ty)).cell? ((⟨w.heap.size, 0, none⟩ : Addr).add j) = some u := cells_new w [_, _, _] ty

set_option maxRecDepth 100000 in
set_option maxHeartbeats 4000000 in
theorem cloneProposer_n (own : ByteArray) (a1 : Option Addr) (k1 : Nat) (ps : List (Sh.T shPromise)) (fx : Bool) (val : ByteArray) (a2 : Option Addr) (k2 : Nat) (vt : List (Sh.T .int)) (w : World)
    (hs1 : own.size ≤ 1073741824) (hz : szD (.list shPromise) ps ≤ 1073741824) (hs2 : val.size ≤ 1073741824) (hvt : vt.length ≤ 1073741824)
    (h1 : Lies w (.list shPromise) [.slice a1 ps.length k1] ps) (h2 : Lies w (.list .int) [.slice a2 vt.length k2] vt) :
    Calls Try.prog 104 #[.agg #[.string own, .slice a1 ps.length k1, .bool fx, .string val, .slice a2 vt.length k2]] w (ToX tyProposer (own, ps, fx, val, vt, ()) w) := by
  have HL : Hid (Lies w (.list shPromise) [.slice a1 ps.length k1] ps ∧ Lies w (.list .int) [.slice a2 vt.length k2] vt ∧ own.size ≤ 281474976710656 ∧ val.size ≤ 281474976710656 ∧ szD (.list shPromise) ps ≤ 1073741824) := ⟨h1, h2, by omega, by omega, hz⟩
  have hpl := (pms_sizes hz).2
  clear h1 h2 hs1 hs2 hz
  obtain ⟨i0, hi0, hz0, hz1, hz2⟩ := info_parts inf_int
  obtain ⟨w0, hw0⟩ : ∃ x, x = (w.alloc (.cells #[.string own, .slice a1 ps.length k1, .bool fx, .string val, .slice a2 vt.length k2] 43)).alloc (.cells #[.string ⟨#[]⟩, .slice none 0 0, .bool false, .string ⟨#[]⟩, .slice none 0 0] 43) := ⟨_, rfl⟩
  have HD : Hid (Bx w0.drew w.heap.size [.string own, .slice a1 ps.length k1, .bool fx, .string val, .slice a2 vt.length k2] ∧ Bx w0.drew (w.heap.size + 1) [.string ⟨#[]⟩, .slice none 0 0, .bool false, .string ⟨#[]⟩, .slice none 0 0] ∧ Below w.heap.size w w0.drew ∧ w.heap.size + 2 ≤ w0.drew.heap.size) := by
    have e0 : Bx w0 w.heap.size [.string own, .slice a1 ps.length k1, .bool fx, .string val, .slice a2 vt.length k2] := hw0 ▸ (Bx.new w [_, _, _, _, _] _).alloc _
    have e1 : Bx w0 (w.heap.size + 1) [.string ⟨#[]⟩, .slice none 0 0, .bool false, .string ⟨#[]⟩, .slice none 0 0] := hw0 ▸ Bx.newAt (by simp)
    have e2 : Below w.heap.size w w0 := hw0 ▸ ((Below.refl _ _).alloc (Nat.le_refl _) _).alloc (by simp) _
    exact ⟨e0.next (below_drew _), e1.next (below_drew _), e2.drew, by have : w0.drew.heap.size = w0.heap.size := rfl; rw [this, hw0]; simp⟩
  go_enter Try.func104, Try.ntmps104
  go_upto_region 1 with fail
  rw [← hw0]
  clear hw0
  go_cut [3] (fun s3 wx => ∃ b v2, s3 = .pointer (some ⟨b, 0, none⟩) ∧ CpS w wx b own (.slice none 0 0) [] fx val v2 vt ∧ Bx wx w.heap.size [.string own, .slice a1 ps.length k1, .bool fx, .string val, .slice a2 vt.length k2])
  case first =>
    refine wp_region_noPanic ?_
    refine wp_region_held_drew (S := fun W => Bx W w.heap.size [.string own, .slice a1 ps.length k1, .bool fx, .string val, .slice a2 vt.length k2]) (by kernel_rfl) HD.out.1 (fun hHeld => ?_)
    obtain ⟨W, hWE⟩ : ∃ x, x = w0.drew := ⟨_, rfl⟩
    rw [← hWE] at HD hHeld ⊢
    clear hWE
    refine take_v (v := ?_) 0 ⟨some 6, Op.fieldAddr 43 (Operand.tmp 1) 0, _, _, _, none⟩ rfl (fun _ _ _ h => h) ?_ hHeld ?_
    rotate_left
    · (intro W _; go_simp <;> (try with_reducible rfl))
    refine take_v (v := ?_) 1 ⟨some 7, Op.load 9 (Operand.tmp 6), _, _, _, none⟩ rfl (fun _ _ _ h => h) ?_ hHeld ?_
    rotate_left
    · (intro W hSW; (have s0 := hSW.cell 0 rfl; have s1 := hSW.cell 1 rfl; have s2 := hSW.cell 2 rfl; have s3 := hSW.cell 3 rfl; have s4 := hSW.cell 4 rfl; have sz := hSW.2); go_simp <;> (try with_reducible rfl))
    refine take_v (v := ?_) 3 ⟨some 9, Op.fieldAddr 43 (Operand.tmp 1) 2, _, _, _, none⟩ rfl (fun _ _ _ h => h) ?_ hHeld ?_
    rotate_left
    · (intro W _; go_simp <;> (try with_reducible rfl))
    refine take_v (v := ?_) 4 ⟨some 10, Op.load 4 (Operand.tmp 9), _, _, _, none⟩ rfl (fun _ _ _ h => h) ?_ hHeld ?_
    rotate_left
    · (intro W hSW; (have s0 := hSW.cell 0 rfl; have s1 := hSW.cell 1 rfl; have s2 := hSW.cell 2 rfl; have s3 := hSW.cell 3 rfl; have s4 := hSW.cell 4 rfl; have sz := hSW.2); go_simp <;> (try with_reducible rfl))
    refine take_v (v := ?_) 5 ⟨some 11, Op.fieldAddr 43 (Operand.tmp 1) 3, _, _, _, none⟩ rfl (fun _ _ _ h => h) ?_ hHeld ?_
    rotate_left
    · (intro W _; go_simp <;> (try with_reducible rfl))
    refine take_v (v := ?_) 6 ⟨some 12, Op.load 9 (Operand.tmp 11), _, _, _, none⟩ rfl (fun _ _ _ h => h) ?_ hHeld ?_
    rotate_left
    · (intro W hSW; (have s0 := hSW.cell 0 rfl; have s1 := hSW.cell 1 rfl; have s2 := hSW.cell 2 rfl; have s3 := hSW.cell 3 rfl; have s4 := hSW.cell 4 rfl; have sz := hSW.2); go_simp <;> (try with_reducible rfl))
    refine take_v (v := ?_) 8 ⟨some 14, Op.fieldAddr 43 (Operand.tmp 1) 4, _, _, _, none⟩ rfl (fun _ _ _ h => h) ?_ hHeld ?_
    rotate_left
    · (intro W _; go_simp <;> (try with_reducible rfl))
    refine take_v (v := ?_) 9 ⟨some 15, Op.load 41 (Operand.tmp 14), _, _, _, none⟩ rfl (fun _ _ _ h => h) ?_ hHeld ?_
    rotate_left
    · (intro W hSW; (have s0 := hSW.cell 0 rfl; have s1 := hSW.cell 1 rfl; have s2 := hSW.cell 2 rfl; have s3 := hSW.cell 3 rfl; have s4 := hSW.cell 4 rfl; have sz := hSW.2); go_simp <;> (try with_reducible rfl))
    refine ready_two 2 12 ⟨some 8, Op.call { callee := Callee.value (Operand.func 53), args := #[Operand.tmp 7], argTypes := #[9] }, _, _, _, none⟩ ⟨some 3, Op.alloc 43, _, _, _, none⟩ (by kernel_rfl) rfl rfl (by kernel_rfl) (by kernel_rfl) (fun KC hK => ?_) (fun KC hK => ?_)
    ·
      go_wp2_with fail
      refine (clone_any _ _ HL.out.2.2.1).mono ?_
      rintro r W1 ⟨rfl, hb⟩
      have HD := (show Hid (Bx W1 w.heap.size [.string own, .slice a1 ps.length k1, .bool fx, .string val, .slice a2 vt.length k2] ∧ Bx W1 (w.heap.size + 1) [.string ⟨#[]⟩, .slice none 0 0, .bool false, .string ⟨#[]⟩, .slice none 0 0] ∧ Below w.heap.size w W1 ∧ w.heap.size + 2 ≤ W1.heap.size) from ⟨HD.out.1.next hb, HD.out.2.1.next hb, below_next HD.out.2.2.1 hb, Nat.le_trans HD.out.2.2.2 hb.size⟩)
      (first | (have HB3 := (show Hid (Bx W1 b3 [.string ⟨#[]⟩, .slice none 0 0, .bool false, .string ⟨#[]⟩, .slice none 0 0] ∧ w.heap.size + 2 ≤ b3) from ⟨HB3.out.1.next hb, HB3.out.2⟩)) | skip)
      clear hb
      refine hK.out _ _ HD.out.1 (fun hHeld => ?_)
      clear hK KC
      refine ready_two 7 12 ⟨some 13, Op.call { callee := Callee.value (Operand.func 53), args := #[Operand.tmp 12], argTypes := #[9] }, _, _, _, none⟩ ⟨some 3, Op.alloc 43, _, _, _, none⟩ (by kernel_rfl) rfl rfl (by kernel_rfl) (by kernel_rfl) (fun KC hK => ?_) (fun KC hK => ?_)
      ·
        go_wp2_with fail
        refine (clone_any _ _ HL.out.2.2.2.1).mono ?_
        rintro r W2 ⟨rfl, hb⟩
        have HD := (show Hid (Bx W2 w.heap.size [.string own, .slice a1 ps.length k1, .bool fx, .string val, .slice a2 vt.length k2] ∧ Bx W2 (w.heap.size + 1) [.string ⟨#[]⟩, .slice none 0 0, .bool false, .string ⟨#[]⟩, .slice none 0 0] ∧ Below w.heap.size w W2 ∧ w.heap.size + 2 ≤ W2.heap.size) from ⟨HD.out.1.next hb, HD.out.2.1.next hb, below_next HD.out.2.2.1 hb, Nat.le_trans HD.out.2.2.2 hb.size⟩)
        (first | (have HB3 := (show Hid (Bx W2 b3 [.string ⟨#[]⟩, .slice none 0 0, .bool false, .string ⟨#[]⟩, .slice none 0 0] ∧ w.heap.size + 2 ≤ b3) from ⟨HB3.out.1.next hb, HB3.out.2⟩)) | skip)
        clear hb
        refine hK.out _ _ HD.out.1 (fun hHeld => ?_)
        clear hK KC
        refine ready_two 10 12 ⟨some 16, Op.call { callee := Callee.builtin Builtin.append, args := #[Operand.const (Value.slice none 0 0), Operand.tmp 15], argTypes := #[41, 41] }, _, _, _, none⟩ ⟨some 3, Op.alloc 43, _, _, _, none⟩ (by kernel_rfl) rfl rfl (by kernel_rfl) (by kernel_rfl) (fun KC hK => ?_) (fun KC hK => ?_)
        ·
          have hzW := HD.out.2.2.2
          refine wp_appx (.const (.slice none 0 0)) (.tmp 15) 41 3 (by rfl) i0 (.int .i64 0) 8 (w.heap.size + 2) .int rfl Try.underlying41 hi0 hz0 hz1 hz2 rfl (by decide) (.slice none 0 0) [] vt (fun _ => False) (by rfl) OwnX.nil' a2 k2 (by rfl) (HL.out.2.1.next HD.out.2.2.1) (by simp only [List.length_nil]; unfold maxLen; omega) (by simp only [List.length_nil]; omega) hzW ?_
          intro v2 W3 hO3 hg3 hwh3
          obtain ⟨hrow3, _⟩ := hO3.flat rfl
          have hb : Below _ _ W3 := ⟨hg3.os, hg3.tape, hg3.output, hg3.size, fun k hk => hg3.block k hk (fun q => by cases q)⟩
          (first | (have hne : ∀ k, v2.ownBlock = some k → k ≠ b3 := fun k hk => by rcases hwh3 with q | q; (· rw [q] at hk; cases hk); rw [q] at hk; cases hk; have := HB3.out.1.2; omega) | skip)
          have HV2 : Hid (W3.ownsRow (w.heap.size + 2) 3 1 v2 vt.length (inC vt)) := hrow3
          have HD := (show Hid (Bx W3 w.heap.size [.string own, .slice a1 ps.length k1, .bool fx, .string val, .slice a2 vt.length k2] ∧ Bx W3 (w.heap.size + 1) [.string ⟨#[]⟩, .slice none 0 0, .bool false, .string ⟨#[]⟩, .slice none 0 0] ∧ Below w.heap.size w W3 ∧ w.heap.size + 2 ≤ W3.heap.size) from ⟨HD.out.1.next hb, HD.out.2.1.next hb, below_next HD.out.2.2.1 hb, Nat.le_trans HD.out.2.2.2 hb.size⟩)
          (first | (have HB3 := (show Hid (Bx W3 b3 [.string ⟨#[]⟩, .slice none 0 0, .bool false, .string ⟨#[]⟩, .slice none 0 0] ∧ w.heap.size + 2 ≤ b3) from ⟨HB3.out.1.next hb, HB3.out.2⟩)) | skip)
          obtain ⟨va, vc, hvf⟩ := OwnX.vform (OwnX.of_flat (e := .int) (S := fun _ => True) rfl HV2.out (fun _ _ => trivial))
          subst hvf
          clear hb hO3 hg3 hwh3 hrow3 hzW
          refine hK.out _ _ HD.out.1 (fun hHeld => ?_)
          clear hK KC
          refine take_v (v := ?_) 11 ⟨some 17, Op.build 43 #[(0, Operand.tmp 8), (2, Operand.tmp 10), (3, Operand.tmp 13), (4, Operand.tmp 16)], _, _, _, none⟩ rfl (fun _ _ _ h => h) ?_ hHeld ?_
          rotate_left
          · (intro W _; go_simp <;> (try with_reducible rfl))
          refine ready_call 12 ⟨some 3, Op.alloc 43, _, _, _, none⟩ (by kernel_rfl) rfl (by kernel_rfl) (fun KC hK => ?_)
          go_wp2_with fail
          (first | (obtain ⟨W4, hW4⟩ : ∃ x, x = W3.alloc (.cells #[.string ⟨#[]⟩, .slice none 0 0, .bool false, .string ⟨#[]⟩, .slice none 0 0] 43) := ⟨_, rfl⟩; have hb : Below W3.heap.size W3 W4 := hW4 ▸ Go.Joins.below_alloc1 _ _; obtain ⟨b3, hb3E⟩ : ∃ b, b = W3.heap.size := ⟨_, rfl⟩; have HB3 : Hid (Bx W4 b3 [.string ⟨#[]⟩, .slice none 0 0, .bool false, .string ⟨#[]⟩, .slice none 0 0] ∧ w.heap.size + 2 ≤ b3) := ⟨hb3E ▸ hW4 ▸ Bx.new W3 [_, _, _, _, _] _, by rw [hb3E]; exact HD.out.2.2.2⟩; (first | (have hne : ∀ k, (Value.slice va vt.length vc).ownBlock = some k → k ≠ b3 := fun k hk => by have := (HV2.out.lt k hk).2; omega) | skip); (first | (have HV2 := (show Hid (W4.ownsRow (w.heap.size + 2) 3 1 (.slice va vt.length vc) vt.length (inC vt)) from ownsRow_next HV2.out hb)) | skip); have HD := (show Hid (Bx W4 w.heap.size [.string own, .slice a1 ps.length k1, .bool fx, .string val, .slice a2 vt.length k2] ∧ Bx W4 (w.heap.size + 1) [.string ⟨#[]⟩, .slice none 0 0, .bool false, .string ⟨#[]⟩, .slice none 0 0] ∧ Below w.heap.size w W4 ∧ w.heap.size + 2 ≤ W4.heap.size) from ⟨HD.out.1.next hb, HD.out.2.1.next hb, below_next HD.out.2.2.1 hb, Nat.le_trans HD.out.2.2.2 hb.size⟩); rw [← hW4, ← hb3E]; clear hb hW4 hb3E) | (obtain ⟨W4, hW4⟩ : ∃ x, x = W2.alloc (.cells #[.string ⟨#[]⟩, .slice none 0 0, .bool false, .string ⟨#[]⟩, .slice none 0 0] 43) := ⟨_, rfl⟩; have hb : Below W2.heap.size W2 W4 := hW4 ▸ Go.Joins.below_alloc1 _ _; obtain ⟨b3, hb3E⟩ : ∃ b, b = W2.heap.size := ⟨_, rfl⟩; have HB3 : Hid (Bx W4 b3 [.string ⟨#[]⟩, .slice none 0 0, .bool false, .string ⟨#[]⟩, .slice none 0 0] ∧ w.heap.size + 2 ≤ b3) := ⟨hb3E ▸ hW4 ▸ Bx.new W2 [_, _, _, _, _] _, by rw [hb3E]; exact HD.out.2.2.2⟩; (first | (have hne : ∀ k, (Value.slice va vt.length vc).ownBlock = some k → k ≠ b3 := fun k hk => by have := (HV2.out.lt k hk).2; omega) | skip); (first | (have HV2 := (show Hid (W4.ownsRow (w.heap.size + 2) 3 1 (.slice va vt.length vc) vt.length (inC vt)) from ownsRow_next HV2.out hb)) | skip); have HD := (show Hid (Bx W4 w.heap.size [.string own, .slice a1 ps.length k1, .bool fx, .string val, .slice a2 vt.length k2] ∧ Bx W4 (w.heap.size + 1) [.string ⟨#[]⟩, .slice none 0 0, .bool false, .string ⟨#[]⟩, .slice none 0 0] ∧ Below w.heap.size w W4 ∧ w.heap.size + 2 ≤ W4.heap.size) from ⟨HD.out.1.next hb, HD.out.2.1.next hb, below_next HD.out.2.2.1 hb, Nat.le_trans HD.out.2.2.2 hb.size⟩); rw [← hW4, ← hb3E]; clear hb hW4 hb3E) | (obtain ⟨W4, hW4⟩ : ∃ x, x = W1.alloc (.cells #[.string ⟨#[]⟩, .slice none 0 0, .bool false, .string ⟨#[]⟩, .slice none 0 0] 43) := ⟨_, rfl⟩; have hb : Below W1.heap.size W1 W4 := hW4 ▸ Go.Joins.below_alloc1 _ _; obtain ⟨b3, hb3E⟩ : ∃ b, b = W1.heap.size := ⟨_, rfl⟩; have HB3 : Hid (Bx W4 b3 [.string ⟨#[]⟩, .slice none 0 0, .bool false, .string ⟨#[]⟩, .slice none 0 0] ∧ w.heap.size + 2 ≤ b3) := ⟨hb3E ▸ hW4 ▸ Bx.new W1 [_, _, _, _, _] _, by rw [hb3E]; exact HD.out.2.2.2⟩; (first | (have hne : ∀ k, (Value.slice va vt.length vc).ownBlock = some k → k ≠ b3 := fun k hk => by have := (HV2.out.lt k hk).2; omega) | skip); (first | (have HV2 := (show Hid (W4.ownsRow (w.heap.size + 2) 3 1 (.slice va vt.length vc) vt.length (inC vt)) from ownsRow_next HV2.out hb)) | skip); have HD := (show Hid (Bx W4 w.heap.size [.string own, .slice a1 ps.length k1, .bool fx, .string val, .slice a2 vt.length k2] ∧ Bx W4 (w.heap.size + 1) [.string ⟨#[]⟩, .slice none 0 0, .bool false, .string ⟨#[]⟩, .slice none 0 0] ∧ Below w.heap.size w W4 ∧ w.heap.size + 2 ≤ W4.heap.size) from ⟨HD.out.1.next hb, HD.out.2.1.next hb, below_next HD.out.2.2.1 hb, Nat.le_trans HD.out.2.2.2 hb.size⟩); rw [← hW4, ← hb3E]; clear hb hW4 hb3E) | (obtain ⟨W4, hW4⟩ : ∃ x, x = W.alloc (.cells #[.string ⟨#[]⟩, .slice none 0 0, .bool false, .string ⟨#[]⟩, .slice none 0 0] 43) := ⟨_, rfl⟩; have hb : Below W.heap.size W W4 := hW4 ▸ Go.Joins.below_alloc1 _ _; obtain ⟨b3, hb3E⟩ : ∃ b, b = W.heap.size := ⟨_, rfl⟩; have HB3 : Hid (Bx W4 b3 [.string ⟨#[]⟩, .slice none 0 0, .bool false, .string ⟨#[]⟩, .slice none 0 0] ∧ w.heap.size + 2 ≤ b3) := ⟨hb3E ▸ hW4 ▸ Bx.new W [_, _, _, _, _] _, by rw [hb3E]; exact HD.out.2.2.2⟩; (first | (have hne : ∀ k, (Value.slice va vt.length vc).ownBlock = some k → k ≠ b3 := fun k hk => by have := (HV2.out.lt k hk).2; omega) | skip); (first | (have HV2 := (show Hid (W4.ownsRow (w.heap.size + 2) 3 1 (.slice va vt.length vc) vt.length (inC vt)) from ownsRow_next HV2.out hb)) | skip); have HD := (show Hid (Bx W4 w.heap.size [.string own, .slice a1 ps.length k1, .bool fx, .string val, .slice a2 vt.length k2] ∧ Bx W4 (w.heap.size + 1) [.string ⟨#[]⟩, .slice none 0 0, .bool false, .string ⟨#[]⟩, .slice none 0 0] ∧ Below w.heap.size w W4 ∧ w.heap.size + 2 ≤ W4.heap.size) from ⟨HD.out.1.next hb, HD.out.2.1.next hb, below_next HD.out.2.2.1 hb, Nat.le_trans HD.out.2.2.2 hb.size⟩); rw [← hW4, ← hb3E]; clear hb hW4 hb3E))
          refine hK.out _ _ HD.out.1 (fun hHeld => ?_)
          clear hK KC
          refine ready_call 13 ⟨none, Op.store 43 (Operand.tmp 3) (Operand.tmp 17), _, _, _, none⟩ (by kernel_rfl) rfl (by kernel_rfl) (fun KC hK => ?_)
          have d0 := HB3.out.1.cell 0 rfl
          have d1 := HB3.out.1.cell 1 rfl
          have d2 := HB3.out.1.cell 2 rfl
          have d3 := HB3.out.1.cell 3 rfl
          have d4 := HB3.out.1.cell 4 rfl
          have f0 := HB3.out.1.frz 0 (by simp)
          have f1 := HB3.out.1.frz 1 (by simp)
          have f2 := HB3.out.1.frz 2 (by simp)
          have f3 := HB3.out.1.frz 3 (by simp)
          have f4 := HB3.out.1.frz 4 (by simp)
          have dz := HB3.out.1.2
          have hbb := HB3.out.2
          go_wp2_with fail
          have HF := Hid.intro (CpS.start (own := own) (fx := fx) (val := val) HB3.out.1 HD.out.2.1 HV2.out hne (by omega) HD.out.2.2.1)
          have hnb : w.heap.size ≠ b3 := by omega
          clear d0 d1 d2 d3 d4 f0 f1 f2 f3 f4 dz
          refine hK.out _ _ (((((HD.out.1.other hnb).other hnb).other hnb).other hnb).other hnb) (fun hHeld => ?_)
          clear hK KC
          refine wpAnyH_done (by kernel_rfl) ?_ _
          refine NoPanic.normal ?_
          go_wp2_with fail
          go_meet
          exact ⟨b3, _, rfl, HF.out, hHeld⟩
        ·
          go_wp2_with fail
          (first | (obtain ⟨W4, hW4⟩ : ∃ x, x = W3.alloc (.cells #[.string ⟨#[]⟩, .slice none 0 0, .bool false, .string ⟨#[]⟩, .slice none 0 0] 43) := ⟨_, rfl⟩; have hb : Below W3.heap.size W3 W4 := hW4 ▸ Go.Joins.below_alloc1 _ _; obtain ⟨b3, hb3E⟩ : ∃ b, b = W3.heap.size := ⟨_, rfl⟩; have HB3 : Hid (Bx W4 b3 [.string ⟨#[]⟩, .slice none 0 0, .bool false, .string ⟨#[]⟩, .slice none 0 0] ∧ w.heap.size + 2 ≤ b3) := ⟨hb3E ▸ hW4 ▸ Bx.new W3 [_, _, _, _, _] _, by rw [hb3E]; exact HD.out.2.2.2⟩; (first | (have hne : ∀ k, (Value.slice va vt.length vc).ownBlock = some k → k ≠ b3 := fun k hk => by have := (HV2.out.lt k hk).2; omega) | skip); (first | (have HV2 := (show Hid (W4.ownsRow (w.heap.size + 2) 3 1 (.slice va vt.length vc) vt.length (inC vt)) from ownsRow_next HV2.out hb)) | skip); have HD := (show Hid (Bx W4 w.heap.size [.string own, .slice a1 ps.length k1, .bool fx, .string val, .slice a2 vt.length k2] ∧ Bx W4 (w.heap.size + 1) [.string ⟨#[]⟩, .slice none 0 0, .bool false, .string ⟨#[]⟩, .slice none 0 0] ∧ Below w.heap.size w W4 ∧ w.heap.size + 2 ≤ W4.heap.size) from ⟨HD.out.1.next hb, HD.out.2.1.next hb, below_next HD.out.2.2.1 hb, Nat.le_trans HD.out.2.2.2 hb.size⟩); rw [← hW4, ← hb3E]; clear hb hW4 hb3E) | (obtain ⟨W4, hW4⟩ : ∃ x, x = W2.alloc (.cells #[.string ⟨#[]⟩, .slice none 0 0, .bool false, .string ⟨#[]⟩, .slice none 0 0] 43) := ⟨_, rfl⟩; have hb : Below W2.heap.size W2 W4 := hW4 ▸ Go.Joins.below_alloc1 _ _; obtain ⟨b3, hb3E⟩ : ∃ b, b = W2.heap.size := ⟨_, rfl⟩; have HB3 : Hid (Bx W4 b3 [.string ⟨#[]⟩, .slice none 0 0, .bool false, .string ⟨#[]⟩, .slice none 0 0] ∧ w.heap.size + 2 ≤ b3) := ⟨hb3E ▸ hW4 ▸ Bx.new W2 [_, _, _, _, _] _, by rw [hb3E]; exact HD.out.2.2.2⟩; (first | (have hne : ∀ k, (Value.slice va vt.length vc).ownBlock = some k → k ≠ b3 := fun k hk => by have := (HV2.out.lt k hk).2; omega) | skip); (first | (have HV2 := (show Hid (W4.ownsRow (w.heap.size + 2) 3 1 (.slice va vt.length vc) vt.length (inC vt)) from ownsRow_next HV2.out hb)) | skip); have HD := (show Hid (Bx W4 w.heap.size [.string own, .slice a1 ps.length k1, .bool fx, .string val, .slice a2 vt.length k2] ∧ Bx W4 (w.heap.size + 1) [.string ⟨#[]⟩, .slice none 0 0, .bool false, .string ⟨#[]⟩, .slice none 0 0] ∧ Below w.heap.size w W4 ∧ w.heap.size + 2 ≤ W4.heap.size) from ⟨HD.out.1.next hb, HD.out.2.1.next hb, below_next HD.out.2.2.1 hb, Nat.le_trans HD.out.2.2.2 hb.size⟩); rw [← hW4, ← hb3E]; clear hb hW4 hb3E) | (obtain ⟨W4, hW4⟩ : ∃ x, x = W1.alloc (.cells #[.string ⟨#[]⟩, .slice none 0 0, .bool false, .string ⟨#[]⟩, .slice none 0 0] 43) := ⟨_, rfl⟩; have hb : Below W1.heap.size W1 W4 := hW4 ▸ Go.Joins.below_alloc1 _ _; obtain ⟨b3, hb3E⟩ : ∃ b, b = W1.heap.size := ⟨_, rfl⟩; have HB3 : Hid (Bx W4 b3 [.string ⟨#[]⟩, .slice none 0 0, .bool false, .string ⟨#[]⟩, .slice none 0 0] ∧ w.heap.size + 2 ≤ b3) := ⟨hb3E ▸ hW4 ▸ Bx.new W1 [_, _, _, _, _] _, by rw [hb3E]; exact HD.out.2.2.2⟩; (first | (have hne : ∀ k, (Value.slice va vt.length vc).ownBlock = some k → k ≠ b3 := fun k hk => by have := (HV2.out.lt k hk).2; omega) | skip); (first | (have HV2 := (show Hid (W4.ownsRow (w.heap.size + 2) 3 1 (.slice va vt.length vc) vt.length (inC vt)) from ownsRow_next HV2.out hb)) | skip); have HD := (show Hid (Bx W4 w.heap.size [.string own, .slice a1 ps.length k1, .bool fx, .string val, .slice a2 vt.length k2] ∧ Bx W4 (w.heap.size + 1) [.string ⟨#[]⟩, .slice none 0 0, .bool false, .string ⟨#[]⟩, .slice none 0 0] ∧ Below w.heap.size w W4 ∧ w.heap.size + 2 ≤ W4.heap.size) from ⟨HD.out.1.next hb, HD.out.2.1.next hb, below_next HD.out.2.2.1 hb, Nat.le_trans HD.out.2.2.2 hb.size⟩); rw [← hW4, ← hb3E]; clear hb hW4 hb3E) | (obtain ⟨W4, hW4⟩ : ∃ x, x = W.alloc (.cells #[.string ⟨#[]⟩, .slice none 0 0, .bool false, .string ⟨#[]⟩, .slice none 0 0] 43) := ⟨_, rfl⟩; have hb : Below W.heap.size W W4 := hW4 ▸ Go.Joins.below_alloc1 _ _; obtain ⟨b3, hb3E⟩ : ∃ b, b = W.heap.size := ⟨_, rfl⟩; have HB3 : Hid (Bx W4 b3 [.string ⟨#[]⟩, .slice none 0 0, .bool false, .string ⟨#[]⟩, .slice none 0 0] ∧ w.heap.size + 2 ≤ b3) := ⟨hb3E ▸ hW4 ▸ Bx.new W [_, _, _, _, _] _, by rw [hb3E]; exact HD.out.2.2.2⟩; (first | (have hne : ∀ k, (Value.slice va vt.length vc).ownBlock = some k → k ≠ b3 := fun k hk => by have := (HV2.out.lt k hk).2; omega) | skip); (first | (have HV2 := (show Hid (W4.ownsRow (w.heap.size + 2) 3 1 (.slice va vt.length vc) vt.length (inC vt)) from ownsRow_next HV2.out hb)) | skip); have HD := (show Hid (Bx W4 w.heap.size [.string own, .slice a1 ps.length k1, .bool fx, .string val, .slice a2 vt.length k2] ∧ Bx W4 (w.heap.size + 1) [.string ⟨#[]⟩, .slice none 0 0, .bool false, .string ⟨#[]⟩, .slice none 0 0] ∧ Below w.heap.size w W4 ∧ w.heap.size + 2 ≤ W4.heap.size) from ⟨HD.out.1.next hb, HD.out.2.1.next hb, below_next HD.out.2.2.1 hb, Nat.le_trans HD.out.2.2.2 hb.size⟩); rw [← hW4, ← hb3E]; clear hb hW4 hb3E))
          refine hK.out _ _ HD.out.1 (fun hHeld => ?_)
          clear hK KC
          refine ready_call 10 ⟨some 16, Op.call { callee := Callee.builtin Builtin.append, args := #[Operand.const (Value.slice none 0 0), Operand.tmp 15], argTypes := #[41, 41] }, _, _, _, none⟩ (by kernel_rfl) rfl (by kernel_rfl) (fun KC hK => ?_)
          have hzW := HD.out.2.2.2
          refine wp_appx (.const (.slice none 0 0)) (.tmp 15) 41 3 (by rfl) i0 (.int .i64 0) 8 (w.heap.size + 2) .int rfl Try.underlying41 hi0 hz0 hz1 hz2 rfl (by decide) (.slice none 0 0) [] vt (fun _ => False) (by rfl) OwnX.nil' a2 k2 (by rfl) (HL.out.2.1.next HD.out.2.2.1) (by simp only [List.length_nil]; unfold maxLen; omega) (by simp only [List.length_nil]; omega) hzW ?_
          intro v2 W3 hO3 hg3 hwh3
          obtain ⟨hrow3, _⟩ := hO3.flat rfl
          have hb : Below _ _ W3 := ⟨hg3.os, hg3.tape, hg3.output, hg3.size, fun k hk => hg3.block k hk (fun q => by cases q)⟩
          (first | (have hne : ∀ k, v2.ownBlock = some k → k ≠ b3 := fun k hk => by rcases hwh3 with q | q; (· rw [q] at hk; cases hk); rw [q] at hk; cases hk; have := HB3.out.1.2; omega) | skip)
          have HV2 : Hid (W3.ownsRow (w.heap.size + 2) 3 1 v2 vt.length (inC vt)) := hrow3
          have HD := (show Hid (Bx W3 w.heap.size [.string own, .slice a1 ps.length k1, .bool fx, .string val, .slice a2 vt.length k2] ∧ Bx W3 (w.heap.size + 1) [.string ⟨#[]⟩, .slice none 0 0, .bool false, .string ⟨#[]⟩, .slice none 0 0] ∧ Below w.heap.size w W3 ∧ w.heap.size + 2 ≤ W3.heap.size) from ⟨HD.out.1.next hb, HD.out.2.1.next hb, below_next HD.out.2.2.1 hb, Nat.le_trans HD.out.2.2.2 hb.size⟩)
          (first | (have HB3 := (show Hid (Bx W3 b3 [.string ⟨#[]⟩, .slice none 0 0, .bool false, .string ⟨#[]⟩, .slice none 0 0] ∧ w.heap.size + 2 ≤ b3) from ⟨HB3.out.1.next hb, HB3.out.2⟩)) | skip)
          obtain ⟨va, vc, hvf⟩ := OwnX.vform (OwnX.of_flat (e := .int) (S := fun _ => True) rfl HV2.out (fun _ _ => trivial))
          subst hvf
          clear hb hO3 hg3 hwh3 hrow3 hzW
          refine hK.out _ _ HD.out.1 (fun hHeld => ?_)
          clear hK KC
          refine take_v (v := ?_) 11 ⟨some 17, Op.build 43 #[(0, Operand.tmp 8), (2, Operand.tmp 10), (3, Operand.tmp 13), (4, Operand.tmp 16)], _, _, _, none⟩ rfl (fun _ _ _ h => h) ?_ hHeld ?_
          rotate_left
          · (intro W _; go_simp <;> (try with_reducible rfl))
          refine ready_call 13 ⟨none, Op.store 43 (Operand.tmp 3) (Operand.tmp 17), _, _, _, none⟩ (by kernel_rfl) rfl (by kernel_rfl) (fun KC hK => ?_)
          have d0 := HB3.out.1.cell 0 rfl
          have d1 := HB3.out.1.cell 1 rfl
          have d2 := HB3.out.1.cell 2 rfl
          have d3 := HB3.out.1.cell 3 rfl
          have d4 := HB3.out.1.cell 4 rfl
          have f0 := HB3.out.1.frz 0 (by simp)
          have f1 := HB3.out.1.frz 1 (by simp)
          have f2 := HB3.out.1.frz 2 (by simp)
          have f3 := HB3.out.1.frz 3 (by simp)
          have f4 := HB3.out.1.frz 4 (by simp)
          have dz := HB3.out.1.2
          have hbb := HB3.out.2
          go_wp2_with fail
          have HF := Hid.intro (CpS.start (own := own) (fx := fx) (val := val) HB3.out.1 HD.out.2.1 HV2.out hne (by omega) HD.out.2.2.1)
          have hnb : w.heap.size ≠ b3 := by omega
          clear d0 d1 d2 d3 d4 f0 f1 f2 f3 f4 dz
          refine hK.out _ _ (((((HD.out.1.other hnb).other hnb).other hnb).other hnb).other hnb) (fun hHeld => ?_)
          clear hK KC
          refine wpAnyH_done (by kernel_rfl) ?_ _
          refine NoPanic.normal ?_
          go_wp2_with fail
          go_meet
          exact ⟨b3, _, rfl, HF.out, hHeld⟩
      ·
        go_wp2_with fail
        (first | (obtain ⟨W4, hW4⟩ : ∃ x, x = W3.alloc (.cells #[.string ⟨#[]⟩, .slice none 0 0, .bool false, .string ⟨#[]⟩, .slice none 0 0] 43) := ⟨_, rfl⟩; have hb : Below W3.heap.size W3 W4 := hW4 ▸ Go.Joins.below_alloc1 _ _; obtain ⟨b3, hb3E⟩ : ∃ b, b = W3.heap.size := ⟨_, rfl⟩; have HB3 : Hid (Bx W4 b3 [.string ⟨#[]⟩, .slice none 0 0, .bool false, .string ⟨#[]⟩, .slice none 0 0] ∧ w.heap.size + 2 ≤ b3) := ⟨hb3E ▸ hW4 ▸ Bx.new W3 [_, _, _, _, _] _, by rw [hb3E]; exact HD.out.2.2.2⟩; (first | (have hne : ∀ k, (Value.slice va vt.length vc).ownBlock = some k → k ≠ b3 := fun k hk => by have := (HV2.out.lt k hk).2; omega) | skip); (first | (have HV2 := (show Hid (W4.ownsRow (w.heap.size + 2) 3 1 (.slice va vt.length vc) vt.length (inC vt)) from ownsRow_next HV2.out hb)) | skip); have HD := (show Hid (Bx W4 w.heap.size [.string own, .slice a1 ps.length k1, .bool fx, .string val, .slice a2 vt.length k2] ∧ Bx W4 (w.heap.size + 1) [.string ⟨#[]⟩, .slice none 0 0, .bool false, .string ⟨#[]⟩, .slice none 0 0] ∧ Below w.heap.size w W4 ∧ w.heap.size + 2 ≤ W4.heap.size) from ⟨HD.out.1.next hb, HD.out.2.1.next hb, below_next HD.out.2.2.1 hb, Nat.le_trans HD.out.2.2.2 hb.size⟩); rw [← hW4, ← hb3E]; clear hb hW4 hb3E) | (obtain ⟨W4, hW4⟩ : ∃ x, x = W2.alloc (.cells #[.string ⟨#[]⟩, .slice none 0 0, .bool false, .string ⟨#[]⟩, .slice none 0 0] 43) := ⟨_, rfl⟩; have hb : Below W2.heap.size W2 W4 := hW4 ▸ Go.Joins.below_alloc1 _ _; obtain ⟨b3, hb3E⟩ : ∃ b, b = W2.heap.size := ⟨_, rfl⟩; have HB3 : Hid (Bx W4 b3 [.string ⟨#[]⟩, .slice none 0 0, .bool false, .string ⟨#[]⟩, .slice none 0 0] ∧ w.heap.size + 2 ≤ b3) := ⟨hb3E ▸ hW4 ▸ Bx.new W2 [_, _, _, _, _] _, by rw [hb3E]; exact HD.out.2.2.2⟩; (first | (have hne : ∀ k, (Value.slice va vt.length vc).ownBlock = some k → k ≠ b3 := fun k hk => by have := (HV2.out.lt k hk).2; omega) | skip); (first | (have HV2 := (show Hid (W4.ownsRow (w.heap.size + 2) 3 1 (.slice va vt.length vc) vt.length (inC vt)) from ownsRow_next HV2.out hb)) | skip); have HD := (show Hid (Bx W4 w.heap.size [.string own, .slice a1 ps.length k1, .bool fx, .string val, .slice a2 vt.length k2] ∧ Bx W4 (w.heap.size + 1) [.string ⟨#[]⟩, .slice none 0 0, .bool false, .string ⟨#[]⟩, .slice none 0 0] ∧ Below w.heap.size w W4 ∧ w.heap.size + 2 ≤ W4.heap.size) from ⟨HD.out.1.next hb, HD.out.2.1.next hb, below_next HD.out.2.2.1 hb, Nat.le_trans HD.out.2.2.2 hb.size⟩); rw [← hW4, ← hb3E]; clear hb hW4 hb3E) | (obtain ⟨W4, hW4⟩ : ∃ x, x = W1.alloc (.cells #[.string ⟨#[]⟩, .slice none 0 0, .bool false, .string ⟨#[]⟩, .slice none 0 0] 43) := ⟨_, rfl⟩; have hb : Below W1.heap.size W1 W4 := hW4 ▸ Go.Joins.below_alloc1 _ _; obtain ⟨b3, hb3E⟩ : ∃ b, b = W1.heap.size := ⟨_, rfl⟩; have HB3 : Hid (Bx W4 b3 [.string ⟨#[]⟩, .slice none 0 0, .bool false, .string ⟨#[]⟩, .slice none 0 0] ∧ w.heap.size + 2 ≤ b3) := ⟨hb3E ▸ hW4 ▸ Bx.new W1 [_, _, _, _, _] _, by rw [hb3E]; exact HD.out.2.2.2⟩; (first | (have hne : ∀ k, (Value.slice va vt.length vc).ownBlock = some k → k ≠ b3 := fun k hk => by have := (HV2.out.lt k hk).2; omega) | skip); (first | (have HV2 := (show Hid (W4.ownsRow (w.heap.size + 2) 3 1 (.slice va vt.length vc) vt.length (inC vt)) from ownsRow_next HV2.out hb)) | skip); have HD := (show Hid (Bx W4 w.heap.size [.string own, .slice a1 ps.length k1, .bool fx, .string val, .slice a2 vt.length k2] ∧ Bx W4 (w.heap.size + 1) [.string ⟨#[]⟩, .slice none 0 0, .bool false, .string ⟨#[]⟩, .slice none 0 0] ∧ Below w.heap.size w W4 ∧ w.heap.size + 2 ≤ W4.heap.size) from ⟨HD.out.1.next hb, HD.out.2.1.next hb, below_next HD.out.2.2.1 hb, Nat.le_trans HD.out.2.2.2 hb.size⟩); rw [← hW4, ← hb3E]; clear hb hW4 hb3E) | (obtain ⟨W4, hW4⟩ : ∃ x, x = W.alloc (.cells #[.string ⟨#[]⟩, .slice none 0 0, .bool false, .string ⟨#[]⟩, .slice none 0 0] 43) := ⟨_, rfl⟩; have hb : Below W.heap.size W W4 := hW4 ▸ Go.Joins.below_alloc1 _ _; obtain ⟨b3, hb3E⟩ : ∃ b, b = W.heap.size := ⟨_, rfl⟩; have HB3 : Hid (Bx W4 b3 [.string ⟨#[]⟩, .slice none 0 0, .bool false, .string ⟨#[]⟩, .slice none 0 0] ∧ w.heap.size + 2 ≤ b3) := ⟨hb3E ▸ hW4 ▸ Bx.new W [_, _, _, _, _] _, by rw [hb3E]; exact HD.out.2.2.2⟩; (first | (have hne : ∀ k, (Value.slice va vt.length vc).ownBlock = some k → k ≠ b3 := fun k hk => by have := (HV2.out.lt k hk).2; omega) | skip); (first | (have HV2 := (show Hid (W4.ownsRow (w.heap.size + 2) 3 1 (.slice va vt.length vc) vt.length (inC vt)) from ownsRow_next HV2.out hb)) | skip); have HD := (show Hid (Bx W4 w.heap.size [.string own, .slice a1 ps.length k1, .bool fx, .string val, .slice a2 vt.length k2] ∧ Bx W4 (w.heap.size + 1) [.string ⟨#[]⟩, .slice none 0 0, .bool false, .string ⟨#[]⟩, .slice none 0 0] ∧ Below w.heap.size w W4 ∧ w.heap.size + 2 ≤ W4.heap.size) from ⟨HD.out.1.next hb, HD.out.2.1.next hb, below_next HD.out.2.2.1 hb, Nat.le_trans HD.out.2.2.2 hb.size⟩); rw [← hW4, ← hb3E]; clear hb hW4 hb3E))
        refine hK.out _ _ HD.out.1 (fun hHeld => ?_)
        clear hK KC
        refine ready_call 7 ⟨some 13, Op.call { callee := Callee.value (Operand.func 53), args := #[Operand.tmp 12], argTypes := #[9] }, _, _, _, none⟩ (by kernel_rfl) rfl (by kernel_rfl) (fun KC hK => ?_)
        go_wp2_with fail
        refine (clone_any _ _ HL.out.2.2.2.1).mono ?_
        rintro r W2 ⟨rfl, hb⟩
        have HD := (show Hid (Bx W2 w.heap.size [.string own, .slice a1 ps.length k1, .bool fx, .string val, .slice a2 vt.length k2] ∧ Bx W2 (w.heap.size + 1) [.string ⟨#[]⟩, .slice none 0 0, .bool false, .string ⟨#[]⟩, .slice none 0 0] ∧ Below w.heap.size w W2 ∧ w.heap.size + 2 ≤ W2.heap.size) from ⟨HD.out.1.next hb, HD.out.2.1.next hb, below_next HD.out.2.2.1 hb, Nat.le_trans HD.out.2.2.2 hb.size⟩)
        (first | (have HB3 := (show Hid (Bx W2 b3 [.string ⟨#[]⟩, .slice none 0 0, .bool false, .string ⟨#[]⟩, .slice none 0 0] ∧ w.heap.size + 2 ≤ b3) from ⟨HB3.out.1.next hb, HB3.out.2⟩)) | skip)
        clear hb
        refine hK.out _ _ HD.out.1 (fun hHeld => ?_)
        clear hK KC
        refine ready_call 10 ⟨some 16, Op.call { callee := Callee.builtin Builtin.append, args := #[Operand.const (Value.slice none 0 0), Operand.tmp 15], argTypes := #[41, 41] }, _, _, _, none⟩ (by kernel_rfl) rfl (by kernel_rfl) (fun KC hK => ?_)
        have hzW := HD.out.2.2.2
        refine wp_appx (.const (.slice none 0 0)) (.tmp 15) 41 3 (by rfl) i0 (.int .i64 0) 8 (w.heap.size + 2) .int rfl Try.underlying41 hi0 hz0 hz1 hz2 rfl (by decide) (.slice none 0 0) [] vt (fun _ => False) (by rfl) OwnX.nil' a2 k2 (by rfl) (HL.out.2.1.next HD.out.2.2.1) (by simp only [List.length_nil]; unfold maxLen; omega) (by simp only [List.length_nil]; omega) hzW ?_
        intro v2 W3 hO3 hg3 hwh3
        obtain ⟨hrow3, _⟩ := hO3.flat rfl
        have hb : Below _ _ W3 := ⟨hg3.os, hg3.tape, hg3.output, hg3.size, fun k hk => hg3.block k hk (fun q => by cases q)⟩
        (first | (have hne : ∀ k, v2.ownBlock = some k → k ≠ b3 := fun k hk => by rcases hwh3 with q | q; (· rw [q] at hk; cases hk); rw [q] at hk; cases hk; have := HB3.out.1.2; omega) | skip)
        have HV2 : Hid (W3.ownsRow (w.heap.size + 2) 3 1 v2 vt.length (inC vt)) := hrow3
        have HD := (show Hid (Bx W3 w.heap.size [.string own, .slice a1 ps.length k1, .bool fx, .string val, .slice a2 vt.length k2] ∧ Bx W3 (w.heap.size + 1) [.string ⟨#[]⟩, .slice none 0 0, .bool false, .string ⟨#[]⟩, .slice none 0 0] ∧ Below w.heap.size w W3 ∧ w.heap.size + 2 ≤ W3.heap.size) from ⟨HD.out.1.next hb, HD.out.2.1.next hb, below_next HD.out.2.2.1 hb, Nat.le_trans HD.out.2.2.2 hb.size⟩)
        (first | (have HB3 := (show Hid (Bx W3 b3 [.string ⟨#[]⟩, .slice none 0 0, .bool false, .string ⟨#[]⟩, .slice none 0 0] ∧ w.heap.size + 2 ≤ b3) from ⟨HB3.out.1.next hb, HB3.out.2⟩)) | skip)
        obtain ⟨va, vc, hvf⟩ := OwnX.vform (OwnX.of_flat (e := .int) (S := fun _ => True) rfl HV2.out (fun _ _ => trivial))
        subst hvf
        clear hb hO3 hg3 hwh3 hrow3 hzW
        refine hK.out _ _ HD.out.1 (fun hHeld => ?_)
        clear hK KC
        refine take_v (v := ?_) 11 ⟨some 17, Op.build 43 #[(0, Operand.tmp 8), (2, Operand.tmp 10), (3, Operand.tmp 13), (4, Operand.tmp 16)], _, _, _, none⟩ rfl (fun _ _ _ h => h) ?_ hHeld ?_
        rotate_left
        · (intro W _; go_simp <;> (try with_reducible rfl))
        refine ready_call 13 ⟨none, Op.store 43 (Operand.tmp 3) (Operand.tmp 17), _, _, _, none⟩ (by kernel_rfl) rfl (by kernel_rfl) (fun KC hK => ?_)
        have d0 := HB3.out.1.cell 0 rfl
        have d1 := HB3.out.1.cell 1 rfl
        have d2 := HB3.out.1.cell 2 rfl
        have d3 := HB3.out.1.cell 3 rfl
        have d4 := HB3.out.1.cell 4 rfl
        have f0 := HB3.out.1.frz 0 (by simp)
        have f1 := HB3.out.1.frz 1 (by simp)
        have f2 := HB3.out.1.frz 2 (by simp)
        have f3 := HB3.out.1.frz 3 (by simp)
        have f4 := HB3.out.1.frz 4 (by simp)
        have dz := HB3.out.1.2
        have hbb := HB3.out.2
        go_wp2_with fail
        have HF := Hid.intro (CpS.start (own := own) (fx := fx) (val := val) HB3.out.1 HD.out.2.1 HV2.out hne (by omega) HD.out.2.2.1)
        have hnb : w.heap.size ≠ b3 := by omega
        clear d0 d1 d2 d3 d4 f0 f1 f2 f3 f4 dz
        refine hK.out _ _ (((((HD.out.1.other hnb).other hnb).other hnb).other hnb).other hnb) (fun hHeld => ?_)
        clear hK KC
        refine wpAnyH_done (by kernel_rfl) ?_ _
        refine NoPanic.normal ?_
        go_wp2_with fail
        go_meet
        exact ⟨b3, _, rfl, HF.out, hHeld⟩
    ·
      go_wp2_with fail
      (first | (obtain ⟨W4, hW4⟩ : ∃ x, x = W3.alloc (.cells #[.string ⟨#[]⟩, .slice none 0 0, .bool false, .string ⟨#[]⟩, .slice none 0 0] 43) := ⟨_, rfl⟩; have hb : Below W3.heap.size W3 W4 := hW4 ▸ Go.Joins.below_alloc1 _ _; obtain ⟨b3, hb3E⟩ : ∃ b, b = W3.heap.size := ⟨_, rfl⟩; have HB3 : Hid (Bx W4 b3 [.string ⟨#[]⟩, .slice none 0 0, .bool false, .string ⟨#[]⟩, .slice none 0 0] ∧ w.heap.size + 2 ≤ b3) := ⟨hb3E ▸ hW4 ▸ Bx.new W3 [_, _, _, _, _] _, by rw [hb3E]; exact HD.out.2.2.2⟩; (first | (have hne : ∀ k, (Value.slice va vt.length vc).ownBlock = some k → k ≠ b3 := fun k hk => by have := (HV2.out.lt k hk).2; omega) | skip); (first | (have HV2 := (show Hid (W4.ownsRow (w.heap.size + 2) 3 1 (.slice va vt.length vc) vt.length (inC vt)) from ownsRow_next HV2.out hb)) | skip); have HD := (show Hid (Bx W4 w.heap.size [.string own, .slice a1 ps.length k1, .bool fx, .string val, .slice a2 vt.length k2] ∧ Bx W4 (w.heap.size + 1) [.string ⟨#[]⟩, .slice none 0 0, .bool false, .string ⟨#[]⟩, .slice none 0 0] ∧ Below w.heap.size w W4 ∧ w.heap.size + 2 ≤ W4.heap.size) from ⟨HD.out.1.next hb, HD.out.2.1.next hb, below_next HD.out.2.2.1 hb, Nat.le_trans HD.out.2.2.2 hb.size⟩); rw [← hW4, ← hb3E]; clear hb hW4 hb3E) | (obtain ⟨W4, hW4⟩ : ∃ x, x = W2.alloc (.cells #[.string ⟨#[]⟩, .slice none 0 0, .bool false, .string ⟨#[]⟩, .slice none 0 0] 43) := ⟨_, rfl⟩; have hb : Below W2.heap.size W2 W4 := hW4 ▸ Go.Joins.below_alloc1 _ _; obtain ⟨b3, hb3E⟩ : ∃ b, b = W2.heap.size := ⟨_, rfl⟩; have HB3 : Hid (Bx W4 b3 [.string ⟨#[]⟩, .slice none 0 0, .bool false, .string ⟨#[]⟩, .slice none 0 0] ∧ w.heap.size + 2 ≤ b3) := ⟨hb3E ▸ hW4 ▸ Bx.new W2 [_, _, _, _, _] _, by rw [hb3E]; exact HD.out.2.2.2⟩; (first | (have hne : ∀ k, (Value.slice va vt.length vc).ownBlock = some k → k ≠ b3 := fun k hk => by have := (HV2.out.lt k hk).2; omega) | skip); (first | (have HV2 := (show Hid (W4.ownsRow (w.heap.size + 2) 3 1 (.slice va vt.length vc) vt.length (inC vt)) from ownsRow_next HV2.out hb)) | skip); have HD := (show Hid (Bx W4 w.heap.size [.string own, .slice a1 ps.length k1, .bool fx, .string val, .slice a2 vt.length k2] ∧ Bx W4 (w.heap.size + 1) [.string ⟨#[]⟩, .slice none 0 0, .bool false, .string ⟨#[]⟩, .slice none 0 0] ∧ Below w.heap.size w W4 ∧ w.heap.size + 2 ≤ W4.heap.size) from ⟨HD.out.1.next hb, HD.out.2.1.next hb, below_next HD.out.2.2.1 hb, Nat.le_trans HD.out.2.2.2 hb.size⟩); rw [← hW4, ← hb3E]; clear hb hW4 hb3E) | (obtain ⟨W4, hW4⟩ : ∃ x, x = W1.alloc (.cells #[.string ⟨#[]⟩, .slice none 0 0, .bool false, .string ⟨#[]⟩, .slice none 0 0] 43) := ⟨_, rfl⟩; have hb : Below W1.heap.size W1 W4 := hW4 ▸ Go.Joins.below_alloc1 _ _; obtain ⟨b3, hb3E⟩ : ∃ b, b = W1.heap.size := ⟨_, rfl⟩; have HB3 : Hid (Bx W4 b3 [.string ⟨#[]⟩, .slice none 0 0, .bool false, .string ⟨#[]⟩, .slice none 0 0] ∧ w.heap.size + 2 ≤ b3) := ⟨hb3E ▸ hW4 ▸ Bx.new W1 [_, _, _, _, _] _, by rw [hb3E]; exact HD.out.2.2.2⟩; (first | (have hne : ∀ k, (Value.slice va vt.length vc).ownBlock = some k → k ≠ b3 := fun k hk => by have := (HV2.out.lt k hk).2; omega) | skip); (first | (have HV2 := (show Hid (W4.ownsRow (w.heap.size + 2) 3 1 (.slice va vt.length vc) vt.length (inC vt)) from ownsRow_next HV2.out hb)) | skip); have HD := (show Hid (Bx W4 w.heap.size [.string own, .slice a1 ps.length k1, .bool fx, .string val, .slice a2 vt.length k2] ∧ Bx W4 (w.heap.size + 1) [.string ⟨#[]⟩, .slice none 0 0, .bool false, .string ⟨#[]⟩, .slice none 0 0] ∧ Below w.heap.size w W4 ∧ w.heap.size + 2 ≤ W4.heap.size) from ⟨HD.out.1.next hb, HD.out.2.1.next hb, below_next HD.out.2.2.1 hb, Nat.le_trans HD.out.2.2.2 hb.size⟩); rw [← hW4, ← hb3E]; clear hb hW4 hb3E) | (obtain ⟨W4, hW4⟩ : ∃ x, x = W.alloc (.cells #[.string ⟨#[]⟩, .slice none 0 0, .bool false, .string ⟨#[]⟩, .slice none 0 0] 43) := ⟨_, rfl⟩; have hb : Below W.heap.size W W4 := hW4 ▸ Go.Joins.below_alloc1 _ _; obtain ⟨b3, hb3E⟩ : ∃ b, b = W.heap.size := ⟨_, rfl⟩; have HB3 : Hid (Bx W4 b3 [.string ⟨#[]⟩, .slice none 0 0, .bool false, .string ⟨#[]⟩, .slice none 0 0] ∧ w.heap.size + 2 ≤ b3) := ⟨hb3E ▸ hW4 ▸ Bx.new W [_, _, _, _, _] _, by rw [hb3E]; exact HD.out.2.2.2⟩; (first | (have hne : ∀ k, (Value.slice va vt.length vc).ownBlock = some k → k ≠ b3 := fun k hk => by have := (HV2.out.lt k hk).2; omega) | skip); (first | (have HV2 := (show Hid (W4.ownsRow (w.heap.size + 2) 3 1 (.slice va vt.length vc) vt.length (inC vt)) from ownsRow_next HV2.out hb)) | skip); have HD := (show Hid (Bx W4 w.heap.size [.string own, .slice a1 ps.length k1, .bool fx, .string val, .slice a2 vt.length k2] ∧ Bx W4 (w.heap.size + 1) [.string ⟨#[]⟩, .slice none 0 0, .bool false, .string ⟨#[]⟩, .slice none 0 0] ∧ Below w.heap.size w W4 ∧ w.heap.size + 2 ≤ W4.heap.size) from ⟨HD.out.1.next hb, HD.out.2.1.next hb, below_next HD.out.2.2.1 hb, Nat.le_trans HD.out.2.2.2 hb.size⟩); rw [← hW4, ← hb3E]; clear hb hW4 hb3E))
      refine hK.out _ _ HD.out.1 (fun hHeld => ?_)
      clear hK KC
      refine ready_call 2 ⟨some 8, Op.call { callee := Callee.value (Operand.func 53), args := #[Operand.tmp 7], argTypes := #[9] }, _, _, _, none⟩ (by kernel_rfl) rfl (by kernel_rfl) (fun KC hK => ?_)
      go_wp2_with fail
      refine (clone_any _ _ HL.out.2.2.1).mono ?_
      rintro r W1 ⟨rfl, hb⟩
      have HD := (show Hid (Bx W1 w.heap.size [.string own, .slice a1 ps.length k1, .bool fx, .string val, .slice a2 vt.length k2] ∧ Bx W1 (w.heap.size + 1) [.string ⟨#[]⟩, .slice none 0 0, .bool false, .string ⟨#[]⟩, .slice none 0 0] ∧ Below w.heap.size w W1 ∧ w.heap.size + 2 ≤ W1.heap.size) from ⟨HD.out.1.next hb, HD.out.2.1.next hb, below_next HD.out.2.2.1 hb, Nat.le_trans HD.out.2.2.2 hb.size⟩)
      (first | (have HB3 := (show Hid (Bx W1 b3 [.string ⟨#[]⟩, .slice none 0 0, .bool false, .string ⟨#[]⟩, .slice none 0 0] ∧ w.heap.size + 2 ≤ b3) from ⟨HB3.out.1.next hb, HB3.out.2⟩)) | skip)
      clear hb
      refine hK.out _ _ HD.out.1 (fun hHeld => ?_)
      clear hK KC
      refine ready_call 7 ⟨some 13, Op.call { callee := Callee.value (Operand.func 53), args := #[Operand.tmp 12], argTypes := #[9] }, _, _, _, none⟩ (by kernel_rfl) rfl (by kernel_rfl) (fun KC hK => ?_)
      go_wp2_with fail
      refine (clone_any _ _ HL.out.2.2.2.1).mono ?_
      rintro r W2 ⟨rfl, hb⟩
      have HD := (show Hid (Bx W2 w.heap.size [.string own, .slice a1 ps.length k1, .bool fx, .string val, .slice a2 vt.length k2] ∧ Bx W2 (w.heap.size + 1) [.string ⟨#[]⟩, .slice none 0 0, .bool false, .string ⟨#[]⟩, .slice none 0 0] ∧ Below w.heap.size w W2 ∧ w.heap.size + 2 ≤ W2.heap.size) from ⟨HD.out.1.next hb, HD.out.2.1.next hb, below_next HD.out.2.2.1 hb, Nat.le_trans HD.out.2.2.2 hb.size⟩)
      (first | (have HB3 := (show Hid (Bx W2 b3 [.string ⟨#[]⟩, .slice none 0 0, .bool false, .string ⟨#[]⟩, .slice none 0 0] ∧ w.heap.size + 2 ≤ b3) from ⟨HB3.out.1.next hb, HB3.out.2⟩)) | skip)
      clear hb
      refine hK.out _ _ HD.out.1 (fun hHeld => ?_)
      clear hK KC
      refine ready_call 10 ⟨some 16, Op.call { callee := Callee.builtin Builtin.append, args := #[Operand.const (Value.slice none 0 0), Operand.tmp 15], argTypes := #[41, 41] }, _, _, _, none⟩ (by kernel_rfl) rfl (by kernel_rfl) (fun KC hK => ?_)
      have hzW := HD.out.2.2.2
      refine wp_appx (.const (.slice none 0 0)) (.tmp 15) 41 3 (by rfl) i0 (.int .i64 0) 8 (w.heap.size + 2) .int rfl Try.underlying41 hi0 hz0 hz1 hz2 rfl (by decide) (.slice none 0 0) [] vt (fun _ => False) (by rfl) OwnX.nil' a2 k2 (by rfl) (HL.out.2.1.next HD.out.2.2.1) (by simp only [List.length_nil]; unfold maxLen; omega) (by simp only [List.length_nil]; omega) hzW ?_
      intro v2 W3 hO3 hg3 hwh3
      obtain ⟨hrow3, _⟩ := hO3.flat rfl
      have hb : Below _ _ W3 := ⟨hg3.os, hg3.tape, hg3.output, hg3.size, fun k hk => hg3.block k hk (fun q => by cases q)⟩
      (first | (have hne : ∀ k, v2.ownBlock = some k → k ≠ b3 := fun k hk => by rcases hwh3 with q | q; (· rw [q] at hk; cases hk); rw [q] at hk; cases hk; have := HB3.out.1.2; omega) | skip)
      have HV2 : Hid (W3.ownsRow (w.heap.size + 2) 3 1 v2 vt.length (inC vt)) := hrow3
      have HD := (show Hid (Bx W3 w.heap.size [.string own, .slice a1 ps.length k1, .bool fx, .string val, .slice a2 vt.length k2] ∧ Bx W3 (w.heap.size + 1) [.string ⟨#[]⟩, .slice none 0 0, .bool false, .string ⟨#[]⟩, .slice none 0 0] ∧ Below w.heap.size w W3 ∧ w.heap.size + 2 ≤ W3.heap.size) from ⟨HD.out.1.next hb, HD.out.2.1.next hb, below_next HD.out.2.2.1 hb, Nat.le_trans HD.out.2.2.2 hb.size⟩)
      (first | (have HB3 := (show Hid (Bx W3 b3 [.string ⟨#[]⟩, .slice none 0 0, .bool false, .string ⟨#[]⟩, .slice none 0 0] ∧ w.heap.size + 2 ≤ b3) from ⟨HB3.out.1.next hb, HB3.out.2⟩)) | skip)
      obtain ⟨va, vc, hvf⟩ := OwnX.vform (OwnX.of_flat (e := .int) (S := fun _ => True) rfl HV2.out (fun _ _ => trivial))
      subst hvf
      clear hb hO3 hg3 hwh3 hrow3 hzW
      refine hK.out _ _ HD.out.1 (fun hHeld => ?_)
      clear hK KC
      refine take_v (v := ?_) 11 ⟨some 17, Op.build 43 #[(0, Operand.tmp 8), (2, Operand.tmp 10), (3, Operand.tmp 13), (4, Operand.tmp 16)], _, _, _, none⟩ rfl (fun _ _ _ h => h) ?_ hHeld ?_
      rotate_left
      · (intro W _; go_simp <;> (try with_reducible rfl))
      refine ready_call 13 ⟨none, Op.store 43 (Operand.tmp 3) (Operand.tmp 17), _, _, _, none⟩ (by kernel_rfl) rfl (by kernel_rfl) (fun KC hK => ?_)
      have d0 := HB3.out.1.cell 0 rfl
      have d1 := HB3.out.1.cell 1 rfl
      have d2 := HB3.out.1.cell 2 rfl
      have d3 := HB3.out.1.cell 3 rfl
      have d4 := HB3.out.1.cell 4 rfl
      have f0 := HB3.out.1.frz 0 (by simp)
      have f1 := HB3.out.1.frz 1 (by simp)
      have f2 := HB3.out.1.frz 2 (by simp)
      have f3 := HB3.out.1.frz 3 (by simp)
      have f4 := HB3.out.1.frz 4 (by simp)
      have dz := HB3.out.1.2
      have hbb := HB3.out.2
      go_wp2_with fail
      have HF := Hid.intro (CpS.start (own := own) (fx := fx) (val := val) HB3.out.1 HD.out.2.1 HV2.out hne (by omega) HD.out.2.2.1)
      have hnb : w.heap.size ≠ b3 := by omega
      clear d0 d1 d2 d3 d4 f0 f1 f2 f3 f4 dz
      refine hK.out _ _ (((((HD.out.1.other hnb).other hnb).other hnb).other hnb).other hnb) (fun hHeld => ?_)
      clear hK KC
      refine wpAnyH_done (by kernel_rfl) ?_ _
      refine NoPanic.normal ?_
      go_wp2_with fail
      go_meet
      exact ⟨b3, _, rfl, HF.out, hHeld⟩
  case rest =>
    obtain ⟨b, v2, rfl, hC, hP⟩ := hcut
    obtain ⟨wd, hwd⟩ : ∃ x, x = wc := ⟨_, rfl⟩
    subst hwd
    have HC : Hid (CpS w wd b own (.slice none 0 0) (ps.take 0) fx val v2 vt) := hC
    have s0 := (hP).cell 0 rfl; have s1 := (hP).cell 1 rfl; have s2 := (hP).cell 2 rfl; have s3 := (hP).cell 3 rfl; have s4 := (hP).cell 4 rfl; have sz := (hP).2
    clear hC hP HD
    obtain ⟨j0, hj0, hy0, hy1, hy2⟩ := info_parts inf_Promise
    go_wp2
    clear s0 s1 s2 s3 s4 sz
    go_loopw [21] (fun i wr => ∃ (k : Nat) (v1 : Value), k ≤ ps.length ∧ i = .int .i64 k ∧ CpS w wr b own v1 (ps.take k) fx val v2 vt) (fun i _ => ps.length - (intOf i).toNat)
    case atStart => exact ⟨0, _, Nat.zero_le _, rfl, HC.out⟩
    case round =>
      obtain ⟨k, v1, hk, rfl, hC⟩ := hrel
      clear HC
      have HC : Hid (CpS w wr b own v1 (ps.take k) fx val v2 vt) := hC
      by_cases hlt : k < ps.length
      · have hlt' : (k : Int) < (ps.length : Int) := by omega
        have HLE : Hid (Lies wr (.list shPromise) [.slice a1 ps.length k1] ps) := HL.out.1.next hC.2.2.2.2.2.2.2
        obtain ⟨xg, xoff, xgo, xgs, xec, xel, xhec, xle⟩ := Lies.elem (HLE.out) hlt
        subst xgo
        rcases xX : ps[k] with ⟨x0, x1, x2, ⟨⟩⟩
        rw [xX] at xle
        have xH : Hid (ps[k] = (x0, x1, x2, ())) := xX
        clear xX
        obtain xev := lies_Promise xle
        subst xev
        have xc0 : wr.cell? ⟨xg, xoff + k * 3, none⟩ = some (.int .i64 x0) := xhec 0 (by simp)
        have xc1 : wr.cell? ⟨xg, xoff + k * 3 + 1, none⟩ = some (.int .i64 x1) := xhec 1 (by simp)
        have xc2 : wr.cell? ⟨xg, xoff + k * 3 + 2, none⟩ = some (.string x2) := xhec 2 (by simp)
        clear xhec xel xle
        have HV : Hid (x2.size ≤ 281474976710656) := Hid.intro (by
          have := (pms_sizes HL.out.2.2.2.2).1 ps[k] (List.getElem_mem hlt)
          rw [xH.out] at this
          have h2 : x2.size ≤ 1073741824 := this
          omega)
        have HPT : Hid (ps.take (k + 1) = ps.take k ++ [mkPm x0 x1 x2]) := Hid.intro (by rw [List.take_succ_eq_append_getElem hlt, xH.out]; rfl)
        have hml : (ps.take k).length ≤ 1073741824 := by rw [List.length_take]; omega
        obtain ⟨M, hM⟩ : ∃ M, M = ps.take k := ⟨_, rfl⟩
        rw [← hM] at HC HPT hml
        clear hM hC HLE
        obtain ⟨av, cv, hvE⟩ := OwnX.vform (OwnX.of_flat (e := tyPromise) (S := fun _ => True) rfl HC.out.2.2.1 (fun _ _ => trivial))
        subst hvE
        obtain ⟨w1, hw1⟩ : ∃ x, x = wr.alloc (.cells #[.int .i64 x0, .int .i64 x1, .string x2] 96) := ⟨_, rfl⟩
        have hb1 : Below wr.heap.size wr w1 := hw1 ▸ Go.Joins.below_alloc1 _ _
        have H1 : Hid (Bx w1 wr.heap.size [.int .i64 x0, .int .i64 x1, .string x2] ∧ CpS w w1 b own (.slice av M.length cv) M fx val v2 vt) := ⟨hw1 ▸ Bx.new wr [_, _, _] _, HC.out.next hb1⟩
        have hbw : b < wr.heap.size := HC.out.1.2
        have hv1lt : ∀ k, (Value.slice av M.length cv).ownBlock = some k → k < wr.heap.size := fun k hk => (HC.out.2.2.1.lt k hk).2
        have hv2lt : ∀ k, v2.ownBlock = some k → k < wr.heap.size := fun k hk => (HC.out.2.2.2.1.lt k hk).2
        have hw1z : wr.heap.size ≠ w.heap.size + 1 := by have := HC.out.2.1.2; omega
        have hwz : w.heap.size ≤ wr.heap.size := HC.out.2.2.2.2.2.2.2.size
        clear hb1 HC
        go_wp2_with fail
        rw [← hw1]
        clear hw1 xc0 xc1 xc2
        refine (clone_any _ _ HV.out).mono ?_
        rintro r w2 ⟨rfl, hb⟩
        have H2 : Hid (Bx w2 wr.heap.size [.int .i64 x0, .int .i64 x1, .string x2] ∧ CpS w w2 b own (.slice av M.length cv) M fx val v2 vt) := ⟨H1.out.1.next hb, H1.out.2.next hb⟩
        clear hb H1
        have q0 := (H2.out.1).cell 0 rfl; have q1 := (H2.out.1).cell 1 rfl; have q2 := (H2.out.1).cell 2 rfl; have qz := (H2.out.1).2
        have f2 := H2.out.1.frz 2 (by simp)
        have p0 := (H2.out.2.1).cell 0 rfl; have p1 := (H2.out.2.1).cell 1 rfl; have p2 := (H2.out.2.1).cell 2 rfl; have p3 := (H2.out.2.1).cell 3 rfl; have p4 := (H2.out.2.1).cell 4 rfl; have pz := (H2.out.2.1).2
        obtain ⟨w3, hw3⟩ : ∃ x, x = w2.setCell ⟨wr.heap.size, 2, none⟩ (.string x2) := ⟨_, rfl⟩
        have H3 : Hid (Bx w3 wr.heap.size [.int .i64 x0, .int .i64 x1, .string x2] ∧ CpS w w3 b own (.slice av M.length cv) M fx val v2 vt) := Hid.intro (hw3 ▸ ⟨H2.out.1.set (k := 2) (by simp) (.string x2), CpS.other H2.out.2 (p := ⟨wr.heap.size, 2, none⟩) (Nat.ne_of_gt hbw) hw1z (fun e => Nat.lt_irrefl _ (hv1lt _ e)) (fun e => Nat.lt_irrefl _ (hv2lt _ e)) hwz _⟩)
        clear H2
        go_upto_region 6 with fail
        rw [← hw3]
        clear hw3 q0 q1 q2 qz f2 p0 p1 p2 p3 p4 pz
        have H4 : Hid (CpS w (w3.alloc (.cells #[.int .i64 x0, .int .i64 x1, .string x2] 96)) b own (.slice av M.length cv) M fx val v2 vt) := H3.out.2.next (Go.Joins.below_alloc1 _ _)
        have HNW := Hid.intro (cells_new w3 [.int .i64 x0, .int .i64 x1, .string x2] 96)
        have q0 := (H3.out.1).cell 0 rfl; have q1 := (H3.out.1).cell 1 rfl; have q2 := (H3.out.1).cell 2 rfl; have qz := (H3.out.1).2
        have p0 := (H3.out.2.1).cell 0 rfl; have p1 := (H3.out.2.1).cell 1 rfl; have p2 := (H3.out.2.1).cell 2 rfl; have p3 := (H3.out.2.1).cell 3 rfl; have p4 := (H3.out.2.1).cell 4 rfl; have pz := (H3.out.2.1).2
        have hz3 : w.heap.size + 2 ≤ w3.heap.size := by have h1 := H3.out.2.1.2; have h2 := H3.out.2.2.2.2.2.2.2.1; omega
        clear H3
        go_wp2_with (first | (at_builtin; refine wpList_append_own_at _ rfl (.tmp 30) (.tmp 32) 40 rfl (w.heap.size + 2) 96 j0 (.agg #[.int .i64 0, .int .i64 0, .string ⟨#[]⟩]) 3 32 Try.underlying40 hj0 hy0 hy1 hy2 rfl (by decide) (.slice av M.length cv) M.length (prC M) rfl H4.out.2.2.1 ⟨w3.heap.size, 0, none⟩ 1 1 [.int .i64 x0, .int .i64 x1, .string x2] rfl rfl HNW.out (by intro u hu; simp at hu; rcases hu with rfl | rfl | rfl <;> rfl) (by unfold maxLen; omega) (by omega) (by simp <;> omega) ?_; intro v9 w9 hown9 hgrow9 hnil9 hwh9; have HF := Hid.intro (CpS.app H4.out hown9 hgrow9 hwh9); obtain ⟨a9, c9, hv9⟩ := OwnX.vform (OwnX.of_flat (e := tyPromise) (S := fun _ => True) rfl HF.out.1.2.2.1 (fun _ _ => trivial)); subst hv9; have r0 := HF.out.2.cell 0 rfl; have r1 := HF.out.2.cell 1 rfl; have rz := HF.out.2.2; have g1 := HF.out.2.frz 1 (by simp); clear hown9 hgrow9 hnil9 hwh9))
        go_roundw
        case rel => exact ⟨k + 1, _, by omega, by go_num, by rw [HPT.out]; exact HF.out.1⟩
        case measure => simp [intOf]; omega
      · have hkn : k = ps.length := by omega
        have hC2 : CpS w wr b own v1 ps fx val v2 vt := by have := hC; rwa [hkn, List.take_length] at this
        obtain ⟨av, cv, hvE⟩ := OwnX.vform (OwnX.of_flat (e := tyPromise) (S := fun _ => True) rfl hC2.2.2.1 (fun _ _ => trivial))
        subst hvE
        obtain ⟨av2, cv2, hvE⟩ := OwnX.vform (OwnX.of_flat (e := .int) (S := fun _ => True) rfl hC2.2.2.2.1 (fun _ _ => trivial))
        subst hvE
        have HF := Hid.intro hC2
        have p0 := (hC2.1).cell 0 rfl; have p1 := (hC2.1).cell 1 rfl; have p2 := (hC2.1).cell 2 rfl; have p3 := (hC2.1).cell 3 rfl; have p4 := (hC2.1).cell 4 rfl; have pz := (hC2.1).2
        have q0 := (hC2.2.1).cell 0 rfl; have q1 := (hC2.2.1).cell 1 rfl; have q2 := (hC2.2.1).cell 2 rfl; have q3 := (hC2.2.1).cell 3 rfl; have q4 := (hC2.2.1).cell 4 rfl; have qz := (hC2.2.1).2
        have f0 := hC2.2.1.frz 0 (by simp)
        have f1 := hC2.2.1.frz 1 (by simp)
        have f2 := hC2.2.1.frz 2 (by simp)
        have f3 := hC2.2.1.frz 3 (by simp)
        have f4 := hC2.2.1.frz 4 (by simp)
        clear hC hC2 HC hkn
        go_wp2
        refine bodyPost_ret (v := .agg #[.string own, .slice av ps.length cv, .bool fx, .string val, .slice av2 vt.length cv2]) (by simp [results, Try.results104, go_sem, *]; rfl) rfl ⟨[.string own, .slice av ps.length cv, .bool fx, .string val, .slice av2 vt.length cv2], rfl, HF.out.done (set5 _ _ _ _ _ _ _), ?_⟩
        exact (((((HF.out.2.2.2.2.2.2.2.setCell (p := ⟨w.heap.size + 1, 0, none⟩) (by simp) _).setCell (p := ⟨w.heap.size + 1, 1, none⟩) (by simp) _).setCell (p := ⟨w.heap.size + 1, 2, none⟩) (by simp) _).setCell (p := ⟨w.heap.size + 1, 3, none⟩) (by simp) _).setCell (p := ⟨w.heap.size + 1, 4, none⟩) (by simp) _)
end Go.Proofs.Ytmhkfangfhanlaa
