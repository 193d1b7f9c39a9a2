/- Bags: impl.ValuesIn. -/
import Derived.Test.YtnglgndocmkbfaaBgD
import Derived.Test.YtnglgndocmkbfaaViT
import Derived.Test.YtnglgndocmkbfaaCln
namespace Go.Proofs.Ytnglgndocmkbfaa
open Go.Sort Go.RowKit
set_option linter.unusedVariables false
set_option linter.unusedSimpArgs false

theorem inf_text : (Try.prog.info? 9).map (fun i => (i.zero, i.size, i.bytes)) = some (some (.string ⟨#[]⟩), 1, 16) := by kernel_rfl
theorem enc_toList (b : ByteArray) : encStr b.toList = Value.string b := by simp [encStr, ByteArray.toList_eq]
theorem enc_map (M : List ByteArray) : (M.map ByteArray.toList).map encStr = M.map Value.string := by
  rw [List.map_map]
  exact List.map_congr_left (fun b _ => enc_toList b)
theorem OwS.toT {W : World} {lo : Nat} {v : Value} {M : List ByteArray} (h : OwS W lo v M) : OwT W lo v (M.map ByteArray.toList) := by
  unfold OwT; rw [enc_map, List.length_map]; exact h
theorem OwT.toS {W : World} {lo : Nat} {v : Value} {M : List ByteArray} (h : OwT W lo v (M.map ByteArray.toList)) : OwS W lo v M := by
  unfold OwT at h; rw [enc_map, List.length_map] at h; exact h
def vlK (A : List AdV) (k : Nat) : List ByteArray := (A.take k).map (fun x => x.1)
theorem vlK_succ {A : List AdV} {k : Nat} (h : k < A.length) : vlK A (k + 1) = vlK A k ++ [(A[k]'h).1] := by
  unfold vlK; rw [List.take_succ_eq_append_getElem h, List.map_append]; rfl
theorem vlK_len {A : List AdV} {k : Nat} (h : k ≤ A.length) : (vlK A k).length = k := by unfold vlK; rw [List.length_map, List.length_take, Nat.min_eq_left h]
theorem vlK_tx (A : List AdV) (k : Nat) : (vlK A k).map ByteArray.toList = txK A k := by unfold vlK txK; rw [List.map_map]; rfl

set_option maxRecDepth 100000 in
set_option maxHeartbeats 4000000 in
theorem valuesIn_n (cs : List Value) (A G : List AdV) (w : World) (hz : szD shBag (A, G, ()) ≤ 1073741824) (h : Lies w shBag cs (A, G, ())) :
    Calls Try.prog 38 #[.agg cs.toArray] w (LisP .str (vsA A G) (tf (goodB A G)) w) := by
  obtain ⟨a1, k1, a2, k2, rfl, h1, h2⟩ := lies_Bag h
  have HL : Hid (Lies w (.list shAdd) [.slice a1 A.length k1] A ∧ Lies w (.list shAdd) [.slice a2 G.length k2] G) := ⟨h1, h2⟩
  have HZ : Hid (szD shBag (A, G, ()) ≤ 1073741824) := hz
  have HSZ := Hid.intro (bg_sizes hz).1
  clear h h1 h2 hz
  have HB0 : Hid (Bx (w.alloc (.cells #[.slice a1 A.length k1, .slice a2 G.length k2] 46)) w.heap.size [.slice a1 A.length k1, .slice a2 G.length k2] ∧ Below w.heap.size w (w.alloc (.cells #[.slice a1 A.length k1, .slice a2 G.length k2] 46))) := ⟨Bx.new w [_, _] _, Go.Joins.below_alloc1 _ _⟩
  go_enter Try.func38, Try.ntmps38
  go_wp2_with fail
  refine (goodBag_n [.slice a1 A.length k1, .slice a2 G.length k2] A G _ HZ.out (mk_Bag (HL.out.1.next HB0.out.2) (HL.out.2.next HB0.out.2))).mono ?_
  rintro r w1 ⟨rfl, hb⟩
  have HB1 : Hid (Bx w1 w.heap.size [.slice a1 A.length k1, .slice a2 G.length k2] ∧ Below w.heap.size w w1) := ⟨HB0.out.1.next hb, below_next HB0.out.2 hb⟩
  clear hb HB0
  have s0 := (HB1.out.1).cell 0 rfl; have s1 := (HB1.out.1).cell 1 rfl; have sz := (HB1.out.1).2
  by_cases c0 : goodB A G
  case neg =>
    have HN : Hid (vsA A G = [] ∧ tf (goodB A G) = false) := ⟨vsA_no c0, tf_no c0⟩
    rw [tf_no c0]
    clear c0
    go_wp2
    refine bodyPost_ret (v := .tuple #[.slice none 0 0, .bool false]) (by simp [results, Try.results38, go_sem]) rfl ?_
    rw [HN.out.1, HN.out.2]
    exact ⟨none, 0, rfl, Own.none (Nat.zero_le _), HB1.out.2⟩
  have HN : Hid (vsA A G = kyL (vsK A A.length) ∧ tf (goodB A G) = true) := ⟨vsA_yes c0, tf_yes c0⟩
  have hlA : A.length ≤ 40 := c0.1.1.1
  rw [tf_yes c0]
  clear c0
  obtain ⟨i0, hi0, hz0, hz1, hz2⟩ := info_parts inf_text
  go_wp2
  clear s0 s1 sz
  go_loopw [13, 4] (fun i v wr => ∃ k : Nat, k ≤ A.length ∧ i = .int .i64 k ∧ OwS wr (w.heap.size + 1) v (vlK A k) ∧ Bx wr w.heap.size [.slice a1 A.length k1, .slice a2 G.length k2] ∧ Below w.heap.size w wr) (fun i _ _ => A.length - (intOf i).toNat)
  case atStart => exact ⟨0, Nat.zero_le _, rfl, OwS.nil _ _, HB1.out⟩
  case round =>
    obtain ⟨k, hk, rfl, hO, hbx, hBr⟩ := hrel
    clear HB1
    by_cases hlt : k < A.length
    · have HO : Hid (OwS wr (w.heap.size + 1) u4 (vlK A k) ∧ Bx wr w.heap.size [.slice a1 A.length k1, .slice a2 G.length k2] ∧ Below w.heap.size w wr) := ⟨hO, hbx, hBr⟩
      have hlt' : (k : Int) < (A.length : Int) := by omega
      have HLE : Hid (Lies wr (.list shAdd) [.slice a1 A.length k1] A) := HL.out.1.next hBr
      obtain ⟨xg, xoff, xgo, xgs, xec, xel, xhec, xle⟩ := Lies.elem (HLE.out) hlt
      subst xgo
      rcases xX : A[k] with ⟨x0, x1, x2, ⟨⟩⟩
      rw [xX] at xle
      have xH : Hid (A[k] = (x0, x1, x2, ())) := xX
      clear xX
      obtain xev := lies_Add xle
      subst xev
      have xc0 : wr.cell? ⟨xg, xoff + k * 3, none⟩ = some (.string x0) := xhec 0 (by simp)
      have xc1 : wr.cell? ⟨xg, xoff + k * 3 + 1, none⟩ = some (.int .i64 x1) := xhec 1 (by simp)
      have xc2 : wr.cell? ⟨xg, xoff + k * 3 + 2, none⟩ = some (.int .i64 x2) := xhec 2 (by simp)
      clear xhec xel xle
      have hx0 : x0.size ≤ 281474976710656 := by have q := HSZ.out.2 k hlt; rw [xH.out] at q; have q : x0.size ≤ 1073741824 := q; omega
      have HKT : Hid (vlK A (k + 1) = vlK A k ++ [x0]) := Hid.intro (by rw [vlK_succ hlt, xH.out])
      obtain ⟨M, hM⟩ : ∃ M, M = vlK A k := ⟨_, rfl⟩
      have hMl : M.length ≤ 40 := by rw [hM, vlK_len hk]; omega
      rw [← hM] at HKT HO
      obtain ⟨w1, hw1⟩ : ∃ q, q = wr.alloc (.cells #[.string x0, .int .i64 x1, .int .i64 x2] 113) := ⟨_, rfl⟩
      have hb1 : Below wr.heap.size wr w1 := hw1 ▸ Go.Joins.below_alloc1 _ _
      have H1 : Hid (OwS w1 (w.heap.size + 1) u4 M ∧ Bx w1 w.heap.size [.slice (some ⟨xg, xoff, none⟩) A.length k1, .slice a2 G.length k2] ∧ Below w.heap.size w w1) := ⟨HO.out.1.next hb1, HO.out.2.1.next hb1, below_next HO.out.2.2 hb1⟩
      have HB := Hid.intro (show Bx w1 wr.heap.size [.string x0, .int .i64 x1, .int .i64 x2] from hw1 ▸ Bx.new wr [_, _, _] _)
      have s0 := HB.out.cell 0 rfl
      have s1 := HB.out.cell 1 rfl
      have s2 := HB.out.cell 2 rfl
      have sz := HB.out.2
      clear hO hbx hBr hb1 hM HLE HO
      go_upto_region 7 with fail
      rw [← hw1]
      clear hw1 xc0 xc1 xc2
      go_wp2_with fail
      refine (clone_any x0 _ hx0).mono ?_
      rintro r w2 ⟨rfl, hb⟩
      have hb2 : Below w2.heap.size w2 (w2.alloc (.cells #[.string x0] 9)) := Go.Joins.below_alloc1 _ _
      have H2 : Hid (OwS w2 (w.heap.size + 1) u4 M ∧ (w2.alloc (.cells #[.string x0] 9)).ownsRow (w.heap.size + 1) 9 1 u4 M.length (M.map Value.string) ∧ Below w.heap.size w (w2.alloc (.cells #[.string x0] 9)) ∧ Bx (w2.alloc (.cells #[.string x0] 9)) w.heap.size [.slice (some ⟨xg, xoff, none⟩) A.length k1, .slice a2 G.length k2]) := ⟨H1.out.1.next hb, (H1.out.1.next hb).next hb2, below_next (below_next H1.out.2.2 hb) hb2, (H1.out.2.1.next hb).next hb2⟩
      have HNW : Hid (∀ j u, [Value.string x0][j]? = some u → (w2.alloc (.cells #[.string x0] 9)).cell? ((⟨w2.heap.size, 0, none⟩ : Addr).add j) = some u) := cells_new w2 [.string x0] 9
      have hwz : w.heap.size + 1 ≤ w2.heap.size := by have := H1.out.2.1.2; have := hb.size; omega
      clear hb hb2 H1 HB s0 s1 s2 sz
      go_wp2_with (first | (at_builtin; refine wpList_append_own_at _ rfl (.tmp 17) (.tmp 21) 60 rfl (w.heap.size + 1) 9 i0 (.string ⟨#[]⟩) 1 16 Try.underlying60 hi0 hz0 hz1 hz2 rfl (by decide) u4 M.length (M.map Value.string) rfl (H2.out.2.1) ⟨w2.heap.size, 0, none⟩ 1 1 [.string x0] rfl rfl (HNW.out) (by intro u hu; simp at hu; subst hu; rfl) (by unfold maxLen; omega) (by omega) (by simp <;> omega) ?_; intro v9 w9 hown9 hgrow9 hnil9 hwh9; have HF : Hid (OwS w9 (w.heap.size + 1) v9 (M ++ [x0]) ∧ Bx w9 w.heap.size [.slice (some ⟨xg, xoff, none⟩) A.length k1, .slice a2 G.length k2] ∧ Below w.heap.size w w9) := ⟨H2.out.1.snoc (W0 := w2) hown9, H2.out.2.2.2.grew hgrow9 hgrow9.size (fun e => by have := (H2.out.2.1.lt _ e.symm).1; omega), H2.out.2.2.1.grown hgrow9 H2.out.2.2.1.size (fun j hj => by have := (H2.out.2.1.lt j hj).1; omega)⟩; clear hown9 hgrow9 hnil9 hwh9))
      go_roundw
      case rel => exact ⟨k + 1, by omega, by go_num, by rw [HKT.out]; exact HF.out.1, HF.out.2.1, HF.out.2.2⟩
      case measure => simp [intOf]; omega
    · have hkn : k = A.length := by omega
      subst hkn
      have HT : Hid (OwT wr (w.heap.size + 1) u4 (txK A A.length) ∧ Below w.heap.size w wr ∧ w.heap.size + 1 ≤ wr.heap.size) := ⟨by rw [← vlK_tx]; exact hO.toT, hBr, hbx.2⟩
      have htl : (txK A A.length).length ≤ 40 := by rw [← vlK_tx, List.length_map, vlK_len (Nat.le_refl _)]; exact hlA
      have HTL := Hid.intro htl
      clear hO hbx hBr htl
      go_wp2_with fail
      refine (sortT (w.heap.size + 1) u4 (txK A A.length) _ (by have := HTL.out; omega) HT.out.1).mono ?_
      rintro r w2 ⟨rfl, hO, hB⟩
      have H2 : Hid (OwT w2 (w.heap.size + 1) u4 ((txK A A.length).mergeSort fun x y => decide (x ≤ y)) ∧ Below w.heap.size w w2) := ⟨hO, hB _ _ HT.out.2.1 (by omega) (by have := HT.out.2.2; omega)⟩
      clear hO hB HT
      go_wp2_with fail
      have hC := compactT (w.heap.size + 1) u4 _ _ (by rw [List.length_mergeSort]; have := HTL.out; omega) H2.out.1
      rw [vs_sorted] at hC
      refine hC.mono ?_
      rintro r w3 ⟨a, cap, rfl, hO, hB⟩
      have H3 : Hid (OwS w3 (w.heap.size + 1) (.slice a ((kyL (vsK A A.length)).map ByteArray.toList).length cap) (kyL (vsK A A.length)) ∧ Below w.heap.size w w3) := ⟨hO.toS, hB _ _ H2.out.2 (by omega)⟩
      clear hO hB H2 hC
      obtain ⟨a', cap', e', _, ho⟩ := (H3.out.1.app.lo (by omega : w.heap.size ≤ w.heap.size + 1)).own
      have HO2 := Hid.intro (show Own w3 (.list .str) [.slice a' (vsA A G).length cap'] (vsA A G) (Btw w.heap.size w3.heap.size) by rw [HN.out.1]; exact ho)
      have e2 : (Value.slice a ((kyL (vsK A A.length)).map ByteArray.toList).length cap) = .slice a' (vsA A G).length cap' := by rw [HN.out.1]; exact e'
      rw [e2]
      clear e' ho e2
      go_wp2
      refine bodyPost_ret (v := .tuple #[.slice a' (vsA A G).length cap', .bool true]) (by simp [results, Try.results38, go_sem]) rfl ?_
      rw [HN.out.2]
      exact ⟨a', cap', rfl, HO2.out, H3.out.2⟩
end Go.Proofs.Ytnglgndocmkbfaa
