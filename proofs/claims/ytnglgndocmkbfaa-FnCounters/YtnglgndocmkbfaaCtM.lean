/- Counters: counts as maps, joined; MergeCounter, on both sides. Written by tools/mkCtM.py. -/
import Derived.Test.YtnglgndocmkbfaaJnI
import Derived.Test.YtnglgndocmkbfaaCtB
namespace Go.Proofs.Ytnglgndocmkbfaa
open Go.RowKit
set_option linter.unusedVariables false
set_option linter.unusedSimpArgs false

theorem flat_zeros : ∀ n : Nat, List.flatMap (valC .int) (List.replicate n (0 : Int)) = List.replicate n (Value.int .i64 0)
  | 0 => rfl
  | n + 1 => by rw [List.replicate_succ, List.replicate_succ, List.flatMap_cons, flat_zeros n]; rfl
/-- make([]int, n). -/
theorem wp_make_int {P : Program} {w : World} {o : Oper} {a : Act} {K : Act → World → Prop} {Q : Exit → Act → World → Prop} (l c : Operand) (t e : TypeId) (hop : o.op = Op.makeSlice t l c) (i : TypeInfo) (h1 : P.underlying t = some (.slice e)) (h2 : P.info? e = some i) (h3 : i.zero = some (.int .i64 0)) (h4 : i.size = 1)
    (n : Nat) (hl : a.eval l = .int .i64 (n : Int)) (hc : a.eval c = .int .i64 (n : Int)) (b2 : i.bytes * n ≤ 281474976710656) (b3 : n ≤ maxLen)
    (hK : ∀ w', ApS .int e w w' (.slice (some ⟨w.heap.size, 0, none⟩) n n) (List.replicate n (0 : Int)) → K (a.put o.dst (.slice (some ⟨w.heap.size, 0, none⟩) n n)) w') : o.wp P a w K Q := by
  obtain ⟨w', hrun, r1, r2⟩ := run_make_full (P := P) w w.heap.size t e i (.int .i64 0) 1 h1 h2 h3 h4 .i64 .i64 n b2 b3 (Nat.le_refl _)
  unfold Oper.wp
  simp [execOp, hop, hl, hc, hrun, Result.andThen]
  refine hK w' ⟨OwnX.of_flat (e := .int) rfl ?_ (fun k hk => r1.lt k hk), ⟨r2.os, r2.tape, r2.output, r2.size, fun k hk => r2.block k hk (fun q => by cases q)⟩⟩
  have e1 : (madeCells (Value.int .i64 0).cells (n * 1)).toList = List.flatMap (valC .int) (List.replicate n (0 : Int)) := by
    rw [flat_zeros, Nat.mul_one]; exact toList_madeCells_one _ _
  have r1' := r1
  rw [e1] at r1'
  rw [List.length_replicate]
  exact r1'
theorem ApS.named {t : TypeId} {w W : World} {n : Nat} {l : List (Sh.T .int)} (h : ApS .int t w W (.slice (some ⟨w.heap.size, 0, none⟩) n n) l) (hl : l.length = n) : ∃ g, g = w.heap.size ∧ Rw t W w.heap.size g n l n := by
  obtain ⟨row, _⟩ := OwnX.flat (e := .int) rfl h.1
  exact ⟨w.heap.size, rfl, OwnX.of_flat (e := .int) rfl row (fun k hk => by cases hk; rfl), hl⟩
theorem wpList_make_int {P : Program} {w : World} {o : Oper} {a : Act} {Q : Exit → Act → World → Prop} {ops : Array Oper} {rest : List Oper} (hg : o.guard = none) (l c : Operand) (t e : TypeId) (hop : o.op = Op.makeSlice t l c) (i : TypeInfo) (h1 : P.underlying t = some (.slice e)) (h2 : P.info? e = some i) (h3 : i.zero = some (.int .i64 0)) (h4 : i.size = 1)
    (n : Nat) (hl : a.eval l = .int .i64 (n : Int)) (hc : a.eval c = .int .i64 (n : Int)) (b2 : i.bytes * n ≤ 281474976710656) (b3 : n ≤ maxLen)
    (hK : ∀ w', ApS .int e w w' (.slice (some ⟨w.heap.size, 0, none⟩) n n) (List.replicate n (0 : Int)) → wpList P ops Q rest (a.put o.dst (.slice (some ⟨w.heap.size, 0, none⟩) n n)) w') : wpList P ops Q (o :: rest) a w := by
  refine wpList_plain hg fun K' hK' => ?_
  exact wp_make_int l c t e hop i h1 h2 h3 h4 n hl hc b2 b3 (fun w' h => hK' _ _ (hK w' h))
/-- A list of numbers as a function of its places. -/
def fC (l : List Int) : Int → Option Int := fun k => if 0 ≤ k ∧ k < l.length then some (atI l k.toNat) else none
def tlC (l : List Int) (n : Nat) : List (Int × Int) := (List.range n).map (fun x : Nat => ((x : Int), atI l x))
theorem tlC_enc (l : List Int) (n : Nat) : encL evI (tlC l n) = intM l n := by unfold encL tlC intM; rw [List.map_map]; rfl
theorem tlC_keys (l : List Int) (n : Nat) : KeysN (tlC l n) := by
  unfold KeysN tlC
  rw [List.map_map, List.nodup_iff_pairwise_ne]
  refine List.pairwise_map.2 (List.Pairwise.imp ?_ (List.nodup_iff_pairwise_ne.1 List.nodup_range))
  intro a b h e
  have e : (a : Int) = (b : Int) := by simpa using e
  exact h (by omega)
theorem tlC_get (l : List Int) (k : Int) : getK k (tlC l l.length) = fC l k := by
  unfold fC
  by_cases h : 0 ≤ k ∧ k < l.length
  · rw [if_pos h]
    refine getK_of (tlC_keys _ _) ?_
    exact List.mem_map.2 ⟨k.toNat, List.mem_range.2 (by omega), by simp [Int.toNat_of_nonneg h.1]⟩
  · rw [if_neg h]
    refine getK_none.2 (fun p hp e => h ?_)
    obtain ⟨x, hx, rfl⟩ := List.mem_map.1 hp
    have := List.mem_range.1 hx
    simp only at e
    omega
theorem MpT.of_ints {w : World} {m : Nat} {l : List Int} (h : MpX kvI w m (intM l l.length)) : MpT kvI evI w m (fC l) := ⟨tlC l l.length, by rw [tlC_enc]; exact h, tlC_keys _ _, tlC_get l⟩

set_option maxRecDepth 100000 in
set_option maxHeartbeats 2000000 in
theorem collect_n (Bs g off len cap : Nat) (l : List Int) (w : World) (hl : l.length = len) (hn : len ≤ 1048576) (hBs : Bs < w.heap.size) (hg : g < w.heap.size) (hc : w.cell? ⟨Bs, 0, none⟩ = some (.slice (some ⟨g, off, none⟩) len cap)) (hs : Elems w g off len 1 (intF (atI l))) :
    Calls Try.prog 132 #[.func (.func 149) #[] #[.pointer (some ⟨Bs, 0, none⟩)]] w fun r w' => ∃ m, r = .returned (.map (some m)) ∧ w.heap.size ≤ m ∧ MpT kvI evI w' m (fC l) ∧ Below w.heap.size w w' := by
  subst hl
  obtain ⟨w1, hw1⟩ : ∃ q, q = w.alloc (.map #[] 0) := ⟨_, rfl⟩
  have hb1 : Below w.heap.size w w1 := hw1 ▸ Go.Joins.below_alloc1 _ _
  have HC : Hid (Calls Try.prog 148 #[.map (some w.heap.size), .func (.func 149) #[] #[.pointer (some ⟨Bs, 0, none⟩)]] w1 (fun r w' => r = .returned (.tuple #[]) ∧ MpX kvI w' w.heap.size (intM l l.length) ∧ Below w.heap.size w w')) :=
    Hid.intro ((callsIn_wide (n := 5)).1 (insInts_in 5 (by omega) w.heap.size Bs l.length l hn w w1 hb1 (Nat.le_refl _) (hw1 ▸ MpX.made w) (all_stops 4 (by omega) Bs g off l.length cap l hn w hBs hg hc hs)))
  clear hb1 hc hs
  have hmm := @run_makeMap Try.prog
  go_enter Try.func132, Try.ntmps132
  go_wp2_with fail
  rw [← hw1]
  clear hw1 hmm
  refine HC.out.mono ?_
  rintro e w2 ⟨rfl, hm, hb⟩
  have H2 : Hid (MpX kvI w2 w.heap.size (intM l l.length) ∧ Below w.heap.size w w2) := ⟨hm, hb⟩
  clear hm hb HC
  go_wp2
  go_ret
  exact ⟨w.heap.size, rfl, Nat.le_refl _, MpT.of_ints H2.out.1, H2.out.2⟩

set_option maxRecDepth 100000 in
set_option maxHeartbeats 2000000 in
theorem countsOf_n (a : Option Addr) (len cap : Nat) (l : List Int) (w : World) (hl : l.length = len) (h0 : 0 < len) (hn : len ≤ 1048576) (h : Lies w (.list .int) [.slice a l.length cap] l) :
    Calls Try.prog 112 #[.slice a len cap] w fun r w' => ∃ m, r = .returned (.map (some m)) ∧ w.heap.size ≤ m ∧ MpT kvI evI w' m (fC l) ∧ Below w.heap.size w w' := by
  rcases lies_sl h with q | ⟨g, off, rfl, hg, hE⟩
  · omega
  subst hl
  clear h
  have hb1 : Below w.heap.size w (w.alloc (.cells #[.slice (some ⟨g, off, none⟩) l.length cap] 23)) := Go.Joins.below_alloc1 _ _
  have HE : Hid (Elems (w.alloc (.cells #[.slice (some ⟨g, off, none⟩) l.length cap] 23)) g off l.length 1 (intF (atI l))) := Hid.intro (hE.below hb1 hg)
  have HB := Hid.intro hb1
  have HBX := Hid.intro (Bx.new w [.slice (some ⟨g, off, none⟩) l.length cap] 23)
  clear hE hb1
  go_enter Try.func112, Try.ntmps112
  go_wp2_with (go_at_call 133; refine (all_any _ _ _ _).mono ?_; rintro e w1 ⟨rfl, hw⟩)
  have hw := hw.symm
  subst hw
  refine (collect_n w.heap.size g off l.length cap l _ rfl hn (by simp) (by simp; omega) (HBX.out.cell 0 rfl) HE.out).mono ?_
  rintro e w2 ⟨m, rfl, hm, hM, hb⟩
  have HF : Hid (w.heap.size ≤ m ∧ MpT kvI evI w2 m (fC l) ∧ Below w.heap.size w w2) := ⟨by have := HB.out.size; omega, hM, below_next HB.out hb⟩
  clear hm hM hb
  go_wp2
  go_ret
  exact ⟨m, rfl, HF.out⟩
theorem mxL_len (u v : List (Sh.T .int)) : (mxL u v).length = 6 := by simp [mxL]
theorem mxL_at {u v : List (Sh.T .int)} {k : Nat} (h : k < 6) : atI (mxL u v) k = max (atI u k) (atI v k) := by
  have hl : k < (mxL u v).length := by rw [mxL_len]; exact h
  rw [atI_lt hl]
  simp [mxL]
theorem ints_ext {X Y : List Int} (h1 : X.length = 6) (h2 : Y.length = 6) (h : ∀ k, k < 6 → atI X k = atI Y k) : X = Y := by
  refine List.ext_getElem (by omega) (fun k hk hk2 => ?_)
  have := h k (by omega)
  rwa [atI_lt hk, atI_lt hk2] at this
theorem atI_set {l : List Int} {k j : Nat} {x : Int} (hk : k < l.length) : atI (l.set k x) j = if j = k then x else atI l j := by
  unfold atI
  by_cases e : j = k
  · subst e; simp [List.getD_eq_getElem?_getD, hk]
  · rw [if_neg e, List.getD_eq_getElem?_getD, List.getD_eq_getElem?_getD, List.getElem?_set_ne (fun q => e q.symm)]
theorem jn_at {u v : List Int} (h1 : u.length = 6) (h2 : v.length = 6) (k : Int) : jnF (fun x y : Int => max x y) (fC u) (fC v) k = if 0 ≤ k ∧ k < 6 then some (max (atI u k.toNat) (atI v k.toNat)) else none := by
  unfold jnF fC
  rw [h1, h2]
  by_cases h : 0 ≤ k ∧ k < 6
  · rw [if_pos (show 0 ≤ k ∧ k < ((6 : Nat) : Int) by omega), if_pos (show 0 ≤ k ∧ k < ((6 : Nat) : Int) by omega), if_pos h]
  · rw [if_neg (show ¬ (0 ≤ k ∧ k < ((6 : Nat) : Int)) by omega), if_neg (show ¬ (0 ≤ k ∧ k < ((6 : Nat) : Int)) by omega), if_neg h]
/-- A list of six numbers is answered. -/
def SixP (l : List (Sh.T .int)) (w : World) (r : Ending) (w' : World) : Prop := ∃ g c, r = .returned (.slice (some ⟨g, 0, none⟩) 6 c) ∧ Rw 3 w' w.heap.size g c l 6 ∧ Below w.heap.size w w'
abbrev jfC (u v : List (Sh.T .int)) : Int → Option Int := jnF (fun x y : Int => max x y) (fC u) (fC v)
/-- Between the rounds: X is the list so far, lf is still to come. -/
def GcI (w W : World) (m r g c : Nat) (u v : List (Sh.T .int)) (lf : List (Int × Int)) (X : List (Sh.T .int)) : Prop :=
  RgT kvI evI W m r (jfC u v) lf ∧ Rw 3 W w.heap.size g c X 6 ∧ (∀ k : Nat, k < 6 → atI X k = if (getK (k : Int) lf).isSome then 0 else max (atI u k) (atI v k)) ∧ Below w.heap.size w W
set_option maxRecDepth 100000 in
set_option maxHeartbeats 4000000 in
theorem greaterCounts_n (a1 : Option Addr) (k1 : Nat) (a2 : Option Addr) (k2 : Nat) (u v : List (Sh.T .int)) (w : World) (hu : u.length = 6) (hv : v.length = 6) (h1 : Lies w (.list .int) [.slice a1 u.length k1] u) (h2 : Lies w (.list .int) [.slice a2 v.length k2] v) :
    Calls Try.prog 63 #[.slice a1 6 k1, .slice a2 6 k2] w (SixP (mxL u v) w) := by
  have HL : Hid (Lies w (.list .int) [.slice a1 u.length k1] u ∧ Lies w (.list .int) [.slice a2 v.length k2] v) := ⟨h1, h2⟩
  have HN : Hid (u.length = 6 ∧ v.length = 6) := ⟨hu, hv⟩
  clear h1 h2 hu hv
  obtain ⟨i0, hi0, hz0, hz1, hz2⟩ := info_parts inf_int
  go_enter Try.func63, Try.ntmps63
  go_wp2_with fail
  refine (countsOf_n a1 6 k1 u w HN.out.1 (by omega) (by omega) HL.out.1).mono ?_
  rintro e w1 ⟨m1, rfl, hm1, hM1, hb⟩
  have H1 : Hid (MpT kvI evI w1 m1 (fC u) ∧ Below w.heap.size w w1) := ⟨hM1, hb⟩
  clear hm1 hM1 hb
  go_wp2_with fail
  refine (countsOf_n a2 6 k2 v w1 HN.out.2 (by omega) (by omega) (HL.out.2.next H1.out.2)).mono ?_
  rintro e w2 ⟨m2, rfl, hm2, hM2, hb⟩
  have H2 : Hid (MpT kvI evI w2 m1 (fC u) ∧ MpT kvI evI w2 m2 (fC v) ∧ Below w.heap.size w w2) := ⟨H1.out.1.next hb, hM2, below_next H1.out.2 hb⟩
  clear hm2 hM2 hb H1
  go_wp2_with fail
  refine (joinI_n m1 m2 (fC u) (fC v) w2 H2.out.1 H2.out.2.1).mono ?_
  rintro e w3 ⟨m, rfl, hm, hM, hb⟩
  have H3 : Hid (MpT kvI evI w3 m (jfC u v) ∧ Below w.heap.size w w3 ∧ m < w3.heap.size) := ⟨hM, below_next H2.out.2.2 hb, hM.lt⟩
  clear hm hM hb H2
  go_wp2_with (first | (at_make; refine wpList_make_int rfl _ _ 23 3 rfl i0 Try.underlying23 hi0 hz0 hz1 6 rfl rfl (by rw [hz2]; decide) (by decide) ?_; intro w4 hA4; obtain ⟨g, hgE, hR4⟩ := hA4.named (List.length_replicate ..); rw [← hgE]; have H4 : Hid (MpT kvI evI w4 m (jfC u v) ∧ Rw 3 w4 w.heap.size g 6 (List.replicate 6 (0 : Int)) 6 ∧ Below w.heap.size w w4 ∧ m < g) := (by have h3 := H3.out.2.2; exact ⟨H3.out.1.next hA4.2, hR4.lower H3.out.2.1.size, below_next H3.out.2.1 hA4.2, by omega⟩); clear hA4 hR4 hgE) | (at_range; refine wpList_rangeT rfl (.tmp 15) rfl Try.underlying142 rfl H4.out.1 ?_; intro w0 lf hrg0 hall hb0 hs0) | go_in)
  obtain ⟨r, hr⟩ : ∃ r, r = w4.heap.size := ⟨_, rfl⟩
  rw [← hr] at hrg0 ⊢
  have HI : Hid (GcI w w0 m r g 6 u v lf (List.replicate 6 (0 : Int))) := ⟨hrg0, H4.out.2.1.next hb0, fun k hk => (by
    have e1 := jn_at HN.out.1 HN.out.2 (k : Int)
    rw [if_pos (by omega)] at e1
    have e2 := getK_of hrg0.2.1 (hall _ _ e1)
    rw [e2]
    have : k = 0 ∨ k = 1 ∨ k = 2 ∨ k = 3 ∨ k = 4 ∨ k = 5 := by omega
    rcases this with rfl | rfl | rfl | rfl | rfl | rfl <;> rfl), below_next H4.out.2.2.1 hb0⟩
  have HRR : Hid (w.heap.size ≤ r ∧ g ≠ r ∧ m ≠ r ∧ g ≠ m ∧ w.heap.size ≤ g) := Hid.intro (by
    have q1 := H4.out.2.1.lt
    have q2 := H4.out.1.lt
    have q3 := H4.out.2.2.1.size
    have q4 := H4.out.2.2.2
    omega)
  clear hrg0 hall hb0 hs0 hr H4 H3
  go_frame
  go_loopw [] (fun wr => ∃ lf X, GcI w wr m r g 6 u v lf X) (fun wr => wr.rangeLeft m r)
  case atStart => exact ⟨_, _, HI.out⟩
  case round =>
    obtain ⟨lf, X, hA⟩ := hrel
    have HA := Hid.intro hA
    clear hA HI
    go_wp2_with (first | (at_next; refine wpList_nextT rfl (.tmp 16) rfl rfl HA.out.1 ?_ ?_) | go_in)
    · intro hl0
      have HF : Hid (Rw 3 wr w.heap.size g 6 (mxL u v) 6 ∧ Below w.heap.size w wr) := Hid.intro (by
        have e : X = mxL u v := ints_ext HA.out.2.1.2 (mxL_len u v) (fun k hk => by
          rw [HA.out.2.2.1 k hk, hl0, mxL_at hk]; rfl)
        rw [← e]
        exact ⟨HA.out.2.1, HA.out.2.2.2⟩)
      clear hl0
      go_wp2
      go_ret
      exact ⟨g, 6, rfl, HF.out⟩
    · intro i hi w5 hrg hg hsz hen
      have HW : Hid (RgT kvI evI w5 m r (jfC u v) (lf.eraseIdx i) ∧ Rw 3 w5 w.heap.size g 6 X 6 ∧ Below w.heap.size w w5) := ⟨hrg, HA.out.2.1.keep (hg.block g HA.out.2.1.lt.1 (fun e => by cases e; exact HRR.out.2.1 rfl)), HA.out.2.2.2.grown hg HA.out.2.2.2.size (fun k e => by cases e; exact HRR.out.1)⟩
      have HG : Hid (jfC u v lf[i].1 = some lf[i].2) := Hid.intro (HA.out.1.2.2 _ (List.getElem_mem hi))
      have HER : Hid (∀ k : Int, getK k (lf.eraseIdx i) = if lf[i].1 = k then none else getK k lf) := Hid.intro (getK_erase HA.out.1.2.1 hi)
      have HLF : Hid ((lf.eraseIdx i).length < lf.length) := Hid.intro (by rw [List.length_eraseIdx]; rw [if_pos hi]; omega)
      obtain ⟨q, hq⟩ : ∃ q, q = lf[i] := ⟨_, rfl⟩
      rw [← hq] at hen HG HER ⊢
      obtain ⟨qk, y⟩ := q
      have HG : Hid (jfC u v qk = some y) := HG
      simp only at hen ⊢
      have hbd : (0 ≤ qk ∧ qk < 6) ∧ y = max (atI u qk.toNat) (atI v qk.toNat) := by
        have e1 : jnF (fun x y : Int => max x y) (fC u) (fC v) qk = some y := HG.out
        rw [jn_at HN.out.1 HN.out.2] at e1
        by_cases c : 0 ≤ qk ∧ qk < 6
        · rw [if_pos c] at e1; exact ⟨c, by injection e1 with e1; exact e1.symm⟩
        · rw [if_neg c] at e1; cases e1
      obtain ⟨⟨hq0, hq6⟩, hy⟩ := hbd
      obtain ⟨k, rfl⟩ : ∃ k : Nat, qk = (k : Int) := ⟨qk.toNat, by omega⟩
      have hk6 : k < 6 := by omega
      obtain ⟨c1, c2, c3⟩ := HW.out.2.1.at hk6
      have HF : Hid (GcI w (w5.setCell ⟨g, k, none⟩ (.int .i64 y)) m r g 6 u v (lf.eraseIdx i) (X.set k y)) := Hid.intro (by
        have hX := HW.out.2.1.2
        have ht := turn_set w5 ⟨g, k, none⟩ (.int .i64 y)
        refine ⟨HW.out.1.keep (ht.block HW.out.1.1.lt.1 (fun e => by have e : m = g := e; have := HRR.out; omega)) (ht.block HW.out.1.1.lt.2.1 (fun e => by have e : r = g := e; have := HRR.out; omega)), HW.out.2.1.set hk6 y, fun j hj => ?_, HW.out.2.2.setCell (p := ⟨g, k, none⟩) HRR.out.2.2.2.2 _⟩
        rw [atI_set (by rw [hX]; exact hk6), HER.out]
        by_cases e : j = k
        · subst e
          rw [if_pos rfl, if_pos rfl, hy]
          simp
        · have q : ¬ ((k : Int), y).1 = (j : Int) := fun q => e (by have q : (k : Int) = (j : Int) := q; omega)
          rw [if_neg e, show (if ((k : Int), y).1 = (j : Int) then none else getK (j : Int) lf) = getK (j : Int) lf from if_neg q]
          exact HA.out.2.2.1 j hj)
      clear hq hrg hg hsz hy hq0 hq6 HG HER
      go_wp2
      clear hen c1 c2 c3
      go_roundw
      case rel => exact ⟨_, _, HF.out⟩
      case measure =>
        have h1 := HF.out.1.left
        have h2 := HA.out.1.left
        have h3 := HLF.out
        rw [h1, h2]; exact h3

set_option maxRecDepth 100000 in
set_option maxHeartbeats 4000000 in
theorem l2Merge_n (a1 : Option Addr) (k1 : Nat) (a2 : Option Addr) (k2 : Nat) (u v : List (Sh.T .int)) (w : World) (hu : u.length = 6) (hv : v.length = 6) (h1 : Lies w (.list .int) [.slice a1 u.length k1] u) (h2 : Lies w (.list .int) [.slice a2 v.length k2] v) :
    Calls Try.prog 64 #[.slice a1 6 k1, .slice a2 6 k2] w (SixP (mxL u v) w) := by
  have HL : Hid (Lies w (.list .int) [.slice a1 u.length k1] u ∧ Lies w (.list .int) [.slice a2 v.length k2] v) := ⟨h1, h2⟩
  have HN : Hid (u.length = 6 ∧ v.length = 6) := ⟨hu, hv⟩
  have hbA : 0 + u.length ≤ maxLen := by unfold maxLen; omega
  have hcA : (0 + u.length) * 8 ≤ 140737488355328 := by omega
  have HM : Hid (ApS .int 3 w (w.alloc (.cells #[] 3)) (.slice (some ⟨w.heap.size, 0, none⟩) 0 0) []) := Hid.intro (ApS.made rfl)
  have HU : Hid (∃ a, a = a1 ∧ Lies w (.list .int) [.slice a u.length k1] u) := ⟨a1, rfl, h1⟩
  clear h1 h2
  obtain ⟨i0, hi0, hz0, hz1, hz2⟩ := info_parts inf_int
  rw [← hu]
  rw [show (Value.slice a2 u.length k2) = .slice a2 6 k2 by rw [hu]]
  clear hu hv
  go_enter Try.func64, Try.ntmps64
  go_wp2_with (at_builtin; refine wpList_appx rfl (.tmp 8) (.tmp 9) 23 3 rfl i0 (.int .i64 0) 8 w.heap.size .int rfl Try.underlying23 hi0 hz0 hz1 hz2 rfl (by decide) (.slice (some ⟨w.heap.size, 0, none⟩) 0 0) [] u _ rfl HM.out.1 a1 k1 rfl (HL.out.1.next HM.out.2) hbA hcA HM.out.2.size ?_; intro v1 w1 hO1 hg1 hwh1; have H1 : Hid (ApS .int 3 w w1 v1 u) := Hid.intro (ApS.app (e := .int) (l2 := u) rfl HM.out hO1 hg1); clear hO1 hg1 hwh1; obtain ⟨g, cc, hvE, hSg, hRw⟩ := Rw.of H1.out.1 (fun e => by have := HN.out.1; rw [e] at this; cases this); rw [HN.out.1] at hvE hRw; subst hvE; have H2 : Hid (Rw 3 w1 w.heap.size g cc u 6 ∧ Below w.heap.size w w1) := ⟨hRw, H1.out.2⟩; clear hRw hSg)
  go_loopw [13] (fun i wr => ∃ (k : Nat) (X : List (Sh.T .int)), k ≤ 6 ∧ i = .int .i64 k ∧ Rw 3 wr w.heap.size g cc X 6 ∧ (∀ j, j < 6 → atI X j = if j < k then max (atI u j) (atI v j) else atI u j) ∧ Below w.heap.size w wr) (fun i _ => 6 - (intOf i).toNat)
  case atStart => exact ⟨0, u, Nat.zero_le _, rfl, H2.out.1, fun j _ => by rw [if_neg (Nat.not_lt_zero j)], H2.out.2⟩
  case round =>
    obtain ⟨k, X, hk, rfl, hR, hX, hB⟩ := hrel
    have HA : Hid (Rw 3 wr w.heap.size g cc X 6 ∧ (∀ j, j < 6 → atI X j = if j < k then max (atI u j) (atI v j) else atI u j) ∧ Below w.heap.size w wr) := ⟨hR, hX, hB⟩
    clear hR hX hB
    by_cases hlt : k < 6
    · have hlt' : (k : Int) < 6 := by omega
      obtain ⟨g2, o2, ha2, c2, z2⟩ := lies_at (HL.out.2.next HA.out.2.2) (show k < v.length by rw [HN.out.2]; exact hlt)
      subst ha2
      obtain ⟨d1, d2, d3⟩ := HA.out.1.at hlt
      have HK : Hid (atI X k = atI u k) := Hid.intro (by rw [HA.out.2.1 k hlt, if_neg (Nat.lt_irrefl k)])
      obtain ⟨x, hx⟩ : ∃ x, x = atI X k := ⟨_, rfl⟩
      obtain ⟨y, hy⟩ : ∃ y, y = atI v k := ⟨_, rfl⟩
      have HXY : Hid (x = atI u k ∧ y = atI v k) := ⟨hx.trans HK.out, hy⟩
      rw [← hx] at d1
      rw [← hy] at c2
      clear hx hy
      by_cases c : x < y
      · have HF : Hid (Rw 3 (wr.setCell ⟨g, k, none⟩ (.int .i64 y)) w.heap.size g cc (X.set k y) 6 ∧ (∀ j, j < 6 → atI (X.set k y) j = if j < k + 1 then max (atI u j) (atI v j) else atI u j) ∧ Below w.heap.size w (wr.setCell ⟨g, k, none⟩ (.int .i64 y))) := Hid.intro (by
          have hXl := HA.out.1.2
          refine ⟨HA.out.1.set hlt y, fun j hj => ?_, HA.out.2.2.setCell (p := ⟨g, k, none⟩) HA.out.1.lt.2 _⟩
          rw [atI_set (by rw [hXl]; exact hlt)]
          have hxy := HXY.out
          by_cases e : j = k
          · subst e; rw [if_pos rfl, if_pos (by omega), ← hxy.1, ← hxy.2]; omega
          · rw [if_neg e, HA.out.2.1 j hj]
            by_cases q : j < k
            · rw [if_pos q, if_pos (by omega)]
            · rw [if_neg q, if_neg (by omega)])
        go_wp2
        go_roundw
        case rel => exact ⟨k + 1, _, by omega, by go_num, HF.out⟩
        case measure => simp [intOf]; omega
      · have HF : Hid (∀ j, j < 6 → atI X j = if j < k + 1 then max (atI u j) (atI v j) else atI u j) := Hid.intro (by
          intro j hj
          have hxy := HXY.out
          rw [HA.out.2.1 j hj]
          by_cases e : j = k
          · subst e; rw [if_neg (Nat.lt_irrefl j), if_pos (by omega), ← hxy.1, ← hxy.2]; omega
          · by_cases q : j < k
            · rw [if_pos q, if_pos (by omega)]
            · rw [if_neg q, if_neg (by omega)])
        go_wp2
        go_roundw
        case rel => exact ⟨k + 1, X, by omega, by go_num, HA.out.1, HF.out, HA.out.2.2⟩
        case measure => simp [intOf]; omega
    · have HF : Hid (Rw 3 wr w.heap.size g cc (mxL u v) 6 ∧ Below w.heap.size w wr) := Hid.intro (by
        have e : X = mxL u v := ints_ext HA.out.1.2 (mxL_len u v) (fun j hj => by rw [HA.out.2.1 j hj, if_pos (by omega), mxL_at hj])
        rw [← e]
        exact ⟨HA.out.1, HA.out.2.2⟩)
      go_wp2
      go_ret
      exact ⟨g, cc, rfl, HF.out⟩

end Go.Proofs.Ytnglgndocmkbfaa
