/- The contracts of the specification's l3Last, l3Commit and RecoverableOf. -/
import Derived.Test.YthbpjmnlgfahmaaRecJ
import Derived.Test.YthbpjmnlgfahmaaOpS
namespace Go.Proofs.Ythbpjmnlgfahmaa
open Go.RowKit
set_option linter.unusedVariables false

def LastPost (K T : Nat → Int) (S : Nat → ByteArray) (key : ByteArray) (at' : Nat) (w : World) (r : Ending) (w' : World) : Prop := (∃ p : Int, r = .returned (.tuple #[.int .i64 (lastN (wrB K S key) T at'), .int .i64 p])) ∧ w' = w
set_option maxRecDepth 100000 in
set_option maxHeartbeats 2000000 in
theorem l3Last_any (a : Option Addr) (n cap at' : Nat) (K T : Nat → Int) (S : Nat → ByteArray) (key : ByteArray) (w : World) (hn : n ≤ 1048576) (hat : at' ≤ n) (hs : Sl w a n 3 (opF K T S)) :
    Calls Try.prog 79 #[.slice a n cap, .int .i64 (at' : Int), .string key] w (LastPost K T S key at' w) := by
  have HS : Hid (Sl w a n 3 (opF K T S)) := hs
  clear hs
  go_enter Try.func79, Try.ntmps79
  go_wp2
  go_loop [8] (fun i => ∃ (k : Nat) (x : Int), k ≤ at' ∧ x = (k : Int) - 1 ∧ i = .int .i64 x ∧ lastN (wrB K S key) T at' = lastN (wrB K S key) T k) (fun i => (intOf i + 1).toNat)
  case atStart => exact ⟨at', _, Nat.le_refl _, rfl, rfl, rfl⟩
  case round =>
    obtain ⟨k, x, hk, hx, rfl, hl⟩ := hrel
    rcases Nat.eq_zero_or_pos k with h0 | h0
    · have hx1 : x = -1 := by omega
      have HL : Hid (lastN (wrB K S key) T at' = 0) := by show _ = _; rw [hl, h0]; rfl
      subst hx1
      clear hx hl
      go_wp2
      exact bodyPost_ret (v := .tuple #[.int .i64 0, .int .i64 (-1)]) (by simp [results, Try.results79, go_sem]) rfl ⟨⟨-1, by rw [HL.out]⟩, rfl⟩
    · obtain ⟨p, hp⟩ : ∃ p, k = p + 1 := ⟨k - 1, by omega⟩
      have hxp : x = (p : Int) := by omega
      rcases HS.out with h | ⟨b, off, rfl, hbs, hE⟩
      · omega
      obtain ⟨c0, c1, c2⟩ := op_cells hE (show p < n by omega)
      have hpn : (p : Int) < (n : Int) := by omega
      have HL : Hid (lastN (wrB K S key) T at' = if (K p == 2 && (S p).toList == key.toList) = true then T p else lastN (wrB K S key) T p) := by show _ = _; rw [hl, hp]; rfl
      have HK : Hid (k = p + 1 ∧ k ≤ at') := ⟨hp, hk⟩
      subst hxp
      clear hx hl hE hp hk h0
      cases h2 : (K p == 2)
      · go_wp2
        go_round
        case rel => exact ⟨p, _, by have := HK.out; omega, rfl, rfl, by rw [HL.out, h2]; rfl⟩
        case measure => simp [intOf]
      · cases h3 : ((S p).toList == key.toList)
        · go_wp2
          go_round
          case rel => exact ⟨p, _, by have := HK.out; omega, rfl, rfl, by rw [HL.out, h2, h3]; rfl⟩
          case measure => simp [intOf]
        · have HE : Hid (lastN (wrB K S key) T at' = T p) := by show _ = _; rw [HL.out, h2, h3]; rfl
          go_wp2
          exact bodyPost_ret (v := .tuple #[.int .i64 (T p), .int .i64 (p : Int)]) (by simp [results, Try.results79, go_sem]) rfl ⟨⟨_, by rw [HE.out]⟩, rfl⟩

theorem firstN_step (p : Nat → Bool) (n k : Nat) (hk : k < n) : firstN p (n - k) k = if p k = true then (k : Int) else firstN p (n - (k + 1)) (k + 1) := by
  rw [show n - k = (n - (k + 1)) + 1 by omega, firstN]
set_option maxRecDepth 100000 in
set_option maxHeartbeats 2000000 in
theorem l3Commit_any (a : Option Addr) (n cap : Nat) (K T : Nat → Int) (S : Nat → ByteArray) (t : Int) (w : World) (hn : n ≤ 1048576) (hs : Sl w a n 3 (opF K T S)) :
    Calls Try.prog 67 #[.slice a n cap, .int .i64 t] w fun r w' => r = .returned (.int .i64 (comF K T n t)) ∧ Below w.heap.size w w' := by
  have HS : Hid (Sl w a n 3 (opF K T S)) := hs
  clear hs
  go_enter Try.func67, Try.ntmps67
  go_wp2
  go_loopw [9] (fun i wr => ∃ k : Nat, k ≤ n ∧ i = .int .i64 k ∧ comF K T n t = firstN (coB K T t) (n - k) k ∧ Below w.heap.size w wr) (fun i _ => n - (intOf i).toNat)
  case atStart => exact ⟨0, Nat.zero_le _, rfl, rfl, Below.refl _ _⟩
  case round =>
    obtain ⟨k, hk, rfl, hf, hBr⟩ := hrel
    by_cases hlt : k < n
    · rcases HS.out.below hBr (Nat.le_refl _) with h | ⟨b, off, rfl, hbs, hE⟩
      · omega
      have hlt' : (k : Int) < (n : Int) := by omega
      obtain ⟨c0, c1, c2⟩ := op_cells hE hlt
      have hz : w.heap.size ≤ wr.heap.size := hBr.size
      have HF : Hid (comF K T n t = (if (T k == t && K k == 3) = true then (k : Int) else firstN (coB K T t) (n - (k + 1)) (k + 1)) ∧ Below w.heap.size w wr) := ⟨by rw [hf, firstN_step _ _ _ hlt]; rfl, hBr⟩
      clear hE hf hBr
      cases h1 : (T k == t)
      · go_wp2
        go_roundw
        case rel => exact ⟨k + 1, by omega, by go_num, by rw [HF.out.1, h1]; rfl, HF.out.2.alloc hz _⟩
        case measure => simp [intOf]; omega
      · cases h3 : (K k == 3)
        · go_wp2
          go_roundw
          case rel => exact ⟨k + 1, by omega, by go_num, by rw [HF.out.1, h1, h3]; rfl, HF.out.2.alloc hz _⟩
          case measure => simp [intOf]; omega
        · have HE : Hid (comF K T n t = (k : Int)) := by show _ = _; rw [HF.out.1, h1, h3]; rfl
          go_wp2
          go_ret
          exact ⟨by rw [HE.out]; rfl, HF.out.2.alloc hz _⟩
    · have hkn : k = n := by omega
      subst hkn
      have HF : Hid (comF K T k t = -1 ∧ Below w.heap.size w wr) := ⟨by rw [hf, Nat.sub_self]; rfl, hBr⟩
      clear hf hBr
      go_wp2
      go_ret
      exact ⟨by rw [HF.out.1]; rfl, HF.out.2⟩

theorem recS_yes {K T : Nat → Int} {S : Nat → ByteArray} {n : Nat} {w w' : World} (h : goodO (okO K T S) K T n = true) (hb : Below w.heap.size w w') :
    RecPost K T S n w (.returned (.tuple #[.bool (recN (fromN K T S) (comF K T n) K T n).1, .bool (recN (fromN K T S) (comF K T n) K T n).2.1, .bool (recN (fromN K T S) (comF K T n) K T n).2.2, .bool true])) w' := by
  rw [← rec_same (goodO_out h)]; exact rec_yes h hb
set_option maxRecDepth 100000 in
set_option maxHeartbeats 8000000 in
theorem specRecoverable_any (a : Option Addr) (n cap : Nat) (K T : Nat → Int) (S : Nat → ByteArray) (w : World) (hn : n ≤ 1048576) (hcap : n ≤ cap) (hS : ∀ i, i < n → (S i).size ≤ maxLen) (hs : Sl w a n 3 (opF K T S)) :
    Calls Try.prog 28 #[.slice a n cap] w (RecPost K T S n w) := by
  have HS : Hid (Sl w a n 3 (opF K T S) ∧ ∀ i, i < n → (S i).size ≤ maxLen) := ⟨hs, hS⟩
  clear hs hS
  go_enter Try.func28, Try.ntmps28
  go_wp2_with fail
  refine (specGoodOps_any _ _ _ K T S _ hn hcap HS.out.2 HS.out.1).mono ?_
  rintro r w1 ⟨rfl, hb1⟩
  have HB1 : Hid (Below w.heap.size w w1) := hb1
  clear hb1
  cases hg : goodO (okO K T S) K T n
  · have HN : Hid (goodO (okO K T S) K T n = false) := hg
    go_wp2
    exact bodyPost_ret (v := .tuple #[.bool false, .bool false, .bool false, .bool false]) (by simp [results, Try.results28, go_sem]) rfl (rec_no HN.out HB1.out)
  have HY : Hid (goodO (okO K T S) K T n = true) := hg
  have HG : Hid (goodP (okO K T S) K T n) := goodO_out hg
  clear hg
  go_wp2
  go_loopw [19, 6, 7, 8] (fun x s1 s2 s3 wr => ∃ (k : Nat) (r1 r2 r3 : Bool), k ≤ n ∧ x = .int .i64 k ∧ s1 = .bool r1 ∧ s2 = .bool r2 ∧ s3 = .bool r3 ∧ recN (fromN K T S) (comF K T n) K T k = (r1, r2, r3) ∧ Below w.heap.size w wr) (fun x _ _ _ _ => n - (intOf x).toNat)
  case atStart => exact ⟨0, true, true, true, Nat.zero_le _, rfl, rfl, rfl, rfl, rfl, HB1.out⟩
  case round =>
    obtain ⟨k, r1, r2, r3, hk, rfl, rfl, rfl, rfl, hR, hBr⟩ := hrel
    clear HB1
    by_cases hlt : k < n
    · have hlt' : (k : Int) < (n : Int) := by omega
      have hsr := HS.out.1.kept hBr
      have HSr : Hid (Sl wr a n 3 (opF K T S)) := hsr
      rcases hsr with h | ⟨b, off, rfl, hbs, hE⟩
      · omega
      obtain ⟨c0, c1, c2⟩ := op_cells hE hlt
      have hz : w.heap.size ≤ wr.heap.size := hBr.size
      have HX : Hid (Bx (wr.alloc (.cells #[.int .i64 (K k), .int .i64 (T k), .string (S k)] 44)) wr.heap.size [.int .i64 (K k), .int .i64 (T k), .string (S k)] ∧ Below wr.heap.size wr (wr.alloc (.cells #[.int .i64 (K k), .int .i64 (T k), .string (S k)] 44))) := ⟨Bx.new wr [.int .i64 (K k), .int .i64 (T k), .string (S k)] 44, Go.Joins.below_alloc1 _ _⟩
      have HH : Hid (recN (fromN K T S) (comF K T n) K T k = (r1, r2, r3) ∧ Below w.heap.size w wr) := ⟨hR, hBr⟩
      obtain ⟨f, hf⟩ : ∃ f, f = fromN K T S k := ⟨_, rfl⟩
      have HF : Hid (f = fromN K T S k) := hf
      have hfl : lastN (wrB K S (S k)) T k = f := hf.symm
      clear hR hBr hE hf
      go_wp2_with fail
      refine (l3Last_any _ _ _ k K T S (S k) _ hn (Nat.le_of_lt hlt) (HSr.out.kept HX.out.2)).mono ?_
      rintro r w3 ⟨⟨p, rfl⟩, hw3⟩
      rw [hfl]
      have hw3 := hw3.symm
      subst hw3
      have HT : Hid (recN (fromN K T S) (comF K T n) K T (k + 1) = recStep f (comF K T n) k (K k) (T k) (r1, r2, r3)) := by show _ = _; rw [recN, HH.out.1, HF.out]
      have HB : Hid (Below w.heap.size w (wr.alloc (.cells #[.int .i64 (K k), .int .i64 (T k), .string (S k)] 44))) := HH.out.2.alloc hz _
      clear hfl
      cases h3 : (K k == 3)
      case true =>
        have HE : Hid (recN (fromN K T S) (comF K T n) K T (k + 1) = (r1, r2, r3)) := HT.out.trans (stepS (Or.inl (by rw [HF.out]; exact from_commit HG.out hlt (by simpa using h3))))
        go_wp2
        go_roundw
        case rel => exact ⟨k + 1, r1, r2, r3, by omega, by go_num, rfl, rfl, rfl, HE.out, HB.out⟩
        case measure => simp [intOf]; omega
      by_cases h0 : f = 0
      · have HE : Hid (recN (fromN K T S) (comF K T n) K T (k + 1) = (r1, r2, r3)) := HT.out.trans (stepS (Or.inl h0))
        have h0' : (f == 0) = true := by simpa using h0
        clear h0
        go_wp2
        go_roundw
        case rel => exact ⟨k + 1, r1, r2, r3, by omega, by go_num, rfl, rfl, rfl, HE.out, HB.out⟩
        case measure => simp [intOf]; omega
      have h0' : (f == 0) = false := by simpa using h0
      cases h1 : (f == T k)
      case true =>
        have HE : Hid (recN (fromN K T S) (comF K T n) K T (k + 1) = (r1, r2, r3)) := HT.out.trans (stepS (Or.inr (by simpa using h1)))
        clear h0
        go_wp2
        go_roundw
        case rel => exact ⟨k + 1, r1, r2, r3, by omega, by go_num, rfl, rfl, rfl, HE.out, HB.out⟩
        case measure => simp [intOf]; omega
      have H1 : Hid (f ≠ T k ∧ f ≠ 0) := ⟨by simpa using h1, h0⟩
      clear h0
      obtain ⟨c, hc⟩ : ∃ c, c = comF K T n f := ⟨_, rfl⟩
      obtain ⟨d, hd⟩ : ∃ d, d = comF K T n (T k) := ⟨_, rfl⟩
      have HC : Hid (∀ W : World, Sl W (some ⟨b, off, none⟩) n 3 (opF K T S) → Calls Try.prog 67 #[.slice (some ⟨b, off, none⟩) n cap, .int .i64 f] W fun r w' => r = .returned (.int .i64 c) ∧ Below W.heap.size W w') := fun W h => by rw [hc]; exact l3Commit_any _ _ _ K T S f W hn h
      have HD : Hid (∀ W : World, Sl W (some ⟨b, off, none⟩) n 3 (opF K T S) → Calls Try.prog 67 #[.slice (some ⟨b, off, none⟩) n cap, .int .i64 (T k)] W fun r w' => r = .returned (.int .i64 d) ∧ Below W.heap.size W w') := fun W h => by rw [hd]; exact l3Commit_any _ _ _ K T S (T k) W hn h
      obtain ⟨e, he⟩ : ∃ e, decide (c < (k : Int)) = e := ⟨_, rfl⟩
      obtain ⟨g, hgg⟩ : ∃ g, decide (c < d) = g := ⟨_, rfl⟩
      have HW : Hid (K k ≠ 1 → recN (fromN K T S) (comF K T n) K T (k + 1) = (r1, r2, r3 && e)) := fun hk => HT.out.trans (stepW H1.out.2 H1.out.1 hk (by rw [← hc]; exact he))
      have HR : Hid (K k = 1 → recN (fromN K T S) (comF K T n) K T (k + 1) = (r1 && g, r2 && e, r3 && e)) := fun hk => HT.out.trans (stepR H1.out.2 H1.out.1 hk (by rw [← hc]; exact he) (by rw [← hc, ← hd]; exact hgg))
      clear hc hd HT
      go_wp2_with fail
      refine (HC.out _ (HSr.out.kept HX.out.2)).mono ?_
      rintro r w4 ⟨rfl, hb4⟩
      have hx4 := HX.out.1.next hb4
      have d0 := hx4.cell 0 rfl
      have d1 := hx4.cell 1 rfl
      have dz := hx4.2
      have H4 : Hid (Bx w4 wr.heap.size [.int .i64 (K k), .int .i64 (T k), .string (S k)] ∧ Below wr.heap.size wr w4 ∧ Below w.heap.size w w4) := ⟨hx4, HX.out.2.trans (hb4.mono (by simp)), below_next HB.out hb4⟩
      clear hb4 hx4 c0 c1 c2
      cases hk1 : (K k == 1)
      · have HE : Hid (recN (fromN K T S) (comF K T n) K T (k + 1) = (r1, r2, r3 && e)) := HW.out (by simpa using hk1)
        cases r3 <;> cases e
        all_goals
          go_wp2
          go_roundw
          case rel => exact ⟨k + 1, _, _, _, by omega, by go_num, rfl, rfl, rfl, HE.out, H4.out.2.2⟩
          case measure => simp [intOf]; omega
      · have HE : Hid (recN (fromN K T S) (comF K T n) K T (k + 1) = (r1 && g, r2 && e, r3 && e)) := HR.out (by simpa using hk1)
        cases r1
        · cases r3 <;> cases e <;> cases r2
          all_goals
            go_upto_region 15 with fail
            refine wp_region_noPanic ?_
            refine wp_region_held_drew (S := fun W => Bx W wr.heap.size [.int .i64 (K k), .int .i64 (T k), .string (S k)] ∧ Below wr.heap.size wr W ∧ Below w.heap.size w W) (by kernel_rfl) ⟨H4.out.1.next (Below.refl _ _).drew, H4.out.2.1.drew, H4.out.2.2.drew⟩ (fun hHeld => ?_)
            refine take_v (v := ?_) 0 ⟨some 61, Op.move (Operand.tmp 6), _, _, _, none⟩ rfl (fun _ _ _ h => h) ?_ hHeld ?_
            rotate_left
            · (intro W _; go_simp <;> (try with_reducible rfl))
            refine take_v (v := ?_) 1 ⟨some 62, Op.move (Operand.tmp 61), _, _, _, none⟩ rfl (fun _ _ _ h => h) ?_ hHeld ?_
            rotate_left
            · (intro W _; go_simp <;> (try with_reducible rfl))
            refine take_n 2 ⟨some 63, Op.move (Operand.tmp 0), _, _, _, some (1, true)⟩ rfl (fun _ _ _ h => h) hHeld ?_
            refine take_n 3 ⟨some 64, Op.move (Operand.tmp 11), _, _, _, some (1, true)⟩ rfl (fun _ _ _ h => h) hHeld ?_
            refine take_n 4 ⟨some 65, Op.call { callee := Callee.value (Operand.func 67), args := #[Operand.tmp 63, Operand.tmp 64], argTypes := #[32, 3] }, _, _, _, some (1, true)⟩ rfl (fun _ _ _ h => h) hHeld ?_
            refine take_n 5 ⟨some 66, Op.move (Operand.tmp 0), _, _, _, some (1, true)⟩ rfl (fun _ _ _ h => h) hHeld ?_
            refine take_n 6 ⟨some 67, Op.fieldAddr 44 (Operand.tmp 10) 1, _, _, _, some (1, true)⟩ rfl (fun _ _ _ h => h) hHeld ?_
            refine take_n 7 ⟨some 68, Op.load 3 (Operand.tmp 67), _, _, _, some (1, true)⟩ rfl (fun _ _ _ h => h) hHeld ?_
            refine take_n 8 ⟨some 69, Op.call { callee := Callee.value (Operand.func 67), args := #[Operand.tmp 66, Operand.tmp 68], argTypes := #[32, 3] }, _, _, _, some (1, true)⟩ rfl (fun _ _ _ h => h) hHeld ?_
            refine take_n 9 ⟨some 70, Op.binOp BinOp.lss 3 (Operand.tmp 65) (Operand.tmp 69) 3, _, _, _, some (1, true)⟩ rfl (fun _ _ _ h => h) hHeld ?_
            refine take_v (v := ?_) 10 ⟨some 71, Op.pick (Operand.tmp 62) (Operand.tmp 70) (Operand.const (Value.bool false)), _, _, _, none⟩ rfl (fun _ _ _ h => h) ?_ hHeld ?_
            rotate_left
            · (intro W _; go_simp <;> (try with_reducible rfl))
            refine take_v (v := ?_) 11 ⟨some 6, Op.assign (Operand.tmp 71), _, _, _, none⟩ rfl (fun _ _ _ h => h) ?_ hHeld ?_
            rotate_left
            · (intro W _; go_simp <;> (try with_reducible rfl))
            refine wpAnyH_done (by kernel_rfl) ?_ _
            refine NoPanic.normal ?_
            go_wp2
            go_roundw
            case rel => exact ⟨k + 1, _, _, _, by omega, by go_num, rfl, rfl, rfl, HE.out, hHeld.2.2⟩
            case measure => simp [intOf]; omega
        · cases r3 <;> cases e <;> cases r2
          all_goals
            go_upto_region 15 with fail
            refine wp_region_noPanic ?_
            refine wp_region_held_drew (S := fun W => Bx W wr.heap.size [.int .i64 (K k), .int .i64 (T k), .string (S k)] ∧ Below wr.heap.size wr W ∧ Below w.heap.size w W) (by kernel_rfl) ⟨H4.out.1.next (Below.refl _ _).drew, H4.out.2.1.drew, H4.out.2.2.drew⟩ (fun hHeld => ?_)
            refine take_v (v := ?_) 0 ⟨some 61, Op.move (Operand.tmp 6), _, _, _, none⟩ rfl (fun _ _ _ h => h) ?_ hHeld ?_
            rotate_left
            · (intro W _; go_simp <;> (try with_reducible rfl))
            refine take_v (v := ?_) 1 ⟨some 62, Op.move (Operand.tmp 61), _, _, _, none⟩ rfl (fun _ _ _ h => h) ?_ hHeld ?_
            rotate_left
            · (intro W _; go_simp <;> (try with_reducible rfl))
            refine take_v (v := ?_) 2 ⟨some 63, Op.move (Operand.tmp 0), _, _, _, some (1, true)⟩ rfl (fun _ _ _ h => h) ?_ hHeld ?_
            rotate_left
            · (intro W _; go_simp <;> (try with_reducible rfl))
            refine take_v (v := ?_) 3 ⟨some 64, Op.move (Operand.tmp 11), _, _, _, some (1, true)⟩ rfl (fun _ _ _ h => h) ?_ hHeld ?_
            rotate_left
            · (intro W _; go_simp <;> (try with_reducible rfl))
            refine take_v (v := ?_) 5 ⟨some 66, Op.move (Operand.tmp 0), _, _, _, some (1, true)⟩ rfl (fun _ _ _ h => h) ?_ hHeld ?_
            rotate_left
            · (intro W _; go_simp <;> (try with_reducible rfl))
            refine take_v (v := ?_) 6 ⟨some 67, Op.fieldAddr 44 (Operand.tmp 10) 1, _, _, _, some (1, true)⟩ rfl (fun _ _ _ h => h) ?_ hHeld ?_
            rotate_left
            · (intro W _; go_simp <;> (try with_reducible rfl))
            refine take_v (v := ?_) 7 ⟨some 68, Op.load 3 (Operand.tmp 67), _, _, _, some (1, true)⟩ rfl (fun _ _ _ h => h) ?_ hHeld ?_
            rotate_left
            · (intro W hSW; have s1 := hSW.1.cell 1 rfl; go_simp <;> (try with_reducible rfl))
            refine ready_call 4 ⟨some 65, Op.call { callee := Callee.value (Operand.func 67), args := #[Operand.tmp 63, Operand.tmp 64], argTypes := #[32, 3] }, _, _, _, some (1, true)⟩ (by kernel_rfl) rfl (by kernel_rfl) (fun K hK => ?_)
            go_wp2_with fail
            refine (HC.out _ (HSr.out.kept hHeld.2.1)).mono ?_
            rintro e5 w5 ⟨rfl, hb⟩
            refine hK.out _ _ ⟨hHeld.1.next hb, below_next hHeld.2.1 hb, below_next hHeld.2.2 hb⟩ (fun hHeld => ?_)
            clear hK K
            refine ready_call 8 ⟨some 69, Op.call { callee := Callee.value (Operand.func 67), args := #[Operand.tmp 66, Operand.tmp 68], argTypes := #[32, 3] }, _, _, _, some (1, true)⟩ (by kernel_rfl) rfl (by kernel_rfl) (fun K hK => ?_)
            go_wp2_with fail
            refine (HD.out _ (HSr.out.kept hHeld.2.1)).mono ?_
            rintro e6 w6 ⟨rfl, hb⟩
            refine hK.out _ _ ⟨hHeld.1.next hb, below_next hHeld.2.1 hb, below_next hHeld.2.2 hb⟩ (fun hHeld => ?_)
            clear hK K
            refine take_v (v := ?_) 9 ⟨some 70, Op.binOp BinOp.lss 3 (Operand.tmp 65) (Operand.tmp 69) 3, _, _, _, some (1, true)⟩ rfl (fun _ _ _ h => h) ?_ hHeld ?_
            rotate_left
            · (intro W _; go_simp <;> (try with_reducible rfl))
            refine take_v (v := ?_) 10 ⟨some 71, Op.pick (Operand.tmp 62) (Operand.tmp 70) (Operand.const (Value.bool false)), _, _, _, none⟩ rfl (fun _ _ _ h => h) ?_ hHeld ?_
            rotate_left
            · (intro W _; go_simp <;> (try with_reducible rfl))
            refine take_v (v := ?_) 11 ⟨some 6, Op.assign (Operand.tmp 71), _, _, _, none⟩ rfl (fun _ _ _ h => h) ?_ hHeld ?_
            rotate_left
            · (intro W _; go_simp <;> (try with_reducible rfl))
            refine wpAnyH_done (by kernel_rfl) ?_ _
            refine NoPanic.normal ?_
            cases g
            all_goals
              go_wp2
              go_roundw
              case rel => exact ⟨k + 1, _, _, _, by omega, by go_num, rfl, rfl, rfl, HE.out, hHeld.2.2⟩
              case measure => simp [intOf]; omega
    · have hkn : k = n := by omega
      subst hkn
      have HF : Hid (recN (fromN K T S) (comF K T k) K T k = (r1, r2, r3) ∧ Below w.heap.size w wr) := ⟨hR, hBr⟩
      have HE : Hid (RecPost K T S k w (.returned (.tuple #[.bool r1, .bool r2, .bool r3, .bool true])) wr) := by have := recS_yes (w := w) HY.out HF.out.2; rw [HF.out.1] at this; exact this
      clear hR hBr
      go_wp2
      exact bodyPost_ret (v := .tuple #[.bool r1, .bool r2, .bool r3, .bool true]) (by simp [results, Try.results28, go_sem]) rfl HE.out
end Go.Proofs.Ythbpjmnlgfahmaa
