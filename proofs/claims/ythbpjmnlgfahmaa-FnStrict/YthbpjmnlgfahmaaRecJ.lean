/- The contract of RecoverableOf. -/
import Derived.Test.YthbpjmnlgfahmaaRecI
import Derived.Deep.QuietTactic
import Derived.BigQuiet
namespace Go.Proofs.Ythbpjmnlgfahmaa
open Go.RowKit
set_option linter.unusedVariables false

theorem Sl.le {w : World} {a : Option Addr} {n m c : Nat} {F : Nat → Nat → Value} (h : Sl w a n c F) (hm : m ≤ n) : Sl w a m c F := by
  rcases h with h | ⟨b, off, e, hb, hE⟩
  · exact Or.inl (by omega)
  · exact Or.inr ⟨b, off, e, hb, hE.le hm⟩
theorem goodO_out {ok : Nat → Bool} {K T : Nat → Int} {n : Nat} (h : goodO ok K T n = true) : goodP ok K T n := by simpa [goodO] using h
/-- The four answers. -/
def recV (K T : Nat → Int) (S : Nat → ByteArray) (n : Nat) : Bool × Bool × Bool := if goodO (okO K T S) K T n = true then recN (fromN K T S) (comP K T n) K T n else (false, false, false)
def RecPost (K T : Nat → Int) (S : Nat → ByteArray) (n : Nat) (w : World) (r : Ending) (w' : World) : Prop :=
  r = .returned (.tuple #[.bool (recV K T S n).1, .bool (recV K T S n).2.1, .bool (recV K T S n).2.2, .bool (goodO (okO K T S) K T n)]) ∧ Below w.heap.size w w'
theorem rec_no {K T : Nat → Int} {S : Nat → ByteArray} {n : Nat} {w w' : World} (h : goodO (okO K T S) K T n = false) (hb : Below w.heap.size w w') : RecPost K T S n w (.returned (.tuple #[.bool false, .bool false, .bool false, .bool false])) w' :=
  ⟨by simp [recV, h], hb⟩
theorem rec_yes {K T : Nat → Int} {S : Nat → ByteArray} {n : Nat} {w w' : World} (h : goodO (okO K T S) K T n = true) (hb : Below w.heap.size w w') :
    RecPost K T S n w (.returned (.tuple #[.bool (recN (fromN K T S) (comP K T n) K T n).1, .bool (recN (fromN K T S) (comP K T n) K T n).2.1, .bool (recN (fromN K T S) (comP K T n) K T n).2.2, .bool true])) w' := ⟨by simp [recV, h], hb⟩
theorem stepS {f t kd : Int} {c : Int → Int} {k : Nat} {s : Bool × Bool × Bool} (h : f = 0 ∨ f = t) : recStep f c k kd t s = s := by simp only [recStep, if_pos h]
theorem stepW {f t kd : Int} {c : Int → Int} {k : Nat} {r1 r2 r3 e : Bool} (h0 : f ≠ 0) (h1 : f ≠ t) (hk : kd ≠ 1) (he : decide (c f < (k : Int)) = e) : recStep f c k kd t (r1, r2, r3) = (r1, r2, r3 && e) := by
  simp only [recStep, if_neg (show ¬ (f = 0 ∨ f = t) from fun g => g.elim h0 h1), if_neg hk, he]
theorem stepR {f t kd : Int} {c : Int → Int} {k : Nat} {r1 r2 r3 e d : Bool} (h0 : f ≠ 0) (h1 : f ≠ t) (hk : kd = 1) (he : decide (c f < (k : Int)) = e) (hd : decide (c f < c t) = d) : recStep f c k kd t (r1, r2, r3) = (r1 && d, r2 && e, r3 && e) := by
  simp only [recStep, if_neg (show ¬ (f = 0 ∨ f = t) from fun g => g.elim h0 h1), if_pos hk, he, hd]

set_option maxRecDepth 100000 in
set_option maxHeartbeats 8000000 in
theorem recoverable_any (a : Option Addr) (n cap : Nat) (K T : Nat → Int) (S : Nat → ByteArray) (w : World) (hn : n ≤ 1048576) (hcap : n ≤ cap) (hS : ∀ i, i < n → (S i).size ≤ maxLen) (hs : Sl w a n 3 (opF K T S)) :
    Calls Try.prog 27 #[.slice a n cap] w (RecPost K T S n w) := by
  have HS : Hid (Sl w a n 3 (opF K T S) ∧ ∀ i, i < n → (S i).size ≤ maxLen) := ⟨hs, hS⟩
  clear hs hS
  go_enter Try.func27, Try.ntmps27
  go_wp2_with fail
  refine (goodOps_any _ _ _ K T S _ hn HS.out.2 HS.out.1).mono ?_
  rintro r w1 ⟨rfl, hb1⟩
  have HB1 : Hid (Below w.heap.size w w1) := hb1
  clear hb1
  cases hg : goodO (okO K T S) K T n
  · have HN : Hid (goodO (okO K T S) K T n = false) := hg
    go_wp2
    exact bodyPost_ret (v := .tuple #[.bool false, .bool false, .bool false, .bool false]) (by simp [results, Try.results27, go_sem]) rfl (rec_no HN.out HB1.out)
  have HY : Hid (goodO (okO K T S) K T n = true) := hg
  have HG : Hid (goodP (okO K T S) K T n) := goodO_out hg
  clear hg
  go_wp2_with fail
  refine (commitPlaces_any _ _ _ K T S _ hn HG.out (HS.out.1.kept HB1.out)).mono ?_
  rintro r w2 ⟨rfl, hb2⟩
  have HB2 : Hid (Below w.heap.size w w2) := below_next HB1.out hb2
  clear hb2 HB1
  unfold nineI
  go_wp2
  go_loopw [21, 7, 8, 9] (fun x s1 s2 s3 wr => ∃ (k : Nat) (r1 r2 r3 : Bool), k ≤ n ∧ x = .int .i64 k ∧ s1 = .bool r1 ∧ s2 = .bool r2 ∧ s3 = .bool r3 ∧ recN (fromN K T S) (comP K T n) K T k = (r1, r2, r3) ∧ IArr wr w2.heap.size (comA' K T n) ∧ Below w.heap.size w wr) (fun x _ _ _ _ => n - (intOf x).toNat)
  case atStart => exact ⟨0, true, true, true, Nat.zero_le _, rfl, rfl, rfl, rfl, rfl, IArr.new w2 (comA' K T n) 102, HB2.out.alloc HB2.out.size _⟩
  case round =>
    obtain ⟨k, r1, r2, r3, hk, rfl, rfl, rfl, rfl, hR, hA, hBr⟩ := hrel
    clear HB2
    by_cases hlt : k < n
    · have hlt' : (k : Int) < (n : Int) := by omega
      have hkc : (k : Int) ≤ (cap : Int) := by omega
      have hsr := HS.out.1.kept hBr
      have hsl := hsr.le (Nat.le_of_lt hlt)
      rcases hsr with h | ⟨b, off, rfl, hbs, hE⟩
      · omega
      obtain ⟨c0, c1, c2⟩ := op_cells hE hlt
      obtain ⟨p, hp, hp1, hp9⟩ := op_t (show opB (K k) (T k) (S k) = true from (HG.out.2 k hlt).1)
      have HP : Hid (T k = (p : Int)) := hp
      have hz : w.heap.size ≤ wr.heap.size := hBr.size
      have HX : Hid (Bx (wr.alloc (.cells #[.int .i64 (K k), .int .i64 (T k), .string (S k)] 44)).drew wr.heap.size [.int .i64 (K k), .int .i64 (T k), .string (S k)] ∧ Below wr.heap.size wr (wr.alloc (.cells #[.int .i64 (K k), .int .i64 (T k), .string (S k)] 44)).drew) := ⟨(Bx.new wr [.int .i64 (K k), .int .i64 (T k), .string (S k)] 44).next (Below.refl _ _).drew, (Go.Joins.below_alloc1 _ _).drew⟩
      have HH : Hid (recN (fromN K T S) (comP K T n) K T k = (r1, r2, r3) ∧ IArr wr w2.heap.size (comA' K T n) ∧ Below w.heap.size w wr ∧ Sl wr (some ⟨b, off, none⟩) k 3 (opF K T S)) := ⟨hR, hA, hBr, hsl⟩
      obtain ⟨f, hf⟩ : ∃ f, f = fromN K T S k := ⟨_, rfl⟩
      have HF : Hid (f = fromN K T S k) := hf
      have hcon : ∀ (W : World), Sl W (some ⟨b, off, none⟩) k 3 (opF K T S) → Calls Try.prog 78 #[.slice (some ⟨b, off, none⟩) k cap, .string (S k)] W fun e W' => e = .returned (.int .i64 f) ∧ Below W.heap.size W W' := fun W h => by rw [hf]; exact lastWriter_any _ _ _ K T S (S k) W (by omega) h
      have HC : Hid (∀ (W : World), Sl W (some ⟨b, off, none⟩) k 3 (opF K T S) → Calls Try.prog 78 #[.slice (some ⟨b, off, none⟩) k cap, .string (S k)] W fun e W' => e = .returned (.int .i64 f) ∧ Below W.heap.size W W') := hcon
      clear hR hA hBr hE hsl hp hf hcon
      go_upto_region 8 with fail
      go_cut [12] (fun s12 wx => s12 = .int .i64 f ∧ Bx wx wr.heap.size [.int .i64 (K k), .int .i64 (T k), .string (S k)] ∧ Below wr.heap.size wr wx)
      case first =>
        refine wp_region_noPanic ?_
        refine wp_region_held_drew (S := fun W => Bx W wr.heap.size [.int .i64 (K k), .int .i64 (T k), .string (S k)] ∧ Below wr.heap.size wr W) (by kernel_rfl) HX.out (fun hHeld => ?_)
        refine take_v (v := ?_) 0 ⟨some 26, Op.move (Operand.tmp 0), _, _, _, none⟩ rfl (fun _ _ _ h => h) ?_ hHeld ?_
        rotate_left
        · (intro W _; go_simp <;> (try with_reducible rfl))
        refine take_v (v := ?_) 1 ⟨some 27, Op.move (Operand.tmp 10), _, _, _, none⟩ rfl (fun _ _ _ h => h) ?_ hHeld ?_
        rotate_left
        · (intro W _; go_simp <;> (try with_reducible rfl))
        refine take_v (v := ?_) 2 ⟨some 28, Op.slice 32 (Operand.tmp 26) none (some (Operand.tmp 27)) none, _, _, _, none⟩ rfl (fun _ _ _ h => h) ?_ hHeld ?_
        rotate_left
        · (intro W _; go_simp <;> (try with_reducible rfl))
        refine take_v (v := ?_) 3 ⟨some 29, Op.fieldAddr 44 (Operand.tmp 11) 2, _, _, _, none⟩ rfl (fun _ _ _ h => h) ?_ hHeld ?_
        rotate_left
        · (intro W _; go_simp <;> (try with_reducible rfl))
        refine take_v (v := ?_) 4 ⟨some 30, Op.load 9 (Operand.tmp 29), _, _, _, none⟩ rfl (fun _ _ _ h => h) ?_ hHeld ?_
        rotate_left
        · (intro W hSW; have s2 := hSW.1.cell 2 rfl; go_simp <;> (try with_reducible rfl))
        refine ready_call 5 ⟨some 31, Op.call { callee := Callee.value (Operand.func 78), args := #[Operand.tmp 28, Operand.tmp 30], argTypes := #[32, 9] }, _, _, _, none⟩ (by kernel_rfl) rfl (by kernel_rfl) (fun K hK => ?_)
        go_wp2_with fail
        refine (HC.out _ (HH.out.2.2.2.kept hHeld.2)).mono ?_
        rintro e w3 ⟨rfl, hb⟩
        refine hK.out _ _ ⟨hHeld.1.next hb, below_next hHeld.2 hb⟩ (fun hHeld => ?_)
        clear hK K
        refine take_v (v := ?_) 6 ⟨some 12, Op.assign (Operand.tmp 31), _, _, _, none⟩ rfl (fun _ _ _ h => h) ?_ hHeld ?_
        rotate_left
        · (intro W _; go_simp <;> (try with_reducible rfl))
        refine wpAnyH_done (by kernel_rfl) ?_ _
        refine NoPanic.normal ?_
        go_wp2_with fail
        go_meet
        exact ⟨rfl, hHeld.1, hHeld.2⟩
      case rest =>
        obtain ⟨rfl, hbx, hb3⟩ := hcut
        have hA3 := HH.out.2.1.next hb3
        have HB : Hid (IArr wc w2.heap.size (comA' K T n) ∧ Below w.heap.size w wc) := ⟨hA3, below_next HH.out.2.2.1 hb3⟩
        have d0 := hbx.cell 0 rfl
        have d1 := hbx.cell 1 rfl
        have dz := hbx.2
        have HT : Hid (recN (fromN K T S) (comP K T n) K T (k + 1) = recStep f (comP K T n) k (K k) (T k) (r1, r2, r3)) := by show _ = _; rw [recN, HH.out.1, HF.out]
        clear c0 c1 c2 hb3 HX HC hbx
        by_cases h0 : f = 0
        · have HE : Hid (recN (fromN K T S) (comP K T n) K T (k + 1) = (r1, r2, r3)) := HT.out.trans (stepS (Or.inl h0))
          have h0' : (f == 0) = true := by simpa using h0
          clear h0 hA3
          go_wp2
          go_roundw
          case rel => exact ⟨k + 1, r1, r2, r3, by omega, by go_num, rfl, rfl, rfl, HE.out, HB.out⟩
          case measure => simp [intOf]; omega
        have h0' : (f == 0) = false := by simpa using h0
        cases h1 : (f == T k)
        case true =>
          have HE : Hid (recN (fromN K T S) (comP K T n) K T (k + 1) = (r1, r2, r3)) := HT.out.trans (stepS (Or.inr (by simpa using h1)))
          clear h0 hA3
          go_wp2
          go_roundw
          case rel => exact ⟨k + 1, r1, r2, r3, by omega, by go_num, rfl, rfl, rfl, HE.out, HB.out⟩
          case measure => simp [intOf]; omega
        have H1 : Hid (f ≠ T k ∧ f ≠ 0) := ⟨by simpa using h1, h0⟩
        have hfr := (from_range HG.out hlt)
        obtain ⟨q, hq⟩ : ∃ q : Nat, f = (q : Int) := ⟨f.toNat, by have := HF.out; omega⟩
        have hq9 : q < 9 := by have := HF.out; omega
        have HQ : Hid (f = (q : Int)) := hq
        have e1 : wc.cell? ⟨w2.heap.size, q, none⟩ = some (.int .i64 (comP K T n f)) := by rw [hq]; exact (hA3.1 q hq9).1
        have e2 : wc.cell? ⟨w2.heap.size, p, none⟩ = some (.int .i64 (comP K T n (T k))) := by rw [HP.out]; exact (hA3.1 p hp9).1
        have zz := hA3.2
        have hq9' : (q : Int) < 9 := by omega
        have hp9' : (p : Int) < 9 := by omega
        rw [HP.out] at d1 h1
        rw [hq] at h0' h1 ⊢
        obtain ⟨c, hc⟩ : ∃ c, c = comP K T n f := ⟨_, rfl⟩
        obtain ⟨d, hd⟩ : ∃ d, d = comP K T n (T k) := ⟨_, rfl⟩
        rw [← hc] at e1
        rw [← hd] at e2
        obtain ⟨e, he⟩ : ∃ e, decide (c < (k : Int)) = e := ⟨_, rfl⟩
        obtain ⟨g, hgg⟩ : ∃ g, decide (c < d) = g := ⟨_, rfl⟩
        have HW : Hid (K k ≠ 1 → recN (fromN K T S) (comP K T n) K T (k + 1) = (r1, r2, r3 && e)) := fun hk => HT.out.trans (stepW H1.out.2 H1.out.1 hk (by rw [← hc]; exact he))
        have HR : Hid (K k = 1 → recN (fromN K T S) (comP K T n) K T (k + 1) = (r1 && g, r2 && e, r3 && e)) := fun hk => HT.out.trans (stepR H1.out.2 H1.out.1 hk (by rw [← hc]; exact he) (by rw [← hc, ← hd]; exact hgg))
        clear hA3 hfr hq hc hd HT h0
        cases hk1 : (K k == 1)
        · have HE : Hid (recN (fromN K T S) (comP K T n) K T (k + 1) = (r1, r2, r3 && e)) := HW.out (by simpa using hk1)
          cases r3 <;> cases e
          all_goals
            go_wp2
            go_roundw
            case rel => exact ⟨k + 1, _, _, _, by omega, by go_num, rfl, rfl, rfl, HE.out, HB.out⟩
            case measure => simp [intOf]; omega
        · have HE : Hid (recN (fromN K T S) (comP K T n) K T (k + 1) = (r1 && g, r2 && e, r3 && e)) := HR.out (by simpa using hk1)
          cases r3 <;> cases e <;> cases r2 <;> cases r1 <;> cases g
          all_goals
            go_upto_region 14 with fail
            go_quiet (fail)
            go_wp2
            go_roundw
            case rel => exact ⟨k + 1, _, _, _, by omega, by go_num, rfl, rfl, rfl, HE.out, HB.out.1.next (below_drewN (Below.refl _ _) _), below_drewN HB.out.2 _⟩
            case measure => simp [intOf]; omega
    · have hkn : k = n := by omega
      subst hkn
      have HF : Hid (recN (fromN K T S) (comP K T k) K T k = (r1, r2, r3) ∧ Below w.heap.size w wr) := ⟨hR, hBr⟩
      have HE : Hid (RecPost K T S k w (.returned (.tuple #[.bool r1, .bool r2, .bool r3, .bool true])) wr) := by have := rec_yes (w := w) HY.out HF.out.2; rw [HF.out.1] at this; exact this
      clear hR hA hBr
      go_wp2
      exact bodyPost_ret (v := .tuple #[.bool r1, .bool r2, .bool r3, .bool true]) (by simp [results, Try.results27, go_sem]) rfl HE.out
end Go.Proofs.Ythbpjmnlgfahmaa
