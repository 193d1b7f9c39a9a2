/- Nets: sums; TotalOf on both sides. Written by tools/mkNeU.py. -/
import Derived.Test.YtcklpcdgckkahaaNeS
namespace Go.Proofs.Ytcklpcdgckkahaa
open Go.RowKit
set_option linter.unusedVariables false
set_option linter.unusedSimpArgs false

def sumF {α : Type} (f : α → Int) (l : List α) : Int := (l.map f).sum
theorem sumF_succ {α : Type} (f : α → Int) {l : List α} {k : Nat} (h : k < l.length) : sumF f (l.take (k + 1)) = sumF f (l.take k) + f l[k] := by
  unfold sumF; rw [List.take_succ_eq_append_getElem h, List.map_append, List.sum_append]; simp
theorem sumF_bd {α : Type} (f : α → Int) (M : Int) : ∀ (l : List α), (∀ x ∈ l, 0 ≤ f x ∧ f x ≤ M) → 0 ≤ sumF f l ∧ sumF f l ≤ (l.length : Int) * M
  | [], _ => by simp [sumF]
  | x :: t, h => by
    have ih := sumF_bd f M t (fun y hy => h y (List.mem_cons_of_mem _ hy))
    have h1 := h x List.mem_cons_self
    unfold sumF at ih ⊢
    rw [List.map_cons, List.sum_cons, List.length_cons]
    have e : ((t.length + 1 : Nat) : Int) * M = (t.length : Int) * M + M := by rw [Int.natCast_add, Int.add_mul]; simp
    rw [e]
    omega
theorem sumF_take {α : Type} (f : α → Int) {M : Int} {N k : Nat} {l : List α} (h : ∀ x ∈ l, 0 ≤ f x ∧ f x ≤ M) (hN : l.length ≤ N) (h0 : 0 ≤ M) : 0 ≤ sumF f (l.take k) ∧ sumF f (l.take k) ≤ (N : Int) * M := by
  have h1 := sumF_bd f M (l.take k) (fun x hx => h x (List.mem_of_mem_take hx))
  refine ⟨h1.1, Int.le_trans h1.2 (Int.mul_le_mul_of_nonneg_right ?_ h0)⟩
  rw [List.length_take]; omega
def pcN (y : Sh.T shWay) : Int := sumF pam (wpc y)
def idI (x : Sh.T .int) : Int := x
def seN (y : Sh.T shWay) : Int := sumF idI (wse y)
def totN (bs : List (Sh.T shBank)) (ws : List (Sh.T shWay)) : Int := sumF bam bs + sumF pcN ws
def picN (bs : List (Sh.T shBank)) (ws : List (Sh.T shWay)) : Int := sumF bnt bs + sumF seN ws
noncomputable def totA (bs : List (Sh.T shBank)) (ws : List (Sh.T shWay)) : Int × Bool := (if tf (goodN bs ws) = true then totN bs ws else 0, tf (goodN bs ws))
def TotP (p : Int × Bool) (w : World) (r : Ending) (w' : World) : Prop := r = .returned (.tuple #[.int .i64 p.1, .bool p.2]) ∧ Below w.heap.size w w'
/-- What of a good net bounds its sums. -/
structure NetB (bs : List (Sh.T shBank)) (ws : List (Sh.T shWay)) : Prop where
  nb : bs.length ≤ 5
  nw : ws.length ≤ 20
  am : ∀ b ∈ bs, 0 ≤ bam b ∧ bam b ≤ 1000000
  nt : ∀ b ∈ bs, 0 ≤ bnt b ∧ bnt b ≤ 1000000
  pl : ∀ y ∈ ws, (wpc y).length ≤ 20 ∧ ∀ p ∈ wpc y, 0 ≤ pam p ∧ pam p ≤ 1000000
  sl : ∀ y ∈ ws, (wse y).length ≤ 200 ∧ ∀ a ∈ wse y, 0 ≤ idI a ∧ idI a ≤ 1000000
theorem good_b {bs : List (Sh.T shBank)} {ws : List (Sh.T shWay)} (h : goodN bs ws) : NetB bs ws := by
  have hl := goodN_len h
  have hw : ∀ y ∈ ws, pcsP (wpc y) ∧ seeP (wse y) := by
    intro y hy
    obtain ⟨i, hi, rfl⟩ := List.getElem_of_mem hy
    have := (h.2.2.2 i hi hi).2
    exact ⟨this.1, this.2.1⟩
  refine ⟨hl.1.2, ?_, fun b hb => (h.2.2.1 b hb).1, fun b hb => (h.2.2.1 b hb).2.1, fun y hy => ⟨(hw y hy).1.1, fun p hp => ?_⟩, fun y hy => ⟨(hw y hy).2.1, fun a ha => ?_⟩⟩
  · rw [hl.2]
    have h3 : bs.length = 2 ∨ bs.length = 3 ∨ bs.length = 4 ∨ bs.length = 5 := by omega
    rcases h3 with q | q | q | q <;> (rw [q]; decide)
  · have h1 := (hw y hy).1.2.1 p hp
    cases e : pmk p
    · have := h1.2 e; unfold amtP at this; omega
    · have := h1.1 e; omega
  · obtain ⟨k, hk, rfl⟩ := List.getElem_of_mem ha
    have h1 := (hw y hy).2.2 k hk
    rw [atI_lt hk] at h1
    unfold amtP at h1
    unfold idI
    omega
theorem NetB.pc {bs : List (Sh.T shBank)} {ws : List (Sh.T shWay)} (h : NetB bs ws) : ∀ y ∈ ws, 0 ≤ pcN y ∧ pcN y ≤ 20000000 := fun y hy => by
  have := sumF_take pam (k := (wpc y).length) (h.pl y hy).2 (h.pl y hy).1 (by decide)
  rw [List.take_length] at this
  unfold pcN; omega
theorem NetB.se {bs : List (Sh.T shBank)} {ws : List (Sh.T shWay)} (h : NetB bs ws) : ∀ y ∈ ws, 0 ≤ seN y ∧ seN y ≤ 200000000 := fun y hy => by
  have := sumF_take idI (k := (wse y).length) (h.sl y hy).2 (h.sl y hy).1 (by decide)
  rw [List.take_length] at this
  unfold seN; omega
theorem totA_no {bs : List (Sh.T shBank)} {ws : List (Sh.T shWay)} (h : tf (goodN bs ws) = false) : totA bs ws = (0, false) := by unfold totA; rw [h]; rfl
theorem totA_yes {bs : List (Sh.T shBank)} {ws : List (Sh.T shWay)} (h : tf (goodN bs ws) = true) : totA bs ws = (totN bs ws, true) := by unfold totA; rw [h]; rfl

set_option maxRecDepth 100000 in
set_option maxHeartbeats 4000000 in
theorem totalOf_n (cs : List Value) (bs : List (Sh.T shBank)) (ws : List (Sh.T shWay)) (w : World) (hz : szD shNet (bs, ws, ()) ≤ 1073741824) (h : Lies w shNet cs (bs, ws, ())) : Calls Try.prog 16 #[.agg cs.toArray] w (TotP (totA bs ws) w) := by
  obtain ⟨a1, k1, a2, k2, rfl, h1, h2⟩ := lies_Net h
  obtain ⟨w0, hw0⟩ : ∃ x, x = (w.alloc (.cells #[.slice a1 bs.length k1, .slice a2 ws.length k2] 30)) := ⟨_, rfl⟩
  have hb0 : Below w.heap.size w w0 := hw0 ▸ Go.Joins.below_alloc1 _ _
  have HB0 : Hid (Bx w0 w.heap.size [.slice a1 bs.length k1, .slice a2 ws.length k2] ∧ Below w.heap.size w w0 ∧ Lies w0 shNet [.slice a1 bs.length k1, .slice a2 ws.length k2] (bs, ws, ())) := ⟨hw0 ▸ Bx.new w [_, _] _, hb0, h.next hb0⟩
  have HL : Hid (Lies w0 (.list shBank) [.slice a1 bs.length k1] bs ∧ Lies w0 (.list shWay) [.slice a2 ws.length k2] ws) := ⟨h1.next hb0, h2.next hb0⟩
  have HC : Hid (∀ W, Below w0.heap.size w0 W → Calls Try.prog 18 #[.agg #[.slice a1 bs.length k1, .slice a2 ws.length k2]] W fun r w' => r = .returned (.bool (tf (goodN bs ws))) ∧ Below W.heap.size W w') := Hid.intro (fun W hW => goodNet_n _ bs ws W hz (HB0.out.2.2.next hW))
  clear h h1 h2 hb0
  go_enter Try.func16, Try.ntmps16
  go_upto_region 1 with fail
  rw [← hw0]
  clear hw0
  have s0 := (HB0.out.1).cell 0 rfl; have s1 := (HB0.out.1).cell 1 rfl; have sz := (HB0.out.1).2
  go_wp2_with fail
  refine (HC.out _ (Below.refl _ _)).mono ?_
  rintro r w1 ⟨rfl, hb⟩
  have HB1 : Hid (Bx w1 w.heap.size [.slice a1 bs.length k1, .slice a2 ws.length k2] ∧ Below w.heap.size w w1 ∧ Below w0.heap.size w0 w1) := ⟨HB0.out.1.next hb, below_next HB0.out.2.1 hb, hb⟩
  clear hb s0 s1 sz HC
  cases e : tf (goodN bs ws)
  · have HN := Hid.intro (totA_no e)
    clear e
    go_wp2
    go_ret2
    exact ⟨by rw [HN.out]; rfl, HB1.out.2.1⟩
  have HN := Hid.intro (totA_yes e)
  have HG := Hid.intro (good_b (tf_iff.1 e))
  have hnb := HG.out.nb
  have hnw := HG.out.nw
  clear e HB0
  have s0 := (HB1.out.1).cell 0 rfl; have s1 := (HB1.out.1).cell 1 rfl; have sz := (HB1.out.1).2
  go_wp2
  clear s0 s1 sz
  go_loopw [17, 4] (fun v17 v4 wr => ∃ k : Nat, k ≤ bs.length ∧ v17 = .int .i64 k ∧ v4 = .int .i64 (sumF bam (bs.take k)) ∧ Bx wr w.heap.size [.slice a1 bs.length k1, .slice a2 ws.length k2] ∧ Below w1.heap.size w1 wr) (fun v17 _ _ => bs.length - (intOf v17).toNat)
  case atStart => exact ⟨0, Nat.zero_le _, rfl, rfl, HB1.out.1, Below.refl _ _⟩
  case round =>
    obtain ⟨k, hk, rfl, rfl, hbx, hBr⟩ := hrel
    have HB2 : Hid (Bx wr w.heap.size [.slice a1 bs.length k1, .slice a2 ws.length k2] ∧ Below w1.heap.size w1 wr) := ⟨hbx, hBr⟩
    clear hbx hBr
    obtain ⟨hs0, hs1⟩ := sumF_take bam (k := k) HG.out.am hnb (by decide)
    by_cases hlt : k < bs.length
    · have hlt' : (k : Int) < (bs.length : Int) := by omega
      have HLE : Hid (Lies wr (.list shBank) [.slice a1 bs.length k1] bs) := (HL.out.1.next HB1.out.2.2).next HB2.out.2
      obtain ⟨xg, xoff, xgo, xgs, xec, xel, xhec, xle⟩ := Lies.elem (HLE.out) hlt
      subst xgo
      rcases xX : bs[k] with ⟨x0, x1, x2, ⟨⟩⟩
      rw [xX] at xle
      have xH : Hid (bs[k] = (x0, x1, x2, ())) := xX
      clear xX
      obtain xev := lies_Bank xle
      subst xev
      have xc0 : wr.cell? ⟨xg, xoff + k * 3, none⟩ = some (.int .i64 x0) := xhec 0 (by simp)
      have xc1 : wr.cell? ⟨xg, xoff + k * 3 + 1, none⟩ = some (.bool x1) := xhec 1 (by simp)
      have xc2 : wr.cell? ⟨xg, xoff + k * 3 + 2, none⟩ = some (.int .i64 x2) := xhec 2 (by simp)
      clear xhec xel xle
      have HS : Hid (sumF bam (bs.take (k + 1)) = sumF bam (bs.take k) + x0) := Hid.intro (by rw [sumF_succ bam hlt, xH.out]; rfl)
      have hx : 0 ≤ x0 ∧ x0 ≤ 1000000 := by have := HG.out.am bs[k] (List.getElem_mem hlt); rw [xH.out] at this; exact this
      have HB3 : Hid (Bx (wr.alloc (.cells #[.int .i64 x0, .bool x1, .int .i64 x2] 80)) w.heap.size [.slice (some ⟨xg, xoff, none⟩) bs.length k1, .slice a2 ws.length k2] ∧ Below w1.heap.size w1 (wr.alloc (.cells #[.int .i64 x0, .bool x1, .int .i64 x2] 80))) := ⟨HB2.out.1.alloc _, HB2.out.2.alloc HB2.out.2.size _⟩
      clear xH HLE
      obtain ⟨y, hy⟩ : ∃ y : Int, y = x0 := ⟨_, rfl⟩
      subst hy
      have hx : (0 : Int) ≤ y ∧ y ≤ (1000000 : Int) := hx
      obtain ⟨hx0, hx1⟩ := hx
      generalize sumF bam (bs.take k) = q at hs0 hs1 HS ⊢
      have hw : IntKind.i64.wrap (q + y) = q + y := w64f (by omega) (by omega)
      go_wp2
      go_roundw
      case rel => exact ⟨k + 1, by omega, by go_num, by rw [HS.out], HB3.out⟩
      case measure => simp [intOf]; omega
    · have HE : Hid (sumF bam (bs.take k) = sumF bam bs) := Hid.intro (by rw [show k = bs.length by omega, List.take_length])
      generalize sumF bam (bs.take k) = q at hs0 hs1 HE ⊢
      have s0 := (HB2.out.1).cell 0 rfl; have s1 := (HB2.out.1).cell 1 rfl; have sz := (HB2.out.1).2
      go_wp2
      clear s0 s1 sz
      obtain ⟨w2, hw2⟩ : ∃ x, x = wr := ⟨_, rfl⟩
      subst hw2
      go_loopw [29, 4] (fun v29 v4 wr => ∃ i : Nat, i ≤ ws.length ∧ v29 = .int .i64 i ∧ v4 = .int .i64 (q + sumF pcN (ws.take i)) ∧ Below w2.heap.size w2 wr) (fun v29 _ _ => ws.length - (intOf v29).toNat)
      case atStart => exact ⟨0, Nat.zero_le _, rfl, by simp [sumF], Below.refl _ _⟩
      case round =>
        obtain ⟨i, hi, rfl, rfl, hBr⟩ := hrel
        have HB4 := Hid.intro hBr
        clear hBr
        obtain ⟨ht0, ht1⟩ := sumF_take pcN (k := i) HG.out.pc hnw (by decide)
        by_cases hli : i < ws.length
        · have hli' : (i : Int) < (ws.length : Int) := by omega
          have HLE : Hid (Lies wr (.list shWay) [.slice a2 ws.length k2] ws) := ((HL.out.2.next HB1.out.2.2).next HB2.out.2).next HB4.out
          obtain ⟨zg, zoff, zgo, zgs, zec, zel, zhec, zle⟩ := Lies.elem (HLE.out) hli
          subst zgo
          rcases zX : ws[i] with ⟨z0, z1, z2, z3, z4, ⟨⟩⟩
          rw [zX] at zle
          have zH : Hid (ws[i] = (z0, z1, z2, z3, z4, ())) := zX
          clear zX
          obtain ⟨za1, zk1, za2, zk2, zev, zq1, zq2⟩ := lies_Way zle
          subst zev
          have zc0 : wr.cell? ⟨zg, zoff + i * 5, none⟩ = some (.int .i64 z0) := zhec 0 (by simp)
          have zc1 : wr.cell? ⟨zg, zoff + i * 5 + 1, none⟩ = some (.int .i64 z1) := zhec 1 (by simp)
          have zc2 : wr.cell? ⟨zg, zoff + i * 5 + 2, none⟩ = some (.slice za1 z2.length zk1) := zhec 2 (by simp)
          have zc3 : wr.cell? ⟨zg, zoff + i * 5 + 3, none⟩ = some (.bool z3) := zhec 3 (by simp)
          have zc4 : wr.cell? ⟨zg, zoff + i * 5 + 4, none⟩ = some (.slice za2 z4.length zk2) := zhec 4 (by simp)
          clear zhec zel zle
          have HS2 : Hid (sumF pcN (ws.take (i + 1)) = sumF pcN (ws.take i) + sumF pam z2) := Hid.intro (by rw [sumF_succ pcN hli, zH.out]; rfl)
          have hpl : z2.length ≤ 20 ∧ ∀ p ∈ z2, 0 ≤ pam p ∧ pam p ≤ 1000000 := by have := HG.out.pl ws[i] (List.getElem_mem hli); rw [zH.out] at this; exact this
          have HPL := Hid.intro hpl.2
          have hp20 := hpl.1
          have HB5 : Hid (Below w2.heap.size w2 (wr.alloc (.cells #[.int .i64 z0, .int .i64 z1, .slice za1 z2.length zk1, .bool z3, .slice za2 z4.length zk2] 83))) := Hid.intro (HB4.out.alloc HB4.out.size _)
          have HLP : Hid (Lies (wr.alloc (.cells #[.int .i64 z0, .int .i64 z1, .slice za1 z2.length zk1, .bool z3, .slice za2 z4.length zk2] 83)) (.list shParcel) [.slice za1 z2.length zk1] z2) := zq1.next (Go.Joins.below_alloc1 _ _)
          clear zH HLE hpl zq1 zq2
          obtain ⟨qq, hqq⟩ : ∃ x, x = q + sumF pcN (ws.take i) := ⟨_, rfl⟩
          have HQQ := Hid.intro hqq
          have hqq0 : 0 ≤ qq ∧ qq ≤ 405000000 := by omega
          rw [← hqq]
          clear hqq
          go_wp2
          obtain ⟨w3, hw3⟩ : ∃ x, x = wr.alloc (.cells #[.int .i64 z0, .int .i64 z1, .slice za1 z2.length zk1, .bool z3, .slice za2 z4.length zk2] 83) := ⟨_, rfl⟩
          rw [← hw3] at HB5 HLP ⊢
          clear hw3 zc0 zc1 zc2 zc3 zc4 zgs HB4
          obtain ⟨wv, hwv⟩ : ∃ x, x = wr := ⟨_, rfl⟩
          subst hwv
          go_loopw [36, 4] (fun v36 v4 wr => ∃ j : Nat, j ≤ z2.length ∧ v36 = .int .i64 j ∧ v4 = .int .i64 (qq + sumF pam (z2.take j)) ∧ Below w3.heap.size w3 wr) (fun v36 _ _ => z2.length - (intOf v36).toNat)
          case atStart => exact ⟨0, Nat.zero_le _, rfl, by simp [sumF], Below.refl _ _⟩
          case round =>
            obtain ⟨j, hj, rfl, rfl, hBr⟩ := hrel
            have HB6 := Hid.intro hBr
            clear hBr
            obtain ⟨hu0, hu1⟩ := sumF_take pam (k := j) HPL.out hp20 (by decide)
            by_cases hlj : j < z2.length
            · have hlj' : (j : Int) < (z2.length : Int) := by omega
              have HLE : Hid (Lies wr (.list shParcel) [.slice za1 z2.length zk1] z2) := HLP.out.next HB6.out
              obtain ⟨mg, moff, mgo, mgs, mec, mel, mhec, mle⟩ := Lies.elem (HLE.out) hlj
              subst mgo
              rcases mX : z2[j] with ⟨m0, m1, ⟨⟩⟩
              rw [mX] at mle
              have mH : Hid (z2[j] = (m0, m1, ())) := mX
              clear mX
              obtain mev := lies_Parcel mle
              subst mev
              have mc0 : wr.cell? ⟨mg, moff + j * 2, none⟩ = some (.bool m0) := mhec 0 (by simp)
              have mc1 : wr.cell? ⟨mg, moff + j * 2 + 1, none⟩ = some (.int .i64 m1) := mhec 1 (by simp)
              clear mhec mel mle
              have HS3 : Hid (sumF pam (z2.take (j + 1)) = sumF pam (z2.take j) + m1) := Hid.intro (by rw [sumF_succ pam hlj, mH.out]; rfl)
              have hm : 0 ≤ m1 ∧ m1 ≤ 1000000 := by have := HPL.out z2[j] (List.getElem_mem hlj); rw [mH.out] at this; exact this
              have HB7 : Hid (Below w3.heap.size w3 (wr.alloc (.cells #[.bool m0, .int .i64 m1] 85))) := Hid.intro (HB6.out.alloc HB6.out.size _)
              clear mH HLE
              obtain ⟨y, hy⟩ : ∃ y : Int, y = m1 := ⟨_, rfl⟩
              subst hy
              have hm : (0 : Int) ≤ y ∧ y ≤ (1000000 : Int) := hm
              obtain ⟨hm0, hm1⟩ := hm
              generalize sumF pam (z2.take j) = u at hu0 hu1 HS3 ⊢
              have hw : IntKind.i64.wrap (qq + u + y) = qq + u + y := w64f (by omega) (by omega)
              go_wp2
              go_roundw
              case rel => exact ⟨j + 1, by omega, by go_num, by rw [HS3.out, Int.add_assoc], HB7.out⟩
              case measure => simp [intOf]; omega
            · have HE2 : Hid (qq + sumF pam (z2.take j) = q + sumF pcN (ws.take (i + 1))) := Hid.intro (by rw [show j = z2.length by omega, List.take_length, HS2.out, HQQ.out, Int.add_assoc])
              generalize qq + sumF pam (z2.take j) = u at HE2 ⊢
              have HB7 : Hid (Below w2.heap.size w2 wr) := Hid.intro (below_next HB5.out HB6.out)
              go_wp2
              go_roundw
              case rel => exact ⟨i + 1, by omega, by go_num, by rw [HE2.out], HB7.out⟩
              case measure => simp [intOf]; omega
        · have HE2 : Hid (q + sumF pcN (ws.take i) = totN bs ws) := Hid.intro (by rw [show i = ws.length by omega, List.take_length, HE.out]; rfl)
          generalize q + sumF pcN (ws.take i) = u at HE2 ⊢
          go_wp2
          go_ret2
          exact ⟨by rw [HN.out, HE2.out]; rfl, below_next HB1.out.2.1 (below_next HB2.out.2 HB4.out)⟩

set_option maxRecDepth 100000 in
set_option maxHeartbeats 4000000 in
theorem specTotalOf_n (cs : List Value) (bs : List (Sh.T shBank)) (ws : List (Sh.T shWay)) (w : World) (hz : szD shNet (bs, ws, ()) ≤ 1073741824) (h : Lies w shNet cs (bs, ws, ())) : Calls Try.prog 23 #[.agg cs.toArray] w (TotP (totA bs ws) w) := by
  obtain ⟨a1, k1, a2, k2, rfl, h1, h2⟩ := lies_Net h
  obtain ⟨w0, hw0⟩ : ∃ x, x = (w.alloc (.cells #[.slice a1 bs.length k1, .slice a2 ws.length k2] 30)) := ⟨_, rfl⟩
  have hb0 : Below w.heap.size w w0 := hw0 ▸ Go.Joins.below_alloc1 _ _
  have HB0 : Hid (Bx w0 w.heap.size [.slice a1 bs.length k1, .slice a2 ws.length k2] ∧ Below w.heap.size w w0 ∧ Lies w0 shNet [.slice a1 bs.length k1, .slice a2 ws.length k2] (bs, ws, ())) := ⟨hw0 ▸ Bx.new w [_, _] _, hb0, h.next hb0⟩
  have HL : Hid (Lies w0 (.list shBank) [.slice a1 bs.length k1] bs ∧ Lies w0 (.list shWay) [.slice a2 ws.length k2] ws) := ⟨h1.next hb0, h2.next hb0⟩
  have HC : Hid (∀ W, Below w0.heap.size w0 W → Calls Try.prog 19 #[.agg #[.slice a1 bs.length k1, .slice a2 ws.length k2]] W fun r w' => r = .returned (.bool (tf (goodN bs ws))) ∧ Below W.heap.size W w') := Hid.intro (fun W hW => specGoodNet_n _ bs ws W hz (HB0.out.2.2.next hW))
  clear h h1 h2 hb0
  go_enter Try.func23, Try.ntmps23
  go_upto_region 1 with fail
  rw [← hw0]
  clear hw0
  have s0 := (HB0.out.1).cell 0 rfl; have s1 := (HB0.out.1).cell 1 rfl; have sz := (HB0.out.1).2
  go_wp2_with fail
  refine (HC.out _ (Below.refl _ _)).mono ?_
  rintro r w1 ⟨rfl, hb⟩
  have HB1 : Hid (Bx w1 w.heap.size [.slice a1 bs.length k1, .slice a2 ws.length k2] ∧ Below w.heap.size w w1 ∧ Below w0.heap.size w0 w1) := ⟨HB0.out.1.next hb, below_next HB0.out.2.1 hb, hb⟩
  clear hb s0 s1 sz HC
  cases e : tf (goodN bs ws)
  · have HN := Hid.intro (totA_no e)
    clear e
    go_wp2
    go_ret2
    exact ⟨by rw [HN.out]; rfl, HB1.out.2.1⟩
  have HN := Hid.intro (totA_yes e)
  have HG := Hid.intro (good_b (tf_iff.1 e))
  have hnb := HG.out.nb
  have hnw := HG.out.nw
  clear e HB0
  have s0 := (HB1.out.1).cell 0 rfl; have s1 := (HB1.out.1).cell 1 rfl; have sz := (HB1.out.1).2
  go_wp2
  clear s0 s1 sz
  go_loopw [17, 4] (fun v17 v4 wr => ∃ k : Nat, k ≤ bs.length ∧ v17 = .int .i64 k ∧ v4 = .int .i64 (sumF bam (bs.take k)) ∧ Bx wr w.heap.size [.slice a1 bs.length k1, .slice a2 ws.length k2] ∧ Below w1.heap.size w1 wr) (fun v17 _ _ => bs.length - (intOf v17).toNat)
  case atStart => exact ⟨0, Nat.zero_le _, rfl, rfl, HB1.out.1, Below.refl _ _⟩
  case round =>
    obtain ⟨k, hk, rfl, rfl, hbx, hBr⟩ := hrel
    have HB2 : Hid (Bx wr w.heap.size [.slice a1 bs.length k1, .slice a2 ws.length k2] ∧ Below w1.heap.size w1 wr) := ⟨hbx, hBr⟩
    clear hbx hBr
    obtain ⟨hs0, hs1⟩ := sumF_take bam (k := k) HG.out.am hnb (by decide)
    by_cases hlt : k < bs.length
    · have hlt' : (k : Int) < (bs.length : Int) := by omega
      have HLE : Hid (Lies wr (.list shBank) [.slice a1 bs.length k1] bs) := (HL.out.1.next HB1.out.2.2).next HB2.out.2
      obtain ⟨xg, xoff, xgo, xgs, xec, xel, xhec, xle⟩ := Lies.elem (HLE.out) hlt
      subst xgo
      rcases xX : bs[k] with ⟨x0, x1, x2, ⟨⟩⟩
      rw [xX] at xle
      have xH : Hid (bs[k] = (x0, x1, x2, ())) := xX
      clear xX
      obtain xev := lies_Bank xle
      subst xev
      have xc0 : wr.cell? ⟨xg, xoff + k * 3, none⟩ = some (.int .i64 x0) := xhec 0 (by simp)
      have xc1 : wr.cell? ⟨xg, xoff + k * 3 + 1, none⟩ = some (.bool x1) := xhec 1 (by simp)
      have xc2 : wr.cell? ⟨xg, xoff + k * 3 + 2, none⟩ = some (.int .i64 x2) := xhec 2 (by simp)
      clear xhec xel xle
      have HS : Hid (sumF bam (bs.take (k + 1)) = sumF bam (bs.take k) + x0) := Hid.intro (by rw [sumF_succ bam hlt, xH.out]; rfl)
      have hx : 0 ≤ x0 ∧ x0 ≤ 1000000 := by have := HG.out.am bs[k] (List.getElem_mem hlt); rw [xH.out] at this; exact this
      have HB3 : Hid (Bx (wr.alloc (.cells #[.int .i64 x0, .bool x1, .int .i64 x2] 80)) w.heap.size [.slice (some ⟨xg, xoff, none⟩) bs.length k1, .slice a2 ws.length k2] ∧ Below w1.heap.size w1 (wr.alloc (.cells #[.int .i64 x0, .bool x1, .int .i64 x2] 80))) := ⟨HB2.out.1.alloc _, HB2.out.2.alloc HB2.out.2.size _⟩
      clear xH HLE
      obtain ⟨y, hy⟩ : ∃ y : Int, y = x0 := ⟨_, rfl⟩
      subst hy
      have hx : (0 : Int) ≤ y ∧ y ≤ (1000000 : Int) := hx
      obtain ⟨hx0, hx1⟩ := hx
      generalize sumF bam (bs.take k) = q at hs0 hs1 HS ⊢
      have hw : IntKind.i64.wrap (q + y) = q + y := w64f (by omega) (by omega)
      go_wp2
      go_roundw
      case rel => exact ⟨k + 1, by omega, by go_num, by rw [HS.out], HB3.out⟩
      case measure => simp [intOf]; omega
    · have HE : Hid (sumF bam (bs.take k) = sumF bam bs) := Hid.intro (by rw [show k = bs.length by omega, List.take_length])
      generalize sumF bam (bs.take k) = q at hs0 hs1 HE ⊢
      have s0 := (HB2.out.1).cell 0 rfl; have s1 := (HB2.out.1).cell 1 rfl; have sz := (HB2.out.1).2
      go_wp2
      clear s0 s1 sz
      obtain ⟨w2, hw2⟩ : ∃ x, x = wr := ⟨_, rfl⟩
      subst hw2
      go_loopw [29, 4] (fun v29 v4 wr => ∃ i : Nat, i ≤ ws.length ∧ v29 = .int .i64 i ∧ v4 = .int .i64 (q + sumF pcN (ws.take i)) ∧ Below w2.heap.size w2 wr) (fun v29 _ _ => ws.length - (intOf v29).toNat)
      case atStart => exact ⟨0, Nat.zero_le _, rfl, by simp [sumF], Below.refl _ _⟩
      case round =>
        obtain ⟨i, hi, rfl, rfl, hBr⟩ := hrel
        have HB4 := Hid.intro hBr
        clear hBr
        obtain ⟨ht0, ht1⟩ := sumF_take pcN (k := i) HG.out.pc hnw (by decide)
        by_cases hli : i < ws.length
        · have hli' : (i : Int) < (ws.length : Int) := by omega
          have HLE : Hid (Lies wr (.list shWay) [.slice a2 ws.length k2] ws) := ((HL.out.2.next HB1.out.2.2).next HB2.out.2).next HB4.out
          obtain ⟨zg, zoff, zgo, zgs, zec, zel, zhec, zle⟩ := Lies.elem (HLE.out) hli
          subst zgo
          rcases zX : ws[i] with ⟨z0, z1, z2, z3, z4, ⟨⟩⟩
          rw [zX] at zle
          have zH : Hid (ws[i] = (z0, z1, z2, z3, z4, ())) := zX
          clear zX
          obtain ⟨za1, zk1, za2, zk2, zev, zq1, zq2⟩ := lies_Way zle
          subst zev
          have zc0 : wr.cell? ⟨zg, zoff + i * 5, none⟩ = some (.int .i64 z0) := zhec 0 (by simp)
          have zc1 : wr.cell? ⟨zg, zoff + i * 5 + 1, none⟩ = some (.int .i64 z1) := zhec 1 (by simp)
          have zc2 : wr.cell? ⟨zg, zoff + i * 5 + 2, none⟩ = some (.slice za1 z2.length zk1) := zhec 2 (by simp)
          have zc3 : wr.cell? ⟨zg, zoff + i * 5 + 3, none⟩ = some (.bool z3) := zhec 3 (by simp)
          have zc4 : wr.cell? ⟨zg, zoff + i * 5 + 4, none⟩ = some (.slice za2 z4.length zk2) := zhec 4 (by simp)
          clear zhec zel zle
          have HS2 : Hid (sumF pcN (ws.take (i + 1)) = sumF pcN (ws.take i) + sumF pam z2) := Hid.intro (by rw [sumF_succ pcN hli, zH.out]; rfl)
          have hpl : z2.length ≤ 20 ∧ ∀ p ∈ z2, 0 ≤ pam p ∧ pam p ≤ 1000000 := by have := HG.out.pl ws[i] (List.getElem_mem hli); rw [zH.out] at this; exact this
          have HPL := Hid.intro hpl.2
          have hp20 := hpl.1
          have HB5 : Hid (Below w2.heap.size w2 (wr.alloc (.cells #[.int .i64 z0, .int .i64 z1, .slice za1 z2.length zk1, .bool z3, .slice za2 z4.length zk2] 83))) := Hid.intro (HB4.out.alloc HB4.out.size _)
          have HLP : Hid (Lies (wr.alloc (.cells #[.int .i64 z0, .int .i64 z1, .slice za1 z2.length zk1, .bool z3, .slice za2 z4.length zk2] 83)) (.list shParcel) [.slice za1 z2.length zk1] z2) := zq1.next (Go.Joins.below_alloc1 _ _)
          clear zH HLE hpl zq1 zq2
          obtain ⟨qq, hqq⟩ : ∃ x, x = q + sumF pcN (ws.take i) := ⟨_, rfl⟩
          have HQQ := Hid.intro hqq
          have hqq0 : 0 ≤ qq ∧ qq ≤ 405000000 := by omega
          rw [← hqq]
          clear hqq
          go_wp2
          obtain ⟨w3, hw3⟩ : ∃ x, x = wr.alloc (.cells #[.int .i64 z0, .int .i64 z1, .slice za1 z2.length zk1, .bool z3, .slice za2 z4.length zk2] 83) := ⟨_, rfl⟩
          rw [← hw3] at HB5 HLP ⊢
          clear hw3 zc0 zc1 zc2 zc3 zc4 zgs HB4
          obtain ⟨wv, hwv⟩ : ∃ x, x = wr := ⟨_, rfl⟩
          subst hwv
          go_loopw [36, 4] (fun v36 v4 wr => ∃ j : Nat, j ≤ z2.length ∧ v36 = .int .i64 j ∧ v4 = .int .i64 (qq + sumF pam (z2.take j)) ∧ Below w3.heap.size w3 wr) (fun v36 _ _ => z2.length - (intOf v36).toNat)
          case atStart => exact ⟨0, Nat.zero_le _, rfl, by simp [sumF], Below.refl _ _⟩
          case round =>
            obtain ⟨j, hj, rfl, rfl, hBr⟩ := hrel
            have HB6 := Hid.intro hBr
            clear hBr
            obtain ⟨hu0, hu1⟩ := sumF_take pam (k := j) HPL.out hp20 (by decide)
            by_cases hlj : j < z2.length
            · have hlj' : (j : Int) < (z2.length : Int) := by omega
              have HLE : Hid (Lies wr (.list shParcel) [.slice za1 z2.length zk1] z2) := HLP.out.next HB6.out
              obtain ⟨mg, moff, mgo, mgs, mec, mel, mhec, mle⟩ := Lies.elem (HLE.out) hlj
              subst mgo
              rcases mX : z2[j] with ⟨m0, m1, ⟨⟩⟩
              rw [mX] at mle
              have mH : Hid (z2[j] = (m0, m1, ())) := mX
              clear mX
              obtain mev := lies_Parcel mle
              subst mev
              have mc0 : wr.cell? ⟨mg, moff + j * 2, none⟩ = some (.bool m0) := mhec 0 (by simp)
              have mc1 : wr.cell? ⟨mg, moff + j * 2 + 1, none⟩ = some (.int .i64 m1) := mhec 1 (by simp)
              clear mhec mel mle
              have HS3 : Hid (sumF pam (z2.take (j + 1)) = sumF pam (z2.take j) + m1) := Hid.intro (by rw [sumF_succ pam hlj, mH.out]; rfl)
              have hm : 0 ≤ m1 ∧ m1 ≤ 1000000 := by have := HPL.out z2[j] (List.getElem_mem hlj); rw [mH.out] at this; exact this
              have HB7 : Hid (Below w3.heap.size w3 (wr.alloc (.cells #[.bool m0, .int .i64 m1] 85))) := Hid.intro (HB6.out.alloc HB6.out.size _)
              clear mH HLE
              obtain ⟨y, hy⟩ : ∃ y : Int, y = m1 := ⟨_, rfl⟩
              subst hy
              have hm : (0 : Int) ≤ y ∧ y ≤ (1000000 : Int) := hm
              obtain ⟨hm0, hm1⟩ := hm
              generalize sumF pam (z2.take j) = u at hu0 hu1 HS3 ⊢
              have hw : IntKind.i64.wrap (qq + u + y) = qq + u + y := w64f (by omega) (by omega)
              go_wp2
              go_roundw
              case rel => exact ⟨j + 1, by omega, by go_num, by rw [HS3.out, Int.add_assoc], HB7.out⟩
              case measure => simp [intOf]; omega
            · have HE2 : Hid (qq + sumF pam (z2.take j) = q + sumF pcN (ws.take (i + 1))) := Hid.intro (by rw [show j = z2.length by omega, List.take_length, HS2.out, HQQ.out, Int.add_assoc])
              generalize qq + sumF pam (z2.take j) = u at HE2 ⊢
              have HB7 : Hid (Below w2.heap.size w2 wr) := Hid.intro (below_next HB5.out HB6.out)
              go_wp2
              go_roundw
              case rel => exact ⟨i + 1, by omega, by go_num, by rw [HE2.out], HB7.out⟩
              case measure => simp [intOf]; omega
        · have HE2 : Hid (q + sumF pcN (ws.take i) = totN bs ws) := Hid.intro (by rw [show i = ws.length by omega, List.take_length, HE.out]; rfl)
          generalize q + sumF pcN (ws.take i) = u at HE2 ⊢
          go_wp2
          go_ret2
          exact ⟨by rw [HN.out, HE2.out]; rfl, below_next HB1.out.2.1 (below_next HB2.out.2 HB4.out)⟩
end Go.Proofs.Ytcklpcdgckkahaa
