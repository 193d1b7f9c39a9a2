/- Leases: who believes that it holds, and up to when it is safe, on both sides. Written by tools/mkLeU.py. -/
import Derived.Test.YtidalpgkljafdaaLeS
import Derived.Test.YtidalpgkljafdaaShB
import Derived.Test.YtidalpgkljafdaaNtT
namespace Go.Proofs.Ytidalpgkljafdaa
open Go.RowKit
set_option linter.unusedVariables false
set_option linter.unusedSimpArgs false

theorem AppB.int {W0 W W' : World} {lo : Nat} {v v' : Value} {l : List (Sh.T .int)} {xs : List Value} {B : Nat → Nat → Prop} {x : Int} (h : AppR W0 lo .int v l xs B) (ho : W0.ownsRow lo 3 1 v l.length xs) (hW : Below W0.heap.size W0 W) (hlo : lo ≤ W0.heap.size)
    (h2 : W'.ownsRow lo 3 1 v' (l.length + 1) (xs ++ [.int .i64 x])) (hg : W.grownBy W' v.ownBlock) (hwh : v'.ownBlock = v.ownBlock ∨ v'.ownBlock = some W.heap.size) : AppB W' lo 3 .int v' (l ++ [x]) :=
  AppR.app (e := .int) (ec := [.int .i64 x]) h ho hW rfl hlo rfl h2 hg hwh
/-- One number more, beside a box. -/
theorem AppB.more {b w0 w' : World} {lo g : Nat} {v v' : Value} {l : List (Sh.T .int)} {xs cs : List Value} {B : Nat → Nat → Prop} {x : Int} (h : AppR w0 lo .int v l xs B) (ho : w0.ownsRow lo 3 1 v l.length xs) (hb : Below b.heap.size b w0) (hlo : lo ≤ w0.heap.size) (hbl : b.heap.size ≤ lo) (hx : Bx w0 g cs) (hgl : g < lo)
    (h2 : w'.ownsRow lo 3 1 v' (l.length + 1) (xs ++ [.int .i64 x])) (hg : (w0.alloc (.cells #[.int .i64 x] 3)).grownBy w' v.ownBlock) (hwh : v'.ownBlock = v.ownBlock ∨ v'.ownBlock = some (w0.alloc (.cells #[.int .i64 x] 3)).heap.size) :
    AppB w' lo 3 .int v' (l ++ [x]) ∧ Bx w' g cs ∧ Below b.heap.size b w' := by
  have hz := hb.size
  refine ⟨AppB.int h ho (Go.Joins.below_alloc1 _ _) hlo h2 hg hwh, (hx.alloc _).grow hg (fun q => ?_), (hb.alloc hz _).grown hg (by simp; omega) (fun j hj => Nat.le_trans hbl (ho.lt j hj).1)⟩
  have := (ho.lt _ q.symm).1
  omega
/-- A list of numbers is answered, a new one. -/
def LstP (l : List (Sh.T .int)) (w : World) (r : Ending) (w' : World) : Prop := ∃ a cap, r = .returned (.slice a l.length cap) ∧ Own w' (.list .int) [.slice a l.length cap] l (Btw w.heap.size w'.heap.size) ∧ Below w.heap.size w w'
/-- Who of the first k believes. -/
def blv (sk : Int) (cl kn : List (Sh.T .int)) : Nat → List (Sh.T .int)
  | 0 => []
  | k + 1 => blv sk cl kn k ++ if atI cl k + sk < atI kn k then [(k : Int)] else []
theorem blv_len (sk : Int) (cl kn : List (Sh.T .int)) : ∀ k, (blv sk cl kn k).length ≤ k
  | 0 => Nat.le_refl _
  | k + 1 => by
    have := blv_len sk cl kn k
    rw [blv, List.length_append]
    split <;> simp <;> omega
theorem node_bd {sk nw : Int} {cl : List (Sh.T .int)} {ho un : Int} {kn : List (Sh.T .int)} (h : goodL sk nw cl ho un kn) {k : Nat} (hk : k < cl.length) : (0 ≤ atI cl k ∧ atI cl k ≤ 2000000) ∧ (0 ≤ atI kn k ∧ atI kn k ≤ 2000000) := by
  have h1 := h.2.2.2.2.2.2 k hk
  have h2 := nearB_iff.1 h1.1
  have := h.1; have := h.2.1; have := h.2.2.1; have := h1.2.1; have := h1.2.2.1
  omega
theorem app_out {w wr : World} {lo : Nat} {v : Value} {l : List (Sh.T .int)} (h : AppB wr lo 3 .int v l) (hlo : w.heap.size ≤ lo) (hb : Below w.heap.size w wr) : LstP l w (.returned v) wr := by
  obtain ⟨a, cap, rfl, _, h2⟩ := h.own
  exact ⟨a, cap, rfl, h2.mono (fun k hk => ⟨Nat.le_trans hlo hk.1, hk.2⟩), hb⟩


set_option maxRecDepth 100000 in
set_option maxHeartbeats 2000000 in
theorem believersIn_n (sk nw : Int) (a1 : Option Addr) (k1 : Nat) (ho un : Int) (a2 : Option Addr) (m k2 : Nat) (cl kn : List (Sh.T .int)) (w : World) (hG : goodL sk nw cl ho un kn) (h : LeL w a1 m k1 a2 m k2 cl kn) :
    Calls Try.prog 41 #[.agg #[.int .i64 sk, .int .i64 nw, .slice a1 m k1, .int .i64 ho, .int .i64 un, .slice a2 m k2]] w (LstP (blv sk cl kn cl.length) w) := by
  have HG : Hid (goodL sk nw cl ho un kn) := hG
  have HL : Hid (LeL w a1 m k1 a2 m k2 cl kn) := h
  have hm12 : m ≤ 12 := by have h1 := hG.2.2.2.1; rw [← h.2.2.1] at h1; omega
  have hsk := hG.1
  clear h hG
  obtain ⟨i0, hi0, hz0, hz1, hz2⟩ := info_parts inf_int
  have HB0 : Hid (Bx (w.alloc (.cells #[.int .i64 sk, .int .i64 nw, .slice a1 m k1, .int .i64 ho, .int .i64 un, .slice a2 m k2] 28)) w.heap.size [.int .i64 sk, .int .i64 nw, .slice a1 m k1, .int .i64 ho, .int .i64 un, .slice a2 m k2] ∧ Below w.heap.size w (w.alloc (.cells #[.int .i64 sk, .int .i64 nw, .slice a1 m k1, .int .i64 ho, .int .i64 un, .slice a2 m k2] 28))) := ⟨Bx.new w [_, _, _, _, _, _] _, Go.Joins.below_alloc1 _ _⟩
  go_enter Try.func41, Try.ntmps41
  go_wp2_with fail
  go_loopw [8, 3] (fun i v wr => ∃ k : Nat, k ≤ m ∧ i = .int .i64 k ∧ AppB wr (w.heap.size + 1) 3 .int v (blv sk cl kn k) ∧ Bx wr w.heap.size [.int .i64 sk, .int .i64 nw, .slice a1 m k1, .int .i64 ho, .int .i64 un, .slice a2 m k2] ∧ Below w.heap.size w wr) (fun i _ _ => m - (intOf i).toNat)
  case atStart => exact ⟨0, Nat.zero_le _, rfl, AppB.nil _ _ _ _, HB0.out⟩
  case round =>
    obtain ⟨k, hk, rfl, hA, hbx, hBr⟩ := hrel
    clear HB0
    have HA : Hid (AppB wr (w.heap.size + 1) 3 .int u3 (blv sk cl kn k) ∧ Bx wr w.heap.size [.int .i64 sk, .int .i64 nw, .slice a1 m k1, .int .i64 ho, .int .i64 un, .slice a2 m k2] ∧ Below w.heap.size w wr) := ⟨hA, hbx, hBr⟩
    clear hA
    have s0 := (hbx).cell 0 rfl; have s1 := (hbx).cell 1 rfl; have s2 := (hbx).cell 2 rfl; have s3 := (hbx).cell 3 rfl; have s4 := (hbx).cell 4 rfl; have s5 := (hbx).cell 5 rfl; have sz := (hbx).2
    by_cases hlt : k < m
    · have hlt' : (k : Int) < (m : Int) := by omega
      have hlc : k < cl.length := by have := HL.out.2.2.1; omega
      have HBD := Hid.intro (node_bd HG.out hlc)
      clear hbx hBr
      go_wp2_with fail
      refine (nodeIn_n sk nw a1 m k1 ho un a2 m k2 k wr (atI cl) (atI kn) hlt hlt (HL.out.next HA.out.2.2).clocks (HL.out.next HA.out.2.2).known).mono ?_
      rintro r w1 ⟨rfl, hb⟩
      have HB1 : Hid (AppB w1 (w.heap.size + 1) 3 .int u3 (blv sk cl kn k) ∧ Bx w1 w.heap.size [.int .i64 sk, .int .i64 nw, .slice a1 m k1, .int .i64 ho, .int .i64 un, .slice a2 m k2] ∧ Below w.heap.size w w1) := ⟨HA.out.1.next hb, HA.out.2.1.next hb, below_next HA.out.2.2 hb⟩
      clear hb s0 s1 s2 s3 s4 s5 sz
      go_wp2_with fail
      refine (believes_n _ _ _ _ HG.out.1 HBD.out.1).mono ?_
      rintro r w2 ⟨rfl, hb⟩
      have HB2 : Hid (AppB w2 (w.heap.size + 1) 3 .int u3 (blv sk cl kn k) ∧ Bx w2 w.heap.size [.int .i64 sk, .int .i64 nw, .slice a1 m k1, .int .i64 ho, .int .i64 un, .slice a2 m k2] ∧ Below w.heap.size w w2) := ⟨HB1.out.1.next hb, HB1.out.2.1.next hb, below_next HB1.out.2.2 hb⟩
      clear hb HB1
      obtain ⟨c, hcE⟩ : ∃ y, y = atI cl k := ⟨_, rfl⟩
      obtain ⟨x, hxE⟩ : ∃ y, y = atI kn k := ⟨_, rfl⟩
      rw [← hcE, ← hxE]
      have HE : Hid (atI cl k = c ∧ atI kn k = x) := ⟨hcE.symm, hxE.symm⟩
      clear hcE hxE
      obtain ⟨M, hM⟩ : ∃ M, M = blv sk cl kn k := ⟨_, rfl⟩
      have hML : M.length ≤ 12 := by rw [hM]; have := blv_len sk cl kn k; omega
      have HM : Hid (M = blv sk cl kn k) := hM
      rw [← hM] at HB2
      clear hM
      obtain ⟨xs, B, hO, hR⟩ := HB2.out.1
      have HR := Hid.intro hR
      have HO := Hid.intro hO
      clear hR hO
      by_cases e : c + sk < x
      · have eb : decide (c + sk < x) = true := decide_eq_true e
        have HT : Hid (blv sk cl kn (k + 1) = M ++ [(k : Int)]) := Hid.intro (by rw [blv, ← HM.out, if_pos (by rw [HE.out.1, HE.out.2]; exact e)])
        have HO2 := Hid.intro (ownsRow_next HO.out (Go.Joins.below_alloc1 w2 (.cells #[.int .i64 (k : Int)] 3)))
        have HNW := Hid.intro (cells_new w2 [.int .i64 (k : Int)] 3)
        have hz2' : w.heap.size + 1 ≤ w2.heap.size := by have := HB2.out.2.1.2; omega
        clear e
        rw [eb]
        go_wp2_with (first | (at_builtin; refine wpList_append_own_at _ rfl (.tmp 15) (.tmp 17) 26 rfl (w.heap.size + 1) 3 i0 (.int .i64 0) 1 8 Try.underlying26 hi0 hz0 hz1 hz2 rfl (by decide) u3 M.length (xs) rfl (HO2.out) ⟨w2.heap.size, 0, none⟩ 1 1 [.int .i64 (k : Int)] rfl rfl (HNW.out) (by intro u hu; simp at hu; subst hu; rfl) (by unfold maxLen; omega) (by omega) (by simp <;> omega) ?_; intro v9 w9 hown9 hgrow9 hnil9 hwh9; have HF := Hid.intro (AppB.more HR.out HO.out HB2.out.2.2 hz2' (Nat.le_succ _) HB2.out.2.1 (Nat.lt_succ_self _) hown9 hgrow9 hwh9); clear hown9 hgrow9 hnil9 hwh9))
        go_roundw
        case rel => exact ⟨k + 1, by omega, by go_num, by rw [HT.out]; exact HF.out⟩
        case measure => simp [intOf]; omega
      · have eb : decide (c + sk < x) = false := decide_eq_false e
        have HT : Hid (blv sk cl kn (k + 1) = M) := Hid.intro (by rw [blv, ← HM.out, if_neg (by rw [HE.out.1, HE.out.2]; exact e), List.append_nil])
        clear e
        rw [eb]
        go_wp2
        go_roundw
        case rel => exact ⟨k + 1, by omega, by go_num, by rw [HT.out]; exact HB2.out⟩
        case measure => simp [intOf]; omega
    · have hkn : k = m := by omega
      subst hkn
      have HE : Hid (blv sk cl kn k = blv sk cl kn cl.length) := Hid.intro (by rw [← HL.out.2.2.1])
      have HF := Hid.intro (app_out HA.out.1 (Nat.le_succ _) HA.out.2.2)
      rw [HE.out] at HF
      clear hbx hBr
      go_wp2
      go_ret
      exact HF.out


set_option maxRecDepth 100000 in
set_option maxHeartbeats 2000000 in
theorem l11Believers_n (sk nw : Int) (a1 : Option Addr) (k1 : Nat) (ho un : Int) (a2 : Option Addr) (m k2 : Nat) (cl kn : List (Sh.T .int)) (w : World) (hG : goodL sk nw cl ho un kn) (h : LeL w a1 m k1 a2 m k2 cl kn) :
    Calls Try.prog 44 #[.agg #[.int .i64 sk, .int .i64 nw, .slice a1 m k1, .int .i64 ho, .int .i64 un, .slice a2 m k2]] w (LstP (blv sk cl kn cl.length) w) := by
  have HG : Hid (goodL sk nw cl ho un kn) := hG
  have HL : Hid (LeL w a1 m k1 a2 m k2 cl kn) := h
  have hm12 : m ≤ 12 := by have h1 := hG.2.2.2.1; rw [← h.2.2.1] at h1; omega
  have hsk := hG.1
  clear h hG
  obtain ⟨i0, hi0, hz0, hz1, hz2⟩ := info_parts inf_int
  have HB0 : Hid (Bx (w.alloc (.cells #[.int .i64 sk, .int .i64 nw, .slice a1 m k1, .int .i64 ho, .int .i64 un, .slice a2 m k2] 28)) w.heap.size [.int .i64 sk, .int .i64 nw, .slice a1 m k1, .int .i64 ho, .int .i64 un, .slice a2 m k2] ∧ Below w.heap.size w (w.alloc (.cells #[.int .i64 sk, .int .i64 nw, .slice a1 m k1, .int .i64 ho, .int .i64 un, .slice a2 m k2] 28))) := ⟨Bx.new w [_, _, _, _, _, _] _, Go.Joins.below_alloc1 _ _⟩
  go_enter Try.func44, Try.ntmps44
  go_wp2_with fail
  go_loopw [9, 3] (fun i v wr => ∃ k : Nat, k ≤ m ∧ i = .int .i64 k ∧ AppB wr (w.heap.size + 1) 3 .int v (blv sk cl kn k) ∧ Bx wr w.heap.size [.int .i64 sk, .int .i64 nw, .slice a1 m k1, .int .i64 ho, .int .i64 un, .slice a2 m k2] ∧ Below w.heap.size w wr) (fun i _ _ => m - (intOf i).toNat)
  case atStart => exact ⟨0, Nat.zero_le _, rfl, AppB.nil _ _ _ _, HB0.out⟩
  case round =>
    obtain ⟨k, hk, rfl, hA, hbx, hBr⟩ := hrel
    clear HB0
    have HA : Hid (AppB wr (w.heap.size + 1) 3 .int u3 (blv sk cl kn k) ∧ Bx wr w.heap.size [.int .i64 sk, .int .i64 nw, .slice a1 m k1, .int .i64 ho, .int .i64 un, .slice a2 m k2] ∧ Below w.heap.size w wr) := ⟨hA, hbx, hBr⟩
    clear hA
    have s0 := (hbx).cell 0 rfl; have s1 := (hbx).cell 1 rfl; have s2 := (hbx).cell 2 rfl; have s3 := (hbx).cell 3 rfl; have s4 := (hbx).cell 4 rfl; have s5 := (hbx).cell 5 rfl; have sz := (hbx).2
    by_cases hlt : k < m
    · have hlt' : (k : Int) < (m : Int) := by omega
      have hlc : k < cl.length := by have := HL.out.2.2.1; omega
      have HBD := Hid.intro (node_bd HG.out hlc)
      clear hbx hBr
      rcases (HL.out.next HA.out.2.2).clocks with h | ⟨b1, o1, rfl, hb1, hE1⟩
      · omega
      rcases (HL.out.next HA.out.2.2).known with h | ⟨b2, o2, rfl, hb2, hE2⟩
      · omega
      have q1 := int_cell hE1 hlt
      have q2 := int_cell hE2 hlt
      clear hE1 hE2
      obtain ⟨c, hcE⟩ : ∃ y, y = atI cl k := ⟨_, rfl⟩
      obtain ⟨x, hxE⟩ : ∃ y, y = atI kn k := ⟨_, rfl⟩
      have HE : Hid (atI cl k = c ∧ atI kn k = x) := ⟨hcE.symm, hxE.symm⟩
      rw [← hcE] at q1
      rw [← hxE] at q2
      have hbd := HBD.out
      rw [← hcE, ← hxE] at hbd
      clear hcE hxE HBD
      obtain ⟨⟨hc1, hc2⟩, hx1, hx2⟩ := hbd
      obtain ⟨hsk1, hsk2⟩ := hsk
      go_upto_region 5 with fail
      go_quiet (fail)
      obtain ⟨w2, hw2⟩ : ∃ y, y = wr.drewN nq := ⟨_, rfl⟩
      have HB2 : Hid (AppB w2 (w.heap.size + 1) 3 .int u3 (blv sk cl kn k) ∧ Bx w2 w.heap.size [.int .i64 sk, .int .i64 nw, .slice (some ⟨b1, o1, none⟩) m k1, .int .i64 ho, .int .i64 un, .slice (some ⟨b2, o2, none⟩) m k2] ∧ Below w.heap.size w w2) := hw2 ▸ ⟨HA.out.1.next (below_dN (Below.refl _ _) nq), HA.out.2.1.next (below_dN (Below.refl _ _) nq), below_dN HA.out.2.2 nq⟩
      rw [← hw2]
      clear hw2
      clear s0 s1 s2 s3 s4 s5 sz
      obtain ⟨M, hM⟩ : ∃ M, M = blv sk cl kn k := ⟨_, rfl⟩
      have hML : M.length ≤ 12 := by rw [hM]; have := blv_len sk cl kn k; omega
      have HM : Hid (M = blv sk cl kn k) := hM
      rw [← hM] at HB2
      clear hM
      obtain ⟨xs, B, hO, hR⟩ := HB2.out.1
      have HR := Hid.intro hR
      have HO := Hid.intro hO
      clear hR hO
      by_cases e : c + sk < x
      · have eb : decide (c + sk < x) = true := decide_eq_true e
        have HT : Hid (blv sk cl kn (k + 1) = M ++ [(k : Int)]) := Hid.intro (by rw [blv, ← HM.out, if_pos (by rw [HE.out.1, HE.out.2]; exact e)])
        have HO2 := Hid.intro (ownsRow_next HO.out (Go.Joins.below_alloc1 w2 (.cells #[.int .i64 (k : Int)] 3)))
        have HNW := Hid.intro (cells_new w2 [.int .i64 (k : Int)] 3)
        have hz2' : w.heap.size + 1 ≤ w2.heap.size := by have := HB2.out.2.1.2; omega
        clear e
        (try rw [eb])
        go_wp2_with (first | (at_builtin; refine wpList_append_own_at _ rfl (.tmp 24) (.tmp 26) 26 rfl (w.heap.size + 1) 3 i0 (.int .i64 0) 1 8 Try.underlying26 hi0 hz0 hz1 hz2 rfl (by decide) u3 M.length (xs) rfl (HO2.out) ⟨w2.heap.size, 0, none⟩ 1 1 [.int .i64 (k : Int)] rfl rfl (HNW.out) (by intro u hu; simp at hu; subst hu; rfl) (by unfold maxLen; omega) (by omega) (by simp <;> omega) ?_; intro v9 w9 hown9 hgrow9 hnil9 hwh9; have HF := Hid.intro (AppB.more HR.out HO.out HB2.out.2.2 hz2' (Nat.le_succ _) HB2.out.2.1 (Nat.lt_succ_self _) hown9 hgrow9 hwh9); clear hown9 hgrow9 hnil9 hwh9))
        go_roundw
        case rel => exact ⟨k + 1, by omega, by go_num, by rw [HT.out]; exact HF.out⟩
        case measure => simp [intOf]; omega
      · have eb : decide (c + sk < x) = false := decide_eq_false e
        have HT : Hid (blv sk cl kn (k + 1) = M) := Hid.intro (by rw [blv, ← HM.out, if_neg (by rw [HE.out.1, HE.out.2]; exact e), List.append_nil])
        clear e
        (try rw [eb])
        go_wp2
        go_roundw
        case rel => exact ⟨k + 1, by omega, by go_num, by rw [HT.out]; exact HB2.out⟩
        case measure => simp [intOf]; omega
    · have hkn : k = m := by omega
      subst hkn
      have HE : Hid (blv sk cl kn k = blv sk cl kn cl.length) := Hid.intro (by rw [← HL.out.2.2.1])
      have HF := Hid.intro (app_out HA.out.1 (Nat.le_succ _) HA.out.2.2)
      rw [HE.out] at HF
      clear hbx hBr
      go_wp2
      go_ret
      exact HF.out


noncomputable def blA (sk nw : Int) (cl : List (Sh.T .int)) (ho un : Int) (kn : List (Sh.T .int)) : List (Sh.T .int) := if tf (goodL sk nw cl ho un kn) then blv sk cl kn cl.length else []
theorem bl_no {sk nw : Int} {cl : List (Sh.T .int)} {ho un : Int} {kn : List (Sh.T .int)} (h : ¬ goodL sk nw cl ho un kn) : blA sk nw cl ho un kn = [] := by unfold blA; rw [tf_no h]; rfl
theorem bl_yes {sk nw : Int} {cl : List (Sh.T .int)} {ho un : Int} {kn : List (Sh.T .int)} (h : goodL sk nw cl ho un kn) : blA sk nw cl ho un kn = blv sk cl kn cl.length := by unfold blA; rw [tf_yes h]; rfl
theorem sz_blA (sk nw : Int) (cl : List (Sh.T .int)) (ho un : Int) (kn : List (Sh.T .int)) : szD (.list .int) (blA sk nw cl ho un kn) ≤ 1073741824 := by
  show (blA sk nw cl ho un kn).length + ((blA sk nw cl ho un kn).map (szD .int)).sum ≤ 1073741824
  rw [sum_zero (f := szD .int) (fun _ => rfl) _]
  by_cases h : goodL sk nw cl ho un kn
  · rw [bl_yes h]; have := blv_len sk cl kn cl.length; have := h.2.2.2.1; omega
  · rw [bl_no h]; simp
theorem LeL.lies {w : World} {sk nw ho un : Int} {a1 : Option Addr} {n k1 : Nat} {a2 : Option Addr} {m k2 : Nat} {cl kn : List (Sh.T .int)} (h : LeL w a1 n k1 a2 m k2 cl kn) : Lies w shLeases [.int .i64 sk, .int .i64 nw, .slice a1 n k1, .int .i64 ho, .int .i64 un, .slice a2 m k2] (sk, nw, cl, ho, un, kn, ()) := by
  rw [h.2.2.1, h.2.2.2]; exact mk_Leases h.1 h.2.1
/-- Up to when it is safe. -/
noncomputable def suA (sk nw : Int) (cl : List (Sh.T .int)) (ho un : Int) (kn : List (Sh.T .int)) (t : Int) : Int × Bool := if tf (goodL sk nw cl ho un kn ∧ (0 ≤ t ∧ t ≤ (cl.length : Int) - 1)) then (max 0 (atI kn t.toNat - sk), true) else (0, false)
theorem su_no {sk nw : Int} {cl : List (Sh.T .int)} {ho un : Int} {kn : List (Sh.T .int)} {t : Int} (h : ¬ (goodL sk nw cl ho un kn ∧ (0 ≤ t ∧ t ≤ (cl.length : Int) - 1))) : suA sk nw cl ho un kn t = (0, false) := by unfold suA; rw [tf_no h]; rfl
theorem su_yes {sk nw : Int} {cl : List (Sh.T .int)} {ho un : Int} {kn : List (Sh.T .int)} {k : Nat} (h : goodL sk nw cl ho un kn) (hk : k < cl.length) : suA sk nw cl ho un kn (k : Int) = (max 0 (atI kn k - sk), true) := by
  unfold suA; rw [tf_yes ⟨h, by omega, by omega⟩]; simp
def SuP (A : Int × Bool) (w : World) (r : Ending) (w' : World) : Prop := r = .returned (.tuple #[.int .i64 A.1, .bool A.2]) ∧ Below w.heap.size w w'
theorem su_ret {A : Int × Bool} {t : Int} {b : Bool} (h : A = (t, b)) : Ending.returned (.tuple #[.int .i64 t, .bool b]) = .returned (.tuple #[.int .i64 A.1, .bool A.2]) := by rw [h]


set_option maxRecDepth 100000 in
set_option maxHeartbeats 2000000 in
theorem believersOf_n (cs : List Value) (sk nw : Int) (cl : List (Sh.T .int)) (ho un : Int) (kn : List (Sh.T .int)) (w : World) (LL : List (Sh.T .int)) (z : Bool) (hA : blA sk nw cl ho un kn = LL ∧ tf (goodL sk nw cl ho un kn) = z) (hz : szD shLeases (sk, nw, cl, ho, un, kn, ()) ≤ 1073741824) (h : Lies w shLeases cs (sk, nw, cl, ho, un, kn, ())) :
    Calls Try.prog 18 #[.agg cs.toArray] w (LisP .int LL z w) := by
  have HAA := Hid.intro hA
  clear hA
  obtain ⟨a1, k1, a2, k2, rfl, h1, h2⟩ := lies_Leases h
  have HZ : Hid (szD shLeases (sk, nw, cl, ho, un, kn, ()) ≤ 1073741824) := hz
  obtain ⟨n, hnE⟩ : ∃ x, x = cl.length := ⟨_, rfl⟩
  obtain ⟨m, hmE⟩ : ∃ x, x = kn.length := ⟨_, rfl⟩
  have HL : Hid (LeL w a1 n k1 a2 m k2 cl kn) := ⟨h1, h2, hnE, hmE⟩
  rw [← hnE, ← hmE]
  clear h h1 h2 hz hnE hmE
  have HB0 : Hid (Bx (w.alloc (.cells #[.int .i64 sk, .int .i64 nw, .slice a1 n k1, .int .i64 ho, .int .i64 un, .slice a2 m k2] 28)) w.heap.size [.int .i64 sk, .int .i64 nw, .slice a1 n k1, .int .i64 ho, .int .i64 un, .slice a2 m k2] ∧ Below w.heap.size w (w.alloc (.cells #[.int .i64 sk, .int .i64 nw, .slice a1 n k1, .int .i64 ho, .int .i64 un, .slice a2 m k2] 28))) := ⟨Bx.new w [_, _, _, _, _, _] _, Go.Joins.below_alloc1 _ _⟩
  go_enter Try.func18, Try.ntmps18
  go_wp2_with fail
  refine (goodLeases_n [.int .i64 sk, .int .i64 nw, .slice a1 n k1, .int .i64 ho, .int .i64 un, .slice a2 m k2] sk nw cl ho un kn _ HZ.out (LeL.lies (HL.out.next HB0.out.2))).mono ?_
  rintro r w1 ⟨rfl, hb⟩
  have HB1 : Hid (Bx w1 w.heap.size [.int .i64 sk, .int .i64 nw, .slice a1 n k1, .int .i64 ho, .int .i64 un, .slice a2 m k2] ∧ Below w.heap.size w w1) := ⟨HB0.out.1.next hb, below_next HB0.out.2 hb⟩
  clear hb HB0
  by_cases c0 : goodL sk nw cl ho un kn
  case neg =>
    have e1 : [] = LL := (bl_no c0).symm.trans HAA.out.1
    have e2 : false = z := (tf_no c0).symm.trans HAA.out.2
    subst e1 e2
    rw [tf_no c0]
    clear c0
    go_wp2
    go_ret2
    exact ⟨none, 0, rfl, Own.none (Nat.zero_le _), HB1.out.2⟩
  have e1 : blv sk cl kn cl.length = LL := (bl_yes c0).symm.trans HAA.out.1
  have HE : Hid (blv sk cl kn cl.length = LL) := e1
  have e2 : true = z := (tf_yes c0).symm.trans HAA.out.2
  subst e2
  have HG : Hid (goodL sk nw cl ho un kn) := c0
  rw [tf_yes c0]
  have hnm : m = n := by have h1 := c0.2.2.2.2.1; rw [← HL.out.2.2.1, ← HL.out.2.2.2] at h1; exact h1
  subst hnm
  clear c0 e1
  have s0 := (HB1.out.1).cell 0 rfl; have s1 := (HB1.out.1).cell 1 rfl; have s2 := (HB1.out.1).cell 2 rfl; have s3 := (HB1.out.1).cell 3 rfl; have s4 := (HB1.out.1).cell 4 rfl; have s5 := (HB1.out.1).cell 5 rfl; have sz := (HB1.out.1).2
  go_wp2_with fail
  refine (believersIn_n sk nw a1 k1 ho un a2 m k2 cl kn _ HG.out (HL.out.next HB1.out.2)).mono ?_
  rw [HE.out]
  rintro r w2 ⟨a, cap, rfl, ho2, hb⟩
  have HF : Hid (Own w2 (.list .int) [.slice a LL.length cap] LL (Btw w.heap.size w2.heap.size) ∧ Below w.heap.size w w2) := ⟨ho2.mono (fun k hk => ⟨Nat.le_trans HB1.out.2.size hk.1, hk.2⟩), below_next HB1.out.2 hb⟩
  clear hb ho2 s0 s1 s2 s3 s4 s5 sz
  go_wp2
  go_ret2
  exact ⟨a, cap, rfl, HF.out.1, HF.out.2⟩


set_option maxRecDepth 100000 in
set_option maxHeartbeats 2000000 in
theorem specBelieversOf_n (cs : List Value) (sk nw : Int) (cl : List (Sh.T .int)) (ho un : Int) (kn : List (Sh.T .int)) (w : World) (LL : List (Sh.T .int)) (z : Bool) (hA : blA sk nw cl ho un kn = LL ∧ tf (goodL sk nw cl ho un kn) = z) (hz : szD shLeases (sk, nw, cl, ho, un, kn, ()) ≤ 1073741824) (h : Lies w shLeases cs (sk, nw, cl, ho, un, kn, ())) :
    Calls Try.prog 37 #[.agg cs.toArray] w (LisP .int LL z w) := by
  have HAA := Hid.intro hA
  clear hA
  obtain ⟨a1, k1, a2, k2, rfl, h1, h2⟩ := lies_Leases h
  have HZ : Hid (szD shLeases (sk, nw, cl, ho, un, kn, ()) ≤ 1073741824) := hz
  obtain ⟨n, hnE⟩ : ∃ x, x = cl.length := ⟨_, rfl⟩
  obtain ⟨m, hmE⟩ : ∃ x, x = kn.length := ⟨_, rfl⟩
  have HL : Hid (LeL w a1 n k1 a2 m k2 cl kn) := ⟨h1, h2, hnE, hmE⟩
  rw [← hnE, ← hmE]
  clear h h1 h2 hz hnE hmE
  have HB0 : Hid (Bx (w.alloc (.cells #[.int .i64 sk, .int .i64 nw, .slice a1 n k1, .int .i64 ho, .int .i64 un, .slice a2 m k2] 28)) w.heap.size [.int .i64 sk, .int .i64 nw, .slice a1 n k1, .int .i64 ho, .int .i64 un, .slice a2 m k2] ∧ Below w.heap.size w (w.alloc (.cells #[.int .i64 sk, .int .i64 nw, .slice a1 n k1, .int .i64 ho, .int .i64 un, .slice a2 m k2] 28))) := ⟨Bx.new w [_, _, _, _, _, _] _, Go.Joins.below_alloc1 _ _⟩
  go_enter Try.func37, Try.ntmps37
  go_wp2_with fail
  refine (specGoodLeases_n [.int .i64 sk, .int .i64 nw, .slice a1 n k1, .int .i64 ho, .int .i64 un, .slice a2 m k2] sk nw cl ho un kn _ HZ.out (LeL.lies (HL.out.next HB0.out.2))).mono ?_
  rintro r w1 ⟨rfl, hb⟩
  have HB1 : Hid (Bx w1 w.heap.size [.int .i64 sk, .int .i64 nw, .slice a1 n k1, .int .i64 ho, .int .i64 un, .slice a2 m k2] ∧ Below w.heap.size w w1) := ⟨HB0.out.1.next hb, below_next HB0.out.2 hb⟩
  clear hb HB0
  by_cases c0 : goodL sk nw cl ho un kn
  case neg =>
    have e1 : [] = LL := (bl_no c0).symm.trans HAA.out.1
    have e2 : false = z := (tf_no c0).symm.trans HAA.out.2
    subst e1 e2
    rw [tf_no c0]
    clear c0
    go_wp2
    go_ret2
    exact ⟨none, 0, rfl, Own.none (Nat.zero_le _), HB1.out.2⟩
  have e1 : blv sk cl kn cl.length = LL := (bl_yes c0).symm.trans HAA.out.1
  have HE : Hid (blv sk cl kn cl.length = LL) := e1
  have e2 : true = z := (tf_yes c0).symm.trans HAA.out.2
  subst e2
  have HG : Hid (goodL sk nw cl ho un kn) := c0
  rw [tf_yes c0]
  have hnm : m = n := by have h1 := c0.2.2.2.2.1; rw [← HL.out.2.2.1, ← HL.out.2.2.2] at h1; exact h1
  subst hnm
  clear c0 e1
  have s0 := (HB1.out.1).cell 0 rfl; have s1 := (HB1.out.1).cell 1 rfl; have s2 := (HB1.out.1).cell 2 rfl; have s3 := (HB1.out.1).cell 3 rfl; have s4 := (HB1.out.1).cell 4 rfl; have s5 := (HB1.out.1).cell 5 rfl; have sz := (HB1.out.1).2
  go_wp2_with fail
  refine (l11Believers_n sk nw a1 k1 ho un a2 m k2 cl kn _ HG.out (HL.out.next HB1.out.2)).mono ?_
  rw [HE.out]
  rintro r w2 ⟨a, cap, rfl, ho2, hb⟩
  have HF : Hid (Own w2 (.list .int) [.slice a LL.length cap] LL (Btw w.heap.size w2.heap.size) ∧ Below w.heap.size w w2) := ⟨ho2.mono (fun k hk => ⟨Nat.le_trans HB1.out.2.size hk.1, hk.2⟩), below_next HB1.out.2 hb⟩
  clear hb ho2 s0 s1 s2 s3 s4 s5 sz
  go_wp2
  go_ret2
  exact ⟨a, cap, rfl, HF.out.1, HF.out.2⟩


set_option maxRecDepth 100000 in
set_option maxHeartbeats 2000000 in
theorem safeUntilOf_n (cs : List Value) (sk nw : Int) (cl : List (Sh.T .int)) (ho un : Int) (kn : List (Sh.T .int)) (t : Int) (w : World) (hz : szD shLeases (sk, nw, cl, ho, un, kn, ()) ≤ 1073741824) (h : Lies w shLeases cs (sk, nw, cl, ho, un, kn, ())) :
    Calls Try.prog 19 #[.agg cs.toArray, .int .i64 t] w (SuP (suA sk nw cl ho un kn t) w) := by
  obtain ⟨a1, k1, a2, k2, rfl, h1, h2⟩ := lies_Leases h
  have HZ : Hid (szD shLeases (sk, nw, cl, ho, un, kn, ()) ≤ 1073741824) := hz
  have hm30 := (le_sizes hz).2
  obtain ⟨n, hnE⟩ : ∃ x, x = cl.length := ⟨_, rfl⟩
  obtain ⟨m, hmE⟩ : ∃ x, x = kn.length := ⟨_, rfl⟩
  have HL : Hid (LeL w a1 n k1 a2 m k2 cl kn) := ⟨h1, h2, hnE, hmE⟩
  rw [← hmE] at hm30
  rw [← hnE, ← hmE]
  clear h h1 h2 hz hnE hmE
  have HB0 : Hid (Bx (w.alloc (.cells #[.int .i64 sk, .int .i64 nw, .slice a1 n k1, .int .i64 ho, .int .i64 un, .slice a2 m k2] 28)) w.heap.size [.int .i64 sk, .int .i64 nw, .slice a1 n k1, .int .i64 ho, .int .i64 un, .slice a2 m k2] ∧ Below w.heap.size w (w.alloc (.cells #[.int .i64 sk, .int .i64 nw, .slice a1 n k1, .int .i64 ho, .int .i64 un, .slice a2 m k2] 28))) := ⟨Bx.new w [_, _, _, _, _, _] _, Go.Joins.below_alloc1 _ _⟩
  go_enter Try.func19, Try.ntmps19
  go_wp2_with fail
  refine (goodLeases_n [.int .i64 sk, .int .i64 nw, .slice a1 n k1, .int .i64 ho, .int .i64 un, .slice a2 m k2] sk nw cl ho un kn _ HZ.out (LeL.lies (HL.out.next HB0.out.2))).mono ?_
  rintro r w1 ⟨rfl, hb⟩
  have HB1 : Hid (Bx w1 w.heap.size [.int .i64 sk, .int .i64 nw, .slice a1 n k1, .int .i64 ho, .int .i64 un, .slice a2 m k2] ∧ Below w.heap.size w w1) := ⟨HB0.out.1.next hb, below_next HB0.out.2 hb⟩
  clear hb HB0
  by_cases c0 : goodL sk nw cl ho un kn
  case neg =>
    have HN : Hid (suA sk nw cl ho un kn t = (0, false)) := Hid.intro (su_no (fun q => c0 q.1))
    rw [tf_no c0]
    clear c0
    go_wp2
    go_ret2
    exact ⟨su_ret HN.out, HB1.out.2⟩
  have HG : Hid (goodL sk nw cl ho un kn) := c0
  rw [tf_yes c0]
  have hnm : m = n := by have h1 := c0.2.2.2.2.1; rw [← HL.out.2.2.1, ← HL.out.2.2.2] at h1; exact h1
  subst hnm
  clear c0
  have s0 := (HB1.out.1).cell 0 rfl; have s1 := (HB1.out.1).cell 1 rfl; have s2 := (HB1.out.1).cell 2 rfl; have s3 := (HB1.out.1).cell 3 rfl; have s4 := (HB1.out.1).cell 4 rfl; have s5 := (HB1.out.1).cell 5 rfl; have sz := (HB1.out.1).2
  cases c1 : inR t 0 ((m : Int) - 1)
  · have HN : Hid (suA sk nw cl ho un kn t = (0, false)) := Hid.intro (su_no (fun q => by have h1 := q.2; rw [← HL.out.2.2.1] at h1; rw [inR_iff.2 h1] at c1; cases c1))
    have HC : Hid (inR t 0 ((m : Int) - 1) = false) := c1
    clear c1
    go_wp2_with (go_at_call 46; refine (HC.out ▸ hasNode_n sk nw a1 m k1 ho un _ t _ hm30 ⟨a2, m, k2, rfl⟩).mono ?_; rintro r w2 ⟨rfl, hb⟩; have HB2 : Hid (Bx w2 w.heap.size [.int .i64 sk, .int .i64 nw, .slice a1 m k1, .int .i64 ho, .int .i64 un, .slice a2 m k2] ∧ Below w.heap.size w w2) := ⟨HB1.out.1.next hb, below_next HB1.out.2 hb⟩; clear hb; have s0 := HB2.out.1.cell 0 rfl; have s1 := HB2.out.1.cell 1 rfl; have s2 := HB2.out.1.cell 2 rfl; have s3 := HB2.out.1.cell 3 rfl; have s4 := HB2.out.1.cell 4 rfl; have s5 := HB2.out.1.cell 5 rfl; have sz := HB2.out.1.2)
    go_ret2
    exact ⟨su_ret HN.out, HB2.out.2⟩
  have hbt := inR_iff.1 c1
  obtain ⟨k, rfl⟩ : ∃ k : Nat, t = (k : Int) := ⟨t.toNat, by omega⟩
  have HC : Hid (inR (k : Int) 0 ((m : Int) - 1) = true) := c1
  have hlt : k < m := by omega
  have hlt' : (k : Int) < (m : Int) := by omega
  have hlc : k < cl.length := by have := HL.out.2.2.1; omega
  have HBD := Hid.intro (node_bd HG.out hlc)
  have HN : Hid (suA sk nw cl ho un kn (k : Int) = (max 0 (atI kn k - sk), true)) := Hid.intro (su_yes HG.out hlc)
  clear c1 hbt
  go_wp2_with (go_at_call 46; refine (HC.out ▸ hasNode_n sk nw a1 m k1 ho un _ (k : Int) _ hm30 ⟨a2, m, k2, rfl⟩).mono ?_; rintro r w2 ⟨rfl, hb⟩; have HB2 : Hid (Bx w2 w.heap.size [.int .i64 sk, .int .i64 nw, .slice a1 m k1, .int .i64 ho, .int .i64 un, .slice a2 m k2] ∧ Below w.heap.size w w2) := ⟨HB1.out.1.next hb, below_next HB1.out.2 hb⟩; clear hb; have s0 := HB2.out.1.cell 0 rfl; have s1 := HB2.out.1.cell 1 rfl; have s2 := HB2.out.1.cell 2 rfl; have s3 := HB2.out.1.cell 3 rfl; have s4 := HB2.out.1.cell 4 rfl; have s5 := HB2.out.1.cell 5 rfl; have sz := HB2.out.1.2)
  refine (nodeIn_n sk nw a1 m k1 ho un a2 m k2 k w2 (atI cl) (atI kn) hlt hlt (HL.out.next HB2.out.2).clocks (HL.out.next HB2.out.2).known).mono ?_
  rintro r w3 ⟨rfl, hb⟩
  have HB3 : Hid (Below w.heap.size w w3) := below_next HB2.out.2 hb
  clear hb s0 s1 s2 s3 s4 s5 sz
  go_wp2_with fail
  refine (safeUntil_n _ _ _ _ HG.out.1 HBD.out.2).mono ?_
  rintro r w4 ⟨rfl, hb⟩
  have HB4 : Hid (Below w.heap.size w w4) := below_next HB3.out hb
  clear hb
  go_wp2
  go_ret2
  exact ⟨su_ret HN.out, HB4.out⟩


set_option maxRecDepth 100000 in
set_option maxHeartbeats 2000000 in
theorem specSafeUntil_n (cs : List Value) (sk nw : Int) (cl : List (Sh.T .int)) (ho un : Int) (kn : List (Sh.T .int)) (t : Int) (w : World) (hz : szD shLeases (sk, nw, cl, ho, un, kn, ()) ≤ 1073741824) (h : Lies w shLeases cs (sk, nw, cl, ho, un, kn, ())) :
    Calls Try.prog 38 #[.agg cs.toArray, .int .i64 t] w (SuP (suA sk nw cl ho un kn t) w) := by
  obtain ⟨a1, k1, a2, k2, rfl, h1, h2⟩ := lies_Leases h
  have HZ : Hid (szD shLeases (sk, nw, cl, ho, un, kn, ()) ≤ 1073741824) := hz
  have hm30 := (le_sizes hz).2
  obtain ⟨n, hnE⟩ : ∃ x, x = cl.length := ⟨_, rfl⟩
  obtain ⟨m, hmE⟩ : ∃ x, x = kn.length := ⟨_, rfl⟩
  have HL : Hid (LeL w a1 n k1 a2 m k2 cl kn) := ⟨h1, h2, hnE, hmE⟩
  rw [← hmE] at hm30
  rw [← hnE, ← hmE]
  clear h h1 h2 hz hnE hmE
  have HB0 : Hid (Bx (w.alloc (.cells #[.int .i64 sk, .int .i64 nw, .slice a1 n k1, .int .i64 ho, .int .i64 un, .slice a2 m k2] 28)) w.heap.size [.int .i64 sk, .int .i64 nw, .slice a1 n k1, .int .i64 ho, .int .i64 un, .slice a2 m k2] ∧ Below w.heap.size w (w.alloc (.cells #[.int .i64 sk, .int .i64 nw, .slice a1 n k1, .int .i64 ho, .int .i64 un, .slice a2 m k2] 28))) := ⟨Bx.new w [_, _, _, _, _, _] _, Go.Joins.below_alloc1 _ _⟩
  go_enter Try.func38, Try.ntmps38
  go_wp2_with fail
  refine (specGoodLeases_n [.int .i64 sk, .int .i64 nw, .slice a1 n k1, .int .i64 ho, .int .i64 un, .slice a2 m k2] sk nw cl ho un kn _ HZ.out (LeL.lies (HL.out.next HB0.out.2))).mono ?_
  rintro r w1 ⟨rfl, hb⟩
  have HB1 : Hid (Bx w1 w.heap.size [.int .i64 sk, .int .i64 nw, .slice a1 n k1, .int .i64 ho, .int .i64 un, .slice a2 m k2] ∧ Below w.heap.size w w1) := ⟨HB0.out.1.next hb, below_next HB0.out.2 hb⟩
  clear hb HB0
  by_cases c0 : goodL sk nw cl ho un kn
  case neg =>
    have HN : Hid (suA sk nw cl ho un kn t = (0, false)) := Hid.intro (su_no (fun q => c0 q.1))
    rw [tf_no c0]
    clear c0
    go_wp2
    go_ret2
    exact ⟨su_ret HN.out, HB1.out.2⟩
  have HG : Hid (goodL sk nw cl ho un kn) := c0
  rw [tf_yes c0]
  have hnm : m = n := by have h1 := c0.2.2.2.2.1; rw [← HL.out.2.2.1, ← HL.out.2.2.2] at h1; exact h1
  subst hnm
  clear c0
  have s0 := (HB1.out.1).cell 0 rfl; have s1 := (HB1.out.1).cell 1 rfl; have s2 := (HB1.out.1).cell 2 rfl; have s3 := (HB1.out.1).cell 3 rfl; have s4 := (HB1.out.1).cell 4 rfl; have s5 := (HB1.out.1).cell 5 rfl; have sz := (HB1.out.1).2
  cases c1 : inR t 0 ((m : Int) - 1)
  · have HN : Hid (suA sk nw cl ho un kn t = (0, false)) := Hid.intro (su_no (fun q => by have h1 := q.2; rw [← HL.out.2.2.1] at h1; rw [inR_iff.2 h1] at c1; cases c1))
    have HC : Hid (inR t 0 ((m : Int) - 1) = false) := c1
    clear c1
    go_wp2_with (go_at_call 55; refine (HC.out ▸ l1In_any _ _ _ _).mono ?_; rintro e w' ⟨rfl, hw'⟩; have hw' := hw'.symm; subst hw')
    go_ret2
    exact ⟨su_ret HN.out, HB1.out.2⟩
  have hbt := inR_iff.1 c1
  obtain ⟨k, rfl⟩ : ∃ k : Nat, t = (k : Int) := ⟨t.toNat, by omega⟩
  have HC : Hid (inR (k : Int) 0 ((m : Int) - 1) = true) := c1
  have hlt : k < m := by omega
  have hlt' : (k : Int) < (m : Int) := by omega
  have hlc : k < cl.length := by have := HL.out.2.2.1; omega
  have HBD := Hid.intro (node_bd HG.out hlc)
  have HN : Hid (suA sk nw cl ho un kn (k : Int) = (max 0 (atI kn k - sk), true)) := Hid.intro (su_yes HG.out hlc)
  clear c1 hbt
  rcases (HL.out.next HB1.out.2).known with h | ⟨b2, o2, rfl, hb2, hE2⟩
  · omega
  have q2 := int_cell hE2 hlt
  have hbd := HBD.out.2
  have hsk := HG.out.1
  obtain ⟨x, hxE⟩ : ∃ y, y = atI kn k := ⟨_, rfl⟩
  rw [← hxE] at q2 hbd HN
  obtain ⟨hx1, hx2⟩ := hbd
  obtain ⟨hsk1, hsk2⟩ := hsk
  clear hE2 hxE HBD
  go_upto_region 3 with (go_at_call 55; refine (HC.out ▸ l1In_any _ _ _ _).mono ?_; rintro e w' ⟨rfl, hw'⟩; have hw' := hw'.symm; subst hw')
  go_quiet (fail)
  have HB2 : Hid (Below w.heap.size w (w1.drewN nq)) := below_dN HB1.out.2 nq
  by_cases e : x - sk < 0
  · have eb : decide (x - sk < 0) = true := decide_eq_true e
    have HM : Hid (max 0 (x - sk) = 0) := Hid.intro (by omega)
    rw [HM.out] at HN
    clear e
    go_wp2
    go_ret2
    exact ⟨su_ret HN.out, HB2.out⟩
  · have eb : decide (x - sk < 0) = false := decide_eq_false e
    have HM : Hid (max 0 (x - sk) = x - sk) := Hid.intro (by omega)
    rw [HM.out] at HN
    clear e
    go_wp2
    go_ret2
    exact ⟨su_ret HN.out, HB2.out⟩

end Go.Proofs.Ytidalpgkljafdaa
