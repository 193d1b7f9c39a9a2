/- Registers: NewestOf, on both sides. -/
import Derived.Test.YtjebnhbadbhaaaaRgN
namespace Go.Proofs.Ytjebnhbadbhaaaa
open Go.RowKit
set_option linter.unusedVariables false
set_option linter.unusedSimpArgs false

theorem nwA_no {ck : Int} {cp : List (Sh.T shCopy)} {os : List (Sh.T shRegOp)} {w w' : World} (h : ¬ goodR ck cp os) (hb : Below w.heap.size w w') : NwP (nwA ck cp os) (tf (goodR ck cp os)) w (.returned (.tuple #[.agg #[.int .i64 0, .int .i64 0, .string ⟨#[]⟩], .bool false])) w' := by
  have e1 : nwA ck cp os = (0, 0, ⟨#[]⟩, ()) := if_neg (by rw [tf_no h]; simp)
  rw [e1, tf_no h]
  exact ⟨rfl, hb⟩
theorem nwA_yes {ck : Int} {cp : List (Sh.T shCopy)} {os : List (Sh.T shRegOp)} {w w' : World} {n i : Int} {t : ByteArray} (h : goodR ck cp os) (hc : nwL (cp.headD (0, 0, ⟨#[]⟩, ())) cp = (n, i, t, ())) (hb : Below w.heap.size w w') : NwP (nwA ck cp os) (tf (goodR ck cp os)) w (.returned (.tuple #[.agg #[.int .i64 n, .int .i64 i, .string t], .bool true])) w' := by
  have e1 : nwA ck cp os = (n, i, t, ()) := (if_pos (tf_yes h)).trans hc
  rw [e1, tf_yes h]
  exact ⟨rfl, hb⟩
theorem headD_eq {α : Type} {l : List α} (h : 0 < l.length) (d : α) : l.headD d = l[0] := by
  cases l with
  | nil => simp at h
  | cons c t => rfl

set_option maxRecDepth 100000 in
set_option maxHeartbeats 2000000 in
theorem newestOf_n (cs : List Value) (ck : Int) (cp : List (Sh.T shCopy)) (os : List (Sh.T shRegOp)) (w : World) (hz : szD shRegister (ck, cp, os, ()) ≤ 1073741824) (h : Lies w shRegister cs (ck, cp, os, ())) :
    Calls Try.prog 22 #[.agg cs.toArray] w (NwP (nwA ck cp os) (tf (goodR ck cp os)) w) := by
  obtain ⟨a1, k1, a2, k2, rfl, h1, h2⟩ := lies_Register h
  have HL : Hid (Lies w shRegister [.int .i64 ck, .slice a1 cp.length k1, .slice a2 os.length k2] (ck, cp, os, ()) ∧ Lies w (.list shCopy) [.slice a1 cp.length k1] cp ∧ szD shRegister (ck, cp, os, ()) ≤ 1073741824) := ⟨h, h1, hz⟩
  clear h h1 h2 hz
  obtain ⟨w0, hw0⟩ : ∃ x, x = (w.alloc (.cells #[.int .i64 ck, .slice a1 cp.length k1, .slice a2 os.length k2] 29)).alloc (.cells #[.int .i64 0, .int .i64 0, .string ⟨#[]⟩] 48) := ⟨_, rfl⟩
  have HB0 : Hid (Bx w0 w.heap.size [.int .i64 ck, .slice a1 cp.length k1, .slice a2 os.length k2] ∧ Bx w0 (w.heap.size + 1) [.int .i64 0, .int .i64 0, .string ⟨#[]⟩] ∧ Below w.heap.size w w0) := hw0 ▸ ⟨(Bx.new w [_, _, _] _).alloc _, Bx.newAt (by simp), ((Below.refl _ _).alloc (Nat.le_refl _) _).alloc (by simp) _⟩
  go_enter Try.func22, Try.ntmps22
  go_wp2_with fail
  rw [← hw0]
  clear hw0
  refine (goodRegister_n _ ck cp os _ HL.out.2.2 (HL.out.1.next HB0.out.2.2)).mono ?_
  rintro r w1 ⟨rfl, hb⟩
  have HB1 : Hid (Bx w1 w.heap.size [.int .i64 ck, .slice a1 cp.length k1, .slice a2 os.length k2] ∧ Bx w1 (w.heap.size + 1) [.int .i64 0, .int .i64 0, .string ⟨#[]⟩] ∧ Below w.heap.size w w1) := ⟨HB0.out.1.next hb, HB0.out.2.1.next hb, below_next HB0.out.2.2 hb⟩
  clear hb HB0
  have s0 := (HB1.out.1).cell 0 rfl; have s1 := (HB1.out.1).cell 1 rfl; have s2 := (HB1.out.1).cell 2 rfl; have sz := (HB1.out.1).2
  have d0 := (HB1.out.2.1).cell 0 rfl; have d1 := (HB1.out.2.1).cell 1 rfl; have d2 := (HB1.out.2.1).cell 2 rfl; have dz := (HB1.out.2.1).2
  have f0 := HB1.out.2.1.frz 0 (by simp)
  have f1 := HB1.out.2.1.frz 1 (by simp)
  have f2 := HB1.out.2.1.frz 2 (by simp)
  by_cases hg : goodR ck cp os
  case neg =>
    rw [tf_no hg]
    have HN : Hid (¬ goodR ck cp os) := hg
    clear hg
    go_wp2
    have e := nwA_no (w := w) (w' := ((w1.setCell ⟨w.heap.size + 1, 0, none⟩ (.int .i64 0)).setCell ⟨w.heap.size + 1, 1, none⟩ (.int .i64 0)).setCell ⟨w.heap.size + 1, 2, none⟩ (.string ⟨#[]⟩)) HN.out (((HB1.out.2.2.setCell (p := ⟨w.heap.size + 1, 0, none⟩) (by show _ ≤ w.heap.size + 1; omega) _).setCell (p := ⟨w.heap.size + 1, 1, none⟩) (by show _ ≤ w.heap.size + 1; omega) _).setCell (p := ⟨w.heap.size + 1, 2, none⟩) (by show _ ≤ w.heap.size + 1; omega) _)
    exact bodyPost_ret (v := .tuple #[.agg #[.int .i64 0, .int .i64 0, .string ⟨#[]⟩], .bool false]) (by simp [results, Try.results22, go_sem, d0, d1, d2, f0, f1, f2, dz]) rfl e
  rw [tf_yes hg]
  have hcl := hg.2.1
  have HG : Hid (goodR ck cp os) := hg
  clear hg
  have hl0 : 0 < cp.length := by omega
  have HSZ : Hid (∀ c ∈ cp, c.2.2.1.size ≤ 1073741824) := (reg_sizes HL.out.2.2).1
  obtain ⟨nc, hncE⟩ : ∃ n, n = cp.length := ⟨_, rfl⟩
  have HNC : Hid (nc = cp.length) := hncE
  have HLC : Hid (Lies w1 (.list shCopy) [.slice a1 cp.length k1] cp) := HL.out.2.1.next HB1.out.2.2
  obtain ⟨zg, zoff, zgo, zgs, zec, zel, zhec, zle⟩ := Lies.elem (HLC.out) hl0
  subst zgo
  rcases zX : cp[0] with ⟨z0, z1, z2, ⟨⟩⟩
  rw [zX] at zle
  have zH : Hid (cp[0] = (z0, z1, z2, ())) := zX
  clear zX
  obtain zev := lies_Copy zle
  subst zev
  have zc0 : w1.cell? ⟨zg, zoff + 0 * 3, none⟩ = some (.int .i64 z0) := zhec 0 (by simp)
  have zc1 : w1.cell? ⟨zg, zoff + 0 * 3 + 1, none⟩ = some (.int .i64 z1) := zhec 1 (by simp)
  have zc2 : w1.cell? ⟨zg, zoff + 0 * 3 + 2, none⟩ = some (.string z2) := zhec 2 (by simp)
  clear zhec zel zle
  simp only [Nat.zero_mul, Nat.add_zero] at zc0 zc1 zc2
  rw [← hncE] at hcl s1 HB1
  have hnc0 : (0 : Int) < (nc : Int) := by omega
  have HHD : Hid (cp.headD (0, 0, ⟨#[]⟩, ()) = (z0, z1, z2, ())) := Hid.intro ((headD_eq hl0 _).trans zH.out)
  clear hncE HLC
  have HBX : Hid (Bx w1 w.heap.size [.int .i64 ck, .slice (some ⟨zg, zoff, none⟩) nc k1, .slice a2 os.length k2] ∧ Bx w1 (w.heap.size + 1) [.int .i64 0, .int .i64 0, .string ⟨#[]⟩] ∧ Below w.heap.size w w1) := HB1.out
  obtain ⟨w2, hw2⟩ : ∃ x, x = w1.alloc (.cells #[.int .i64 z0, .int .i64 z1, .string z2] 48) := ⟨_, rfl⟩
  have hb2 : Below w1.heap.size w1 w2 := hw2 ▸ Go.Joins.below_alloc1 _ _
  have HB2 : Hid (Bx w2 w.heap.size [.int .i64 ck, .slice (some ⟨zg, zoff, none⟩) nc k1, .slice a2 os.length k2] ∧ Bx w2 (w.heap.size + 1) [.int .i64 0, .int .i64 0, .string ⟨#[]⟩] ∧ Bx w2 w1.heap.size [.int .i64 z0, .int .i64 z1, .string z2] ∧ Below w.heap.size w w2) := ⟨HBX.out.1.next hb2, HBX.out.2.1.next hb2, hw2 ▸ Bx.new w1 [_, _, _] _, below_next HBX.out.2.2 hb2⟩
  have hs1 : w.heap.size + 1 < w1.heap.size := HBX.out.2.1.2
  clear f0 f1 f2 d0 d1 d2 dz HB1
  go_wp2
  rw [← hw2]
  clear hw2 hb2 s0 s1 s2 sz zc0 zc1 zc2
  go_loopw [18] (fun x wr => ∃ (k : Nat) (n i : Int) (t : ByteArray), k ≤ nc ∧ x = .int .i64 k ∧ nwL (z0, z1, z2, ()) (cp.take k) = (n, i, t, ()) ∧ Bx wr w.heap.size [.int .i64 ck, .slice (some ⟨zg, zoff, none⟩) nc k1, .slice a2 os.length k2] ∧ Bx wr (w.heap.size + 1) [.int .i64 0, .int .i64 0, .string ⟨#[]⟩] ∧ Bx wr w1.heap.size [.int .i64 n, .int .i64 i, .string t] ∧ Below w.heap.size w wr) (fun x _ => nc - (intOf x).toNat)
  case atStart => exact ⟨0, z0, z1, z2, Nat.zero_le _, rfl, rfl, HB2.out⟩
  case round =>
    obtain ⟨k, n, i, t, hk, rfl, hnw, hq1, hq2, hq3, hq4⟩ := hrel
    clear HB2
    have HR : Hid (nwL (z0, z1, z2, ()) (cp.take k) = (n, i, t, ()) ∧ Bx wr w.heap.size [.int .i64 ck, .slice (some ⟨zg, zoff, none⟩) nc k1, .slice a2 os.length k2] ∧ Bx wr (w.heap.size + 1) [.int .i64 0, .int .i64 0, .string ⟨#[]⟩] ∧ Bx wr w1.heap.size [.int .i64 n, .int .i64 i, .string t] ∧ Below w.heap.size w wr) := ⟨hnw, hq1, hq2, hq3, hq4⟩
    clear hnw hq1 hq2
    by_cases hlt : k < nc
    · have hlx : k < cp.length := by have := HNC.out; omega
      have hlt' : (k : Int) < (nc : Int) := by omega
      have HLE : Hid (Lies wr (.list shCopy) [.slice (some ⟨zg, zoff, none⟩) cp.length k1] cp) := HL.out.2.1.next hq4
      obtain ⟨xg, xoff, xgo, xgs, xec, xel, xhec, xle⟩ := Lies.elem HLE.out hlx
      simp only [Option.some.injEq, Addr.mk.injEq, and_true] at xgo
      obtain ⟨rfl, rfl⟩ := xgo
      rcases xX : cp[k] with ⟨x0, x1, x2, ⟨⟩⟩
      rw [xX] at xle
      have xH : Hid (cp[k] = (x0, x1, x2, ())) := xX
      clear xX
      obtain xev := lies_Copy xle
      subst xev
      have xc0 : wr.cell? ⟨zg, zoff + k * 3, none⟩ = some (.int .i64 x0) := xhec 0 (by simp)
      have xc1 : wr.cell? ⟨zg, zoff + k * 3 + 1, none⟩ = some (.int .i64 x1) := xhec 1 (by simp)
      have xc2 : wr.cell? ⟨zg, zoff + k * 3 + 2, none⟩ = some (.string x2) := xhec 2 (by simp)
      have HST : Hid (nwL (z0, z1, z2, ()) (cp.take (k + 1)) = nwC (n, i, t, ()) (x0, x1, x2, ())) := Hid.intro ((nwL_take hlx).trans ((congrArg (fun q => nwC q cp[k]) HR.out.1).trans (congrArg (nwC (n, i, t, ())) xH.out)))
      obtain ⟨w3, hw3⟩ : ∃ x, x = wr.alloc (.cells #[.int .i64 x0, .int .i64 x1, .string x2] 48) := ⟨_, rfl⟩
      have hb3 : Below wr.heap.size wr w3 := hw3 ▸ Go.Joins.below_alloc1 _ _
      have HB3 : Hid (Bx w3 w.heap.size [.int .i64 ck, .slice (some ⟨zg, zoff, none⟩) nc k1, .slice a2 os.length k2] ∧ Bx w3 (w.heap.size + 1) [.int .i64 0, .int .i64 0, .string ⟨#[]⟩] ∧ Bx w3 w1.heap.size [.int .i64 n, .int .i64 i, .string t] ∧ Below w.heap.size w w3 ∧ Bx w3 wr.heap.size [.int .i64 x0, .int .i64 x1, .string x2]) := ⟨HR.out.2.1.next hb3, HR.out.2.2.1.next hb3, HR.out.2.2.2.1.next hb3, below_next HR.out.2.2.2.2 hb3, hw3 ▸ Bx.new wr [_, _, _] _⟩
      have hz1 : w1.heap.size < wr.heap.size := hq3.2
      have d0 := (hq3).cell 0 rfl; have d1 := (hq3).cell 1 rfl; have d2 := (hq3).cell 2 rfl; have dz := (hq3).2
      clear xhec xel xle hq3 hq4 HLE
      go_wp2_with fail
      rw [← hw3]
      clear hw3 hb3 d0 d1 d2 dz xc0 xc1 xc2
      cases e : nwB x0 x1 n i
      case true =>
        refine (newerOf_yes _ _ _ _ _ _ _ e).mono ?_
        rintro r w4 ⟨rfl, hb⟩
        have HB4 : Hid (Bx w4 w.heap.size [.int .i64 ck, .slice (some ⟨zg, zoff, none⟩) nc k1, .slice a2 os.length k2] ∧ Bx w4 (w.heap.size + 1) [.int .i64 0, .int .i64 0, .string ⟨#[]⟩] ∧ Bx w4 w1.heap.size [.int .i64 n, .int .i64 i, .string t] ∧ Below w.heap.size w w4) := ⟨HB3.out.1.next hb, HB3.out.2.1.next hb, HB3.out.2.2.1.next hb, below_next HB3.out.2.2.2.1 hb⟩
        have hne1 : w.heap.size ≠ w1.heap.size := by omega
        have hne2 : w.heap.size + 1 ≠ w1.heap.size := by omega
        have d0 := (HB4.out.2.2.1).cell 0 rfl; have d1 := (HB4.out.2.2.1).cell 1 rfl; have d2 := (HB4.out.2.2.1).cell 2 rfl; have dz := (HB4.out.2.2.1).2
        have f0 := HB4.out.2.2.1.frz 0 (by simp)
        have f1 := HB4.out.2.2.1.frz 1 (by simp)
        have f2 := HB4.out.2.2.1.frz 2 (by simp)
        clear hb HB3
        have HST2 : Hid (nwL (z0, z1, z2, ()) (cp.take (k + 1)) = (x0, x1, x2, ())) := Hid.intro (HST.out.trans (if_pos e))
        have HF : Hid (Bx (((w4.setCell ⟨w1.heap.size, 0, none⟩ (.int .i64 x0)).setCell ⟨w1.heap.size, 1, none⟩ (.int .i64 x1)).setCell ⟨w1.heap.size, 2, none⟩ (.string x2)) w.heap.size [.int .i64 ck, .slice (some ⟨zg, zoff, none⟩) nc k1, .slice a2 os.length k2] ∧ Bx (((w4.setCell ⟨w1.heap.size, 0, none⟩ (.int .i64 x0)).setCell ⟨w1.heap.size, 1, none⟩ (.int .i64 x1)).setCell ⟨w1.heap.size, 2, none⟩ (.string x2)) (w.heap.size + 1) [.int .i64 0, .int .i64 0, .string ⟨#[]⟩] ∧ Bx (((w4.setCell ⟨w1.heap.size, 0, none⟩ (.int .i64 x0)).setCell ⟨w1.heap.size, 1, none⟩ (.int .i64 x1)).setCell ⟨w1.heap.size, 2, none⟩ (.string x2)) w1.heap.size [.int .i64 x0, .int .i64 x1, .string x2] ∧ Below w.heap.size w (((w4.setCell ⟨w1.heap.size, 0, none⟩ (.int .i64 x0)).setCell ⟨w1.heap.size, 1, none⟩ (.int .i64 x1)).setCell ⟨w1.heap.size, 2, none⟩ (.string x2))) :=
          ⟨((HB4.out.1.other hne1).other hne1).other hne1, ((HB4.out.2.1.other hne2).other hne2).other hne2, ((HB4.out.2.2.1.set (k := 0) (by simp) (.int .i64 x0)).set (k := 1) (by simp) (.int .i64 x1)).set (k := 2) (by simp) (.string x2), ((HB4.out.2.2.2.setCell (p := ⟨w1.heap.size, 0, none⟩) (by show _ ≤ w1.heap.size; omega) _).setCell (p := ⟨w1.heap.size, 1, none⟩) (by show _ ≤ w1.heap.size; omega) _).setCell (p := ⟨w1.heap.size, 2, none⟩) (by show _ ≤ w1.heap.size; omega) _⟩
        clear e HB4 HST HR
        go_wp2
        go_roundw
        case rel => exact ⟨k + 1, x0, x1, x2, by omega, by go_num, HST2.out, HF.out⟩
        case measure => simp [intOf]; omega
      case false =>
        refine (newerOf_no _ _ _ _ _ _ _ e).mono ?_
        rintro r w4 ⟨rfl, hb⟩
        have HB4 : Hid (Bx w4 w.heap.size [.int .i64 ck, .slice (some ⟨zg, zoff, none⟩) nc k1, .slice a2 os.length k2] ∧ Bx w4 (w.heap.size + 1) [.int .i64 0, .int .i64 0, .string ⟨#[]⟩] ∧ Bx w4 w1.heap.size [.int .i64 n, .int .i64 i, .string t] ∧ Below w.heap.size w w4) := ⟨HB3.out.1.next hb, HB3.out.2.1.next hb, HB3.out.2.2.1.next hb, below_next HB3.out.2.2.2.1 hb⟩
        have hne1 : w.heap.size ≠ w1.heap.size := by omega
        have hne2 : w.heap.size + 1 ≠ w1.heap.size := by omega
        have d0 := (HB4.out.2.2.1).cell 0 rfl; have d1 := (HB4.out.2.2.1).cell 1 rfl; have d2 := (HB4.out.2.2.1).cell 2 rfl; have dz := (HB4.out.2.2.1).2
        have f0 := HB4.out.2.2.1.frz 0 (by simp)
        have f1 := HB4.out.2.2.1.frz 1 (by simp)
        have f2 := HB4.out.2.2.1.frz 2 (by simp)
        clear hb HB3
        have HST2 : Hid (nwL (z0, z1, z2, ()) (cp.take (k + 1)) = (n, i, t, ())) := Hid.intro (HST.out.trans (if_neg (by rw [e]; simp)))
        have HF : Hid (Bx (((w4.setCell ⟨w1.heap.size, 0, none⟩ (.int .i64 n)).setCell ⟨w1.heap.size, 1, none⟩ (.int .i64 i)).setCell ⟨w1.heap.size, 2, none⟩ (.string t)) w.heap.size [.int .i64 ck, .slice (some ⟨zg, zoff, none⟩) nc k1, .slice a2 os.length k2] ∧ Bx (((w4.setCell ⟨w1.heap.size, 0, none⟩ (.int .i64 n)).setCell ⟨w1.heap.size, 1, none⟩ (.int .i64 i)).setCell ⟨w1.heap.size, 2, none⟩ (.string t)) (w.heap.size + 1) [.int .i64 0, .int .i64 0, .string ⟨#[]⟩] ∧ Bx (((w4.setCell ⟨w1.heap.size, 0, none⟩ (.int .i64 n)).setCell ⟨w1.heap.size, 1, none⟩ (.int .i64 i)).setCell ⟨w1.heap.size, 2, none⟩ (.string t)) w1.heap.size [.int .i64 n, .int .i64 i, .string t] ∧ Below w.heap.size w (((w4.setCell ⟨w1.heap.size, 0, none⟩ (.int .i64 n)).setCell ⟨w1.heap.size, 1, none⟩ (.int .i64 i)).setCell ⟨w1.heap.size, 2, none⟩ (.string t))) :=
          ⟨((HB4.out.1.other hne1).other hne1).other hne1, ((HB4.out.2.1.other hne2).other hne2).other hne2, ((HB4.out.2.2.1.set (k := 0) (by simp) (.int .i64 n)).set (k := 1) (by simp) (.int .i64 i)).set (k := 2) (by simp) (.string t), ((HB4.out.2.2.2.setCell (p := ⟨w1.heap.size, 0, none⟩) (by show _ ≤ w1.heap.size; omega) _).setCell (p := ⟨w1.heap.size, 1, none⟩) (by show _ ≤ w1.heap.size; omega) _).setCell (p := ⟨w1.heap.size, 2, none⟩) (by show _ ≤ w1.heap.size; omega) _⟩
        clear e HB4 HST HR
        go_wp2
        go_roundw
        case rel => exact ⟨k + 1, n, i, t, by omega, by go_num, HST2.out, HF.out⟩
        case measure => simp [intOf]; omega
    · have hkn : k = nc := by omega
      have HFN : Hid (nwL (cp.headD (0, 0, ⟨#[]⟩, ())) cp = (n, i, t, ())) := Hid.intro (by
        have h1 := HR.out.1
        have h2 : cp.take k = cp := by rw [hkn, HNC.out, List.take_length]
        exact (congrArg (fun q => nwL q cp) HHD.out).trans ((congrArg (nwL (z0, z1, z2, ())) h2.symm).trans h1))
      have HTS : Hid (t.size ≤ 281474976710656) := Hid.intro (by
        have h1 := nw_size (a := (z0, z1, z2, ())) (l := cp) (m := 1073741824) (by have := HSZ.out cp[0] (List.getElem_mem hl0); rwa [zH.out] at this) HSZ.out
        have h2 : (nwL (z0, z1, z2, ()) cp) = (n, i, t, ()) := (congrArg (fun q => nwL q cp) HHD.out).symm.trans HFN.out
        have h3 : (nwL (z0, z1, z2, ()) cp).2.2.1.size = t.size := congrArg (fun q : Sh.T shCopy => q.2.2.1.size) h2
        omega)
      clear hkn hq4
      have d0 := (hq3).cell 0 rfl; have d1 := (hq3).cell 1 rfl; have d2 := (hq3).cell 2 rfl; have dz := (hq3).2
      go_wp2_with fail
      clear d0 d1 d2 dz hq3
      refine (cloneCopy_n _ _ _ _ HTS.out).mono ?_
      rintro r w5 ⟨rfl, hb⟩
      have HB5 : Hid (Bx w5 (w.heap.size + 1) [.int .i64 0, .int .i64 0, .string ⟨#[]⟩] ∧ Below w.heap.size w w5) := ⟨HR.out.2.2.1.next hb, below_next HR.out.2.2.2.2 hb⟩
      clear hb
      have d0 := (HB5.out.1).cell 0 rfl; have d1 := (HB5.out.1).cell 1 rfl; have d2 := (HB5.out.1).cell 2 rfl; have dz := (HB5.out.1).2
      have f0 := HB5.out.1.frz 0 (by simp)
      have f1 := HB5.out.1.frz 1 (by simp)
      have f2 := HB5.out.1.frz 2 (by simp)
      go_wp2
      have e := nwA_yes (w := w) (w' := ((w5.setCell ⟨w.heap.size + 1, 0, none⟩ (.int .i64 n)).setCell ⟨w.heap.size + 1, 1, none⟩ (.int .i64 i)).setCell ⟨w.heap.size + 1, 2, none⟩ (.string t)) HG.out HFN.out (((HB5.out.2.setCell (p := ⟨w.heap.size + 1, 0, none⟩) (by show _ ≤ w.heap.size + 1; omega) _).setCell (p := ⟨w.heap.size + 1, 1, none⟩) (by show _ ≤ w.heap.size + 1; omega) _).setCell (p := ⟨w.heap.size + 1, 2, none⟩) (by show _ ≤ w.heap.size + 1; omega) _)
      exact bodyPost_ret (v := .tuple #[.agg #[.int .i64 n, .int .i64 i, .string t], .bool true]) (by simp [results, Try.results22, go_sem, d0, d1, d2, f0, f1, f2, dz]) rfl e

set_option maxRecDepth 100000 in
set_option maxHeartbeats 2000000 in
theorem specNewestOf_n (cs : List Value) (ck : Int) (cp : List (Sh.T shCopy)) (os : List (Sh.T shRegOp)) (w : World) (hz : szD shRegister (ck, cp, os, ()) ≤ 1073741824) (h : Lies w shRegister cs (ck, cp, os, ())) :
    Calls Try.prog 43 #[.agg cs.toArray] w (NwP (nwA ck cp os) (tf (goodR ck cp os)) w) := by
  obtain ⟨a1, k1, a2, k2, rfl, h1, h2⟩ := lies_Register h
  have HL : Hid (Lies w shRegister [.int .i64 ck, .slice a1 cp.length k1, .slice a2 os.length k2] (ck, cp, os, ()) ∧ Lies w (.list shCopy) [.slice a1 cp.length k1] cp ∧ szD shRegister (ck, cp, os, ()) ≤ 1073741824) := ⟨h, h1, hz⟩
  clear h h1 h2 hz
  obtain ⟨w0, hw0⟩ : ∃ x, x = (w.alloc (.cells #[.int .i64 ck, .slice a1 cp.length k1, .slice a2 os.length k2] 29)).alloc (.cells #[.int .i64 0, .int .i64 0, .string ⟨#[]⟩] 48) := ⟨_, rfl⟩
  have HB0 : Hid (Bx w0 w.heap.size [.int .i64 ck, .slice a1 cp.length k1, .slice a2 os.length k2] ∧ Bx w0 (w.heap.size + 1) [.int .i64 0, .int .i64 0, .string ⟨#[]⟩] ∧ Below w.heap.size w w0) := hw0 ▸ ⟨(Bx.new w [_, _, _] _).alloc _, Bx.newAt (by simp), ((Below.refl _ _).alloc (Nat.le_refl _) _).alloc (by simp) _⟩
  go_enter Try.func43, Try.ntmps43
  go_wp2_with fail
  rw [← hw0]
  clear hw0
  refine (specGoodRegister_n _ ck cp os _ HL.out.2.2 (HL.out.1.next HB0.out.2.2)).mono ?_
  rintro r w1 ⟨rfl, hb⟩
  have HB1 : Hid (Bx w1 w.heap.size [.int .i64 ck, .slice a1 cp.length k1, .slice a2 os.length k2] ∧ Bx w1 (w.heap.size + 1) [.int .i64 0, .int .i64 0, .string ⟨#[]⟩] ∧ Below w.heap.size w w1) := ⟨HB0.out.1.next hb, HB0.out.2.1.next hb, below_next HB0.out.2.2 hb⟩
  clear hb HB0
  have s0 := (HB1.out.1).cell 0 rfl; have s1 := (HB1.out.1).cell 1 rfl; have s2 := (HB1.out.1).cell 2 rfl; have sz := (HB1.out.1).2
  have d0 := (HB1.out.2.1).cell 0 rfl; have d1 := (HB1.out.2.1).cell 1 rfl; have d2 := (HB1.out.2.1).cell 2 rfl; have dz := (HB1.out.2.1).2
  have f0 := HB1.out.2.1.frz 0 (by simp)
  have f1 := HB1.out.2.1.frz 1 (by simp)
  have f2 := HB1.out.2.1.frz 2 (by simp)
  by_cases hg : goodR ck cp os
  case neg =>
    rw [tf_no hg]
    have HN : Hid (¬ goodR ck cp os) := hg
    clear hg
    go_wp2
    have e := nwA_no (w := w) (w' := ((w1.setCell ⟨w.heap.size + 1, 0, none⟩ (.int .i64 0)).setCell ⟨w.heap.size + 1, 1, none⟩ (.int .i64 0)).setCell ⟨w.heap.size + 1, 2, none⟩ (.string ⟨#[]⟩)) HN.out (((HB1.out.2.2.setCell (p := ⟨w.heap.size + 1, 0, none⟩) (by show _ ≤ w.heap.size + 1; omega) _).setCell (p := ⟨w.heap.size + 1, 1, none⟩) (by show _ ≤ w.heap.size + 1; omega) _).setCell (p := ⟨w.heap.size + 1, 2, none⟩) (by show _ ≤ w.heap.size + 1; omega) _)
    exact bodyPost_ret (v := .tuple #[.agg #[.int .i64 0, .int .i64 0, .string ⟨#[]⟩], .bool false]) (by simp [results, Try.results43, go_sem, d0, d1, d2, f0, f1, f2, dz]) rfl e
  rw [tf_yes hg]
  have hcl := hg.2.1
  have HG : Hid (goodR ck cp os) := hg
  clear hg
  have hl0 : 0 < cp.length := by omega
  have HSZ : Hid (∀ c ∈ cp, c.2.2.1.size ≤ 1073741824) := (reg_sizes HL.out.2.2).1
  obtain ⟨nc, hncE⟩ : ∃ n, n = cp.length := ⟨_, rfl⟩
  have HNC : Hid (nc = cp.length) := hncE
  have HLC : Hid (Lies w1 (.list shCopy) [.slice a1 cp.length k1] cp) := HL.out.2.1.next HB1.out.2.2
  obtain ⟨zg, zoff, zgo, zgs, zec, zel, zhec, zle⟩ := Lies.elem (HLC.out) hl0
  subst zgo
  rcases zX : cp[0] with ⟨z0, z1, z2, ⟨⟩⟩
  rw [zX] at zle
  have zH : Hid (cp[0] = (z0, z1, z2, ())) := zX
  clear zX
  obtain zev := lies_Copy zle
  subst zev
  have zc0 : w1.cell? ⟨zg, zoff + 0 * 3, none⟩ = some (.int .i64 z0) := zhec 0 (by simp)
  have zc1 : w1.cell? ⟨zg, zoff + 0 * 3 + 1, none⟩ = some (.int .i64 z1) := zhec 1 (by simp)
  have zc2 : w1.cell? ⟨zg, zoff + 0 * 3 + 2, none⟩ = some (.string z2) := zhec 2 (by simp)
  clear zhec zel zle
  simp only [Nat.zero_mul, Nat.add_zero] at zc0 zc1 zc2
  rw [← hncE] at hcl s1 HB1
  have hnc0 : (0 : Int) < (nc : Int) := by omega
  have HHD : Hid (cp.headD (0, 0, ⟨#[]⟩, ()) = (z0, z1, z2, ())) := Hid.intro ((headD_eq hl0 _).trans zH.out)
  clear hncE HLC
  have HBX : Hid (Bx w1 w.heap.size [.int .i64 ck, .slice (some ⟨zg, zoff, none⟩) nc k1, .slice a2 os.length k2] ∧ Bx w1 (w.heap.size + 1) [.int .i64 0, .int .i64 0, .string ⟨#[]⟩] ∧ Below w.heap.size w w1) := HB1.out
  obtain ⟨w2, hw2⟩ : ∃ x, x = w1.alloc (.cells #[.int .i64 z0, .int .i64 z1, .string z2] 48) := ⟨_, rfl⟩
  have hb2 : Below w1.heap.size w1 w2 := hw2 ▸ Go.Joins.below_alloc1 _ _
  have HB2 : Hid (Bx w2 w.heap.size [.int .i64 ck, .slice (some ⟨zg, zoff, none⟩) nc k1, .slice a2 os.length k2] ∧ Bx w2 (w.heap.size + 1) [.int .i64 0, .int .i64 0, .string ⟨#[]⟩] ∧ Bx w2 w1.heap.size [.int .i64 z0, .int .i64 z1, .string z2] ∧ Below w.heap.size w w2) := ⟨HBX.out.1.next hb2, HBX.out.2.1.next hb2, hw2 ▸ Bx.new w1 [_, _, _] _, below_next HBX.out.2.2 hb2⟩
  have hs1 : w.heap.size + 1 < w1.heap.size := HBX.out.2.1.2
  clear f0 f1 f2 d0 d1 d2 dz HB1
  go_wp2
  rw [← hw2]
  clear hw2 hb2 s0 s1 s2 sz zc0 zc1 zc2
  go_loopw [18] (fun x wr => ∃ (k : Nat) (n i : Int) (t : ByteArray), k ≤ nc ∧ x = .int .i64 k ∧ nwL (z0, z1, z2, ()) (cp.take k) = (n, i, t, ()) ∧ Bx wr w.heap.size [.int .i64 ck, .slice (some ⟨zg, zoff, none⟩) nc k1, .slice a2 os.length k2] ∧ Bx wr (w.heap.size + 1) [.int .i64 0, .int .i64 0, .string ⟨#[]⟩] ∧ Bx wr w1.heap.size [.int .i64 n, .int .i64 i, .string t] ∧ Below w.heap.size w wr) (fun x _ => nc - (intOf x).toNat)
  case atStart => exact ⟨0, z0, z1, z2, Nat.zero_le _, rfl, rfl, HB2.out⟩
  case round =>
    obtain ⟨k, n, i, t, hk, rfl, hnw, hq1, hq2, hq3, hq4⟩ := hrel
    clear HB2
    have HR : Hid (nwL (z0, z1, z2, ()) (cp.take k) = (n, i, t, ()) ∧ Bx wr w.heap.size [.int .i64 ck, .slice (some ⟨zg, zoff, none⟩) nc k1, .slice a2 os.length k2] ∧ Bx wr (w.heap.size + 1) [.int .i64 0, .int .i64 0, .string ⟨#[]⟩] ∧ Bx wr w1.heap.size [.int .i64 n, .int .i64 i, .string t] ∧ Below w.heap.size w wr) := ⟨hnw, hq1, hq2, hq3, hq4⟩
    clear hnw hq1 hq2
    by_cases hlt : k < nc
    · have hlx : k < cp.length := by have := HNC.out; omega
      have hlt' : (k : Int) < (nc : Int) := by omega
      have HLE : Hid (Lies wr (.list shCopy) [.slice (some ⟨zg, zoff, none⟩) cp.length k1] cp) := HL.out.2.1.next hq4
      obtain ⟨xg, xoff, xgo, xgs, xec, xel, xhec, xle⟩ := Lies.elem HLE.out hlx
      simp only [Option.some.injEq, Addr.mk.injEq, and_true] at xgo
      obtain ⟨rfl, rfl⟩ := xgo
      rcases xX : cp[k] with ⟨x0, x1, x2, ⟨⟩⟩
      rw [xX] at xle
      have xH : Hid (cp[k] = (x0, x1, x2, ())) := xX
      clear xX
      obtain xev := lies_Copy xle
      subst xev
      have xc0 : wr.cell? ⟨zg, zoff + k * 3, none⟩ = some (.int .i64 x0) := xhec 0 (by simp)
      have xc1 : wr.cell? ⟨zg, zoff + k * 3 + 1, none⟩ = some (.int .i64 x1) := xhec 1 (by simp)
      have xc2 : wr.cell? ⟨zg, zoff + k * 3 + 2, none⟩ = some (.string x2) := xhec 2 (by simp)
      have HST : Hid (nwL (z0, z1, z2, ()) (cp.take (k + 1)) = nwC (n, i, t, ()) (x0, x1, x2, ())) := Hid.intro ((nwL_take hlx).trans ((congrArg (fun q => nwC q cp[k]) HR.out.1).trans (congrArg (nwC (n, i, t, ())) xH.out)))
      obtain ⟨w3, hw3⟩ : ∃ x, x = wr.alloc (.cells #[.int .i64 x0, .int .i64 x1, .string x2] 48) := ⟨_, rfl⟩
      have hb3 : Below wr.heap.size wr w3 := hw3 ▸ Go.Joins.below_alloc1 _ _
      have HB3 : Hid (Bx w3 w.heap.size [.int .i64 ck, .slice (some ⟨zg, zoff, none⟩) nc k1, .slice a2 os.length k2] ∧ Bx w3 (w.heap.size + 1) [.int .i64 0, .int .i64 0, .string ⟨#[]⟩] ∧ Bx w3 w1.heap.size [.int .i64 n, .int .i64 i, .string t] ∧ Below w.heap.size w w3 ∧ Bx w3 wr.heap.size [.int .i64 x0, .int .i64 x1, .string x2]) := ⟨HR.out.2.1.next hb3, HR.out.2.2.1.next hb3, HR.out.2.2.2.1.next hb3, below_next HR.out.2.2.2.2 hb3, hw3 ▸ Bx.new wr [_, _, _] _⟩
      have hz1 : w1.heap.size < wr.heap.size := hq3.2
      have d0 := (hq3).cell 0 rfl; have d1 := (hq3).cell 1 rfl; have d2 := (hq3).cell 2 rfl; have dz := (hq3).2
      clear xhec xel xle hq3 hq4 HLE
      go_wp2_with fail
      rw [← hw3]
      clear hw3 hb3 d0 d1 d2 dz xc0 xc1 xc2
      refine (l9Newer_n _ _ _ _ _ _ _).mono ?_
      rintro r w4 ⟨rfl, hb⟩
      have HB4 : Hid (Bx w4 w.heap.size [.int .i64 ck, .slice (some ⟨zg, zoff, none⟩) nc k1, .slice a2 os.length k2] ∧ Bx w4 (w.heap.size + 1) [.int .i64 0, .int .i64 0, .string ⟨#[]⟩] ∧ Bx w4 w1.heap.size [.int .i64 n, .int .i64 i, .string t] ∧ Below w.heap.size w w4) := ⟨HB3.out.1.next hb, HB3.out.2.1.next hb, HB3.out.2.2.1.next hb, below_next HB3.out.2.2.2.1 hb⟩
      have hne1 : w.heap.size ≠ w1.heap.size := by omega
      have hne2 : w.heap.size + 1 ≠ w1.heap.size := by omega
      have hbx4 := HB3.out.2.2.2.2.next hb
      have g0 := (hbx4).cell 0 rfl; have g1 := (hbx4).cell 1 rfl; have g2 := (hbx4).cell 2 rfl; have gz := (hbx4).2
      clear hbx4
      have d0 := (HB4.out.2.2.1).cell 0 rfl; have d1 := (HB4.out.2.2.1).cell 1 rfl; have d2 := (HB4.out.2.2.1).cell 2 rfl; have dz := (HB4.out.2.2.1).2
      have f0 := HB4.out.2.2.1.frz 0 (by simp)
      have f1 := HB4.out.2.2.1.frz 1 (by simp)
      have f2 := HB4.out.2.2.1.frz 2 (by simp)
      clear hb HB3
      cases e : nwB x0 x1 n i
      case true =>
        have HST2 : Hid (nwL (z0, z1, z2, ()) (cp.take (k + 1)) = (x0, x1, x2, ())) := Hid.intro (HST.out.trans (if_pos e))
        have HF : Hid (Bx (((w4.setCell ⟨w1.heap.size, 0, none⟩ (.int .i64 x0)).setCell ⟨w1.heap.size, 1, none⟩ (.int .i64 x1)).setCell ⟨w1.heap.size, 2, none⟩ (.string x2)) w.heap.size [.int .i64 ck, .slice (some ⟨zg, zoff, none⟩) nc k1, .slice a2 os.length k2] ∧ Bx (((w4.setCell ⟨w1.heap.size, 0, none⟩ (.int .i64 x0)).setCell ⟨w1.heap.size, 1, none⟩ (.int .i64 x1)).setCell ⟨w1.heap.size, 2, none⟩ (.string x2)) (w.heap.size + 1) [.int .i64 0, .int .i64 0, .string ⟨#[]⟩] ∧ Bx (((w4.setCell ⟨w1.heap.size, 0, none⟩ (.int .i64 x0)).setCell ⟨w1.heap.size, 1, none⟩ (.int .i64 x1)).setCell ⟨w1.heap.size, 2, none⟩ (.string x2)) w1.heap.size [.int .i64 x0, .int .i64 x1, .string x2] ∧ Below w.heap.size w (((w4.setCell ⟨w1.heap.size, 0, none⟩ (.int .i64 x0)).setCell ⟨w1.heap.size, 1, none⟩ (.int .i64 x1)).setCell ⟨w1.heap.size, 2, none⟩ (.string x2))) :=
          ⟨((HB4.out.1.other hne1).other hne1).other hne1, ((HB4.out.2.1.other hne2).other hne2).other hne2, ((HB4.out.2.2.1.set (k := 0) (by simp) (.int .i64 x0)).set (k := 1) (by simp) (.int .i64 x1)).set (k := 2) (by simp) (.string x2), ((HB4.out.2.2.2.setCell (p := ⟨w1.heap.size, 0, none⟩) (by show _ ≤ w1.heap.size; omega) _).setCell (p := ⟨w1.heap.size, 1, none⟩) (by show _ ≤ w1.heap.size; omega) _).setCell (p := ⟨w1.heap.size, 2, none⟩) (by show _ ≤ w1.heap.size; omega) _⟩
        clear e HB4 HST HR
        go_wp2
        go_roundw
        case rel => exact ⟨k + 1, x0, x1, x2, by omega, by go_num, HST2.out, HF.out⟩
        case measure => simp [intOf]; omega
      case false =>
        have HST2 : Hid (nwL (z0, z1, z2, ()) (cp.take (k + 1)) = (n, i, t, ())) := Hid.intro (HST.out.trans (if_neg (by rw [e]; simp)))
        clear e HST HR
        go_wp2
        go_roundw
        case rel => exact ⟨k + 1, n, i, t, by omega, by go_num, HST2.out, HB4.out⟩
        case measure => simp [intOf]; omega
    · have hkn : k = nc := by omega
      have HFN : Hid (nwL (cp.headD (0, 0, ⟨#[]⟩, ())) cp = (n, i, t, ())) := Hid.intro (by
        have h1 := HR.out.1
        have h2 : cp.take k = cp := by rw [hkn, HNC.out, List.take_length]
        exact (congrArg (fun q => nwL q cp) HHD.out).trans ((congrArg (nwL (z0, z1, z2, ())) h2.symm).trans h1))
      have HTS : Hid (t.size ≤ 281474976710656) := Hid.intro (by
        have h1 := nw_size (a := (z0, z1, z2, ())) (l := cp) (m := 1073741824) (by have := HSZ.out cp[0] (List.getElem_mem hl0); rwa [zH.out] at this) HSZ.out
        have h2 : (nwL (z0, z1, z2, ()) cp) = (n, i, t, ()) := (congrArg (fun q => nwL q cp) HHD.out).symm.trans HFN.out
        have h3 : (nwL (z0, z1, z2, ()) cp).2.2.1.size = t.size := congrArg (fun q : Sh.T shCopy => q.2.2.1.size) h2
        omega)
      clear hkn hq4
      have d0 := (hq3).cell 0 rfl; have d1 := (hq3).cell 1 rfl; have d2 := (hq3).cell 2 rfl; have dz := (hq3).2
      have HB5 : Hid (Bx wr (w.heap.size + 1) [.int .i64 0, .int .i64 0, .string ⟨#[]⟩] ∧ Below w.heap.size w wr) := ⟨HR.out.2.2.1, HR.out.2.2.2.2⟩
      have b0 := HB5.out.1.cell 0 rfl
      have b1 := HB5.out.1.cell 1 rfl
      have b2 := HB5.out.1.cell 2 rfl
      have bz := HB5.out.1.2
      have f0 := HB5.out.1.frz 0 (by simp)
      have f1 := HB5.out.1.frz 1 (by simp)
      have f2 := HB5.out.1.frz 2 (by simp)
      clear hq3
      go_wp2
      have e := nwA_yes (w := w) (w' := ((wr.setCell ⟨w.heap.size + 1, 0, none⟩ (.int .i64 n)).setCell ⟨w.heap.size + 1, 1, none⟩ (.int .i64 i)).setCell ⟨w.heap.size + 1, 2, none⟩ (.string t)) HG.out HFN.out (((HB5.out.2.setCell (p := ⟨w.heap.size + 1, 0, none⟩) (by show _ ≤ w.heap.size + 1; omega) _).setCell (p := ⟨w.heap.size + 1, 1, none⟩) (by show _ ≤ w.heap.size + 1; omega) _).setCell (p := ⟨w.heap.size + 1, 2, none⟩) (by show _ ≤ w.heap.size + 1; omega) _)
      exact bodyPost_ret (v := .tuple #[.agg #[.int .i64 n, .int .i64 i, .string t], .bool true]) (by simp [results, Try.results43, go_sem, b0, b1, b2, f0, f1, f2, bz]) rfl e
theorem nwA_size {ck : Int} {cp : List (Sh.T shCopy)} {os : List (Sh.T shRegOp)} (hz : szD shRegister (ck, cp, os, ()) ≤ 1073741824) : (nwA ck cp os).2.2.1.size ≤ 1073741824 := by
  by_cases h : goodR ck cp os
  · have e : nwA ck cp os = nwL (cp.headD (0, 0, ⟨#[]⟩, ())) cp := if_pos (tf_yes h)
    have hl : 0 < cp.length := by have := h.2.1; omega
    have hs := (reg_sizes hz).1
    have h1 := nw_size (a := cp.headD (0, 0, ⟨#[]⟩, ())) (l := cp) (m := 1073741824) (Nat.le_trans (Nat.le_of_eq (congrArg (fun q : Sh.T shCopy => q.2.2.1.size) (headD_eq hl _))) (hs _ (List.getElem_mem hl))) hs
    exact Nat.le_trans (Nat.le_of_eq (congrArg (fun q : Sh.T shCopy => q.2.2.1.size) e)) h1
  · have e : nwA ck cp os = (0, 0, ⟨#[]⟩, ()) := if_neg (by rw [tf_no h]; simp)
    exact Nat.le_trans (Nat.le_of_eq (congrArg (fun q : Sh.T shCopy => q.2.2.1.size) e)) (Nat.zero_le _)
theorem newestOf_l (cs : List Value) (ck : Int) (cp : List (Sh.T shCopy)) (os : List (Sh.T shRegOp)) (w : World) (m j : Int) (t : ByteArray) (hA : nwA ck cp os = (m, j, t, ())) (hz : szD shRegister (ck, cp, os, ()) ≤ 1073741824) (h : Lies w shRegister cs (ck, cp, os, ())) :
    Calls Try.prog 22 #[.agg cs.toArray] w fun r w' => r = .returned (.tuple #[.agg #[.int .i64 m, .int .i64 j, .string t], .bool (tf (goodR ck cp os))]) ∧ Below w.heap.size w w' := by
  have h1 := newestOf_n cs ck cp os w hz h
  rw [hA] at h1
  exact h1
theorem specNewestOf_l (cs : List Value) (ck : Int) (cp : List (Sh.T shCopy)) (os : List (Sh.T shRegOp)) (w : World) (m j : Int) (t : ByteArray) (hA : nwA ck cp os = (m, j, t, ())) (hz : szD shRegister (ck, cp, os, ()) ≤ 1073741824) (h : Lies w shRegister cs (ck, cp, os, ())) :
    Calls Try.prog 43 #[.agg cs.toArray] w fun r w' => r = .returned (.tuple #[.agg #[.int .i64 m, .int .i64 j, .string t], .bool (tf (goodR ck cp os))]) ∧ Below w.heap.size w w' := by
  have h1 := specNewestOf_n cs ck cp os w hz h
  rw [hA] at h1
  exact h1
end Go.Proofs.Ytjebnhbadbhaaaa
