/- The contract of the specification's l1Read and ReadMsg. -/
import Derived.Test.YtbklhmeaoigneaaRdM
import Derived.Test.YtbklhmeaoigneaaTidS
import Derived.Test.YtbklhmeaoigneaaNextW
import Derived.Test.YtbklhmeaoigneaaReg
import Derived.Outline
namespace Go.Proofs.Ytbklhmeaoigneaa
open Go.RowKit
set_option linter.unusedVariables false

theorem wrap_succ (k : Nat) (h : k ≤ 1000000) : wrap64 ((k : Int) + 1) = (k : Int) + 1 := by unfold wrap64; omega
theorem wrap_succ' (k : Nat) (h : k ≤ 1000000) : IntKind.i64.wrap ((k : Int) + 1) = (k : Int) + 1 := by rw [IntKind.wrap_i64]; omega
theorem idx_at (s : ByteArray) (j : Nat) (h : j < s.size) (W : World) : (Instr.index 9 (.string s) (.int .i64 (j : Int))).run Try.prog W = .ok (.int .u8 (b8 s j : Int)) W := by
  rw [run_index_string (P := Try.prog) W 9 s .i64 (j : Int) Try.underlying9, dif_pos ⟨by omega, by omega⟩]
  rw [← b8_eq s j h]; rfl
theorem rd_nextO (s : ByteArray) (o k : Nat) (h : o + k < s.size) : bits BinOp.or IntKind.u64 (IntKind.u64.wrap (rdN s o k * 256)) (s[o + k].toNat : Int) = rdN s o (k + 1) := by
  show _ = rdStep (rdN s o k) (s.data.toList.getD (o + k) 0)
  rw [byte_at s (o + k) h]; rfl

set_option maxRecDepth 100000 in
set_option maxHeartbeats 1500000 in
theorem l1Read_any (s : ByteArray) (w : World) (hs : s.size ≤ 1048576) :
    Calls Try.prog 75 #[.string s] w fun r w' => r = .returned (.tuple #[.agg (rAgg s), .int .i64 (mI s (rEnd s))]) ∧ Below w.heap.size w w' := by
  by_cases h14 : s.size < 14
  · have h14' : (s.size : Int) < 14 := by omega
    have HN : Hid (rGood s = false) := no13 h14
    go_enter Try.func75, Try.ntmps75
    go_wp2
    exact bodyPost_ret (v := .tuple #[.agg #[.int .i64 0, .int .i64 0, .int .i64 0, .int .i64 0, .string ⟨#[]⟩, .string ⟨#[]⟩, .int .i64 0, .int .i64 0, .bool false], .int .i64 0]) (by simp [results, Try.results75, go_sem]) rfl ⟨ans_no HN.out, (by repeat (first | refine Below.setCell ?_ (by (try simp) <;> omega) _ | refine Below.alloc ?_ (by (try simp) <;> omega) _ | refine Below.drew ?_ | assumption | exact Below.refl _ _ | refine Below.trans ?_ (Below.mono (by assumption) (by (try simp) <;> omega))))⟩
  have h14' : ¬ (s.size : Int) < 14 := by omega
  go_enter Try.func75, Try.ntmps75
  go_wp2
  go_loop [4, 5] (fun x i => ∃ k : Nat, k ≤ 8 ∧ i = .int .i64 ((5 + k : Nat) : Int) ∧ x = .int .u64 (rdN s 5 k)) (fun _ i => 13 - (intOf i).toNat)
  case atStart => exact ⟨0, by omega, rfl, rfl⟩
  case round =>
    obtain ⟨k, hk, rfl, rfl⟩ := hrel
    by_cases hlt : k < 8
    · have hi : ((5 + k : Nat) : Int) < 13 := by omega
      have hi2 : ((5 + k : Nat) : Int) < (s.size : Int) := by omega
      have hi3 : 5 + k < s.size := by omega
      have hb := byte_bd s[5 + k]
      have hbd := rdN_bd s 5 k
      have E : Hid (bits BinOp.or IntKind.u64 (IntKind.u64.wrap (rdN s 5 k * 256)) (s[5 + k].toNat : Int) = rdN s 5 (k + 1)) := rd_nextO s 5 k hi3
      generalize hR : rdN s 5 k = R at *
      clear hR
      go_wp2
      go_round
      case rel => exact ⟨k + 1, by omega, by go_num, by rw [← E.out]⟩
      case measure => simp [intOf]; omega
    · have hk8 : k = 8 := by omega
      subst hk8
      have hx := rdN_bd s 5 8
      generalize hX : rdN s 5 8 = x at *
      have X : Hid (rdN s 5 8 = x) := hX
      clear hX
      go_wp2_with fail
      by_cases hxl : x < 35184372088832
      case neg =>
        have HN : Hid (rGood s = false) := noX (by rw [X.out]; exact hxl)
        have i13 : (13 : Int) < (s.size : Int) := by omega
        have j13 : 13 < s.size := by omega
        have y13 := byte_bd s[13]
        refine (specUnpack_no _ _ hx.1 hx.2 (by omega)).mono ?_
        rintro r w2 ⟨rfl, hb2⟩
        have q2 : Blk w2 w.heap.size (.int .i64 0) (.int .i64 0) (.int .i64 0) (.int .i64 0) (.string ⟨#[]⟩) (.string ⟨#[]⟩) (.int .i64 0) (.int .i64 0) (.bool false) := (Blk.new w _ _ _ _ _ _ _ _ _).below hb2 (by simp)
        have B2 : Hid (Below w.heap.size w w2) := (by repeat (first | refine Below.setCell ?_ (by (try simp) <;> omega) _ | refine Below.alloc ?_ (by (try simp) <;> omega) _ | refine Below.drew ?_ | assumption | exact Below.refl _ _ | refine Below.trans ?_ (Below.mono (by assumption) (by (try simp) <;> omega))))
        have hl := q2.lt
        obtain ⟨d0, d1, d2, d3, d4, d5, d6, d7, d8⟩ := q2.cells
        have fz := q2.frozen
        clear hb2 q2
        go_wp2
        have hB := B2.out
        exact bodyPost_ret (v := .tuple #[.agg #[.int .i64 0, .int .i64 0, .int .i64 0, .int .i64 0, .string ⟨#[]⟩, .string ⟨#[]⟩, .int .i64 0, .int .i64 0, .bool false], .int .i64 0]) (by simp [results, Try.results75, go_sem, hl, d0, d1, d2, d3, d4, d5, d6, d7, d8]) rfl ⟨ans_no HN.out, (below_set9 hB (Nat.le_refl _)).alloc (by simp only [World.size_setCell]; exact hB.size) _⟩
      refine (specUnpack_yes _ _ hx.1 hx.2 hxl).mono ?_
      rintro r w2 ⟨rfl, hb2⟩
      have q2 : Blk w2 w.heap.size (.int .i64 0) (.int .i64 0) (.int .i64 0) (.int .i64 0) (.string ⟨#[]⟩) (.string ⟨#[]⟩) (.int .i64 0) (.int .i64 0) (.bool false) := (Blk.new w _ _ _ _ _ _ _ _ _).below hb2 (by simp)
      have B2 : Hid (Below w.heap.size w w2) := (by repeat (first | refine Below.setCell ?_ (by (try simp) <;> omega) _ | refine Below.alloc ?_ (by (try simp) <;> omega) _ | refine Below.drew ?_ | assumption | exact Below.refl _ _ | refine Below.trans ?_ (Below.mono (by assumption) (by (try simp) <;> omega))))
      have HQ2 : Hid (Blk w2 w.heap.size (.int .i64 0) (.int .i64 0) (.int .i64 0) (.int .i64 0) (.string ⟨#[]⟩) (.string ⟨#[]⟩) (.int .i64 0) (.int .i64 0) (.bool false)) := q2
      have hl := q2.lt
      obtain ⟨d0, d1, d2, d3, d4, d5, d6, d7, d8⟩ := q2.cells
      have fz := q2.frozen
      have i13 : (13 : Int) < (s.size : Int) := by omega
      have j13 : 13 < s.size := by omega
      have E13 : Hid (s[13].toNat = b8 s 13) := b8_eq s 13 j13
      have y13 := byte_bd s[13]
      clear hb2 q2
      by_cases hk13 : rK s < s.size
      case neg =>
        have HN : Hid (rGood s = false) := noK hk13
        have hkk : (s.size : Int) ≤ 14 + (s[13].toNat : Int) := by have := E13.out; unfold rK at hk13; omega
        go_wp2
        have hB := B2.out
        exact bodyPost_ret (v := .tuple #[.agg #[.int .i64 0, .int .i64 0, .int .i64 0, .int .i64 0, .string ⟨#[]⟩, .string ⟨#[]⟩, .int .i64 0, .int .i64 0, .bool false], .int .i64 0]) (by simp [results, Try.results75, go_sem, hl, d0, d1, d2, d3, d4, d5, d6, d7, d8]) rfl ⟨ans_no HN.out, (below_set9 hB (Nat.le_refl _)).alloc (by simp only [World.size_setCell]; exact hB.size) _⟩
      have hkk : (14 : Int) + (s[13].toNat : Int) < (s.size : Int) := by have := E13.out; unfold rK at hk13; omega
      have hkp : rK s ≤ 269 := by have := b8_bd s 13; unfold rK; omega
      have jk : (rK s : Int) < (s.size : Int) := by omega
      have EK : Hid (s[rK s].toNat = b8 s (rK s)) := b8_eq s _ hk13
      have yk := byte_bd s[rK s]
      go_upto_region 12 with fail
      rw [E13.out, show (14 : Int) + ((b8 s 13 : Nat) : Int) = ((rK s : Nat) : Int) from by unfold rK; omega]
      clear hkk y13 E13
      go_upto_region 13 with fail
      rw [EK.out, show ((rK s : Nat) : Int) + 1 + ((b8 s (rK s) : Nat) : Int) = ((rEnd s : Nat) : Int) from by unfold rEnd; omega]
      clear EK yk
      by_cases hen : rEnd s ≤ s.size
      case neg =>
        have HN : Hid (rGood s = false) := noE hen
        have hen' : (s.size : Int) < (rEnd s : Int) := by omega
        go_wp2
        have hB := B2.out
        exact bodyPost_ret (v := .tuple #[.agg #[.int .i64 0, .int .i64 0, .int .i64 0, .int .i64 0, .string ⟨#[]⟩, .string ⟨#[]⟩, .int .i64 0, .int .i64 0, .bool false], .int .i64 0]) (by simp [results, Try.results75, go_sem, hl, d0, d1, d2, d3, d4, d5, d6, d7, d8]) rfl ⟨ans_no HN.out, (below_set9 hB (Nat.le_refl _)).alloc (by simp only [World.size_setCell]; exact hB.size) _⟩
      have hen' : ¬ (s.size : Int) < (rEnd s : Int) := by omega
      have hke : rK s + 1 ≤ rEnd s := by unfold rEnd; omega
      have hk14 : 14 ≤ rK s := by unfold rK; omega
      have HF : Hid ((rKey s).size ≤ maxLen ∧ (rVal s).size ≤ maxLen ∧ 14 ≤ s.size ∧ rdN s 5 8 < 35184372088832 ∧ rK s < s.size ∧ rEnd s ≤ s.size) :=
        ⟨by unfold rKey maxLen; rw [ByteArray.size_extract]; omega, by unfold rVal maxLen; rw [ByteArray.size_extract]; omega, by omega, by rw [X.out]; exact hxl, hk13, hen⟩
      go_upto_region 15 with fail
      have W3 : Hid (Tid1 (w2.alloc (.cells #[.int .i64 (x / 33554432), .int .i64 (unS x), .bool (unL x)] 24)) w2.heap.size (x / 33554432) (unS x) (unL x) ∧ Blk (w2.alloc (.cells #[.int .i64 (x / 33554432), .int .i64 (unS x), .bool (unL x)] 24)) w.heap.size (.int .i64 0) (.int .i64 0) (.int .i64 0) (.int .i64 0) (.string ⟨#[]⟩) (.string ⟨#[]⟩) (.int .i64 0) (.int .i64 0) (.bool false) ∧ Below w.heap.size w (w2.alloc (.cells #[.int .i64 (x / 33554432), .int .i64 (unS x), .bool (unL x)] 24))) := ⟨Tid1.new _ _ _ _ _, HQ2.out.alloc _, B2.out.alloc B2.out.size _⟩
      clear d0 d1 d2 d3 d4 d5 d6 d7 d8 fz hl HQ2 B2 hen'
      generalize hg2 : w2.heap.size = g2 at *
      generalize hW3 : w2.alloc (.cells #[.int .i64 (x / 33554432), .int .i64 (unS x), .bool (unL x)] 24) = w3 at *
      clear hW3 hg2
      obtain ⟨t0, t1, t2, tf0, tf1, tf2, tl⟩ := W3.out.1
      have j0 : 0 < s.size := by omega
      have j1 : 1 < s.size := by omega
      have j2 : 2 < s.size := by omega
      have j3 : 3 < s.size := by omega
      have j4 : 4 < s.size := by omega
      have hkle : rK s ≤ s.size := by omega
      have hk1m : rK s ≤ 1000000 := by omega
      have hor0 : ∀ (x y : Operand) (W : World), ((do eqGuard BinOp.or 3 x y (.int .i64 ((b8 s 3 * 256 : Nat) : Int)) (.int .i64 (b8 s 4 : Int)); binOp BinOp.or 3 (.int .i64 ((b8 s 3 * 256 : Nat) : Int)) (.int .i64 (b8 s 4 : Int))) : Sem Value).run Try.prog W = .ok (.int .i64 (rdN s 3 2)) W := fun x y W => by
        rw [rc_or _ _ (b8_bd s 3) (b8_bd s 4) x y W, or_i64 _ _ (b8_bd s 3) (b8_bd s 4), rdN_two]
      generalize hTX : rdN s 3 2 = tx at hor0
      have TX : Hid (rdN s 3 2 = tx) := hTX
      have hor : Hid (∀ (x y : Operand) (W : World), ((do eqGuard BinOp.or 3 x y (.int .i64 ((b8 s 3 * 256 : Nat) : Int)) (.int .i64 (b8 s 4 : Int)); binOp BinOp.or 3 (.int .i64 ((b8 s 3 * 256 : Nat) : Int)) (.int .i64 (b8 s 4 : Int))) : Sem Value).run Try.prog W = .ok (.int .i64 tx) W) := hor0
      clear hTX hor0
      refine wp_region_noPanic ?_
      refine wp_region_held_drew (S := fun w' => w'.cell? ⟨g2, 0, none⟩ = some (.int .i64 (x / 33554432)) ∧ w'.cell? ⟨g2, 1, none⟩ = some (.int .i64 (unS x)) ∧ w'.cell? ⟨g2, 2, none⟩ = some (.bool (unL x))) (by kernel_rfl) ⟨t0, t1, t2⟩ (fun hHeld => ?_)
      refine take_h 0 (some 56) (.string s) (by kernel_rfl) (by kernel_rfl) (by kernel_rfl) (by kernel_rfl) (fun _ _ _ h => h) (by kernel_rfl) (by kernel_rfl) (hx_move (x := .tmp 0) (by kernel_rfl) (by kernel_rfl)) hHeld ?_
      refine take_h 1 (some 57) (.int .u8 (b8 s 0 : Int)) (by kernel_rfl) (by kernel_rfl) (by kernel_rfl) (by kernel_rfl) (fun _ _ _ h => h) (by kernel_rfl) (by kernel_rfl) (hx_index (t := 9) (x := .tmp 56) (ix := .const (.int .i64 0)) (u1 := .string s) (u2 := .int .i64 ((0 : Nat) : Int)) (by kernel_rfl) (by kernel_rfl) (by kernel_rfl) (idx_at s 0 j0)) hHeld ?_
      refine take_h 2 (some 58) (.int .i64 (b8 s 0 : Int)) (by kernel_rfl) (by kernel_rfl) (by kernel_rfl) (by kernel_rfl) (fun _ _ _ h => h) (by kernel_rfl) (by kernel_rfl) (hx_conv (src := 5) (dst := 3) (x := .tmp 57) (u := .int .u8 (b8 s 0 : Int)) (by kernel_rfl) (by kernel_rfl) (rc_conv _ (b8_bd s 0))) hHeld ?_
      refine take_h 3 (some 59) (.string s) (by kernel_rfl) (by kernel_rfl) (by kernel_rfl) (by kernel_rfl) (fun _ _ _ h => h) (by kernel_rfl) (by kernel_rfl) (hx_move (x := .tmp 0) (by kernel_rfl) (by kernel_rfl)) hHeld ?_
      refine take_h 4 (some 60) (.int .u8 (b8 s 1 : Int)) (by kernel_rfl) (by kernel_rfl) (by kernel_rfl) (by kernel_rfl) (fun _ _ _ h => h) (by kernel_rfl) (by kernel_rfl) (hx_index (t := 9) (x := .tmp 59) (ix := .const (.int .i64 1)) (u1 := .string s) (u2 := .int .i64 ((1 : Nat) : Int)) (by kernel_rfl) (by kernel_rfl) (by kernel_rfl) (idx_at s 1 j1)) hHeld ?_
      refine take_h 5 (some 61) (.int .i64 (b8 s 1 : Int)) (by kernel_rfl) (by kernel_rfl) (by kernel_rfl) (by kernel_rfl) (fun _ _ _ h => h) (by kernel_rfl) (by kernel_rfl) (hx_conv (src := 5) (dst := 3) (x := .tmp 60) (u := .int .u8 (b8 s 1 : Int)) (by kernel_rfl) (by kernel_rfl) (rc_conv _ (b8_bd s 1))) hHeld ?_
      refine take_h 6 (some 62) (.string s) (by kernel_rfl) (by kernel_rfl) (by kernel_rfl) (by kernel_rfl) (fun _ _ _ h => h) (by kernel_rfl) (by kernel_rfl) (hx_move (x := .tmp 0) (by kernel_rfl) (by kernel_rfl)) hHeld ?_
      refine take_h 7 (some 63) (.int .u8 (b8 s 2 : Int)) (by kernel_rfl) (by kernel_rfl) (by kernel_rfl) (by kernel_rfl) (fun _ _ _ h => h) (by kernel_rfl) (by kernel_rfl) (hx_index (t := 9) (x := .tmp 62) (ix := .const (.int .i64 2)) (u1 := .string s) (u2 := .int .i64 ((2 : Nat) : Int)) (by kernel_rfl) (by kernel_rfl) (by kernel_rfl) (idx_at s 2 j2)) hHeld ?_
      refine take_h 8 (some 64) (.int .i64 (b8 s 2 : Int)) (by kernel_rfl) (by kernel_rfl) (by kernel_rfl) (by kernel_rfl) (fun _ _ _ h => h) (by kernel_rfl) (by kernel_rfl) (hx_conv (src := 5) (dst := 3) (x := .tmp 63) (u := .int .u8 (b8 s 2 : Int)) (by kernel_rfl) (by kernel_rfl) (rc_conv _ (b8_bd s 2))) hHeld ?_
      refine take_h 9 (some 65) (.string s) (by kernel_rfl) (by kernel_rfl) (by kernel_rfl) (by kernel_rfl) (fun _ _ _ h => h) (by kernel_rfl) (by kernel_rfl) (hx_move (x := .tmp 0) (by kernel_rfl) (by kernel_rfl)) hHeld ?_
      refine take_h 10 (some 66) (.int .u8 (b8 s 3 : Int)) (by kernel_rfl) (by kernel_rfl) (by kernel_rfl) (by kernel_rfl) (fun _ _ _ h => h) (by kernel_rfl) (by kernel_rfl) (hx_index (t := 9) (x := .tmp 65) (ix := .const (.int .i64 3)) (u1 := .string s) (u2 := .int .i64 ((3 : Nat) : Int)) (by kernel_rfl) (by kernel_rfl) (by kernel_rfl) (idx_at s 3 j3)) hHeld ?_
      refine take_h 11 (some 67) (.int .i64 (b8 s 3 : Int)) (by kernel_rfl) (by kernel_rfl) (by kernel_rfl) (by kernel_rfl) (fun _ _ _ h => h) (by kernel_rfl) (by kernel_rfl) (hx_conv (src := 5) (dst := 3) (x := .tmp 66) (u := .int .u8 (b8 s 3 : Int)) (by kernel_rfl) (by kernel_rfl) (rc_conv _ (b8_bd s 3))) hHeld ?_
      refine take_h 12 (some 68) (.int .i64 ((b8 s 3 * 256 : Nat) : Int)) (by kernel_rfl) (by kernel_rfl) (by kernel_rfl) (by kernel_rfl) (fun _ _ _ h => h) (by kernel_rfl) (by kernel_rfl) (hx_bin (op := BinOp.shl) (t := 3) (t' := 32) (x := .tmp 67) (y := .const (.int .u64 8)) (u1 := .int .i64 (b8 s 3 : Int)) (u2 := .int .u64 8) (by kernel_rfl) (by kernel_rfl) (by kernel_rfl) (rc_shl _ (b8_bd s 3) _ _)) hHeld ?_
      refine take_h 13 (some 69) (.string s) (by kernel_rfl) (by kernel_rfl) (by kernel_rfl) (by kernel_rfl) (fun _ _ _ h => h) (by kernel_rfl) (by kernel_rfl) (hx_move (x := .tmp 0) (by kernel_rfl) (by kernel_rfl)) hHeld ?_
      refine take_h 14 (some 70) (.int .u8 (b8 s 4 : Int)) (by kernel_rfl) (by kernel_rfl) (by kernel_rfl) (by kernel_rfl) (fun _ _ _ h => h) (by kernel_rfl) (by kernel_rfl) (hx_index (t := 9) (x := .tmp 69) (ix := .const (.int .i64 4)) (u1 := .string s) (u2 := .int .i64 ((4 : Nat) : Int)) (by kernel_rfl) (by kernel_rfl) (by kernel_rfl) (idx_at s 4 j4)) hHeld ?_
      refine take_h 15 (some 71) (.int .i64 (b8 s 4 : Int)) (by kernel_rfl) (by kernel_rfl) (by kernel_rfl) (by kernel_rfl) (fun _ _ _ h => h) (by kernel_rfl) (by kernel_rfl) (hx_conv (src := 5) (dst := 3) (x := .tmp 70) (u := .int .u8 (b8 s 4 : Int)) (by kernel_rfl) (by kernel_rfl) (rc_conv _ (b8_bd s 4))) hHeld ?_
      refine take_h 16 (some 72) (.int .i64 tx) (by kernel_rfl) (by kernel_rfl) (by kernel_rfl) (by kernel_rfl) (fun _ _ _ h => h) (by kernel_rfl) (by kernel_rfl) (hx_bin (op := BinOp.or) (t := 3) (t' := 3) (x := .tmp 68) (y := .tmp 71) (u1 := .int .i64 ((b8 s 3 * 256 : Nat) : Int)) (u2 := .int .i64 (b8 s 4 : Int)) (by kernel_rfl) (by kernel_rfl) (by kernel_rfl) (hor.out _ _)) hHeld ?_
      refine take_h 17 (some 73) (.string s) (by kernel_rfl) (by kernel_rfl) (by kernel_rfl) (by kernel_rfl) (fun _ _ _ h => h) (by kernel_rfl) (by kernel_rfl) (hx_move (x := .tmp 0) (by kernel_rfl) (by kernel_rfl)) hHeld ?_
      refine take_h 18 (some 74) (.int .i64 (rK s : Int)) (by kernel_rfl) (by kernel_rfl) (by kernel_rfl) (by kernel_rfl) (fun _ _ _ h => h) (by kernel_rfl) (by kernel_rfl) (hx_move (x := .tmp 8) (by kernel_rfl) (by kernel_rfl)) hHeld ?_
      refine take_h 19 (some 75) (.string (rKey s)) (by kernel_rfl) (by kernel_rfl) (by kernel_rfl) (by kernel_rfl) (fun _ _ _ h => h) (by kernel_rfl) (by kernel_rfl) (hx_slice (t := 9) (x := .tmp 73) (lo := .const (.int .i64 14)) (hi := .tmp 74) (u1 := .string s) (u2 := .int .i64 ((14 : Nat) : Int)) (u3 := .int .i64 (rK s : Int)) (by kernel_rfl) (by kernel_rfl) (by kernel_rfl) (by kernel_rfl) (rc_slice s 14 (rK s) hk14 hkle)) hHeld ?_
      refine take_h 20 (some 76) (.string s) (by kernel_rfl) (by kernel_rfl) (by kernel_rfl) (by kernel_rfl) (fun _ _ _ h => h) (by kernel_rfl) (by kernel_rfl) (hx_move (x := .tmp 0) (by kernel_rfl) (by kernel_rfl)) hHeld ?_
      refine take_h 21 (some 77) (.int .i64 (rK s : Int)) (by kernel_rfl) (by kernel_rfl) (by kernel_rfl) (by kernel_rfl) (fun _ _ _ h => h) (by kernel_rfl) (by kernel_rfl) (hx_move (x := .tmp 8) (by kernel_rfl) (by kernel_rfl)) hHeld ?_
      refine take_h 22 (some 78) (.int .i64 ((rK s + 1 : Nat) : Int)) (by kernel_rfl) (by kernel_rfl) (by kernel_rfl) (by kernel_rfl) (fun _ _ _ h => h) (by kernel_rfl) (by kernel_rfl) (hx_bin (op := BinOp.add) (t := 3) (t' := 3) (x := .tmp 77) (y := .const (.int .i64 1)) (u1 := .int .i64 (rK s : Int)) (u2 := .int .i64 1) (by kernel_rfl) (by kernel_rfl) (by kernel_rfl) (rc_add _ hk1m _ _)) hHeld ?_
      refine take_h 23 (some 79) (.int .i64 (rEnd s : Int)) (by kernel_rfl) (by kernel_rfl) (by kernel_rfl) (by kernel_rfl) (fun _ _ _ h => h) (by kernel_rfl) (by kernel_rfl) (hx_move (x := .tmp 9) (by kernel_rfl) (by kernel_rfl)) hHeld ?_
      refine take_h 24 (some 80) (.string (rVal s)) (by kernel_rfl) (by kernel_rfl) (by kernel_rfl) (by kernel_rfl) (fun _ _ _ h => h) (by kernel_rfl) (by kernel_rfl) (hx_slice (t := 9) (x := .tmp 76) (lo := .tmp 78) (hi := .tmp 79) (u1 := .string s) (u2 := .int .i64 ((rK s + 1 : Nat) : Int)) (u3 := .int .i64 (rEnd s : Int)) (by kernel_rfl) (by kernel_rfl) (by kernel_rfl) (by kernel_rfl) (rc_slice s (rK s + 1) (rEnd s) hke hen)) hHeld ?_
      refine take_h 25 (some 81) (.agg #[.int .i64 (x / 33554432), .int .i64 (unS x), .bool (unL x)]) (by kernel_rfl) (by kernel_rfl) (by kernel_rfl) (by kernel_rfl) (fun _ _ _ h => h) (by kernel_rfl) (by kernel_rfl) (hx_load (t := 24) (x := .tmp 6) (u := .pointer (some ⟨g2, 0, none⟩)) (by kernel_rfl) (by kernel_rfl) (fun W h => rc_load g2 _ _ _ W h.1 h.2.1 h.2.2)) hHeld ?_
      refine take_h 26 (some 82) (.agg #[.int .i64 (b8 s 0 : Int), .int .i64 (b8 s 1 : Int), .int .i64 (b8 s 2 : Int), .int .i64 tx, .string (rKey s), .string (rVal s), .int .i64 (x / 33554432), .int .i64 (unS x), .bool (unL x)]) (by kernel_rfl) (by kernel_rfl) (by kernel_rfl) (by kernel_rfl) (fun _ _ _ h => h) (by kernel_rfl) (by kernel_rfl) (hx_build (t := 43) (parts := #[(0, .tmp 58), (1, .tmp 61), (2, .tmp 64), (3, .tmp 72), (4, .tmp 75), (5, .tmp 80), (6, .tmp 81)]) (us := #[(0, .int .i64 (b8 s 0 : Int)), (1, .int .i64 (b8 s 1 : Int)), (2, .int .i64 (b8 s 2 : Int)), (3, .int .i64 tx), (4, .string (rKey s)), (5, .string (rVal s)), (6, .agg #[.int .i64 (x / 33554432), .int .i64 (unS x), .bool (unL x)])]) (by kernel_rfl) (by kernel_rfl) (rc_build _ _ _ _ _ _ _ _ _)) hHeld ?_
      simp only [Act.put, List.setIfInBounds_toArray, List.set_cons_zero, List.set_cons_succ]
      refine wpAnyH_ready (rs := [27]) (by kernel_rfl) (by simp) ?_
      refine AllReadyH.cons (o := _) rfl (fun K hK => ?_) AllReadyH.nil
      go_wp2_with fail
      refine hK.out _ _ ⟨((Go.Joins.below_alloc1 w3 _).cell (p := ⟨g2, 0, none⟩) tl).trans t0, ((Go.Joins.below_alloc1 w3 _).cell (p := ⟨g2, 1, none⟩) tl).trans t1, ((Go.Joins.below_alloc1 w3 _).cell (p := ⟨g2, 2, none⟩) tl).trans t2⟩ (fun hHeld2 => ?_)
      clear hK K
      refine wpAnyH_ready (rs := [28]) (by kernel_rfl) (by simp) ?_
      refine AllReadyH.cons (o := _) rfl (fun K hK => ?_) AllReadyH.nil
      go_wp2_with fail
      refine hK.out _ _ ⟨((Go.Joins.below_alloc1 w3 _).cell (p := ⟨g2, 0, none⟩) tl).trans t0, ((Go.Joins.below_alloc1 w3 _).cell (p := ⟨g2, 1, none⟩) tl).trans t1, ((Go.Joins.below_alloc1 w3 _).cell (p := ⟨g2, 2, none⟩) tl).trans t2⟩ (fun hHeld3 => ?_)
      clear hK K
      refine wpAnyH_done (by kernel_rfl) ?_ _
      refine NoPanic.normal ?_
      have hq := W3.out.2.1
      have hql := hq.lt
      have HW : Hid (Blk w3 w.heap.size (.int .i64 0) (.int .i64 0) (.int .i64 0) (.int .i64 0) (.string ⟨#[]⟩) (.string ⟨#[]⟩) (.int .i64 0) (.int .i64 0) (.bool false) ∧ Below w.heap.size w w3) := ⟨hq, W3.out.2.2⟩
      clear hor hHeld hHeld2 hHeld3 t0 t1 t2 tf0 tf1 tf2 tl W3 j0 j1 j2 j3 j4 hkle hk1m hkp jk hke hk14 hen hx hs hq
      go_wp2_with fail
      refine (specGoodMsg_any _ _ _ _ _ _ _ _ _ _ HF.out.1 HF.out.2.1).mono ?_
      rintro r w5 ⟨rfl, hb5⟩
      have q5 : Blk w5 w.heap.size (.int .i64 0) (.int .i64 0) (.int .i64 0) (.int .i64 0) (.string ⟨#[]⟩) (.string ⟨#[]⟩) (.int .i64 0) (.int .i64 0) (.bool false) := (HW.out.1.alloc _).drew.below hb5 (by simp; omega)
      have m5 : Blk w5 w3.heap.size (.int .i64 (b8 s 0 : Int)) (.int .i64 (b8 s 1 : Int)) (.int .i64 (b8 s 2 : Int)) (.int .i64 tx) (.string (rKey s)) (.string (rVal s)) (.int .i64 (x / 33554432)) (.int .i64 (unS x)) (.bool (unL x)) := (Blk.new w3 _ _ _ _ _ _ _ _ _).drew.below hb5 (by simp)
      have B5 : Hid (Below w.heap.size w w5) := (HW.out.2.alloc HW.out.2.size _).drew.trans (hb5.mono (by simp; omega))
      obtain ⟨d0, d1, d2, d3, d4, d5, d6, d7, d8⟩ := q5.cells
      have fz := q5.frozen
      obtain ⟨c0, c1, c2, c3, c4, c5, c6, c7, c8⟩ := m5.cells
      clear hb5 q5 m5 HW
      cases hgm : goodM (b8 s 0) (b8 s 1) (b8 s 2) tx (rKey s) (rVal s) (x / 33554432) (unS x)
      · have HN : Hid (rGood s = false) := noG (by unfold rE; rw [TX.out, X.out]; exact hgm)
        go_wp2
        have hB := B5.out
        exact bodyPost_ret (v := .tuple #[.agg #[.int .i64 0, .int .i64 0, .int .i64 0, .int .i64 0, .string ⟨#[]⟩, .string ⟨#[]⟩, .int .i64 0, .int .i64 0, .bool false], .int .i64 0]) (by simp [results, Try.results75, go_sem, d0, d1, d2, d3, d4, d5, d6, d7, d8]) rfl ⟨ans_no HN.out, below_set9 hB (Nat.le_refl _)⟩
      · have HY : Hid (rGood s = true) := yesG HF.out.2.2.1 HF.out.2.2.2.1 HF.out.2.2.2.2.1 HF.out.2.2.2.2.2 (by unfold rE; rw [TX.out, X.out]; exact hgm)
        clear hgm
        go_wp2
        have hB := B5.out
        exact bodyPost_ret (v := .tuple #[.agg #[.int .i64 (b8 s 0 : Int), .int .i64 (b8 s 1 : Int), .int .i64 (b8 s 2 : Int), .int .i64 tx, .string (rKey s), .string (rVal s), .int .i64 (x / 33554432), .int .i64 (unS x), .bool (unL x)], .int .i64 (rEnd s)]) (by simp [results, Try.results75, go_sem, d0, d1, d2, d3, d4, d5, d6, d7, d8]) rfl ⟨by rw [← ans_yes HY.out]; unfold rE; rw [TX.out, X.out], below_set9 hB (Nat.le_refl _)⟩
end Go.Proofs.Ytbklhmeaoigneaa
