/- The contracts of entryOf and GoodLog. -/
import Derived.Test.YtiepfdkfadbllaaLgI
namespace Go.Proofs.Ytiepfdkfadbllaa
open Go.RowKit
set_option linter.unusedVariables false

/-- The first of m entries that has v's key and tid, and whether there is one. -/
def Found (V : Nat → EntryV) (m : Nat) (v o : EntryV) (f : Bool) : Prop :=
  (f = true ∧ ∃ j, j < m ∧ V j = o ∧ verV (V j) v = true ∧ ∀ i, i < j → verV (V i) v = false) ∨ (f = false ∧ ∀ i, i < m → verV (V i) v = false)

set_option maxRecDepth 100000 in
set_option maxHeartbeats 4000000 in
theorem entryOf_any (a : Option Addr) (m cap : Nat) (V : Nat → EntryV) (v : EntryV) (w : World) (hm : m ≤ 1048576) (hs : Sl w a m 6 (entryF V)) :
    Calls Try.prog 44 #[.slice a m cap, .agg #[.string v.f1, .int .i64 v.f3, .int .i64 v.f4, .bool v.f5]] w fun r w' => ∃ o f, r = .returned (.tuple #[.agg #[.int .i64 o.f0, .string o.f1, .string o.f2, .int .i64 o.f3, .int .i64 o.f4, .bool o.f5], .bool f]) ∧ Found V m v o f ∧ Below w.heap.size w w' := by
  have HS : Hid (Sl w a m 6 (entryF V)) := hs
  clear hs
  have HT : Hid (Bx ((w.alloc (.cells #[.string v.f1, .int .i64 v.f3, .int .i64 v.f4, .bool v.f5] 72)).alloc (.cells #[.int .i64 0, .string ⟨#[]⟩, .string ⟨#[]⟩, .int .i64 0, .int .i64 0, .bool false] 33)) w.heap.size [.string v.f1, .int .i64 v.f3, .int .i64 v.f4, .bool v.f5] ∧ Bx ((w.alloc (.cells #[.string v.f1, .int .i64 v.f3, .int .i64 v.f4, .bool v.f5] 72)).alloc (.cells #[.int .i64 0, .string ⟨#[]⟩, .string ⟨#[]⟩, .int .i64 0, .int .i64 0, .bool false] 33)) (w.heap.size + 1) [.int .i64 0, .string ⟨#[]⟩, .string ⟨#[]⟩, .int .i64 0, .int .i64 0, .bool false]) := by
    refine ⟨(Bx.new w [.string v.f1, .int .i64 v.f3, .int .i64 v.f4, .bool v.f5] _).alloc _, ?_⟩
    have := Bx.new (w.alloc (.cells #[.string v.f1, .int .i64 v.f3, .int .i64 v.f4, .bool v.f5] 72)) [.int .i64 0, .string ⟨#[]⟩, .string ⟨#[]⟩, .int .i64 0, .int .i64 0, .bool false] 33
    rw [World.size_alloc] at this
    exact this
  go_enter Try.func44, Try.ntmps44
  go_wp2
  go_loopw [10] (fun i wr => ∃ k : Nat, k ≤ m ∧ i = .int .i64 k ∧ (∀ i, i < k → verV (V i) v = false) ∧ Bx wr w.heap.size [.string v.f1, .int .i64 v.f3, .int .i64 v.f4, .bool v.f5] ∧ Bx wr (w.heap.size + 1) [.int .i64 0, .string ⟨#[]⟩, .string ⟨#[]⟩, .int .i64 0, .int .i64 0, .bool false] ∧ Below w.heap.size w wr) (fun i _ => m - (intOf i).toNat)
  case atStart => exact ⟨0, Nat.zero_le _, rfl, fun i hi => absurd hi (by omega), HT.out.1, HT.out.2, (by repeat (first | refine Below.setCell ?_ (by (try simp) <;> omega) _ | refine Below.alloc ?_ (by (try simp) <;> omega) _ | refine Below.drew ?_ | assumption | exact Below.refl _ _ | refine Below.trans ?_ (Below.mono (by assumption) (by (try simp) <;> omega))))⟩
  case round =>
    obtain ⟨k, hk, rfl, hall, hb1, hb2, hBr⟩ := hrel
    clear HT
    by_cases hlt : k < m
    · rcases HS.out.below hBr (Nat.le_refl _) with h | ⟨b, off, rfl, hbs, hE⟩
      · omega
      have hlt' : (k : Int) < (m : Int) := by omega
      obtain ⟨c0, c1, c2, c3, c4, c5⟩ := entry_cells hE hlt
      have hd : Below wr.heap.size wr (wr.alloc (.cells #[.int .i64 (V k).f0, .string (V k).f1, .string (V k).f2, .int .i64 (V k).f3, .int .i64 (V k).f4, .bool (V k).f5] 33)).drew := (Go.Joins.below_alloc1 _ _).drew
      have H1 : Hid (Bx (wr.alloc (.cells #[.int .i64 (V k).f0, .string (V k).f1, .string (V k).f2, .int .i64 (V k).f3, .int .i64 (V k).f4, .bool (V k).f5] 33)).drew w.heap.size [.string v.f1, .int .i64 v.f3, .int .i64 v.f4, .bool v.f5] ∧ Bx (wr.alloc (.cells #[.int .i64 (V k).f0, .string (V k).f1, .string (V k).f2, .int .i64 (V k).f3, .int .i64 (V k).f4, .bool (V k).f5] 33)).drew (w.heap.size + 1) [.int .i64 0, .string ⟨#[]⟩, .string ⟨#[]⟩, .int .i64 0, .int .i64 0, .bool false] ∧ Bx (wr.alloc (.cells #[.int .i64 (V k).f0, .string (V k).f1, .string (V k).f2, .int .i64 (V k).f3, .int .i64 (V k).f4, .bool (V k).f5] 33)).drew wr.heap.size [.int .i64 (V k).f0, .string (V k).f1, .string (V k).f2, .int .i64 (V k).f3, .int .i64 (V k).f4, .bool (V k).f5] ∧ Below w.heap.size w (wr.alloc (.cells #[.int .i64 (V k).f0, .string (V k).f1, .string (V k).f2, .int .i64 (V k).f3, .int .i64 (V k).f4, .bool (V k).f5] 33)).drew) :=
        ⟨hb1.next hd, hb2.next hd, (Bx.new wr [.int .i64 (V k).f0, .string (V k).f1, .string (V k).f2, .int .i64 (V k).f3, .int .i64 (V k).f4, .bool (V k).f5] 33).next (Below.refl _ _).drew, below_nx hBr hd⟩
      have HA : Hid (∀ i, i < k → verV (V i) v = false) := hall
      clear hall hb1 hb2 hBr hd hE
      have r0 := run_eqVer (V k).f1 (V k).f3 (V k).f4 (V k).f5 v.f1 v.f3 v.f4 v.f5
      have HV : Hid (verE (V k).f1 (V k).f3 (V k).f4 (V k).f5 v.f1 v.f3 v.f4 v.f5 = verV (V k) v) := rfl
      rw [HV.out] at r0
      clear HV
      go_upto_region 4 with fail
      go_cut [17] (fun s17 wx => s17 = .bool (verV (V k) v) ∧ Bx wx w.heap.size [.string v.f1, .int .i64 v.f3, .int .i64 v.f4, .bool v.f5] ∧ Bx wx (w.heap.size + 1) [.int .i64 0, .string ⟨#[]⟩, .string ⟨#[]⟩, .int .i64 0, .int .i64 0, .bool false] ∧ Bx wx wr.heap.size [.int .i64 (V k).f0, .string (V k).f1, .string (V k).f2, .int .i64 (V k).f3, .int .i64 (V k).f4, .bool (V k).f5] ∧ Below w.heap.size w wx)
      case first =>
        refine wp_region_noPanic ?_
        refine wp_region_held_drew (S := fun W => Bx W w.heap.size [.string v.f1, .int .i64 v.f3, .int .i64 v.f4, .bool v.f5] ∧ Bx W wr.heap.size [.int .i64 (V k).f0, .string (V k).f1, .string (V k).f2, .int .i64 (V k).f3, .int .i64 (V k).f4, .bool (V k).f5]) (by kernel_rfl) ⟨H1.out.1, H1.out.2.2.1⟩ (fun hHeld => ?_)
        refine take_v (v := ?_) 0 ⟨some 14, Op.load 33 (Operand.tmp 7), _, _, _, none⟩ rfl (fun _ _ _ h => h) ?_ hHeld ?_
        rotate_left
        · (intro W hSW; (have s0 := hSW.1.cell 0 rfl; have s1 := hSW.1.cell 1 rfl; have s2 := hSW.1.cell 2 rfl; have s3 := hSW.1.cell 3 rfl; have s4 := hSW.2.cell 0 rfl; have s5 := hSW.2.cell 1 rfl; have s6 := hSW.2.cell 2 rfl; have s7 := hSW.2.cell 3 rfl; have s8 := hSW.2.cell 4 rfl; have s9 := hSW.2.cell 5 rfl; have sa := hSW.1.2; have sb := hSW.2.2); go_simp <;> (try with_reducible rfl))
        refine take_v (v := ?_) 2 ⟨some 16, Op.load 72 (Operand.tmp 3), _, _, _, none⟩ rfl (fun _ _ _ h => h) ?_ hHeld ?_
        rotate_left
        · (intro W hSW; (have s0 := hSW.1.cell 0 rfl; have s1 := hSW.1.cell 1 rfl; have s2 := hSW.1.cell 2 rfl; have s3 := hSW.1.cell 3 rfl; have s4 := hSW.2.cell 0 rfl; have s5 := hSW.2.cell 1 rfl; have s6 := hSW.2.cell 2 rfl; have s7 := hSW.2.cell 3 rfl; have s8 := hSW.2.cell 4 rfl; have s9 := hSW.2.cell 5 rfl; have sa := hSW.1.2; have sb := hSW.2.2); go_simp <;> (try with_reducible rfl))
        refine ready_call 1 ⟨some 15, Op.call { callee := Callee.value (Operand.func 45), args := #[Operand.tmp 14], argTypes := #[33] }, _, _, _, none⟩ (by kernel_rfl) rfl (by kernel_rfl) (fun KC hK => ?_)
        go_wp2_with fail
        refine (versionOf_any (V k) _).mono ?_
        rintro r w2 ⟨rfl, hb⟩
        have H2 : Hid (Bx w2 w.heap.size [.string v.f1, .int .i64 v.f3, .int .i64 v.f4, .bool v.f5] ∧ Bx w2 (w.heap.size + 1) [.int .i64 0, .string ⟨#[]⟩, .string ⟨#[]⟩, .int .i64 0, .int .i64 0, .bool false] ∧ Bx w2 wr.heap.size [.int .i64 (V k).f0, .string (V k).f1, .string (V k).f2, .int .i64 (V k).f3, .int .i64 (V k).f4, .bool (V k).f5] ∧ Below w.heap.size w w2) := ⟨H1.out.1.next hb, H1.out.2.1.next hb, H1.out.2.2.1.next hb, below_nx H1.out.2.2.2 hb⟩
        clear hb
        refine hK.out _ _ ⟨H2.out.1, H2.out.2.2.1⟩ (fun hHeld => ?_)
        clear hK KC
        refine ready_call 3 ⟨some 17, Op.binOp BinOp.eql 72 (Operand.tmp 15) (Operand.tmp 16) 72, _, _, _, none⟩ (by kernel_rfl) rfl (by kernel_rfl) (fun KC hK => ?_)
        go_wp2_with fail
        refine hK.out _ _ hHeld (fun hHeld => ?_)
        clear hK KC
        refine wpAnyH_done (by kernel_rfl) ?_ _
        refine NoPanic.normal ?_
        go_wp2_with fail
        go_meet
        exact ⟨rfl, H2.out⟩
      case rest =>
        obtain ⟨rfl, hx1, hx2, hx3, hB2⟩ := hcut
        clear H1 r0 c0 c1 c2 c3 c4 c5
        cases hv : verV (V k) v
        · have HN := (show Hid _ from (⟨hx1, hx2, hB2⟩ : _ ∧ _ ∧ _))
          clear hx1 hx2 hx3 hB2
          go_wp2
          go_roundw
          case rel => exact ⟨k + 1, by omega, by go_num, upto_succ HA.out hv, HN.out⟩
          case measure => simp [intOf]; omega
        · have HB := (show Hid _ from hB2)
          have HF : Hid (Found V m v (V k) true) := Or.inl ⟨rfl, k, hlt, rfl, hv, HA.out⟩
          have a0 := hx3.cell 0 rfl
          have a1 := hx3.cell 1 rfl
          have a2 := hx3.cell 2 rfl
          have a3 := hx3.cell 3 rfl
          have a4 := hx3.cell 4 rfl
          have a5 := hx3.cell 5 rfl
          have d0 := hx2.cell 0 rfl
          have d1 := hx2.cell 1 rfl
          have d2 := hx2.cell 2 rfl
          have d3 := hx2.cell 3 rfl
          have d4 := hx2.cell 4 rfl
          have d5 := hx2.cell 5 rfl
          have z0 := hx2.frz 0 (by simp)
          have z1 := hx2.frz 1 (by simp)
          have z2 := hx2.frz 2 (by simp)
          have z3 := hx2.frz 3 (by simp)
          have z4 := hx2.frz 4 (by simp)
          have z5 := hx2.frz 5 (by simp)
          have sz := hx2.2
          have sz' := hx3.2
          clear hx1 hx2 hx3 hB2 HA
          go_wp2
          refine bodyPost_ret (v := .tuple #[.agg #[.int .i64 (V k).f0, .string (V k).f1, .string (V k).f2, .int .i64 (V k).f3, .int .i64 (V k).f4, .bool (V k).f5], .bool true]) (by simp [results, Try.results44, go_sem, *]) rfl ⟨V k, true, rfl, HF.out, ?_⟩
          repeat (refine Below.setCell ?_ (by dsimp only; omega) _)
          exact HB.out
    · have hkm : k = m := by omega
      subst hkm
      have HF : Hid (Found V k v ⟨0, ⟨#[]⟩, ⟨#[]⟩, 0, 0, false⟩ false) := Or.inr ⟨rfl, hall⟩
      have HB : Hid (Below w.heap.size w wr) := hBr
      have d0 := hb2.cell 0 rfl
      have d1 := hb2.cell 1 rfl
      have d2 := hb2.cell 2 rfl
      have d3 := hb2.cell 3 rfl
      have d4 := hb2.cell 4 rfl
      have d5 := hb2.cell 5 rfl
      have z0 := hb2.frz 0 (by simp)
      have z1 := hb2.frz 1 (by simp)
      have z2 := hb2.frz 2 (by simp)
      have z3 := hb2.frz 3 (by simp)
      have z4 := hb2.frz 4 (by simp)
      have z5 := hb2.frz 5 (by simp)
      have sz := hb2.2
      clear hb1 hb2 hBr hall
      go_wp2
      refine bodyPost_ret (v := .tuple #[.agg #[.int .i64 0, .string ⟨#[]⟩, .string ⟨#[]⟩, .int .i64 0, .int .i64 0, .bool false], .bool false]) (by simp [results, Try.results44, go_sem, *]) rfl ⟨⟨0, ⟨#[]⟩, ⟨#[]⟩, 0, 0, false⟩, false, rfl, HF.out, ?_⟩
      repeat (refine Below.setCell ?_ (by dsimp only; omega) _)
      exact HB.out
end Go.Proofs.Ytiepfdkfadbllaa
