/- Lists of Record: the law's own functions szRecord, szRecordS, toRecord, toRecordS, eqRecord, eqRecordS; how a list that came in is read. Written by tools/mkRow.py. -/
import Derived.Test.YtiepfdkfadbllaaMem
import Derived.Test.YtiepfdkfadbllaaOpenE
import Derived.Test.YtiepfdkfadbllaaRwTid
namespace Go.Proofs.Ytiepfdkfadbllaa
open Go.RowKit Go.Deep
set_option linter.unusedVariables false
set_option linter.unusedSimpArgs false

structure RecordV where
  f0 : ByteArray
  f1 : ByteArray
  f2 : Int
  f3 : Int
  f4 : Bool
  f5 : Int
  deriving Inhabited
def recordF (V : Nat → RecordV) (i j : Nat) : Value := if j = 0 then .string (V i).f0 else if j = 1 then .string (V i).f1 else if j = 2 then .int .i64 (V i).f2 else if j = 3 then .int .i64 (V i).f3 else if j = 4 then .bool (V i).f4 else .int .i64 (V i).f5
theorem record_cells {w : World} {b off n k : Nat} {V : Nat → RecordV} (h : Elems w b off n 6 (recordF V)) (hk : k < n) :
    w.cell? ⟨b, off + k * 6, none⟩ = some (.string (V k).f0) ∧ w.cell? ⟨b, off + k * 6 + 1, none⟩ = some (.string (V k).f1) ∧ w.cell? ⟨b, off + k * 6 + 2, none⟩ = some (.int .i64 (V k).f2) ∧ w.cell? ⟨b, off + k * 6 + 3, none⟩ = some (.int .i64 (V k).f3) ∧ w.cell? ⟨b, off + k * 6 + 4, none⟩ = some (.bool (V k).f4) ∧ w.cell? ⟨b, off + k * 6 + 5, none⟩ = some (.int .i64 (V k).f5) :=
  ⟨h k hk 0 (by omega), h k hk 1 (by omega), h k hk 2 (by omega), h k hk 3 (by omega), h k hk 4 (by omega), h k hk 5 (by omega)⟩
set_option maxHeartbeats 1000000 in
theorem eqRecord_same (v : RecordV) (w : World) :
    Calls Try.prog 51 #[.agg #[.string v.f0, .string v.f1, .int .i64 v.f2, .int .i64 v.f3, .bool v.f4, .int .i64 v.f5], .agg #[.string v.f0, .string v.f1, .int .i64 v.f2, .int .i64 v.f3, .bool v.f4, .int .i64 v.f5]] w fun r w' => r = .returned (.bool true) ∧ Below w.heap.size w w' := by
  obtain ⟨x0, x1, x2, x3, x4, x5⟩ := v
  go_enter Try.func51, Try.ntmps51
  go_wp2_with fail
  refine (eqTid_same _ _ _ _).mono ?_
  rintro _ w1 ⟨rfl, hb⟩
  obtain ⟨W, hW⟩ : ∃ W, W = (w.alloc (.cells #[.string x0, .string x1, .int .i64 x2, .int .i64 x3, .bool x4, .int .i64 x5] 59)).alloc (.cells #[.string x0, .string x1, .int .i64 x2, .int .i64 x3, .bool x4, .int .i64 x5] 59) := ⟨_, rfl⟩
  rw [← hW] at hb
  have HB : Hid (Below w.heap.size w w1) := by
    refine Below.trans ?_ (hb.mono (by rw [hW]; simp; omega))
    rw [hW]; exact ((Below.refl _ _).alloc (Nat.le_refl _) _).alloc (by simp) _
  have hlt : w.heap.size + 1 < w1.heap.size := Nat.lt_of_lt_of_le (by rw [hW]; simp) hb.size
  have b0 := (Bx.new w [.string x0, .string x1, .int .i64 x2, .int .i64 x3, .bool x4, .int .i64 x5] 59).alloc (.cells #[.string x0, .string x1, .int .i64 x2, .int .i64 x3, .bool x4, .int .i64 x5] 59)
  have b1 := Bx.new (w.alloc (.cells #[.string x0, .string x1, .int .i64 x2, .int .i64 x3, .bool x4, .int .i64 x5] 59)) [.string x0, .string x1, .int .i64 x2, .int .i64 x3, .bool x4, .int .i64 x5] 59
  rw [World.size_alloc] at b1
  replace b0 := Bx.next (w := W) (by rw [hW]; exact b0) hb
  replace b1 := Bx.next (w := W) (by rw [hW]; exact b1) hb
  have a0_5 := b0.cell 5 rfl
  have a1_5 := b1.cell 5 rfl
  clear b0 b1
  clear hb hW
  go_wp2
  go_ret
  exact ⟨rfl, HB.out⟩
/-- Block g holds n of them in a row that may be written. -/
def RecordR (w : World) (g n : Nat) (V : Nat → RecordV) : Prop := Elems w g 0 n 6 (recordF V) ∧ Room w g (n * 6) ∧ g < w.heap.size
theorem RecordR.sl {w : World} {g n : Nat} {V : Nat → RecordV} (h : RecordR w g n V) : Sl w (some ⟨g, 0, none⟩) n 6 (recordF V) := Or.inr ⟨g, 0, rfl, h.2.2, h.1⟩
theorem RecordR.next {w w' : World} {g n : Nat} {V : Nat → RecordV} (h : RecordR w g n V) (hb : Below w.heap.size w w') : RecordR w' g n V := ⟨h.1.below hb h.2.2, h.2.1.below hb h.2.2, Nat.lt_of_lt_of_le h.2.2 hb.size⟩
theorem info_record : (Try.prog.info? 59).map (fun i => (i.zero, i.size, i.bytes)) = some (some (.agg #[.string ⟨#[]⟩, .string ⟨#[]⟩, .int .i64 0, .int .i64 0, .bool false, .int .i64 0]), 6, 64) := by kernel_rfl

set_option maxHeartbeats 1000000 in
theorem eqRecordS_same (a a' : Option Addr) (n cap cap' : Nat) (V : Nat → RecordV) (w : World) (hn : n ≤ 1048576) (hs : Sl w a n 6 (recordF V)) (hs' : Sl w a' n 6 (recordF V)) :
    Calls Try.prog 27 #[.slice a n cap, .slice a' n cap'] w fun r w' => r = .returned (.bool true) ∧ Below w.heap.size w w' := by
  go_enter Try.func27, Try.ntmps27
  go_wp2
  go_loopw [5] (fun i wr => ∃ k : Nat, k ≤ n ∧ i = .int .i64 k ∧ Below w.heap.size w wr) (fun i _ => n - (intOf i).toNat)
  case atStart => exact ⟨0, Nat.zero_le _, rfl, Below.refl _ _⟩
  case round =>
    obtain ⟨k, hk, rfl, hBr⟩ := hrel
    by_cases hlt : k < n
    · rcases hs.below hBr (Nat.le_refl _) with h | ⟨b, off, rfl, hbs, hE⟩
      · omega
      rcases hs'.below hBr (Nat.le_refl _) with h | ⟨b', off', rfl, hbs', hE'⟩
      · omega
      obtain ⟨c0, c1, c2, c3, c4, c5⟩ := record_cells hE hlt
      obtain ⟨d0, d1, d2, d3, d4, d5⟩ := record_cells hE' hlt
      have hlt' : (k : Int) < (n : Int) := by omega
      clear hs hs' hE hE'
      go_upto_region 6 with fail
      go_cut [26] (fun s26 wx => s26 = .bool false ∧ Below w.heap.size w wx)
      case first =>
        go_region_with (go_at_call 51; refine (eqRecord_same (V k) _).mono ?_; rintro e w1 ⟨rfl, hb⟩)
        all_goals (go_wp2_with fail; go_meet; exact ⟨rfl, hBr.drew.trans (hb.mono hBr.size)⟩)
      case rest =>
        obtain ⟨rfl, hb2⟩ := hcut
        go_wp2
        go_roundw
        case rel => exact ⟨k + 1, by omega, by go_num, hb2⟩
        case measure => simp [intOf]; omega
    · have hkn : k = n := by omega
      subst hkn
      clear hs hs'
      go_wp2
      go_ret
      exact ⟨rfl, hBr⟩

end Go.Proofs.Ytiepfdkfadbllaa
