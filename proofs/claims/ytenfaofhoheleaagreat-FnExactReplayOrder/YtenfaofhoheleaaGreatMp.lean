/- The contracts of cloneCell and of MapOf, on both sides. -/
import Derived.Test.YtenfaofhoheleaaGreatGsI
import Derived.Test.YtenfaofhoheleaaGreatPvG
import Derived.Test.YtenfaofhoheleaaGreatGsP
import Derived.Test.YtenfaofhoheleaaGreatCln
import Derived.Deep.AppendLies
import Derived.Maps.AppendAt
namespace Go.Proofs.YtenfaofhoheleaaGreat
open Go.RowKit
set_option linter.unusedVariables false

/-- The keys and values of those of the first k records whose tid is not 0, 0. -/
def mpL (R : Nat → RecordV) : Nat → List CellV
  | 0 => []
  | k + 1 => if (R k).f2 = 0 ∧ (R k).f3 = 0 then mpL R k else mpL R k ++ [⟨(R k).f0, (R k).f1⟩]
theorem mpL_len (R : Nat → RecordV) : ∀ k, (mpL R k).length ≤ k
  | 0 => Nat.le_refl _
  | k + 1 => by
    have := mpL_len R k
    simp only [mpL]
    split
    · omega
    · simp; omega
noncomputable def mapL (S : StV) : List CellV := if goodB S = true then mpL S.R S.rn else []
theorem mapL_len (S : StV) (h : S.rn ≤ 1048576) : (mapL S).length ≤ 1048576 := by
  have := mpL_len S.R S.rn
  unfold mapL; split
  · omega
  · simp
def MapPost (L : List CellV) (g : Bool) (w : World) (r : Ending) (w' : World) : Prop :=
  (∃ a cap, r = .returned (.tuple #[.slice a L.length cap, .bool g]) ∧ SRow w' w.heap.size w'.heap.size a L.length 2 (cellF (cV L))) ∧ Below w.heap.size w w'
theorem map_no {S : StV} {w w' : World} (h : goodB S = false) (hb : Below w.heap.size w w') : MapPost (mapL S) (goodB S) w (.returned (.tuple #[.slice none 0 0, .bool false])) w' := by
  have e : mapL S = [] := by simp [mapL, h]
  rw [e, h]
  exact ⟨⟨none, 0, rfl, Or.inl rfl, Nat.le_refl _⟩, hb⟩
theorem recOk_sz {ep : Int} {r : RecordV} (h : recOk ep r = true) : r.f0.size ≤ 8 ∧ r.f1.size ≤ 20 := by
  simp only [recOk, Bool.and_eq_true, keyOk, valOk, decide_eq_true_eq] at h
  have := inR_iff.1 h.1.1
  exact ⟨by omega, h.2.1.1⟩

set_option maxRecDepth 100000 in
set_option maxHeartbeats 4000000 in
theorem cloneCell_any (v : CellV) (w : World) (h0 : v.f0.size ≤ 281474976710656) (h1 : v.f1.size ≤ 281474976710656) :
    Calls Tryz.prog 29 #[.agg #[.string v.f0, .string v.f1]] w fun r w' => r = .returned (.agg #[.string v.f0, .string v.f1]) ∧ Below w.heap.size w w' := by
  have H0 : Hid (Bx ((w.alloc (.cells #[.string v.f0, .string v.f1] 55)).alloc (.cells #[.string ⟨#[]⟩, .string ⟨#[]⟩] 55)).drew w.heap.size [.string v.f0, .string v.f1] ∧ Bx ((w.alloc (.cells #[.string v.f0, .string v.f1] 55)).alloc (.cells #[.string ⟨#[]⟩, .string ⟨#[]⟩] 55)).drew (w.heap.size + 1) [.string ⟨#[]⟩, .string ⟨#[]⟩] ∧ Below w.heap.size w ((w.alloc (.cells #[.string v.f0, .string v.f1] 55)).alloc (.cells #[.string ⟨#[]⟩, .string ⟨#[]⟩] 55)).drew) := by
    have h2 := Bx.new (w.alloc (.cells #[.string v.f0, .string v.f1] 55)) [.string ⟨#[]⟩, .string ⟨#[]⟩] 55
    rw [World.size_alloc] at h2
    exact ⟨((Bx.new w [.string v.f0, .string v.f1] 55).alloc _).next (Below.refl _ _).drew, h2.next (Below.refl _ _).drew, (below_next' (Go.Joins.below_alloc1 _ _) (Go.Joins.below_alloc1 _ _)).drew⟩
  go_enter Tryz.func29, Tryz.ntmps29
  go_upto_region 1 with fail
  refine wp_region_noPanic ?_
  refine wp_region_held_drew (S := fun W => Bx W w.heap.size [.string v.f0, .string v.f1] ∧ Below w.heap.size w W) (by kernel_rfl) ⟨H0.out.1, H0.out.2.2⟩ (fun hHeld => ?_)
  refine take_v (v := ?_) 0 ⟨some 3, Op.fieldAddr 55 (Operand.tmp 1) 0, _, _, _, none⟩ rfl (fun _ _ _ h => h) ?_ hHeld ?_
  rotate_left
  · (intro W _; go_simp <;> (try with_reducible rfl))
  refine take_v (v := ?_) 1 ⟨some 4, Op.load 9 (Operand.tmp 3), _, _, _, none⟩ rfl (fun _ _ _ h => h) ?_ hHeld ?_
  rotate_left
  · (intro W hSW; (have s0 := hSW.1.cell 0 rfl; have s1 := hSW.1.cell 1 rfl; have s6 := hSW.1.2); go_simp <;> (try with_reducible rfl))
  refine take_v (v := ?_) 3 ⟨some 6, Op.fieldAddr 55 (Operand.tmp 1) 1, _, _, _, none⟩ rfl (fun _ _ _ h => h) ?_ hHeld ?_
  rotate_left
  · (intro W _; go_simp <;> (try with_reducible rfl))
  refine take_v (v := ?_) 4 ⟨some 7, Op.load 9 (Operand.tmp 6), _, _, _, none⟩ rfl (fun _ _ _ h => h) ?_ hHeld ?_
  rotate_left
  · (intro W hSW; (have s0 := hSW.1.cell 0 rfl; have s1 := hSW.1.cell 1 rfl; have s6 := hSW.1.2); go_simp <;> (try with_reducible rfl))
  refine ready_call 2 ⟨some 5, Op.call { callee := Callee.value (Operand.func 42), args := #[Operand.tmp 4], argTypes := #[9] }, _, _, _, none⟩ (by kernel_rfl) rfl (by kernel_rfl) (fun KC hK => ?_)
  go_wp2_with fail
  refine (clone_any _ _ h0).mono ?_
  rintro r w1 ⟨rfl, hb⟩
  have H1 : Hid (Bx w1 w.heap.size [.string v.f0, .string v.f1] ∧ Bx w1 (w.heap.size + 1) [.string ⟨#[]⟩, .string ⟨#[]⟩] ∧ Below w.heap.size w w1) := ⟨H0.out.1.next hb, H0.out.2.1.next hb, below_next' H0.out.2.2 hb⟩
  clear hb
  refine hK.out _ _ ⟨H1.out.1, H1.out.2.2⟩ (fun hHeld => ?_)
  clear hK KC
  refine ready_call 5 ⟨some 8, Op.call { callee := Callee.value (Operand.func 42), args := #[Operand.tmp 7], argTypes := #[9] }, _, _, _, none⟩ (by kernel_rfl) rfl (by kernel_rfl) (fun KC hK => ?_)
  go_wp2_with fail
  refine (clone_any _ _ h1).mono ?_
  rintro r w2 ⟨rfl, hb⟩
  have H2 : Hid (Bx w2 w.heap.size [.string v.f0, .string v.f1] ∧ Bx w2 (w.heap.size + 1) [.string ⟨#[]⟩, .string ⟨#[]⟩] ∧ Below w.heap.size w w2) := ⟨H1.out.1.next hb, H1.out.2.1.next hb, below_next' H1.out.2.2 hb⟩
  clear hb
  refine hK.out _ _ ⟨H2.out.1, H2.out.2.2⟩ (fun hHeld => ?_)
  clear hK KC
  refine take_v (v := ?_) 6 ⟨some 9, Op.build 55 #[(0, Operand.tmp 5), (1, Operand.tmp 8)], _, _, _, none⟩ rfl (fun _ _ _ h => h) ?_ hHeld ?_
  rotate_left
  · (intro W _; go_simp <;> (try with_reducible rfl))
  refine ready_call 7 ⟨none, Op.store 55 (Operand.tmp 2) (Operand.tmp 9), _, _, _, none⟩ (by kernel_rfl) rfl (by kernel_rfl) (fun KC hK => ?_)
  have d0 := H2.out.2.1.cell 0 rfl
  have d1 := H2.out.2.1.cell 1 rfl
  have z0 := H2.out.2.1.frz 0 (by simp)
  have z1 := H2.out.2.1.frz 1 (by simp)
  have sz := H2.out.2.1.2
  go_wp2_with fail
  have HO := (show Hid (Bx _ _ [.string v.f0, .string v.f1]) from ((H2.out.2.1.set (k := 0) (by simp) (.string v.f0)).set (k := 1) (by simp) (.string v.f1)))
  have hne : w.heap.size ≠ w.heap.size + 1 := by omega
  have hle : w.heap.size ≤ w.heap.size + 1 := by omega
  clear d0 d1 z0 z1 sz
  refine hK.out _ _ ⟨((H2.out.1.other hne).other hne), ((H2.out.2.2.setCell (by exact hle) _).setCell (by exact hle) _)⟩ (fun hHeld => ?_)
  clear hK KC
  refine wpAnyH_done (by kernel_rfl) ?_ _
  refine NoPanic.normal ?_
  have q0 := HO.out.cell 0 rfl
  have q1 := HO.out.cell 1 rfl
  have HE := (show Hid (_ ∧ _) from hHeld)
  clear hHeld HO H2 H1 H0
  go_wp2
  exact bodyPost_ret (v := .agg #[.string v.f0, .string v.f1]) (by simp [results, Tryz.results29, go_sem, *]) rfl ⟨rfl, HE.out.2⟩
set_option maxHeartbeats 1000000 in
theorem l5Plain_any (e s : Int) (b : Bool) (w : World) :
    Calls Tryz.prog 24 #[.agg #[.int .i64 e, .int .i64 s, .bool b]] w fun r w' => r = .returned (.agg #[.int .i64 e, .int .i64 s, .bool false]) ∧ Below w.heap.size w w' := by
  go_enter Tryz.func24, Tryz.ntmps24
  go_wp2
  exact bodyPost_ret (v := .agg #[.int .i64 e, .int .i64 s, .bool false]) (by simp [results, Tryz.results24, go_sem]) rfl ⟨rfl, (by repeat (first | refine Below.setCell ?_ (by (try simp) <;> omega) _ | refine Below.alloc ?_ (by (try simp) <;> omega) _ | refine Below.drew ?_ | assumption | exact Below.refl _ _ | refine Below.trans ?_ (Below.mono (by assumption) (by (try simp) <;> omega))))⟩

set_option maxRecDepth 100000 in
set_option maxHeartbeats 4000000 in
theorem mapOf_at (ra : Option Addr) (rc : Nat) (ta : Option Addr) (tc : Nat) (oa : Option Addr) (oc : Nat) (U : Nat → RuA) (S : StV) (w : World) (hl : StLen S) (hok : StOk S) (hs : StAt w ⟨ra, rc, ta, tc, oa, oc, U⟩ S) :
    Calls Tryz.prog 9 #[.agg #[.int .i64 S.ep, .slice ra S.rn rc, .slice ta S.tn tc, .slice oa S.on oc]] w fun r w' => MapPost (mapL S) (goodB S) w r w' := by
  have HS : Hid (StAt w ⟨ra, rc, ta, tc, oa, oc, U⟩ S ∧ StLen S ∧ StOk S) := ⟨hs, hl, hok⟩
  have hrn := hok.1
  clear hs hl hok
  obtain ⟨i0, hi0, hz0, hz1, hz2⟩ := info_parts info_cell
  have HX0 : Hid (Bx (w.alloc (.cells #[.int .i64 S.ep, .slice ra S.rn rc, .slice ta S.tn tc, .slice oa S.on oc] 34)) w.heap.size [.int .i64 S.ep, .slice ra S.rn rc, .slice ta S.tn tc, .slice oa S.on oc] ∧ Below w.heap.size w (w.alloc (.cells #[.int .i64 S.ep, .slice ra S.rn rc, .slice ta S.tn tc, .slice oa S.on oc] 34))) := ⟨Bx.new w [.int .i64 S.ep, .slice ra S.rn rc, .slice ta S.tn tc, .slice oa S.on oc] _, Go.Joins.below_alloc1 _ _⟩
  go_enter Tryz.func9, Tryz.ntmps9
  go_wp2_with fail
  refine (goodStore_any ⟨ra, rc, ta, tc, oa, oc, U⟩ S _ HS.out.2.1 HS.out.2.2 (HS.out.1.next HX0.out.2)).mono ?_
  rintro r w1 ⟨rfl, hb⟩
  have H1 : Hid (Bx w1 w.heap.size [.int .i64 S.ep, .slice ra S.rn rc, .slice ta S.tn tc, .slice oa S.on oc] ∧ Below w.heap.size w w1) := ⟨HX0.out.1.next hb, below_next' HX0.out.2 hb⟩
  clear hb HX0
  cases eg : goodB S
  · have HN : Hid (MapPost (mapL S) (goodB S) w (.returned (.tuple #[.slice none 0 0, .bool false])) w1) := map_no eg H1.out.2
    go_wp2
    exact bodyPost_ret (v := .tuple #[.slice none 0 0, .bool false]) (by simp [results, Tryz.results9, go_sem]) rfl HN.out
  have HG : Hid (goodP S) := clB_iff.1 eg
  have HL : Hid (mapL S = mpL S.R S.rn) := by show _ = _; simp [mapL, eg]
  have b1 := H1.out.1.cell 1 rfl
  have bz := H1.out.1.2
  go_wp2
  clear b1 bz
  go_loopw [13, 4] (fun x v wr => ∃ k : Nat, k ≤ S.rn ∧ x = .int .i64 k ∧ wr.ownsRow w.heap.size 55 2 v (mpL S.R k).length (cellsC (mpL S.R k)) ∧ Below w.heap.size w wr) (fun x _ _ => S.rn - (intOf x).toNat)
  case atStart => exact ⟨0, Nat.zero_le _, rfl, World.ownsRow_nil _ _ _ _, H1.out.2⟩
  case round =>
    obtain ⟨k, hk, rfl, hown, hBr⟩ := hrel
    clear H1
    by_cases hlt : k < S.rn
    · have hsl : Sl wr ra S.rn 6 (recordF S.R) := HS.out.1.1.below hBr (Nat.le_refl _)
      rcases hsl with h | ⟨b, off, rfl, hbs, hE⟩
      · omega
      have hlt' : (k : Int) < (S.rn : Int) := by omega
      obtain ⟨c0, c1, c2, c3, c4, c5⟩ := record_cells hE hlt
      have hsz := recOk_sz (HG.out.2.1 k hlt).1
      have HH : Hid ((wr.alloc (.cells #[.string (S.R k).f0, .string (S.R k).f1, .int .i64 (S.R k).f2, .int .i64 (S.R k).f3, .bool (S.R k).f4, .int .i64 (S.R k).f5] 52)).ownsRow w.heap.size 55 2 u4 (mpL S.R k).length (cellsC (mpL S.R k)) ∧ Below w.heap.size w (wr.alloc (.cells #[.string (S.R k).f0, .string (S.R k).f1, .int .i64 (S.R k).f2, .int .i64 (S.R k).f3, .bool (S.R k).f4, .int .i64 (S.R k).f5] 52))) := ⟨own_keep hown (Go.Joins.below_alloc1 _ _), hBr.alloc hBr.size _⟩
      have HX : Hid (Bx (wr.alloc (.cells #[.string (S.R k).f0, .string (S.R k).f1, .int .i64 (S.R k).f2, .int .i64 (S.R k).f3, .bool (S.R k).f4, .int .i64 (S.R k).f5] 52)) wr.heap.size [.string (S.R k).f0, .string (S.R k).f1, .int .i64 (S.R k).f2, .int .i64 (S.R k).f3, .bool (S.R k).f4, .int .i64 (S.R k).f5]) := Bx.new wr [.string (S.R k).f0, .string (S.R k).f1, .int .i64 (S.R k).f2, .int .i64 (S.R k).f3, .bool (S.R k).f4, .int .i64 (S.R k).f5] _
      clear hown hBr hE
      cases e2 : ((S.R k).f2 != 0)
      · cases e3 : ((S.R k).f3 != 0)
        · have HT : Hid ((S.R k).f2 = 0 ∧ (S.R k).f3 = 0) := ⟨by simpa using e2, by simpa using e3⟩
          have HE : Hid (mpL S.R (k + 1) = mpL S.R k) := by show _ = _; rw [mpL, if_pos HT.out]
          go_wp2
          go_roundw
          case rel => exact ⟨k + 1, by omega, by go_num, by rw [HE.out]; exact HH.out.1, HH.out.2⟩
          case measure => simp [intOf]; omega
        · have HE : Hid (mpL S.R (k + 1) = mpL S.R k ++ [⟨(S.R k).f0, (S.R k).f1⟩]) := by show _ = _; rw [mpL, if_neg (fun h => by rw [h.2] at e3; cases e3)]
          obtain ⟨L, hL⟩ : ∃ L, L = mpL S.R k := ⟨_, rfl⟩
          have hLk : L.length ≤ 1048576 := by have := mpL_len S.R k; rw [hL]; omega
          rw [← hL] at HE HH
          clear hL
          go_wp2_with fail
          refine (cloneCell_any ⟨(S.R k).f0, (S.R k).f1⟩ _ (by simp only; omega) (by simp only; omega)).mono ?_
          rintro r w3 ⟨rfl, hb3⟩
          simp only
          have HW : Hid (w3.ownsRow w.heap.size 55 2 u4 L.length (cellsC L) ∧ Below w.heap.size w w3) := ⟨own_keep HH.out.1 hb3, below_next' HH.out.2 hb3⟩
          have HNW : Hid (∀ j u, ([.string (S.R k).f0, .string (S.R k).f1] : List Value)[j]? = some u → (w3.alloc (.cells #[.string (S.R k).f0, .string (S.R k).f1] 55)).cell? ((⟨w3.heap.size, 0, none⟩ : Addr).add j) = some u) := cells_new w3 [.string (S.R k).f0, .string (S.R k).f1] 55
          have hz3 : w.heap.size ≤ w3.heap.size := HW.out.2.size

          clear HH hb3 HX
          go_wp2_with (first
            | (at_builtin; refine wpList_append_own_at _ rfl (.tmp 27) (.tmp 34) 28 rfl w.heap.size 55 i0 (.agg #[.string ⟨#[]⟩, .string ⟨#[]⟩]) 2 32 Tryz.underlying28 hi0 hz0 hz1 hz2 rfl (by decide) u4 L.length (cellsC L) rfl (World.ownsRow.alloc HW.out.1 _) ⟨w3.heap.size, 0, none⟩ 1 1 [.string (S.R k).f0, .string (S.R k).f1] rfl rfl HNW.out (by intro u hu; simp at hu; rcases hu with rfl | rfl <;> rfl) (by unfold maxLen; omega) (by omega) (by simp <;> omega) ?_; intro v4 w4 hown hgrow hnil hwhere)
            | go_in)
          have HFF : Hid (w4.ownsRow w.heap.size 55 2 v4 (mpL S.R (k + 1)).length (cellsC (mpL S.R (k + 1))) ∧ Below w.heap.size w w4) := by
            refine ⟨?_, (HW.out.2.alloc HW.out.2.size _).grown hgrow (by simp; omega) (fun j hj => (HW.out.1.lt j hj).1)⟩
            rw [HE.out, cellsC_snoc, List.length_append]; exact hown
          clear hown hgrow hnil hwhere
          go_wp2
          go_roundw
          case rel => exact ⟨k + 1, by omega, by go_num, HFF.out.1, HFF.out.2⟩
          case measure => simp [intOf]; omega
      · have HE : Hid (mpL S.R (k + 1) = mpL S.R k ++ [⟨(S.R k).f0, (S.R k).f1⟩]) := by show _ = _; rw [mpL, if_neg (fun h => by rw [h.1] at e2; cases e2)]
        obtain ⟨L, hL⟩ : ∃ L, L = mpL S.R k := ⟨_, rfl⟩
        have hLk : L.length ≤ 1048576 := by have := mpL_len S.R k; rw [hL]; omega
        rw [← hL] at HE HH
        clear hL
        go_wp2_with fail
        refine (cloneCell_any ⟨(S.R k).f0, (S.R k).f1⟩ _ (by simp only; omega) (by simp only; omega)).mono ?_
        rintro r w3 ⟨rfl, hb3⟩
        simp only
        have HW : Hid (w3.ownsRow w.heap.size 55 2 u4 L.length (cellsC L) ∧ Below w.heap.size w w3) := ⟨own_keep HH.out.1 hb3, below_next' HH.out.2 hb3⟩
        have HNW : Hid (∀ j u, ([.string (S.R k).f0, .string (S.R k).f1] : List Value)[j]? = some u → (w3.alloc (.cells #[.string (S.R k).f0, .string (S.R k).f1] 55)).cell? ((⟨w3.heap.size, 0, none⟩ : Addr).add j) = some u) := cells_new w3 [.string (S.R k).f0, .string (S.R k).f1] 55
        have hz3 : w.heap.size ≤ w3.heap.size := HW.out.2.size

        clear HH hb3 HX
        go_wp2_with (first
          | (at_builtin; refine wpList_append_own_at _ rfl (.tmp 27) (.tmp 34) 28 rfl w.heap.size 55 i0 (.agg #[.string ⟨#[]⟩, .string ⟨#[]⟩]) 2 32 Tryz.underlying28 hi0 hz0 hz1 hz2 rfl (by decide) u4 L.length (cellsC L) rfl (World.ownsRow.alloc HW.out.1 _) ⟨w3.heap.size, 0, none⟩ 1 1 [.string (S.R k).f0, .string (S.R k).f1] rfl rfl HNW.out (by intro u hu; simp at hu; rcases hu with rfl | rfl <;> rfl) (by unfold maxLen; omega) (by omega) (by simp <;> omega) ?_; intro v4 w4 hown hgrow hnil hwhere)
          | go_in)
        have HFF : Hid (w4.ownsRow w.heap.size 55 2 v4 (mpL S.R (k + 1)).length (cellsC (mpL S.R (k + 1))) ∧ Below w.heap.size w w4) := by
          refine ⟨?_, (HW.out.2.alloc HW.out.2.size _).grown hgrow (by simp; omega) (fun j hj => (HW.out.1.lt j hj).1)⟩
          rw [HE.out, cellsC_snoc, List.length_append]; exact hown
        clear hown hgrow hnil hwhere
        go_wp2
        go_roundw
        case rel => exact ⟨k + 1, by omega, by go_num, HFF.out.1, HFF.out.2⟩
        case measure => simp [intOf]; omega
    · have hkn : k = S.rn := by omega
      have hlt' : ¬ (k : Int) < (S.rn : Int) := by omega
      obtain ⟨a4, cap4, rfl, _, hx⟩ := SRow.of hown
      have HF : Hid (MapPost (mapL S) true w (.returned (.tuple #[.slice a4 (mpL S.R k).length cap4, .bool true])) wr) := by rw [HL.out, ← hkn]; exact ⟨⟨a4, cap4, rfl, hx⟩, hBr⟩
      clear hown hBr hx hkn
      go_wp2
      exact bodyPost_ret (v := .tuple #[.slice a4 (mpL S.R k).length cap4, .bool true]) (by simp [results, Tryz.results9, go_sem]) rfl HF.out
theorem mapOf_any (A : StA) (S : StV) (w : World) (hl : StLen S) (hok : StOk S) (hs : StAt w A S) :
    Calls Tryz.prog 9 #[.agg #[.int .i64 S.ep, .slice A.ra S.rn A.rc, .slice A.ta S.tn A.tc, .slice A.oa S.on A.oc]] w fun r w' => MapPost (mapL S) (goodB S) w r w' :=
  mapOf_at A.ra A.rc A.ta A.tc A.oa A.oc A.U S w hl hok hs

set_option maxRecDepth 100000 in
set_option maxHeartbeats 4000000 in
theorem specMapOf_at (ra : Option Addr) (rc : Nat) (ta : Option Addr) (tc : Nat) (oa : Option Addr) (oc : Nat) (U : Nat → RuA) (S : StV) (w : World) (hl : StLen S) (hok : StOk S) (hs : StAt w ⟨ra, rc, ta, tc, oa, oc, U⟩ S) :
    Calls Tryz.prog 7 #[.agg #[.int .i64 S.ep, .slice ra S.rn rc, .slice ta S.tn tc, .slice oa S.on oc]] w fun r w' => MapPost (mapL S) (goodB S) w r w' := by
  have HS : Hid (StAt w ⟨ra, rc, ta, tc, oa, oc, U⟩ S ∧ StLen S ∧ StOk S) := ⟨hs, hl, hok⟩
  have hrn := hok.1
  clear hs hl hok
  obtain ⟨i0, hi0, hz0, hz1, hz2⟩ := info_parts info_cell
  have HX0 : Hid (Bx (w.alloc (.cells #[.int .i64 S.ep, .slice ra S.rn rc, .slice ta S.tn tc, .slice oa S.on oc] 34)) w.heap.size [.int .i64 S.ep, .slice ra S.rn rc, .slice ta S.tn tc, .slice oa S.on oc] ∧ Below w.heap.size w (w.alloc (.cells #[.int .i64 S.ep, .slice ra S.rn rc, .slice ta S.tn tc, .slice oa S.on oc] 34))) := ⟨Bx.new w [.int .i64 S.ep, .slice ra S.rn rc, .slice ta S.tn tc, .slice oa S.on oc] _, Go.Joins.below_alloc1 _ _⟩
  go_enter Tryz.func7, Tryz.ntmps7
  go_wp2_with fail
  refine (specGoodStore_any ⟨ra, rc, ta, tc, oa, oc, U⟩ S _ HS.out.2.1 HS.out.2.2 (HS.out.1.next HX0.out.2)).mono ?_
  rintro r w1 ⟨rfl, hb⟩
  have H1 : Hid (Bx w1 w.heap.size [.int .i64 S.ep, .slice ra S.rn rc, .slice ta S.tn tc, .slice oa S.on oc] ∧ Below w.heap.size w w1) := ⟨HX0.out.1.next hb, below_next' HX0.out.2 hb⟩
  clear hb HX0
  cases eg : goodB S
  · have HN : Hid (MapPost (mapL S) (goodB S) w (.returned (.tuple #[.slice none 0 0, .bool false])) w1) := map_no eg H1.out.2
    go_wp2
    exact bodyPost_ret (v := .tuple #[.slice none 0 0, .bool false]) (by simp [results, Tryz.results7, go_sem]) rfl HN.out
  have HG : Hid (goodP S) := clB_iff.1 eg
  have HL : Hid (mapL S = mpL S.R S.rn) := by show _ = _; simp [mapL, eg]
  have b1 := H1.out.1.cell 1 rfl
  have bz := H1.out.1.2
  go_wp2
  clear b1 bz
  go_loopw [13, 4] (fun x v wr => ∃ k : Nat, k ≤ S.rn ∧ x = .int .i64 k ∧ wr.ownsRow w.heap.size 55 2 v (mpL S.R k).length (cellsC (mpL S.R k)) ∧ Below w.heap.size w wr) (fun x _ _ => S.rn - (intOf x).toNat)
  case atStart => exact ⟨0, Nat.zero_le _, rfl, World.ownsRow_nil _ _ _ _, H1.out.2⟩
  case round =>
    obtain ⟨k, hk, rfl, hown, hBr⟩ := hrel
    clear H1
    by_cases hlt : k < S.rn
    · have hsl : Sl wr ra S.rn 6 (recordF S.R) := HS.out.1.1.below hBr (Nat.le_refl _)
      rcases hsl with h | ⟨b, off, rfl, hbs, hE⟩
      · omega
      have hlt' : (k : Int) < (S.rn : Int) := by omega
      obtain ⟨c0, c1, c2, c3, c4, c5⟩ := record_cells hE hlt
      have hsz := recOk_sz (HG.out.2.1 k hlt).1
      have HH : Hid ((wr.alloc (.cells #[.string (S.R k).f0, .string (S.R k).f1, .int .i64 (S.R k).f2, .int .i64 (S.R k).f3, .bool (S.R k).f4, .int .i64 (S.R k).f5] 52)).ownsRow w.heap.size 55 2 u4 (mpL S.R k).length (cellsC (mpL S.R k)) ∧ Below w.heap.size w (wr.alloc (.cells #[.string (S.R k).f0, .string (S.R k).f1, .int .i64 (S.R k).f2, .int .i64 (S.R k).f3, .bool (S.R k).f4, .int .i64 (S.R k).f5] 52))) := ⟨own_keep hown (Go.Joins.below_alloc1 _ _), hBr.alloc hBr.size _⟩
      have HX : Hid (Bx (wr.alloc (.cells #[.string (S.R k).f0, .string (S.R k).f1, .int .i64 (S.R k).f2, .int .i64 (S.R k).f3, .bool (S.R k).f4, .int .i64 (S.R k).f5] 52)) wr.heap.size [.string (S.R k).f0, .string (S.R k).f1, .int .i64 (S.R k).f2, .int .i64 (S.R k).f3, .bool (S.R k).f4, .int .i64 (S.R k).f5]) := Bx.new wr [.string (S.R k).f0, .string (S.R k).f1, .int .i64 (S.R k).f2, .int .i64 (S.R k).f3, .bool (S.R k).f4, .int .i64 (S.R k).f5] _
      clear hown hBr hE
      go_wp2_with fail
      refine (l5Plain_any _ _ _ _).mono ?_
      rintro r w3 ⟨rfl, hb3⟩
      have r0 := run_neTid (S.R k).f2 (S.R k).f3 false 0 0 false
      cases e4 : tidE (S.R k).f2 (S.R k).f3 false 0 0 false
      · have HE : Hid (mpL S.R (k + 1) = mpL S.R k ++ [⟨(S.R k).f0, (S.R k).f1⟩]) := by show _ = _; rw [mpL, if_neg (fun h => by rw [tidE_iff.2 ⟨h.1, h.2, rfl⟩] at e4; cases e4)]
        rw [e4] at r0
        obtain ⟨L, hL⟩ : ∃ L, L = mpL S.R k := ⟨_, rfl⟩
        have hLk : L.length ≤ 1048576 := by have := mpL_len S.R k; rw [hL]; omega
        rw [← hL] at HE HH
        clear hL
        have x0 := (HX.out.next hb3).cell 0 rfl
        have x1 := (HX.out.next hb3).cell 1 rfl
        have xz := (HX.out.next hb3).2
        have HW : Hid (w3.ownsRow w.heap.size 55 2 u4 L.length (cellsC L) ∧ Below w.heap.size w w3) := ⟨own_keep HH.out.1 hb3, below_next' HH.out.2 hb3⟩
        have HNW : Hid (∀ j u, ([.string (S.R k).f0, .string (S.R k).f1] : List Value)[j]? = some u → (w3.alloc (.cells #[.string (S.R k).f0, .string (S.R k).f1] 55)).cell? ((⟨w3.heap.size, 0, none⟩ : Addr).add j) = some u) := cells_new w3 [.string (S.R k).f0, .string (S.R k).f1] 55
        have hz3 : w.heap.size ≤ w3.heap.size := HW.out.2.size

        clear HH hb3 HX
        go_wp2_with (first
          | (at_builtin; refine wpList_append_own_at _ rfl (.tmp 22) (.tmp 28) 28 rfl w.heap.size 55 i0 (.agg #[.string ⟨#[]⟩, .string ⟨#[]⟩]) 2 32 Tryz.underlying28 hi0 hz0 hz1 hz2 rfl (by decide) u4 L.length (cellsC L) rfl (World.ownsRow.alloc HW.out.1 _) ⟨w3.heap.size, 0, none⟩ 1 1 [.string (S.R k).f0, .string (S.R k).f1] rfl rfl HNW.out (by intro u hu; simp at hu; rcases hu with rfl | rfl <;> rfl) (by unfold maxLen; omega) (by omega) (by simp <;> omega) ?_; intro v4 w4 hown hgrow hnil hwhere)
          | go_in)
        have HFF : Hid (w4.ownsRow w.heap.size 55 2 v4 (mpL S.R (k + 1)).length (cellsC (mpL S.R (k + 1))) ∧ Below w.heap.size w w4) := by
          refine ⟨?_, (HW.out.2.alloc HW.out.2.size _).grown hgrow (by simp; omega) (fun j hj => (HW.out.1.lt j hj).1)⟩
          rw [HE.out, cellsC_snoc, List.length_append]; exact hown
        clear hown hgrow hnil hwhere
        go_wp2
        go_roundw
        case rel => exact ⟨k + 1, by omega, by go_num, HFF.out.1, HFF.out.2⟩
        case measure => simp [intOf]; omega
      · have HT : Hid ((S.R k).f2 = 0 ∧ (S.R k).f3 = 0) := ⟨(tidE_iff.1 e4).1, (tidE_iff.1 e4).2.1⟩
        rw [e4] at r0
        have HE : Hid (mpL S.R (k + 1) = mpL S.R k) := by show _ = _; rw [mpL, if_pos HT.out]
        have HH3 : Hid (w3.ownsRow w.heap.size 55 2 u4 (mpL S.R k).length (cellsC (mpL S.R k)) ∧ Below w.heap.size w w3) := ⟨own_keep HH.out.1 hb3, below_next' HH.out.2 hb3⟩
        clear HH hb3 HX
        go_wp2
        go_roundw
        case rel => exact ⟨k + 1, by omega, by go_num, by rw [HE.out]; exact HH3.out.1, HH3.out.2⟩
        case measure => simp [intOf]; omega
    · have hkn : k = S.rn := by omega
      have hlt' : ¬ (k : Int) < (S.rn : Int) := by omega
      obtain ⟨a4, cap4, rfl, _, hx⟩ := SRow.of hown
      have HF : Hid (MapPost (mapL S) true w (.returned (.tuple #[.slice a4 (mpL S.R k).length cap4, .bool true])) wr) := by rw [HL.out, ← hkn]; exact ⟨⟨a4, cap4, rfl, hx⟩, hBr⟩
      clear hown hBr hx hkn
      go_wp2
      exact bodyPost_ret (v := .tuple #[.slice a4 (mpL S.R k).length cap4, .bool true]) (by simp [results, Tryz.results7, go_sem]) rfl HF.out
theorem specMapOf_any (A : StA) (S : StV) (w : World) (hl : StLen S) (hok : StOk S) (hs : StAt w A S) :
    Calls Tryz.prog 7 #[.agg #[.int .i64 S.ep, .slice A.ra S.rn A.rc, .slice A.ta S.tn A.tc, .slice A.oa S.on A.oc]] w fun r w' => MapPost (mapL S) (goodB S) w r w' :=
  specMapOf_at A.ra A.rc A.ta A.tc A.oa A.oc A.U S w hl hok hs

end Go.Proofs.YtenfaofhoheleaaGreat
