/- The contract of SerialOps. -/
import Derived.Test.YthbpjmnlgfahmaaSoS
import Derived.Test.YthbpjmnlgfahmaaHeO
import Derived.Test.YthbpjmnlgfahmaaCln
import Derived.Test.YthbpjmnlgfahmaaRg
import Derived.Test.YthbpjmnlgfahmaaBx
namespace Go.Proofs.Ythbpjmnlgfahmaa
open Go.RowKit
set_option linter.unusedVariables false

theorem xF_mem {l : List Nat} {x : Int} : hasN (xF l) x l.length = true ↔ x ∈ l.map fun t : Nat => (t : Int) := by
  rw [hasN_iff]
  simp only [List.mem_map]
  constructor
  · rintro ⟨j, hj, rfl⟩
    exact ⟨l.getD j 0, by simp [List.getD_eq_getElem?_getD, hj], rfl⟩
  · rintro ⟨t, ht, rfl⟩
    obtain ⟨j, hj, rfl⟩ := List.mem_iff_getElem.1 ht
    exact ⟨j, hj, by simp [xF, hj]⟩
theorem xF_lst (l : List Nat) : lstN (xF l) l.length = l.map fun t : Nat => (t : Int) := by
  apply List.ext_getElem
  · simp [lstN]
  · intro i h1 h2
    simp [lstN] at h1
    simp [lstN, xF, h1]
theorem each_ord (T O : Nat → Int) (n n' : Nat) : eachB O n' (lstN (xF (txL T n 9)) (txL T n 9).length) = true ↔ ordP T O n n' := by
  rw [xF_lst]
  show eachB O n' (txI T n) = true ↔ _
  rw [each_iff (txI_pair T n), ordP]
  simp only [txI, List.length_map]
  constructor
  · rintro ⟨h1, h2⟩
    refine ⟨h1, fun i hi => ⟨xF_mem.2 (h2 i hi).1, ?_⟩⟩
    cases hc : hasN O (O i) i
    · rfl
    · obtain ⟨j, hj, e⟩ := hasN_iff.1 hc
      exact absurd e ((h2 i hi).2 j hj)
  · rintro ⟨h1, h2⟩
    refine ⟨h1, fun i hi => ⟨xF_mem.1 (h2 i hi).1, fun j hj e => ?_⟩⟩
    have := hasN_iff.2 ⟨j, hj, e⟩
    rw [(h2 i hi).2] at this; cases this

theorem good_len {K T : Nat → Int} {S : Nat → ByteArray} {n q : Nat} (hg : goodP (okO K T S) K T n) (hq : q < n) : (S q).size ≤ 281474976710656 := by
  rcases op_kind (hg.2 q hq).1 with ⟨_, g⟩ | ⟨_, g⟩
  · simp only [keyOk, Bool.and_eq_true] at g
    have := inR_iff.1 g.1; omega
  · rw [empty_size] at g
    have := beq_iff_eq.1 g; omega
def OpsPostC (K T : Nat → Int) (S : Nat → ByteArray) (l : List Nat) (g : Bool) (w : World) (r : Ending) (w' : World) : Prop :=
  (∃ a cap, r = .returned (.tuple #[.slice a l.length cap, .bool g]) ∧ SRow w' w.heap.size w'.heap.size a l.length 3 (opL K T S l) ∧ l.length ≤ cap) ∧ Below w.heap.size w w'
theorem so_noC {K T : Nat → Int} {S : Nat → ByteArray} {O : Nat → Int} {n n' : Nat} {w w' : World} (h : soOk K T S O n n' = false) (hb : Below w.heap.size w w') : OpsPostC K T S (soR K T S O n n') (soOk K T S O n n') w (.returned (.tuple #[.slice none 0 0, .bool false])) w' := by
  rw [soR, h]
  exact ⟨⟨none, 0, rfl, ⟨Or.inl rfl, Nat.le_refl _⟩, Nat.le_refl _⟩, hb⟩
set_option maxRecDepth 100000 in
set_option maxHeartbeats 8000000 in
theorem serialOps_cap (a : Option Addr) (n cap : Nat) (K T : Nat → Int) (S : Nat → ByteArray) (a' : Option Addr) (n' cap' : Nat) (O : Nat → Int) (w : World) (hn : n ≤ 1048576) (hn' : n' ≤ 1048576) (hcap : n ≤ cap) (hS : ∀ i, i < n → (S i).size ≤ maxLen) (hs : Sl w a n 3 (opF K T S)) (hl : Sl w a' n' 1 (intF O)) :
    Calls Try.prog 32 #[.slice a n cap, .slice a' n' cap'] w (OpsPostC K T S (soR K T S O n n') (soOk K T S O n n') w) := by
  have HS : Hid (Sl w a n 3 (opF K T S) ∧ Sl w a' n' 1 (intF O) ∧ ∀ i, i < n → (S i).size ≤ maxLen) := ⟨hs, hl, hS⟩
  clear hs hl hS
  obtain ⟨i0, hi0, hz0, hz1, hz2⟩ := info_parts info_op
  go_enter Try.func32, Try.ntmps32
  go_wp2_with fail
  refine (goodOps_any _ _ _ K T S _ hn HS.out.2.2 HS.out.1).mono ?_
  rintro r w1 ⟨rfl, hb1⟩
  have HB1 : Hid (Below w.heap.size w w1) := hb1
  clear hb1
  cases hg : goodO (okO K T S) K T n
  · have HN : Hid (soOk K T S O n n' = false) := by show _ = _; simp [soOk, hg]
    go_wp2
    exact bodyPost_ret (v := .tuple #[.slice none 0 0, .bool false]) (by simp [results, Try.results32, go_sem]) rfl (so_noC HN.out HB1.out)
  have HG : Hid (goodO (okO K T S) K T n = true) := hg
  have HGP : Hid (goodP (okO K T S) K T n) := goodO_out hg
  have h60 : n ≤ 60 := (goodO_out hg).1
  clear hg
  go_wp2_with fail
  refine (txnsOf_any _ _ _ K T S _ hn HGP.out (HS.out.1.kept HB1.out)).mono ?_
  rintro r w2 ⟨⟨a2, cap2, rfl, hX2⟩, hb2⟩
  have hX9 : (txL T n 9).length ≤ 9 := txL_len T n 9
  have HB2 : Hid (Below w.heap.size w w2 ∧ SRow w2 w1.heap.size w2.heap.size a2 (txL T n 9).length 1 (intF (xF (txL T n 9)))) := ⟨below_next HB1.out hb2, hX2⟩
  clear hb2 hX2 HB1
  go_wp2_with fail
  refine (hasEachOnce_any _ _ _ O _ _ _ (xF (txL T n 9)) _ hn' (by omega) (HS.out.2.1.kept HB2.out.1) HB2.out.2.sl).mono ?_
  rintro r w3 ⟨rfl, hb3⟩
  have HB3 : Hid (Below w.heap.size w w3) := below_next HB2.out.1 hb3
  have HEQ : Hid (eachB O n' (lstN (xF (txL T n 9)) (txL T n 9).length) = true ↔ ordP T O n n') := each_ord T O n n'
  clear hb3 HB2
  cases hq : eachB O n' (lstN (xF (txL T n 9)) (txL T n 9).length)
  · have HN : Hid (soOk K T S O n n' = false) := soOk_no (fun h => by have := HEQ.out.2 h; rw [hq] at this; cases this)
    clear HEQ hq
    go_wp2
    exact bodyPost_ret (v := .tuple #[.slice none 0 0, .bool false]) (by simp [results, Try.results32, go_sem]) rfl (so_noC HN.out HB3.out)
  have HO : Hid (ordP T O n n') := HEQ.out.1 hq
  have HY : Hid (soOk K T S O n n' = true) := soOk_yes HG.out HO.out
  have hn9 : n' ≤ 9 := by have := HO.out.1; omega
  clear HEQ hq HO hX9
  go_wp2
  go_loopw [23, 6] (fun x v wr => ∃ p : Nat, p ≤ n' ∧ x = .int .i64 p ∧ wr.ownsRow w.heap.size 44 3 v (soT T O n p).length (opsV K T S (soT T O n p)) ∧ Below w.heap.size w wr) (fun x _ _ => n' - (intOf x).toNat)
  case atStart => exact ⟨0, Nat.zero_le _, rfl, World.ownsRow_nil _ _ _ _, HB3.out⟩
  case round =>
    obtain ⟨p, hp, rfl, hown, hBr⟩ := hrel
    clear HB3
    obtain ⟨wo, hwo⟩ : ∃ x, x = wr := ⟨wr, rfl⟩
    subst hwo
    by_cases hlt : p < n'
    · have hlt' : (p : Int) < (n' : Int) := by omega
      rcases HS.out.2.1.kept hBr with h | ⟨b', off', rfl, hbs', hE'⟩
      · omega
      have d0 := int_cell hE' hlt
      have HH : Hid (wo.ownsRow w.heap.size 44 3 u6 (soP T O n p 0).length (opsV K T S (soP T O n p 0)) ∧ Below w.heap.size w wo) := by rw [soP_start]; exact ⟨hown, hBr⟩
      clear hown hBr hE'
      go_wp2
      go_loopw [29, 6] (fun x v wr => ∃ m : Nat, m ≤ n ∧ x = .int .i64 m ∧ wr.ownsRow w.heap.size 44 3 v (soP T O n p m).length (opsV K T S (soP T O n p m)) ∧ Below w.heap.size w wr) (fun x _ _ => n - (intOf x).toNat)
      case atStart => exact ⟨0, Nat.zero_le _, rfl, HH.out.1, HH.out.2⟩
      case round =>
        obtain ⟨m, hm, rfl, hown, hBi⟩ := hrel
        clear HH d0
        by_cases hml : m < n
        · rcases HS.out.1.kept hBi with h | ⟨b, off, rfl, hbs, hE⟩
          · omega
          have hml' : (m : Int) < (n : Int) := by omega
          obtain ⟨c0, c1, c2⟩ := op_cells hE hml
          have hzi : w.heap.size ≤ wr.heap.size := hBi.size
          have hLk : (soP T O n p m).length ≤ 1000 := soP_len h60 (by omega) hm
          have hx0 := Bx.new wr [.int .i64 (K m), .int .i64 (T m), .string (S m)] 44
          have hSm : (S m).size ≤ 281474976710656 := good_len HGP.out hml
          cases hb : (T m == O p)
          · have HE : Hid (soP T O n p (m + 1) = soP T O n p m) := soP_no hb
            have HH : Hid (wr.ownsRow w.heap.size 44 3 u6 (soP T O n p m).length (opsV K T S (soP T O n p m)) ∧ Below w.heap.size w wr) := ⟨hown, hBi⟩
            clear hown hBi hE hx0
            go_wp2
            go_roundw
            case rel => exact ⟨m + 1, by omega, by go_num, by rw [HE.out]; exact own_keep HH.out.1 (Go.Joins.below_alloc1 _ _), HH.out.2.alloc hzi _⟩
            case measure => simp [intOf]; omega
          · have HE : Hid (soP T O n p (m + 1) = soP T O n p m ++ [m]) := soP_yes hb
            obtain ⟨L, hL⟩ : ∃ L, L = soP T O n p m := ⟨_, rfl⟩
            rw [← hL] at HE hLk hown
            have HH : Hid (wr.ownsRow w.heap.size 44 3 u6 L.length (opsV K T S L) ∧ Below w.heap.size w wr) := ⟨hown, hBi⟩
            obtain ⟨km, hkm⟩ : ∃ km, km = K m := ⟨_, rfl⟩
            obtain ⟨tm, htm⟩ : ∃ tm, tm = T m := ⟨_, rfl⟩
            obtain ⟨sm, hsm⟩ : ∃ sm, sm = S m := ⟨_, rfl⟩
            obtain ⟨VL, hVL⟩ : ∃ VL, VL = opsV K T S L := ⟨_, rfl⟩
            have HV : Hid (opsV K T S (L ++ [m]) = VL ++ [.int .i64 km, .int .i64 tm, .string sm]) := by show _ = _; rw [opsV_snoc, hkm, htm, hsm, hVL]
            rw [← hVL] at HH
            rw [← hkm, ← htm, ← hsm] at hx0
            rw [← hkm] at c0
            rw [← htm] at c1 hb
            rw [← hsm] at c2 hSm
            have HX : Hid (Bx (wr.alloc (.cells #[.int .i64 km, .int .i64 tm, .string sm] 44)).drew wr.heap.size [.int .i64 km, .int .i64 tm, .string sm] ∧ Below wr.heap.size wr (wr.alloc (.cells #[.int .i64 km, .int .i64 tm, .string sm] 44)).drew) := ⟨hx0.next (Below.refl _ _).drew, (Go.Joins.below_alloc1 _ _).drew⟩
            clear hown hBi hL hE hx0 hkm htm hsm hVL
            go_upto_region 11 with fail
            refine wp_region_noPanic ?_
            refine wp_region_held_drew (S := fun W => Bx W wr.heap.size [.int .i64 km, .int .i64 tm, .string sm]) (by kernel_rfl) HX.out.1 (fun hHeld => ?_)
            refine take_v (v := ?_) 0 ⟨some 37, Op.move (Operand.tmp 6), _, _, _, none⟩ rfl (fun _ _ _ h => h) ?_ hHeld ?_
            rotate_left
            · (intro W _; go_simp <;> (try with_reducible rfl))
            refine take_v (v := ?_) 1 ⟨some 38, Op.fieldAddr 44 (Operand.tmp 10) 0, _, _, _, none⟩ rfl (fun _ _ _ h => h) ?_ hHeld ?_
            rotate_left
            · (intro W _; go_simp <;> (try with_reducible rfl))
            refine take_v (v := ?_) 2 ⟨some 39, Op.load 3 (Operand.tmp 38), _, _, _, none⟩ rfl (fun _ _ _ h => h) ?_ hHeld ?_
            rotate_left
            · (intro W hSW; have s0 := hSW.cell 0 rfl; have s1 := hSW.cell 1 rfl; have s2 := hSW.cell 2 rfl; go_simp <;> (try with_reducible rfl))
            refine take_v (v := ?_) 3 ⟨some 40, Op.fieldAddr 44 (Operand.tmp 10) 1, _, _, _, none⟩ rfl (fun _ _ _ h => h) ?_ hHeld ?_
            rotate_left
            · (intro W _; go_simp <;> (try with_reducible rfl))
            refine take_v (v := ?_) 4 ⟨some 41, Op.load 3 (Operand.tmp 40), _, _, _, none⟩ rfl (fun _ _ _ h => h) ?_ hHeld ?_
            rotate_left
            · (intro W hSW; have s0 := hSW.cell 0 rfl; have s1 := hSW.cell 1 rfl; have s2 := hSW.cell 2 rfl; go_simp <;> (try with_reducible rfl))
            refine take_v (v := ?_) 5 ⟨some 42, Op.fieldAddr 44 (Operand.tmp 10) 2, _, _, _, none⟩ rfl (fun _ _ _ h => h) ?_ hHeld ?_
            rotate_left
            · (intro W _; go_simp <;> (try with_reducible rfl))
            refine take_v (v := ?_) 6 ⟨some 43, Op.load 9 (Operand.tmp 42), _, _, _, none⟩ rfl (fun _ _ _ h => h) ?_ hHeld ?_
            rotate_left
            · (intro W hSW; have s0 := hSW.cell 0 rfl; have s1 := hSW.cell 1 rfl; have s2 := hSW.cell 2 rfl; go_simp <;> (try with_reducible rfl))
            refine ready_call 7 ⟨some 44, Op.call { callee := Callee.value (Operand.func 82), args := #[Operand.tmp 43], argTypes := #[9] }, _, _, _, none⟩ (by kernel_rfl) rfl (by kernel_rfl) (fun K hK => ?_)
            go_wp2_with fail
            refine (clone_any _ _ hSm).mono ?_
            rintro e w3 ⟨rfl, hb3⟩
            refine hK.out _ _ (hHeld.next hb3) (fun hHeld => ?_)
            clear hK K
            refine take_v (v := ?_) 8 ⟨some 45, Op.build 44 #[(0, Operand.tmp 39), (1, Operand.tmp 41), (2, Operand.tmp 44)], _, _, _, none⟩ rfl (fun _ _ _ h => h) ?_ hHeld ?_
            rotate_left
            · (intro W _; go_simp <;> (try with_reducible rfl))
            refine ready_call 9 ⟨some 46, Op.buildSlice 32 1 #[(0, Operand.tmp 45)], _, _, _, none⟩ (by kernel_rfl) rfl (by kernel_rfl) (fun K hK => ?_)
            go_wp2_with fail
            refine hK.out _ _ (hHeld.alloc _) (fun hHeld => ?_)
            clear hK K
            refine ready_call 10 ⟨some 47, Op.call { callee := Callee.builtin Builtin.append, args := #[Operand.tmp 37, Operand.tmp 46], argTypes := #[32, 32] }, _, _, _, none⟩ (by kernel_rfl) rfl (by kernel_rfl) (fun K hK => ?_)
            have hb3' : Below wr.heap.size wr w3 := below_next HX.out.2 hb3
            have hrow : (w3.alloc (.cells #[.int .i64 km, .int .i64 tm, .string sm] 44)).ownsRow w.heap.size 44 3 u6 L.length VL := own_keep (own_keep HH.out.1 hb3') (Go.Joins.below_alloc1 _ _)
            refine wp_append_lies _ (.tmp 37) (.tmp 46) 32 (by rfl) w.heap.size 44 i0 (.agg #[.int .i64 0, .int .i64 0, .string ⟨#[]⟩]) 3 32 Try.underlying32 hi0 hz0 hz1 hz2 rfl (by decide) u6 L.length VL (by rfl) hrow ⟨w3.heap.size, 0, none⟩ 1 1 [.int .i64 km, .int .i64 tm, .string sm] (by rfl) rfl (cells_new w3 [.int .i64 km, .int .i64 tm, .string sm] 44) (by intro u hu; simp at hu; rcases hu with rfl | rfl | rfl <;> rfl) (by omega) (by unfold maxLen; omega) (by omega) (by have := hb3'.size; simp; omega) _ rfl ?_
            intro g4 cap4 w4 hown4 hgrow hat hlt4
            refine hK.out _ _ (hHeld.grown hgrow hgrow.size (fun e => by have := (HH.out.1.lt _ e.symm).2; omega)) (fun hHeld => ?_)
            clear hK K
            refine take_v (v := ?_) 11 ⟨some 6, Op.assign (Operand.tmp 47), _, _, _, none⟩ rfl (fun _ _ _ h => h) ?_ hHeld ?_
            rotate_left
            · (intro W _; go_simp <;> (try with_reducible rfl))
            refine wpAnyH_done (by kernel_rfl) ?_ _
            refine NoPanic.normal ?_
            have HF : Hid (w4.ownsRow w.heap.size 44 3 (.slice (some ⟨g4, 0, none⟩) (L.length + 1) cap4) (soP T O n p (m + 1)).length (opsV K T S (soP T O n p (m + 1))) ∧ Below w.heap.size w w4) := by
              refine ⟨?_, ((below_next HH.out.2 hb3').alloc (by have := hb3'.size; omega) _).grown hgrow (by have := hb3'.size; simp; omega) (fun j hj => (HH.out.1.lt j hj).1)⟩
              rw [HE.out, HV.out, List.length_append]; exact hown4
            clear hown4 hgrow hat hrow hb3' hb3
            go_wp2
            go_roundw
            case rel => exact ⟨m + 1, by omega, by go_num, HF.out.1, HF.out.2⟩
            case measure => simp [intOf]; omega
        · have hmn : m = n := by omega
          subst hmn
          have HH : Hid (wr.ownsRow w.heap.size 44 3 u6 (soT T O m (p + 1)).length (opsV K T S (soT T O m (p + 1))) ∧ Below w.heap.size w wr) := by rw [← soP_end]; exact ⟨hown, hBi⟩
          clear hown hBi
          go_wp2
          go_roundw
          case rel => exact ⟨p + 1, by omega, by go_num, HH.out.1, HH.out.2⟩
          case measure => simp [intOf]; omega
    · have hpn : p = n' := by omega
      obtain ⟨l, hl⟩ : ∃ l, l = soT T O n p := ⟨_, rfl⟩
      rw [← hl, opsV_L] at hown
      obtain ⟨a4, cap4, rfl, hc4, hx⟩ := SRow.of hown
      have HF : Hid (OpsPostC K T S (soR K T S O n n') (soOk K T S O n n') w (.returned (.tuple #[.slice a4 l.length cap4, .bool true])) wo) := by
        rw [soR, HY.out, if_pos rfl, ← hpn, ← hl]; exact ⟨⟨a4, cap4, rfl, hx, hc4⟩, hBr⟩
      have hpn' : ¬ (p : Int) < (n' : Int) := by omega
      clear hown hBr hx hc4 hl hpn hlt
      go_wp2
      exact bodyPost_ret (v := .tuple #[.slice a4 l.length cap4, .bool true]) (by simp [results, Try.results32, go_sem]) rfl HF.out
theorem serialOps_any (a : Option Addr) (n cap : Nat) (K T : Nat → Int) (S : Nat → ByteArray) (a' : Option Addr) (n' cap' : Nat) (O : Nat → Int) (w : World) (hn : n ≤ 1048576) (hn' : n' ≤ 1048576) (hcap : n ≤ cap) (hS : ∀ i, i < n → (S i).size ≤ maxLen) (hs : Sl w a n 3 (opF K T S)) (hl : Sl w a' n' 1 (intF O)) :
    Calls Try.prog 32 #[.slice a n cap, .slice a' n' cap'] w (OpsPost K T S (soR K T S O n n') (soOk K T S O n n') w) :=
  (serialOps_cap a n cap K T S a' n' cap' O w hn hn' hcap hS hs hl).mono fun r w' ⟨⟨a, c, h1, h2, _⟩, h3⟩ => ⟨⟨a, c, h1, h2⟩, h3⟩
end Go.Proofs.Ythbpjmnlgfahmaa
