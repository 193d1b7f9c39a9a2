/- The contract of SerialOrder. -/
import Derived.Test.YthbpjmnlgfahmaaSdS
import Derived.Test.YthbpjmnlgfahmaaTxI
import Derived.Shelf.Slices.Delete
namespace Go.Proofs
open Go.Shelf Go.Sort Go.RowKit
shelf_lay Lays2.n23 Nm2 23 at Try as Try.lays23
end Go.Proofs
namespace Go.Proofs.Ythbpjmnlgfahmaa
open Go.RowKit
set_option linter.unusedVariables false

theorem putRow_other (w : World) (g q : Nat) (ys : Array Int) (k : Nat) (h : k ≠ g) : (Go.Sort.putRow (Value.int .i64) (Go.Sort.ahead w q) g 0 ys).heap[k]? = w.heap[k]? := by
  simp [Go.Sort.putRow, Go.Sort.mapBlock, Go.Sort.ahead, Array.getElem?_modify, Ne.symm h]
theorem deleteOwn_any (base : Nat) (v : Value) (i : Nat) (l : List Nat) (w : World) (hl : l.length ≤ 1048576) (hi : i < l.length) (h : w.ownsRow base 3 1 v l.length (xsV l)) :
    Calls Try.prog 75 #[v, .int .i64 i, .int .i64 ((i : Int) + 1)] w fun e w' => ∃ v', e = .returned v' ∧ w'.ownsRow base 3 1 v' (l.take i ++ l.drop (i + 1)).length (xsV (l.take i ++ l.drop (i + 1))) ∧ w.grownBy w' v.ownBlock ∧ v'.ownBlock = v.ownBlock := by
  have hz : xsV l = (l.map fun x : Nat => (x : Int)).map (Value.int .i64) := by simp [xsV]
  obtain ⟨zs, hzs⟩ : ∃ zs : List Int, zs = l.map fun x : Nat => (x : Int) := ⟨_, rfl⟩
  have hlen : zs.length = l.length := by rw [hzs]; simp
  rw [hz, ← hzs, ← hlen] at h
  obtain ⟨g, cap, rfl⟩ := Go.Joins.ownsRow_form h (by omega)
  have hcap : zs.length ≤ cap ∧ cap ≤ maxLen := by
    obtain ⟨_, h | ⟨g', cap', cur, hv, _, _, hn, hm, _⟩⟩ := h
    · exact absurd h.1 (by simp)
    · simp only [Value.slice.injEq, true_and] at hv
      rw [hv.2]; exact ⟨hn, hm⟩
  obtain ⟨g', cap', ev, _, _, _, _, _, hH⟩ := Go.Lib.holds_of_ownsRow h (by simp)
  cases ev
  have hcall := Any.slices_Delete_int Try.lays23 g 0 cap i (i + 1) zs w hH hcap.1 (by have := hcap.2; unfold maxLen at this; omega) (by omega) (by omega)
  refine Calls.mono (P := Try.prog) (show Calls Try.prog 75 #[.slice (some ⟨g, 0, none⟩) zs.length cap, .int .i64 i, .int .i64 ((i + 1 : Nat) : Int)] w _ from hcall) ?_
  rintro e w' ⟨rfl, q, rfl⟩
  have hys : (zs.take i ++ zs.drop (i + 1) ++ List.replicate (i + 1 - i) 0).length = zs.length := by simp; omega
  have hp := Go.Lib.ownsRow_putRow (q := q) (k := zs.length - 1) h hys (by omega)
  have e1 : (zs.take i ++ zs.drop (i + 1) ++ List.replicate (i + 1 - i) 0).take (zs.length - 1) = zs.take i ++ zs.drop (i + 1) := List.take_left' (by simp; omega)
  rw [e1] at hp
  have e2 : (zs.take i ++ zs.drop (i + 1)).map (Value.int .i64) = xsV (l.take i ++ l.drop (i + 1)) := by simp only [xsV, hzs, List.map_append, List.map_take, List.map_drop, List.map_map]; rfl
  have e3 : (l.take i ++ l.drop (i + 1)).length = zs.length - 1 := by rw [hlen]; simp; omega
  rw [e2] at hp
  rw [e3, show zs.length - (i + 1 - i) = zs.length - 1 by omega]
  refine ⟨_, rfl, hp, ⟨rfl, rfl, rfl, ?_, fun k hk hne => putRow_other w g q _ k (fun e => hne (by rw [e]; rfl))⟩, rfl⟩
  simp [Go.Sort.putRow, Go.Sort.mapBlock, Go.Sort.ahead]

theorem EArr.grew {w w' : World} {g : Nat} {f : Nat → Bool} {row : Option Nat} (h : EArr w g f) (hg : w.grownBy w' row) (hne : row ≠ some g) : EArr w' g f := by
  have e := hg.block g h.2 (fun q => hne q.symm)
  exact ⟨fun i hi => ⟨(World.cell?_of_block (a := ⟨g, i, none⟩) e).trans (h.1 i hi).1, (World.frozen?_of_block (a := ⟨g, i, none⟩) e).trans (h.1 i hi).2⟩, Nat.lt_of_lt_of_le h.2 hg.size⟩
theorem own_grew {w w' : World} {base : Nat} {e : TypeId} {size : Nat} {v : Value} {n : Nat} {xs : List Value} {row : Option Nat} (h : w.ownsRow base e size v n xs) (hg : w.grownBy w' row) (hne : ∀ k, v.ownBlock = some k → row ≠ some k) : w'.ownsRow base e size v n xs :=
  h.kept hg (by
    cases hv : v.ownBlock with
    | none => exact Or.inl rfl
    | some k => exact Or.inr (fun e => hne k hv e.symm))
theorem EArr.put {w : World} {g : Nat} {f0 : Nat → Bool} (h : EArr w g f0) (f : Nat → Bool) : EArr (w.setCells g 0 (tabV f)) g f := by
  have r : (w.setCells g 0 (tabV f)).rangeAt g 0 (tabV f) := World.rangeAt_setCells_same _ _ _ _ (by rw [tabV_len]; exact h.there)
  refine ⟨fun i hi => ⟨?_, ?_⟩, ?_⟩
  · have := r i (.bool (f i)) (by unfold tabV; rw [List.getElem?_map, List.getElem?_range hi]; rfl)
    rwa [Nat.zero_add] at this
  · rw [World.frozen?_setCells]; exact (h.1 i hi).2
  · have := (below_setCells' (B := 0) (a := w) (Nat.zero_le g) (tabV f) 0 w (Below.refl _ _)).size
    exact Nat.lt_of_lt_of_le h.2 this
/-- The three things that the loops hold: the table, what is left, what has been taken. -/
def SdH (W : World) (g b1 c2 : Nat) (f : Nat → Bool) (vl : Value) (l : List Nat) (vo : Value) (out : List Nat) : Prop :=
  EArr W g f ∧ W.ownsRow b1 3 1 vl l.length (xsV l) ∧ (∀ k, vl.ownBlock = some k → k < c2) ∧ W.ownsRow c2 3 1 vo out.length (xsV out) ∧ g < b1 ∧ b1 ≤ c2 ∧ c2 ≤ W.heap.size
theorem SdH.taken {W W1 W2 : World} {g b1 c2 : Nat} {f : Nat → Bool} {vl vo vl' vo' : Value} {l l' out out' : List Nat} {o : Obj} (h : SdH W g b1 c2 f vl l vo out) (h1 : (W.alloc o).grownBy W1 vo.ownBlock) (ho : W1.ownsRow c2 3 1 vo' out'.length (xsV out')) (h2 : W1.grownBy W2 vl.ownBlock) (hl : W2.ownsRow b1 3 1 vl' l'.length (xsV l')) (hv : vl'.ownBlock = vl.ownBlock) :
    SdH W2 g b1 c2 f vl' l' vo' out' := by
  obtain ⟨a1, a2, a3, a4, a5, a6, a7⟩ := h
  have e1 : EArr W1 g f := (a1.next (Go.Joins.below_alloc1 _ _)).grew h1 (fun e => by have := (a4.lt g e).1; omega)
  refine ⟨e1.grew h2 (fun e => by have := (a2.lt g e).1; omega), hl, fun k hk => a3 k (by rw [← hv]; exact hk), own_grew ho h2 (fun k hk e => by have := a3 k e; have := (ho.lt k hk).1; omega), a5, a6, ?_⟩
  have := h1.size; have := h2.size; rw [World.size_alloc] at *; omega
theorem tab_at {W : World} {g : Nat} {f : Nat → Bool} {x y : Nat} {b : Bool} (h : EArr W g f) (hx : x < 9) (hy : y < 9) (hb : f (9 * x + y) = b) : W.cell? ⟨g, x * 9 + y, none⟩ = some (.bool b) := by
  have := (h.1 (9 * x + y) (by omega)).1
  rw [show x * 9 + y = 9 * x + y by omega, this, hb]

set_option maxRecDepth 100000 in
set_option maxHeartbeats 4000000 in
theorem serialOrder_any (a : Option Addr) (n cap : Nat) (K T : Nat → Int) (S : Nat → ByteArray) (w : World) (hn : n ≤ 1048576) (hcap : n ≤ cap) (hS : ∀ i, i < n → (S i).size ≤ maxLen) (hs : Sl w a n 3 (opF K T S)) :
    Calls Try.prog 25 #[.slice a n cap] w (OrdPost (sdL K T S n) (sdOk K T S n) w) := by
  have HS : Hid (Sl w a n 3 (opF K T S) ∧ ∀ i, i < n → (S i).size ≤ maxLen) := ⟨hs, hS⟩
  clear hs hS
  obtain ⟨i0, hi0, hz0, hz1, hz2⟩ := info_parts info_int'
  go_enter Try.func25, Try.ntmps25
  go_wp2_with fail
  go_step3
  go_wp2_with fail
  refine (goodOps_any _ _ _ K T S _ hn HS.out.2 HS.out.1).mono ?_
  rintro r w1 ⟨rfl, hb1⟩
  have HB1 : Hid (Below w.heap.size w w1) := hb1
  clear hb1
  cases hg : goodO (okO K T S) K T n
  · have HN : Hid (sdO K T S n = none) := by show _ = _; simp [sdO, hg]
    go_wp2
    exact bodyPost_ret (v := .tuple #[.slice none 0 0, .bool false]) (by simp [results, Try.results25, go_sem]) rfl (sd_none HN.out HB1.out)
  have HG : Hid (goodO (okO K T S) K T n = true) := hg
  have HGP : Hid (goodP (okO K T S) K T n) := goodO_out hg
  clear hg
  go_wp2_with fail
  refine (edgesOf_any _ _ _ K T S _ hn hcap HGP.out (HS.out.1.kept HB1.out)).mono ?_
  rintro r w2 ⟨⟨f, rfl, hf⟩, hb2⟩
  have HB2 : Hid (Below w.heap.size w w2) := HB1.out.trans (hb2.mono HB1.out.size)
  obtain ⟨e, he⟩ : ∃ e, e = edB K T S n := ⟨_, rfl⟩
  have HF : Hid (∀ x y, x < 9 → y < 9 → f (9 * x + y) = e x y) := fun x y hx hy => by rw [he]; exact hf x y hx hy
  have HED : Hid (e = edB K T S n) := he
  clear hf hb2 HB1 he
  obtain ⟨TV, hTV⟩ : ∃ TV, TV = (tabV f).toArray := ⟨_, rfl⟩
  rw [← hTV]
  have hsz : TV.size = 81 := by rw [hTV]; exact tabV_size f
  have E2 : EArr (w2.alloc (.cells Try.zeroCells98 98)) w2.heap.size (fun _ => false) := EArr.new w2 _ _ (by rfl)
  obtain ⟨w3, hw3⟩ : ∃ w3, w3 = (w2.alloc (.cells Try.zeroCells98 98)).setCells w2.heap.size 0 (tabV f) := ⟨_, rfl⟩
  have hst : Sem.run Try.prog (storeCells ⟨w2.heap.size, 0, none⟩ TV.toList) (w2.alloc (.cells Try.zeroCells98 98)) = .ok () w3 := by
    rw [hTV, hw3]
    have := run_storeCells_cells (P := Try.prog) w2.heap.size 0 (tabV f) 0 (w2.alloc (.cells Try.zeroCells98 98)) (fun j hj => by rw [tabV_len] at hj; rw [show 0 + 0 + j = j by omega, (E2.1 j hj).1]; rfl) (fun j hj => by rw [tabV_len] at hj; rw [show 0 + 0 + j = j by omega]; exact (E2.1 j hj).2) (fun v hv => by simp only [tabV, List.mem_map] at hv; obtain ⟨q, _, rfl⟩ := hv; rfl)
    exact this
  have HE3 : Hid (EArr w3 w2.heap.size f ∧ Below w.heap.size w w3) := by rw [hw3]; exact ⟨EArr.put E2 f, below_setCells' HB2.out.size _ _ _ (HB2.out.alloc HB2.out.size _)⟩
  clear hTV E2
  have HW2 : Hid (w.heap.size ≤ w2.heap.size) := HB2.out.size
  clear hw3 HB2
  go_wp2_with fail
  clear hst hsz
  refine (txnsOf_own _ _ _ K T S _ hn HGP.out (HS.out.1.kept HE3.out.2)).mono ?_
  rintro r w4 ⟨⟨vl, rfl, hX4⟩, hb4⟩
  obtain ⟨X, hX⟩ : ∃ X, X = txL T n 9 := ⟨_, rfl⟩
  have hX9 : X.length ≤ 9 := by rw [hX]; exact txL_len T n 9
  have HXB : Hid ((∀ x, x ∈ X → 0 < x ∧ x < 9) ∧ X.Nodup) := by rw [hX]; exact ⟨fun x hx => txL_bd hx, txL_nodup T n 9⟩
  rw [← hX] at hX4
  obtain ⟨g, hgq⟩ : ∃ g, g = w2.heap.size := ⟨_, rfl⟩
  have HH : Hid (SdH w4 g w3.heap.size w4.heap.size f vl X (.slice none 0 0) [] ∧ Below w.heap.size w w4) := by
    refine ⟨⟨?_, hX4, fun k hk => (hX4.lt k hk).2, World.ownsRow_nil _ _ _ _, ?_, hb4.size, Nat.le_refl _⟩, below_next HE3.out.2 hb4⟩
    · rw [hgq]; exact HE3.out.1.next hb4
    · rw [hgq]; exact HE3.out.1.2
  have HSD : Hid (sdO K T S n = ordO e X) := by show _ = _; rw [sdO, if_pos HG.out, HED.out, hX]
  have HGW : Hid (w.heap.size ≤ g) := by show _ ≤ _; rw [hgq]; exact HW2.out
  rw [← hgq]
  obtain ⟨b1, hb1⟩ : ∃ b1, b1 = w3.heap.size := ⟨_, rfl⟩
  obtain ⟨c2, hc2⟩ : ∃ c2, c2 = w4.heap.size := ⟨_, rfl⟩
  rw [← hb1, ← hc2] at HH
  clear hb4 hX4 HE3 hX hgq hb1 hc2
  go_wp2
  go_step3
  go_wp2
  go_loopw [5, 6] (fun vl vo wr => ∃ out : List Nat, OnWay e X out ∧ SdH wr g b1 c2 f vl (lftL X out) vo out ∧ Below w.heap.size w wr) (fun vl _ _ => lenV vl)
  case atStart => exact ⟨[], OnWay.zero e X, by rw [lft_nil]; exact HH.out.1, HH.out.2⟩
  case round =>
    obtain ⟨out, hway, hH, hBr⟩ := hrel
    obtain ⟨wo, hwo⟩ : ∃ x, x = wr := ⟨wr, rfl⟩
    subst hwo
    clear HH
    have hln := lft_len HXB.out.2 hway.2.2.1 hway.2.2.2
    obtain ⟨l, hl⟩ : ∃ l, l = lftL X out := ⟨_, rfl⟩
    have HL : Hid (l = lftL X out) := hl
    rw [← hl] at hH hln
    obtain ⟨al, capl, rfl, hls⟩ := xs_sl hH.2.1
    obtain ⟨ao, capo, rfl, hos⟩ := xs_sl hH.2.2.2.1
    have HI : Hid (OnWay e X out ∧ SdH wo g b1 c2 f (.slice al l.length capl) l (.slice ao out.length capo) out ∧ Below w.heap.size w wo) := ⟨hway, hH, hBr⟩
    have HLB : Hid (∀ x, x ∈ l → x < 9) := fun x hx => by rw [hl] at hx; exact (HXB.out.1 x (lft_sub.1 hx).1).2
    have hgl : g < wo.heap.size := hH.1.2
    clear hway hH hBr hl hos
    by_cases hlt : 0 < l.length
    · have hlt' : (0 : Int) < (l.length : Int) := by omega
      have hol : out.length < X.length := by omega
      go_wp2
      go_step3
      go_wp2
      go_step3
      go_wp2
      go_loopw [23, 5, 6] (fun x v5 v6 wr => ∃ i : Nat, i ≤ l.length ∧ x = .int .i64 i ∧ v5 = .slice al l.length capl ∧ v6 = .slice ao out.length capo ∧ wr = wo ∧ (∀ j, j < i → ∀ t, l[j]? = some t → (l.all fun f => !e f t) = false)) (fun x _ _ _ => l.length - (intOf x).toNat)
      case atStart => exact ⟨0, Nat.zero_le _, rfl, rfl, rfl, rfl, fun j hj => absurd hj (by omega)⟩
      case round =>
        obtain ⟨i, hi, rfl, rfl, rfl, rfl, hno⟩ := hrel
        have HNO : Hid (∀ j, j < i → ∀ t, l[j]? = some t → (l.all fun f => !e f t) = false) := hno
        clear hno
        by_cases hil : i < l.length
        · have hil' : (i : Int) < (l.length : Int) := by omega
          obtain ⟨t, ht⟩ : ∃ t, l[i]? = some t := ⟨l[i], by simp [hil]⟩
          have htb : t < 9 := HLB.out t (List.mem_of_getElem? ht)
          have htb' : (t : Int) < 9 := by omega
          rcases hls with h | ⟨b', off', rfl, hbs', hE'⟩
          · omega
          have d0 : wr.cell? ⟨b', off' + i, none⟩ = some (.int .i64 (t : Int)) := by
            have := int_cell hE' hil
            rw [this]; congr 2; simp [xF, List.getD_eq_getElem?_getD, ht]
          have HTT : Hid (l[i]? = some t) := ht
          have HE' : Hid (Elems wr b' off' l.length 1 (intF (xF l))) := hE'
          clear ht hE'
          go_wp2
          go_loopw [30] (fun x wr' => ∃ m : Nat, m ≤ l.length ∧ x = .int .i64 m ∧ wr' = wr ∧ (∀ q, q < m → ∀ f, l[q]? = some f → e f t = false)) (fun x _ => l.length - (intOf x).toNat)
          case atStart => exact ⟨0, Nat.zero_le _, rfl, rfl, fun j hj => absurd hj (by omega)⟩
          case round =>
            obtain ⟨m, hm, rfl, rfl, hcl⟩ := hrel
            have HCL : Hid (∀ q, q < m → ∀ f, l[q]? = some f → e f t = false) := hcl
            clear hcl d0
            by_cases hml : m < l.length
            · have hml' : (m : Int) < (l.length : Int) := by omega
              obtain ⟨q, hq⟩ : ∃ q, l[m]? = some q := ⟨l[m], by simp [hml]⟩
              have hqb : q < 9 := HLB.out q (List.mem_of_getElem? hq)
              have hqb' : (q : Int) < 9 := by omega
              have d1 : wr.cell? ⟨b', off' + m, none⟩ = some (.int .i64 (q : Int)) := by
                have := int_cell HE'.out hml
                rw [this]; congr 2; simp [xF, List.getD_eq_getElem?_getD, hq]
              have d2 := tab_at HI.out.2.1.1 hqb htb (HF.out q t hqb htb)
              have HQQ : Hid (l[m]? = some q) := hq
              clear hq
              cases hc : e q t
              · rw [hc] at d2
                have HC : Hid (e q t = false) := hc
                clear hc
                go_wp2
                go_roundw
                case rel => exact ⟨m + 1, by omega, by go_num, trivial, fun j hj f hf => (Nat.lt_succ_iff_lt_or_eq.1 hj).elim (fun g => HCL.out j g f hf) (fun g => by subst g; rw [HQQ.out] at hf; cases hf; exact HC.out)⟩
                case measure => simp [intOf]; omega
              · rw [hc] at d2
                have HC : Hid ((l.all fun f => !e f t) = false) := by
                  show _ = _
                  rw [Bool.eq_false_iff]
                  intro h
                  have := List.all_eq_true.1 h q (List.mem_of_getElem? HQQ.out)
                  rw [hc] at this; cases this
                clear hc
                go_wp2
                go_roundw
                case rel => exact ⟨i + 1, by omega, by go_num, rfl, rfl, trivial, fun j hj f hf => (Nat.lt_succ_iff_lt_or_eq.1 hj).elim (fun g => HNO.out j g f hf) (fun g => by subst g; rw [HTT.out] at hf; cases hf; exact HC.out)⟩
                case measure => simp [intOf]; omega
            · have hmn : m = l.length := by omega
              have hml' : ¬ (m : Int) < (l.length : Int) := by omega
              have HFD : Hid (X.find? (rdyB e X out) = some t) := by
                show _ = _
                rw [lft_find, ← HL.out]
                refine find_at HTT.out ?_ HNO.out
                rw [List.all_eq_true]
                intro x hx
                obtain ⟨q, hq, rfl⟩ := List.mem_iff_getElem.1 hx
                rw [HCL.out q (by omega) l[q] (by simp [hq])]; rfl
              have HLS : Hid (lftL X (out ++ [t]) = l.take i ++ l.drop (i + 1)) := by
                show _ = _
                rw [HL.out]; exact (lft_step HXB.out.2 (by rw [← HL.out]; exact HTT.out)).symm
              have hzc : c2 ≤ wr.heap.size := HI.out.2.1.2.2.2.2.2.2
              have hol9 : out.length ≤ 9 := by omega
              have HNW : Hid (∀ j u, [Value.int .i64 (t : Int)][j]? = some u → (wr.alloc (.cells #[.int .i64 (t : Int)] 3)).cell? ((⟨wr.heap.size, 0, none⟩ : Addr).add j) = some u) := cells_new wr [.int .i64 (t : Int)] 3
              clear hmn HCL hml
              go_wp2_with (at_builtin; refine wpList_append_own_at _ rfl (.tmp 40) (.tmp 42) 25 rfl c2 3 i0 (.int .i64 0) 1 8 Try.underlying25 hi0 hz0 hz1 hz2 rfl (by decide) (.slice ao out.length capo) out.length (xsV out) rfl (World.ownsRow.alloc HI.out.2.1.2.2.2.1 _) ⟨wr.heap.size, 0, none⟩ 1 1 [.int .i64 (t : Int)] rfl rfl HNW.out (by intro u hu; simp at hu; subst hu; rfl) (by unfold maxLen; omega) (by omega) (by simp <;> omega) ?_; intro v4 w5 hown hgrow hnil hwhere)
              have HG5 : Hid ((wr.alloc (.cells #[.int .i64 (t : Int)] 3)).grownBy w5 (Value.slice ao out.length capo).ownBlock ∧ w5.ownsRow c2 3 1 v4 (out ++ [t]).length (xsV (out ++ [t]))) := ⟨hgrow, by rw [xsV_snoc, List.length_append]; exact hown⟩
              have hl5 : w5.ownsRow b1 3 1 (.slice (some ⟨b', off', none⟩) l.length capl) l.length (xsV l) := own_grew (World.ownsRow.alloc HI.out.2.1.2.1 _) hgrow (fun k hk e => by
                have h1 := HI.out.2.1.2.2.1 k hk
                have h2 := (HI.out.2.1.2.2.2.1.lt k e).1
                omega)
              have HL5 : Hid (w5.ownsRow b1 3 1 (.slice (some ⟨b', off', none⟩) l.length capl) l.length (xsV l)) := hl5
              clear hown hgrow hnil hwhere hl5 HNW
              refine (deleteOwn_any b1 _ i l _ (by omega) hil HL5.out).mono ?_
              rintro r w6 ⟨vl', rfl, ho6, hg6, hv6⟩
              have HN6 : Hid (SdH w6 g b1 c2 f vl' (lftL X (out ++ [t])) v4 (out ++ [t]) ∧ Below w.heap.size w w6 ∧ lenV vl' = l.length - 1) := by
                rw [HLS.out]
                have hS := HI.out.2.1.taken HG5.out.1 HG5.out.2 hg6 ho6 hv6
                have hzw := HI.out.2.2.size
                refine ⟨hS, ?_, ?_⟩
                · have b5 : Below w.heap.size w w5 := (HI.out.2.2.alloc hzw _).grown HG5.out.1 (by simp; omega) (fun k hk => by have := (HI.out.2.1.2.2.2.1.lt k hk).1; have := HI.out.2.1.2.2.2.2.1; have := HI.out.2.1.2.2.2.2.2.1; have := HGW.out; omega)
                  exact b5.grown hg6 b5.size (fun k hk => by have := (HI.out.2.1.2.1.lt k hk).1; have := HGW.out; have := HI.out.2.1.2.2.2.2.1; omega)
                · obtain ⟨a9, c9, e9, _⟩ := xs_sl ho6
                  rw [e9]; simp [lenV]; omega
              clear ho6 hg6 hv6 HG5 HL5
              go_wp2
              go_roundw
              case rel => exact ⟨_, _, _, _, _, _, _, _, _, _, _, _, _, _, _, _, _, _, _, _, _, _, _, _, _, _, _, _, _, _, _, _, _, _, _, _, _, _, _, ⟨out ++ [t], HI.out.1.step hol HFD.out, HN6.out.1, HN6.out.2.1⟩, rfl⟩
              case measure => show lenV vl' < l.length; rw [HN6.out.2.2]; omega
        · have HNN : Hid (sdO K T S n = none) := by
            show _ = _
            rw [HSD.out]
            refine HI.out.1.none hol ?_
            rw [lft_find, ← HL.out]
            exact find_no (fun j hj x hx => HNO.out j (by omega) x hx)
          have hil' : ¬ (i : Int) < (l.length : Int) := by omega
          clear hls
          go_wp2
          try rw [Exit.noGoto_ret]
          exact bodyPost_ret (v := .tuple #[.slice none 0 0, .bool false]) (by simp [results, Try.results25, go_sem]) rfl (sd_none HNN.out HI.out.2.2)
    · have hl0 : l.length = 0 := by omega
      have HDD : Hid (sdO K T S n = some out) := by show _ = _; rw [HSD.out]; exact HI.out.1.done (by omega)
      obtain ⟨a5, c5, e5, hx⟩ := xs_of HI.out.2.1.2.2.2.1
      cases e5
      have HF9 : Hid (OrdPost (sdL K T S n) (sdOk K T S n) w (.returned (.tuple #[.slice ao out.length capo, .bool true])) wo) := by
        rw [sdL, sdOk, HDD.out]
        exact ⟨⟨_, _, rfl, hx.wide (by have := HI.out.2.1.2.2.2.2.1; have := HI.out.2.1.2.2.2.2.2.1; have := HGW.out; omega)⟩, HI.out.2.2⟩
      have hlt' : ¬ (0 : Int) < (l.length : Int) := by omega
      clear hx hls hlt
      rw [hl0]
      go_wp2
      try rw [Exit.noGoto_ret]
      exact bodyPost_ret (v := .tuple #[.slice ao out.length capo, .bool true]) (by simp [results, Try.results25, go_sem]) rfl HF9.out
end Go.Proofs.Ythbpjmnlgfahmaa
