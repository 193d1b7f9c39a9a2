/- Nets: a new one, on both sides. Written by tools/mkNeN.py. -/
import Derived.Test.YtcklpcdgckkahaaNeS
import Derived.Test.YtcklpcdgckkahaaNtT
import Derived.Test.YtcklpcdgckkahaaNtX
import Derived.Test.YtcklpcdgckkahaaShS
import Derived.Test.YtcklpcdgckkahaaShM
namespace Go.Proofs.Ytcklpcdgckkahaa
open Go.RowKit
set_option linter.unusedVariables false
set_option linter.unusedSimpArgs false

def nwBk (a : Int) : Sh.T shBank := mkBk a false 0
def nwB (am : List (Sh.T .int)) : List (Sh.T shBank) := am.map nwBk
def nwWy (m i : Nat) : Sh.T shWay := mkWy (frA m i : Nat) (toA m i : Nat) [] false []
def nwW (m c : Nat) : List (Sh.T shWay) := (List.range c).map (nwWy m)
theorem nwW_succ (m c : Nat) : nwW m (c + 1) = nwW m c ++ [nwWy m c] := by unfold nwW; rw [List.range_succ, List.map_append]; rfl
theorem nwW_len (m c : Nat) : (nwW m c).length = c := by unfold nwW; simp
theorem nwW_at {m c i : Nat} (h : i < (nwW m c).length) : (nwW m c)[i] = nwWy m i := by
  revert h
  unfold nwW
  intro h
  rw [List.getElem_map, List.getElem_range]
theorem nwB_len (am : List (Sh.T .int)) : (nwB am).length = am.length := by unfold nwB; simp
theorem nwB_succ {am : List (Sh.T .int)} {k : Nat} (h : k < am.length) : nwB (am.take (k + 1)) = nwB (am.take k) ++ [nwBk (atI am k)] := by
  unfold nwB; rw [List.take_succ_eq_append_getElem h, List.map_append, atI_lt h]; rfl
/-- What NewNet takes. -/
def nwP (am : List (Sh.T .int)) : Prop := (2 ≤ (am.length : Int) ∧ (am.length : Int) ≤ 5) ∧ ∀ k, k < am.length → 0 ≤ atI am k ∧ atI am k ≤ 1000000
noncomputable def nbA (am : List (Sh.T .int)) : List (Sh.T shBank) := if tf (nwP am) = true then nwB am else []
noncomputable def nyA (am : List (Sh.T .int)) : List (Sh.T shWay) := if tf (nwP am) = true then nwW am.length (am.length * (am.length - 1)) else []
theorem nw_none {am : List (Sh.T .int)} (h : ¬ nwP am) : nbA am = [] ∧ nyA am = [] ∧ tf (nwP am) = false := by unfold nbA nyA; rw [tf_no h]; exact ⟨rfl, rfl, rfl⟩
theorem nw_some {am : List (Sh.T .int)} (h : nwP am) : nbA am = nwB am ∧ nyA am = nwW am.length (am.length * (am.length - 1)) ∧ tf (nwP am) = true := by unfold nbA nyA; rw [tf_yes h]; exact ⟨rfl, rfl, rfl⟩
def bkC (b : Sh.T shBank) : List Value := [.int .i64 (bam b), .bool (bmk b), .int .i64 (bnt b)]
def wyC (y : Sh.T shWay) : List Value := [.int .i64 (wfr y), .int .i64 (wto y), .slice none 0 0, .bool (wwt y), .slice none 0 0]
/-- Between the rounds: the answer's cells, the variable n, its two rows. -/
structure NwS (w wr : World) (v1 : Value) (l1 : List (Sh.T shBank)) (v2 : Value) (l2 : List (Sh.T shWay)) : Prop where
  an : Bx wr w.heap.size [.slice none 0 0, .slice none 0 0]
  bx : Bx wr (w.heap.size + 1) [v1, v2]
  r1 : wr.ownsRow (w.heap.size + 2) 80 3 v1 l1.length (l1.flatMap bkC)
  r2 : wr.ownsRow (w.heap.size + 2) 83 5 v2 l2.length (l2.flatMap wyC)
  ne : ∀ b, v1.ownBlock = some b → v2.ownBlock ≠ some b
  bw : Below w.heap.size w wr
  sz : w.heap.size + 2 ≤ wr.heap.size
theorem row_keep {W W' : World} {lo : Nat} {e : TypeId} {c : Nat} {v : Value} {n : Nat} {xs : List Value} (h : W.ownsRow lo e c v n xs) (hb : ∀ k, v.ownBlock = some k → W'.heap[k]? = W.heap[k]?) : W'.ownsRow lo e c v n xs := by
  obtain ⟨h1, h2⟩ := h
  refine ⟨h1, ?_⟩
  rcases h2 with h | ⟨g, cap, cur, hv, hl, h0, r⟩
  · exact Or.inl h
  · exact Or.inr ⟨g, cap, cur, hv, hl, (hb g (by rw [hv]; rfl)).trans h0, r⟩
theorem NwS.next {w wr wr' : World} {v1 v2 : Value} {l1 : List (Sh.T shBank)} {l2 : List (Sh.T shWay)} (h : NwS w wr v1 l1 v2 l2) (hb : Below wr.heap.size wr wr') : NwS w wr' v1 l1 v2 l2 :=
  ⟨h.an.next hb, h.bx.next hb, row_keep h.r1 (fun k hk => hb.block k (h.r1.lt k hk).2), row_keep h.r2 (fun k hk => hb.block k (h.r2.lt k hk).2), h.ne, below_next h.bw hb, Nat.le_trans h.sz hb.size⟩
theorem NwS.appB {w W W9 : World} {v1 v2 v9 : Value} {l1 : List (Sh.T shBank)} {l2 : List (Sh.T shWay)} {b : Sh.T shBank} (h : NwS w W v1 l1 v2 l2)
    (ho : W9.ownsRow (w.heap.size + 2) 80 3 v9 (l1.length + 1) (l1.flatMap bkC ++ bkC b)) (hg : W.grownBy W9 v1.ownBlock) (hwh : v9.ownBlock = v1.ownBlock ∨ v9.ownBlock = some W.heap.size) :
    NwS w (W9.setCell ⟨w.heap.size + 1, 0, none⟩ v9) v9 (l1 ++ [b]) v2 l2 ∧ Bx W9 (w.heap.size + 1) [v1, v2] := by
  have hlt : ∀ k, v1.ownBlock = some k → w.heap.size + 2 ≤ k := fun k hk => (h.r1.lt k hk).1
  have h0 := h.an.grow hg (fun q => by have := hlt _ q.symm; omega)
  have h3 := h.bx.grow hg (fun q => by have := hlt _ q.symm; omega)
  have hB : Below w.heap.size w W9 := h.bw.grown hg h.bw.size (fun k hk => by have := hlt k hk; omega)
  have hs := hg.size
  have hz := h.sz
  refine ⟨⟨h0.other (by omega), h3.set (k := 0) (by simp) v9, ?_, ?_, fun k hk q => ?_, hB.setCell (p := ⟨w.heap.size + 1, 0, none⟩) (by simp) _, by simp; omega⟩, h3⟩
  · rw [List.length_append, List.flatMap_append, List.flatMap_singleton]
    exact row_keep ho (fun k hk => Below.heap_setCell _ _ _ _ (fun e => by have := (ho.lt k hk).1; have : k = w.heap.size + 1 := e; omega))
  · refine row_keep h.r2 (fun k hk => ?_)
    have := h.r2.lt k hk
    rw [Below.heap_setCell _ _ _ _ (fun e => by have : k = w.heap.size + 1 := e; omega)]
    exact hg.block k this.2 (fun q => h.ne k q.symm hk)
  · rcases hwh with e | e
    · rw [e] at hk; exact h.ne k hk q
    · rw [e] at hk; cases hk
      have := (h.r2.lt _ q).2; omega
theorem NwS.appW {w W W9 : World} {v1 v2 v9 : Value} {l1 : List (Sh.T shBank)} {l2 : List (Sh.T shWay)} {y : Sh.T shWay} (h : NwS w W v1 l1 v2 l2)
    (ho : W9.ownsRow (w.heap.size + 2) 83 5 v9 (l2.length + 1) (l2.flatMap wyC ++ wyC y)) (hg : W.grownBy W9 v2.ownBlock) (hwh : v9.ownBlock = v2.ownBlock ∨ v9.ownBlock = some W.heap.size) :
    NwS w (W9.setCell ⟨w.heap.size + 1, 1, none⟩ v9) v1 l1 v9 (l2 ++ [y]) ∧ Bx W9 (w.heap.size + 1) [v1, v2] := by
  have hlt : ∀ k, v2.ownBlock = some k → w.heap.size + 2 ≤ k := fun k hk => (h.r2.lt k hk).1
  have h0 := h.an.grow hg (fun q => by have := hlt _ q.symm; omega)
  have h3 := h.bx.grow hg (fun q => by have := hlt _ q.symm; omega)
  have hB : Below w.heap.size w W9 := h.bw.grown hg h.bw.size (fun k hk => by have := hlt k hk; omega)
  have hs := hg.size
  have hz := h.sz
  refine ⟨⟨h0.other (by omega), h3.set (k := 1) (by simp) v9, ?_, ?_, fun k hk q => ?_, hB.setCell (p := ⟨w.heap.size + 1, 1, none⟩) (by simp) _, by simp; omega⟩, h3⟩
  · refine row_keep h.r1 (fun k hk => ?_)
    have := h.r1.lt k hk
    rw [Below.heap_setCell _ _ _ _ (fun e => by have : k = w.heap.size + 1 := e; omega)]
    exact hg.block k this.2 (fun q => h.ne k hk q.symm)
  · rw [List.length_append, List.flatMap_append, List.flatMap_singleton]
    exact row_keep ho (fun k hk => Below.heap_setCell _ _ _ _ (fun e => by have := (ho.lt k hk).1; have : k = w.heap.size + 1 := e; omega))
  · rcases hwh with e | e
    · rw [e] at q; exact h.ne k hk q
    · rw [e] at q; cases q
      have := (h.r1.lt _ hk).2; omega
theorem nwy_own {W : World} {lo c m : Nat} {v : Value} (h : W.ownsRow lo 83 5 v (nwW m c).length ((nwW m c).flatMap wyC)) : OwnX W lo (.list tyWay 83) [v] (nwW m c) (fun k => v.ownBlock = some k) :=
  OwnX.of_row (B := fun _ _ => False) h (fun k hk => hk) (fun i hi k q => q.elim) (fun i j _ _ k q => q.elim) (fun i hi => by
    have e : ((nwW m c).flatMap wyC |>.drop (i * tyWay.c)).take tyWay.c = wyC (nwW m c)[i] := flat_chunk (f := wyC) (c := 5) (fun _ => rfl) (nwW m c) i hi
    rw [e]
    have e2 : (nwW m c)[i] = nwWy m i := nwW_at hi
    refine (show ∀ y : Sh.T shWay, y = nwWy m i → OwnX W lo tyWay (wyC y) y (fun _ => False) from fun y q => ?_) _ e2
    subst q
    exact mkownx_Way (x0 := (frA m i : Nat)) (x1 := (toA m i : Nat)) (x3 := false) (S1 := fun _ => False) (S2 := fun _ => False) OwnX.nil' OwnX.nil' (fun k q => q.elim) (fun k q => q.elim) (fun k q => q.elim))
theorem nbk_own {W : World} {lo : Nat} {v : Value} {l : List (Sh.T shBank)} (h : W.ownsRow lo 80 3 v l.length (l.flatMap bkC)) : OwnX W lo (.list tyBank 80) [v] l (fun k => v.ownBlock = some k) :=
  OwnX.of_flat (e := tyBank) rfl h (fun k hk => hk)
theorem set2 (W : World) (g : Nat) (u0 u1 : Value) : TurnS (fun k => k = g) W ((W.setCell ⟨g, 0, none⟩ u0).setCell ⟨g, 1, none⟩ u1) :=
  ((TurnS.refl (fun k => k = g) W).set (S := fun k => k = g) (p := ⟨g, 0, none⟩) rfl _).set (S := fun k => k = g) (p := ⟨g, 1, none⟩) rfl _
theorem NwS.done {w wr W : World} {v1 v2 : Value} {l1 : List (Sh.T shBank)} {m c : Nat} (h : NwS w wr v1 l1 v2 (nwW m c)) (hW : TurnS (fun k => k = w.heap.size) wr W) :
    OwnX W w.heap.size tyNet [v1, v2] (l1, nwW m c, ()) (Btw w.heap.size W.heap.size) := by
  have hz := hW.size
  have h1 := (nbk_own h.r1).turn hW (fun k hk e => by have := (h.r1.lt k hk).1; have : k = w.heap.size := e; omega)
  have h2 := (nwy_own h.r2).turn hW (fun k hk e => by have := (h.r2.lt k hk).1; have : k = w.heap.size := e; omega)
  exact mkownx_Net (h1.lower (by omega)) (h2.lower (by omega)) (fun k hk => by have := h.r1.lt k hk; simp only [Btw]; omega) (fun k hk => by have := h.r2.lt k hk; simp only [Btw]; omega) (fun k hk q => h.ne k hk q)
theorem own_netZ {w : World} {lo : Nat} {S : Nat → Prop} : OwnX w lo tyNet [.slice none 0 0, .slice none 0 0] ([], [], ()) S :=
  mkownx_Net (S1 := fun _ => False) (S2 := fun _ => False) OwnX.nil' OwnX.nil' (fun k e => e.elim) (fun k e => e.elim) (fun k e => e.elim)
/-- A net, its rows known exactly, and a bool are answered. -/
def AnX (bs : List (Sh.T shBank)) (ws : List (Sh.T shWay)) (ok : Bool) (w : World) (r : Ending) (w' : World) : Prop := ∃ v1 v2, r = .returned (.tuple #[.agg #[v1, v2], .bool ok]) ∧ OwnX w' w.heap.size tyNet [v1, v2] (bs, ws, ()) (Btw w.heap.size w'.heap.size) ∧ Below w.heap.size w w'
theorem row_form {W : World} {lo : Nat} {e : TypeId} {c : Nat} {v : Value} {n : Nat} {xs : List Value} (h : W.ownsRow lo e c v n xs) : ∃ a k, v = .slice a n k := by
  rcases Go.Joins.ownsRow_forms h with ⟨q, q0⟩ | ⟨g, cap, q⟩
  · exact ⟨none, 0, by rw [q, q0]⟩
  · exact ⟨_, _, q⟩

set_option maxRecDepth 100000 in
set_option maxHeartbeats 8000000 in
theorem specNewNet_x (a : Option Addr) (cp : Nat) (am : List (Sh.T .int)) (w : World) (hn : am.length ≤ 1073741824) (h : Lies w (.list .int) [.slice a am.length cp] am) :
    Calls Try.prog 27 #[.slice a am.length cp] w (AnX (nbA am) (nyA am) (tf (nwP am)) w) := by
  have HL := Hid.intro h
  clear h
  cases c0 : inR (am.length : Int) 2 5
  · obtain ⟨e1, e2, e3⟩ := nw_none (am := am) (fun q => by rw [inR_iff.2 q.1] at c0; cases c0)
    rw [e1, e2, e3]
    clear e1 e2 e3
    go_enter Try.func27, Try.ntmps27
    go_wp2_with (go_at_call 54; refine (l1In_any _ _ _ _).mono ?_; rintro e w' ⟨rfl, hw⟩; have hw := hw.symm; subst hw; rw [c0])
    exact bodyPost_ret (v := .tuple #[.agg #[.slice none 0 0, .slice none 0 0], .bool false]) (by simp [results, Try.results27, go_sem, *]) rfl ⟨.slice none 0 0, .slice none 0 0, rfl, own_netZ, (by repeat (first | refine Below.setCell ?_ (by (try simp) <;> omega) _ | refine Below.alloc ?_ (by (try simp) <;> omega) _ | refine Below.drew ?_ | assumption | exact Below.refl _ _ | refine Below.trans ?_ (Below.mono (by assumption) (by (try simp) <;> omega))))⟩
  have hm := inR_iff.1 c0
  obtain ⟨hm1, hm2⟩ := hm
  obtain ⟨n, hnE⟩ : ∃ n, n = am.length := ⟨_, rfl⟩
  have HN := Hid.intro hnE
  rw [← hnE] at hm1 hm2 c0
  obtain ⟨PO, hPO⟩ : ∃ P, P = AnX (nbA am) (nyA am) (tf (nwP am)) w := ⟨_, rfl⟩
  have HPO := Hid.intro hPO
  rw [← hPO]
  rw [← hnE]
  clear hPO hnE hn
  go_enter Try.func27, Try.ntmps27
  go_wp2_with (go_at_call 54; refine (l1In_any _ _ _ _).mono ?_; rintro e w' ⟨rfl, hw⟩; have hw := hw.symm; subst hw; rw [c0])
  clear c0
  go_loopw [16] (fun i wr => ∃ (k : Nat) (v1 v2 : Value), k ≤ n ∧ i = .int .i64 k ∧ (∀ j, j < k → 0 ≤ atI am j ∧ atI am j ≤ 1000000) ∧ NwS w wr v1 (nwB (am.take k)) v2 (nwW n (k * (n - 1)))) (fun i _ => n - (intOf i).toNat)
  case atStart =>
    exact ⟨0, .slice none 0 0, .slice none 0 0, Nat.zero_le _, rfl, fun j hj => absurd hj (Nat.not_lt_zero j), ⟨(Bx.new w [_, _] _).alloc _, Bx.newAt (by simp), by simpa [nwB] using World.ownsRow_nil _ _ _ _, by simpa [nwW] using World.ownsRow_nil _ _ _ _, (fun b hb => by cases hb), ((Below.refl _ _).alloc (Nat.le_refl _) _).alloc (by simp) _, by simp⟩⟩
  case round =>
    obtain ⟨k, v1, v2, hk, rfl, hall, hS⟩ := hrel
    have HS := Hid.intro hS
    have HA := Hid.intro hall
    clear hall
    by_cases hlt : k < n
    · have hlx : k < am.length := by have := HN.out; omega
      have hlt' : (k : Int) < (n : Int) := by omega
      obtain ⟨ag, ao, har, hca, hgs⟩ := lies_at (HL.out.next hS.bw) hlx
      have hgw : ag < w.heap.size := by
        obtain ⟨q1, q2, q3, _, q5⟩ := lies_at HL.out hlx
        rw [har] at q3
        simp only [Option.some.injEq, Addr.mk.injEq, and_true] at q3
        obtain ⟨rfl, rfl⟩ := q3
        exact q5
      subst har
      have HPT := Hid.intro (nwB_succ hlx)
      have HY : Hid (0 ≤ atI am k ∧ atI am k ≤ 1000000 ↔ inR (atI am k) 0 1000000 = true) := Hid.intro inR_iff.symm
      obtain ⟨y, hy⟩ : ∃ y, y = atI am k := ⟨_, rfl⟩
      have HYE := Hid.intro hy
      rw [← hy] at hca HPT HY
      clear hy
      cases c : inR y 0 1000000
      · have HBAD : Hid (¬ nwP am) := Hid.intro (fun q => by
          have h1 := q.2 k hlx
          rw [← HYE.out] at h1
          rw [HY.out.1 h1] at c; cases c)
        have s0 := (hS.an).cell 0 rfl; have s1 := (hS.an).cell 1 rfl; have sz := (hS.an).2
        have f0 := hS.an.frz 0 (by simp)
        have f1 := hS.an.frz 1 (by simp)
        clear hS HPT HY
        go_wp2_with (go_at_call 54; refine (l1In_any _ _ _ _).mono ?_; rintro e w' ⟨rfl, hw⟩; have hw := hw.symm; subst hw; rw [c])
        refine bodyPost_ret (v := .tuple #[.agg #[.slice none 0 0, .slice none 0 0], .bool false]) (by simp [results, Try.results27, go_sem, *]) rfl ?_
        rw [HPO.out]
        obtain ⟨e1, e2, e3⟩ := nw_none HBAD.out
        rw [e1, e2, e3]
        exact ⟨_, _, rfl, own_netZ, HS.out.bw.trans ((set2 wr w.heap.size _ _).below (fun k e => Nat.le_of_eq e.symm) HS.out.bw.size)⟩
      have HS2 : Hid (∀ j, j < k + 1 → 0 ≤ atI am j ∧ atI am j ≤ 1000000) := Hid.intro (fun j hj => by
        by_cases e : j = k
        · subst e; rw [← HYE.out]; exact HY.out.2 c
        · exact HA.out j (by omega))
      clear HY HYE HA
      obtain ⟨M1, hM1⟩ : ∃ M, M = nwB (am.take k) := ⟨_, rfl⟩
      have hml : M1.length ≤ 1000 := by rw [hM1, nwB_len, List.length_take]; omega
      rw [← hM1] at HS HPT
      obtain ⟨M2, hM2⟩ : ∃ M, M = nwW n (k * (n - 1)) := ⟨_, rfl⟩
      have HM2 := Hid.intro hM2
      rw [← hM2] at HS
      clear hM1 hM2 hS
      have HQ := Hid.intro (HS.out.next (Go.Joins.below_alloc1 wr (.cells #[.int .i64 y, .bool false, .int .i64 0] 80)))
      have HNW := Hid.intro (cells_new wr [.int .i64 y, .bool false, .int .i64 0] 80)
      have HBA : Hid (bkC (nwBk y) = [.int .i64 y, .bool false, .int .i64 0]) := Hid.intro rfl
      have hzb : w.heap.size + 2 ≤ wr.heap.size := HS.out.sz
      obtain ⟨sa1, sc1, hv1⟩ := row_form HS.out.r1
      obtain ⟨sa2, sc2, hv2⟩ := row_form HS.out.r2
      subst hv1 hv2
      have hws : k * (n - 1) ≤ 16 := Nat.le_trans (Nat.mul_le_mul (show k ≤ 4 by omega) (show n - 1 ≤ 4 by omega)) (by decide)
      obtain ⟨i0, hi0, hz0, hz1, hz2⟩ := info_parts inf_Bank
      have s0 := (HS.out.bx).cell 0 rfl; have s1 := (HS.out.bx).cell 1 rfl; have sz := (HS.out.bx).2
      go_wp2_with (first | (go_at_call 54; refine (l1In_any _ _ _ _).mono ?_; rintro e w' ⟨rfl, hw⟩; have hw := hw.symm; subst hw; rw [c]) | (at_builtin; refine wpList_append_own_at _ rfl (.tmp 26) (.tmp 29) 27 rfl (w.heap.size + 2) 80 i0 (.agg #[.int .i64 0, .bool false, .int .i64 0]) 3 24 Try.underlying27 hi0 hz0 hz1 hz2 rfl (by decide) (.slice sa1 M1.length sc1) M1.length (M1.flatMap bkC) rfl (HQ.out.r1) ⟨wr.heap.size, 0, none⟩ 1 1 [.int .i64 y, .bool false, .int .i64 0] rfl rfl (HNW.out) (by intro u hu; simp at hu; rcases hu with rfl | rfl | rfl <;> rfl) (by unfold maxLen; omega) (by omega) (by simp <;> omega) ?_; intro v9 w9 hown9 hgrow9 hnil9 hwh9; have HF := Hid.intro (NwS.appB HQ.out (b := nwBk y) hown9 hgrow9 hwh9); obtain ⟨a9, c9, hv9⟩ := row_form HF.out.1.r1; rw [List.length_append, List.length_singleton] at hv9; subst hv9; clear s0 s1 sz; have r0 := HF.out.2.cell 0 rfl; have r1 := HF.out.2.cell 1 rfl; have rz := HF.out.2.2; have q0 := HF.out.2.frz 0 (by simp); clear hown9 hgrow9 hnil9 hwh9))
      clear r0 r1 rz q0 hi0 hz0 hz1 hz2 i0
      obtain ⟨wo, hwo⟩ : ∃ x, x = wr := ⟨_, rfl⟩
      subst hwo
      go_loopw [34] (fun i wr => ∃ (t : Nat) (v2 : Value), t ≤ n ∧ i = .int .i64 t ∧ NwS w wr (.slice a9 (M1.length + 1) c9) (M1 ++ [nwBk y]) v2 (nwW n (wAt n k t))) (fun i _ => n - (intOf i).toNat)
      case atStart => exact ⟨0, _, Nat.zero_le _, rfl, by rw [wAt_zero, ← HM2.out]; exact HF.out.1⟩
      case round =>
        obtain ⟨t, v2, ht, rfl, hT⟩ := hrel
        have HT := Hid.intro hT
        by_cases htn : t < n
        · have htn' : (t : Int) < (n : Int) := by omega
          by_cases htk : t = k
          · have e1 : ((t : Int) != (k : Int)) = false := by simp; omega
            have e2 : ((t : Int) == (k : Int)) = true := by simp; omega
            have e3 : (t : Int) = (k : Int) := by omega
            have HW : Hid (nwW n (wAt n k (t + 1)) = nwW n (wAt n k t)) := Hid.intro (by rw [htk, wAt_same])
            clear hT
            go_wp2
            go_roundw
            case rel => exact ⟨t + 1, v2, by omega, by go_num, by rw [HW.out]; exact HT.out⟩
            case measure => simp [intOf]; omega
          · have e1 : ((t : Int) != (k : Int)) = true := by simp; omega
            have e2 : ((t : Int) == (k : Int)) = false := by simp; omega
            have e3 : ¬ (t : Int) = (k : Int) := by omega
            have hwa := wAt_fr (m := n) ⟨by omega, by omega⟩ hlt htn htk
            have HW : Hid (nwW n (wAt n k (t + 1)) = nwW n (wAt n k t) ++ [nwWy n (wAt n k t)]) := Hid.intro (by rw [wAt_succ htk, nwW_succ])
            have HWE : Hid (wyC (nwWy n (wAt n k t)) = [.int .i64 (k : Int), .int .i64 (t : Int), .slice none 0 0, .bool false, .slice none 0 0]) := Hid.intro (by unfold nwWy; rw [hwa.2.1, hwa.2.2]; rfl)
            have hc20 : wAt n k t ≤ 20 := Nat.le_of_lt (Nat.lt_of_lt_of_le hwa.1 (Nat.le_trans (Nat.mul_le_mul (show n ≤ 5 by omega) (show n - 1 ≤ 4 by omega)) (by decide)))
            have HNL := Hid.intro (nwW_len n (wAt n k t))
            obtain ⟨M3, hM3⟩ : ∃ M, M = nwW n (wAt n k t) := ⟨_, rfl⟩
            rw [← hM3] at HW HT HNL
            have hm3 : M3.length ≤ 1000 := by have := HNL.out; omega
            clear hM3 hwa hT htk
            have HQ2 := Hid.intro (HT.out.next (Go.Joins.below_alloc1 wr (.cells #[.int .i64 (k : Int), .int .i64 (t : Int), .slice none 0 0, .bool false, .slice none 0 0] 83)))
            have HNW2 := Hid.intro (cells_new wr [.int .i64 (k : Int), .int .i64 (t : Int), .slice none 0 0, .bool false, .slice none 0 0] 83)
            have hzb2 : w.heap.size + 2 ≤ wr.heap.size := HT.out.sz
            obtain ⟨ta, tc, hv2⟩ := row_form HT.out.r2
            subst hv2
            obtain ⟨i0, hi0, hz0, hz1, hz2⟩ := info_parts inf_Way
            have s0 := (HT.out.bx).cell 0 rfl; have s1 := (HT.out.bx).cell 1 rfl; have sz := (HT.out.bx).2
            go_wp2_with (first | (at_builtin; refine wpList_append_own_at _ rfl (.tmp 41) (.tmp 45) 28 rfl (w.heap.size + 2) 83 i0 (.agg #[.int .i64 0, .int .i64 0, .slice none 0 0, .bool false, .slice none 0 0]) 5 72 Try.underlying28 hi0 hz0 hz1 hz2 rfl (by decide) (.slice ta M3.length tc) M3.length (M3.flatMap wyC) rfl (HQ2.out.r2) ⟨wr.heap.size, 0, none⟩ 1 1 [.int .i64 (k : Int), .int .i64 (t : Int), .slice none 0 0, .bool false, .slice none 0 0] rfl rfl (HNW2.out) (by intro u hu; simp at hu; rcases hu with rfl | rfl | rfl | rfl | rfl <;> rfl) (by unfold maxLen; omega) (by omega) (by simp <;> omega) ?_; intro v9 w9 hown9 hgrow9 hnil9 hwh9; rw [← HWE.out] at hown9; have HF2 := Hid.intro (NwS.appW HQ2.out (y := nwWy n (wAt n k t)) hown9 hgrow9 hwh9); obtain ⟨b9, d9, hv9⟩ := row_form HF2.out.1.r2; rw [List.length_append, List.length_singleton] at hv9; subst hv9; clear s0 s1 sz; have r0 := HF2.out.2.cell 0 rfl; have r1 := HF2.out.2.cell 1 rfl; have rz := HF2.out.2.2; have q1 := HF2.out.2.frz 1 (by simp); clear hown9 hgrow9 hnil9 hwh9))
            go_roundw
            case rel => exact ⟨t + 1, _, by omega, by go_num, by rw [HW.out]; exact HF2.out.1⟩
            case measure => simp [intOf]; omega
        · have htE : t = n := by omega
          have HW : Hid (nwW n ((k + 1) * (n - 1)) = nwW n (wAt n k t)) := Hid.intro (by rw [htE, wAt_end hlt])
          clear hT htE
          go_wp2
          go_roundw
          case rel => exact ⟨k + 1, _, v2, by omega, by go_num, HS2.out, by rw [HPT.out, HW.out]; exact HT.out⟩
          case measure => simp [intOf]; omega
    · have hkn : k = n := by omega
      have HG : Hid (nwP am) := Hid.intro ⟨by have := HN.out; omega, fun j hj => HA.out j (by have := HN.out; omega)⟩
      have HE : Hid (nwB (am.take k) = nwB am ∧ nwW n (k * (n - 1)) = nwW am.length (am.length * (am.length - 1))) := Hid.intro ⟨by rw [hkn, HN.out, List.take_length], by rw [hkn, ← HN.out]⟩
      obtain ⟨sa1, sc1, hv1⟩ := row_form hS.r1
      obtain ⟨sa2, sc2, hv2⟩ := row_form hS.r2
      subst hv1 hv2
      have HD := Hid.intro (hS.done (set2 wr w.heap.size (.slice sa1 (nwB (am.take k)).length sc1) (.slice sa2 (nwW n (k * (n - 1))).length sc2)))
      generalize (nwB (am.take k)).length = n1 at *
      generalize (nwW n (k * (n - 1))).length = n2 at *
      have s0 := (HS.out.an).cell 0 rfl; have s1 := (HS.out.an).cell 1 rfl; have sz := (HS.out.an).2
      have f0 := HS.out.an.frz 0 (by simp)
      have f1 := HS.out.an.frz 1 (by simp)
      have p0 := (HS.out.bx).cell 0 rfl; have p1 := (HS.out.bx).cell 1 rfl; have pz := (HS.out.bx).2
      clear hS HA hkn
      go_wp2
      refine bodyPost_ret (v := .tuple #[.agg #[.slice sa1 n1 sc1, .slice sa2 n2 sc2], .bool true]) (by simp [results, Try.results27, go_sem, *]) rfl ?_
      rw [HPO.out]
      obtain ⟨e1, e2, e3⟩ := nw_some HG.out
      rw [e1, e2, e3]
      have h9 := HD.out
      rw [HE.out.1, HE.out.2] at h9
      exact ⟨_, _, rfl, h9, HS.out.bw.trans ((set2 wr w.heap.size _ _).below (fun k e => Nat.le_of_eq e.symm) HS.out.bw.size)⟩

set_option maxRecDepth 100000 in
set_option maxHeartbeats 8000000 in
theorem newNet_x (a : Option Addr) (cp : Nat) (am : List (Sh.T .int)) (w : World) (hn : am.length ≤ 1073741824) (h : Lies w (.list .int) [.slice a am.length cp] am) :
    Calls Try.prog 29 #[.slice a am.length cp] w (AnX (nbA am) (nyA am) (tf (nwP am)) w) := by
  have HL := Hid.intro h
  clear h
  cases c0 : inR (am.length : Int) 2 5
  · obtain ⟨e1, e2, e3⟩ := nw_none (am := am) (fun q => by rw [inR_iff.2 q.1] at c0; cases c0)
    rw [e1, e2, e3]
    clear e1 e2 e3
    go_enter Try.func29, Try.ntmps29
    go_wp2_with (go_at_call 50; refine (inRange_any _ _ _ _).mono ?_; rintro e w' ⟨rfl, hw⟩; have hw := hw.symm; subst hw; rw [c0])
    exact bodyPost_ret (v := .tuple #[.agg #[.slice none 0 0, .slice none 0 0], .bool false]) (by simp [results, Try.results29, go_sem, *]) rfl ⟨.slice none 0 0, .slice none 0 0, rfl, own_netZ, (by repeat (first | refine Below.setCell ?_ (by (try simp) <;> omega) _ | refine Below.alloc ?_ (by (try simp) <;> omega) _ | refine Below.drew ?_ | assumption | exact Below.refl _ _ | refine Below.trans ?_ (Below.mono (by assumption) (by (try simp) <;> omega))))⟩
  have hm := inR_iff.1 c0
  obtain ⟨hm1, hm2⟩ := hm
  obtain ⟨n, hnE⟩ : ∃ n, n = am.length := ⟨_, rfl⟩
  have HN := Hid.intro hnE
  rw [← hnE] at hm1 hm2 c0
  obtain ⟨PO, hPO⟩ : ∃ P, P = AnX (nbA am) (nyA am) (tf (nwP am)) w := ⟨_, rfl⟩
  have HPO := Hid.intro hPO
  rw [← hPO]
  rw [← hnE]
  clear hPO hnE hn
  go_enter Try.func29, Try.ntmps29
  go_wp2_with (go_at_call 50; refine (inRange_any _ _ _ _).mono ?_; rintro e w' ⟨rfl, hw⟩; have hw := hw.symm; subst hw; rw [c0])
  clear c0
  go_loopw [15] (fun i wr => ∃ (k : Nat) (v1 v2 : Value), k ≤ n ∧ i = .int .i64 k ∧ (∀ j, j < k → 0 ≤ atI am j ∧ atI am j ≤ 1000000) ∧ NwS w wr v1 (nwB (am.take k)) v2 (nwW n (k * (n - 1)))) (fun i _ => n - (intOf i).toNat)
  case atStart =>
    exact ⟨0, .slice none 0 0, .slice none 0 0, Nat.zero_le _, rfl, fun j hj => absurd hj (Nat.not_lt_zero j), ⟨(Bx.new w [_, _] _).alloc _, Bx.newAt (by simp), by simpa [nwB] using World.ownsRow_nil _ _ _ _, by simpa [nwW] using World.ownsRow_nil _ _ _ _, (fun b hb => by cases hb), ((Below.refl _ _).alloc (Nat.le_refl _) _).alloc (by simp) _, by simp⟩⟩
  case round =>
    obtain ⟨k, v1, v2, hk, rfl, hall, hS⟩ := hrel
    have HS := Hid.intro hS
    have HA := Hid.intro hall
    clear hall
    by_cases hlt : k < n
    · have hlx : k < am.length := by have := HN.out; omega
      have hlt' : (k : Int) < (n : Int) := by omega
      obtain ⟨ag, ao, har, hca, hgs⟩ := lies_at (HL.out.next hS.bw) hlx
      have hgw : ag < w.heap.size := by
        obtain ⟨q1, q2, q3, _, q5⟩ := lies_at HL.out hlx
        rw [har] at q3
        simp only [Option.some.injEq, Addr.mk.injEq, and_true] at q3
        obtain ⟨rfl, rfl⟩ := q3
        exact q5
      subst har
      have HPT := Hid.intro (nwB_succ hlx)
      have HY : Hid (0 ≤ atI am k ∧ atI am k ≤ 1000000 ↔ inR (atI am k) 0 1000000 = true) := Hid.intro inR_iff.symm
      obtain ⟨y, hy⟩ : ∃ y, y = atI am k := ⟨_, rfl⟩
      have HYE := Hid.intro hy
      rw [← hy] at hca HPT HY
      clear hy
      cases c : inR y 0 1000000
      · have HBAD : Hid (¬ nwP am) := Hid.intro (fun q => by
          have h1 := q.2 k hlx
          rw [← HYE.out] at h1
          rw [HY.out.1 h1] at c; cases c)
        have s0 := (hS.an).cell 0 rfl; have s1 := (hS.an).cell 1 rfl; have sz := (hS.an).2
        have f0 := hS.an.frz 0 (by simp)
        have f1 := hS.an.frz 1 (by simp)
        clear hS HPT HY
        go_wp2_with (go_at_call 50; refine (inRange_any _ _ _ _).mono ?_; rintro e w' ⟨rfl, hw⟩; have hw := hw.symm; subst hw; rw [c])
        refine bodyPost_ret (v := .tuple #[.agg #[.slice none 0 0, .slice none 0 0], .bool false]) (by simp [results, Try.results29, go_sem, *]) rfl ?_
        rw [HPO.out]
        obtain ⟨e1, e2, e3⟩ := nw_none HBAD.out
        rw [e1, e2, e3]
        exact ⟨_, _, rfl, own_netZ, HS.out.bw.trans ((set2 wr w.heap.size _ _).below (fun k e => Nat.le_of_eq e.symm) HS.out.bw.size)⟩
      have HS2 : Hid (∀ j, j < k + 1 → 0 ≤ atI am j ∧ atI am j ≤ 1000000) := Hid.intro (fun j hj => by
        by_cases e : j = k
        · subst e; rw [← HYE.out]; exact HY.out.2 c
        · exact HA.out j (by omega))
      clear HY HYE HA
      obtain ⟨M1, hM1⟩ : ∃ M, M = nwB (am.take k) := ⟨_, rfl⟩
      have hml : M1.length ≤ 1000 := by rw [hM1, nwB_len, List.length_take]; omega
      rw [← hM1] at HS HPT
      obtain ⟨M2, hM2⟩ : ∃ M, M = nwW n (k * (n - 1)) := ⟨_, rfl⟩
      have HM2 := Hid.intro hM2
      rw [← hM2] at HS
      clear hM1 hM2 hS
      have HQ := Hid.intro (HS.out.next (Go.Joins.below_alloc1 wr (.cells #[.int .i64 y, .bool false, .int .i64 0] 80)))
      have HNW := Hid.intro (cells_new wr [.int .i64 y, .bool false, .int .i64 0] 80)
      have HBA : Hid (bkC (nwBk y) = [.int .i64 y, .bool false, .int .i64 0]) := Hid.intro rfl
      have hzb : w.heap.size + 2 ≤ wr.heap.size := HS.out.sz
      obtain ⟨sa1, sc1, hv1⟩ := row_form HS.out.r1
      obtain ⟨sa2, sc2, hv2⟩ := row_form HS.out.r2
      subst hv1 hv2
      have hws : k * (n - 1) ≤ 16 := Nat.le_trans (Nat.mul_le_mul (show k ≤ 4 by omega) (show n - 1 ≤ 4 by omega)) (by decide)
      obtain ⟨i0, hi0, hz0, hz1, hz2⟩ := info_parts inf_Bank
      have s0 := (HS.out.bx).cell 0 rfl; have s1 := (HS.out.bx).cell 1 rfl; have sz := (HS.out.bx).2
      go_wp2_with (first | (go_at_call 50; refine (inRange_any _ _ _ _).mono ?_; rintro e w' ⟨rfl, hw⟩; have hw := hw.symm; subst hw; rw [c]) | (at_builtin; refine wpList_append_own_at _ rfl (.tmp 25) (.tmp 28) 27 rfl (w.heap.size + 2) 80 i0 (.agg #[.int .i64 0, .bool false, .int .i64 0]) 3 24 Try.underlying27 hi0 hz0 hz1 hz2 rfl (by decide) (.slice sa1 M1.length sc1) M1.length (M1.flatMap bkC) rfl (HQ.out.r1) ⟨wr.heap.size, 0, none⟩ 1 1 [.int .i64 y, .bool false, .int .i64 0] rfl rfl (HNW.out) (by intro u hu; simp at hu; rcases hu with rfl | rfl | rfl <;> rfl) (by unfold maxLen; omega) (by omega) (by simp <;> omega) ?_; intro v9 w9 hown9 hgrow9 hnil9 hwh9; have HF := Hid.intro (NwS.appB HQ.out (b := nwBk y) hown9 hgrow9 hwh9); obtain ⟨a9, c9, hv9⟩ := row_form HF.out.1.r1; rw [List.length_append, List.length_singleton] at hv9; subst hv9; clear s0 s1 sz; have r0 := HF.out.2.cell 0 rfl; have r1 := HF.out.2.cell 1 rfl; have rz := HF.out.2.2; have q0 := HF.out.2.frz 0 (by simp); clear hown9 hgrow9 hnil9 hwh9))
      clear r0 r1 rz q0 hi0 hz0 hz1 hz2 i0
      obtain ⟨wo, hwo⟩ : ∃ x, x = wr := ⟨_, rfl⟩
      subst hwo
      go_loopw [33] (fun i wr => ∃ (t : Nat) (v2 : Value), t ≤ n ∧ i = .int .i64 t ∧ NwS w wr (.slice a9 (M1.length + 1) c9) (M1 ++ [nwBk y]) v2 (nwW n (wAt n k t))) (fun i _ => n - (intOf i).toNat)
      case atStart => exact ⟨0, _, Nat.zero_le _, rfl, by rw [wAt_zero, ← HM2.out]; exact HF.out.1⟩
      case round =>
        obtain ⟨t, v2, ht, rfl, hT⟩ := hrel
        have HT := Hid.intro hT
        by_cases htn : t < n
        · have htn' : (t : Int) < (n : Int) := by omega
          by_cases htk : t = k
          · have e1 : ((t : Int) != (k : Int)) = false := by simp; omega
            have e2 : ((t : Int) == (k : Int)) = true := by simp; omega
            have e3 : (t : Int) = (k : Int) := by omega
            have HW : Hid (nwW n (wAt n k (t + 1)) = nwW n (wAt n k t)) := Hid.intro (by rw [htk, wAt_same])
            clear hT
            go_wp2
            go_roundw
            case rel => exact ⟨t + 1, v2, by omega, by go_num, by rw [HW.out]; exact HT.out⟩
            case measure => simp [intOf]; omega
          · have e1 : ((t : Int) != (k : Int)) = true := by simp; omega
            have e2 : ((t : Int) == (k : Int)) = false := by simp; omega
            have e3 : ¬ (t : Int) = (k : Int) := by omega
            have hwa := wAt_fr (m := n) ⟨by omega, by omega⟩ hlt htn htk
            have HW : Hid (nwW n (wAt n k (t + 1)) = nwW n (wAt n k t) ++ [nwWy n (wAt n k t)]) := Hid.intro (by rw [wAt_succ htk, nwW_succ])
            have HWE : Hid (wyC (nwWy n (wAt n k t)) = [.int .i64 (k : Int), .int .i64 (t : Int), .slice none 0 0, .bool false, .slice none 0 0]) := Hid.intro (by unfold nwWy; rw [hwa.2.1, hwa.2.2]; rfl)
            have hc20 : wAt n k t ≤ 20 := Nat.le_of_lt (Nat.lt_of_lt_of_le hwa.1 (Nat.le_trans (Nat.mul_le_mul (show n ≤ 5 by omega) (show n - 1 ≤ 4 by omega)) (by decide)))
            have HNL := Hid.intro (nwW_len n (wAt n k t))
            obtain ⟨M3, hM3⟩ : ∃ M, M = nwW n (wAt n k t) := ⟨_, rfl⟩
            rw [← hM3] at HW HT HNL
            have hm3 : M3.length ≤ 1000 := by have := HNL.out; omega
            clear hM3 hwa hT htk
            have HQ2 := Hid.intro (HT.out.next (Go.Joins.below_alloc1 wr (.cells #[.int .i64 (k : Int), .int .i64 (t : Int), .slice none 0 0, .bool false, .slice none 0 0] 83)))
            have HNW2 := Hid.intro (cells_new wr [.int .i64 (k : Int), .int .i64 (t : Int), .slice none 0 0, .bool false, .slice none 0 0] 83)
            have hzb2 : w.heap.size + 2 ≤ wr.heap.size := HT.out.sz
            obtain ⟨ta, tc, hv2⟩ := row_form HT.out.r2
            subst hv2
            obtain ⟨i0, hi0, hz0, hz1, hz2⟩ := info_parts inf_Way
            have s0 := (HT.out.bx).cell 0 rfl; have s1 := (HT.out.bx).cell 1 rfl; have sz := (HT.out.bx).2
            go_wp2_with (first | (at_builtin; refine wpList_append_own_at _ rfl (.tmp 40) (.tmp 44) 28 rfl (w.heap.size + 2) 83 i0 (.agg #[.int .i64 0, .int .i64 0, .slice none 0 0, .bool false, .slice none 0 0]) 5 72 Try.underlying28 hi0 hz0 hz1 hz2 rfl (by decide) (.slice ta M3.length tc) M3.length (M3.flatMap wyC) rfl (HQ2.out.r2) ⟨wr.heap.size, 0, none⟩ 1 1 [.int .i64 (k : Int), .int .i64 (t : Int), .slice none 0 0, .bool false, .slice none 0 0] rfl rfl (HNW2.out) (by intro u hu; simp at hu; rcases hu with rfl | rfl | rfl | rfl | rfl <;> rfl) (by unfold maxLen; omega) (by omega) (by simp <;> omega) ?_; intro v9 w9 hown9 hgrow9 hnil9 hwh9; rw [← HWE.out] at hown9; have HF2 := Hid.intro (NwS.appW HQ2.out (y := nwWy n (wAt n k t)) hown9 hgrow9 hwh9); obtain ⟨b9, d9, hv9⟩ := row_form HF2.out.1.r2; rw [List.length_append, List.length_singleton] at hv9; subst hv9; clear s0 s1 sz; have r0 := HF2.out.2.cell 0 rfl; have r1 := HF2.out.2.cell 1 rfl; have rz := HF2.out.2.2; have q1 := HF2.out.2.frz 1 (by simp); clear hown9 hgrow9 hnil9 hwh9))
            go_roundw
            case rel => exact ⟨t + 1, _, by omega, by go_num, by rw [HW.out]; exact HF2.out.1⟩
            case measure => simp [intOf]; omega
        · have htE : t = n := by omega
          have HW : Hid (nwW n ((k + 1) * (n - 1)) = nwW n (wAt n k t)) := Hid.intro (by rw [htE, wAt_end hlt])
          clear hT htE
          go_wp2
          go_roundw
          case rel => exact ⟨k + 1, _, v2, by omega, by go_num, HS2.out, by rw [HPT.out, HW.out]; exact HT.out⟩
          case measure => simp [intOf]; omega
    · have hkn : k = n := by omega
      have HG : Hid (nwP am) := Hid.intro ⟨by have := HN.out; omega, fun j hj => HA.out j (by have := HN.out; omega)⟩
      have HE : Hid (nwB (am.take k) = nwB am ∧ nwW n (k * (n - 1)) = nwW am.length (am.length * (am.length - 1))) := Hid.intro ⟨by rw [hkn, HN.out, List.take_length], by rw [hkn, ← HN.out]⟩
      obtain ⟨sa1, sc1, hv1⟩ := row_form hS.r1
      obtain ⟨sa2, sc2, hv2⟩ := row_form hS.r2
      subst hv1 hv2
      have HD := Hid.intro (hS.done (set2 wr w.heap.size (.slice sa1 (nwB (am.take k)).length sc1) (.slice sa2 (nwW n (k * (n - 1))).length sc2)))
      generalize (nwB (am.take k)).length = n1 at *
      generalize (nwW n (k * (n - 1))).length = n2 at *
      have s0 := (HS.out.an).cell 0 rfl; have s1 := (HS.out.an).cell 1 rfl; have sz := (HS.out.an).2
      have f0 := HS.out.an.frz 0 (by simp)
      have f1 := HS.out.an.frz 1 (by simp)
      have p0 := (HS.out.bx).cell 0 rfl; have p1 := (HS.out.bx).cell 1 rfl; have pz := (HS.out.bx).2
      clear hS HA hkn
      go_wp2
      refine bodyPost_ret (v := .tuple #[.agg #[.slice sa1 n1 sc1, .slice sa2 n2 sc2], .bool true]) (by simp [results, Try.results29, go_sem, *]) rfl ?_
      rw [HPO.out]
      obtain ⟨e1, e2, e3⟩ := nw_some HG.out
      rw [e1, e2, e3]
      have h9 := HD.out
      rw [HE.out.1, HE.out.2] at h9
      exact ⟨_, _, rfl, h9, HS.out.bw.trans ((set2 wr w.heap.size _ _).below (fun k e => Nat.le_of_eq e.symm) HS.out.bw.size)⟩
end Go.Proofs.Ytcklpcdgckkahaa
