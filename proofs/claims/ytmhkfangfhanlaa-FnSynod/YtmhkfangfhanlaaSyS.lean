/- Synods: the specification's GoodSynod. Written by tools/mkSyS.py. -/
import Derived.Test.YtmhkfangfhanlaaSyI
namespace Go.Proofs.Ytmhkfangfhanlaa
open Go.RowKit
set_option linter.unusedVariables false
set_option linter.unusedSimpArgs false

theorem w64s {n : Int} (h0 : -9223372036854775808 ≤ n) (h1 : n ≤ 9223372036854775807) : IntKind.i64.wrap n = n := by
  simp only [IntKind.wrap, IntKind.bits, IntKind.signed]
  simp
  omega
theorem prs_last {bal nc : Int} {l : List (Sh.T shPromise)} {j : Nat} (hj : j + 1 < l.length) (hp : prsP bal nc (l.take (j + 1))) : (∀ x ∈ l.take (j + 1), pnd x < pnd l[j + 1]) ↔ pnd l[j] < pnd l[j + 1] := by
  have h1 := lst_all (by omega) hp
  rw [lst_succ (by omega)] at h1
  constructor
  · intro h; exact h _ (last_mem (by omega))
  · intro h x hx
    have := h1 x hx
    omega
theorem bad_pro {ac : List (Sh.T shAcceptor)} {ps : List (Sh.T shProposer)} {k nc : Nat} (hlx : k < ps.length) (hnc : nc = ac.length) {x0 : ByteArray} {x1 : List (Sh.T shPromise)} {x2 : Bool} {x3 : ByteArray} {x4 : List (Sh.T .int)} (hX : ps[k] = (x0, x1, x2, x3, x4, ()))
    (h : ¬ proQ ((k : Int) + 1) nc x0 x1 x2 x3 x4) : ¬ goodS ac ps := fun q => h (by
  have h1 := q.2.2.2 k hlx hlx
  rw [hX, ← hnc] at h1
  exact h1)

set_option maxRecDepth 100000 in
set_option maxHeartbeats 8000000 in
theorem specGoodSynod_n (cs : List Value) (ac : List (Sh.T shAcceptor)) (ps : List (Sh.T shProposer)) (w : World) (hz : szD shSynod (ac, ps, ()) ≤ 1073741824) (h : Lies w shSynod cs (ac, ps, ())) :
    Calls Try.prog 17 #[.agg cs.toArray] w fun r w' => r = .returned (.bool (tf (goodS ac ps))) ∧ Below w.heap.size w w' := by
  obtain ⟨a1, k1, a2, k2, rfl, h1, h2⟩ := lies_Synod h
  have HL : Hid (Lies w (.list shAcceptor) [.slice a1 ac.length k1] ac ∧ Lies w (.list shProposer) [.slice a2 ps.length k2] ps) := ⟨h1, h2⟩
  have HZ : Hid (szD shSynod (ac, ps, ()) ≤ 1073741824) := hz
  have hsz := syn_sizes hz
  have hnc := hsz.2.2.1
  have hno := hsz.2.2.2
  clear h h1 h2 hz hsz
  obtain ⟨nc, hncE⟩ : ∃ n, n = ac.length := ⟨_, rfl⟩
  obtain ⟨no, hnoE⟩ : ∃ n, n = ps.length := ⟨_, rfl⟩
  have HNC : Hid (nc = ac.length ∧ no = ps.length) := ⟨hncE, hnoE⟩
  rw [← hncE] at hnc ⊢
  rw [← hnoE] at hno ⊢
  clear hncE hnoE
  cases c0 : inR (nc : Int) 1 12
  · have HN : Hid (¬ goodS ac ps) := Hid.intro (fun q => by
      have h1 := q.1
      rw [← HNC.out.1] at h1
      rw [inR_iff.2 (by omega)] at c0; cases c0)
    go_enter Try.func17, Try.ntmps17
    go_wp2_with (first | (go_at_call 57; refine (l8Nodes_any _ _).mono ?_; rintro e w' ⟨rfl, rfl⟩))
    go_ret
    exact ⟨goodS_none HN.out, (by repeat (first | refine Below.setCell ?_ (by (try simp) <;> omega) _ | refine Below.alloc ?_ (by (try simp) <;> omega) _ | refine Below.drew ?_ | assumption | exact Below.refl _ _ | refine Below.trans ?_ (Below.mono (by assumption) (by (try simp) <;> omega))))⟩
  cases c1 : inR (no : Int) 1 8
  · have HN : Hid (¬ goodS ac ps) := Hid.intro (fun q => by
      have h1 := q.2.1
      rw [← HNC.out.2] at h1
      rw [inR_iff.2 (by omega)] at c1; cases c1)
    go_enter Try.func17, Try.ntmps17
    go_wp2_with (first | (go_at_call 57; refine (l8Nodes_any _ _).mono ?_; rintro e w' ⟨rfl, rfl⟩) | (go_at_call 58; refine (l1In_any _ _ _ _).mono ?_; rintro e w' ⟨rfl, rfl⟩))
    go_ret
    exact ⟨goodS_none HN.out, (by repeat (first | refine Below.setCell ?_ (by (try simp) <;> omega) _ | refine Below.alloc ?_ (by (try simp) <;> omega) _ | refine Below.drew ?_ | assumption | exact Below.refl _ _ | refine Below.trans ?_ (Below.mono (by assumption) (by (try simp) <;> omega))))⟩
  have hnc2 := inR_iff.1 c0
  have hno2 := inR_iff.1 c1
  have HB0 : Hid (Bx (w.alloc (.cells #[.slice a1 nc k1, .slice a2 no k2] 30)) w.heap.size [.slice a1 nc k1, .slice a2 no k2] ∧ Below w.heap.size w (w.alloc (.cells #[.slice a1 nc k1, .slice a2 no k2] 30))) := ⟨Bx.new w [_, _] _, Go.Joins.below_alloc1 _ _⟩
  go_enter Try.func17, Try.ntmps17
  go_wp2_with (first | (go_at_call 57; refine (l8Nodes_any _ _).mono ?_; rintro e w' ⟨rfl, rfl⟩) | (go_at_call 58; refine (l1In_any _ _ _ _).mono ?_; rintro e w' ⟨rfl, rfl⟩))
  clear c0 c1
  go_loopw [29] (fun i wr => ∃ k : Nat, k ≤ nc ∧ i = .int .i64 k ∧ (∀ c ∈ ac.take k, accP no c) ∧ Bx wr w.heap.size [.slice a1 nc k1, .slice a2 no k2] ∧ Below w.heap.size w wr) (fun i _ => nc - (intOf i).toNat)
  case atStart => exact ⟨0, Nat.zero_le _, rfl, fun o ho => by simp at ho, HB0.out⟩
  case round =>
    obtain ⟨k, hk, rfl, hall, hbx, hBr⟩ := hrel
    clear HB0
    have HA : Hid ((∀ c ∈ ac.take k, accP no c) ∧ Bx wr w.heap.size [.slice a1 nc k1, .slice a2 no k2] ∧ Below w.heap.size w wr) := ⟨hall, hbx, hBr⟩
    clear hall
    have s0 := (hbx).cell 0 rfl; have s1 := (hbx).cell 1 rfl; have sz := (hbx).2
    by_cases hlt : k < nc
    · have hlx : k < ac.length := by have := HNC.out.1; omega
      have hlt' : (k : Int) < (nc : Int) := by omega
      have HLE : Hid (Lies wr (.list shAcceptor) [.slice a1 ac.length k1] ac) := HL.out.1.next hBr
      obtain ⟨xg, xoff, xgo, xgs, xec, xel, xhec, xle⟩ := Lies.elem (HLE.out) hlx
      subst xgo
      rcases xX : ac[k] with ⟨x0, x1, x2, ⟨⟩⟩
      rw [xX] at xle
      have xH : Hid (ac[k] = (x0, x1, x2, ())) := xX
      clear xX
      obtain xev := lies_Acceptor xle
      subst xev
      have xc0 : wr.cell? ⟨xg, xoff + k * 3, none⟩ = some (.int .i64 x0) := xhec 0 (by simp)
      have xc1 : wr.cell? ⟨xg, xoff + k * 3 + 1, none⟩ = some (.int .i64 x1) := xhec 1 (by simp)
      have xc2 : wr.cell? ⟨xg, xoff + k * 3 + 2, none⟩ = some (.string x2) := xhec 2 (by simp)
      clear xhec xel xle
      have HV : Hid (x2.size ≤ maxLen) := Hid.intro (by
        have := (syn_sizes HZ.out).1 ac[k] (List.getElem_mem hlx)
        rw [xH.out] at this
        exact size_text this)
      have HB1 : Hid (Bx (wr.alloc (.cells #[.int .i64 x0, .int .i64 x1, .string x2] 91)) w.heap.size [.slice (some ⟨xg, xoff, none⟩) nc k1, .slice a2 no k2] ∧ Below w.heap.size w (wr.alloc (.cells #[.int .i64 x0, .int .i64 x1, .string x2] 91))) := ⟨HA.out.2.1.alloc _, HA.out.2.2.alloc HA.out.2.2.size _⟩
      clear hbx hBr HLE
      cases e1 : inR x0 0 (no : Int)
      · have HN : Hid (¬ goodS ac ps) := Hid.intro (fun q => by
          have h1 := (q.2.2.1 ac[k] (List.getElem_mem hlx)).1
          rw [xH.out, ← HNC.out.2] at h1
          rw [inR_iff.2 h1] at e1; cases e1)
        go_wp2_with (first | (go_at_call 58; refine (l1In_any _ _ _ _).mono ?_; rintro e w' ⟨rfl, rfl⟩))
        go_ret
        exact ⟨goodS_none HN.out, HB1.out.2⟩
      by_cases e : oldP x1 x0 x2
      · have HT : Hid (tf (oldP x1 x0 x2) = true) := tf_yes e
        have HS : Hid (accP no ac[k]) := Hid.intro (by rw [xH.out]; exact ⟨inR_iff.1 e1, e⟩)
        clear e
        go_wp2_with (first | (go_at_call 58; refine (l1In_any _ _ _ _).mono ?_; rintro e w' ⟨rfl, rfl⟩) | (go_at_call 59; refine (HT.out ▸ l10Old_n _ _ _ _ HV.out).mono ?_; rintro e w' ⟨rfl, rfl⟩))
        go_roundw
        case rel => exact ⟨k + 1, by omega, by go_num, mem_take_succ hlx HA.out.1 HS.out, HB1.out⟩
        case measure => simp [intOf]; omega
      · have HT : Hid (tf (oldP x1 x0 x2) = false) := tf_no e
        have HN : Hid (¬ goodS ac ps) := Hid.intro (fun q => e (by have := (q.2.2.1 ac[k] (List.getElem_mem hlx)).2; rwa [xH.out] at this))
        clear e
        go_wp2_with (first | (go_at_call 58; refine (l1In_any _ _ _ _).mono ?_; rintro e w' ⟨rfl, rfl⟩) | (go_at_call 59; refine (HT.out ▸ l10Old_n _ _ _ _ HV.out).mono ?_; rintro e w' ⟨rfl, rfl⟩))
        go_ret
        exact ⟨goodS_none HN.out, HB1.out.2⟩
    · have hkn : k = nc := by omega
      have HCP : Hid (∀ c ∈ ac, accP no c) := Hid.intro (by have := HA.out.1; rwa [hkn, HNC.out.1, List.take_length] at this)
      have HB1 : Hid (Bx wr w.heap.size [.slice a1 nc k1, .slice a2 no k2] ∧ Below w.heap.size w wr) := HA.out.2
      clear HA hbx hBr hkn
      go_wp2
      clear s0 s1 sz
      go_loopw [54] (fun i wr => ∃ k : Nat, k ≤ no ∧ i = .int .i64 k ∧ proK nc ps k ∧ Bx wr w.heap.size [.slice a1 nc k1, .slice a2 no k2] ∧ Below w.heap.size w wr) (fun i _ => no - (intOf i).toNat)
      case atStart => exact ⟨0, Nat.zero_le _, rfl, fun i _ hi => absurd hi (by omega), HB1.out⟩
      case round =>
        obtain ⟨k, hk, rfl, hall, hbx, hBr⟩ := hrel
        clear HB1
        have HA : Hid (proK nc ps k) := hall
        clear hall
        have s0 := (hbx).cell 0 rfl; have s1 := (hbx).cell 1 rfl; have sz := (hbx).2
        by_cases hlt : k < no
        · have hlx : k < ps.length := by have := HNC.out.2; omega
          have hlt' : (k : Int) < (no : Int) := by omega
          have HLE : Hid (Lies wr (.list shProposer) [.slice a2 ps.length k2] ps) := HL.out.2.next hBr
          obtain ⟨xg, xoff, xgo, xgs, xec, xel, xhec, xle⟩ := Lies.elem (HLE.out) hlx
          subst xgo
          rcases xX : ps[k] with ⟨x0, x1, x2, x3, x4, ⟨⟩⟩
          rw [xX] at xle
          have xH : Hid (ps[k] = (x0, x1, x2, x3, x4, ())) := xX
          clear xX
          obtain ⟨xa1, xk1, xa2, xk2, xev, xq1, xq2⟩ := lies_Proposer xle
          subst xev
          have xc0 : wr.cell? ⟨xg, xoff + k * 5, none⟩ = some (.string x0) := xhec 0 (by simp)
          have xc1 : wr.cell? ⟨xg, xoff + k * 5 + 1, none⟩ = some (.slice xa1 x1.length xk1) := xhec 1 (by simp)
          have xc2 : wr.cell? ⟨xg, xoff + k * 5 + 2, none⟩ = some (.bool x2) := xhec 2 (by simp)
          have xc3 : wr.cell? ⟨xg, xoff + k * 5 + 3, none⟩ = some (.string x3) := xhec 3 (by simp)
          have xc4 : wr.cell? ⟨xg, xoff + k * 5 + 4, none⟩ = some (.slice xa2 x4.length xk2) := xhec 4 (by simp)
          clear xhec xel xle
          have hV := (syn_sizes HZ.out).2.1 ps[k] (List.getElem_mem hlx)
          rw [xH.out] at hV
          have HVP : Hid (x0.size ≤ maxLen ∧ szD (.list shPromise) x1 ≤ 1073741824 ∧ x3.size ≤ maxLen) := ⟨size_text hV.1, hV.2.1, size_text hV.2.2.1⟩
          have hn1 := (pms_sizes hV.2.1).2
          have hn4 := hV.2.2.2
          have hw1 : IntKind.i64.wrap ((nc : Int) - 1) = (nc : Int) - 1 := w64s (by omega) (by omega)
          obtain ⟨w0, hw0⟩ : ∃ x, x = wr.alloc (.cells #[.string x0, .slice xa1 x1.length xk1, .bool x2, .string x3, .slice xa2 x4.length xk2] 43) := ⟨_, rfl⟩
          have hb0 : Below wr.heap.size wr w0 := hw0 ▸ Go.Joins.below_alloc1 _ _
          have HB1 : Hid (Bx w0 wr.heap.size [.string x0, .slice xa1 x1.length xk1, .bool x2, .string x3, .slice xa2 x4.length xk2] ∧ Bx w0 w.heap.size [.slice a1 nc k1, .slice (some ⟨xg, xoff, none⟩) no k2] ∧ Below w.heap.size w w0) := ⟨hw0 ▸ Bx.new wr [_, _, _, _, _] _, hbx.next hb0, below_next hBr hb0⟩
          have HLP : Hid (Lies w0 (.list shPromise) [.slice xa1 x1.length xk1] x1 ∧ Lies w0 (.list .int) [.slice xa2 x4.length xk2] x4) := ⟨xq1.next hb0, xq2.next hb0⟩
          clear hbx hBr HLE xq1 xq2 hV
          go_wp2_with fail
          rw [← hw0]
          clear hw0 hb0 s0 s1 sz xc0 xc1 xc2 xc3 xc4
          obtain ⟨wo, hwo⟩ : ∃ x, x = wr := ⟨_, rfl⟩
          subst hwo
          go_loopw [62] (fun i wr => ∃ j : Nat, j ≤ x1.length ∧ i = .int .i64 j ∧ prsP ((k : Int) + 1) nc (x1.take j) ∧ Bx wr wo.heap.size [.string x0, .slice xa1 x1.length xk1, .bool x2, .string x3, .slice xa2 x4.length xk2] ∧ Bx wr w.heap.size [.slice a1 nc k1, .slice (some ⟨xg, xoff, none⟩) no k2] ∧ Below w.heap.size w wr ∧ Below w0.heap.size w0 wr) (fun i _ => x1.length - (intOf i).toNat)
          case atStart => exact ⟨0, Nat.zero_le _, rfl, prs_zero, HB1.out.1, HB1.out.2.1, HB1.out.2.2, Below.refl _ _⟩
          case round =>
            obtain ⟨j, hj, rfl, hall, hbx, hbs, hBr, hB0⟩ := hrel
            clear HB1
            by_cases hjt : j < x1.length
            · have hjt' : (j : Int) < (x1.length : Int) := by omega
              have HLE : Hid (Lies wr (.list shPromise) [.slice xa1 x1.length xk1] x1) := HLP.out.1.next hB0
              obtain ⟨yg, yoff, ygo, ygs, yec, yel, yhec, yle⟩ := Lies.elem (HLE.out) hjt
              subst ygo
              rcases yX : x1[j] with ⟨y0, y1, y2, ⟨⟩⟩
              rw [yX] at yle
              have yH : Hid (x1[j] = (y0, y1, y2, ())) := yX
              clear yX
              obtain yev := lies_Promise yle
              subst yev
              have yc0 : wr.cell? ⟨yg, yoff + j * 3, none⟩ = some (.int .i64 y0) := yhec 0 (by simp)
              have yc1 : wr.cell? ⟨yg, yoff + j * 3 + 1, none⟩ = some (.int .i64 y1) := yhec 1 (by simp)
              have yc2 : wr.cell? ⟨yg, yoff + j * 3 + 2, none⟩ = some (.string y2) := yhec 2 (by simp)
              clear yhec yel yle
              have HV : Hid (y2.size ≤ maxLen) := Hid.intro (by
                have := (pms_sizes HVP.out.2.1).1 x1[j] (List.getElem_mem hjt)
                rw [yH.out] at this
                exact size_text this)
              have HPN : Hid (pnd x1[j] = y0 ∧ (prmP ((k : Int) + 1) nc x1[j] ↔ (0 ≤ y0 ∧ y0 ≤ (nc : Int) - 1) ∧ oldP y1 k y2)) := Hid.intro (by rw [yH.out]; exact ⟨rfl, by unfold prmP; rw [Int.add_sub_cancel]; exact Iff.rfl⟩)
              obtain ⟨w3, hw3⟩ : ∃ x, x = wr.alloc (.cells #[.int .i64 y0, .int .i64 y1, .string y2] 96) := ⟨_, rfl⟩
              have hb3 : Below wr.heap.size wr w3 := hw3 ▸ Go.Joins.below_alloc1 _ _
              have HD : Hid (Bx w3.drew wr.heap.size [.int .i64 y0, .int .i64 y1, .string y2] ∧ Bx w3.drew wo.heap.size [.string x0, .slice (some ⟨yg, yoff, none⟩) x1.length xk1, .bool x2, .string x3, .slice xa2 x4.length xk2] ∧ Bx w3.drew w.heap.size [.slice a1 nc k1, .slice (some ⟨xg, xoff, none⟩) no k2] ∧ Below w.heap.size w w3.drew ∧ Below w0.heap.size w0 w3.drew) := ⟨(hw3 ▸ Bx.new wr [_, _, _] _ : Bx w3 _ _).next (below_drew _), (hbx.next hb3).next (below_drew _), (hbs.next hb3).next (below_drew _), below_next (below_next hBr hb3) (below_drew _), below_next (below_next hB0 hb3) (below_drew _)⟩
              have HAL : Hid (prsP ((k : Int) + 1) nc (x1.take j)) := hall
              have HLX : Hid (Lies w3.drew (.list shPromise) [.slice (some ⟨yg, yoff, none⟩) x1.length xk1] x1) := (HLE.out.next hb3).next (below_drew _)
              clear hbx hbs hBr hB0 hall HLE
              go_upto_region 16 with fail
              rw [← hw3]
              clear hw3 hb3 yc0 yc1 yc2
              cases c2 : inR y0 0 ((nc : Int) - 1)
              · have HIN : Hid (∀ W, Calls Try.prog 58 #[.int .i64 y0, .int .i64 0, .int .i64 ((nc : Int) - 1)] W fun r w' => r = .returned (.bool false) ∧ w' = W) := Hid.intro (fun W => c2 ▸ l1In_any _ _ _ W)
                have HN : Hid (¬ goodS ac ps) := Hid.intro (bad_pro hlx HNC.out.1 xH.out (fun q => by have := (HPN.out.2.1 (prs_pre q.2.1 j hjt).1).1; rw [inR_iff.2 this] at c2; cases c2))
                refine wp_region_noPanic ?_
                refine wp_region_held_drew (S := fun W => Bx W wr.heap.size [.int .i64 y0, .int .i64 y1, .string y2] ∧ Bx W wo.heap.size [.string x0, .slice (some ⟨yg, yoff, none⟩) x1.length xk1, .bool x2, .string x3, .slice xa2 x4.length xk2]) (by kernel_rfl) ⟨HD.out.1, HD.out.2.1⟩ (fun hHeld => ?_)
                refine take_v (v := ?_) 0 ⟨some 67, Op.fieldAddr 96 (Operand.tmp 9) 0, _, _, _, none⟩ rfl (fun _ _ _ h => h) ?_ hHeld ?_
                rotate_left
                · (intro W _; go_simp <;> (try with_reducible rfl))
                refine take_v (v := ?_) 1 ⟨some 68, Op.load 3 (Operand.tmp 67), _, _, _, none⟩ rfl (fun _ _ _ h => h) ?_ hHeld ?_
                rotate_left
                · (intro W hSW; (have s0 := hSW.1.cell 0 rfl; have s1 := hSW.1.cell 1 rfl; have s2 := hSW.1.cell 2 rfl; have sz := hSW.1.2; have p1 := hSW.2.cell 1 rfl; have pz := hSW.2.2); go_simp <;> (try with_reducible rfl))
                refine take_v (v := ?_) 2 ⟨some 69, Op.move (Operand.tmp 3), _, _, _, none⟩ rfl (fun _ _ _ h => h) ?_ hHeld ?_
                rotate_left
                · (intro W _; go_simp <;> (try with_reducible rfl))
                refine take_v (v := ?_) 3 ⟨some 70, Op.binOp BinOp.sub 3 (Operand.tmp 69) (Operand.const (Value.int IntKind.i64 1)) 3, _, _, _, none⟩ rfl (fun _ _ _ h => h) ?_ hHeld ?_
                rotate_left
                · (intro W _; go_simp <;> (try with_reducible rfl))
                refine ready_call 4 ⟨some 71, Op.call { callee := Callee.value (Operand.func 58), args := #[Operand.tmp 68, Operand.const (Value.int IntKind.i64 0), Operand.tmp 70], argTypes := #[3, 3, 3] }, _, _, _, none⟩ (by kernel_rfl) rfl (by kernel_rfl) (fun KC hK => ?_)
                go_wp2_with fail
                refine (HIN.out _).mono ?_
                rintro r w4 ⟨rfl, hw⟩
                have hw := hw.symm
                subst hw
                refine hK.out _ _ ⟨HD.out.1, HD.out.2.1⟩ (fun hHeld => ?_)
                clear hK KC
                refine take_v (v := ?_) 5 ⟨some 72, Op.unOp UnOp.not 4 (Operand.tmp 71), _, _, _, none⟩ rfl (fun _ _ _ h => h) ?_ hHeld ?_
                rotate_left
                · (intro W _; go_simp <;> (try with_reducible rfl))
                refine take_v (v := ?_) 6 ⟨some 73, Op.move (Operand.tmp 72), _, _, _, none⟩ rfl (fun _ _ _ h => h) ?_ hHeld ?_
                rotate_left
                · (intro W _; go_simp <;> (try with_reducible rfl))
                refine take_n 7 ⟨some 74, Op.move (Operand.tmp 8), _, _, _, some (6, false)⟩ rfl (fun _ _ _ h => h) hHeld ?_
                refine take_n 8 ⟨some 75, Op.binOp BinOp.gtr 3 (Operand.tmp 74) (Operand.const (Value.int IntKind.i64 0)) 3, _, _, _, some (6, false)⟩ rfl (fun _ _ _ h => h) hHeld ?_
                refine take_n 9 ⟨some 76, Op.move (Operand.tmp 75), _, _, _, some (6, false)⟩ rfl (fun _ _ _ h => h) hHeld ?_
                refine take_n 10 ⟨some 77, Op.fieldAddr 43 (Operand.tmp 7) 1, _, _, _, some (9, true)⟩ rfl (fun _ _ _ h => h) hHeld ?_
                refine take_n 11 ⟨some 78, Op.load 40 (Operand.tmp 77), _, _, _, some (9, true)⟩ rfl (fun _ _ _ h => h) hHeld ?_
                refine take_n 12 ⟨some 79, Op.move (Operand.tmp 8), _, _, _, some (9, true)⟩ rfl (fun _ _ _ h => h) hHeld ?_
                refine take_n 13 ⟨some 80, Op.binOp BinOp.sub 3 (Operand.tmp 79) (Operand.const (Value.int IntKind.i64 1)) 3, _, _, _, some (9, true)⟩ rfl (fun _ _ _ h => h) hHeld ?_
                refine take_n 14 ⟨some 81, Op.indexAddr 40 (Operand.tmp 78) (Operand.tmp 80), _, _, _, some (9, true)⟩ rfl (fun _ _ _ h => h) hHeld ?_
                refine take_n 15 ⟨some 82, Op.fieldAddr 96 (Operand.tmp 81) 0, _, _, _, some (9, true)⟩ rfl (fun _ _ _ h => h) hHeld ?_
                refine take_n 16 ⟨some 83, Op.load 3 (Operand.tmp 82), _, _, _, some (9, true)⟩ rfl (fun _ _ _ h => h) hHeld ?_
                refine take_n 17 ⟨some 84, Op.fieldAddr 96 (Operand.tmp 9) 0, _, _, _, some (9, true)⟩ rfl (fun _ _ _ h => h) hHeld ?_
                refine take_n 18 ⟨some 85, Op.load 3 (Operand.tmp 84), _, _, _, some (9, true)⟩ rfl (fun _ _ _ h => h) hHeld ?_
                refine take_n 19 ⟨some 86, Op.binOp BinOp.geq 3 (Operand.tmp 83) (Operand.tmp 85) 3, _, _, _, some (9, true)⟩ rfl (fun _ _ _ h => h) hHeld ?_
                refine take_n 20 ⟨some 87, Op.pick (Operand.tmp 76) (Operand.tmp 86) (Operand.const (Value.bool false)), _, _, _, some (6, false)⟩ rfl (fun _ _ _ h => h) hHeld ?_
                refine take_v (v := ?_) 21 ⟨some 88, Op.pick (Operand.tmp 73) (Operand.const (Value.bool true)) (Operand.tmp 87), _, _, _, none⟩ rfl (fun _ _ _ h => h) ?_ hHeld ?_
                rotate_left
                · (intro W _; go_simp <;> (try with_reducible rfl))
                refine take_v (v := ?_) 22 ⟨some 89, Op.move (Operand.tmp 88), _, _, _, none⟩ rfl (fun _ _ _ h => h) ?_ hHeld ?_
                rotate_left
                · (intro W _; go_simp <;> (try with_reducible rfl))
                refine take_n 23 ⟨some 90, Op.fieldAddr 96 (Operand.tmp 9) 1, _, _, _, some (22, false)⟩ rfl (fun _ _ _ h => h) hHeld ?_
                refine take_n 24 ⟨some 91, Op.load 3 (Operand.tmp 90), _, _, _, some (22, false)⟩ rfl (fun _ _ _ h => h) hHeld ?_
                refine take_n 25 ⟨some 92, Op.move (Operand.tmp 6), _, _, _, some (22, false)⟩ rfl (fun _ _ _ h => h) hHeld ?_
                refine take_n 26 ⟨some 93, Op.fieldAddr 96 (Operand.tmp 9) 2, _, _, _, some (22, false)⟩ rfl (fun _ _ _ h => h) hHeld ?_
                refine take_n 27 ⟨some 94, Op.load 9 (Operand.tmp 93), _, _, _, some (22, false)⟩ rfl (fun _ _ _ h => h) hHeld ?_
                refine take_n 28 ⟨some 95, Op.call { callee := Callee.value (Operand.func 59), args := #[Operand.tmp 91, Operand.tmp 92, Operand.tmp 94], argTypes := #[3, 3, 9] }, _, _, _, some (22, false)⟩ rfl (fun _ _ _ h => h) hHeld ?_
                refine take_n 29 ⟨some 96, Op.unOp UnOp.not 4 (Operand.tmp 95), _, _, _, some (22, false)⟩ rfl (fun _ _ _ h => h) hHeld ?_
                refine take_v (v := ?_) 30 ⟨some 97, Op.pick (Operand.tmp 89) (Operand.const (Value.bool true)) (Operand.tmp 96), _, _, _, none⟩ rfl (fun _ _ _ h => h) ?_ hHeld ?_
                rotate_left
                · (intro W _; go_simp <;> (try with_reducible rfl))
                refine wpAnyH_done (by kernel_rfl) ?_ _
                refine NoPanic.normal ?_
                clear hHeld
                go_wp2
                go_ret
                exact ⟨goodS_none HN.out, HD.out.2.2.2.1⟩
              have HIN : Hid (∀ W, Calls Try.prog 58 #[.int .i64 y0, .int .i64 0, .int .i64 ((nc : Int) - 1)] W fun r w' => r = .returned (.bool true) ∧ w' = W) := Hid.intro (fun W => c2 ▸ l1In_any _ _ _ W)
              have HI2 : Hid (0 ≤ y0 ∧ y0 ≤ (nc : Int) - 1) := inR_iff.1 c2
              clear c2
              by_cases hj0 : j = 0
              · subst hj0
                have hj1 : ¬ (0 : Int) < ((0 : Nat) : Int) := by omega
                by_cases e : oldP y1 k y2
                · have HOL : Hid (∀ W, Calls Try.prog 59 #[.int .i64 y1, .int .i64 k, .string y2] W fun r w' => r = .returned (.bool true) ∧ w' = W) := Hid.intro (fun W => tf_yes e ▸ l10Old_n _ _ _ W HV.out)
                  have HNX : Hid (prsP ((k : Int) + 1) nc (x1.take (0 + 1))) := Hid.intro (prs_succ hjt HAL.out (HPN.out.2.2 ⟨HI2.out, e⟩) (fun x hx => by simp at hx))
                  clear e
                  refine wp_region_noPanic ?_
                  refine wp_region_held_drew (S := fun W => Bx W wr.heap.size [.int .i64 y0, .int .i64 y1, .string y2] ∧ Bx W wo.heap.size [.string x0, .slice (some ⟨yg, yoff, none⟩) x1.length xk1, .bool x2, .string x3, .slice xa2 x4.length xk2]) (by kernel_rfl) ⟨HD.out.1, HD.out.2.1⟩ (fun hHeld => ?_)
                  refine take_v (v := ?_) 0 ⟨some 67, Op.fieldAddr 96 (Operand.tmp 9) 0, _, _, _, none⟩ rfl (fun _ _ _ h => h) ?_ hHeld ?_
                  rotate_left
                  · (intro W _; go_simp <;> (try with_reducible rfl))
                  refine take_v (v := ?_) 1 ⟨some 68, Op.load 3 (Operand.tmp 67), _, _, _, none⟩ rfl (fun _ _ _ h => h) ?_ hHeld ?_
                  rotate_left
                  · (intro W hSW; (have s0 := hSW.1.cell 0 rfl; have s1 := hSW.1.cell 1 rfl; have s2 := hSW.1.cell 2 rfl; have sz := hSW.1.2; have p1 := hSW.2.cell 1 rfl; have pz := hSW.2.2); go_simp <;> (try with_reducible rfl))
                  refine take_v (v := ?_) 2 ⟨some 69, Op.move (Operand.tmp 3), _, _, _, none⟩ rfl (fun _ _ _ h => h) ?_ hHeld ?_
                  rotate_left
                  · (intro W _; go_simp <;> (try with_reducible rfl))
                  refine take_v (v := ?_) 3 ⟨some 70, Op.binOp BinOp.sub 3 (Operand.tmp 69) (Operand.const (Value.int IntKind.i64 1)) 3, _, _, _, none⟩ rfl (fun _ _ _ h => h) ?_ hHeld ?_
                  rotate_left
                  · (intro W _; go_simp <;> (try with_reducible rfl))
                  refine ready_call 4 ⟨some 71, Op.call { callee := Callee.value (Operand.func 58), args := #[Operand.tmp 68, Operand.const (Value.int IntKind.i64 0), Operand.tmp 70], argTypes := #[3, 3, 3] }, _, _, _, none⟩ (by kernel_rfl) rfl (by kernel_rfl) (fun KC hK => ?_)
                  go_wp2_with fail
                  refine (HIN.out _).mono ?_
                  rintro r w4 ⟨rfl, hw⟩
                  have hw := hw.symm
                  subst hw
                  refine hK.out _ _ ⟨HD.out.1, HD.out.2.1⟩ (fun hHeld => ?_)
                  clear hK KC
                  refine take_v (v := ?_) 5 ⟨some 72, Op.unOp UnOp.not 4 (Operand.tmp 71), _, _, _, none⟩ rfl (fun _ _ _ h => h) ?_ hHeld ?_
                  rotate_left
                  · (intro W _; go_simp <;> (try with_reducible rfl))
                  refine take_v (v := ?_) 6 ⟨some 73, Op.move (Operand.tmp 72), _, _, _, none⟩ rfl (fun _ _ _ h => h) ?_ hHeld ?_
                  rotate_left
                  · (intro W _; go_simp <;> (try with_reducible rfl))
                  refine take_v (v := ?_) 7 ⟨some 74, Op.move (Operand.tmp 8), _, _, _, some (6, false)⟩ rfl (fun _ _ _ h => h) ?_ hHeld ?_
                  rotate_left
                  · (intro W _; go_simp <;> (try with_reducible rfl))
                  refine take_v (v := ?_) 8 ⟨some 75, Op.binOp BinOp.gtr 3 (Operand.tmp 74) (Operand.const (Value.int IntKind.i64 0)) 3, _, _, _, some (6, false)⟩ rfl (fun _ _ _ h => h) ?_ hHeld ?_
                  rotate_left
                  · (intro W _; go_simp <;> (try with_reducible rfl))
                  refine take_v (v := ?_) 9 ⟨some 76, Op.move (Operand.tmp 75), _, _, _, some (6, false)⟩ rfl (fun _ _ _ h => h) ?_ hHeld ?_
                  rotate_left
                  · (intro W _; go_simp <;> (try with_reducible rfl))
                  refine take_n 10 ⟨some 77, Op.fieldAddr 43 (Operand.tmp 7) 1, _, _, _, some (9, true)⟩ rfl (fun _ _ _ h => h) hHeld ?_
                  refine take_n 11 ⟨some 78, Op.load 40 (Operand.tmp 77), _, _, _, some (9, true)⟩ rfl (fun _ _ _ h => h) hHeld ?_
                  refine take_n 12 ⟨some 79, Op.move (Operand.tmp 8), _, _, _, some (9, true)⟩ rfl (fun _ _ _ h => h) hHeld ?_
                  refine take_n 13 ⟨some 80, Op.binOp BinOp.sub 3 (Operand.tmp 79) (Operand.const (Value.int IntKind.i64 1)) 3, _, _, _, some (9, true)⟩ rfl (fun _ _ _ h => h) hHeld ?_
                  refine take_n 14 ⟨some 81, Op.indexAddr 40 (Operand.tmp 78) (Operand.tmp 80), _, _, _, some (9, true)⟩ rfl (fun _ _ _ h => h) hHeld ?_
                  refine take_n 15 ⟨some 82, Op.fieldAddr 96 (Operand.tmp 81) 0, _, _, _, some (9, true)⟩ rfl (fun _ _ _ h => h) hHeld ?_
                  refine take_n 16 ⟨some 83, Op.load 3 (Operand.tmp 82), _, _, _, some (9, true)⟩ rfl (fun _ _ _ h => h) hHeld ?_
                  refine take_n 17 ⟨some 84, Op.fieldAddr 96 (Operand.tmp 9) 0, _, _, _, some (9, true)⟩ rfl (fun _ _ _ h => h) hHeld ?_
                  refine take_n 18 ⟨some 85, Op.load 3 (Operand.tmp 84), _, _, _, some (9, true)⟩ rfl (fun _ _ _ h => h) hHeld ?_
                  refine take_n 19 ⟨some 86, Op.binOp BinOp.geq 3 (Operand.tmp 83) (Operand.tmp 85) 3, _, _, _, some (9, true)⟩ rfl (fun _ _ _ h => h) hHeld ?_
                  refine take_v (v := ?_) 20 ⟨some 87, Op.pick (Operand.tmp 76) (Operand.tmp 86) (Operand.const (Value.bool false)), _, _, _, some (6, false)⟩ rfl (fun _ _ _ h => h) ?_ hHeld ?_
                  rotate_left
                  · (intro W _; go_simp <;> (try with_reducible rfl))
                  refine take_v (v := ?_) 21 ⟨some 88, Op.pick (Operand.tmp 73) (Operand.const (Value.bool true)) (Operand.tmp 87), _, _, _, none⟩ rfl (fun _ _ _ h => h) ?_ hHeld ?_
                  rotate_left
                  · (intro W _; go_simp <;> (try with_reducible rfl))
                  refine take_v (v := ?_) 22 ⟨some 89, Op.move (Operand.tmp 88), _, _, _, none⟩ rfl (fun _ _ _ h => h) ?_ hHeld ?_
                  rotate_left
                  · (intro W _; go_simp <;> (try with_reducible rfl))
                  refine take_v (v := ?_) 23 ⟨some 90, Op.fieldAddr 96 (Operand.tmp 9) 1, _, _, _, some (22, false)⟩ rfl (fun _ _ _ h => h) ?_ hHeld ?_
                  rotate_left
                  · (intro W _; go_simp <;> (try with_reducible rfl))
                  refine take_v (v := ?_) 24 ⟨some 91, Op.load 3 (Operand.tmp 90), _, _, _, some (22, false)⟩ rfl (fun _ _ _ h => h) ?_ hHeld ?_
                  rotate_left
                  · (intro W hSW; (have s0 := hSW.1.cell 0 rfl; have s1 := hSW.1.cell 1 rfl; have s2 := hSW.1.cell 2 rfl; have sz := hSW.1.2; have p1 := hSW.2.cell 1 rfl; have pz := hSW.2.2); go_simp <;> (try with_reducible rfl))
                  refine take_v (v := ?_) 25 ⟨some 92, Op.move (Operand.tmp 6), _, _, _, some (22, false)⟩ rfl (fun _ _ _ h => h) ?_ hHeld ?_
                  rotate_left
                  · (intro W _; go_simp <;> (try with_reducible rfl))
                  refine take_v (v := ?_) 26 ⟨some 93, Op.fieldAddr 96 (Operand.tmp 9) 2, _, _, _, some (22, false)⟩ rfl (fun _ _ _ h => h) ?_ hHeld ?_
                  rotate_left
                  · (intro W _; go_simp <;> (try with_reducible rfl))
                  refine take_v (v := ?_) 27 ⟨some 94, Op.load 9 (Operand.tmp 93), _, _, _, some (22, false)⟩ rfl (fun _ _ _ h => h) ?_ hHeld ?_
                  rotate_left
                  · (intro W hSW; (have s0 := hSW.1.cell 0 rfl; have s1 := hSW.1.cell 1 rfl; have s2 := hSW.1.cell 2 rfl; have sz := hSW.1.2; have p1 := hSW.2.cell 1 rfl; have pz := hSW.2.2); go_simp <;> (try with_reducible rfl))
                  refine ready_call 28 ⟨some 95, Op.call { callee := Callee.value (Operand.func 59), args := #[Operand.tmp 91, Operand.tmp 92, Operand.tmp 94], argTypes := #[3, 3, 9] }, _, _, _, some (22, false)⟩ (by kernel_rfl) rfl (by kernel_rfl) (fun KC hK => ?_)
                  go_wp2_with fail
                  refine (HOL.out _).mono ?_
                  rintro r w4 ⟨rfl, hw⟩
                  have hw := hw.symm
                  subst hw
                  refine hK.out _ _ ⟨HD.out.1, HD.out.2.1⟩ (fun hHeld => ?_)
                  clear hK KC
                  refine take_v (v := ?_) 29 ⟨some 96, Op.unOp UnOp.not 4 (Operand.tmp 95), _, _, _, some (22, false)⟩ rfl (fun _ _ _ h => h) ?_ hHeld ?_
                  rotate_left
                  · (intro W _; go_simp <;> (try with_reducible rfl))
                  refine take_v (v := ?_) 30 ⟨some 97, Op.pick (Operand.tmp 89) (Operand.const (Value.bool true)) (Operand.tmp 96), _, _, _, none⟩ rfl (fun _ _ _ h => h) ?_ hHeld ?_
                  rotate_left
                  · (intro W _; go_simp <;> (try with_reducible rfl))
                  refine wpAnyH_done (by kernel_rfl) ?_ _
                  refine NoPanic.normal ?_
                  clear hHeld
                  go_wp2
                  go_roundw
                  case rel => exact ⟨0 + 1, by omega, by go_num, HNX.out, HD.out.2.1, HD.out.2.2.1, HD.out.2.2.2.1, HD.out.2.2.2.2⟩
                  case measure => simp [intOf]; omega
                · have HOL : Hid (∀ W, Calls Try.prog 59 #[.int .i64 y1, .int .i64 k, .string y2] W fun r w' => r = .returned (.bool false) ∧ w' = W) := Hid.intro (fun W => tf_no e ▸ l10Old_n _ _ _ W HV.out)
                  have HN : Hid (¬ goodS ac ps) := Hid.intro (bad_pro hlx HNC.out.1 xH.out (fun q => e (HPN.out.2.1 (prs_pre q.2.1 0 hjt).1).2))
                  clear e
                  refine wp_region_noPanic ?_
                  refine wp_region_held_drew (S := fun W => Bx W wr.heap.size [.int .i64 y0, .int .i64 y1, .string y2] ∧ Bx W wo.heap.size [.string x0, .slice (some ⟨yg, yoff, none⟩) x1.length xk1, .bool x2, .string x3, .slice xa2 x4.length xk2]) (by kernel_rfl) ⟨HD.out.1, HD.out.2.1⟩ (fun hHeld => ?_)
                  refine take_v (v := ?_) 0 ⟨some 67, Op.fieldAddr 96 (Operand.tmp 9) 0, _, _, _, none⟩ rfl (fun _ _ _ h => h) ?_ hHeld ?_
                  rotate_left
                  · (intro W _; go_simp <;> (try with_reducible rfl))
                  refine take_v (v := ?_) 1 ⟨some 68, Op.load 3 (Operand.tmp 67), _, _, _, none⟩ rfl (fun _ _ _ h => h) ?_ hHeld ?_
                  rotate_left
                  · (intro W hSW; (have s0 := hSW.1.cell 0 rfl; have s1 := hSW.1.cell 1 rfl; have s2 := hSW.1.cell 2 rfl; have sz := hSW.1.2; have p1 := hSW.2.cell 1 rfl; have pz := hSW.2.2); go_simp <;> (try with_reducible rfl))
                  refine take_v (v := ?_) 2 ⟨some 69, Op.move (Operand.tmp 3), _, _, _, none⟩ rfl (fun _ _ _ h => h) ?_ hHeld ?_
                  rotate_left
                  · (intro W _; go_simp <;> (try with_reducible rfl))
                  refine take_v (v := ?_) 3 ⟨some 70, Op.binOp BinOp.sub 3 (Operand.tmp 69) (Operand.const (Value.int IntKind.i64 1)) 3, _, _, _, none⟩ rfl (fun _ _ _ h => h) ?_ hHeld ?_
                  rotate_left
                  · (intro W _; go_simp <;> (try with_reducible rfl))
                  refine ready_call 4 ⟨some 71, Op.call { callee := Callee.value (Operand.func 58), args := #[Operand.tmp 68, Operand.const (Value.int IntKind.i64 0), Operand.tmp 70], argTypes := #[3, 3, 3] }, _, _, _, none⟩ (by kernel_rfl) rfl (by kernel_rfl) (fun KC hK => ?_)
                  go_wp2_with fail
                  refine (HIN.out _).mono ?_
                  rintro r w4 ⟨rfl, hw⟩
                  have hw := hw.symm
                  subst hw
                  refine hK.out _ _ ⟨HD.out.1, HD.out.2.1⟩ (fun hHeld => ?_)
                  clear hK KC
                  refine take_v (v := ?_) 5 ⟨some 72, Op.unOp UnOp.not 4 (Operand.tmp 71), _, _, _, none⟩ rfl (fun _ _ _ h => h) ?_ hHeld ?_
                  rotate_left
                  · (intro W _; go_simp <;> (try with_reducible rfl))
                  refine take_v (v := ?_) 6 ⟨some 73, Op.move (Operand.tmp 72), _, _, _, none⟩ rfl (fun _ _ _ h => h) ?_ hHeld ?_
                  rotate_left
                  · (intro W _; go_simp <;> (try with_reducible rfl))
                  refine take_v (v := ?_) 7 ⟨some 74, Op.move (Operand.tmp 8), _, _, _, some (6, false)⟩ rfl (fun _ _ _ h => h) ?_ hHeld ?_
                  rotate_left
                  · (intro W _; go_simp <;> (try with_reducible rfl))
                  refine take_v (v := ?_) 8 ⟨some 75, Op.binOp BinOp.gtr 3 (Operand.tmp 74) (Operand.const (Value.int IntKind.i64 0)) 3, _, _, _, some (6, false)⟩ rfl (fun _ _ _ h => h) ?_ hHeld ?_
                  rotate_left
                  · (intro W _; go_simp <;> (try with_reducible rfl))
                  refine take_v (v := ?_) 9 ⟨some 76, Op.move (Operand.tmp 75), _, _, _, some (6, false)⟩ rfl (fun _ _ _ h => h) ?_ hHeld ?_
                  rotate_left
                  · (intro W _; go_simp <;> (try with_reducible rfl))
                  refine take_n 10 ⟨some 77, Op.fieldAddr 43 (Operand.tmp 7) 1, _, _, _, some (9, true)⟩ rfl (fun _ _ _ h => h) hHeld ?_
                  refine take_n 11 ⟨some 78, Op.load 40 (Operand.tmp 77), _, _, _, some (9, true)⟩ rfl (fun _ _ _ h => h) hHeld ?_
                  refine take_n 12 ⟨some 79, Op.move (Operand.tmp 8), _, _, _, some (9, true)⟩ rfl (fun _ _ _ h => h) hHeld ?_
                  refine take_n 13 ⟨some 80, Op.binOp BinOp.sub 3 (Operand.tmp 79) (Operand.const (Value.int IntKind.i64 1)) 3, _, _, _, some (9, true)⟩ rfl (fun _ _ _ h => h) hHeld ?_
                  refine take_n 14 ⟨some 81, Op.indexAddr 40 (Operand.tmp 78) (Operand.tmp 80), _, _, _, some (9, true)⟩ rfl (fun _ _ _ h => h) hHeld ?_
                  refine take_n 15 ⟨some 82, Op.fieldAddr 96 (Operand.tmp 81) 0, _, _, _, some (9, true)⟩ rfl (fun _ _ _ h => h) hHeld ?_
                  refine take_n 16 ⟨some 83, Op.load 3 (Operand.tmp 82), _, _, _, some (9, true)⟩ rfl (fun _ _ _ h => h) hHeld ?_
                  refine take_n 17 ⟨some 84, Op.fieldAddr 96 (Operand.tmp 9) 0, _, _, _, some (9, true)⟩ rfl (fun _ _ _ h => h) hHeld ?_
                  refine take_n 18 ⟨some 85, Op.load 3 (Operand.tmp 84), _, _, _, some (9, true)⟩ rfl (fun _ _ _ h => h) hHeld ?_
                  refine take_n 19 ⟨some 86, Op.binOp BinOp.geq 3 (Operand.tmp 83) (Operand.tmp 85) 3, _, _, _, some (9, true)⟩ rfl (fun _ _ _ h => h) hHeld ?_
                  refine take_v (v := ?_) 20 ⟨some 87, Op.pick (Operand.tmp 76) (Operand.tmp 86) (Operand.const (Value.bool false)), _, _, _, some (6, false)⟩ rfl (fun _ _ _ h => h) ?_ hHeld ?_
                  rotate_left
                  · (intro W _; go_simp <;> (try with_reducible rfl))
                  refine take_v (v := ?_) 21 ⟨some 88, Op.pick (Operand.tmp 73) (Operand.const (Value.bool true)) (Operand.tmp 87), _, _, _, none⟩ rfl (fun _ _ _ h => h) ?_ hHeld ?_
                  rotate_left
                  · (intro W _; go_simp <;> (try with_reducible rfl))
                  refine take_v (v := ?_) 22 ⟨some 89, Op.move (Operand.tmp 88), _, _, _, none⟩ rfl (fun _ _ _ h => h) ?_ hHeld ?_
                  rotate_left
                  · (intro W _; go_simp <;> (try with_reducible rfl))
                  refine take_v (v := ?_) 23 ⟨some 90, Op.fieldAddr 96 (Operand.tmp 9) 1, _, _, _, some (22, false)⟩ rfl (fun _ _ _ h => h) ?_ hHeld ?_
                  rotate_left
                  · (intro W _; go_simp <;> (try with_reducible rfl))
                  refine take_v (v := ?_) 24 ⟨some 91, Op.load 3 (Operand.tmp 90), _, _, _, some (22, false)⟩ rfl (fun _ _ _ h => h) ?_ hHeld ?_
                  rotate_left
                  · (intro W hSW; (have s0 := hSW.1.cell 0 rfl; have s1 := hSW.1.cell 1 rfl; have s2 := hSW.1.cell 2 rfl; have sz := hSW.1.2; have p1 := hSW.2.cell 1 rfl; have pz := hSW.2.2); go_simp <;> (try with_reducible rfl))
                  refine take_v (v := ?_) 25 ⟨some 92, Op.move (Operand.tmp 6), _, _, _, some (22, false)⟩ rfl (fun _ _ _ h => h) ?_ hHeld ?_
                  rotate_left
                  · (intro W _; go_simp <;> (try with_reducible rfl))
                  refine take_v (v := ?_) 26 ⟨some 93, Op.fieldAddr 96 (Operand.tmp 9) 2, _, _, _, some (22, false)⟩ rfl (fun _ _ _ h => h) ?_ hHeld ?_
                  rotate_left
                  · (intro W _; go_simp <;> (try with_reducible rfl))
                  refine take_v (v := ?_) 27 ⟨some 94, Op.load 9 (Operand.tmp 93), _, _, _, some (22, false)⟩ rfl (fun _ _ _ h => h) ?_ hHeld ?_
                  rotate_left
                  · (intro W hSW; (have s0 := hSW.1.cell 0 rfl; have s1 := hSW.1.cell 1 rfl; have s2 := hSW.1.cell 2 rfl; have sz := hSW.1.2; have p1 := hSW.2.cell 1 rfl; have pz := hSW.2.2); go_simp <;> (try with_reducible rfl))
                  refine ready_call 28 ⟨some 95, Op.call { callee := Callee.value (Operand.func 59), args := #[Operand.tmp 91, Operand.tmp 92, Operand.tmp 94], argTypes := #[3, 3, 9] }, _, _, _, some (22, false)⟩ (by kernel_rfl) rfl (by kernel_rfl) (fun KC hK => ?_)
                  go_wp2_with fail
                  refine (HOL.out _).mono ?_
                  rintro r w4 ⟨rfl, hw⟩
                  have hw := hw.symm
                  subst hw
                  refine hK.out _ _ ⟨HD.out.1, HD.out.2.1⟩ (fun hHeld => ?_)
                  clear hK KC
                  refine take_v (v := ?_) 29 ⟨some 96, Op.unOp UnOp.not 4 (Operand.tmp 95), _, _, _, some (22, false)⟩ rfl (fun _ _ _ h => h) ?_ hHeld ?_
                  rotate_left
                  · (intro W _; go_simp <;> (try with_reducible rfl))
                  refine take_v (v := ?_) 30 ⟨some 97, Op.pick (Operand.tmp 89) (Operand.const (Value.bool true)) (Operand.tmp 96), _, _, _, none⟩ rfl (fun _ _ _ h => h) ?_ hHeld ?_
                  rotate_left
                  · (intro W _; go_simp <;> (try with_reducible rfl))
                  refine wpAnyH_done (by kernel_rfl) ?_ _
                  refine NoPanic.normal ?_
                  clear hHeld
                  go_wp2
                  go_ret
                  exact ⟨goodS_none HN.out, HD.out.2.2.2.1⟩
              obtain ⟨q, hq⟩ : ∃ q, q = j - 1 := ⟨_, rfl⟩
              obtain ⟨m, rfl⟩ : ∃ m, j = m + 1 := ⟨j - 1, by omega⟩
              clear hq hj0
              have hj1 : (0 : Int) < ((m + 1 : Nat) : Int) := by omega
              have hjm : IntKind.i64.wrap (((m + 1 : Nat) : Int) - 1) = (m : Int) := (w64s (by omega) (by omega)).trans (by omega)
              have hjm2 : IntKind.i64.wrap (m : Int) = (m : Int) := w64s (by omega) (by omega)
              have hml : (m : Int) < (x1.length : Int) := by omega
              have hmx : m < x1.length := by omega
              obtain ⟨zg, zoff, zgo, zgs, zec, zel, zhec, zle⟩ := Lies.elem HLX.out hmx
              simp only [Option.some.injEq, Addr.mk.injEq, and_true] at zgo
              obtain ⟨rfl, rfl⟩ := zgo
              rcases zX : x1[m] with ⟨z0, z1, z2, ⟨⟩⟩
              rw [zX] at zle
              obtain rfl := lies_Promise zle
              have HZP : Hid (pnd x1[m] = z0) := Hid.intro (by rw [zX]; rfl)
              have hz1 : w3.drew.cell? ⟨yg, yoff + m * 3, none⟩ = some (.int .i64 z0) := zhec 0 (by simp)
              have hz2 : yg < w3.drew.heap.size := zgs
              clear zhec zel zle zX zgs
              have HRI : Hid ((∀ x ∈ x1.take (m + 1), pnd x < pnd x1[m + 1]) ↔ z0 < y0) := Hid.intro (by rw [prs_last hjt HAL.out, HZP.out, HPN.out.1])
              by_cases cz : z0 < y0
              case neg =>
                have cz' : y0 ≤ z0 := Int.not_lt.1 cz
                have HN : Hid (¬ goodS ac ps) := Hid.intro (bad_pro hlx HNC.out.1 xH.out (fun q => cz (HRI.out.1 (prs_pre q.2.1 (m + 1) hjt).2)))
                clear cz
                refine wp_region_noPanic ?_
                refine wp_region_held_drew (S := fun W => Bx W wr.heap.size [.int .i64 y0, .int .i64 y1, .string y2] ∧ Bx W wo.heap.size [.string x0, .slice (some ⟨yg, yoff, none⟩) x1.length xk1, .bool x2, .string x3, .slice xa2 x4.length xk2] ∧ W.cell? ⟨yg, yoff + m * 3, none⟩ = some (.int .i64 z0) ∧ yg < W.heap.size) (by kernel_rfl) ⟨HD.out.1, HD.out.2.1, hz1, hz2⟩ (fun hHeld => ?_)
                refine take_v (v := ?_) 0 ⟨some 67, Op.fieldAddr 96 (Operand.tmp 9) 0, _, _, _, none⟩ rfl (fun _ _ _ h => h) ?_ hHeld ?_
                rotate_left
                · (intro W _; go_simp <;> (try with_reducible rfl))
                refine take_v (v := ?_) 1 ⟨some 68, Op.load 3 (Operand.tmp 67), _, _, _, none⟩ rfl (fun _ _ _ h => h) ?_ hHeld ?_
                rotate_left
                · (intro W hSW; (have s0 := hSW.1.cell 0 rfl; have s1 := hSW.1.cell 1 rfl; have s2 := hSW.1.cell 2 rfl; have sz := hSW.1.2; have p1 := hSW.2.1.cell 1 rfl; have pz := hSW.2.1.2; have z1 := hSW.2.2.1; have z2 := hSW.2.2.2); go_simp <;> (try with_reducible rfl))
                refine take_v (v := ?_) 2 ⟨some 69, Op.move (Operand.tmp 3), _, _, _, none⟩ rfl (fun _ _ _ h => h) ?_ hHeld ?_
                rotate_left
                · (intro W _; go_simp <;> (try with_reducible rfl))
                refine take_v (v := ?_) 3 ⟨some 70, Op.binOp BinOp.sub 3 (Operand.tmp 69) (Operand.const (Value.int IntKind.i64 1)) 3, _, _, _, none⟩ rfl (fun _ _ _ h => h) ?_ hHeld ?_
                rotate_left
                · (intro W _; go_simp <;> (try with_reducible rfl))
                refine ready_call 4 ⟨some 71, Op.call { callee := Callee.value (Operand.func 58), args := #[Operand.tmp 68, Operand.const (Value.int IntKind.i64 0), Operand.tmp 70], argTypes := #[3, 3, 3] }, _, _, _, none⟩ (by kernel_rfl) rfl (by kernel_rfl) (fun KC hK => ?_)
                go_wp2_with fail
                refine (HIN.out _).mono ?_
                rintro r w4 ⟨rfl, hw⟩
                have hw := hw.symm
                subst hw
                refine hK.out _ _ ⟨HD.out.1, HD.out.2.1, hz1, hz2⟩ (fun hHeld => ?_)
                clear hK KC
                refine take_v (v := ?_) 5 ⟨some 72, Op.unOp UnOp.not 4 (Operand.tmp 71), _, _, _, none⟩ rfl (fun _ _ _ h => h) ?_ hHeld ?_
                rotate_left
                · (intro W _; go_simp <;> (try with_reducible rfl))
                refine take_v (v := ?_) 6 ⟨some 73, Op.move (Operand.tmp 72), _, _, _, none⟩ rfl (fun _ _ _ h => h) ?_ hHeld ?_
                rotate_left
                · (intro W _; go_simp <;> (try with_reducible rfl))
                refine take_v (v := ?_) 7 ⟨some 74, Op.move (Operand.tmp 8), _, _, _, some (6, false)⟩ rfl (fun _ _ _ h => h) ?_ hHeld ?_
                rotate_left
                · (intro W _; go_simp <;> (try with_reducible rfl))
                refine take_v (v := ?_) 8 ⟨some 75, Op.binOp BinOp.gtr 3 (Operand.tmp 74) (Operand.const (Value.int IntKind.i64 0)) 3, _, _, _, some (6, false)⟩ rfl (fun _ _ _ h => h) ?_ hHeld ?_
                rotate_left
                · (intro W _; go_simp <;> (try with_reducible rfl))
                refine take_v (v := ?_) 9 ⟨some 76, Op.move (Operand.tmp 75), _, _, _, some (6, false)⟩ rfl (fun _ _ _ h => h) ?_ hHeld ?_
                rotate_left
                · (intro W _; go_simp <;> (try with_reducible rfl))
                refine take_v (v := ?_) 10 ⟨some 77, Op.fieldAddr 43 (Operand.tmp 7) 1, _, _, _, some (9, true)⟩ rfl (fun _ _ _ h => h) ?_ hHeld ?_
                rotate_left
                · (intro W _; go_simp <;> (try with_reducible rfl))
                refine take_v (v := ?_) 11 ⟨some 78, Op.load 40 (Operand.tmp 77), _, _, _, some (9, true)⟩ rfl (fun _ _ _ h => h) ?_ hHeld ?_
                rotate_left
                · (intro W hSW; (have s0 := hSW.1.cell 0 rfl; have s1 := hSW.1.cell 1 rfl; have s2 := hSW.1.cell 2 rfl; have sz := hSW.1.2; have p1 := hSW.2.1.cell 1 rfl; have pz := hSW.2.1.2; have z1 := hSW.2.2.1; have z2 := hSW.2.2.2); go_simp <;> (try with_reducible rfl))
                refine take_v (v := ?_) 12 ⟨some 79, Op.move (Operand.tmp 8), _, _, _, some (9, true)⟩ rfl (fun _ _ _ h => h) ?_ hHeld ?_
                rotate_left
                · (intro W _; go_simp <;> (try with_reducible rfl))
                refine take_v (v := ?_) 13 ⟨some 80, Op.binOp BinOp.sub 3 (Operand.tmp 79) (Operand.const (Value.int IntKind.i64 1)) 3, _, _, _, some (9, true)⟩ rfl (fun _ _ _ h => h) ?_ hHeld ?_
                rotate_left
                · (intro W _; go_simp <;> (try with_reducible rfl))
                refine take_v (v := ?_) 14 ⟨some 81, Op.indexAddr 40 (Operand.tmp 78) (Operand.tmp 80), _, _, _, some (9, true)⟩ rfl (fun _ _ _ h => h) ?_ hHeld ?_
                rotate_left
                · (intro W _; go_simp <;> (try with_reducible rfl))
                refine take_v (v := ?_) 15 ⟨some 82, Op.fieldAddr 96 (Operand.tmp 81) 0, _, _, _, some (9, true)⟩ rfl (fun _ _ _ h => h) ?_ hHeld ?_
                rotate_left
                · (intro W _; go_simp <;> (try with_reducible rfl))
                refine take_v (v := ?_) 16 ⟨some 83, Op.load 3 (Operand.tmp 82), _, _, _, some (9, true)⟩ rfl (fun _ _ _ h => h) ?_ hHeld ?_
                rotate_left
                · (intro W hSW; (have s0 := hSW.1.cell 0 rfl; have s1 := hSW.1.cell 1 rfl; have s2 := hSW.1.cell 2 rfl; have sz := hSW.1.2; have p1 := hSW.2.1.cell 1 rfl; have pz := hSW.2.1.2; have z1 := hSW.2.2.1; have z2 := hSW.2.2.2); go_simp <;> (try with_reducible rfl))
                refine take_v (v := ?_) 17 ⟨some 84, Op.fieldAddr 96 (Operand.tmp 9) 0, _, _, _, some (9, true)⟩ rfl (fun _ _ _ h => h) ?_ hHeld ?_
                rotate_left
                · (intro W _; go_simp <;> (try with_reducible rfl))
                refine take_v (v := ?_) 18 ⟨some 85, Op.load 3 (Operand.tmp 84), _, _, _, some (9, true)⟩ rfl (fun _ _ _ h => h) ?_ hHeld ?_
                rotate_left
                · (intro W hSW; (have s0 := hSW.1.cell 0 rfl; have s1 := hSW.1.cell 1 rfl; have s2 := hSW.1.cell 2 rfl; have sz := hSW.1.2; have p1 := hSW.2.1.cell 1 rfl; have pz := hSW.2.1.2; have z1 := hSW.2.2.1; have z2 := hSW.2.2.2); go_simp <;> (try with_reducible rfl))
                refine take_v (v := ?_) 19 ⟨some 86, Op.binOp BinOp.geq 3 (Operand.tmp 83) (Operand.tmp 85) 3, _, _, _, some (9, true)⟩ rfl (fun _ _ _ h => h) ?_ hHeld ?_
                rotate_left
                · (intro W _; go_simp <;> (try with_reducible rfl))
                refine take_v (v := ?_) 20 ⟨some 87, Op.pick (Operand.tmp 76) (Operand.tmp 86) (Operand.const (Value.bool false)), _, _, _, some (6, false)⟩ rfl (fun _ _ _ h => h) ?_ hHeld ?_
                rotate_left
                · (intro W _; go_simp <;> (try with_reducible rfl))
                refine take_v (v := ?_) 21 ⟨some 88, Op.pick (Operand.tmp 73) (Operand.const (Value.bool true)) (Operand.tmp 87), _, _, _, none⟩ rfl (fun _ _ _ h => h) ?_ hHeld ?_
                rotate_left
                · (intro W _; go_simp <;> (try with_reducible rfl))
                refine take_v (v := ?_) 22 ⟨some 89, Op.move (Operand.tmp 88), _, _, _, none⟩ rfl (fun _ _ _ h => h) ?_ hHeld ?_
                rotate_left
                · (intro W _; go_simp <;> (try with_reducible rfl))
                refine take_n 23 ⟨some 90, Op.fieldAddr 96 (Operand.tmp 9) 1, _, _, _, some (22, false)⟩ rfl (fun _ _ _ h => h) hHeld ?_
                refine take_n 24 ⟨some 91, Op.load 3 (Operand.tmp 90), _, _, _, some (22, false)⟩ rfl (fun _ _ _ h => h) hHeld ?_
                refine take_n 25 ⟨some 92, Op.move (Operand.tmp 6), _, _, _, some (22, false)⟩ rfl (fun _ _ _ h => h) hHeld ?_
                refine take_n 26 ⟨some 93, Op.fieldAddr 96 (Operand.tmp 9) 2, _, _, _, some (22, false)⟩ rfl (fun _ _ _ h => h) hHeld ?_
                refine take_n 27 ⟨some 94, Op.load 9 (Operand.tmp 93), _, _, _, some (22, false)⟩ rfl (fun _ _ _ h => h) hHeld ?_
                refine take_n 28 ⟨some 95, Op.call { callee := Callee.value (Operand.func 59), args := #[Operand.tmp 91, Operand.tmp 92, Operand.tmp 94], argTypes := #[3, 3, 9] }, _, _, _, some (22, false)⟩ rfl (fun _ _ _ h => h) hHeld ?_
                refine take_n 29 ⟨some 96, Op.unOp UnOp.not 4 (Operand.tmp 95), _, _, _, some (22, false)⟩ rfl (fun _ _ _ h => h) hHeld ?_
                refine take_v (v := ?_) 30 ⟨some 97, Op.pick (Operand.tmp 89) (Operand.const (Value.bool true)) (Operand.tmp 96), _, _, _, none⟩ rfl (fun _ _ _ h => h) ?_ hHeld ?_
                rotate_left
                · (intro W _; go_simp <;> (try with_reducible rfl))
                refine wpAnyH_done (by kernel_rfl) ?_ _
                refine NoPanic.normal ?_
                clear hHeld
                go_wp2
                go_ret
                exact ⟨goodS_none HN.out, HD.out.2.2.2.1⟩
              have cz' : ¬ y0 ≤ z0 := Int.not_le.2 cz
              have cz2 : decide (y0 ≤ z0) = false := decide_eq_false cz'
              have cz3 : z0 < y0 := cz
              have HRS : Hid (∀ x ∈ x1.take (m + 1), pnd x < pnd x1[m + 1]) := Hid.intro (HRI.out.2 cz)
              clear cz HRI
              by_cases e : oldP y1 k y2
              · have HOL : Hid (∀ W, Calls Try.prog 59 #[.int .i64 y1, .int .i64 k, .string y2] W fun r w' => r = .returned (.bool true) ∧ w' = W) := Hid.intro (fun W => tf_yes e ▸ l10Old_n _ _ _ W HV.out)
                have HNX : Hid (prsP ((k : Int) + 1) nc (x1.take ((m + 1) + 1))) := Hid.intro (prs_succ hjt HAL.out (HPN.out.2.2 ⟨HI2.out, e⟩) HRS.out)
                clear e
                refine wp_region_noPanic ?_
                refine wp_region_held_drew (S := fun W => Bx W wr.heap.size [.int .i64 y0, .int .i64 y1, .string y2] ∧ Bx W wo.heap.size [.string x0, .slice (some ⟨yg, yoff, none⟩) x1.length xk1, .bool x2, .string x3, .slice xa2 x4.length xk2] ∧ W.cell? ⟨yg, yoff + m * 3, none⟩ = some (.int .i64 z0) ∧ yg < W.heap.size) (by kernel_rfl) ⟨HD.out.1, HD.out.2.1, hz1, hz2⟩ (fun hHeld => ?_)
                refine take_v (v := ?_) 0 ⟨some 67, Op.fieldAddr 96 (Operand.tmp 9) 0, _, _, _, none⟩ rfl (fun _ _ _ h => h) ?_ hHeld ?_
                rotate_left
                · (intro W _; go_simp <;> (try with_reducible rfl))
                refine take_v (v := ?_) 1 ⟨some 68, Op.load 3 (Operand.tmp 67), _, _, _, none⟩ rfl (fun _ _ _ h => h) ?_ hHeld ?_
                rotate_left
                · (intro W hSW; (have s0 := hSW.1.cell 0 rfl; have s1 := hSW.1.cell 1 rfl; have s2 := hSW.1.cell 2 rfl; have sz := hSW.1.2; have p1 := hSW.2.1.cell 1 rfl; have pz := hSW.2.1.2; have z1 := hSW.2.2.1; have z2 := hSW.2.2.2); go_simp <;> (try with_reducible rfl))
                refine take_v (v := ?_) 2 ⟨some 69, Op.move (Operand.tmp 3), _, _, _, none⟩ rfl (fun _ _ _ h => h) ?_ hHeld ?_
                rotate_left
                · (intro W _; go_simp <;> (try with_reducible rfl))
                refine take_v (v := ?_) 3 ⟨some 70, Op.binOp BinOp.sub 3 (Operand.tmp 69) (Operand.const (Value.int IntKind.i64 1)) 3, _, _, _, none⟩ rfl (fun _ _ _ h => h) ?_ hHeld ?_
                rotate_left
                · (intro W _; go_simp <;> (try with_reducible rfl))
                refine ready_call 4 ⟨some 71, Op.call { callee := Callee.value (Operand.func 58), args := #[Operand.tmp 68, Operand.const (Value.int IntKind.i64 0), Operand.tmp 70], argTypes := #[3, 3, 3] }, _, _, _, none⟩ (by kernel_rfl) rfl (by kernel_rfl) (fun KC hK => ?_)
                go_wp2_with fail
                refine (HIN.out _).mono ?_
                rintro r w4 ⟨rfl, hw⟩
                have hw := hw.symm
                subst hw
                refine hK.out _ _ ⟨HD.out.1, HD.out.2.1, hz1, hz2⟩ (fun hHeld => ?_)
                clear hK KC
                refine take_v (v := ?_) 5 ⟨some 72, Op.unOp UnOp.not 4 (Operand.tmp 71), _, _, _, none⟩ rfl (fun _ _ _ h => h) ?_ hHeld ?_
                rotate_left
                · (intro W _; go_simp <;> (try with_reducible rfl))
                refine take_v (v := ?_) 6 ⟨some 73, Op.move (Operand.tmp 72), _, _, _, none⟩ rfl (fun _ _ _ h => h) ?_ hHeld ?_
                rotate_left
                · (intro W _; go_simp <;> (try with_reducible rfl))
                refine take_v (v := ?_) 7 ⟨some 74, Op.move (Operand.tmp 8), _, _, _, some (6, false)⟩ rfl (fun _ _ _ h => h) ?_ hHeld ?_
                rotate_left
                · (intro W _; go_simp <;> (try with_reducible rfl))
                refine take_v (v := ?_) 8 ⟨some 75, Op.binOp BinOp.gtr 3 (Operand.tmp 74) (Operand.const (Value.int IntKind.i64 0)) 3, _, _, _, some (6, false)⟩ rfl (fun _ _ _ h => h) ?_ hHeld ?_
                rotate_left
                · (intro W _; go_simp <;> (try with_reducible rfl))
                refine take_v (v := ?_) 9 ⟨some 76, Op.move (Operand.tmp 75), _, _, _, some (6, false)⟩ rfl (fun _ _ _ h => h) ?_ hHeld ?_
                rotate_left
                · (intro W _; go_simp <;> (try with_reducible rfl))
                refine take_v (v := ?_) 10 ⟨some 77, Op.fieldAddr 43 (Operand.tmp 7) 1, _, _, _, some (9, true)⟩ rfl (fun _ _ _ h => h) ?_ hHeld ?_
                rotate_left
                · (intro W _; go_simp <;> (try with_reducible rfl))
                refine take_v (v := ?_) 11 ⟨some 78, Op.load 40 (Operand.tmp 77), _, _, _, some (9, true)⟩ rfl (fun _ _ _ h => h) ?_ hHeld ?_
                rotate_left
                · (intro W hSW; (have s0 := hSW.1.cell 0 rfl; have s1 := hSW.1.cell 1 rfl; have s2 := hSW.1.cell 2 rfl; have sz := hSW.1.2; have p1 := hSW.2.1.cell 1 rfl; have pz := hSW.2.1.2; have z1 := hSW.2.2.1; have z2 := hSW.2.2.2); go_simp <;> (try with_reducible rfl))
                refine take_v (v := ?_) 12 ⟨some 79, Op.move (Operand.tmp 8), _, _, _, some (9, true)⟩ rfl (fun _ _ _ h => h) ?_ hHeld ?_
                rotate_left
                · (intro W _; go_simp <;> (try with_reducible rfl))
                refine take_v (v := ?_) 13 ⟨some 80, Op.binOp BinOp.sub 3 (Operand.tmp 79) (Operand.const (Value.int IntKind.i64 1)) 3, _, _, _, some (9, true)⟩ rfl (fun _ _ _ h => h) ?_ hHeld ?_
                rotate_left
                · (intro W _; go_simp <;> (try with_reducible rfl))
                refine take_v (v := ?_) 14 ⟨some 81, Op.indexAddr 40 (Operand.tmp 78) (Operand.tmp 80), _, _, _, some (9, true)⟩ rfl (fun _ _ _ h => h) ?_ hHeld ?_
                rotate_left
                · (intro W _; go_simp <;> (try with_reducible rfl))
                refine take_v (v := ?_) 15 ⟨some 82, Op.fieldAddr 96 (Operand.tmp 81) 0, _, _, _, some (9, true)⟩ rfl (fun _ _ _ h => h) ?_ hHeld ?_
                rotate_left
                · (intro W _; go_simp <;> (try with_reducible rfl))
                refine take_v (v := ?_) 16 ⟨some 83, Op.load 3 (Operand.tmp 82), _, _, _, some (9, true)⟩ rfl (fun _ _ _ h => h) ?_ hHeld ?_
                rotate_left
                · (intro W hSW; (have s0 := hSW.1.cell 0 rfl; have s1 := hSW.1.cell 1 rfl; have s2 := hSW.1.cell 2 rfl; have sz := hSW.1.2; have p1 := hSW.2.1.cell 1 rfl; have pz := hSW.2.1.2; have z1 := hSW.2.2.1; have z2 := hSW.2.2.2); go_simp <;> (try with_reducible rfl))
                refine take_v (v := ?_) 17 ⟨some 84, Op.fieldAddr 96 (Operand.tmp 9) 0, _, _, _, some (9, true)⟩ rfl (fun _ _ _ h => h) ?_ hHeld ?_
                rotate_left
                · (intro W _; go_simp <;> (try with_reducible rfl))
                refine take_v (v := ?_) 18 ⟨some 85, Op.load 3 (Operand.tmp 84), _, _, _, some (9, true)⟩ rfl (fun _ _ _ h => h) ?_ hHeld ?_
                rotate_left
                · (intro W hSW; (have s0 := hSW.1.cell 0 rfl; have s1 := hSW.1.cell 1 rfl; have s2 := hSW.1.cell 2 rfl; have sz := hSW.1.2; have p1 := hSW.2.1.cell 1 rfl; have pz := hSW.2.1.2; have z1 := hSW.2.2.1; have z2 := hSW.2.2.2); go_simp <;> (try with_reducible rfl))
                refine take_v (v := ?_) 19 ⟨some 86, Op.binOp BinOp.geq 3 (Operand.tmp 83) (Operand.tmp 85) 3, _, _, _, some (9, true)⟩ rfl (fun _ _ _ h => h) ?_ hHeld ?_
                rotate_left
                · (intro W _; go_simp <;> (try with_reducible rfl))
                refine take_v (v := ?_) 20 ⟨some 87, Op.pick (Operand.tmp 76) (Operand.tmp 86) (Operand.const (Value.bool false)), _, _, _, some (6, false)⟩ rfl (fun _ _ _ h => h) ?_ hHeld ?_
                rotate_left
                · (intro W _; go_simp <;> (try with_reducible rfl))
                refine take_v (v := ?_) 21 ⟨some 88, Op.pick (Operand.tmp 73) (Operand.const (Value.bool true)) (Operand.tmp 87), _, _, _, none⟩ rfl (fun _ _ _ h => h) ?_ hHeld ?_
                rotate_left
                · (intro W _; go_simp <;> (try with_reducible rfl))
                refine take_v (v := ?_) 22 ⟨some 89, Op.move (Operand.tmp 88), _, _, _, none⟩ rfl (fun _ _ _ h => h) ?_ hHeld ?_
                rotate_left
                · (intro W _; go_simp <;> (try with_reducible rfl))
                refine take_v (v := ?_) 23 ⟨some 90, Op.fieldAddr 96 (Operand.tmp 9) 1, _, _, _, some (22, false)⟩ rfl (fun _ _ _ h => h) ?_ hHeld ?_
                rotate_left
                · (intro W _; go_simp <;> (try with_reducible rfl))
                refine take_v (v := ?_) 24 ⟨some 91, Op.load 3 (Operand.tmp 90), _, _, _, some (22, false)⟩ rfl (fun _ _ _ h => h) ?_ hHeld ?_
                rotate_left
                · (intro W hSW; (have s0 := hSW.1.cell 0 rfl; have s1 := hSW.1.cell 1 rfl; have s2 := hSW.1.cell 2 rfl; have sz := hSW.1.2; have p1 := hSW.2.1.cell 1 rfl; have pz := hSW.2.1.2; have z1 := hSW.2.2.1; have z2 := hSW.2.2.2); go_simp <;> (try with_reducible rfl))
                refine take_v (v := ?_) 25 ⟨some 92, Op.move (Operand.tmp 6), _, _, _, some (22, false)⟩ rfl (fun _ _ _ h => h) ?_ hHeld ?_
                rotate_left
                · (intro W _; go_simp <;> (try with_reducible rfl))
                refine take_v (v := ?_) 26 ⟨some 93, Op.fieldAddr 96 (Operand.tmp 9) 2, _, _, _, some (22, false)⟩ rfl (fun _ _ _ h => h) ?_ hHeld ?_
                rotate_left
                · (intro W _; go_simp <;> (try with_reducible rfl))
                refine take_v (v := ?_) 27 ⟨some 94, Op.load 9 (Operand.tmp 93), _, _, _, some (22, false)⟩ rfl (fun _ _ _ h => h) ?_ hHeld ?_
                rotate_left
                · (intro W hSW; (have s0 := hSW.1.cell 0 rfl; have s1 := hSW.1.cell 1 rfl; have s2 := hSW.1.cell 2 rfl; have sz := hSW.1.2; have p1 := hSW.2.1.cell 1 rfl; have pz := hSW.2.1.2; have z1 := hSW.2.2.1; have z2 := hSW.2.2.2); go_simp <;> (try with_reducible rfl))
                refine ready_call 28 ⟨some 95, Op.call { callee := Callee.value (Operand.func 59), args := #[Operand.tmp 91, Operand.tmp 92, Operand.tmp 94], argTypes := #[3, 3, 9] }, _, _, _, some (22, false)⟩ (by kernel_rfl) rfl (by kernel_rfl) (fun KC hK => ?_)
                go_wp2_with fail
                refine (HOL.out _).mono ?_
                rintro r w4 ⟨rfl, hw⟩
                have hw := hw.symm
                subst hw
                refine hK.out _ _ ⟨HD.out.1, HD.out.2.1, hz1, hz2⟩ (fun hHeld => ?_)
                clear hK KC
                refine take_v (v := ?_) 29 ⟨some 96, Op.unOp UnOp.not 4 (Operand.tmp 95), _, _, _, some (22, false)⟩ rfl (fun _ _ _ h => h) ?_ hHeld ?_
                rotate_left
                · (intro W _; go_simp <;> (try with_reducible rfl))
                refine take_v (v := ?_) 30 ⟨some 97, Op.pick (Operand.tmp 89) (Operand.const (Value.bool true)) (Operand.tmp 96), _, _, _, none⟩ rfl (fun _ _ _ h => h) ?_ hHeld ?_
                rotate_left
                · (intro W _; go_simp <;> (try with_reducible rfl))
                refine wpAnyH_done (by kernel_rfl) ?_ _
                refine NoPanic.normal ?_
                clear hHeld
                go_wp2
                go_roundw
                case rel => exact ⟨(m + 1) + 1, by omega, by go_num, HNX.out, HD.out.2.1, HD.out.2.2.1, HD.out.2.2.2.1, HD.out.2.2.2.2⟩
                case measure => simp [intOf]; omega
              · have HOL : Hid (∀ W, Calls Try.prog 59 #[.int .i64 y1, .int .i64 k, .string y2] W fun r w' => r = .returned (.bool false) ∧ w' = W) := Hid.intro (fun W => tf_no e ▸ l10Old_n _ _ _ W HV.out)
                have HN : Hid (¬ goodS ac ps) := Hid.intro (bad_pro hlx HNC.out.1 xH.out (fun q => e (HPN.out.2.1 (prs_pre q.2.1 (m + 1) hjt).1).2))
                clear e
                refine wp_region_noPanic ?_
                refine wp_region_held_drew (S := fun W => Bx W wr.heap.size [.int .i64 y0, .int .i64 y1, .string y2] ∧ Bx W wo.heap.size [.string x0, .slice (some ⟨yg, yoff, none⟩) x1.length xk1, .bool x2, .string x3, .slice xa2 x4.length xk2] ∧ W.cell? ⟨yg, yoff + m * 3, none⟩ = some (.int .i64 z0) ∧ yg < W.heap.size) (by kernel_rfl) ⟨HD.out.1, HD.out.2.1, hz1, hz2⟩ (fun hHeld => ?_)
                refine take_v (v := ?_) 0 ⟨some 67, Op.fieldAddr 96 (Operand.tmp 9) 0, _, _, _, none⟩ rfl (fun _ _ _ h => h) ?_ hHeld ?_
                rotate_left
                · (intro W _; go_simp <;> (try with_reducible rfl))
                refine take_v (v := ?_) 1 ⟨some 68, Op.load 3 (Operand.tmp 67), _, _, _, none⟩ rfl (fun _ _ _ h => h) ?_ hHeld ?_
                rotate_left
                · (intro W hSW; (have s0 := hSW.1.cell 0 rfl; have s1 := hSW.1.cell 1 rfl; have s2 := hSW.1.cell 2 rfl; have sz := hSW.1.2; have p1 := hSW.2.1.cell 1 rfl; have pz := hSW.2.1.2; have z1 := hSW.2.2.1; have z2 := hSW.2.2.2); go_simp <;> (try with_reducible rfl))
                refine take_v (v := ?_) 2 ⟨some 69, Op.move (Operand.tmp 3), _, _, _, none⟩ rfl (fun _ _ _ h => h) ?_ hHeld ?_
                rotate_left
                · (intro W _; go_simp <;> (try with_reducible rfl))
                refine take_v (v := ?_) 3 ⟨some 70, Op.binOp BinOp.sub 3 (Operand.tmp 69) (Operand.const (Value.int IntKind.i64 1)) 3, _, _, _, none⟩ rfl (fun _ _ _ h => h) ?_ hHeld ?_
                rotate_left
                · (intro W _; go_simp <;> (try with_reducible rfl))
                refine ready_call 4 ⟨some 71, Op.call { callee := Callee.value (Operand.func 58), args := #[Operand.tmp 68, Operand.const (Value.int IntKind.i64 0), Operand.tmp 70], argTypes := #[3, 3, 3] }, _, _, _, none⟩ (by kernel_rfl) rfl (by kernel_rfl) (fun KC hK => ?_)
                go_wp2_with fail
                refine (HIN.out _).mono ?_
                rintro r w4 ⟨rfl, hw⟩
                have hw := hw.symm
                subst hw
                refine hK.out _ _ ⟨HD.out.1, HD.out.2.1, hz1, hz2⟩ (fun hHeld => ?_)
                clear hK KC
                refine take_v (v := ?_) 5 ⟨some 72, Op.unOp UnOp.not 4 (Operand.tmp 71), _, _, _, none⟩ rfl (fun _ _ _ h => h) ?_ hHeld ?_
                rotate_left
                · (intro W _; go_simp <;> (try with_reducible rfl))
                refine take_v (v := ?_) 6 ⟨some 73, Op.move (Operand.tmp 72), _, _, _, none⟩ rfl (fun _ _ _ h => h) ?_ hHeld ?_
                rotate_left
                · (intro W _; go_simp <;> (try with_reducible rfl))
                refine take_v (v := ?_) 7 ⟨some 74, Op.move (Operand.tmp 8), _, _, _, some (6, false)⟩ rfl (fun _ _ _ h => h) ?_ hHeld ?_
                rotate_left
                · (intro W _; go_simp <;> (try with_reducible rfl))
                refine take_v (v := ?_) 8 ⟨some 75, Op.binOp BinOp.gtr 3 (Operand.tmp 74) (Operand.const (Value.int IntKind.i64 0)) 3, _, _, _, some (6, false)⟩ rfl (fun _ _ _ h => h) ?_ hHeld ?_
                rotate_left
                · (intro W _; go_simp <;> (try with_reducible rfl))
                refine take_v (v := ?_) 9 ⟨some 76, Op.move (Operand.tmp 75), _, _, _, some (6, false)⟩ rfl (fun _ _ _ h => h) ?_ hHeld ?_
                rotate_left
                · (intro W _; go_simp <;> (try with_reducible rfl))
                refine take_v (v := ?_) 10 ⟨some 77, Op.fieldAddr 43 (Operand.tmp 7) 1, _, _, _, some (9, true)⟩ rfl (fun _ _ _ h => h) ?_ hHeld ?_
                rotate_left
                · (intro W _; go_simp <;> (try with_reducible rfl))
                refine take_v (v := ?_) 11 ⟨some 78, Op.load 40 (Operand.tmp 77), _, _, _, some (9, true)⟩ rfl (fun _ _ _ h => h) ?_ hHeld ?_
                rotate_left
                · (intro W hSW; (have s0 := hSW.1.cell 0 rfl; have s1 := hSW.1.cell 1 rfl; have s2 := hSW.1.cell 2 rfl; have sz := hSW.1.2; have p1 := hSW.2.1.cell 1 rfl; have pz := hSW.2.1.2; have z1 := hSW.2.2.1; have z2 := hSW.2.2.2); go_simp <;> (try with_reducible rfl))
                refine take_v (v := ?_) 12 ⟨some 79, Op.move (Operand.tmp 8), _, _, _, some (9, true)⟩ rfl (fun _ _ _ h => h) ?_ hHeld ?_
                rotate_left
                · (intro W _; go_simp <;> (try with_reducible rfl))
                refine take_v (v := ?_) 13 ⟨some 80, Op.binOp BinOp.sub 3 (Operand.tmp 79) (Operand.const (Value.int IntKind.i64 1)) 3, _, _, _, some (9, true)⟩ rfl (fun _ _ _ h => h) ?_ hHeld ?_
                rotate_left
                · (intro W _; go_simp <;> (try with_reducible rfl))
                refine take_v (v := ?_) 14 ⟨some 81, Op.indexAddr 40 (Operand.tmp 78) (Operand.tmp 80), _, _, _, some (9, true)⟩ rfl (fun _ _ _ h => h) ?_ hHeld ?_
                rotate_left
                · (intro W _; go_simp <;> (try with_reducible rfl))
                refine take_v (v := ?_) 15 ⟨some 82, Op.fieldAddr 96 (Operand.tmp 81) 0, _, _, _, some (9, true)⟩ rfl (fun _ _ _ h => h) ?_ hHeld ?_
                rotate_left
                · (intro W _; go_simp <;> (try with_reducible rfl))
                refine take_v (v := ?_) 16 ⟨some 83, Op.load 3 (Operand.tmp 82), _, _, _, some (9, true)⟩ rfl (fun _ _ _ h => h) ?_ hHeld ?_
                rotate_left
                · (intro W hSW; (have s0 := hSW.1.cell 0 rfl; have s1 := hSW.1.cell 1 rfl; have s2 := hSW.1.cell 2 rfl; have sz := hSW.1.2; have p1 := hSW.2.1.cell 1 rfl; have pz := hSW.2.1.2; have z1 := hSW.2.2.1; have z2 := hSW.2.2.2); go_simp <;> (try with_reducible rfl))
                refine take_v (v := ?_) 17 ⟨some 84, Op.fieldAddr 96 (Operand.tmp 9) 0, _, _, _, some (9, true)⟩ rfl (fun _ _ _ h => h) ?_ hHeld ?_
                rotate_left
                · (intro W _; go_simp <;> (try with_reducible rfl))
                refine take_v (v := ?_) 18 ⟨some 85, Op.load 3 (Operand.tmp 84), _, _, _, some (9, true)⟩ rfl (fun _ _ _ h => h) ?_ hHeld ?_
                rotate_left
                · (intro W hSW; (have s0 := hSW.1.cell 0 rfl; have s1 := hSW.1.cell 1 rfl; have s2 := hSW.1.cell 2 rfl; have sz := hSW.1.2; have p1 := hSW.2.1.cell 1 rfl; have pz := hSW.2.1.2; have z1 := hSW.2.2.1; have z2 := hSW.2.2.2); go_simp <;> (try with_reducible rfl))
                refine take_v (v := ?_) 19 ⟨some 86, Op.binOp BinOp.geq 3 (Operand.tmp 83) (Operand.tmp 85) 3, _, _, _, some (9, true)⟩ rfl (fun _ _ _ h => h) ?_ hHeld ?_
                rotate_left
                · (intro W _; go_simp <;> (try with_reducible rfl))
                refine take_v (v := ?_) 20 ⟨some 87, Op.pick (Operand.tmp 76) (Operand.tmp 86) (Operand.const (Value.bool false)), _, _, _, some (6, false)⟩ rfl (fun _ _ _ h => h) ?_ hHeld ?_
                rotate_left
                · (intro W _; go_simp <;> (try with_reducible rfl))
                refine take_v (v := ?_) 21 ⟨some 88, Op.pick (Operand.tmp 73) (Operand.const (Value.bool true)) (Operand.tmp 87), _, _, _, none⟩ rfl (fun _ _ _ h => h) ?_ hHeld ?_
                rotate_left
                · (intro W _; go_simp <;> (try with_reducible rfl))
                refine take_v (v := ?_) 22 ⟨some 89, Op.move (Operand.tmp 88), _, _, _, none⟩ rfl (fun _ _ _ h => h) ?_ hHeld ?_
                rotate_left
                · (intro W _; go_simp <;> (try with_reducible rfl))
                refine take_v (v := ?_) 23 ⟨some 90, Op.fieldAddr 96 (Operand.tmp 9) 1, _, _, _, some (22, false)⟩ rfl (fun _ _ _ h => h) ?_ hHeld ?_
                rotate_left
                · (intro W _; go_simp <;> (try with_reducible rfl))
                refine take_v (v := ?_) 24 ⟨some 91, Op.load 3 (Operand.tmp 90), _, _, _, some (22, false)⟩ rfl (fun _ _ _ h => h) ?_ hHeld ?_
                rotate_left
                · (intro W hSW; (have s0 := hSW.1.cell 0 rfl; have s1 := hSW.1.cell 1 rfl; have s2 := hSW.1.cell 2 rfl; have sz := hSW.1.2; have p1 := hSW.2.1.cell 1 rfl; have pz := hSW.2.1.2; have z1 := hSW.2.2.1; have z2 := hSW.2.2.2); go_simp <;> (try with_reducible rfl))
                refine take_v (v := ?_) 25 ⟨some 92, Op.move (Operand.tmp 6), _, _, _, some (22, false)⟩ rfl (fun _ _ _ h => h) ?_ hHeld ?_
                rotate_left
                · (intro W _; go_simp <;> (try with_reducible rfl))
                refine take_v (v := ?_) 26 ⟨some 93, Op.fieldAddr 96 (Operand.tmp 9) 2, _, _, _, some (22, false)⟩ rfl (fun _ _ _ h => h) ?_ hHeld ?_
                rotate_left
                · (intro W _; go_simp <;> (try with_reducible rfl))
                refine take_v (v := ?_) 27 ⟨some 94, Op.load 9 (Operand.tmp 93), _, _, _, some (22, false)⟩ rfl (fun _ _ _ h => h) ?_ hHeld ?_
                rotate_left
                · (intro W hSW; (have s0 := hSW.1.cell 0 rfl; have s1 := hSW.1.cell 1 rfl; have s2 := hSW.1.cell 2 rfl; have sz := hSW.1.2; have p1 := hSW.2.1.cell 1 rfl; have pz := hSW.2.1.2; have z1 := hSW.2.2.1; have z2 := hSW.2.2.2); go_simp <;> (try with_reducible rfl))
                refine ready_call 28 ⟨some 95, Op.call { callee := Callee.value (Operand.func 59), args := #[Operand.tmp 91, Operand.tmp 92, Operand.tmp 94], argTypes := #[3, 3, 9] }, _, _, _, some (22, false)⟩ (by kernel_rfl) rfl (by kernel_rfl) (fun KC hK => ?_)
                go_wp2_with fail
                refine (HOL.out _).mono ?_
                rintro r w4 ⟨rfl, hw⟩
                have hw := hw.symm
                subst hw
                refine hK.out _ _ ⟨HD.out.1, HD.out.2.1, hz1, hz2⟩ (fun hHeld => ?_)
                clear hK KC
                refine take_v (v := ?_) 29 ⟨some 96, Op.unOp UnOp.not 4 (Operand.tmp 95), _, _, _, some (22, false)⟩ rfl (fun _ _ _ h => h) ?_ hHeld ?_
                rotate_left
                · (intro W _; go_simp <;> (try with_reducible rfl))
                refine take_v (v := ?_) 30 ⟨some 97, Op.pick (Operand.tmp 89) (Operand.const (Value.bool true)) (Operand.tmp 96), _, _, _, none⟩ rfl (fun _ _ _ h => h) ?_ hHeld ?_
                rotate_left
                · (intro W _; go_simp <;> (try with_reducible rfl))
                refine wpAnyH_done (by kernel_rfl) ?_ _
                refine NoPanic.normal ?_
                clear hHeld
                go_wp2
                go_ret
                exact ⟨goodS_none HN.out, HD.out.2.2.2.1⟩
            · have hjn : j = x1.length := by omega
              have HPR : Hid (prsP ((k : Int) + 1) nc x1) := Hid.intro (by have := hall; rwa [hjn, List.take_length] at this)
              have HB2 : Hid (Bx wr wo.heap.size [.string x0, .slice xa1 x1.length xk1, .bool x2, .string x3, .slice xa2 x4.length xk2] ∧ Bx wr w.heap.size [.slice a1 nc k1, .slice (some ⟨xg, xoff, none⟩) no k2] ∧ Below w.heap.size w wr ∧ Below w0.heap.size w0 wr) := ⟨hbx, hbs, hBr, hB0⟩
              have p0 := (hbx).cell 0 rfl; have p1 := (hbx).cell 1 rfl; have p2 := (hbx).cell 2 rfl; have p3 := (hbx).cell 3 rfl; have p4 := (hbx).cell 4 rfl; have pz := (hbx).2
              clear hbx hbs hBr hB0 hall hjn
              go_wp2
              clear p0 p1 p2 p3 p4 pz
              obtain ⟨wi, hwi⟩ : ∃ x, x = wr := ⟨_, rfl⟩
              subst hwi
              go_loopw [102] (fun i wr => ∃ j : Nat, j ≤ x4.length ∧ i = .int .i64 j ∧ grP (atI x4) nc j ∧ Bx wr wo.heap.size [.string x0, .slice xa1 x1.length xk1, .bool x2, .string x3, .slice xa2 x4.length xk2] ∧ Bx wr w.heap.size [.slice a1 nc k1, .slice (some ⟨xg, xoff, none⟩) no k2] ∧ Below w.heap.size w wr ∧ Below w0.heap.size w0 wr) (fun i _ => x4.length - (intOf i).toNat)
              case atStart => exact ⟨0, Nat.zero_le _, rfl, fun i hi => absurd hi (by omega), HB2.out⟩
              case round =>
                obtain ⟨j, hj, rfl, hall, hbx, hbs, hBr, hB0⟩ := hrel
                clear HB2
                have HB3 : Hid (Bx wr wo.heap.size [.string x0, .slice xa1 x1.length xk1, .bool x2, .string x3, .slice xa2 x4.length xk2] ∧ Bx wr w.heap.size [.slice a1 nc k1, .slice (some ⟨xg, xoff, none⟩) no k2] ∧ Below w.heap.size w wr ∧ Below w0.heap.size w0 wr) := ⟨hbx, hbs, hBr, hB0⟩
                have HG : Hid (grP (atI x4) nc j) := hall
                have p0 := (hbx).cell 0 rfl; have p1 := (hbx).cell 1 rfl; have p2 := (hbx).cell 2 rfl; have p3 := (hbx).cell 3 rfl; have p4 := (hbx).cell 4 rfl; have pz := (hbx).2
                by_cases hjt : j < x4.length
                · have hjt' : (j : Int) < (x4.length : Int) := by omega
                  have hlx4 := lies_sl (HLP.out.2.next hB0)
                  rcases hlx4 with q | ⟨yg, yoff, hya, ygs, hE⟩
                  · omega
                  subst hya
                  have hc := int_cell hE hjt
                  have HE : Hid (Elems wr yg yoff x4.length 1 (intF (atI x4))) := hE
                  obtain ⟨y, hy⟩ : ∃ y, y = atI x4 j := ⟨_, rfl⟩
                  rw [← hy] at hc
                  have HY : Hid (y = atI x4 j) := hy
                  clear hbx hbs hBr hB0 hall hE hy
                  cases c2 : inR y 0 ((nc : Int) - 1)
                  · have HN : Hid (¬ goodS ac ps) := Hid.intro (bad_pro hlx HNC.out.1 xH.out (fun q => by have := (q.2.2.2.2.2 j hjt).1; rw [← HY.out] at this; rw [inR_iff.2 this] at c2; cases c2))
                    go_wp2_with (first | (go_at_call 58; refine (l1In_any _ _ _ _).mono ?_; rintro e w' ⟨rfl, rfl⟩))
                    go_ret
                    exact ⟨goodS_none HN.out, HB3.out.2.2.1⟩
                  by_cases hj0 : j = 0
                  · subst hj0
                    have hj1 : ¬ (0 : Int) < ((0 : Nat) : Int) := by omega
                    have hc0 : wr.cell? ⟨yg, yoff, none⟩ = some (.int .i64 y) := hc
                    have HNX : Hid (grP (atI x4) nc 1) := Hid.intro (grP_succ HG.out ⟨by rw [← HY.out]; exact inR_iff.1 c2, fun q => absurd q (by omega)⟩)
                    go_wp2_with (first | (go_at_call 58; refine (l1In_any _ _ _ _).mono ?_; rintro e w' ⟨rfl, rfl⟩))
                    go_roundw
                    case rel => exact ⟨1, by omega, by go_num, HNX.out, HB3.out⟩
                    case measure => simp [intOf]; omega
                  obtain ⟨m, rfl⟩ : ∃ m, j = m + 1 := ⟨j - 1, by omega⟩
                  have hj1 : (0 : Int) < ((m + 1 : Nat) : Int) := by omega
                  have hjm : (((m + 1 : Nat) : Int) - 1) = (m : Int) := by omega
                  have hml : (m : Int) < (x4.length : Int) := by omega
                  have hd := int_cell HE.out (show m < x4.length by omega)
                  obtain ⟨z, hzz⟩ : ∃ z, z = atI x4 m := ⟨_, rfl⟩
                  rw [← hzz] at hd
                  have HZZ : Hid (z = atI x4 m) := hzz
                  clear hzz hj0
                  by_cases cz : z < y
                  · have HNX : Hid (grP (atI x4) nc (m + 1 + 1)) := Hid.intro (grP_succ HG.out ⟨by rw [← HY.out]; exact inR_iff.1 c2, fun _ => by rw [Nat.add_sub_cancel, ← HY.out, ← HZZ.out]; exact cz⟩)
                    have cz' : ¬ y ≤ z := by omega
                    go_wp2_with (first | (go_at_call 58; refine (l1In_any _ _ _ _).mono ?_; rintro e w' ⟨rfl, rfl⟩))
                    go_roundw
                    case rel => exact ⟨m + 1 + 1, by omega, by go_num, HNX.out, HB3.out⟩
                    case measure => simp [intOf]; omega
                  · have HN : Hid (¬ goodS ac ps) := Hid.intro (bad_pro hlx HNC.out.1 xH.out (fun q => cz (by have := (q.2.2.2.2.2 (m + 1) hjt).2 (by omega); rw [Nat.add_sub_cancel, ← HY.out, ← HZZ.out] at this; exact this)))
                    have cz' : y ≤ z := by omega
                    go_wp2_with (first | (go_at_call 58; refine (l1In_any _ _ _ _).mono ?_; rintro e w' ⟨rfl, rfl⟩))
                    go_ret
                    exact ⟨goodS_none HN.out, HB3.out.2.2.1⟩
                · have hjn : j = x4.length := by omega
                  have HGR : Hid (risP x4 nc) := Hid.intro (by unfold risP; rw [← hjn]; exact HG.out)
                  have HD : Hid (Bx wr.drew wo.heap.size [.string x0, .slice xa1 x1.length xk1, .bool x2, .string x3, .slice xa2 x4.length xk2] ∧ Bx wr.drew w.heap.size [.slice a1 nc k1, .slice (some ⟨xg, xoff, none⟩) no k2] ∧ Below w.heap.size w wr.drew ∧ Below w0.heap.size w0 wr.drew) := ⟨hbx.next (below_drew _), hbs.next (below_drew _), below_next hBr (below_drew _), below_next hB0 (below_drew _)⟩
                  clear hjn hbx hbs hBr hB0 hall HG HB3
                  obtain ⟨b, hb⟩ : ∃ b, b = decide ((nc : Int) < 2 * (x1.length : Int)) := ⟨_, rfl⟩
                  have HBE : Hid (b = decide ((nc : Int) < 2 * (x1.length : Int))) := hb
                  have HV0 : Hid (∀ W, Calls Try.prog 60 #[.string x0] W fun r w' => r = .returned (.bool (valOk x0)) ∧ w' = W) := Hid.intro (fun W => l1Value_any x0 W HVP.out.1)
                  have HCV : Hid (∀ W, Below w0.heap.size w0 W → Calls Try.prog 61 #[.agg #[.string x0, .slice xa1 x1.length xk1, .bool x2, .string x3, .slice xa2 x4.length xk2]] W fun r w' => r = .returned (.string (fixV x0 x1)) ∧ Below W.heap.size W w') := Hid.intro (fun W hW => l10Value_n x0 xa1 xk1 x1 x2 x3 xa2 x4.length xk2 W HVP.out.2.1 (HLP.out.1.next hW))
                  have HFV : Hid (∀ t, t = fixV x0 x1 → ((x3.toList == t.toList) = true ↔ x3 = fixV x0 x1)) := Hid.intro (fun t h => by rw [h]; exact txt_eq)
                  obtain ⟨fv, hfv⟩ : ∃ t, t = fixV x0 x1 := ⟨_, rfl⟩
                  rw [← hfv] at HCV
                  have HFV := (show Hid ((x3.toList == fv.toList) = true ↔ x3 = fixV x0 x1) from HFV.out fv hfv)
                  clear hfv
                  go_upto_region 26 with fail
                  rw [← hb]
                  clear hb p0 p1 p2 p3 p4 pz
                  cases c0 : valOk x0
                  · rw [c0] at HV0
                    have HN : Hid (¬ goodS ac ps) := Hid.intro (bad_pro hlx HNC.out.1 xH.out (fun q => by rw [q.1] at c0; cases c0))
                    refine wp_region_noPanic ?_
                    refine wp_region_held_drew (S := fun W => Bx W wo.heap.size [.string x0, .slice xa1 x1.length xk1, .bool x2, .string x3, .slice xa2 x4.length xk2]) (by kernel_rfl) HD.out.1 (fun hHeld => ?_)
                    refine take_v (v := ?_) 0 ⟨some 133, Op.fieldAddr 43 (Operand.tmp 7) 0, _, _, _, none⟩ rfl (fun _ _ _ h => h) ?_ hHeld ?_
                    rotate_left
                    · (intro W _; go_simp <;> (try with_reducible rfl))
                    refine take_v (v := ?_) 1 ⟨some 134, Op.load 9 (Operand.tmp 133), _, _, _, none⟩ rfl (fun _ _ _ h => h) ?_ hHeld ?_
                    rotate_left
                    · (intro W hSW; (have s0 := hSW.cell 0 rfl; have s1 := hSW.cell 1 rfl; have s2 := hSW.cell 2 rfl; have s3 := hSW.cell 3 rfl; have s4 := hSW.cell 4 rfl; have sz := hSW.2); go_simp <;> (try with_reducible rfl))
                    refine ready_call 2 ⟨some 135, Op.call { callee := Callee.value (Operand.func 60), args := #[Operand.tmp 134], argTypes := #[9] }, _, _, _, none⟩ (by kernel_rfl) rfl (by kernel_rfl) (fun KC hK => ?_)
                    go_wp2_with fail
                    refine (HV0.out _).mono ?_
                    rintro r w5 ⟨rfl, hw⟩
                    have hw := hw.symm
                    subst hw
                    refine hK.out _ _ HD.out.1 (fun hHeld => ?_)
                    clear hK KC
                    refine take_v (v := ?_) 3 ⟨some 136, Op.unOp UnOp.not 4 (Operand.tmp 135), _, _, _, none⟩ rfl (fun _ _ _ h => h) ?_ hHeld ?_
                    rotate_left
                    · (intro W _; go_simp <;> (try with_reducible rfl))
                    refine take_v (v := ?_) 4 ⟨some 137, Op.move (Operand.tmp 136), _, _, _, none⟩ rfl (fun _ _ _ h => h) ?_ hHeld ?_
                    rotate_left
                    · (intro W _; go_simp <;> (try with_reducible rfl))
                    refine take_n 5 ⟨some 138, Op.fieldAddr 43 (Operand.tmp 7) 2, _, _, _, some (4, false)⟩ rfl (fun _ _ _ h => h) hHeld ?_
                    refine take_n 6 ⟨some 139, Op.load 4 (Operand.tmp 138), _, _, _, some (4, false)⟩ rfl (fun _ _ _ h => h) hHeld ?_
                    refine take_n 7 ⟨some 140, Op.move (Operand.tmp 12), _, _, _, some (4, false)⟩ rfl (fun _ _ _ h => h) hHeld ?_
                    refine take_n 8 ⟨some 141, Op.binOp BinOp.neq 4 (Operand.tmp 139) (Operand.tmp 140) 4, _, _, _, some (4, false)⟩ rfl (fun _ _ _ h => h) hHeld ?_
                    refine take_v (v := ?_) 9 ⟨some 142, Op.pick (Operand.tmp 137) (Operand.const (Value.bool true)) (Operand.tmp 141), _, _, _, none⟩ rfl (fun _ _ _ h => h) ?_ hHeld ?_
                    rotate_left
                    · (intro W _; go_simp <;> (try with_reducible rfl))
                    refine take_v (v := ?_) 10 ⟨some 143, Op.move (Operand.tmp 142), _, _, _, none⟩ rfl (fun _ _ _ h => h) ?_ hHeld ?_
                    rotate_left
                    · (intro W _; go_simp <;> (try with_reducible rfl))
                    refine take_n 11 ⟨some 144, Op.move (Operand.tmp 12), _, _, _, some (10, false)⟩ rfl (fun _ _ _ h => h) hHeld ?_
                    refine take_n 12 ⟨some 145, Op.move (Operand.tmp 144), _, _, _, some (10, false)⟩ rfl (fun _ _ _ h => h) hHeld ?_
                    refine take_n 13 ⟨some 146, Op.fieldAddr 43 (Operand.tmp 7) 3, _, _, _, some (12, true)⟩ rfl (fun _ _ _ h => h) hHeld ?_
                    refine take_n 14 ⟨some 147, Op.load 9 (Operand.tmp 146), _, _, _, some (12, true)⟩ rfl (fun _ _ _ h => h) hHeld ?_
                    refine take_n 15 ⟨some 148, Op.load 43 (Operand.tmp 7), _, _, _, some (12, true)⟩ rfl (fun _ _ _ h => h) hHeld ?_
                    refine take_n 16 ⟨some 149, Op.call { callee := Callee.value (Operand.func 61), args := #[Operand.tmp 148], argTypes := #[43] }, _, _, _, some (12, true)⟩ rfl (fun _ _ _ h => h) hHeld ?_
                    refine take_n 17 ⟨some 150, Op.binOp BinOp.neq 9 (Operand.tmp 147) (Operand.tmp 149) 9, _, _, _, some (12, true)⟩ rfl (fun _ _ _ h => h) hHeld ?_
                    refine take_n 18 ⟨some 151, Op.pick (Operand.tmp 145) (Operand.tmp 150) (Operand.const (Value.bool false)), _, _, _, some (10, false)⟩ rfl (fun _ _ _ h => h) hHeld ?_
                    refine take_v (v := ?_) 19 ⟨some 152, Op.pick (Operand.tmp 143) (Operand.const (Value.bool true)) (Operand.tmp 151), _, _, _, none⟩ rfl (fun _ _ _ h => h) ?_ hHeld ?_
                    rotate_left
                    · (intro W _; go_simp <;> (try with_reducible rfl))
                    refine take_v (v := ?_) 20 ⟨some 153, Op.move (Operand.tmp 152), _, _, _, none⟩ rfl (fun _ _ _ h => h) ?_ hHeld ?_
                    rotate_left
                    · (intro W _; go_simp <;> (try with_reducible rfl))
                    refine take_n 21 ⟨some 154, Op.move (Operand.tmp 12), _, _, _, some (20, false)⟩ rfl (fun _ _ _ h => h) hHeld ?_
                    refine take_n 22 ⟨some 155, Op.unOp UnOp.not 4 (Operand.tmp 154), _, _, _, some (20, false)⟩ rfl (fun _ _ _ h => h) hHeld ?_
                    refine take_n 23 ⟨some 156, Op.move (Operand.tmp 155), _, _, _, some (20, false)⟩ rfl (fun _ _ _ h => h) hHeld ?_
                    refine take_n 24 ⟨some 157, Op.fieldAddr 43 (Operand.tmp 7) 3, _, _, _, some (23, true)⟩ rfl (fun _ _ _ h => h) hHeld ?_
                    refine take_n 25 ⟨some 158, Op.load 9 (Operand.tmp 157), _, _, _, some (23, true)⟩ rfl (fun _ _ _ h => h) hHeld ?_
                    refine take_n 26 ⟨some 159, Op.binOp BinOp.neq 9 (Operand.tmp 158) (Operand.const (Value.string { data := #[] })) 9, _, _, _, some (23, true)⟩ rfl (fun _ _ _ h => h) hHeld ?_
                    refine take_n 27 ⟨some 160, Op.move (Operand.tmp 159), _, _, _, some (23, true)⟩ rfl (fun _ _ _ h => h) hHeld ?_
                    refine take_n 28 ⟨some 161, Op.fieldAddr 43 (Operand.tmp 7) 4, _, _, _, some (27, false)⟩ rfl (fun _ _ _ h => h) hHeld ?_
                    refine take_n 29 ⟨some 162, Op.load 41 (Operand.tmp 161), _, _, _, some (27, false)⟩ rfl (fun _ _ _ h => h) hHeld ?_
                    refine take_n 30 ⟨some 163, Op.call { callee := Callee.builtin Builtin.len, args := #[Operand.tmp 162], argTypes := #[41] }, _, _, _, some (27, false)⟩ rfl (fun _ _ _ h => h) hHeld ?_
                    refine take_n 31 ⟨some 164, Op.binOp BinOp.gtr 3 (Operand.tmp 163) (Operand.const (Value.int IntKind.i64 0)) 3, _, _, _, some (27, false)⟩ rfl (fun _ _ _ h => h) hHeld ?_
                    refine take_n 32 ⟨some 165, Op.pick (Operand.tmp 160) (Operand.const (Value.bool true)) (Operand.tmp 164), _, _, _, some (23, true)⟩ rfl (fun _ _ _ h => h) hHeld ?_
                    refine take_n 33 ⟨some 166, Op.pick (Operand.tmp 156) (Operand.tmp 165) (Operand.const (Value.bool false)), _, _, _, some (20, false)⟩ rfl (fun _ _ _ h => h) hHeld ?_
                    refine take_v (v := ?_) 34 ⟨some 167, Op.pick (Operand.tmp 153) (Operand.const (Value.bool true)) (Operand.tmp 166), _, _, _, none⟩ rfl (fun _ _ _ h => h) ?_ hHeld ?_
                    rotate_left
                    · (intro W _; go_simp <;> (try with_reducible rfl))
                    refine wpAnyH_done (by kernel_rfl) ?_ _
                    refine NoPanic.normal ?_
                    clear hHeld
                    go_wp2
                    go_ret
                    exact ⟨goodS_none HN.out, HD.out.2.2.1⟩
                  rw [c0] at HV0
                  have HVO : Hid (valOk x0 = true) := c0
                  clear c0
                  by_cases ce : x2 = b
                  case neg =>
                    have hne : (x2 == b) = false := by simpa using ce
                    have HN : Hid (¬ goodS ac ps) := Hid.intro (bad_pro hlx HNC.out.1 xH.out (fun q => ce (by rw [q.2.2.1, HBE.out])))
                    refine wp_region_noPanic ?_
                    refine wp_region_held_drew (S := fun W => Bx W wo.heap.size [.string x0, .slice xa1 x1.length xk1, .bool x2, .string x3, .slice xa2 x4.length xk2]) (by kernel_rfl) HD.out.1 (fun hHeld => ?_)
                    refine take_v (v := ?_) 0 ⟨some 133, Op.fieldAddr 43 (Operand.tmp 7) 0, _, _, _, none⟩ rfl (fun _ _ _ h => h) ?_ hHeld ?_
                    rotate_left
                    · (intro W _; go_simp <;> (try with_reducible rfl))
                    refine take_v (v := ?_) 1 ⟨some 134, Op.load 9 (Operand.tmp 133), _, _, _, none⟩ rfl (fun _ _ _ h => h) ?_ hHeld ?_
                    rotate_left
                    · (intro W hSW; (have s0 := hSW.cell 0 rfl; have s1 := hSW.cell 1 rfl; have s2 := hSW.cell 2 rfl; have s3 := hSW.cell 3 rfl; have s4 := hSW.cell 4 rfl; have sz := hSW.2); go_simp <;> (try with_reducible rfl))
                    refine ready_call 2 ⟨some 135, Op.call { callee := Callee.value (Operand.func 60), args := #[Operand.tmp 134], argTypes := #[9] }, _, _, _, none⟩ (by kernel_rfl) rfl (by kernel_rfl) (fun KC hK => ?_)
                    go_wp2_with fail
                    refine (HV0.out _).mono ?_
                    rintro r w5 ⟨rfl, hw⟩
                    have hw := hw.symm
                    subst hw
                    refine hK.out _ _ HD.out.1 (fun hHeld => ?_)
                    clear hK KC
                    refine take_v (v := ?_) 3 ⟨some 136, Op.unOp UnOp.not 4 (Operand.tmp 135), _, _, _, none⟩ rfl (fun _ _ _ h => h) ?_ hHeld ?_
                    rotate_left
                    · (intro W _; go_simp <;> (try with_reducible rfl))
                    refine take_v (v := ?_) 4 ⟨some 137, Op.move (Operand.tmp 136), _, _, _, none⟩ rfl (fun _ _ _ h => h) ?_ hHeld ?_
                    rotate_left
                    · (intro W _; go_simp <;> (try with_reducible rfl))
                    refine take_v (v := ?_) 5 ⟨some 138, Op.fieldAddr 43 (Operand.tmp 7) 2, _, _, _, some (4, false)⟩ rfl (fun _ _ _ h => h) ?_ hHeld ?_
                    rotate_left
                    · (intro W _; go_simp <;> (try with_reducible rfl))
                    refine take_v (v := ?_) 6 ⟨some 139, Op.load 4 (Operand.tmp 138), _, _, _, some (4, false)⟩ rfl (fun _ _ _ h => h) ?_ hHeld ?_
                    rotate_left
                    · (intro W hSW; (have s0 := hSW.cell 0 rfl; have s1 := hSW.cell 1 rfl; have s2 := hSW.cell 2 rfl; have s3 := hSW.cell 3 rfl; have s4 := hSW.cell 4 rfl; have sz := hSW.2); go_simp <;> (try with_reducible rfl))
                    refine take_v (v := ?_) 7 ⟨some 140, Op.move (Operand.tmp 12), _, _, _, some (4, false)⟩ rfl (fun _ _ _ h => h) ?_ hHeld ?_
                    rotate_left
                    · (intro W _; go_simp <;> (try with_reducible rfl))
                    refine take_v (v := ?_) 8 ⟨some 141, Op.binOp BinOp.neq 4 (Operand.tmp 139) (Operand.tmp 140) 4, _, _, _, some (4, false)⟩ rfl (fun _ _ _ h => h) ?_ hHeld ?_
                    rotate_left
                    · (intro W _; go_simp <;> (try with_reducible rfl))
                    refine take_v (v := ?_) 9 ⟨some 142, Op.pick (Operand.tmp 137) (Operand.const (Value.bool true)) (Operand.tmp 141), _, _, _, none⟩ rfl (fun _ _ _ h => h) ?_ hHeld ?_
                    rotate_left
                    · (intro W _; go_simp <;> (try with_reducible rfl))
                    refine take_v (v := ?_) 10 ⟨some 143, Op.move (Operand.tmp 142), _, _, _, none⟩ rfl (fun _ _ _ h => h) ?_ hHeld ?_
                    rotate_left
                    · (intro W _; go_simp <;> (try with_reducible rfl))
                    refine take_n 11 ⟨some 144, Op.move (Operand.tmp 12), _, _, _, some (10, false)⟩ rfl (fun _ _ _ h => h) hHeld ?_
                    refine take_n 12 ⟨some 145, Op.move (Operand.tmp 144), _, _, _, some (10, false)⟩ rfl (fun _ _ _ h => h) hHeld ?_
                    refine take_n 13 ⟨some 146, Op.fieldAddr 43 (Operand.tmp 7) 3, _, _, _, some (12, true)⟩ rfl (fun _ _ _ h => h) hHeld ?_
                    refine take_n 14 ⟨some 147, Op.load 9 (Operand.tmp 146), _, _, _, some (12, true)⟩ rfl (fun _ _ _ h => h) hHeld ?_
                    refine take_n 15 ⟨some 148, Op.load 43 (Operand.tmp 7), _, _, _, some (12, true)⟩ rfl (fun _ _ _ h => h) hHeld ?_
                    refine take_n 16 ⟨some 149, Op.call { callee := Callee.value (Operand.func 61), args := #[Operand.tmp 148], argTypes := #[43] }, _, _, _, some (12, true)⟩ rfl (fun _ _ _ h => h) hHeld ?_
                    refine take_n 17 ⟨some 150, Op.binOp BinOp.neq 9 (Operand.tmp 147) (Operand.tmp 149) 9, _, _, _, some (12, true)⟩ rfl (fun _ _ _ h => h) hHeld ?_
                    refine take_n 18 ⟨some 151, Op.pick (Operand.tmp 145) (Operand.tmp 150) (Operand.const (Value.bool false)), _, _, _, some (10, false)⟩ rfl (fun _ _ _ h => h) hHeld ?_
                    refine take_v (v := ?_) 19 ⟨some 152, Op.pick (Operand.tmp 143) (Operand.const (Value.bool true)) (Operand.tmp 151), _, _, _, none⟩ rfl (fun _ _ _ h => h) ?_ hHeld ?_
                    rotate_left
                    · (intro W _; go_simp <;> (try with_reducible rfl))
                    refine take_v (v := ?_) 20 ⟨some 153, Op.move (Operand.tmp 152), _, _, _, none⟩ rfl (fun _ _ _ h => h) ?_ hHeld ?_
                    rotate_left
                    · (intro W _; go_simp <;> (try with_reducible rfl))
                    refine take_n 21 ⟨some 154, Op.move (Operand.tmp 12), _, _, _, some (20, false)⟩ rfl (fun _ _ _ h => h) hHeld ?_
                    refine take_n 22 ⟨some 155, Op.unOp UnOp.not 4 (Operand.tmp 154), _, _, _, some (20, false)⟩ rfl (fun _ _ _ h => h) hHeld ?_
                    refine take_n 23 ⟨some 156, Op.move (Operand.tmp 155), _, _, _, some (20, false)⟩ rfl (fun _ _ _ h => h) hHeld ?_
                    refine take_n 24 ⟨some 157, Op.fieldAddr 43 (Operand.tmp 7) 3, _, _, _, some (23, true)⟩ rfl (fun _ _ _ h => h) hHeld ?_
                    refine take_n 25 ⟨some 158, Op.load 9 (Operand.tmp 157), _, _, _, some (23, true)⟩ rfl (fun _ _ _ h => h) hHeld ?_
                    refine take_n 26 ⟨some 159, Op.binOp BinOp.neq 9 (Operand.tmp 158) (Operand.const (Value.string { data := #[] })) 9, _, _, _, some (23, true)⟩ rfl (fun _ _ _ h => h) hHeld ?_
                    refine take_n 27 ⟨some 160, Op.move (Operand.tmp 159), _, _, _, some (23, true)⟩ rfl (fun _ _ _ h => h) hHeld ?_
                    refine take_n 28 ⟨some 161, Op.fieldAddr 43 (Operand.tmp 7) 4, _, _, _, some (27, false)⟩ rfl (fun _ _ _ h => h) hHeld ?_
                    refine take_n 29 ⟨some 162, Op.load 41 (Operand.tmp 161), _, _, _, some (27, false)⟩ rfl (fun _ _ _ h => h) hHeld ?_
                    refine take_n 30 ⟨some 163, Op.call { callee := Callee.builtin Builtin.len, args := #[Operand.tmp 162], argTypes := #[41] }, _, _, _, some (27, false)⟩ rfl (fun _ _ _ h => h) hHeld ?_
                    refine take_n 31 ⟨some 164, Op.binOp BinOp.gtr 3 (Operand.tmp 163) (Operand.const (Value.int IntKind.i64 0)) 3, _, _, _, some (27, false)⟩ rfl (fun _ _ _ h => h) hHeld ?_
                    refine take_n 32 ⟨some 165, Op.pick (Operand.tmp 160) (Operand.const (Value.bool true)) (Operand.tmp 164), _, _, _, some (23, true)⟩ rfl (fun _ _ _ h => h) hHeld ?_
                    refine take_n 33 ⟨some 166, Op.pick (Operand.tmp 156) (Operand.tmp 165) (Operand.const (Value.bool false)), _, _, _, some (20, false)⟩ rfl (fun _ _ _ h => h) hHeld ?_
                    refine take_v (v := ?_) 34 ⟨some 167, Op.pick (Operand.tmp 153) (Operand.const (Value.bool true)) (Operand.tmp 166), _, _, _, none⟩ rfl (fun _ _ _ h => h) ?_ hHeld ?_
                    rotate_left
                    · (intro W _; go_simp <;> (try with_reducible rfl))
                    refine wpAnyH_done (by kernel_rfl) ?_ _
                    refine NoPanic.normal ?_
                    clear hHeld
                    go_wp2
                    go_ret
                    exact ⟨goodS_none HN.out, HD.out.2.2.1⟩
                  subst ce
                  cases x2
                  · cases c3 : x3.toList.isEmpty
                    · have HTR : True := trivial
                      have HN : Hid (¬ goodS ac ps) := Hid.intro (bad_pro hlx HNC.out.1 xH.out (fun q => by have := (q.2.2.2.2.1 rfl).1; rw [empty_iff.2 this] at c3; cases c3))
                      refine wp_region_noPanic ?_
                      refine wp_region_held_drew (S := fun W => Bx W wo.heap.size [.string x0, .slice xa1 x1.length xk1, .bool false, .string x3, .slice xa2 x4.length xk2]) (by kernel_rfl) HD.out.1 (fun hHeld => ?_)
                      refine take_v (v := ?_) 0 ⟨some 133, Op.fieldAddr 43 (Operand.tmp 7) 0, _, _, _, none⟩ rfl (fun _ _ _ h => h) ?_ hHeld ?_
                      rotate_left
                      · (intro W _; go_simp <;> (try with_reducible rfl))
                      refine take_v (v := ?_) 1 ⟨some 134, Op.load 9 (Operand.tmp 133), _, _, _, none⟩ rfl (fun _ _ _ h => h) ?_ hHeld ?_
                      rotate_left
                      · (intro W hSW; (have s0 := hSW.cell 0 rfl; have s1 := hSW.cell 1 rfl; have s2 := hSW.cell 2 rfl; have s3 := hSW.cell 3 rfl; have s4 := hSW.cell 4 rfl; have sz := hSW.2); go_simp <;> (try with_reducible rfl))
                      refine ready_call 2 ⟨some 135, Op.call { callee := Callee.value (Operand.func 60), args := #[Operand.tmp 134], argTypes := #[9] }, _, _, _, none⟩ (by kernel_rfl) rfl (by kernel_rfl) (fun KC hK => ?_)
                      go_wp2_with fail
                      refine (HV0.out _).mono ?_
                      rintro r w5 ⟨rfl, hw⟩
                      have hw := hw.symm
                      subst hw
                      refine hK.out _ _ HD.out.1 (fun hHeld => ?_)
                      clear hK KC
                      refine take_v (v := ?_) 3 ⟨some 136, Op.unOp UnOp.not 4 (Operand.tmp 135), _, _, _, none⟩ rfl (fun _ _ _ h => h) ?_ hHeld ?_
                      rotate_left
                      · (intro W _; go_simp <;> (try with_reducible rfl))
                      refine take_v (v := ?_) 4 ⟨some 137, Op.move (Operand.tmp 136), _, _, _, none⟩ rfl (fun _ _ _ h => h) ?_ hHeld ?_
                      rotate_left
                      · (intro W _; go_simp <;> (try with_reducible rfl))
                      refine take_v (v := ?_) 5 ⟨some 138, Op.fieldAddr 43 (Operand.tmp 7) 2, _, _, _, some (4, false)⟩ rfl (fun _ _ _ h => h) ?_ hHeld ?_
                      rotate_left
                      · (intro W _; go_simp <;> (try with_reducible rfl))
                      refine take_v (v := ?_) 6 ⟨some 139, Op.load 4 (Operand.tmp 138), _, _, _, some (4, false)⟩ rfl (fun _ _ _ h => h) ?_ hHeld ?_
                      rotate_left
                      · (intro W hSW; (have s0 := hSW.cell 0 rfl; have s1 := hSW.cell 1 rfl; have s2 := hSW.cell 2 rfl; have s3 := hSW.cell 3 rfl; have s4 := hSW.cell 4 rfl; have sz := hSW.2); go_simp <;> (try with_reducible rfl))
                      refine take_v (v := ?_) 7 ⟨some 140, Op.move (Operand.tmp 12), _, _, _, some (4, false)⟩ rfl (fun _ _ _ h => h) ?_ hHeld ?_
                      rotate_left
                      · (intro W _; go_simp <;> (try with_reducible rfl))
                      refine take_v (v := ?_) 8 ⟨some 141, Op.binOp BinOp.neq 4 (Operand.tmp 139) (Operand.tmp 140) 4, _, _, _, some (4, false)⟩ rfl (fun _ _ _ h => h) ?_ hHeld ?_
                      rotate_left
                      · (intro W _; go_simp <;> (try with_reducible rfl))
                      refine take_v (v := ?_) 9 ⟨some 142, Op.pick (Operand.tmp 137) (Operand.const (Value.bool true)) (Operand.tmp 141), _, _, _, none⟩ rfl (fun _ _ _ h => h) ?_ hHeld ?_
                      rotate_left
                      · (intro W _; go_simp <;> (try with_reducible rfl))
                      refine take_v (v := ?_) 10 ⟨some 143, Op.move (Operand.tmp 142), _, _, _, none⟩ rfl (fun _ _ _ h => h) ?_ hHeld ?_
                      rotate_left
                      · (intro W _; go_simp <;> (try with_reducible rfl))
                      refine take_v (v := ?_) 11 ⟨some 144, Op.move (Operand.tmp 12), _, _, _, some (10, false)⟩ rfl (fun _ _ _ h => h) ?_ hHeld ?_
                      rotate_left
                      · (intro W _; go_simp <;> (try with_reducible rfl))
                      refine take_v (v := ?_) 12 ⟨some 145, Op.move (Operand.tmp 144), _, _, _, some (10, false)⟩ rfl (fun _ _ _ h => h) ?_ hHeld ?_
                      rotate_left
                      · (intro W _; go_simp <;> (try with_reducible rfl))
                      refine take_n 13 ⟨some 146, Op.fieldAddr 43 (Operand.tmp 7) 3, _, _, _, some (12, true)⟩ rfl (fun _ _ _ h => h) hHeld ?_
                      refine take_n 14 ⟨some 147, Op.load 9 (Operand.tmp 146), _, _, _, some (12, true)⟩ rfl (fun _ _ _ h => h) hHeld ?_
                      refine take_n 15 ⟨some 148, Op.load 43 (Operand.tmp 7), _, _, _, some (12, true)⟩ rfl (fun _ _ _ h => h) hHeld ?_
                      refine take_n 16 ⟨some 149, Op.call { callee := Callee.value (Operand.func 61), args := #[Operand.tmp 148], argTypes := #[43] }, _, _, _, some (12, true)⟩ rfl (fun _ _ _ h => h) hHeld ?_
                      refine take_n 17 ⟨some 150, Op.binOp BinOp.neq 9 (Operand.tmp 147) (Operand.tmp 149) 9, _, _, _, some (12, true)⟩ rfl (fun _ _ _ h => h) hHeld ?_
                      refine take_v (v := ?_) 18 ⟨some 151, Op.pick (Operand.tmp 145) (Operand.tmp 150) (Operand.const (Value.bool false)), _, _, _, some (10, false)⟩ rfl (fun _ _ _ h => h) ?_ hHeld ?_
                      rotate_left
                      · (intro W _; go_simp <;> (try with_reducible rfl))
                      refine take_v (v := ?_) 19 ⟨some 152, Op.pick (Operand.tmp 143) (Operand.const (Value.bool true)) (Operand.tmp 151), _, _, _, none⟩ rfl (fun _ _ _ h => h) ?_ hHeld ?_
                      rotate_left
                      · (intro W _; go_simp <;> (try with_reducible rfl))
                      refine take_v (v := ?_) 20 ⟨some 153, Op.move (Operand.tmp 152), _, _, _, none⟩ rfl (fun _ _ _ h => h) ?_ hHeld ?_
                      rotate_left
                      · (intro W _; go_simp <;> (try with_reducible rfl))
                      refine take_v (v := ?_) 21 ⟨some 154, Op.move (Operand.tmp 12), _, _, _, some (20, false)⟩ rfl (fun _ _ _ h => h) ?_ hHeld ?_
                      rotate_left
                      · (intro W _; go_simp <;> (try with_reducible rfl))
                      refine take_v (v := ?_) 22 ⟨some 155, Op.unOp UnOp.not 4 (Operand.tmp 154), _, _, _, some (20, false)⟩ rfl (fun _ _ _ h => h) ?_ hHeld ?_
                      rotate_left
                      · (intro W _; go_simp <;> (try with_reducible rfl))
                      refine take_v (v := ?_) 23 ⟨some 156, Op.move (Operand.tmp 155), _, _, _, some (20, false)⟩ rfl (fun _ _ _ h => h) ?_ hHeld ?_
                      rotate_left
                      · (intro W _; go_simp <;> (try with_reducible rfl))
                      refine take_v (v := ?_) 24 ⟨some 157, Op.fieldAddr 43 (Operand.tmp 7) 3, _, _, _, some (23, true)⟩ rfl (fun _ _ _ h => h) ?_ hHeld ?_
                      rotate_left
                      · (intro W _; go_simp <;> (try with_reducible rfl))
                      refine take_v (v := ?_) 25 ⟨some 158, Op.load 9 (Operand.tmp 157), _, _, _, some (23, true)⟩ rfl (fun _ _ _ h => h) ?_ hHeld ?_
                      rotate_left
                      · (intro W hSW; (have s0 := hSW.cell 0 rfl; have s1 := hSW.cell 1 rfl; have s2 := hSW.cell 2 rfl; have s3 := hSW.cell 3 rfl; have s4 := hSW.cell 4 rfl; have sz := hSW.2); go_simp <;> (try with_reducible rfl))
                      refine take_v (v := ?_) 26 ⟨some 159, Op.binOp BinOp.neq 9 (Operand.tmp 158) (Operand.const (Value.string { data := #[] })) 9, _, _, _, some (23, true)⟩ rfl (fun _ _ _ h => h) ?_ hHeld ?_
                      rotate_left
                      · (intro W _; go_simp <;> (try with_reducible rfl))
                      refine take_v (v := ?_) 27 ⟨some 160, Op.move (Operand.tmp 159), _, _, _, some (23, true)⟩ rfl (fun _ _ _ h => h) ?_ hHeld ?_
                      rotate_left
                      · (intro W _; go_simp <;> (try with_reducible rfl))
                      refine take_n 28 ⟨some 161, Op.fieldAddr 43 (Operand.tmp 7) 4, _, _, _, some (27, false)⟩ rfl (fun _ _ _ h => h) hHeld ?_
                      refine take_n 29 ⟨some 162, Op.load 41 (Operand.tmp 161), _, _, _, some (27, false)⟩ rfl (fun _ _ _ h => h) hHeld ?_
                      refine take_n 30 ⟨some 163, Op.call { callee := Callee.builtin Builtin.len, args := #[Operand.tmp 162], argTypes := #[41] }, _, _, _, some (27, false)⟩ rfl (fun _ _ _ h => h) hHeld ?_
                      refine take_n 31 ⟨some 164, Op.binOp BinOp.gtr 3 (Operand.tmp 163) (Operand.const (Value.int IntKind.i64 0)) 3, _, _, _, some (27, false)⟩ rfl (fun _ _ _ h => h) hHeld ?_
                      refine take_v (v := ?_) 32 ⟨some 165, Op.pick (Operand.tmp 160) (Operand.const (Value.bool true)) (Operand.tmp 164), _, _, _, some (23, true)⟩ rfl (fun _ _ _ h => h) ?_ hHeld ?_
                      rotate_left
                      · (intro W _; go_simp <;> (try with_reducible rfl))
                      refine take_v (v := ?_) 33 ⟨some 166, Op.pick (Operand.tmp 156) (Operand.tmp 165) (Operand.const (Value.bool false)), _, _, _, some (20, false)⟩ rfl (fun _ _ _ h => h) ?_ hHeld ?_
                      rotate_left
                      · (intro W _; go_simp <;> (try with_reducible rfl))
                      refine take_v (v := ?_) 34 ⟨some 167, Op.pick (Operand.tmp 153) (Operand.const (Value.bool true)) (Operand.tmp 166), _, _, _, none⟩ rfl (fun _ _ _ h => h) ?_ hHeld ?_
                      rotate_left
                      · (intro W _; go_simp <;> (try with_reducible rfl))
                      refine wpAnyH_done (by kernel_rfl) ?_ _
                      refine NoPanic.normal ?_
                      clear hHeld
                      go_wp2
                      go_ret
                      exact ⟨goodS_none HN.out, HD.out.2.2.1⟩
                    by_cases c4 : x4.length = 0
                    · have c5 : ¬ (0 : Int) < (x4.length : Int) := by omega
                      have HC4 : Hid (x4.length = 0) := c4
                      clear c4
                      have HNX : Hid (proK nc ps (k + 1)) := Hid.intro (proK_succ hlx HA.out (by rw [xH.out]; exact ⟨HVO.out, HPR.out, HBE.out, (fun q => by cases q), fun _ => ⟨empty_iff.1 c3, HC4.out⟩, HGR.out⟩))
                      refine wp_region_noPanic ?_
                      refine wp_region_held_drew (S := fun W => Bx W wo.heap.size [.string x0, .slice xa1 x1.length xk1, .bool false, .string x3, .slice xa2 x4.length xk2]) (by kernel_rfl) HD.out.1 (fun hHeld => ?_)
                      refine take_v (v := ?_) 0 ⟨some 133, Op.fieldAddr 43 (Operand.tmp 7) 0, _, _, _, none⟩ rfl (fun _ _ _ h => h) ?_ hHeld ?_
                      rotate_left
                      · (intro W _; go_simp <;> (try with_reducible rfl))
                      refine take_v (v := ?_) 1 ⟨some 134, Op.load 9 (Operand.tmp 133), _, _, _, none⟩ rfl (fun _ _ _ h => h) ?_ hHeld ?_
                      rotate_left
                      · (intro W hSW; (have s0 := hSW.cell 0 rfl; have s1 := hSW.cell 1 rfl; have s2 := hSW.cell 2 rfl; have s3 := hSW.cell 3 rfl; have s4 := hSW.cell 4 rfl; have sz := hSW.2); go_simp <;> (try with_reducible rfl))
                      refine ready_call 2 ⟨some 135, Op.call { callee := Callee.value (Operand.func 60), args := #[Operand.tmp 134], argTypes := #[9] }, _, _, _, none⟩ (by kernel_rfl) rfl (by kernel_rfl) (fun KC hK => ?_)
                      go_wp2_with fail
                      refine (HV0.out _).mono ?_
                      rintro r w5 ⟨rfl, hw⟩
                      have hw := hw.symm
                      subst hw
                      refine hK.out _ _ HD.out.1 (fun hHeld => ?_)
                      clear hK KC
                      refine take_v (v := ?_) 3 ⟨some 136, Op.unOp UnOp.not 4 (Operand.tmp 135), _, _, _, none⟩ rfl (fun _ _ _ h => h) ?_ hHeld ?_
                      rotate_left
                      · (intro W _; go_simp <;> (try with_reducible rfl))
                      refine take_v (v := ?_) 4 ⟨some 137, Op.move (Operand.tmp 136), _, _, _, none⟩ rfl (fun _ _ _ h => h) ?_ hHeld ?_
                      rotate_left
                      · (intro W _; go_simp <;> (try with_reducible rfl))
                      refine take_v (v := ?_) 5 ⟨some 138, Op.fieldAddr 43 (Operand.tmp 7) 2, _, _, _, some (4, false)⟩ rfl (fun _ _ _ h => h) ?_ hHeld ?_
                      rotate_left
                      · (intro W _; go_simp <;> (try with_reducible rfl))
                      refine take_v (v := ?_) 6 ⟨some 139, Op.load 4 (Operand.tmp 138), _, _, _, some (4, false)⟩ rfl (fun _ _ _ h => h) ?_ hHeld ?_
                      rotate_left
                      · (intro W hSW; (have s0 := hSW.cell 0 rfl; have s1 := hSW.cell 1 rfl; have s2 := hSW.cell 2 rfl; have s3 := hSW.cell 3 rfl; have s4 := hSW.cell 4 rfl; have sz := hSW.2); go_simp <;> (try with_reducible rfl))
                      refine take_v (v := ?_) 7 ⟨some 140, Op.move (Operand.tmp 12), _, _, _, some (4, false)⟩ rfl (fun _ _ _ h => h) ?_ hHeld ?_
                      rotate_left
                      · (intro W _; go_simp <;> (try with_reducible rfl))
                      refine take_v (v := ?_) 8 ⟨some 141, Op.binOp BinOp.neq 4 (Operand.tmp 139) (Operand.tmp 140) 4, _, _, _, some (4, false)⟩ rfl (fun _ _ _ h => h) ?_ hHeld ?_
                      rotate_left
                      · (intro W _; go_simp <;> (try with_reducible rfl))
                      refine take_v (v := ?_) 9 ⟨some 142, Op.pick (Operand.tmp 137) (Operand.const (Value.bool true)) (Operand.tmp 141), _, _, _, none⟩ rfl (fun _ _ _ h => h) ?_ hHeld ?_
                      rotate_left
                      · (intro W _; go_simp <;> (try with_reducible rfl))
                      refine take_v (v := ?_) 10 ⟨some 143, Op.move (Operand.tmp 142), _, _, _, none⟩ rfl (fun _ _ _ h => h) ?_ hHeld ?_
                      rotate_left
                      · (intro W _; go_simp <;> (try with_reducible rfl))
                      refine take_v (v := ?_) 11 ⟨some 144, Op.move (Operand.tmp 12), _, _, _, some (10, false)⟩ rfl (fun _ _ _ h => h) ?_ hHeld ?_
                      rotate_left
                      · (intro W _; go_simp <;> (try with_reducible rfl))
                      refine take_v (v := ?_) 12 ⟨some 145, Op.move (Operand.tmp 144), _, _, _, some (10, false)⟩ rfl (fun _ _ _ h => h) ?_ hHeld ?_
                      rotate_left
                      · (intro W _; go_simp <;> (try with_reducible rfl))
                      refine take_n 13 ⟨some 146, Op.fieldAddr 43 (Operand.tmp 7) 3, _, _, _, some (12, true)⟩ rfl (fun _ _ _ h => h) hHeld ?_
                      refine take_n 14 ⟨some 147, Op.load 9 (Operand.tmp 146), _, _, _, some (12, true)⟩ rfl (fun _ _ _ h => h) hHeld ?_
                      refine take_n 15 ⟨some 148, Op.load 43 (Operand.tmp 7), _, _, _, some (12, true)⟩ rfl (fun _ _ _ h => h) hHeld ?_
                      refine take_n 16 ⟨some 149, Op.call { callee := Callee.value (Operand.func 61), args := #[Operand.tmp 148], argTypes := #[43] }, _, _, _, some (12, true)⟩ rfl (fun _ _ _ h => h) hHeld ?_
                      refine take_n 17 ⟨some 150, Op.binOp BinOp.neq 9 (Operand.tmp 147) (Operand.tmp 149) 9, _, _, _, some (12, true)⟩ rfl (fun _ _ _ h => h) hHeld ?_
                      refine take_v (v := ?_) 18 ⟨some 151, Op.pick (Operand.tmp 145) (Operand.tmp 150) (Operand.const (Value.bool false)), _, _, _, some (10, false)⟩ rfl (fun _ _ _ h => h) ?_ hHeld ?_
                      rotate_left
                      · (intro W _; go_simp <;> (try with_reducible rfl))
                      refine take_v (v := ?_) 19 ⟨some 152, Op.pick (Operand.tmp 143) (Operand.const (Value.bool true)) (Operand.tmp 151), _, _, _, none⟩ rfl (fun _ _ _ h => h) ?_ hHeld ?_
                      rotate_left
                      · (intro W _; go_simp <;> (try with_reducible rfl))
                      refine take_v (v := ?_) 20 ⟨some 153, Op.move (Operand.tmp 152), _, _, _, none⟩ rfl (fun _ _ _ h => h) ?_ hHeld ?_
                      rotate_left
                      · (intro W _; go_simp <;> (try with_reducible rfl))
                      refine take_v (v := ?_) 21 ⟨some 154, Op.move (Operand.tmp 12), _, _, _, some (20, false)⟩ rfl (fun _ _ _ h => h) ?_ hHeld ?_
                      rotate_left
                      · (intro W _; go_simp <;> (try with_reducible rfl))
                      refine take_v (v := ?_) 22 ⟨some 155, Op.unOp UnOp.not 4 (Operand.tmp 154), _, _, _, some (20, false)⟩ rfl (fun _ _ _ h => h) ?_ hHeld ?_
                      rotate_left
                      · (intro W _; go_simp <;> (try with_reducible rfl))
                      refine take_v (v := ?_) 23 ⟨some 156, Op.move (Operand.tmp 155), _, _, _, some (20, false)⟩ rfl (fun _ _ _ h => h) ?_ hHeld ?_
                      rotate_left
                      · (intro W _; go_simp <;> (try with_reducible rfl))
                      refine take_v (v := ?_) 24 ⟨some 157, Op.fieldAddr 43 (Operand.tmp 7) 3, _, _, _, some (23, true)⟩ rfl (fun _ _ _ h => h) ?_ hHeld ?_
                      rotate_left
                      · (intro W _; go_simp <;> (try with_reducible rfl))
                      refine take_v (v := ?_) 25 ⟨some 158, Op.load 9 (Operand.tmp 157), _, _, _, some (23, true)⟩ rfl (fun _ _ _ h => h) ?_ hHeld ?_
                      rotate_left
                      · (intro W hSW; (have s0 := hSW.cell 0 rfl; have s1 := hSW.cell 1 rfl; have s2 := hSW.cell 2 rfl; have s3 := hSW.cell 3 rfl; have s4 := hSW.cell 4 rfl; have sz := hSW.2); go_simp <;> (try with_reducible rfl))
                      refine take_v (v := ?_) 26 ⟨some 159, Op.binOp BinOp.neq 9 (Operand.tmp 158) (Operand.const (Value.string { data := #[] })) 9, _, _, _, some (23, true)⟩ rfl (fun _ _ _ h => h) ?_ hHeld ?_
                      rotate_left
                      · (intro W _; go_simp <;> (try with_reducible rfl))
                      refine take_v (v := ?_) 27 ⟨some 160, Op.move (Operand.tmp 159), _, _, _, some (23, true)⟩ rfl (fun _ _ _ h => h) ?_ hHeld ?_
                      rotate_left
                      · (intro W _; go_simp <;> (try with_reducible rfl))
                      refine take_v (v := ?_) 28 ⟨some 161, Op.fieldAddr 43 (Operand.tmp 7) 4, _, _, _, some (27, false)⟩ rfl (fun _ _ _ h => h) ?_ hHeld ?_
                      rotate_left
                      · (intro W _; go_simp <;> (try with_reducible rfl))
                      refine take_v (v := ?_) 29 ⟨some 162, Op.load 41 (Operand.tmp 161), _, _, _, some (27, false)⟩ rfl (fun _ _ _ h => h) ?_ hHeld ?_
                      rotate_left
                      · (intro W hSW; (have s0 := hSW.cell 0 rfl; have s1 := hSW.cell 1 rfl; have s2 := hSW.cell 2 rfl; have s3 := hSW.cell 3 rfl; have s4 := hSW.cell 4 rfl; have sz := hSW.2); go_simp <;> (try with_reducible rfl))
                      refine take_v (v := ?_) 30 ⟨some 163, Op.call { callee := Callee.builtin Builtin.len, args := #[Operand.tmp 162], argTypes := #[41] }, _, _, _, some (27, false)⟩ rfl (fun _ _ _ h => h) ?_ hHeld ?_
                      rotate_left
                      · (intro W _; go_simp <;> (try with_reducible rfl))
                      refine take_v (v := ?_) 31 ⟨some 164, Op.binOp BinOp.gtr 3 (Operand.tmp 163) (Operand.const (Value.int IntKind.i64 0)) 3, _, _, _, some (27, false)⟩ rfl (fun _ _ _ h => h) ?_ hHeld ?_
                      rotate_left
                      · (intro W _; go_simp <;> (try with_reducible rfl))
                      refine take_v (v := ?_) 32 ⟨some 165, Op.pick (Operand.tmp 160) (Operand.const (Value.bool true)) (Operand.tmp 164), _, _, _, some (23, true)⟩ rfl (fun _ _ _ h => h) ?_ hHeld ?_
                      rotate_left
                      · (intro W _; go_simp <;> (try with_reducible rfl))
                      refine take_v (v := ?_) 33 ⟨some 166, Op.pick (Operand.tmp 156) (Operand.tmp 165) (Operand.const (Value.bool false)), _, _, _, some (20, false)⟩ rfl (fun _ _ _ h => h) ?_ hHeld ?_
                      rotate_left
                      · (intro W _; go_simp <;> (try with_reducible rfl))
                      refine take_v (v := ?_) 34 ⟨some 167, Op.pick (Operand.tmp 153) (Operand.const (Value.bool true)) (Operand.tmp 166), _, _, _, none⟩ rfl (fun _ _ _ h => h) ?_ hHeld ?_
                      rotate_left
                      · (intro W _; go_simp <;> (try with_reducible rfl))
                      refine wpAnyH_done (by kernel_rfl) ?_ _
                      refine NoPanic.normal ?_
                      clear hHeld
                      go_wp2
                      go_roundw
                      case rel => exact ⟨k + 1, by omega, by go_num, HNX.out, HD.out.2.1, HD.out.2.2.1⟩
                      case measure => simp [intOf]; omega
                    · have c5 : (0 : Int) < (x4.length : Int) := by omega
                      have HN : Hid (¬ goodS ac ps) := Hid.intro (bad_pro hlx HNC.out.1 xH.out (fun q => c4 (q.2.2.2.2.1 rfl).2))
                      refine wp_region_noPanic ?_
                      refine wp_region_held_drew (S := fun W => Bx W wo.heap.size [.string x0, .slice xa1 x1.length xk1, .bool false, .string x3, .slice xa2 x4.length xk2]) (by kernel_rfl) HD.out.1 (fun hHeld => ?_)
                      refine take_v (v := ?_) 0 ⟨some 133, Op.fieldAddr 43 (Operand.tmp 7) 0, _, _, _, none⟩ rfl (fun _ _ _ h => h) ?_ hHeld ?_
                      rotate_left
                      · (intro W _; go_simp <;> (try with_reducible rfl))
                      refine take_v (v := ?_) 1 ⟨some 134, Op.load 9 (Operand.tmp 133), _, _, _, none⟩ rfl (fun _ _ _ h => h) ?_ hHeld ?_
                      rotate_left
                      · (intro W hSW; (have s0 := hSW.cell 0 rfl; have s1 := hSW.cell 1 rfl; have s2 := hSW.cell 2 rfl; have s3 := hSW.cell 3 rfl; have s4 := hSW.cell 4 rfl; have sz := hSW.2); go_simp <;> (try with_reducible rfl))
                      refine ready_call 2 ⟨some 135, Op.call { callee := Callee.value (Operand.func 60), args := #[Operand.tmp 134], argTypes := #[9] }, _, _, _, none⟩ (by kernel_rfl) rfl (by kernel_rfl) (fun KC hK => ?_)
                      go_wp2_with fail
                      refine (HV0.out _).mono ?_
                      rintro r w5 ⟨rfl, hw⟩
                      have hw := hw.symm
                      subst hw
                      refine hK.out _ _ HD.out.1 (fun hHeld => ?_)
                      clear hK KC
                      refine take_v (v := ?_) 3 ⟨some 136, Op.unOp UnOp.not 4 (Operand.tmp 135), _, _, _, none⟩ rfl (fun _ _ _ h => h) ?_ hHeld ?_
                      rotate_left
                      · (intro W _; go_simp <;> (try with_reducible rfl))
                      refine take_v (v := ?_) 4 ⟨some 137, Op.move (Operand.tmp 136), _, _, _, none⟩ rfl (fun _ _ _ h => h) ?_ hHeld ?_
                      rotate_left
                      · (intro W _; go_simp <;> (try with_reducible rfl))
                      refine take_v (v := ?_) 5 ⟨some 138, Op.fieldAddr 43 (Operand.tmp 7) 2, _, _, _, some (4, false)⟩ rfl (fun _ _ _ h => h) ?_ hHeld ?_
                      rotate_left
                      · (intro W _; go_simp <;> (try with_reducible rfl))
                      refine take_v (v := ?_) 6 ⟨some 139, Op.load 4 (Operand.tmp 138), _, _, _, some (4, false)⟩ rfl (fun _ _ _ h => h) ?_ hHeld ?_
                      rotate_left
                      · (intro W hSW; (have s0 := hSW.cell 0 rfl; have s1 := hSW.cell 1 rfl; have s2 := hSW.cell 2 rfl; have s3 := hSW.cell 3 rfl; have s4 := hSW.cell 4 rfl; have sz := hSW.2); go_simp <;> (try with_reducible rfl))
                      refine take_v (v := ?_) 7 ⟨some 140, Op.move (Operand.tmp 12), _, _, _, some (4, false)⟩ rfl (fun _ _ _ h => h) ?_ hHeld ?_
                      rotate_left
                      · (intro W _; go_simp <;> (try with_reducible rfl))
                      refine take_v (v := ?_) 8 ⟨some 141, Op.binOp BinOp.neq 4 (Operand.tmp 139) (Operand.tmp 140) 4, _, _, _, some (4, false)⟩ rfl (fun _ _ _ h => h) ?_ hHeld ?_
                      rotate_left
                      · (intro W _; go_simp <;> (try with_reducible rfl))
                      refine take_v (v := ?_) 9 ⟨some 142, Op.pick (Operand.tmp 137) (Operand.const (Value.bool true)) (Operand.tmp 141), _, _, _, none⟩ rfl (fun _ _ _ h => h) ?_ hHeld ?_
                      rotate_left
                      · (intro W _; go_simp <;> (try with_reducible rfl))
                      refine take_v (v := ?_) 10 ⟨some 143, Op.move (Operand.tmp 142), _, _, _, none⟩ rfl (fun _ _ _ h => h) ?_ hHeld ?_
                      rotate_left
                      · (intro W _; go_simp <;> (try with_reducible rfl))
                      refine take_v (v := ?_) 11 ⟨some 144, Op.move (Operand.tmp 12), _, _, _, some (10, false)⟩ rfl (fun _ _ _ h => h) ?_ hHeld ?_
                      rotate_left
                      · (intro W _; go_simp <;> (try with_reducible rfl))
                      refine take_v (v := ?_) 12 ⟨some 145, Op.move (Operand.tmp 144), _, _, _, some (10, false)⟩ rfl (fun _ _ _ h => h) ?_ hHeld ?_
                      rotate_left
                      · (intro W _; go_simp <;> (try with_reducible rfl))
                      refine take_n 13 ⟨some 146, Op.fieldAddr 43 (Operand.tmp 7) 3, _, _, _, some (12, true)⟩ rfl (fun _ _ _ h => h) hHeld ?_
                      refine take_n 14 ⟨some 147, Op.load 9 (Operand.tmp 146), _, _, _, some (12, true)⟩ rfl (fun _ _ _ h => h) hHeld ?_
                      refine take_n 15 ⟨some 148, Op.load 43 (Operand.tmp 7), _, _, _, some (12, true)⟩ rfl (fun _ _ _ h => h) hHeld ?_
                      refine take_n 16 ⟨some 149, Op.call { callee := Callee.value (Operand.func 61), args := #[Operand.tmp 148], argTypes := #[43] }, _, _, _, some (12, true)⟩ rfl (fun _ _ _ h => h) hHeld ?_
                      refine take_n 17 ⟨some 150, Op.binOp BinOp.neq 9 (Operand.tmp 147) (Operand.tmp 149) 9, _, _, _, some (12, true)⟩ rfl (fun _ _ _ h => h) hHeld ?_
                      refine take_v (v := ?_) 18 ⟨some 151, Op.pick (Operand.tmp 145) (Operand.tmp 150) (Operand.const (Value.bool false)), _, _, _, some (10, false)⟩ rfl (fun _ _ _ h => h) ?_ hHeld ?_
                      rotate_left
                      · (intro W _; go_simp <;> (try with_reducible rfl))
                      refine take_v (v := ?_) 19 ⟨some 152, Op.pick (Operand.tmp 143) (Operand.const (Value.bool true)) (Operand.tmp 151), _, _, _, none⟩ rfl (fun _ _ _ h => h) ?_ hHeld ?_
                      rotate_left
                      · (intro W _; go_simp <;> (try with_reducible rfl))
                      refine take_v (v := ?_) 20 ⟨some 153, Op.move (Operand.tmp 152), _, _, _, none⟩ rfl (fun _ _ _ h => h) ?_ hHeld ?_
                      rotate_left
                      · (intro W _; go_simp <;> (try with_reducible rfl))
                      refine take_v (v := ?_) 21 ⟨some 154, Op.move (Operand.tmp 12), _, _, _, some (20, false)⟩ rfl (fun _ _ _ h => h) ?_ hHeld ?_
                      rotate_left
                      · (intro W _; go_simp <;> (try with_reducible rfl))
                      refine take_v (v := ?_) 22 ⟨some 155, Op.unOp UnOp.not 4 (Operand.tmp 154), _, _, _, some (20, false)⟩ rfl (fun _ _ _ h => h) ?_ hHeld ?_
                      rotate_left
                      · (intro W _; go_simp <;> (try with_reducible rfl))
                      refine take_v (v := ?_) 23 ⟨some 156, Op.move (Operand.tmp 155), _, _, _, some (20, false)⟩ rfl (fun _ _ _ h => h) ?_ hHeld ?_
                      rotate_left
                      · (intro W _; go_simp <;> (try with_reducible rfl))
                      refine take_v (v := ?_) 24 ⟨some 157, Op.fieldAddr 43 (Operand.tmp 7) 3, _, _, _, some (23, true)⟩ rfl (fun _ _ _ h => h) ?_ hHeld ?_
                      rotate_left
                      · (intro W _; go_simp <;> (try with_reducible rfl))
                      refine take_v (v := ?_) 25 ⟨some 158, Op.load 9 (Operand.tmp 157), _, _, _, some (23, true)⟩ rfl (fun _ _ _ h => h) ?_ hHeld ?_
                      rotate_left
                      · (intro W hSW; (have s0 := hSW.cell 0 rfl; have s1 := hSW.cell 1 rfl; have s2 := hSW.cell 2 rfl; have s3 := hSW.cell 3 rfl; have s4 := hSW.cell 4 rfl; have sz := hSW.2); go_simp <;> (try with_reducible rfl))
                      refine take_v (v := ?_) 26 ⟨some 159, Op.binOp BinOp.neq 9 (Operand.tmp 158) (Operand.const (Value.string { data := #[] })) 9, _, _, _, some (23, true)⟩ rfl (fun _ _ _ h => h) ?_ hHeld ?_
                      rotate_left
                      · (intro W _; go_simp <;> (try with_reducible rfl))
                      refine take_v (v := ?_) 27 ⟨some 160, Op.move (Operand.tmp 159), _, _, _, some (23, true)⟩ rfl (fun _ _ _ h => h) ?_ hHeld ?_
                      rotate_left
                      · (intro W _; go_simp <;> (try with_reducible rfl))
                      refine take_v (v := ?_) 28 ⟨some 161, Op.fieldAddr 43 (Operand.tmp 7) 4, _, _, _, some (27, false)⟩ rfl (fun _ _ _ h => h) ?_ hHeld ?_
                      rotate_left
                      · (intro W _; go_simp <;> (try with_reducible rfl))
                      refine take_v (v := ?_) 29 ⟨some 162, Op.load 41 (Operand.tmp 161), _, _, _, some (27, false)⟩ rfl (fun _ _ _ h => h) ?_ hHeld ?_
                      rotate_left
                      · (intro W hSW; (have s0 := hSW.cell 0 rfl; have s1 := hSW.cell 1 rfl; have s2 := hSW.cell 2 rfl; have s3 := hSW.cell 3 rfl; have s4 := hSW.cell 4 rfl; have sz := hSW.2); go_simp <;> (try with_reducible rfl))
                      refine take_v (v := ?_) 30 ⟨some 163, Op.call { callee := Callee.builtin Builtin.len, args := #[Operand.tmp 162], argTypes := #[41] }, _, _, _, some (27, false)⟩ rfl (fun _ _ _ h => h) ?_ hHeld ?_
                      rotate_left
                      · (intro W _; go_simp <;> (try with_reducible rfl))
                      refine take_v (v := ?_) 31 ⟨some 164, Op.binOp BinOp.gtr 3 (Operand.tmp 163) (Operand.const (Value.int IntKind.i64 0)) 3, _, _, _, some (27, false)⟩ rfl (fun _ _ _ h => h) ?_ hHeld ?_
                      rotate_left
                      · (intro W _; go_simp <;> (try with_reducible rfl))
                      refine take_v (v := ?_) 32 ⟨some 165, Op.pick (Operand.tmp 160) (Operand.const (Value.bool true)) (Operand.tmp 164), _, _, _, some (23, true)⟩ rfl (fun _ _ _ h => h) ?_ hHeld ?_
                      rotate_left
                      · (intro W _; go_simp <;> (try with_reducible rfl))
                      refine take_v (v := ?_) 33 ⟨some 166, Op.pick (Operand.tmp 156) (Operand.tmp 165) (Operand.const (Value.bool false)), _, _, _, some (20, false)⟩ rfl (fun _ _ _ h => h) ?_ hHeld ?_
                      rotate_left
                      · (intro W _; go_simp <;> (try with_reducible rfl))
                      refine take_v (v := ?_) 34 ⟨some 167, Op.pick (Operand.tmp 153) (Operand.const (Value.bool true)) (Operand.tmp 166), _, _, _, none⟩ rfl (fun _ _ _ h => h) ?_ hHeld ?_
                      rotate_left
                      · (intro W _; go_simp <;> (try with_reducible rfl))
                      refine wpAnyH_done (by kernel_rfl) ?_ _
                      refine NoPanic.normal ?_
                      clear hHeld
                      go_wp2
                      go_ret
                      exact ⟨goodS_none HN.out, HD.out.2.2.1⟩
                  · cases c6 : (x3.toList == fv.toList)
                    · have c7 : (x3.toList != fv.toList) = true := by simp only [bne, c6]; rfl
                      have HN : Hid (¬ goodS ac ps) := Hid.intro (bad_pro hlx HNC.out.1 xH.out (fun q => by rw [HFV.out.2 (q.2.2.2.1 rfl)] at c6; cases c6))
                      refine wp_region_noPanic ?_
                      refine wp_region_held_drew (S := fun W => Bx W wo.heap.size [.string x0, .slice xa1 x1.length xk1, .bool true, .string x3, .slice xa2 x4.length xk2]) (by kernel_rfl) HD.out.1 (fun hHeld => ?_)
                      refine take_v (v := ?_) 0 ⟨some 133, Op.fieldAddr 43 (Operand.tmp 7) 0, _, _, _, none⟩ rfl (fun _ _ _ h => h) ?_ hHeld ?_
                      rotate_left
                      · (intro W _; go_simp <;> (try with_reducible rfl))
                      refine take_v (v := ?_) 1 ⟨some 134, Op.load 9 (Operand.tmp 133), _, _, _, none⟩ rfl (fun _ _ _ h => h) ?_ hHeld ?_
                      rotate_left
                      · (intro W hSW; (have s0 := hSW.cell 0 rfl; have s1 := hSW.cell 1 rfl; have s2 := hSW.cell 2 rfl; have s3 := hSW.cell 3 rfl; have s4 := hSW.cell 4 rfl; have sz := hSW.2); go_simp <;> (try with_reducible rfl))
                      refine ready_call 2 ⟨some 135, Op.call { callee := Callee.value (Operand.func 60), args := #[Operand.tmp 134], argTypes := #[9] }, _, _, _, none⟩ (by kernel_rfl) rfl (by kernel_rfl) (fun KC hK => ?_)
                      go_wp2_with fail
                      refine (HV0.out _).mono ?_
                      rintro r w5 ⟨rfl, hw⟩
                      have hw := hw.symm
                      subst hw
                      refine hK.out _ _ HD.out.1 (fun hHeld => ?_)
                      clear hK KC
                      refine take_v (v := ?_) 3 ⟨some 136, Op.unOp UnOp.not 4 (Operand.tmp 135), _, _, _, none⟩ rfl (fun _ _ _ h => h) ?_ hHeld ?_
                      rotate_left
                      · (intro W _; go_simp <;> (try with_reducible rfl))
                      refine take_v (v := ?_) 4 ⟨some 137, Op.move (Operand.tmp 136), _, _, _, none⟩ rfl (fun _ _ _ h => h) ?_ hHeld ?_
                      rotate_left
                      · (intro W _; go_simp <;> (try with_reducible rfl))
                      refine take_v (v := ?_) 5 ⟨some 138, Op.fieldAddr 43 (Operand.tmp 7) 2, _, _, _, some (4, false)⟩ rfl (fun _ _ _ h => h) ?_ hHeld ?_
                      rotate_left
                      · (intro W _; go_simp <;> (try with_reducible rfl))
                      refine take_v (v := ?_) 6 ⟨some 139, Op.load 4 (Operand.tmp 138), _, _, _, some (4, false)⟩ rfl (fun _ _ _ h => h) ?_ hHeld ?_
                      rotate_left
                      · (intro W hSW; (have s0 := hSW.cell 0 rfl; have s1 := hSW.cell 1 rfl; have s2 := hSW.cell 2 rfl; have s3 := hSW.cell 3 rfl; have s4 := hSW.cell 4 rfl; have sz := hSW.2); go_simp <;> (try with_reducible rfl))
                      refine take_v (v := ?_) 7 ⟨some 140, Op.move (Operand.tmp 12), _, _, _, some (4, false)⟩ rfl (fun _ _ _ h => h) ?_ hHeld ?_
                      rotate_left
                      · (intro W _; go_simp <;> (try with_reducible rfl))
                      refine take_v (v := ?_) 8 ⟨some 141, Op.binOp BinOp.neq 4 (Operand.tmp 139) (Operand.tmp 140) 4, _, _, _, some (4, false)⟩ rfl (fun _ _ _ h => h) ?_ hHeld ?_
                      rotate_left
                      · (intro W _; go_simp <;> (try with_reducible rfl))
                      refine take_v (v := ?_) 9 ⟨some 142, Op.pick (Operand.tmp 137) (Operand.const (Value.bool true)) (Operand.tmp 141), _, _, _, none⟩ rfl (fun _ _ _ h => h) ?_ hHeld ?_
                      rotate_left
                      · (intro W _; go_simp <;> (try with_reducible rfl))
                      refine take_v (v := ?_) 10 ⟨some 143, Op.move (Operand.tmp 142), _, _, _, none⟩ rfl (fun _ _ _ h => h) ?_ hHeld ?_
                      rotate_left
                      · (intro W _; go_simp <;> (try with_reducible rfl))
                      refine take_v (v := ?_) 11 ⟨some 144, Op.move (Operand.tmp 12), _, _, _, some (10, false)⟩ rfl (fun _ _ _ h => h) ?_ hHeld ?_
                      rotate_left
                      · (intro W _; go_simp <;> (try with_reducible rfl))
                      refine take_v (v := ?_) 12 ⟨some 145, Op.move (Operand.tmp 144), _, _, _, some (10, false)⟩ rfl (fun _ _ _ h => h) ?_ hHeld ?_
                      rotate_left
                      · (intro W _; go_simp <;> (try with_reducible rfl))
                      refine take_v (v := ?_) 13 ⟨some 146, Op.fieldAddr 43 (Operand.tmp 7) 3, _, _, _, some (12, true)⟩ rfl (fun _ _ _ h => h) ?_ hHeld ?_
                      rotate_left
                      · (intro W _; go_simp <;> (try with_reducible rfl))
                      refine take_v (v := ?_) 14 ⟨some 147, Op.load 9 (Operand.tmp 146), _, _, _, some (12, true)⟩ rfl (fun _ _ _ h => h) ?_ hHeld ?_
                      rotate_left
                      · (intro W hSW; (have s0 := hSW.cell 0 rfl; have s1 := hSW.cell 1 rfl; have s2 := hSW.cell 2 rfl; have s3 := hSW.cell 3 rfl; have s4 := hSW.cell 4 rfl; have sz := hSW.2); go_simp <;> (try with_reducible rfl))
                      refine take_v (v := ?_) 15 ⟨some 148, Op.load 43 (Operand.tmp 7), _, _, _, some (12, true)⟩ rfl (fun _ _ _ h => h) ?_ hHeld ?_
                      rotate_left
                      · (intro W hSW; (have s0 := hSW.cell 0 rfl; have s1 := hSW.cell 1 rfl; have s2 := hSW.cell 2 rfl; have s3 := hSW.cell 3 rfl; have s4 := hSW.cell 4 rfl; have sz := hSW.2); go_simp <;> (try with_reducible rfl))
                      refine ready_call 16 ⟨some 149, Op.call { callee := Callee.value (Operand.func 61), args := #[Operand.tmp 148], argTypes := #[43] }, _, _, _, some (12, true)⟩ (by kernel_rfl) rfl (by kernel_rfl) (fun KC hK => ?_)
                      go_wp2_with fail
                      refine (HCV.out _ HD.out.2.2.2).mono ?_
                      rintro r w6 ⟨rfl, hb⟩
                      have HD : Hid (Bx w6 wo.heap.size [.string x0, .slice xa1 x1.length xk1, .bool true, .string x3, .slice xa2 x4.length xk2] ∧ Bx w6 w.heap.size [.slice a1 nc k1, .slice (some ⟨xg, xoff, none⟩) no k2] ∧ Below w.heap.size w w6 ∧ Below w0.heap.size w0 w6) := ⟨HD.out.1.next hb, HD.out.2.1.next hb, below_next HD.out.2.2.1 hb, below_next HD.out.2.2.2 hb⟩
                      clear hb
                      refine hK.out _ _ HD.out.1 (fun hHeld => ?_)
                      clear hK KC
                      refine take_v (v := ?_) 17 ⟨some 150, Op.binOp BinOp.neq 9 (Operand.tmp 147) (Operand.tmp 149) 9, _, _, _, some (12, true)⟩ rfl (fun _ _ _ h => h) ?_ hHeld ?_
                      rotate_left
                      · (intro W _; go_simp <;> (try with_reducible rfl))
                      refine take_v (v := ?_) 18 ⟨some 151, Op.pick (Operand.tmp 145) (Operand.tmp 150) (Operand.const (Value.bool false)), _, _, _, some (10, false)⟩ rfl (fun _ _ _ h => h) ?_ hHeld ?_
                      rotate_left
                      · (intro W _; go_simp <;> (try with_reducible rfl))
                      refine take_v (v := ?_) 19 ⟨some 152, Op.pick (Operand.tmp 143) (Operand.const (Value.bool true)) (Operand.tmp 151), _, _, _, none⟩ rfl (fun _ _ _ h => h) ?_ hHeld ?_
                      rotate_left
                      · (intro W _; go_simp <;> (try with_reducible rfl))
                      refine take_v (v := ?_) 20 ⟨some 153, Op.move (Operand.tmp 152), _, _, _, none⟩ rfl (fun _ _ _ h => h) ?_ hHeld ?_
                      rotate_left
                      · (intro W _; go_simp <;> (try with_reducible rfl))
                      refine take_n 21 ⟨some 154, Op.move (Operand.tmp 12), _, _, _, some (20, false)⟩ rfl (fun _ _ _ h => h) hHeld ?_
                      refine take_n 22 ⟨some 155, Op.unOp UnOp.not 4 (Operand.tmp 154), _, _, _, some (20, false)⟩ rfl (fun _ _ _ h => h) hHeld ?_
                      refine take_n 23 ⟨some 156, Op.move (Operand.tmp 155), _, _, _, some (20, false)⟩ rfl (fun _ _ _ h => h) hHeld ?_
                      refine take_n 24 ⟨some 157, Op.fieldAddr 43 (Operand.tmp 7) 3, _, _, _, some (23, true)⟩ rfl (fun _ _ _ h => h) hHeld ?_
                      refine take_n 25 ⟨some 158, Op.load 9 (Operand.tmp 157), _, _, _, some (23, true)⟩ rfl (fun _ _ _ h => h) hHeld ?_
                      refine take_n 26 ⟨some 159, Op.binOp BinOp.neq 9 (Operand.tmp 158) (Operand.const (Value.string { data := #[] })) 9, _, _, _, some (23, true)⟩ rfl (fun _ _ _ h => h) hHeld ?_
                      refine take_n 27 ⟨some 160, Op.move (Operand.tmp 159), _, _, _, some (23, true)⟩ rfl (fun _ _ _ h => h) hHeld ?_
                      refine take_n 28 ⟨some 161, Op.fieldAddr 43 (Operand.tmp 7) 4, _, _, _, some (27, false)⟩ rfl (fun _ _ _ h => h) hHeld ?_
                      refine take_n 29 ⟨some 162, Op.load 41 (Operand.tmp 161), _, _, _, some (27, false)⟩ rfl (fun _ _ _ h => h) hHeld ?_
                      refine take_n 30 ⟨some 163, Op.call { callee := Callee.builtin Builtin.len, args := #[Operand.tmp 162], argTypes := #[41] }, _, _, _, some (27, false)⟩ rfl (fun _ _ _ h => h) hHeld ?_
                      refine take_n 31 ⟨some 164, Op.binOp BinOp.gtr 3 (Operand.tmp 163) (Operand.const (Value.int IntKind.i64 0)) 3, _, _, _, some (27, false)⟩ rfl (fun _ _ _ h => h) hHeld ?_
                      refine take_n 32 ⟨some 165, Op.pick (Operand.tmp 160) (Operand.const (Value.bool true)) (Operand.tmp 164), _, _, _, some (23, true)⟩ rfl (fun _ _ _ h => h) hHeld ?_
                      refine take_n 33 ⟨some 166, Op.pick (Operand.tmp 156) (Operand.tmp 165) (Operand.const (Value.bool false)), _, _, _, some (20, false)⟩ rfl (fun _ _ _ h => h) hHeld ?_
                      refine take_v (v := ?_) 34 ⟨some 167, Op.pick (Operand.tmp 153) (Operand.const (Value.bool true)) (Operand.tmp 166), _, _, _, none⟩ rfl (fun _ _ _ h => h) ?_ hHeld ?_
                      rotate_left
                      · (intro W _; go_simp <;> (try with_reducible rfl))
                      refine wpAnyH_done (by kernel_rfl) ?_ _
                      refine NoPanic.normal ?_
                      clear hHeld
                      go_wp2
                      go_ret
                      exact ⟨goodS_none HN.out, HD.out.2.2.1⟩
                    · have c7 : (x3.toList != fv.toList) = false := by simp only [bne, c6]; rfl
                      have HNX : Hid (proK nc ps (k + 1)) := Hid.intro (proK_succ hlx HA.out (by rw [xH.out]; exact ⟨HVO.out, HPR.out, HBE.out, fun _ => HFV.out.1 c6, (fun q => by cases q), HGR.out⟩))
                      refine wp_region_noPanic ?_
                      refine wp_region_held_drew (S := fun W => Bx W wo.heap.size [.string x0, .slice xa1 x1.length xk1, .bool true, .string x3, .slice xa2 x4.length xk2]) (by kernel_rfl) HD.out.1 (fun hHeld => ?_)
                      refine take_v (v := ?_) 0 ⟨some 133, Op.fieldAddr 43 (Operand.tmp 7) 0, _, _, _, none⟩ rfl (fun _ _ _ h => h) ?_ hHeld ?_
                      rotate_left
                      · (intro W _; go_simp <;> (try with_reducible rfl))
                      refine take_v (v := ?_) 1 ⟨some 134, Op.load 9 (Operand.tmp 133), _, _, _, none⟩ rfl (fun _ _ _ h => h) ?_ hHeld ?_
                      rotate_left
                      · (intro W hSW; (have s0 := hSW.cell 0 rfl; have s1 := hSW.cell 1 rfl; have s2 := hSW.cell 2 rfl; have s3 := hSW.cell 3 rfl; have s4 := hSW.cell 4 rfl; have sz := hSW.2); go_simp <;> (try with_reducible rfl))
                      refine ready_call 2 ⟨some 135, Op.call { callee := Callee.value (Operand.func 60), args := #[Operand.tmp 134], argTypes := #[9] }, _, _, _, none⟩ (by kernel_rfl) rfl (by kernel_rfl) (fun KC hK => ?_)
                      go_wp2_with fail
                      refine (HV0.out _).mono ?_
                      rintro r w5 ⟨rfl, hw⟩
                      have hw := hw.symm
                      subst hw
                      refine hK.out _ _ HD.out.1 (fun hHeld => ?_)
                      clear hK KC
                      refine take_v (v := ?_) 3 ⟨some 136, Op.unOp UnOp.not 4 (Operand.tmp 135), _, _, _, none⟩ rfl (fun _ _ _ h => h) ?_ hHeld ?_
                      rotate_left
                      · (intro W _; go_simp <;> (try with_reducible rfl))
                      refine take_v (v := ?_) 4 ⟨some 137, Op.move (Operand.tmp 136), _, _, _, none⟩ rfl (fun _ _ _ h => h) ?_ hHeld ?_
                      rotate_left
                      · (intro W _; go_simp <;> (try with_reducible rfl))
                      refine take_v (v := ?_) 5 ⟨some 138, Op.fieldAddr 43 (Operand.tmp 7) 2, _, _, _, some (4, false)⟩ rfl (fun _ _ _ h => h) ?_ hHeld ?_
                      rotate_left
                      · (intro W _; go_simp <;> (try with_reducible rfl))
                      refine take_v (v := ?_) 6 ⟨some 139, Op.load 4 (Operand.tmp 138), _, _, _, some (4, false)⟩ rfl (fun _ _ _ h => h) ?_ hHeld ?_
                      rotate_left
                      · (intro W hSW; (have s0 := hSW.cell 0 rfl; have s1 := hSW.cell 1 rfl; have s2 := hSW.cell 2 rfl; have s3 := hSW.cell 3 rfl; have s4 := hSW.cell 4 rfl; have sz := hSW.2); go_simp <;> (try with_reducible rfl))
                      refine take_v (v := ?_) 7 ⟨some 140, Op.move (Operand.tmp 12), _, _, _, some (4, false)⟩ rfl (fun _ _ _ h => h) ?_ hHeld ?_
                      rotate_left
                      · (intro W _; go_simp <;> (try with_reducible rfl))
                      refine take_v (v := ?_) 8 ⟨some 141, Op.binOp BinOp.neq 4 (Operand.tmp 139) (Operand.tmp 140) 4, _, _, _, some (4, false)⟩ rfl (fun _ _ _ h => h) ?_ hHeld ?_
                      rotate_left
                      · (intro W _; go_simp <;> (try with_reducible rfl))
                      refine take_v (v := ?_) 9 ⟨some 142, Op.pick (Operand.tmp 137) (Operand.const (Value.bool true)) (Operand.tmp 141), _, _, _, none⟩ rfl (fun _ _ _ h => h) ?_ hHeld ?_
                      rotate_left
                      · (intro W _; go_simp <;> (try with_reducible rfl))
                      refine take_v (v := ?_) 10 ⟨some 143, Op.move (Operand.tmp 142), _, _, _, none⟩ rfl (fun _ _ _ h => h) ?_ hHeld ?_
                      rotate_left
                      · (intro W _; go_simp <;> (try with_reducible rfl))
                      refine take_v (v := ?_) 11 ⟨some 144, Op.move (Operand.tmp 12), _, _, _, some (10, false)⟩ rfl (fun _ _ _ h => h) ?_ hHeld ?_
                      rotate_left
                      · (intro W _; go_simp <;> (try with_reducible rfl))
                      refine take_v (v := ?_) 12 ⟨some 145, Op.move (Operand.tmp 144), _, _, _, some (10, false)⟩ rfl (fun _ _ _ h => h) ?_ hHeld ?_
                      rotate_left
                      · (intro W _; go_simp <;> (try with_reducible rfl))
                      refine take_v (v := ?_) 13 ⟨some 146, Op.fieldAddr 43 (Operand.tmp 7) 3, _, _, _, some (12, true)⟩ rfl (fun _ _ _ h => h) ?_ hHeld ?_
                      rotate_left
                      · (intro W _; go_simp <;> (try with_reducible rfl))
                      refine take_v (v := ?_) 14 ⟨some 147, Op.load 9 (Operand.tmp 146), _, _, _, some (12, true)⟩ rfl (fun _ _ _ h => h) ?_ hHeld ?_
                      rotate_left
                      · (intro W hSW; (have s0 := hSW.cell 0 rfl; have s1 := hSW.cell 1 rfl; have s2 := hSW.cell 2 rfl; have s3 := hSW.cell 3 rfl; have s4 := hSW.cell 4 rfl; have sz := hSW.2); go_simp <;> (try with_reducible rfl))
                      refine take_v (v := ?_) 15 ⟨some 148, Op.load 43 (Operand.tmp 7), _, _, _, some (12, true)⟩ rfl (fun _ _ _ h => h) ?_ hHeld ?_
                      rotate_left
                      · (intro W hSW; (have s0 := hSW.cell 0 rfl; have s1 := hSW.cell 1 rfl; have s2 := hSW.cell 2 rfl; have s3 := hSW.cell 3 rfl; have s4 := hSW.cell 4 rfl; have sz := hSW.2); go_simp <;> (try with_reducible rfl))
                      refine ready_call 16 ⟨some 149, Op.call { callee := Callee.value (Operand.func 61), args := #[Operand.tmp 148], argTypes := #[43] }, _, _, _, some (12, true)⟩ (by kernel_rfl) rfl (by kernel_rfl) (fun KC hK => ?_)
                      go_wp2_with fail
                      refine (HCV.out _ HD.out.2.2.2).mono ?_
                      rintro r w6 ⟨rfl, hb⟩
                      have HD : Hid (Bx w6 wo.heap.size [.string x0, .slice xa1 x1.length xk1, .bool true, .string x3, .slice xa2 x4.length xk2] ∧ Bx w6 w.heap.size [.slice a1 nc k1, .slice (some ⟨xg, xoff, none⟩) no k2] ∧ Below w.heap.size w w6 ∧ Below w0.heap.size w0 w6) := ⟨HD.out.1.next hb, HD.out.2.1.next hb, below_next HD.out.2.2.1 hb, below_next HD.out.2.2.2 hb⟩
                      clear hb
                      refine hK.out _ _ HD.out.1 (fun hHeld => ?_)
                      clear hK KC
                      refine take_v (v := ?_) 17 ⟨some 150, Op.binOp BinOp.neq 9 (Operand.tmp 147) (Operand.tmp 149) 9, _, _, _, some (12, true)⟩ rfl (fun _ _ _ h => h) ?_ hHeld ?_
                      rotate_left
                      · (intro W _; go_simp <;> (try with_reducible rfl))
                      refine take_v (v := ?_) 18 ⟨some 151, Op.pick (Operand.tmp 145) (Operand.tmp 150) (Operand.const (Value.bool false)), _, _, _, some (10, false)⟩ rfl (fun _ _ _ h => h) ?_ hHeld ?_
                      rotate_left
                      · (intro W _; go_simp <;> (try with_reducible rfl))
                      refine take_v (v := ?_) 19 ⟨some 152, Op.pick (Operand.tmp 143) (Operand.const (Value.bool true)) (Operand.tmp 151), _, _, _, none⟩ rfl (fun _ _ _ h => h) ?_ hHeld ?_
                      rotate_left
                      · (intro W _; go_simp <;> (try with_reducible rfl))
                      refine take_v (v := ?_) 20 ⟨some 153, Op.move (Operand.tmp 152), _, _, _, none⟩ rfl (fun _ _ _ h => h) ?_ hHeld ?_
                      rotate_left
                      · (intro W _; go_simp <;> (try with_reducible rfl))
                      refine take_v (v := ?_) 21 ⟨some 154, Op.move (Operand.tmp 12), _, _, _, some (20, false)⟩ rfl (fun _ _ _ h => h) ?_ hHeld ?_
                      rotate_left
                      · (intro W _; go_simp <;> (try with_reducible rfl))
                      refine take_v (v := ?_) 22 ⟨some 155, Op.unOp UnOp.not 4 (Operand.tmp 154), _, _, _, some (20, false)⟩ rfl (fun _ _ _ h => h) ?_ hHeld ?_
                      rotate_left
                      · (intro W _; go_simp <;> (try with_reducible rfl))
                      refine take_v (v := ?_) 23 ⟨some 156, Op.move (Operand.tmp 155), _, _, _, some (20, false)⟩ rfl (fun _ _ _ h => h) ?_ hHeld ?_
                      rotate_left
                      · (intro W _; go_simp <;> (try with_reducible rfl))
                      refine take_n 24 ⟨some 157, Op.fieldAddr 43 (Operand.tmp 7) 3, _, _, _, some (23, true)⟩ rfl (fun _ _ _ h => h) hHeld ?_
                      refine take_n 25 ⟨some 158, Op.load 9 (Operand.tmp 157), _, _, _, some (23, true)⟩ rfl (fun _ _ _ h => h) hHeld ?_
                      refine take_n 26 ⟨some 159, Op.binOp BinOp.neq 9 (Operand.tmp 158) (Operand.const (Value.string { data := #[] })) 9, _, _, _, some (23, true)⟩ rfl (fun _ _ _ h => h) hHeld ?_
                      refine take_n 27 ⟨some 160, Op.move (Operand.tmp 159), _, _, _, some (23, true)⟩ rfl (fun _ _ _ h => h) hHeld ?_
                      refine take_n 28 ⟨some 161, Op.fieldAddr 43 (Operand.tmp 7) 4, _, _, _, some (27, false)⟩ rfl (fun _ _ _ h => h) hHeld ?_
                      refine take_n 29 ⟨some 162, Op.load 41 (Operand.tmp 161), _, _, _, some (27, false)⟩ rfl (fun _ _ _ h => h) hHeld ?_
                      refine take_n 30 ⟨some 163, Op.call { callee := Callee.builtin Builtin.len, args := #[Operand.tmp 162], argTypes := #[41] }, _, _, _, some (27, false)⟩ rfl (fun _ _ _ h => h) hHeld ?_
                      refine take_n 31 ⟨some 164, Op.binOp BinOp.gtr 3 (Operand.tmp 163) (Operand.const (Value.int IntKind.i64 0)) 3, _, _, _, some (27, false)⟩ rfl (fun _ _ _ h => h) hHeld ?_
                      refine take_n 32 ⟨some 165, Op.pick (Operand.tmp 160) (Operand.const (Value.bool true)) (Operand.tmp 164), _, _, _, some (23, true)⟩ rfl (fun _ _ _ h => h) hHeld ?_
                      refine take_v (v := ?_) 33 ⟨some 166, Op.pick (Operand.tmp 156) (Operand.tmp 165) (Operand.const (Value.bool false)), _, _, _, some (20, false)⟩ rfl (fun _ _ _ h => h) ?_ hHeld ?_
                      rotate_left
                      · (intro W _; go_simp <;> (try with_reducible rfl))
                      refine take_v (v := ?_) 34 ⟨some 167, Op.pick (Operand.tmp 153) (Operand.const (Value.bool true)) (Operand.tmp 166), _, _, _, none⟩ rfl (fun _ _ _ h => h) ?_ hHeld ?_
                      rotate_left
                      · (intro W _; go_simp <;> (try with_reducible rfl))
                      refine wpAnyH_done (by kernel_rfl) ?_ _
                      refine NoPanic.normal ?_
                      clear hHeld
                      go_wp2
                      go_roundw
                      case rel => exact ⟨k + 1, by omega, by go_num, HNX.out, HD.out.2.1, HD.out.2.2.1⟩
                      case measure => simp [intOf]; omega
        · have hkn : k = no := by omega
          have HF : Hid (goodS ac ps) := Hid.intro (by
            have h1 := HA.out
            rw [hkn] at h1
            refine ⟨by have := HNC.out.1; omega, by have := HNC.out.2; omega, by rw [← HNC.out.2]; exact HCP.out, ?_⟩
            rw [← HNC.out.1, ← HNC.out.2]; exact h1)
          have HB2 : Hid (Below w.heap.size w wr) := hBr
          clear hkn hbx hBr
          go_wp2
          go_ret
          exact ⟨goodS_yes HF.out, HB2.out⟩
end Go.Proofs.Ytmhkfangfhanlaa
