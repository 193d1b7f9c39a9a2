/- The contract of (*oneCopy).do. Written by tools/mkOnD.py. -/
import Derived.Test.YtkniokbioggkeaaOnF
import Derived.Maps.AppendAt
namespace Go.Proofs.Ytkniokbioggkeaa
open Go.RowKit
set_option linter.unusedVariables false

theorem wp_append_any {P : Program} (w : World) {o : Oper} {a : Act} {K : Act → World → Prop} {Q : Exit → Act → World → Prop} (s x : Operand) (t : TypeId)
    (ho : o.op = .call { callee := .builtin .append, args := #[s, x], argTypes := #[t, t] })
    (base : Nat) (e : TypeId) (i : TypeInfo) (z : Value) (size bytes : Nat) (ht : P.underlying t = some (.slice e)) (hi : P.info? e = some i) (hz : i.zero = some z)
    (hsize : i.size = size) (hby : i.bytes = bytes) (hzs : z.cells.size = size) (hsz : 0 < size)
    (v : Value) (n : Nat) (xs : List Value) (hs : a.eval s = v) (hown : w.ownsRow base e size v n xs)
    (ad : Addr) (m c : Nat) (news : List Value) (hx : a.eval x = .slice (some ad) m c) (hl : news.length = m * size) (hnews : ∀ j u, news[j]? = some u → w.cell? (ad.add j) = some u) (h1 : ∀ u ∈ news, u.oneCell' = true)
    (h63 : n + m ≤ maxLen) (hbytes : (n + m) * bytes ≤ 140737488355328) (hbase : base ≤ w.heap.size)
    (h : ∀ v' w', w'.ownsRow base e size v' (n + m) (xs ++ news) → w.grownBy w' v.ownBlock → (v'.ownBlock = v.ownBlock ∨ v'.ownBlock = some w.heap.size) → K (a.put o.dst v') w') : o.wp P a w K Q := by
  obtain ⟨v', w', hr, h2, h3, _, h5⟩ := run_append_own_at (P := P) w base t o.type e i z size bytes ht hi hz hsize hby hzs hsz v n xs hown ad m c news hl hnews h1 h63 hbytes hbase
  unfold Oper.wp execOp
  simp only [ho, resolve, invoke, builtin, Sem.run_bind, Sem.run_pure, Result.andThen_ok, List.map_toArray, List.map_cons, List.map_nil, hs, hx, hr]
  exact h v' w' h2 h3 h5
theorem info_int7 : (Try.prog.info? 3).map (fun i => (i.zero, i.size, i.bytes)) = some (some (.int .i64 0), 1, 8) := by kernel_rfl
theorem Bx.news1 {w : World} {g : Nat} {v : Value} (h : Bx w g [v]) : ∀ j u, ([v] : List Value)[j]? = some u → w.cell? ((⟨g, 0, none⟩ : Addr).add j) = some u := by
  intro j u hu
  cases j with
  | zero =>
    simp at hu; subst hu
    exact h.cell 0 rfl
  | succ j => simp at hu
section
variable {W W' : World} {g : Nat} {a : Option Addr} {n cap : Nat} {ord ord' : List Nat} {L L' : List CellV} {ov lv ov' lv' : Value} {KB KB' : List (Nat × List Value)}
theorem One.gO (h : One W g a n cap ord L ov lv KB) : some g ≠ ov.ownBlock := fun e => by have := (h.2.1.lt _ e.symm).1; omega
theorem One.gC (h : One W g a n cap ord L ov lv KB) : some g ≠ lv.ownBlock := fun e => by have := (h.2.2.1.lt _ e.symm).1; omega
theorem One.boxO {b : Nat} {vs : List Value} (h : One W g a n cap ord L ov lv KB) (hg : W.grownBy W' ov.ownBlock) (hp : (b, vs) ∈ KB) : Bx W' b vs := by
  obtain ⟨h1, h2, h3, h4⟩ := h.2.2.2.2 _ hp
  exact h1.blk (hg.block _ h1.2 (fun e => h3 e.symm)) hg.size
theorem One.boxC {b : Nat} {vs : List Value} (h : One W g a n cap ord L ov lv KB) (hg : W.grownBy W' lv.ownBlock) (hp : (b, vs) ∈ KB) : Bx W' b vs := by
  obtain ⟨h1, h2, h3, h4⟩ := h.2.2.2.2 _ hp
  exact h1.blk (hg.block _ h1.2 (fun e => h4 e.symm)) hg.size
theorem One.slC {la : Option Addr} {lc : Nat} (h : One W g a n cap ord L ov (.slice la L.length lc) KB) : Sl W la L.length 2 (cellF (cV L)) := by
  obtain ⟨a', c', e, _, hrow⟩ := SRow.of (F := cellF (cV L)) (c := 2) h.2.2.1
  simp only [Value.slice.injEq, true_and] at e
  rw [e.1]; exact hrow.sl
/-- b is a block of nobody here. -/
def Fr (g b : Nat) (ov lv : Value) (KB : List (Nat × List Value)) : Prop := g < b ∧ ov.ownBlock ≠ some b ∧ lv.ownBlock ≠ some b ∧ ∀ p ∈ KB, p.1 ≠ b
theorem One.fresh (h : One W g a n cap ord L ov lv KB) : Fr g W.heap.size ov lv KB :=
  ⟨h.1.2, fun e => by have := (h.2.1.lt _ e).2; omega, fun e => by have := (h.2.2.1.lt _ e).2; omega, fun p hp => Nat.ne_of_lt (h.2.2.2.2 p hp).1.2⟩
theorem One.set' {b q : Nat} {u : Value} (h : One W g a n cap ord L ov lv KB) (hf : Fr g b ov lv KB) : One (W.setCell ⟨b, q, none⟩ u) g a n cap ord L ov lv KB :=
  ⟨h.1.other (by have := hf.1; omega), own_blk h.2.1 fun k hk => Below.heap_setCell _ _ _ _ (fun e => hf.2.1 (by rw [hk]; exact congrArg some e)), own_blk h.2.2.1 fun k hk => Below.heap_setCell _ _ _ _ (fun e => hf.2.2.1 (by rw [hk]; exact congrArg some e)), h.2.2.2.1, fun p hp => ⟨(h.2.2.2.2 p hp).1.other (hf.2.2.2 p hp), (h.2.2.2.2 p hp).2⟩⟩
theorem One.addF {b : Nat} {vs : List Value} (h : One W g a n cap ord L ov lv KB) (hf : Fr g b ov lv KB) (hb : Bx W b vs) : One W g a n cap ord L ov lv ((b, vs) :: KB) := h.add hb (by have := hf.1; omega) hf.2.1 hf.2.2.1
end
def DoPost (w0 : World) (g : Nat) (a : Option Addr) (n cap : Nat) (V : Nat → CallV) (ord : List Nat) (KB : List (Nat × List Value)) (i : Nat) (r : Ending) (w' : World) : Prop :=
  ∃ b2 b5 b6, r = .returned (.func (.func 69) #[] #[.pointer (some ⟨b2, 0, none⟩), .pointer (some ⟨b5, 0, none⟩), .pointer (some ⟨b6, 0, none⟩)]) ∧ OneS w0 w' g a n cap V (ord ++ [i]) ((b6, [.string (valO V ord (V i).f2.toList)]) :: (b5, [.int .i64 (V i).f0, .bool (V i).f1, .string (V i).f2, .string (V i).f3, .int .i64 (V i).f4, .int .i64 (V i).f5]) :: (b2, [.pointer (some ⟨g, 0, none⟩)]) :: KB)

set_option maxRecDepth 100000 in
set_option maxHeartbeats 8000000 in
theorem do_any (w0 w : World) (g : Nat) (a : Option Addr) (n cap : Nat) (V : Nat → CallV) (ord : List Nat) (KB : List (Nat × List Value)) (i : Nat) (hC : OneC w0 g a n cap V) (hi : i < n) (hol : ord.length < 7) (h : OneS w0 w g a n cap V ord KB) :
    Calls Try.prog 42 #[.pointer (some ⟨g, 0, none⟩), .int .i64 (i : Int)] w fun r w' => DoPost w0 g a n cap V ord KB i r w' := by
  obtain ⟨j0, hj0, hy0, hy1, hy2⟩ := info_parts info_int7
  obtain ⟨L, ov, lv, h1, h2, h3⟩ := h
  have h7 := hC.n7
  have hLl := h2.len
  have hky := hC.key i hi
  have hi' : (i : Int) < (n : Int) := by omega
  rcases hC.at h3 with h | ⟨b, off, rfl, hbs, hE⟩
  · omega
  obtain ⟨c0, c1, c2, c3, c4, c5⟩ := call_cells hE hi
  obtain ⟨la, lc, rfl, hlc, hrow⟩ := SRow.of (F := cellF (cV L)) (c := 2) h1.2.2.1
  have HX : Hid (One ((w.alloc (.cells #[.pointer (some ⟨g, 0, none⟩)] 86)).alloc (.cells #[.int .i64 (V i).f0, .bool (V i).f1, .string (V i).f2, .string (V i).f3, .int .i64 (V i).f4, .int .i64 (V i).f5] 28)).drew g (some ⟨b, off, none⟩) n cap ord L ov (.slice la L.length lc) ((w.heap.size + 1, [.int .i64 (V i).f0, .bool (V i).f1, .string (V i).f2, .string (V i).f3, .int .i64 (V i).f4, .int .i64 (V i).f5]) :: (w.heap.size, [.pointer (some ⟨g, 0, none⟩)]) :: KB) ∧ Below g w0 ((w.alloc (.cells #[.pointer (some ⟨g, 0, none⟩)] 86)).alloc (.cells #[.int .i64 (V i).f0, .bool (V i).f1, .string (V i).f2, .string (V i).f3, .int .i64 (V i).f4, .int .i64 (V i).f5] 28)).drew) := by
    have e1 := h1.new (Go.Joins.below_alloc1 w (.cells #[.pointer (some ⟨g, 0, none⟩)] 86)) (Bx.new w [.pointer (some ⟨g, 0, none⟩)] 86) (Nat.le_refl _)
    have e2 := e1.new (Go.Joins.below_alloc1 (w.alloc (.cells #[.pointer (some ⟨g, 0, none⟩)] 86)) (.cells #[.int .i64 (V i).f0, .bool (V i).f1, .string (V i).f2, .string (V i).f3, .int .i64 (V i).f4, .int .i64 (V i).f5] 28)) (Bx.new (w.alloc (.cells #[.pointer (some ⟨g, 0, none⟩)] 86)) [.int .i64 (V i).f0, .bool (V i).f1, .string (V i).f2, .string (V i).f3, .int .i64 (V i).f4, .int .i64 (V i).f5] 28) (Nat.le_refl _)
    rw [World.size_alloc] at e2
    have f1 := below_nxg h3 (Nat.le_of_lt h1.1.2) (Go.Joins.below_alloc1 w (.cells #[.pointer (some ⟨g, 0, none⟩)] 86))
    have f2 := below_nxg f1 (Nat.le_of_lt e1.1.2) (Go.Joins.below_alloc1 (w.alloc (.cells #[.pointer (some ⟨g, 0, none⟩)] 86)) (.cells #[.int .i64 (V i).f0, .bool (V i).f1, .string (V i).f2, .string (V i).f3, .int .i64 (V i).f4, .int .i64 (V i).f5] 28))
    exact ⟨e2.next (Below.refl _ _).drew, f2.drew⟩
  have HV : Hid (Sees V n ord L ∧ valL L (V i).f2.toList = valO V ord (V i).f2.toList) := ⟨h2, h2.2.1 _⟩
  have k0 := h1.1.cell 0 rfl
  have kz := h1.1.2
  clear h1 h2 h3 hE hrow hC
  go_enter Try.func42, Try.ntmps42
  go_upto_region 2 with fail
  clear c0 c1 c2 c3 c4 c5 k0
  go_cut [6] (fun s6 wx => ∃ b6, s6 = .pointer (some ⟨b6, 0, none⟩) ∧ One wx g (some ⟨b, off, none⟩) n cap ord L ov (.slice la L.length lc) ((b6, [.string (valO V ord (V i).f2.toList)]) :: ((w.heap.size + 1, [.int .i64 (V i).f0, .bool (V i).f1, .string (V i).f2, .string (V i).f3, .int .i64 (V i).f4, .int .i64 (V i).f5]) :: (w.heap.size, [.pointer (some ⟨g, 0, none⟩)]) :: KB)) ∧ Below g w0 wx)
  case first =>
    refine wp_region_noPanic ?_
    refine wp_region_held_drew (S := fun W => One W g (some ⟨b, off, none⟩) n cap ord L ov (.slice la L.length lc) ((w.heap.size + 1, [.int .i64 (V i).f0, .bool (V i).f1, .string (V i).f2, .string (V i).f3, .int .i64 (V i).f4, .int .i64 (V i).f5]) :: (w.heap.size, [.pointer (some ⟨g, 0, none⟩)]) :: KB) ∧ Below g w0 W) (by kernel_rfl) HX.out (fun hHeld => ?_)
    refine take_v (v := ?_) 0 ⟨some 14, Op.load 86 (Operand.tmp 2), _, _, _, none⟩ rfl (fun _ _ _ h => h) ?_ hHeld ?_
    rotate_left
    · (intro W hSW; (have s0 := (hSW.1.boxAt (List.mem_cons_of_mem _ List.mem_cons_self)).cell 0 rfl; have sz0 := (hSW.1.boxAt (List.mem_cons_of_mem _ List.mem_cons_self)).2; have s1 := (hSW.1.boxAt List.mem_cons_self).cell 2 rfl; have sz1 := (hSW.1.boxAt List.mem_cons_self).2; have s2 := hSW.1.1.cell 2 rfl; have sz2 := hSW.1.1.2); go_simp <;> (try with_reducible rfl))
    refine take_v (v := ?_) 1 ⟨some 15, Op.nilCheck (Operand.tmp 14), _, _, _, none⟩ rfl (fun _ _ _ h => h) ?_ hHeld ?_
    rotate_left
    · (intro W _; go_simp <;> (try with_reducible rfl))
    refine take_v (v := ?_) 2 ⟨some 16, Op.fieldAddr 58 (Operand.tmp 15) 2, _, _, _, none⟩ rfl (fun _ _ _ h => h) ?_ hHeld ?_
    rotate_left
    · (intro W _; go_simp <;> (try with_reducible rfl))
    refine take_v (v := ?_) 3 ⟨some 17, Op.load 56 (Operand.tmp 16), _, _, _, none⟩ rfl (fun _ _ _ h => h) ?_ hHeld ?_
    rotate_left
    · (intro W hSW; (have s0 := (hSW.1.boxAt (List.mem_cons_of_mem _ List.mem_cons_self)).cell 0 rfl; have sz0 := (hSW.1.boxAt (List.mem_cons_of_mem _ List.mem_cons_self)).2; have s1 := (hSW.1.boxAt List.mem_cons_self).cell 2 rfl; have sz1 := (hSW.1.boxAt List.mem_cons_self).2; have s2 := hSW.1.1.cell 2 rfl; have sz2 := hSW.1.1.2); go_simp <;> (try with_reducible rfl))
    refine take_v (v := ?_) 4 ⟨some 18, Op.fieldAddr 28 (Operand.tmp 5) 2, _, _, _, none⟩ rfl (fun _ _ _ h => h) ?_ hHeld ?_
    rotate_left
    · (intro W _; go_simp <;> (try with_reducible rfl))
    refine take_v (v := ?_) 5 ⟨some 19, Op.load 9 (Operand.tmp 18), _, _, _, none⟩ rfl (fun _ _ _ h => h) ?_ hHeld ?_
    rotate_left
    · (intro W hSW; (have s0 := (hSW.1.boxAt (List.mem_cons_of_mem _ List.mem_cons_self)).cell 0 rfl; have sz0 := (hSW.1.boxAt (List.mem_cons_of_mem _ List.mem_cons_self)).2; have s1 := (hSW.1.boxAt List.mem_cons_self).cell 2 rfl; have sz1 := (hSW.1.boxAt List.mem_cons_self).2; have s2 := hSW.1.1.cell 2 rfl; have sz2 := hSW.1.1.2); go_simp <;> (try with_reducible rfl))
    refine ready_two 6 7 ⟨some 20, Op.call { callee := Callee.value (Operand.func 67), args := #[Operand.tmp 17, Operand.tmp 19], argTypes := #[56, 9] }, _, _, _, none⟩ ⟨some 6, Op.alloc 9, _, _, _, none⟩ (by kernel_rfl) rfl rfl (by kernel_rfl) (by kernel_rfl) (fun KC hK => ?_) (fun KC hK => ?_)
    ·
      go_wp2_with fail
      refine (valueIn_any _ _ L (V i).f2 _ (by omega) HV.out.1.1 hHeld.1.slC).mono ?_
      rintro r w2 ⟨rfl, hb⟩
      rw [HV.out.2]
      have h6 := (⟨hHeld.1.next hb, below_nxg hHeld.2 (Nat.le_of_lt hHeld.1.1.2) hb⟩ : _ ∧ _)
      first | (have HG := (show Hid (Bx _ _ [.string ⟨#[]⟩] ∧ _) from ⟨HG.out.1.next hb, HG.out.2⟩)) | skip
      clear hb
      refine hK.out _ _ h6 (fun hHeld => ?_)
      clear hK KC
      refine ready_call 7 ⟨some 6, Op.alloc 9, _, _, _, none⟩ (by kernel_rfl) rfl (by kernel_rfl) (fun KC hK => ?_)
      go_wp2_with fail
      have HG := (show Hid (Bx _ _ [.string ⟨#[]⟩] ∧ _) from ⟨Bx.newOf hHeld.1.1 [.string ⟨#[]⟩] 9, hHeld.1.fresh⟩)
      have h7 := (⟨hHeld.1.next (Go.Joins.below_alloc1 _ (.cells #[.string ⟨#[]⟩] 9)), below_nxg hHeld.2 (Nat.le_of_lt hHeld.1.1.2) (Go.Joins.below_alloc1 _ (.cells #[.string ⟨#[]⟩] 9))⟩ : _ ∧ _)
      obtain ⟨wa, hwa⟩ := Bx.name HG.out.1
      first | rw [← hwa] at HG h7 ⊢ | (rw [alloc_drew] at hwa HG h7; rw [size_drew] at HG; rw [← hwa] at HG h7 ⊢)
      (try simp only [World.size_alloc] at HG)
      clear hwa
      refine hK.out _ _ h7 (fun hHeld => ?_)
      clear hK KC
      refine ready_call 8 ⟨none, Op.store 9 (Operand.tmp 6) (Operand.tmp 20), _, _, _, none⟩ (by kernel_rfl) rfl (by kernel_rfl) (fun KC hK => ?_)
      have d0 := HG.out.1.cell 0 rfl
      have d1 := HG.out.1.frz 0 (by simp)
      have dz := HG.out.1.2
      go_wp2_with fail
      have HO := (show Hid (Bx _ _ [.string (valO V ord (V i).f2.toList)] ∧ _) from ⟨HG.out.1.set (k := 0) (by simp) (.string (valO V ord (V i).f2.toList)), HG.out.2⟩)
      have h8 := (⟨hHeld.1.set' (q := 0) (u := .string (valO V ord (V i).f2.toList)) HG.out.2, hHeld.2.setCell (p := ⟨_, 0, none⟩) (Nat.le_of_lt HG.out.2.1) (.string (valO V ord (V i).f2.toList))⟩ : _ ∧ _)
      clear d0 d1 dz HG
      refine hK.out _ _ h8 (fun hHeld => ?_)
      clear hK KC
      refine wpAnyH_done (by kernel_rfl) ?_ _
      refine NoPanic.normal ?_
      go_wp2_with fail
      go_meet
      exact ⟨_, rfl, h8.1.addF HO.out.2 HO.out.1, h8.2⟩
    ·
      go_wp2_with fail
      have HG := (show Hid (Bx _ _ [.string ⟨#[]⟩] ∧ _) from ⟨Bx.newOf hHeld.1.1 [.string ⟨#[]⟩] 9, hHeld.1.fresh⟩)
      have h7 := (⟨hHeld.1.next (Go.Joins.below_alloc1 _ (.cells #[.string ⟨#[]⟩] 9)), below_nxg hHeld.2 (Nat.le_of_lt hHeld.1.1.2) (Go.Joins.below_alloc1 _ (.cells #[.string ⟨#[]⟩] 9))⟩ : _ ∧ _)
      obtain ⟨wa, hwa⟩ := Bx.name HG.out.1
      first | rw [← hwa] at HG h7 ⊢ | (rw [alloc_drew] at hwa HG h7; rw [size_drew] at HG; rw [← hwa] at HG h7 ⊢)
      (try simp only [World.size_alloc] at HG)
      clear hwa
      refine hK.out _ _ h7 (fun hHeld => ?_)
      clear hK KC
      refine ready_call 6 ⟨some 20, Op.call { callee := Callee.value (Operand.func 67), args := #[Operand.tmp 17, Operand.tmp 19], argTypes := #[56, 9] }, _, _, _, none⟩ (by kernel_rfl) rfl (by kernel_rfl) (fun KC hK => ?_)
      go_wp2_with fail
      refine (valueIn_any _ _ L (V i).f2 _ (by omega) HV.out.1.1 hHeld.1.slC).mono ?_
      rintro r w2 ⟨rfl, hb⟩
      rw [HV.out.2]
      have h6 := (⟨hHeld.1.next hb, below_nxg hHeld.2 (Nat.le_of_lt hHeld.1.1.2) hb⟩ : _ ∧ _)
      first | (have HG := (show Hid (Bx _ _ [.string ⟨#[]⟩] ∧ _) from ⟨HG.out.1.next hb, HG.out.2⟩)) | skip
      clear hb
      refine hK.out _ _ h6 (fun hHeld => ?_)
      clear hK KC
      refine ready_call 8 ⟨none, Op.store 9 (Operand.tmp 6) (Operand.tmp 20), _, _, _, none⟩ (by kernel_rfl) rfl (by kernel_rfl) (fun KC hK => ?_)
      have d0 := HG.out.1.cell 0 rfl
      have d1 := HG.out.1.frz 0 (by simp)
      have dz := HG.out.1.2
      go_wp2_with fail
      have HO := (show Hid (Bx _ _ [.string (valO V ord (V i).f2.toList)] ∧ _) from ⟨HG.out.1.set (k := 0) (by simp) (.string (valO V ord (V i).f2.toList)), HG.out.2⟩)
      have h8 := (⟨hHeld.1.set' (q := 0) (u := .string (valO V ord (V i).f2.toList)) HG.out.2, hHeld.2.setCell (p := ⟨_, 0, none⟩) (Nat.le_of_lt HG.out.2.1) (.string (valO V ord (V i).f2.toList))⟩ : _ ∧ _)
      clear d0 d1 dz HG
      refine hK.out _ _ h8 (fun hHeld => ?_)
      clear hK KC
      refine wpAnyH_done (by kernel_rfl) ?_ _
      refine NoPanic.normal ?_
      go_wp2_with fail
      go_meet
      exact ⟨_, rfl, h8.1.addF HO.out.2 HO.out.1, h8.2⟩
  case rest =>
    obtain ⟨b6, rfl, hO, hB⟩ := hcut
    have HQ : Hid (One wc g (some ⟨b, off, none⟩) n cap ord L ov (.slice la L.length lc) ((b6, [.string (valO V ord (V i).f2.toList)]) :: ((w.heap.size + 1, [.int .i64 (V i).f0, .bool (V i).f1, .string (V i).f2, .string (V i).f3, .int .i64 (V i).f4, .int .i64 (V i).f5]) :: (w.heap.size, [.pointer (some ⟨g, 0, none⟩)]) :: KB)) ∧ Below g w0 wc) := ⟨hO, hB⟩
    clear hO hB HX
    have t1 := (HQ.out.1.boxAt (List.mem_cons_of_mem _ List.mem_cons_self)).cell 1 rfl
    have tz := (HQ.out.1.boxAt (List.mem_cons_of_mem _ List.mem_cons_self)).2
    cases hw : (V i).f1
    · rw [hw] at t1
      have HQ := (show Hid (_ ∧ _ ∧ _) from ⟨HQ.out.1, HQ.out.2, HV.out.1.read hw⟩)
      clear HV
      go_upto_region 5 with fail
      have HQ := (show Hid (_ ∧ _ ∧ _) from ⟨HQ.out.1.next (Below.refl _ _).drew, HQ.out.2.1.drew, HQ.out.2.2⟩)
      refine wp_region_noPanic ?_
      refine wp_region_held_drew (S := fun W => Bx W w.heap.size [.pointer (some ⟨g, 0, none⟩)]) (by kernel_rfl) (HQ.out.1.boxAt (List.mem_cons_of_mem _ (List.mem_cons_of_mem _ List.mem_cons_self))) (fun hHeld => ?_)
      refine take_v (v := ?_) 0 ⟨some 35, Op.load 86 (Operand.tmp 2), _, _, _, none⟩ rfl (fun _ _ _ h => h) ?_ hHeld ?_
      rotate_left
      · (intro W hSW; (have s0 := hSW.cell 0 rfl; have sz := hSW.2); go_simp <;> (try with_reducible rfl))
      refine take_v (v := ?_) 1 ⟨some 36, Op.load 86 (Operand.tmp 2), _, _, _, none⟩ rfl (fun _ _ _ h => h) ?_ hHeld ?_
      rotate_left
      · (intro W hSW; (have s0 := hSW.cell 0 rfl; have sz := hSW.2); go_simp <;> (try with_reducible rfl))
      refine take_v (v := ?_) 2 ⟨some 37, Op.nilCheck (Operand.tmp 36), _, _, _, none⟩ rfl (fun _ _ _ h => h) ?_ hHeld ?_
      rotate_left
      · (intro W _; go_simp <;> (try with_reducible rfl))
      refine take_v (v := ?_) 3 ⟨some 38, Op.fieldAddr 58 (Operand.tmp 37) 1, _, _, _, none⟩ rfl (fun _ _ _ h => h) ?_ hHeld ?_
      rotate_left
      · (intro W _; go_simp <;> (try with_reducible rfl))
      refine take_v (v := ?_) 5 ⟨some 40, Op.move (Operand.tmp 1), _, _, _, none⟩ rfl (fun _ _ _ h => h) ?_ hHeld ?_
      rotate_left
      · (intro W _; go_simp <;> (try with_reducible rfl))
      refine ready_two 4 6 ⟨some 39, Op.load 32 (Operand.tmp 38), _, _, _, none⟩ ⟨some 41, Op.buildSlice 32 1 #[(0, Operand.tmp 40)], _, _, _, none⟩ (by kernel_rfl) rfl rfl (by kernel_rfl) (by kernel_rfl) (fun KC hK => ?_) (fun KC hK => ?_)
      ·
        have k1 := HQ.out.1.1.cell 1 rfl
        have kz := HQ.out.1.1.2
        go_wp2_with fail
        clear k1 kz
        refine hK.out _ _ hHeld (fun hHeld => ?_)
        clear hK KC
        refine ready_call 6 ⟨some 41, Op.buildSlice 32 1 #[(0, Operand.tmp 40)], _, _, _, none⟩ (by kernel_rfl) rfl (by kernel_rfl) (fun KC hK => ?_)
        go_wp2_with fail
        have HG := (show Hid (Bx _ _ [.int .i64 (i : Int)]) from Bx.newOf HQ.out.1.1 [.int .i64 (i : Int)] 3)
        have HQ := (show Hid (_ ∧ _ ∧ _) from ⟨HQ.out.1.next (Go.Joins.below_alloc1 _ (.cells #[.int .i64 (i : Int)] 3)), below_nxg HQ.out.2.1 (Nat.le_of_lt HQ.out.1.1.2) (Go.Joins.below_alloc1 _ (.cells #[.int .i64 (i : Int)] 3)), HQ.out.2.2⟩)
        have h6 := hHeld.alloc (.cells #[.int .i64 (i : Int)] 3)
        obtain ⟨wa, hwa⟩ := Bx.name HG.out
        first | rw [← hwa] at HG HQ h6 ⊢ | (rw [alloc_drew] at hwa HG HQ h6; rw [size_drew] at HG; rw [← hwa] at HG HQ h6 ⊢)
        clear hwa
        refine hK.out _ _ h6 (fun hHeld => ?_)
        clear hK KC
        refine ready_call 7 ⟨some 42, Op.call { callee := Callee.builtin Builtin.append, args := #[Operand.tmp 39, Operand.tmp 41], argTypes := #[32, 32] }, _, _, _, none⟩ (by kernel_rfl) rfl (by kernel_rfl) (fun KC hK => ?_)
        refine wp_append_any _ (.tmp 39) (.tmp 41) 32 (by rfl) (g + 1) 3 j0 (.int .i64 0) 1 8 Try.underlying32 hj0 hy0 hy1 hy2 rfl (by decide) ov ord.length (ordC ord) (by rfl) HQ.out.1.2.1 ⟨_, 0, none⟩ 1 1 [.int .i64 (i : Int)] (by rfl) (by simp) (Bx.news1 HG.out) (by intro u hu; simp at hu; subst hu; rfl) (by unfold maxLen; omega) (by omega) (Nat.succ_le_of_lt HQ.out.1.1.2) ?_
        intro v7 w7 hown7 hgr7 hwh7
        obtain ⟨g7, cap7, rfl⟩ := Go.Joins.ownsRow_form hown7 (by omega)
        have hg7 := HQ.out.1.1.blk (hgr7.block g HQ.out.1.1.2 (HQ.out.1.gO)) hgr7.size
        have h7 := HQ.out.1.boxO hgr7 (List.mem_cons_of_mem _ (List.mem_cons_of_mem _ List.mem_cons_self))
        refine hK.out _ _ h7 (fun hHeld => ?_)
        clear hK KC
        refine take_v (v := ?_) 8 ⟨some 43, Op.nilCheck (Operand.tmp 35), _, _, _, none⟩ rfl (fun _ _ _ h => h) ?_ hHeld ?_
        rotate_left
        · (intro W _; go_simp <;> (try with_reducible rfl))
        refine take_v (v := ?_) 9 ⟨some 44, Op.fieldAddr 58 (Operand.tmp 43) 1, _, _, _, none⟩ rfl (fun _ _ _ h => h) ?_ hHeld ?_
        rotate_left
        · (intro W _; go_simp <;> (try with_reducible rfl))
        refine ready_call 10 ⟨none, Op.store 32 (Operand.tmp 44) (Operand.tmp 42), _, _, _, none⟩ (by kernel_rfl) rfl (by kernel_rfl) (fun KC hK => ?_)
        have k1 := hg7.cell 1 rfl
        have k2 := hg7.frz 1 (by simp)
        have kz := hg7.2
        go_wp2_with fail
        have HZ := (show Hid (One (w7.setCell ⟨g, 1, none⟩ (.slice (some ⟨g7, 0, none⟩) (ord.length + 1) cap7)) g (some ⟨b, off, none⟩) n cap (ord ++ [i]) L (.slice (some ⟨g7, 0, none⟩) (ord.length + 1) cap7) (.slice la L.length lc) ((b6, [.string (valO V ord (V i).f2.toList)]) :: ((w.heap.size + 1, [.int .i64 (V i).f0, .bool (V i).f1, .string (V i).f2, .string (V i).f3, .int .i64 (V i).f4, .int .i64 (V i).f5]) :: (w.heap.size, [.pointer (some ⟨g, 0, none⟩)]) :: KB)) ∧ Below g w0 (w7.setCell ⟨g, 1, none⟩ (.slice (some ⟨g7, 0, none⟩) (ord.length + 1) cap7)) ∧ Sees V n (ord ++ [i]) L) from ⟨HQ.out.1.putO hgr7 (by rw [ordC_snoc, List.length_append]; exact hown7) (by rcases hwh7 with h | h; exact Or.inl h; exact Or.inr ⟨_, h, Nat.le_refl _⟩), HQ.out.1.belowO HQ.out.2.1 hgr7 _ _, HQ.out.2.2⟩)
        clear k1 k2 kz hg7 hown7 hgr7 hwh7 HQ HG
        refine hK.out _ _ (HZ.out.1.boxAt (List.mem_cons_of_mem _ (List.mem_cons_of_mem _ List.mem_cons_self))) (fun hHeld => ?_)
        clear hK KC
        refine wpAnyH_done (by kernel_rfl) ?_ _
        refine NoPanic.normal ?_
        go_wp2
        go_ret
        exact ⟨w.heap.size, w.heap.size + 1, b6, rfl, _, _, _, HZ.out.1, HZ.out.2.2, HZ.out.2.1⟩
      ·
        go_wp2_with fail
        have HG := (show Hid (Bx _ _ [.int .i64 (i : Int)]) from Bx.newOf HQ.out.1.1 [.int .i64 (i : Int)] 3)
        have HQ := (show Hid (_ ∧ _ ∧ _) from ⟨HQ.out.1.next (Go.Joins.below_alloc1 _ (.cells #[.int .i64 (i : Int)] 3)), below_nxg HQ.out.2.1 (Nat.le_of_lt HQ.out.1.1.2) (Go.Joins.below_alloc1 _ (.cells #[.int .i64 (i : Int)] 3)), HQ.out.2.2⟩)
        have h6 := hHeld.alloc (.cells #[.int .i64 (i : Int)] 3)
        obtain ⟨wa, hwa⟩ := Bx.name HG.out
        first | rw [← hwa] at HG HQ h6 ⊢ | (rw [alloc_drew] at hwa HG HQ h6; rw [size_drew] at HG; rw [← hwa] at HG HQ h6 ⊢)
        clear hwa
        refine hK.out _ _ h6 (fun hHeld => ?_)
        clear hK KC
        refine ready_call 4 ⟨some 39, Op.load 32 (Operand.tmp 38), _, _, _, none⟩ (by kernel_rfl) rfl (by kernel_rfl) (fun KC hK => ?_)
        have k1 := HQ.out.1.1.cell 1 rfl
        have kz := HQ.out.1.1.2
        go_wp2_with fail
        clear k1 kz
        refine hK.out _ _ hHeld (fun hHeld => ?_)
        clear hK KC
        refine ready_call 7 ⟨some 42, Op.call { callee := Callee.builtin Builtin.append, args := #[Operand.tmp 39, Operand.tmp 41], argTypes := #[32, 32] }, _, _, _, none⟩ (by kernel_rfl) rfl (by kernel_rfl) (fun KC hK => ?_)
        refine wp_append_any _ (.tmp 39) (.tmp 41) 32 (by rfl) (g + 1) 3 j0 (.int .i64 0) 1 8 Try.underlying32 hj0 hy0 hy1 hy2 rfl (by decide) ov ord.length (ordC ord) (by rfl) HQ.out.1.2.1 ⟨_, 0, none⟩ 1 1 [.int .i64 (i : Int)] (by rfl) (by simp) (Bx.news1 HG.out) (by intro u hu; simp at hu; subst hu; rfl) (by unfold maxLen; omega) (by omega) (Nat.succ_le_of_lt HQ.out.1.1.2) ?_
        intro v7 w7 hown7 hgr7 hwh7
        obtain ⟨g7, cap7, rfl⟩ := Go.Joins.ownsRow_form hown7 (by omega)
        have hg7 := HQ.out.1.1.blk (hgr7.block g HQ.out.1.1.2 (HQ.out.1.gO)) hgr7.size
        have h7 := HQ.out.1.boxO hgr7 (List.mem_cons_of_mem _ (List.mem_cons_of_mem _ List.mem_cons_self))
        refine hK.out _ _ h7 (fun hHeld => ?_)
        clear hK KC
        refine take_v (v := ?_) 8 ⟨some 43, Op.nilCheck (Operand.tmp 35), _, _, _, none⟩ rfl (fun _ _ _ h => h) ?_ hHeld ?_
        rotate_left
        · (intro W _; go_simp <;> (try with_reducible rfl))
        refine take_v (v := ?_) 9 ⟨some 44, Op.fieldAddr 58 (Operand.tmp 43) 1, _, _, _, none⟩ rfl (fun _ _ _ h => h) ?_ hHeld ?_
        rotate_left
        · (intro W _; go_simp <;> (try with_reducible rfl))
        refine ready_call 10 ⟨none, Op.store 32 (Operand.tmp 44) (Operand.tmp 42), _, _, _, none⟩ (by kernel_rfl) rfl (by kernel_rfl) (fun KC hK => ?_)
        have k1 := hg7.cell 1 rfl
        have k2 := hg7.frz 1 (by simp)
        have kz := hg7.2
        go_wp2_with fail
        have HZ := (show Hid (One (w7.setCell ⟨g, 1, none⟩ (.slice (some ⟨g7, 0, none⟩) (ord.length + 1) cap7)) g (some ⟨b, off, none⟩) n cap (ord ++ [i]) L (.slice (some ⟨g7, 0, none⟩) (ord.length + 1) cap7) (.slice la L.length lc) ((b6, [.string (valO V ord (V i).f2.toList)]) :: ((w.heap.size + 1, [.int .i64 (V i).f0, .bool (V i).f1, .string (V i).f2, .string (V i).f3, .int .i64 (V i).f4, .int .i64 (V i).f5]) :: (w.heap.size, [.pointer (some ⟨g, 0, none⟩)]) :: KB)) ∧ Below g w0 (w7.setCell ⟨g, 1, none⟩ (.slice (some ⟨g7, 0, none⟩) (ord.length + 1) cap7)) ∧ Sees V n (ord ++ [i]) L) from ⟨HQ.out.1.putO hgr7 (by rw [ordC_snoc, List.length_append]; exact hown7) (by rcases hwh7 with h | h; exact Or.inl h; exact Or.inr ⟨_, h, Nat.le_refl _⟩), HQ.out.1.belowO HQ.out.2.1 hgr7 _ _, HQ.out.2.2⟩)
        clear k1 k2 kz hg7 hown7 hgr7 hwh7 HQ HG
        refine hK.out _ _ (HZ.out.1.boxAt (List.mem_cons_of_mem _ (List.mem_cons_of_mem _ List.mem_cons_self))) (fun hHeld => ?_)
        clear hK KC
        refine wpAnyH_done (by kernel_rfl) ?_ _
        refine NoPanic.normal ?_
        go_wp2
        go_ret
        exact ⟨w.heap.size, w.heap.size + 1, b6, rfl, _, _, _, HZ.out.1, HZ.out.2.2, HZ.out.2.1⟩
    · rw [hw] at t1
      go_upto_region 4 with fail
      go_cut [32] (fun _ wy => ∃ lv' L', One wy g (some ⟨b, off, none⟩) n cap ord L' ov lv' ((b6, [.string (valO V ord (V i).f2.toList)]) :: ((w.heap.size + 1, [.int .i64 (V i).f0, .bool (V i).f1, .string (V i).f2, .string (V i).f3, .int .i64 (V i).f4, .int .i64 (V i).f5]) :: (w.heap.size, [.pointer (some ⟨g, 0, none⟩)]) :: KB)) ∧ Below g w0 wy ∧ Sees V n (ord ++ [i]) L')
      case first =>
        have HQ := (show Hid (_ ∧ _) from ⟨HQ.out.1.next (Below.refl _ _).drew, HQ.out.2.drew⟩)
        refine wp_region_noPanic ?_
        refine wp_region_held_drew (S := fun W => Bx W w.heap.size [.pointer (some ⟨g, 0, none⟩)] ∧ Bx W (w.heap.size + 1) [.int .i64 (V i).f0, .bool (V i).f1, .string (V i).f2, .string (V i).f3, .int .i64 (V i).f4, .int .i64 (V i).f5]) (by kernel_rfl) ⟨HQ.out.1.boxAt (List.mem_cons_of_mem _ (List.mem_cons_of_mem _ List.mem_cons_self)), HQ.out.1.boxAt (List.mem_cons_of_mem _ List.mem_cons_self)⟩ (fun hHeld => ?_)
        refine take_v (v := ?_) 0 ⟨some 23, Op.load 86 (Operand.tmp 2), _, _, _, none⟩ rfl (fun _ _ _ h => h) ?_ hHeld ?_
        rotate_left
        · (intro W hSW; (have s0 := hSW.1.cell 0 rfl; have sz0 := hSW.1.2; have s1 := hSW.2.cell 2 rfl; have s2 := hSW.2.cell 3 rfl; have sz1 := hSW.2.2); go_simp <;> (try with_reducible rfl))
        refine take_v (v := ?_) 1 ⟨some 24, Op.load 86 (Operand.tmp 2), _, _, _, none⟩ rfl (fun _ _ _ h => h) ?_ hHeld ?_
        rotate_left
        · (intro W hSW; (have s0 := hSW.1.cell 0 rfl; have sz0 := hSW.1.2; have s1 := hSW.2.cell 2 rfl; have s2 := hSW.2.cell 3 rfl; have sz1 := hSW.2.2); go_simp <;> (try with_reducible rfl))
        refine take_v (v := ?_) 2 ⟨some 25, Op.nilCheck (Operand.tmp 24), _, _, _, none⟩ rfl (fun _ _ _ h => h) ?_ hHeld ?_
        rotate_left
        · (intro W _; go_simp <;> (try with_reducible rfl))
        refine take_v (v := ?_) 3 ⟨some 26, Op.fieldAddr 58 (Operand.tmp 25) 2, _, _, _, none⟩ rfl (fun _ _ _ h => h) ?_ hHeld ?_
        rotate_left
        · (intro W _; go_simp <;> (try with_reducible rfl))
        refine take_v (v := ?_) 5 ⟨some 28, Op.fieldAddr 28 (Operand.tmp 5) 2, _, _, _, none⟩ rfl (fun _ _ _ h => h) ?_ hHeld ?_
        rotate_left
        · (intro W _; go_simp <;> (try with_reducible rfl))
        refine take_v (v := ?_) 6 ⟨some 29, Op.load 9 (Operand.tmp 28), _, _, _, none⟩ rfl (fun _ _ _ h => h) ?_ hHeld ?_
        rotate_left
        · (intro W hSW; (have s0 := hSW.1.cell 0 rfl; have sz0 := hSW.1.2; have s1 := hSW.2.cell 2 rfl; have s2 := hSW.2.cell 3 rfl; have sz1 := hSW.2.2); go_simp <;> (try with_reducible rfl))
        refine take_v (v := ?_) 7 ⟨some 30, Op.fieldAddr 28 (Operand.tmp 5) 3, _, _, _, none⟩ rfl (fun _ _ _ h => h) ?_ hHeld ?_
        rotate_left
        · (intro W _; go_simp <;> (try with_reducible rfl))
        refine take_v (v := ?_) 8 ⟨some 31, Op.load 9 (Operand.tmp 30), _, _, _, none⟩ rfl (fun _ _ _ h => h) ?_ hHeld ?_
        rotate_left
        · (intro W hSW; (have s0 := hSW.1.cell 0 rfl; have sz0 := hSW.1.2; have s1 := hSW.2.cell 2 rfl; have s2 := hSW.2.cell 3 rfl; have sz1 := hSW.2.2); go_simp <;> (try with_reducible rfl))
        refine ready_call 4 ⟨some 27, Op.load 56 (Operand.tmp 26), _, _, _, none⟩ (by kernel_rfl) rfl (by kernel_rfl) (fun KC hK => ?_)
        have k1 := HQ.out.1.1.cell 2 rfl
        have kz := HQ.out.1.1.2
        go_wp2_with fail
        clear k1 kz
        refine hK.out _ _ hHeld (fun hHeld => ?_)
        clear hK KC
        refine ready_call 9 ⟨some 32, Op.call { callee := Callee.value (Operand.func 68), args := #[Operand.tmp 27, Operand.tmp 29, Operand.tmp 31], argTypes := #[56, 9, 9] }, _, _, _, none⟩ (by kernel_rfl) rfl (by kernel_rfl) (fun KC hK => ?_)
        go_wp2_with fail
        refine (putValue_grw (g + 1) _ L ⟨(V i).f2, (V i).f3⟩ _ (by omega) hky HV.out.1.1 (Nat.succ_le_of_lt HQ.out.1.1.2) HQ.out.1.2.2.1).mono ?_
        rintro r w5 ⟨v5, rfl, ho5, hgr5, hwh5⟩
        obtain ⟨a5, c5, rfl, _, _⟩ := SRow.of (F := cellF (cV (putL L ⟨(V i).f2, (V i).f3⟩))) (c := 2) ho5
        have hg5 := HQ.out.1.1.blk (hgr5.block g HQ.out.1.1.2 (HQ.out.1.gC)) hgr5.size
        have h9 := (⟨HQ.out.1.boxC hgr5 (List.mem_cons_of_mem _ (List.mem_cons_of_mem _ List.mem_cons_self)), HQ.out.1.boxC hgr5 (List.mem_cons_of_mem _ List.mem_cons_self)⟩ : _ ∧ _)
        refine hK.out _ _ h9 (fun hHeld => ?_)
        clear hK KC
        refine take_v (v := ?_) 10 ⟨some 33, Op.nilCheck (Operand.tmp 23), _, _, _, none⟩ rfl (fun _ _ _ h => h) ?_ hHeld ?_
        rotate_left
        · (intro W _; go_simp <;> (try with_reducible rfl))
        refine take_v (v := ?_) 11 ⟨some 34, Op.fieldAddr 58 (Operand.tmp 33) 2, _, _, _, none⟩ rfl (fun _ _ _ h => h) ?_ hHeld ?_
        rotate_left
        · (intro W _; go_simp <;> (try with_reducible rfl))
        refine ready_call 12 ⟨none, Op.store 56 (Operand.tmp 34) (Operand.tmp 32), _, _, _, none⟩ (by kernel_rfl) rfl (by kernel_rfl) (fun KC hK => ?_)
        have k1 := hg5.cell 2 rfl
        have k2 := hg5.frz 2 (by simp)
        have kz := hg5.2
        go_wp2_with fail
        have HZ := (show Hid (One (w5.setCell ⟨g, 2, none⟩ (.slice a5 (putL L ⟨(V i).f2, (V i).f3⟩).length c5)) g (some ⟨b, off, none⟩) n cap ord (putL L ⟨(V i).f2, (V i).f3⟩) ov (.slice a5 (putL L ⟨(V i).f2, (V i).f3⟩).length c5) ((b6, [.string (valO V ord (V i).f2.toList)]) :: ((w.heap.size + 1, [.int .i64 (V i).f0, .bool (V i).f1, .string (V i).f2, .string (V i).f3, .int .i64 (V i).f4, .int .i64 (V i).f5]) :: (w.heap.size, [.pointer (some ⟨g, 0, none⟩)]) :: KB)) ∧ Below g w0 (w5.setCell ⟨g, 2, none⟩ (.slice a5 (putL L ⟨(V i).f2, (V i).f3⟩).length c5)) ∧ Sees V n (ord ++ [i]) (putL L ⟨(V i).f2, (V i).f3⟩)) from ⟨HQ.out.1.putC hgr5 ho5 hwh5, HQ.out.1.belowC HQ.out.2 hgr5 _ _, HV.out.1.write hi hw⟩)
        clear k1 k2 kz hg5 ho5 hgr5 hwh5
        refine hK.out _ _ ⟨HZ.out.1.boxAt (List.mem_cons_of_mem _ (List.mem_cons_of_mem _ List.mem_cons_self)), HZ.out.1.boxAt (List.mem_cons_of_mem _ List.mem_cons_self)⟩ (fun hHeld => ?_)
        clear hK KC
        refine wpAnyH_done (by kernel_rfl) ?_ _
        refine NoPanic.normal ?_
        go_wp2_with fail
        go_meet
        exact ⟨_, _, HZ.out⟩
      case rest =>
        obtain ⟨lv', L', hO, hB, hV⟩ := hcut
        have HQ := (show Hid (_ ∧ _ ∧ _) from ⟨hO, hB, hV⟩)
        clear hO hB hV
        go_upto_region 5 with fail
        have HQ := (show Hid (_ ∧ _ ∧ _) from ⟨HQ.out.1.next (Below.refl _ _).drew, HQ.out.2.1.drew, HQ.out.2.2⟩)
        refine wp_region_noPanic ?_
        refine wp_region_held_drew (S := fun W => Bx W w.heap.size [.pointer (some ⟨g, 0, none⟩)]) (by kernel_rfl) (HQ.out.1.boxAt (List.mem_cons_of_mem _ (List.mem_cons_of_mem _ List.mem_cons_self))) (fun hHeld => ?_)
        refine take_v (v := ?_) 0 ⟨some 35, Op.load 86 (Operand.tmp 2), _, _, _, none⟩ rfl (fun _ _ _ h => h) ?_ hHeld ?_
        rotate_left
        · (intro W hSW; (have s0 := hSW.cell 0 rfl; have sz := hSW.2); go_simp <;> (try with_reducible rfl))
        refine take_v (v := ?_) 1 ⟨some 36, Op.load 86 (Operand.tmp 2), _, _, _, none⟩ rfl (fun _ _ _ h => h) ?_ hHeld ?_
        rotate_left
        · (intro W hSW; (have s0 := hSW.cell 0 rfl; have sz := hSW.2); go_simp <;> (try with_reducible rfl))
        refine take_v (v := ?_) 2 ⟨some 37, Op.nilCheck (Operand.tmp 36), _, _, _, none⟩ rfl (fun _ _ _ h => h) ?_ hHeld ?_
        rotate_left
        · (intro W _; go_simp <;> (try with_reducible rfl))
        refine take_v (v := ?_) 3 ⟨some 38, Op.fieldAddr 58 (Operand.tmp 37) 1, _, _, _, none⟩ rfl (fun _ _ _ h => h) ?_ hHeld ?_
        rotate_left
        · (intro W _; go_simp <;> (try with_reducible rfl))
        refine take_v (v := ?_) 5 ⟨some 40, Op.move (Operand.tmp 1), _, _, _, none⟩ rfl (fun _ _ _ h => h) ?_ hHeld ?_
        rotate_left
        · (intro W _; go_simp <;> (try with_reducible rfl))
        refine ready_two 4 6 ⟨some 39, Op.load 32 (Operand.tmp 38), _, _, _, none⟩ ⟨some 41, Op.buildSlice 32 1 #[(0, Operand.tmp 40)], _, _, _, none⟩ (by kernel_rfl) rfl rfl (by kernel_rfl) (by kernel_rfl) (fun KC hK => ?_) (fun KC hK => ?_)
        ·
          have k1 := HQ.out.1.1.cell 1 rfl
          have kz := HQ.out.1.1.2
          go_wp2_with fail
          clear k1 kz
          refine hK.out _ _ hHeld (fun hHeld => ?_)
          clear hK KC
          refine ready_call 6 ⟨some 41, Op.buildSlice 32 1 #[(0, Operand.tmp 40)], _, _, _, none⟩ (by kernel_rfl) rfl (by kernel_rfl) (fun KC hK => ?_)
          go_wp2_with fail
          have HG := (show Hid (Bx _ _ [.int .i64 (i : Int)]) from Bx.newOf HQ.out.1.1 [.int .i64 (i : Int)] 3)
          have HQ := (show Hid (_ ∧ _ ∧ _) from ⟨HQ.out.1.next (Go.Joins.below_alloc1 _ (.cells #[.int .i64 (i : Int)] 3)), below_nxg HQ.out.2.1 (Nat.le_of_lt HQ.out.1.1.2) (Go.Joins.below_alloc1 _ (.cells #[.int .i64 (i : Int)] 3)), HQ.out.2.2⟩)
          have h6 := hHeld.alloc (.cells #[.int .i64 (i : Int)] 3)
          obtain ⟨wa, hwa⟩ := Bx.name HG.out
          first | rw [← hwa] at HG HQ h6 ⊢ | (rw [alloc_drew] at hwa HG HQ h6; rw [size_drew] at HG; rw [← hwa] at HG HQ h6 ⊢)
          clear hwa
          refine hK.out _ _ h6 (fun hHeld => ?_)
          clear hK KC
          refine ready_call 7 ⟨some 42, Op.call { callee := Callee.builtin Builtin.append, args := #[Operand.tmp 39, Operand.tmp 41], argTypes := #[32, 32] }, _, _, _, none⟩ (by kernel_rfl) rfl (by kernel_rfl) (fun KC hK => ?_)
          refine wp_append_any _ (.tmp 39) (.tmp 41) 32 (by rfl) (g + 1) 3 j0 (.int .i64 0) 1 8 Try.underlying32 hj0 hy0 hy1 hy2 rfl (by decide) ov ord.length (ordC ord) (by rfl) HQ.out.1.2.1 ⟨_, 0, none⟩ 1 1 [.int .i64 (i : Int)] (by rfl) (by simp) (Bx.news1 HG.out) (by intro u hu; simp at hu; subst hu; rfl) (by unfold maxLen; omega) (by omega) (Nat.succ_le_of_lt HQ.out.1.1.2) ?_
          intro v7 w7 hown7 hgr7 hwh7
          obtain ⟨g7, cap7, rfl⟩ := Go.Joins.ownsRow_form hown7 (by omega)
          have hg7 := HQ.out.1.1.blk (hgr7.block g HQ.out.1.1.2 (HQ.out.1.gO)) hgr7.size
          have h7 := HQ.out.1.boxO hgr7 (List.mem_cons_of_mem _ (List.mem_cons_of_mem _ List.mem_cons_self))
          refine hK.out _ _ h7 (fun hHeld => ?_)
          clear hK KC
          refine take_v (v := ?_) 8 ⟨some 43, Op.nilCheck (Operand.tmp 35), _, _, _, none⟩ rfl (fun _ _ _ h => h) ?_ hHeld ?_
          rotate_left
          · (intro W _; go_simp <;> (try with_reducible rfl))
          refine take_v (v := ?_) 9 ⟨some 44, Op.fieldAddr 58 (Operand.tmp 43) 1, _, _, _, none⟩ rfl (fun _ _ _ h => h) ?_ hHeld ?_
          rotate_left
          · (intro W _; go_simp <;> (try with_reducible rfl))
          refine ready_call 10 ⟨none, Op.store 32 (Operand.tmp 44) (Operand.tmp 42), _, _, _, none⟩ (by kernel_rfl) rfl (by kernel_rfl) (fun KC hK => ?_)
          have k1 := hg7.cell 1 rfl
          have k2 := hg7.frz 1 (by simp)
          have kz := hg7.2
          go_wp2_with fail
          have HZ := (show Hid (One (w7.setCell ⟨g, 1, none⟩ (.slice (some ⟨g7, 0, none⟩) (ord.length + 1) cap7)) g (some ⟨b, off, none⟩) n cap (ord ++ [i]) L' (.slice (some ⟨g7, 0, none⟩) (ord.length + 1) cap7) lv' ((b6, [.string (valO V ord (V i).f2.toList)]) :: ((w.heap.size + 1, [.int .i64 (V i).f0, .bool (V i).f1, .string (V i).f2, .string (V i).f3, .int .i64 (V i).f4, .int .i64 (V i).f5]) :: (w.heap.size, [.pointer (some ⟨g, 0, none⟩)]) :: KB)) ∧ Below g w0 (w7.setCell ⟨g, 1, none⟩ (.slice (some ⟨g7, 0, none⟩) (ord.length + 1) cap7)) ∧ Sees V n (ord ++ [i]) L') from ⟨HQ.out.1.putO hgr7 (by rw [ordC_snoc, List.length_append]; exact hown7) (by rcases hwh7 with h | h; exact Or.inl h; exact Or.inr ⟨_, h, Nat.le_refl _⟩), HQ.out.1.belowO HQ.out.2.1 hgr7 _ _, HQ.out.2.2⟩)
          clear k1 k2 kz hg7 hown7 hgr7 hwh7 HQ HG
          refine hK.out _ _ (HZ.out.1.boxAt (List.mem_cons_of_mem _ (List.mem_cons_of_mem _ List.mem_cons_self))) (fun hHeld => ?_)
          clear hK KC
          refine wpAnyH_done (by kernel_rfl) ?_ _
          refine NoPanic.normal ?_
          go_wp2
          go_ret
          exact ⟨w.heap.size, w.heap.size + 1, b6, rfl, _, _, _, HZ.out.1, HZ.out.2.2, HZ.out.2.1⟩
        ·
          go_wp2_with fail
          have HG := (show Hid (Bx _ _ [.int .i64 (i : Int)]) from Bx.newOf HQ.out.1.1 [.int .i64 (i : Int)] 3)
          have HQ := (show Hid (_ ∧ _ ∧ _) from ⟨HQ.out.1.next (Go.Joins.below_alloc1 _ (.cells #[.int .i64 (i : Int)] 3)), below_nxg HQ.out.2.1 (Nat.le_of_lt HQ.out.1.1.2) (Go.Joins.below_alloc1 _ (.cells #[.int .i64 (i : Int)] 3)), HQ.out.2.2⟩)
          have h6 := hHeld.alloc (.cells #[.int .i64 (i : Int)] 3)
          obtain ⟨wa, hwa⟩ := Bx.name HG.out
          first | rw [← hwa] at HG HQ h6 ⊢ | (rw [alloc_drew] at hwa HG HQ h6; rw [size_drew] at HG; rw [← hwa] at HG HQ h6 ⊢)
          clear hwa
          refine hK.out _ _ h6 (fun hHeld => ?_)
          clear hK KC
          refine ready_call 4 ⟨some 39, Op.load 32 (Operand.tmp 38), _, _, _, none⟩ (by kernel_rfl) rfl (by kernel_rfl) (fun KC hK => ?_)
          have k1 := HQ.out.1.1.cell 1 rfl
          have kz := HQ.out.1.1.2
          go_wp2_with fail
          clear k1 kz
          refine hK.out _ _ hHeld (fun hHeld => ?_)
          clear hK KC
          refine ready_call 7 ⟨some 42, Op.call { callee := Callee.builtin Builtin.append, args := #[Operand.tmp 39, Operand.tmp 41], argTypes := #[32, 32] }, _, _, _, none⟩ (by kernel_rfl) rfl (by kernel_rfl) (fun KC hK => ?_)
          refine wp_append_any _ (.tmp 39) (.tmp 41) 32 (by rfl) (g + 1) 3 j0 (.int .i64 0) 1 8 Try.underlying32 hj0 hy0 hy1 hy2 rfl (by decide) ov ord.length (ordC ord) (by rfl) HQ.out.1.2.1 ⟨_, 0, none⟩ 1 1 [.int .i64 (i : Int)] (by rfl) (by simp) (Bx.news1 HG.out) (by intro u hu; simp at hu; subst hu; rfl) (by unfold maxLen; omega) (by omega) (Nat.succ_le_of_lt HQ.out.1.1.2) ?_
          intro v7 w7 hown7 hgr7 hwh7
          obtain ⟨g7, cap7, rfl⟩ := Go.Joins.ownsRow_form hown7 (by omega)
          have hg7 := HQ.out.1.1.blk (hgr7.block g HQ.out.1.1.2 (HQ.out.1.gO)) hgr7.size
          have h7 := HQ.out.1.boxO hgr7 (List.mem_cons_of_mem _ (List.mem_cons_of_mem _ List.mem_cons_self))
          refine hK.out _ _ h7 (fun hHeld => ?_)
          clear hK KC
          refine take_v (v := ?_) 8 ⟨some 43, Op.nilCheck (Operand.tmp 35), _, _, _, none⟩ rfl (fun _ _ _ h => h) ?_ hHeld ?_
          rotate_left
          · (intro W _; go_simp <;> (try with_reducible rfl))
          refine take_v (v := ?_) 9 ⟨some 44, Op.fieldAddr 58 (Operand.tmp 43) 1, _, _, _, none⟩ rfl (fun _ _ _ h => h) ?_ hHeld ?_
          rotate_left
          · (intro W _; go_simp <;> (try with_reducible rfl))
          refine ready_call 10 ⟨none, Op.store 32 (Operand.tmp 44) (Operand.tmp 42), _, _, _, none⟩ (by kernel_rfl) rfl (by kernel_rfl) (fun KC hK => ?_)
          have k1 := hg7.cell 1 rfl
          have k2 := hg7.frz 1 (by simp)
          have kz := hg7.2
          go_wp2_with fail
          have HZ := (show Hid (One (w7.setCell ⟨g, 1, none⟩ (.slice (some ⟨g7, 0, none⟩) (ord.length + 1) cap7)) g (some ⟨b, off, none⟩) n cap (ord ++ [i]) L' (.slice (some ⟨g7, 0, none⟩) (ord.length + 1) cap7) lv' ((b6, [.string (valO V ord (V i).f2.toList)]) :: ((w.heap.size + 1, [.int .i64 (V i).f0, .bool (V i).f1, .string (V i).f2, .string (V i).f3, .int .i64 (V i).f4, .int .i64 (V i).f5]) :: (w.heap.size, [.pointer (some ⟨g, 0, none⟩)]) :: KB)) ∧ Below g w0 (w7.setCell ⟨g, 1, none⟩ (.slice (some ⟨g7, 0, none⟩) (ord.length + 1) cap7)) ∧ Sees V n (ord ++ [i]) L') from ⟨HQ.out.1.putO hgr7 (by rw [ordC_snoc, List.length_append]; exact hown7) (by rcases hwh7 with h | h; exact Or.inl h; exact Or.inr ⟨_, h, Nat.le_refl _⟩), HQ.out.1.belowO HQ.out.2.1 hgr7 _ _, HQ.out.2.2⟩)
          clear k1 k2 kz hg7 hown7 hgr7 hwh7 HQ HG
          refine hK.out _ _ (HZ.out.1.boxAt (List.mem_cons_of_mem _ (List.mem_cons_of_mem _ List.mem_cons_self))) (fun hHeld => ?_)
          clear hK KC
          refine wpAnyH_done (by kernel_rfl) ?_ _
          refine NoPanic.normal ?_
          go_wp2
          go_ret
          exact ⟨w.heap.size, w.heap.size + 1, b6, rfl, _, _, _, HZ.out.1, HZ.out.2.2, HZ.out.2.1⟩
end Go.Proofs.Ytkniokbioggkeaa
