/- The contract of putValue: which blocks stay, and where the list lies then. (Pv says it of boxes alone.) -/
import Derived.Test.YtkniokbioggkeaaPv
namespace Go.Proofs.Ytkniokbioggkeaa
open Go.RowKit
set_option linter.unusedVariables false

theorem grw_below {w w' : World} (h : Below w.heap.size w w') (row : Option Nat) : w.grownBy w' row := ⟨h.os, h.tape, h.output, h.size, fun k hk _ => h.block k hk⟩
theorem grw_trans {w w1 w2 : World} {row : Option Nat} (h : w.grownBy w1 row) (k : w1.grownBy w2 row) : w.grownBy w2 row :=
  ⟨k.os.trans h.os, k.tape.trans h.tape, k.output.trans h.output, Nat.le_trans h.size k.size, fun i hi hne => (k.block i (Nat.lt_of_lt_of_le hi h.size) hne).trans (h.block i hi hne)⟩
theorem grw_set {w : World} {g q : Nat} {v : Value} : w.grownBy (w.setCell ⟨g, q, none⟩ v) (some g) :=
  ⟨rfl, rfl, rfl, by simp [World.setCell], fun k _ hne => Below.heap_setCell _ _ _ _ (fun e => hne (by rw [e]))⟩
def PutW (base : Nat) (v : Value) (L : List CellV) (w : World) (r : Ending) (w' : World) : Prop :=
  ∃ v', r = .returned v' ∧ w'.ownsRow base 71 2 v' L.length (cellsC L) ∧ w.grownBy w' v.ownBlock ∧ (v'.ownBlock = v.ownBlock ∨ ∃ k, v'.ownBlock = some k ∧ w.heap.size ≤ k)
set_option maxRecDepth 100000 in
set_option maxHeartbeats 4000000 in
theorem putValue_grw (base : Nat) (v : Value) (L : List CellV) (x : CellV) (w : World) (hn : L.length ≤ 67108864) (hx : x.f0.size ≤ 281474976710656) (hr : riseL L) (hbase : base ≤ w.heap.size) (hown : w.ownsRow base 71 2 v L.length (cellsC L)) :
    Calls Try.prog 68 #[v, .string x.f0, .string x.f1] w fun r w' => PutW base v (putL L x) w r w' := by
  have hown0 := hown
  obtain ⟨a, cap, rfl, hcap, hrow⟩ := SRow.of (F := cellF (cV L)) (c := 2) hown0
  have HO : Hid (w.ownsRow base 71 2 (.slice a L.length cap) L.length (cellsC L) ∧ riseL L ∧ Sl w a L.length 2 (cellF (cV L))) := ⟨hown, hr, hrow.sl⟩
  clear hown hown0 hr hrow
  go_enter Try.func68, Try.ntmps68
  go_wp2_with fail
  refine (cellPlaceW_any _ _ _ (cV L) x.f0 _ hn HO.out.2.2).mono ?_
  rintro r w1 ⟨p, f, rfl, hp, hb⟩
  have HP : Hid (Placed (fun q => (cV L q).f0) L.length x.f0 p f ∧ Below w.heap.size w w1) := ⟨hp, hb⟩
  have hpl : p ≤ L.length := hp.1
  have hz1 : w.heap.size ≤ w1.heap.size := hb.size
  clear hp hb
  cases f
  · have HL : Hid (putL L x = L.take p ++ x :: L.drop p) := putL_miss HO.out.2.1 HP.out.1
    go_wp2_with fail
    refine (clone_any _ _ hx).mono ?_
    rintro r w2 ⟨rfl, hb2⟩
    have hz2 : w1.heap.size ≤ w2.heap.size := hb2.size
    have H2 : Hid (w2.ownsRow base 71 2 (.slice a L.length cap) L.length (cellsC L) ∧ Below w.heap.size w w2) := ⟨own_keep (own_keep HO.out.1 HP.out.2) hb2, HP.out.2.trans (hb2.mono hz1)⟩
    have HB : Hid (∀ j, (Value.slice a L.length cap).ownBlock = some j → base ≤ j ∧ j < w.heap.size) := fun j hj => HO.out.1.lt j hj
    clear hb2 HP
    go_wp2_with fail
    refine (insert_C base L.length p w2.heap.size (.slice a L.length cap) (cellsC L) [.string x.f0, .string x.f1] 71 _ hpl hn (World.ownsRow.alloc H2.out.1 _) (cellsC_one' L) (heap_alloc_new w2 _) rfl (by intro u hu; simp at hu; rcases hu with rfl | rfl <;> rfl) (by simp; omega) (fun e => by have := (HB.out _ e).2; omega)).mono ?_
    rintro r w3 ⟨v', rfl, ho, hgr, hwh⟩
    have H3 : Hid (PutW base (.slice a L.length cap) (putL L x) w (.returned v') w3) := by
      refine ⟨v', rfl, ?_, grw_trans (grw_below (H2.out.2.alloc H2.out.2.size _) _) hgr, ?_⟩
      · rw [HL.out, ← cellsC_put L x hpl]
        have : (L.take p ++ x :: L.drop p).length = L.length + 1 := by simp only [List.length_append, List.length_cons, List.length_take, List.length_drop]; omega
        rw [this]; exact ho
      · rcases hwh with h | h
        · exact Or.inl h
        · exact Or.inr ⟨_, h, by simp; omega⟩
    clear ho hgr hwh H2
    go_wp2
    go_ret
    exact H3.out
  · have hpn : p < L.length := (HP.out.1.2.1 rfl).1
    have hpn' : (p : Int) < (L.length : Int) := by omega
    obtain ⟨g, cap', e⟩ := Go.Joins.ownsRow_form HO.out.1 (by omega)
    simp only [Value.slice.injEq, true_and] at e
    obtain ⟨rfl, rfl⟩ := e
    have hown1 := own_keep HO.out.1 HP.out.2
    have hg := HO.out.1.lt g rfl
    have hgw : g < w1.heap.size := by omega
    have hlen : p * 2 + 1 < (cellsC L).length := by rw [cellsC_len]; omega
    have c1 : w1.cell? ⟨g, p * 2 + 1, none⟩ = some (cellsC L)[p * 2 + 1] := by rw [World.ownsRow.cellAt hown1 _ (by rw [cellsC_len] at hlen; omega)]; simp [hlen]
    have f1 := World.ownsRow.frozenAt hown1 (p * 2 + 1)
    have H3 : Hid (PutW base (.slice (some ⟨g, 0, none⟩) L.length cap) (putL L x) w (.returned (.slice (some ⟨g, 0, none⟩) L.length cap)) (w1.setCell ⟨g, p * 2 + 1, none⟩ (.string x.f1))) := by
      have hst := (World.ownsRow.stored hown1 (p * 2 + 1) (.string x.f1)).1
      rw [cellsC_set L x.f1 hpn] at hst
      have hk : (cV L p).f0 = x.f0 := bytes_eq (HP.out.1.2.1 rfl).2
      have hl : (putL L x).length = L.length := by rw [putL_hit HO.out.2.1 HP.out.1]; simp only [List.length_append, List.length_cons, List.length_take, List.length_drop]; omega
      have hv : (⟨(cV L p).f0, x.f1⟩ : CellV) = x := by rw [hk]
      rw [hv, ← putL_hit HO.out.2.1 HP.out.1] at hst
      exact ⟨_, rfl, by rw [hl]; exact hst, grw_trans (grw_below HP.out.2 _) grw_set, Or.inl rfl⟩
    clear hown1 HO HP
    go_wp2
    go_ret
    exact H3.out
end Go.Proofs.Ytkniokbioggkeaa
