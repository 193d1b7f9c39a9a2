/- The contract of putValue. -/
import Derived.Test.YtkniokbioggkeaaPvG
import Derived.Test.YtkniokbioggkeaaBsCellW
import Derived.Test.YtkniokbioggkeaaInsC
import Derived.Test.YtkniokbioggkeaaHeP
import Derived.Test.YtkniokbioggkeaaCln
import Derived.Test.YtkniokbioggkeaaRg2
namespace Go.Proofs.Ytkniokbioggkeaa
open Go.RowKit
set_option linter.unusedVariables false

def PutPost (base : Nat) (L : List CellV) (w : World) (r : Ending) (w' : World) : Prop :=
  ∃ v', r = .returned v' ∧ w'.ownsRow base 71 2 v' L.length (cellsC L) ∧ ∀ B w0, Below B w0 w → B ≤ base → B ≤ w.heap.size → Below B w0 w'
theorem Bx.grw {w w' : World} {row : Option Nat} {g : Nat} {vs : List Value} (h : Bx w g vs) (hg : w.grownBy w' row) (hne : some g ≠ row) : Bx w' g vs :=
  ⟨fun j hj => ⟨(hg.cell_far ⟨g, j, none⟩ h.2 hne).trans (h.1 j hj).1, (hg.frozen_far ⟨g, j, none⟩ h.2 hne).trans (h.1 j hj).2⟩, Nat.lt_of_lt_of_le h.2 hg.size⟩
set_option maxRecDepth 100000 in
set_option maxHeartbeats 4000000 in
theorem putValue_any (base : Nat) (v : Value) (L : List CellV) (x : CellV) (w : World) (hn : L.length ≤ 67108864) (hx : x.f0.size ≤ 281474976710656) (hr : riseL L) (hbase : base ≤ w.heap.size) (hown : w.ownsRow base 71 2 v L.length (cellsC L)) :
    Calls Try.prog 68 #[v, .string x.f0, .string x.f1] w fun r w' => PutPost base (putL L x) w r w' ∧ ∀ b vs, Bx w b vs → v.ownBlock ≠ some b → Bx w' b vs := by
  have hown0 := hown
  obtain ⟨a, cap, rfl, hcap, hrow⟩ := SRow.of (F := cellF (cV L)) (c := 2) hown0
  have HO : Hid (w.ownsRow base 71 2 (.slice a L.length cap) L.length (cellsC L) ∧ riseL L ∧ Sl w a L.length 2 (cellF (cV L))) := ⟨hown, hr, hrow.sl⟩
  clear hown hown0 hr hrow
  go_enter Try.func68, Try.ntmps68
  go_wp2_with fail
  refine (cellPlaceW_any _ _ _ (cV L) x.f0 _ hn HO.out.2.2).mono ?_
  rintro r w1 ⟨p, f, rfl, hp, hb⟩
  have HP : Hid (Placed (fun q => (cV L q).f0) L.length x.f0 p f ∧ Below w.heap.size w w1) := ⟨hp, hb⟩
  have hpl : p ≤ L.length := hp.1
  have hz1 : w.heap.size ≤ w1.heap.size := hb.size
  clear hp hb
  cases f
  · have HL : Hid (putL L x = L.take p ++ x :: L.drop p) := putL_miss HO.out.2.1 HP.out.1
    go_wp2_with fail
    refine (clone_any _ _ hx).mono ?_
    rintro r w2 ⟨rfl, hb2⟩
    have hz2 : w1.heap.size ≤ w2.heap.size := hb2.size
    have H2 : Hid (w2.ownsRow base 71 2 (.slice a L.length cap) L.length (cellsC L) ∧ (∀ B w0, Below B w0 w → B ≤ base → B ≤ w.heap.size → Below B w0 w2) ∧ ∀ b vs, Bx w b vs → Bx w2 b vs) := ⟨own_keep (own_keep HO.out.1 HP.out.2) hb2, fun B w0 h _ h2 => (h.trans (HP.out.2.mono h2)).trans (hb2.mono (by omega)), fun b vs h => (h.next HP.out.2).next hb2⟩
    have HB : Hid (∀ j, (Value.slice a L.length cap).ownBlock = some j → base ≤ j ∧ j < w.heap.size) := fun j hj => HO.out.1.lt j hj
    clear hb2 HP
    go_wp2_with fail
    refine (insert_C base L.length p w2.heap.size (.slice a L.length cap) (cellsC L) [.string x.f0, .string x.f1] 71 _ hpl hn (World.ownsRow.alloc H2.out.1 _) (cellsC_one' L) (heap_alloc_new w2 _) rfl (by intro u hu; simp at hu; rcases hu with rfl | rfl <;> rfl) (by simp; omega) (fun e => by have := (HB.out _ e).2; omega)).mono ?_
    rintro r w3 ⟨v', rfl, ho, hgr, hwh⟩
    have H3 : Hid (PutPost base (putL L x) w (.returned v') w3 ∧ ∀ b vs, Bx w b vs → (Value.slice a L.length cap).ownBlock ≠ some b → Bx w3 b vs) := by
      refine ⟨⟨v', rfl, ?_, fun B w0 h h1 h2 => ((H2.out.2.1 B w0 h h1 h2).alloc (by omega) _).grown hgr (by simp; omega) (fun j hj => Nat.le_trans h1 (HB.out j hj).1)⟩, fun b vs h hne => ((H2.out.2.2 b vs h).alloc _).grw hgr (fun e => hne e.symm)⟩
      rw [HL.out, ← cellsC_put L x hpl]
      have : (L.take p ++ x :: L.drop p).length = L.length + 1 := by simp only [List.length_append, List.length_cons, List.length_take, List.length_drop]; omega
      rw [this]; exact ho
    clear ho hgr hwh H2
    go_wp2
    go_ret
    exact H3.out
  · have hpn : p < L.length := (HP.out.1.2.1 rfl).1
    have hpn' : (p : Int) < (L.length : Int) := by omega
    obtain ⟨g, cap', e⟩ := Go.Joins.ownsRow_form HO.out.1 (by omega)
    simp only [Value.slice.injEq, true_and] at e
    obtain ⟨rfl, rfl⟩ := e
    have hown1 := own_keep HO.out.1 HP.out.2
    have hg := HO.out.1.lt g rfl
    have hgw : g < w1.heap.size := by omega
    have hlen : p * 2 + 1 < (cellsC L).length := by rw [cellsC_len]; omega
    have c1 : w1.cell? ⟨g, p * 2 + 1, none⟩ = some (cellsC L)[p * 2 + 1] := by rw [World.ownsRow.cellAt hown1 _ (by rw [cellsC_len] at hlen; omega)]; simp [hlen]
    have f1 := World.ownsRow.frozenAt hown1 (p * 2 + 1)
    have H3 : Hid (PutPost base (putL L x) w (.returned (.slice (some ⟨g, 0, none⟩) L.length cap)) (w1.setCell ⟨g, p * 2 + 1, none⟩ (.string x.f1)) ∧ ∀ b vs, Bx w b vs → (Value.slice (some ⟨g, 0, none⟩) L.length cap).ownBlock ≠ some b → Bx (w1.setCell ⟨g, p * 2 + 1, none⟩ (.string x.f1)) b vs) := by
      have hst := (World.ownsRow.stored hown1 (p * 2 + 1) (.string x.f1)).1
      rw [cellsC_set L x.f1 hpn] at hst
      have hk : (cV L p).f0 = x.f0 := bytes_eq (HP.out.1.2.1 rfl).2
      have hl : (putL L x).length = L.length := by rw [putL_hit HO.out.2.1 HP.out.1]; simp only [List.length_append, List.length_cons, List.length_take, List.length_drop]; omega
      have hv : (⟨(cV L p).f0, x.f1⟩ : CellV) = x := by rw [hk]
      rw [hv, ← putL_hit HO.out.2.1 HP.out.1] at hst
      refine ⟨⟨_, rfl, by rw [hl]; exact hst, fun B w0 h h1 h2 => ((h.trans (HP.out.2.mono h2))).setCell (p := ⟨g, p * 2 + 1, none⟩) (by show B ≤ g; omega) _⟩, fun b vs h hne => (h.next HP.out.2).other (fun e => hne (by rw [e]; rfl))⟩
    clear hown1 HO HP
    go_wp2
    go_ret
    exact H3.out
end Go.Proofs.Ytkniokbioggkeaa
