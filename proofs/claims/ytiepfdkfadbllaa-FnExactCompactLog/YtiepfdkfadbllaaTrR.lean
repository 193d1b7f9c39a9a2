/- Only some blocks have turned, and what could be written can be. No Go text is spoken of here. -/
import Derived.Test.YtiepfdkfadbllaaTurn
namespace Go.Proofs.Ytiepfdkfadbllaa
open Go.RowKit
set_option linter.unusedVariables false

def Rm (w w' : World) : Prop := ∀ g m, g < w.heap.size → Room w g m → Room w' g m
theorem Room.any {w : World} {g m : Nat} {p : Addr} {v : Value} (h : Room w g m) : Room (w.setCell p v) g m := by
  intro q hq
  obtain ⟨⟨u, hu⟩, hf⟩ := h q hq
  obtain ⟨u', hu'⟩ := cell?_setCell_some (p := p) (x := v) hu
  exact ⟨⟨u', hu'⟩, by simpa using hf⟩
def TrR (B C : Nat) (w w' : World) : Prop := Trn B C w w' ∧ Rm w w'
theorem TrR.refl (B C : Nat) (w : World) : TrR B C w w := ⟨Trn.refl _ _ _, fun g m _ h => h⟩
theorem TrR.set {B C : Nat} {a w : World} (h : TrR B C a w) {p : Addr} (h1 : B ≤ p.block) (h2 : p.block < C) (v : Value) : TrR B C a (w.setCell p v) :=
  ⟨h.1.set h1 h2 v, fun g m hg hr => (h.2 g m hg hr).any⟩
theorem TrR.next {B C : Nat} {a w w' : World} (h : TrR B C a w) (hb : Below w.heap.size w w') : TrR B C a w' :=
  ⟨h.1.next hb, fun g m hg hr => (h.2 g m hg hr).below hb (Nat.lt_of_lt_of_le hg h.1.2.2.2.1)⟩
theorem TrR.trans {B C : Nat} {a b c : World} (h : TrR B C a b) (k : TrR B C b c) : TrR B C a c :=
  ⟨h.1.trans k.1, fun g m hg hr => k.2 g m (Nat.lt_of_lt_of_le hg h.1.2.2.2.1) (h.2 g m hg hr)⟩
theorem TrR.wide {B C B' C' : Nat} {w w' : World} (h : TrR B C w w') (hB : B' ≤ B) (hC : C ≤ C') : TrR B' C' w w' := ⟨h.1.wide hB hC, h.2⟩
theorem TrR.size {B C : Nat} {w w' : World} (h : TrR B C w w') : w.heap.size ≤ w'.heap.size := h.1.2.2.2.1
theorem TrR.cell {B C : Nat} {w w' : World} (h : TrR B C w w') {g q : Nat} (hg : g < w.heap.size) (hx : g < B ∨ C ≤ g) : w'.cell? ⟨g, q, none⟩ = w.cell? ⟨g, q, none⟩ :=
  World.cell?_of_block (a := ⟨g, q, none⟩) (h.1.2.2.2.2 g hg hx)
/-- A row that may be written, whatever it holds. -/
theorem SRow.ofRoom {w : World} {g n c : Nat} (h : Room w g (n * c)) (hg : g < w.heap.size) : ∃ F, SRow w g (g + 1) (some ⟨g, 0, none⟩) n c F := by
  refine ⟨fun i j => (w.cell? ⟨g, 0 + i * c + j, none⟩).getD (.int .i64 0), Or.inr ⟨g, rfl, Nat.le_refl _, Nat.lt_succ_self _, hg, fun i hi j hj => ?_, h⟩, hg⟩
  have hle : i * c + c ≤ n * c := by
    have := Nat.mul_le_mul_right c (show i + 1 ≤ n by omega)
    rw [Nat.add_mul, Nat.one_mul] at this; exact this
  obtain ⟨⟨v, hv⟩, _⟩ := h (0 + i * c + j) (by omega)
  simp only [hv, Option.getD_some]
end Go.Proofs.Ytiepfdkfadbllaa
