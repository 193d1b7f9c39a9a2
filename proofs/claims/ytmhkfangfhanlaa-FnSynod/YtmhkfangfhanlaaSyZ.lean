/- Synods: a turn is taken. -/
import Derived.Laws.EntriesVeiled
import Derived.Test.YtmhkfangfhanlaaSyW
namespace Go.Proofs.Ytmhkfangfhanlaa
open Go.RowKit
set_option linter.unusedVariables false
set_option linter.unusedSimpArgs false

theorem Chunk.rebase {W W' : World} {t : TypeId} {g o : Nat} {ec : List Value} (h : Chunk W W' t g o ec) : Chunk W' W' t g o ec := by
  obtain ⟨cur, cur', h0, h1, h2, h3⟩ := h
  refine ⟨cur', cur', h1, h1, rfl, fun j => ?_⟩
  split
  · rename_i q; rw [h3, if_pos q]
  · rfl
theorem Chunk.join {W W1 W2 : World} {t : TypeId} {g o : Nat} {ec ec' : List Value} (h : Chunk W W1 t g o ec) (h' : Chunk W1 W2 t g o ec') (hl : ec.length = ec'.length) : Chunk W W2 t g o ec' := by
  obtain ⟨cur, cur1, h0, h1, h2, h3⟩ := h
  obtain ⟨cur1', cur2, g0, g1, g2, g3⟩ := h'
  rw [h1] at g0; cases g0
  refine ⟨cur, cur2, h0, g1, g2.trans h2, fun j => ?_⟩
  rw [g3]
  split
  · rfl
  · rename_i q; rw [h3, if_neg (by rw [hl]; exact q)]
section
variable {W0 W W' : World} {lo ga oa gp op : Nat} {S0 : Nat → Prop} {v1 v2 : Value} {B1 B2 : Nat → Prop} {p b : Int} {v own : ByteArray} {ps : List (Sh.T shPromise)} {fx : Bool} {val : ByteArray} {vt : List (Sh.T .int)}
/-- The blocks that a turn may write. -/
def locS (ga gp : Nat) (B1 B2 : Nat → Prop) (k : Nat) : Prop := k = ga ∨ k = gp ∨ B1 k ∨ B2 k
theorem Loc.rebase (h : Loc W0 lo ga oa gp op S0 W v1 v2 B1 B2 p b v own ps fx val vt) : Loc W lo ga oa gp op (locS ga gp B1 B2) W v1 v2 B1 B2 p b v own ps fx val vt := by
  obtain ⟨h1, h2, h3, h4, h5, h6, h7, h8, h9, h10, h11⟩ := h
  exact ⟨h1.rebase, h2.rebase, h3, h4, h5, fun k hk => ⟨(h6 k hk).1, (h6 k hk).2.1, (h6 k hk).2.2.1, Or.inl (Or.inr (Or.inr hk))⟩, h7, Or.inl rfl, Or.inr (Or.inl rfl), TurnS.refl _ _, Nat.le_trans h11 h10.size⟩
theorem Loc.join {v1' v2' : Value} {B1' B2' : Nat → Prop} {p' b' : Int} {v' own' : ByteArray} {ps' : List (Sh.T shPromise)} {fx' : Bool} {val' : ByteArray} {vt' : List (Sh.T .int)} (h : Loc W0 lo ga oa gp op S0 W v1 v2 B1 B2 p b v own ps fx val vt) (h' : Loc W lo ga oa gp op (locS ga gp B1 B2) W' v1' v2' B1' B2' p' b' v' own' ps' fx' val' vt') :
    Loc W0 lo ga oa gp op S0 W' v1' v2' B1' B2' p' b' v' own' ps' fx' val' vt' := by
  obtain ⟨h1, h2, h3, h4, h5, h6, h7, h8, h9, h10, h11⟩ := h
  obtain ⟨g1, g2, g3, g4, g5, g6, g7, g8, g9, g10, g11⟩ := h'
  have hs := h10.size
  refine ⟨h1.join g1 rfl, h2.join g2 rfl, g3, g4, g5, fun k hk => ⟨(g6 k hk).1, (g6 k hk).2.1, (g6 k hk).2.2.1, ?_⟩, h7, h8, h9, ⟨g10.1.trans h10.1, g10.2.1.trans h10.2.1, g10.2.2.1.trans h10.2.2.1, Nat.le_trans hs g10.size, fun k hk hS => ?_⟩, h11⟩
  · rcases (g6 k hk).2.2.2 with q | q
    · rcases q with q | q | q
      · exact absurd q (g6 k hk).1
      · exact absurd q (g6 k hk).2.1
      · exact (h6 k q).2.2.2
    · exact Or.inr (Nat.le_trans hs q)
  · rw [g10.block (Nat.lt_of_lt_of_le hk hs) (fun q => ?_)]
    · exact h10.block hk hS
    · rcases q with q | q | q
      · exact hS (q ▸ h8)
      · exact hS (q ▸ h9)
      · rcases (h6 k q).2.2.2 with r | r
        · exact hS r
        · omega
theorem Loc.away {v1' v2' : Value} {B1' B2' : Nat → Prop} {p' b' : Int} {v' own' : ByteArray} {ps' : List (Sh.T shPromise)} {fx' : Bool} {val' : ByteArray} {vt' : List (Sh.T .int)} (h' : Loc W lo ga oa gp op (locS ga gp B1 B2) W' v1' v2' B1' B2' p' b' v' own' ps' fx' val' vt') {g : Nat} {vs : List Value} (hx : Bx W g vs) (h1 : g ≠ ga) (h2 : g ≠ gp) (h3 : ∀ k, B1 k ∨ B2 k → k ≠ g) : Bx W' g vs ∧ (∀ k, B1' k ∨ B2' k → k ≠ g) := by
  have hn : ¬ locS ga gp B1 B2 g := by
    rintro (q | q | q)
    · exact h1 q
    · exact h2 q
    · exact h3 g q rfl
  refine ⟨hx.turnS h'.2.2.2.2.2.2.2.2.2.1 hn, fun k hk e => ?_⟩
  rcases (h'.2.2.2.2.2.1 k hk).2.2.2 with q | q
  · exact hn (e ▸ q)
  · have := hx.2; omega
end
end Go.Proofs.Ytmhkfangfhanlaa
