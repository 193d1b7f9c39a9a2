/- Synods: one acceptor and one proposer of an owned synod, taken out and put back. -/
import Derived.Test.YtmhkfangfhanlaaSyR
namespace Go.Proofs.Ytmhkfangfhanlaa
open Go.RowKit
set_option linter.unusedVariables false
set_option linter.unusedSimpArgs false

theorem OwnX.cap {W : World} {lo : Nat} {e : Ty} {t : TypeId} {v : Value} {l : List e.T} {S : Nat → Prop} (h : OwnX W lo (.list e t) [v] l S) {a : Option Addr} {n c : Nat} (hv : v = .slice a n c) : l.length ≤ c := by
  rcases h with ⟨hl, e1⟩ | ⟨g', cap', xs, B, e1', hr, _⟩
  · rw [hl]; exact Nat.zero_le _
  · have := (List.cons.inj e1').1
    rw [hv] at this; cases this
    obtain ⟨cur, _, q, _⟩ := hr; exact q
theorem synod_loc {X : World} {lo i k : Nat} {va vp : Value} {ac : List (Sh.T shAcceptor)} {pr : List (Sh.T shProposer)} {S : Nat → Prop} {p b : Int} {v own : ByteArray} {ps : List (Sh.T shPromise)} {fx : Bool} {val : ByteArray} {vt : List (Sh.T .int)} (h : OwnX X lo tySynod [va, vp] (ac, pr, ()) S) (hi : i < ac.length) (hk : k < pr.length) (hlo : lo ≤ X.heap.size) (hS : ∀ b, S b → b < X.heap.size) (hA : ac[i] = (p, b, v, ())) (hP : pr[k] = (own, ps, fx, val, vt, ())) :
    ∃ ga ka gp kp v1 v2, ∃ B1 B2 : Nat → Prop, va = .slice (some ⟨ga, 0, none⟩) ac.length ka ∧ vp = .slice (some ⟨gp, 0, none⟩) pr.length kp ∧ ac.length ≤ ka ∧ pr.length ≤ kp ∧ (∀ j, locS ga gp B1 B2 j → S j) ∧ Loc X lo ga (i * 3) gp (k * 5) (locS ga gp B1 B2) X v1 v2 B1 B2 p b v own ps fx val vt ∧
      ∀ (W' : World) (v5 v6 : Value) (B5 B6 : Nat → Prop) (p' b' : Int) (v' own' : ByteArray) (ps' : List (Sh.T shPromise)) (fx' : Bool) (val' : ByteArray) (vt' : List (Sh.T .int)), Loc X lo ga (i * 3) gp (k * 5) (locS ga gp B1 B2) W' v5 v6 B5 B6 p' b' v' own' ps' fx' val' vt' →
        OwnX W' lo tySynod [va, vp] (ac.set i (p', b', v', ()), pr.set k (own', ps', fx', val', vt', ()), ()) (fun j => S j ∨ (X.heap.size ≤ j ∧ j < W'.heap.size)) := by
  obtain ⟨va', S1, vp', S2, e0, hO1, hO2, hs1, hs2, hd⟩ := ownx_Synod h
  cases e0
  obtain ⟨ga, ka, ea, Ba, ea1, hga, hlga, hSa, hBa, hela, hcea, hrooma, howna, hcha, hbacka⟩ := hO1.lens hi
  obtain ⟨gp, kp, ep, Bp, ep1, hgp, hlgp, hSp, hBp, help, hcep, hroomp, hownp, hchp, hbackp⟩ := hO2.lens hk
  have hcA := hO1.cap ea1
  have hcP := hO2.cap ep1
  have howna : OwnX X lo tyAcceptor ea (p, b, v, ()) Ba := Eq.mp (congrArg (fun z : tyAcceptor.T => OwnX X lo tyAcceptor ea z Ba) hA) howna
  have hownp : OwnX X lo tyProposer ep (own, ps, fx, val, vt, ()) Bp := Eq.mp (congrArg (fun z : tyProposer.T => OwnX X lo tyProposer ep z Bp) hP) hownp
  have ea0 := ownx_Acceptor howna
  obtain ⟨v1, B1, v2, B2, ep0, hv1, hv2, hb1, hb2, hb12⟩ := ownx_Proposer hownp
  subst ea0 ep0
  have hne : ga ≠ gp := fun e => hd ga hSa (e ▸ hSp)
  have hB : ∀ j, B1 j ∨ B2 j → S2 j ∧ j ≠ gp := by
    rintro j (q | q)
    · exact hBp j (hb1 j q)
    · exact hBp j (hb2 j q)
  have hBga : ∀ j, B1 j ∨ B2 j → j ≠ ga := fun j hj e => hd ga hSa (e ▸ (hB j hj).1)
  refine ⟨ga, ka, gp, kp, v1, v2, B1, B2, ea1, ep1, hcA, hcP, ?_, ⟨hcha, hchp, hv1, hv2, hb12, fun j hj => ⟨hBga j hj, (hB j hj).2, hS j (hs2 j (hB j hj).1), Or.inl (Or.inr (Or.inr hj))⟩, hne, Or.inl rfl, Or.inr (Or.inl rfl), TurnS.refl _ _, hlo⟩, ?_⟩
  · rintro j (q | q | q)
    · exact q ▸ hs1 _ hSa
    · exact q ▸ hs2 _ hSp
    · exact hs2 _ (hB j q).1
  · intro W' v5 v6 B5 B6 p' b' v' own' ps' fx' val' vt' hL
    obtain ⟨g1, g2, g3, g4, g5, g6, g7, g8, g9, g10, g11⟩ := hL
    have r1 := hbacka W' [.int .i64 p', .int .i64 b', .string v'] (p', b', v', ()) (fun _ => False) (fun _ => False) (fun j hj hSj hjn _ => g10.block hj (by
      rintro (q | q | q)
      · exact hjn q
      · exact hd j hSj (q ▸ hSp)
      · exact hd j hSj (hB j q).1)) g1 mkownx_Acceptor (fun _ q => absurd q id) (fun _ q => absurd q id)
    have r2 := hbackp W' [.string own', v5, .bool fx', .string val', v6] (own', ps', fx', val', vt', ()) (fun j => B5 j ∨ B6 j) (fun j => X.heap.size ≤ j ∧ j < W'.heap.size) (fun j hj hSj hjn hjB => g10.block hj (by
      rintro (q | q | q)
      · exact hd ga hSa (q ▸ hSj)
      · exact hjn q
      · rcases q with q | q
        · exact hjB (hb1 j q)
        · exact hjB (hb2 j q))) g2 (mkownx_Proposer g3 g4 (fun _ q => Or.inl q) (fun _ q => Or.inr q) g5) (fun j hj => by
          have := g6 j hj
          rcases this.2.2.2 with q | q
          · rcases q with q | q | q
            · exact absurd q this.1
            · exact absurd q this.2.1
            · rcases q with q | q
              · exact Or.inl (hb1 j q)
              · exact Or.inl (hb2 j q)
          · exact Or.inr ⟨q, this.2.2.1⟩) (fun j hj hSj => by have := hS j (hs2 j hSj); omega)
    exact mkownx_Synod r1 r2 (fun j q => q.elim (fun q => Or.inl (hs1 j q)) (fun q => absurd q id)) (fun j q => q.elim (fun q => Or.inl (hs2 j q)) (fun q => Or.inr q)) (fun j q1 q2 => by
      have q1' : S1 j := q1.elim id (fun q => absurd q id)
      rcases q2 with q2 | q2
      · exact hd j q1' q2
      · have := hS j (hs1 j q1'); omega)
end Go.Proofs.Ytmhkfangfhanlaa
