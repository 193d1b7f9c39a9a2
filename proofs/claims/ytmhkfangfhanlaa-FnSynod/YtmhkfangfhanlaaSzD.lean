/- Synods: spec.l10Step. Written by tools/mkSzD.py. -/
import Derived.Test.YtmhkfangfhanlaaSzC
import Derived.Test.YtmhkfangfhanlaaSyB
namespace Go.Proofs.Ytmhkfangfhanlaa
open Go.RowKit
set_option linter.unusedVariables false
set_option linter.unusedSimpArgs false

/-- What l10Step answers, on a synod of its own. -/
def StQ (w : World) (lo : Nat) (S : Nat → Prop) (va vp : Value) (ac : List (Sh.T shAcceptor)) (pr : List (Sh.T shProposer)) (A : Option (List (Sh.T shAcceptor) × List (Sh.T shProposer))) (r : Ending) (w' : World) : Prop :=
  r = .returned (.tuple #[.agg #[va, vp], .bool A.isSome]) ∧ OwnX w' lo tySynod [va, vp] ((A.getD (ac, pr)).1, (A.getD (ac, pr)).2, ()) (fun k => S k ∨ (w.heap.size ≤ k ∧ k < w'.heap.size)) ∧ TurnS S w w'
theorem StQ.no {w w' : World} {lo : Nat} {S : Nat → Prop} {va vp : Value} {ac : List (Sh.T shAcceptor)} {pr : List (Sh.T shProposer)} {A : Option (List (Sh.T shAcceptor) × List (Sh.T shProposer))} (h : A = none) (hO : OwnX w lo tySynod [va, vp] (ac, pr, ()) S) (hb : Below w.heap.size w w') : StQ w lo S va vp ac pr A (.returned (.tuple #[.agg #[va, vp], .bool false])) w' := by
  subst h
  exact ⟨rfl, (hO.next hb).mono (fun k hk => Or.inl hk), TurnS.of_below hb⟩
section
variable {W0 W : World} {lo ga oa gp op : Nat} {S0 : Nat → Prop} {v1 v2 v5 v6 : Value} {B1 B2 B5 B6 : Nat → Prop} {p b : Int} {v own own' : ByteArray} {ps ps' : List (Sh.T shPromise)} {fx fx' : Bool} {val val' : ByteArray} {vt vt' : List (Sh.T .int)}
/-- A proposer is stored whole. -/
theorem Loc.put5 (h : Loc W0 lo ga oa gp op S0 W v1 v2 B1 B2 p b v own ps fx val vt) (h1 : OwnX W lo (.list tyPromise 96) [v5] ps' B5) (h2 : OwnX W lo (.list .int 3) [v6] vt' B6) (hd : ∀ k, B5 k → ¬ B6 k) (hB : ∀ k, B5 k ∨ B6 k → k ≠ ga ∧ k ≠ gp ∧ k < W.heap.size ∧ (S0 k ∨ W0.heap.size ≤ k)) :
    Loc W0 lo ga oa gp op S0 (((((W.setCell ⟨gp, op, none⟩ (.string own')).setCell ⟨gp, op + 1, none⟩ v5).setCell ⟨gp, op + 2, none⟩ (.bool fx')).setCell ⟨gp, op + 3, none⟩ (.string val')).setCell ⟨gp, op + 4, none⟩ v6) v5 v6 B5 B6 p b v own' ps' fx' val' vt' := by
  obtain ⟨g1, g2, g3, g4, g5, g6, g7, g8, g9, g10, g11⟩ := h
  have n1 : ¬ B5 gp := fun q => (hB _ (Or.inl q)).2.1 rfl
  have n2 : ¬ B6 gp := fun q => (hB _ (Or.inr q)).2.1 rfl
  have hK : ∀ (W : World) (o : Nat) (u : Value), (W.setCell ⟨gp, o, none⟩ u).heap[ga]? = W.heap[ga]? := fun W o u => Below.heap_setCell _ _ _ _ g7
  refine ⟨(((((g1.keep (hK _ _ _)).keep (hK _ _ _)).keep (hK _ _ _)).keep (hK _ _ _)).keep (hK _ _ _)), ((((g2.set (j := 0) (by simp) (.string own')).set (j := 1) (by simp) v5).set (j := 2) (by simp) (.bool fx')).set (j := 3) (by simp) (.string val')).set (j := 4) (by simp) v6, ((((h1.set (p := ⟨gp, op, none⟩) n1 _).set (p := ⟨gp, op + 1, none⟩) n1 _).set (p := ⟨gp, op + 2, none⟩) n1 _).set (p := ⟨gp, op + 3, none⟩) n1 _).set (p := ⟨gp, op + 4, none⟩) n1 _, ((((h2.set (p := ⟨gp, op, none⟩) n2 _).set (p := ⟨gp, op + 1, none⟩) n2 _).set (p := ⟨gp, op + 2, none⟩) n2 _).set (p := ⟨gp, op + 3, none⟩) n2 _).set (p := ⟨gp, op + 4, none⟩) n2 _, hd, fun k hk => ?_, g7, g8, g9, ((((g10.set (p := ⟨gp, op, none⟩) g9 _).set (p := ⟨gp, op + 1, none⟩) g9 _).set (p := ⟨gp, op + 2, none⟩) g9 _).set (p := ⟨gp, op + 3, none⟩) g9 _).set (p := ⟨gp, op + 4, none⟩) g9 _, g11⟩
  have := hB k hk
  exact ⟨this.1, this.2.1, by simp only [World.size_setCell]; exact this.2.2.1, this.2.2.2⟩
/-- A cell of a block that is newer is written. -/
theorem Loc.newer (h : Loc W0 lo ga oa gp op S0 W v1 v2 B1 B2 p b v own ps fx val vt) {g : Nat} (hg : W0.heap.size ≤ g) (hn : ∀ k, B1 k ∨ B2 k → k ≠ g) (o : Nat) (u : Value) : Loc W0 lo ga oa gp op S0 (W.setCell ⟨g, o, none⟩ u) v1 v2 B1 B2 p b v own ps fx val vt := by
  obtain ⟨g1, g2, g3, g4, g5, g6, g7, g8, g9, g10, g11⟩ := h
  have za := g1.lt0
  have zp := g2.lt0
  refine ⟨g1.keep (Below.heap_setCell _ _ _ _ (by show ga ≠ g; omega)), g2.keep (Below.heap_setCell _ _ _ _ (by show gp ≠ g; omega)), g3.set (p := ⟨g, o, none⟩) (fun q => hn _ (Or.inl q) rfl) _, g4.set (p := ⟨g, o, none⟩) (fun q => hn _ (Or.inr q) rfl) _, g5, fun k hk => ?_, g7, g8, g9, ⟨g10.1, g10.2.1, g10.2.2.1, by have := g10.size; simp only [World.size_setCell]; exact this, fun k hk hx => (Below.heap_setCell _ _ _ _ (by show k ≠ g; omega)).trans (g10.block hk hx)⟩, g11⟩
  have := g6 k hk
  exact ⟨this.1, this.2.1, by simp only [World.size_setCell]; exact this.2.2.1, this.2.2.2⟩
end
theorem TurnS.far {S : Nat → Prop} {w W : World} (h : TurnS S w W) {g : Nat} (hg : w.heap.size ≤ g) (o : Nat) (u : Value) : TurnS S w (W.setCell ⟨g, o, none⟩ u) :=
  ⟨h.1, h.2.1, h.2.2.1, by have := h.size; simp only [World.size_setCell]; exact this, fun k hk hx => (Below.heap_setCell _ _ _ _ (by show k ≠ g; omega)).trans (h.block hk hx)⟩
/-- The end: all is put back, the answer's cell is written. -/
theorem StQ.yes {w X W : World} {lo c : Nat} {S S1 : Nat → Prop} {va vp : Value} {ac ac' : List (Sh.T shAcceptor)} {pr pr' : List (Sh.T shProposer)} {A : Option (List (Sh.T shAcceptor) × List (Sh.T shProposer))} (h : A = some (ac', pr')) (hO : OwnX W lo tySynod [va, vp] (ac', pr', ()) (fun j => S j ∨ (X.heap.size ≤ j ∧ j < W.heap.size))) (hc : w.heap.size ≤ c) (hcX : c < X.heap.size) (hS : ∀ k, S k → k < w.heap.size) (hS1 : ∀ k, S1 k → S k) (hb : Below w.heap.size w X) (ht : TurnS S1 X W) (u0 u1 : Value) :
    StQ w lo S va vp ac pr A (.returned (.tuple #[.agg #[va, vp], .bool true])) ((W.setCell ⟨c, 0, none⟩ u0).setCell ⟨c, 1, none⟩ u1) := by
  subst h
  have hX := hb.size
  have hn : ¬ (S c ∨ (X.heap.size ≤ c ∧ c < W.heap.size)) := by
    rintro (q | q)
    · have := hS c q; omega
    · omega
  exact ⟨rfl, ((hO.set (p := ⟨c, 0, none⟩) hn u0).set (p := ⟨c, 1, none⟩) hn u1).mono (fun k hk => by
    rcases hk with q | q
    · exact Or.inl q
    · exact Or.inr ⟨by omega, by simp only [World.size_setCell]; exact q.2⟩), (((TurnS.of_below hb).trans (ht.wide hS1)).far hc 0 u0).far hc 1 u1⟩
theorem has_mem {l : List (Sh.T .int)} {x : Int} : hasN (atI l) x l.length = tf (x ∈ l) := by
  rw [Bool.eq_iff_iff, hasN_iff, tf_iff, List.mem_iff_getElem]
  constructor
  · rintro ⟨i, hi, e⟩
    exact ⟨i, hi, by rw [atI_lt hi] at e; exact e⟩
  · rintro ⟨i, hi, e⟩
    exact ⟨i, hi, by rw [atI_lt hi]; exact e⟩

set_option maxRecDepth 100000 in
set_option maxHeartbeats 16000000 in
theorem l10Step_n (va vp : Value) (ac : List (Sh.T shAcceptor)) (pr : List (Sh.T shProposer)) (acc : Bool) (bal node : Int) (lo : Nat) (S : Nat → Prop) (w : World) (hG : goodS ac pr) (hO : OwnX w lo tySynod [va, vp] (ac, pr, ()) S) (hS : ∀ k, S k → k < w.heap.size) (hlo : lo ≤ w.heap.size) :
    Calls Try.prog 48 #[.agg #[va, vp], .agg #[.bool acc, .int .i64 bal, .int .i64 node]] w (StQ w lo S va vp ac pr (stB ac pr acc bal node)) := by
  have HG : Hid (goodS ac pr) := hG
  have HO : Hid (OwnX w lo tySynod [va, vp] (ac, pr, ()) S ∧ (∀ k, S k → k < w.heap.size) ∧ lo ≤ w.heap.size) := ⟨hO, hS, hlo⟩
  have hn8 := hG.2.1.2
  have hn12 := hG.1.2
  by_cases cI : stI ac pr bal node
  case neg =>
    obtain ⟨a1, k1, hva⟩ : ∃ a1 k1, va = .slice a1 (List.length (α := Sh.T shAcceptor) ac) k1 := by
      obtain ⟨_, _, _, _, e, q, _⟩ := ownx_Synod hO
      simp only [List.cons.injEq, and_true] at e
      obtain ⟨rfl, rfl⟩ := e
      exact q.vform
    obtain ⟨a2, k2, hvp⟩ : ∃ a2 k2, vp = .slice a2 (List.length (α := Sh.T shProposer) pr) k2 := by
      obtain ⟨_, _, _, _, e, _, q, _⟩ := ownx_Synod hO
      simp only [List.cons.injEq, and_true] at e
      obtain ⟨rfl, rfl⟩ := e
      exact q.vform
    subst hva hvp
    have HN : Hid (stB ac pr acc bal node = none) := Hid.intro (stB_no cI)
    clear hG hO hS hlo
    cases c1 : inR bal 1 (pr.length : Int)
    · clear cI
      go_enter Try.func48, Try.ntmps48
      go_wp2_with (first | (go_at_call 58; refine (l1In_any _ _ _ _).mono ?_; rintro e w' ⟨rfl, rfl⟩))
      exact bodyPost_ret (v := .tuple #[.agg #[.slice a1 ac.length k1, .slice a2 pr.length k2], .bool false]) (by simp [results, Try.results48, go_sem, *]) rfl (StQ.no HN.out HO.out.1 (by repeat (first | refine Below.setCell ?_ (by (try simp) <;> omega) _ | refine Below.alloc ?_ (by (try simp) <;> omega) _ | refine Below.drew ?_ | assumption | exact Below.refl _ _ | refine Below.trans ?_ (Below.mono (by assumption) (by (try simp) <;> omega)))))
    cases c2 : inR node 0 ((ac.length : Int) - 1)
    · clear cI
      go_enter Try.func48, Try.ntmps48
      go_wp2_with (first | (go_at_call 58; refine (l1In_any _ _ _ _).mono ?_; rintro e w' ⟨rfl, rfl⟩))
      exact bodyPost_ret (v := .tuple #[.agg #[.slice a1 ac.length k1, .slice a2 pr.length k2], .bool false]) (by simp [results, Try.results48, go_sem, *]) rfl (StQ.no HN.out HO.out.1 (by repeat (first | refine Below.setCell ?_ (by (try simp) <;> omega) _ | refine Below.alloc ?_ (by (try simp) <;> omega) _ | refine Below.drew ?_ | assumption | exact Below.refl _ _ | refine Below.trans ?_ (Below.mono (by assumption) (by (try simp) <;> omega)))))
    exact absurd ⟨inR_iff.1 c1, inR_iff.1 c2⟩ cI
  have hbd := cI.1
  have hnd := cI.2
  clear cI
  obtain ⟨k, rfl⟩ : ∃ k : Nat, bal = (k : Int) + 1 := ⟨(bal - 1).toNat, by omega⟩
  obtain ⟨i, rfl⟩ : ∃ i : Nat, node = (i : Int) := ⟨node.toNat, by omega⟩
  have hk : k < pr.length := by omega
  have hi : i < ac.length := by omega
  obtain ⟨p, b, v, hA⟩ : ∃ (p b : Int) (v : ByteArray), ac[i] = (p, b, v, ()) := ⟨_, _, _, rfl⟩
  obtain ⟨own, pms, fx, val, vt, hP⟩ : ∃ (own : ByteArray) (pms : List (Sh.T shPromise)) (fx : Bool) (val : ByteArray) (vt : List (Sh.T .int)), pr[k] = (own, pms, fx, val, vt, ()) := ⟨_, _, _, _, _, rfl⟩
  have HS : Hid (stB ac pr acc ((k : Int) + 1) (i : Int) = (stE ac.length acc ((k : Int) + 1) i (p, b, v, ()) (own, pms, fx, val, vt, ())).map (fun y => (ac.set i y.1, pr.set k y.2))) := Hid.intro (stB_at hi hk hA hP)
  have HGS := Hid.intro (good_small HG.out hi hk hA hP)
  have d1 : inR ((k : Int) + 1) 1 (pr.length : Int) = true := inR_iff.2 hbd
  have d2 : inR (i : Int) 0 ((ac.length : Int) - 1) = true := inR_iff.2 hnd
  obtain ⟨X, hX⟩ : ∃ x, x = ((w.alloc (.cells #[va, vp] 30)).alloc (.cells #[.bool acc, .int .i64 ((k : Int) + 1), .int .i64 (i : Int)] 65)).alloc (.cells #[.slice none 0 0, .slice none 0 0] 30) := ⟨_, rfl⟩
  have hwX : Below w.heap.size w X := hX ▸ (((Below.refl _ _).alloc (Nat.le_refl _) _).alloc (by simp) _).alloc (by simp; omega) _
  have hzX : X.heap.size = w.heap.size + 1 + 1 + 1 := by rw [hX]; simp
  have hbs : Bx X w.heap.size [va, vp] := hX ▸ ((Bx.new w [_, _] _).alloc _).alloc _
  have hbt : Bx X (w.heap.size + 1) [.bool acc, .int .i64 ((k : Int) + 1), .int .i64 (i : Int)] := hX ▸ (Bx.newAt (by simp)).alloc _
  have hbr : Bx X (w.heap.size + 1 + 1) [.slice none 0 0, .slice none 0 0] := hX ▸ Bx.newAt (by simp)
  obtain ⟨ga, ka, gp, kp, v1, v2, B1, B2, hva, hvp, hka, hkp, hSin, hLoc, hback⟩ := synod_loc (hO.next hwX) hi hk (by omega) (fun j hj => by have := hS j hj; omega) hA hP
  subst hva hvp
  obtain ⟨q1, c1, hq1⟩ := hLoc.2.2.1.vform
  have hq1 : v1 = .slice q1 (List.length (α := Sh.T shPromise) pms) c1 := hq1
  obtain ⟨q2, c2, hq2⟩ := hLoc.2.2.2.1.vform
  have hq2 : v2 = .slice q2 (List.length (α := Sh.T .int) vt) c2 := hq2
  subst hq1 hq2
  have HX : Hid (Loc X lo ga (i * 3) gp (k * 5) (locS ga gp B1 B2) X (.slice q1 pms.length c1) (.slice q2 vt.length c2) B1 B2 p b v own pms fx val vt ∧ Bx X w.heap.size [.slice (some ⟨ga, 0, none⟩) ac.length ka, .slice (some ⟨gp, 0, none⟩) pr.length kp] ∧ Bx X (w.heap.size + 1) [.bool acc, .int .i64 ((k : Int) + 1), .int .i64 (i : Int)] ∧ Bx X (w.heap.size + 1 + 1) [.slice none 0 0, .slice none 0 0] ∧ Below w.heap.size w X ∧ (∀ j, locS ga gp B1 B2 j → S j) ∧ X.heap.size = w.heap.size + 1 + 1 + 1) := ⟨hLoc, hbs, hbt, hbr, hwX, hSin, hzX⟩
  have HBK := Hid.intro hback
  have hlg : ga < w.heap.size := hS ga (hSin ga (Or.inl rfl))
  have hlp : gp < w.heap.size := hS gp (hSin gp (Or.inr (Or.inl rfl)))
  have u0 : X.cell? ⟨ga, i * 3, none⟩ = some (.int .i64 p) := hLoc.1.cell (j := 0) rfl
  have u1 : X.cell? ⟨ga, i * 3 + 1, none⟩ = some (.int .i64 b) := hLoc.1.cell (j := 1) rfl
  have u2 : X.cell? ⟨ga, i * 3 + 2, none⟩ = some (.string v) := hLoc.1.cell (j := 2) rfl
  have e0 : X.cell? ⟨gp, k * 5, none⟩ = some (.string own) := hLoc.2.1.cell (j := 0) rfl
  have e1 : X.cell? ⟨gp, k * 5 + 1, none⟩ = some (.slice q1 pms.length c1) := hLoc.2.1.cell (j := 1) rfl
  have e2 : X.cell? ⟨gp, k * 5 + 2, none⟩ = some (.bool fx) := hLoc.2.1.cell (j := 2) rfl
  have e3 : X.cell? ⟨gp, k * 5 + 3, none⟩ = some (.string val) := hLoc.2.1.cell (j := 3) rfl
  have e4 : X.cell? ⟨gp, k * 5 + 4, none⟩ = some (.slice q2 vt.length c2) := hLoc.2.1.cell (j := 4) rfl
  have hgX : ga < X.heap.size := by omega
  have hpX : gp < X.heap.size := by omega
  have hkk : IntKind.i64.wrap (k : Int) = k := by rw [IntKind.wrap_i64]; omega
  have s0 := (HX.out.2.1).cell 0 rfl; have s1 := (HX.out.2.1).cell 1 rfl; have sz := (HX.out.2.1).2
  have t0 := (HX.out.2.2.1).cell 0 rfl; have t1 := (HX.out.2.2.1).cell 1 rfl; have t2 := (HX.out.2.2.1).cell 2 rfl; have tz := (HX.out.2.2.1).2
  obtain ⟨X2, hX2⟩ : ∃ x, x = ((X.alloc (.cells #[.string own, .slice q1 pms.length c1, .bool fx, .string val, .slice q2 vt.length c2] 43)).alloc (.cells #[.int .i64 p, .int .i64 b, .string v] 91)) := ⟨_, rfl⟩
  have hXX : Below X.heap.size X X2 := hX2 ▸ ((Below.refl _ _).alloc (Nat.le_refl _) _).alloc (by simp) _
  have hzX2 : X2.heap.size = X.heap.size + 2 := by rw [hX2]; simp
  have HX2 : Hid (Loc X lo ga (i * 3) gp (k * 5) (locS ga gp B1 B2) X2 (.slice q1 pms.length c1) (.slice q2 vt.length c2) B1 B2 p b v own pms fx val vt ∧ Bx X2 w.heap.size [.slice (some ⟨ga, 0, none⟩) ac.length ka, .slice (some ⟨gp, 0, none⟩) pr.length kp] ∧ Bx X2 (w.heap.size + 1) [.bool acc, .int .i64 ((k : Int) + 1), .int .i64 (i : Int)] ∧ Bx X2 (w.heap.size + 1 + 1) [.slice none 0 0, .slice none 0 0] ∧ Bx X2 X.heap.size [.string own, .slice q1 pms.length c1, .bool fx, .string val, .slice q2 vt.length c2] ∧ Bx X2 (X.heap.size + 1) [.int .i64 p, .int .i64 b, .string v] ∧ X2.heap.size = X.heap.size + 2) := ⟨hLoc.next hXX, hbs.next hXX, hbt.next hXX, hbr.next hXX, hX2 ▸ (Bx.new X [_, _, _, _, _] _).alloc _, hX2 ▸ Bx.newAt (by simp), hzX2⟩
  have HB2 : Hid (∀ u0 u1, Below w.heap.size w ((((X.setCell ⟨w.heap.size + 1 + 1, 0, none⟩ u0).setCell ⟨w.heap.size + 1 + 1, 1, none⟩ u1).alloc (.cells #[.string own, .slice q1 pms.length c1, .bool fx, .string val, .slice q2 vt.length c2] 43)).alloc (.cells #[.int .i64 p, .int .i64 b, .string v] 91))) := Hid.intro (fun u0 u1 => (((hwX.setCell (p := ⟨w.heap.size + 1 + 1, 0, none⟩) (by simp; omega) _).setCell (p := ⟨w.heap.size + 1 + 1, 1, none⟩) (by simp; omega) _).alloc (by have := hwX.size; simp; omega) _).alloc (by have := hwX.size; simp; omega) _)
  have HVS : Hid (Sl ((X.alloc (.cells #[.string own, .slice q1 pms.length c1, .bool fx, .string val, .slice q2 vt.length c2] 43)).alloc (.cells #[.int .i64 p, .int .i64 b, .string v] 91)) q2 vt.length 1 (intF (atI vt))) := Hid.intro (lies_sl (hX2 ▸ (hLoc.2.2.2.1.lies.next hXX)))
  have r0 := (HX.out.2.2.2.1).cell 0 rfl; have r1 := (HX.out.2.2.2.1).cell 1 rfl; have rz := (HX.out.2.2.2.1).2
  have rf0 := HX.out.2.2.2.1.frz 0 (by simp)
  have rf1 := HX.out.2.2.2.1.frz 1 (by simp)
  have uf0 := hLoc.1.frz (i * 3)
  have uf1 := hLoc.1.frz (i * 3 + 1)
  have uf2 := hLoc.1.frz (i * 3 + 2)
  have n1 : X.heap.size ≠ gp := by omega
  have n2 : X.heap.size ≠ ga := by omega
  have n3 : w.heap.size ≠ gp := by omega
  have n4 : w.heap.size ≠ ga := by omega
  have n5 : w.heap.size + 1 ≠ gp := by omega
  have n6 : w.heap.size + 1 ≠ ga := by omega
  have n7 : w.heap.size + 1 + 1 ≠ gp := by omega
  have n8 : w.heap.size + 1 + 1 ≠ ga := by omega
  have n9 : X.heap.size + 1 ≠ gp := by omega
  have n10 : X.heap.size + 1 ≠ ga := by omega
  have n11 : w.heap.size ≠ X.heap.size := by omega
  have n12 : w.heap.size + 1 ≠ X.heap.size := by omega
  have n13 : w.heap.size + 1 + 1 ≠ X.heap.size := by omega
  clear hG hO hS hlo hA hP hwX hzX hbs hbt hbr hSin hLoc hback hXX hzX2
  go_enter Try.func48, Try.ntmps48
  go_wp2_with fail
  rw [← hX]
  clear hX
  cases acc
  · by_cases hpb : p < (k : Int) + 1
    case neg =>
      have hpb' : (k : Int) + 1 ≤ p := by omega
      have HN : Hid (stB ac pr false ((k : Int) + 1) (i : Int) = none) := Hid.intro (by rw [HS.out]; unfold stE tkP; simp [hpb])
      go_wp2_with (first | (go_at_call 58; refine (l1In_any _ _ _ _).mono ?_; rintro e w' ⟨rfl, hw⟩; have hw := hw.symm; subst hw; first | rw [d1] | rw [d2]) | (go_at_call 83; refine (l1Has_any _ _ _ _ _ _ (by have := HGS.out.2.2.2.2.2.2.1; omega) HVS.out).mono ?_; rintro e w' ⟨rfl, hw⟩; have hw := hw.symm; subst hw; rw [hHB]))
      exact bodyPost_ret (v := .tuple #[.agg #[.slice (some ⟨ga, 0, none⟩) ac.length ka, .slice (some ⟨gp, 0, none⟩) pr.length kp], .bool false]) (by simp [results, Try.results48, go_sem, *]) rfl (StQ.no HN.out HO.out.1 (HB2.out _ _))
    cases fx
    case true =>
      have HN : Hid (stB ac pr false ((k : Int) + 1) (i : Int) = none) := Hid.intro (by rw [HS.out]; unfold stE tkP; simp)
      go_wp2_with (first | (go_at_call 58; refine (l1In_any _ _ _ _).mono ?_; rintro e w' ⟨rfl, hw⟩; have hw := hw.symm; subst hw; first | rw [d1] | rw [d2]) | (go_at_call 83; refine (l1Has_any _ _ _ _ _ _ (by have := HGS.out.2.2.2.2.2.2.1; omega) HVS.out).mono ?_; rintro e w' ⟨rfl, hw⟩; have hw := hw.symm; subst hw; rw [hHB]))
      exact bodyPost_ret (v := .tuple #[.agg #[.slice (some ⟨ga, 0, none⟩) ac.length ka, .slice (some ⟨gp, 0, none⟩) pr.length kp], .bool false]) (by simp [results, Try.results48, go_sem, *]) rfl (StQ.no HN.out HO.out.1 (HB2.out _ _))
    obtain ⟨L, hLd⟩ : ∃ L, L = putP pms (mkPm (i : Int) b v) := ⟨_, rfl⟩
    have HN0 : Hid (stB ac pr false ((k : Int) + 1) (i : Int) = some (ac.set i ((k : Int) + 1, b, v, ()), pr.set k (own, L, decide ((ac.length : Int) < 2 * (L.length : Int)), (if decide ((ac.length : Int) < 2 * (L.length : Int)) then fixV own L else val), vt, ()))) := Hid.intro (by rw [HS.out, hLd]; unfold stE tkP; simp [hpb])
    have HZL : Hid (szD (.list shPromise) L ≤ 1073741824 ∧ L.length ≤ 13) := Hid.intro (by
      have h1 := (tk_small (bal := (k : Int) + 1) (node := i) (p := p) (b := b) (fx := false) (own := own) HGS.out.1 HGS.out.2.1 HGS.out.2.2.2.1 HGS.out.2.2.2.2.1).1
      have e : tkL ((k : Int) + 1) i p b v pms false = L := by unfold tkL tkP; simp [hpb, hLd]
      rw [e] at h1
      refine ⟨h1, ?_⟩
      have h2 := putP_len pms (mkPm (i : Int) b v)
      rw [← hLd] at h2
      have := HGS.out.2.1
      omega)
    have hl13 := HZL.out.2
    have hl13' : (L.length : Int) ≤ 13 := by omega
    obtain ⟨Y, hY⟩ : ∃ x, x = (X.setCell ⟨ga, i * 3, none⟩ (.int .i64 ((k : Int) + 1))) := ⟨_, rfl⟩
    obtain ⟨X3, hX3⟩ : ∃ x, x = (Y.alloc (.cells #[.string own, .slice q1 pms.length c1, .bool false, .string val, .slice q2 vt.length c2] 43)).alloc (.cells #[.int .i64 p, .int .i64 b, .string v] 91) := ⟨_, rfl⟩
    have hYz : Y.heap.size = X.heap.size := by rw [hY]; simp only [World.size_setCell]
    have hYX : Below Y.heap.size Y X3 := hX3 ▸ ((Below.refl _ _).alloc (Nat.le_refl _) _).alloc (by simp) _
    have hz3 : X3.heap.size = X.heap.size + 2 := by rw [hX3]; simp [hYz]
    have H3 : Hid (Loc X lo ga (i * 3) gp (k * 5) (locS ga gp B1 B2) X3 (.slice q1 pms.length c1) (.slice q2 vt.length c2) B1 B2 ((k : Int) + 1) b v own pms false val vt ∧ Bx X3 w.heap.size [.slice (some ⟨ga, 0, none⟩) ac.length ka, .slice (some ⟨gp, 0, none⟩) pr.length kp] ∧ Bx X3 (w.heap.size + 1) [.bool false, .int .i64 ((k : Int) + 1), .int .i64 (i : Int)] ∧ Bx X3 (w.heap.size + 1 + 1) [.slice none 0 0, .slice none 0 0] ∧ Bx X3 X.heap.size [.string own, .slice q1 pms.length c1, .bool false, .string val, .slice q2 vt.length c2] ∧ X3.heap.size = X.heap.size + 2) := ⟨(hY ▸ HX.out.1.setA _ : Loc X lo ga (i * 3) gp (k * 5) (locS ga gp B1 B2) Y (.slice q1 pms.length c1) (.slice q2 vt.length c2) B1 B2 ((k : Int) + 1) b v own pms false val vt).next hYX, (hY ▸ HX.out.2.1.other n4 : Bx Y _ _).next hYX, (hY ▸ HX.out.2.2.1.other n6 : Bx Y _ _).next hYX, (hY ▸ HX.out.2.2.2.1.other n8 : Bx Y _ _).next hYX, hX3 ▸ (Bx.newAt hYz).alloc _, hz3⟩
    have HLD : Hid (putP pms (mkPm (i : Int) b v) = L) := Hid.intro hLd.symm
    clear hYX hYz hz3 hLd
    by_cases hdc : (ac.length : Int) < 2 * (L.length : Int)
    · have HN : Hid (stB ac pr false ((k : Int) + 1) (i : Int) = some (ac.set i ((k : Int) + 1, b, v, ()), pr.set k (own, L, true, fixV own L, vt, ()))) := Hid.intro (by rw [HN0.out]; simp [hdc])
      go_wp2_with (first | (go_at_call 58; refine (l1In_any _ _ _ _).mono ?_; rintro e w' ⟨rfl, hw⟩; have hw := hw.symm; subst hw; first | rw [d1] | rw [d2]) | (go_at_call 85; rw [← hY, ← hX3]; refine (l10Promise_n _ pms i b v lo B1 _ (by have := HGS.out.2.1; omega) HGS.out.2.2.1 H3.out.1.2.2.1).mono ?_; rintro r w3 ⟨v5, rfl, hA5⟩; (have hA5 : ApS tyPromise 96 X3 w3 v5 L := HLD.out ▸ hA5); obtain ⟨z1, y1, hv5⟩ := hA5.1.vform; (have hv5 : v5 = .slice z1 (List.length (α := Sh.T shPromise) L) y1 := hv5); subst hv5; have H4 := Hid.intro (And.intro (H3.out.1.next hA5.2) (And.intro (H3.out.2.1.next hA5.2) (And.intro (H3.out.2.2.1.next hA5.2) (And.intro (H3.out.2.2.2.1.next hA5.2) (H3.out.2.2.2.2.1.next hA5.2))))); have HA5 := Hid.intro hA5; clear hA5; clear s0 s1 sz t0 t1 t2 tz r0 r1 rz rf0 rf1; clear u0 u1 u2 uf0 uf1 uf2 e0 e1 e2 e3 e4; have s0 := H4.out.2.1.cell 0 rfl; have s1 := H4.out.2.1.cell 1 rfl; have sz := H4.out.2.1.2; have t0 := H4.out.2.2.1.cell 0 rfl; have t1 := H4.out.2.2.1.cell 1 rfl; have t2 := H4.out.2.2.1.cell 2 rfl; have tz := H4.out.2.2.1.2; have r0 := H4.out.2.2.2.1.cell 0 rfl; have r1 := H4.out.2.2.2.1.cell 1 rfl; have rz := H4.out.2.2.2.1.2; have rf0 := H4.out.2.2.2.1.frz 0 (by simp); have rf1 := H4.out.2.2.2.1.frz 1 (by simp); have m0 := H4.out.2.2.2.2.cell 0 rfl; have m1 := H4.out.2.2.2.2.cell 1 rfl; have m2 := H4.out.2.2.2.2.cell 2 rfl; have m3 := H4.out.2.2.2.2.cell 3 rfl; have m4 := H4.out.2.2.2.2.cell 4 rfl; have mz := H4.out.2.2.2.2.2; have mf1 := H4.out.2.2.2.2.frz 1 (by simp); have mf2 := H4.out.2.2.2.2.frz 2 (by simp); have mf3 := H4.out.2.2.2.2.frz 3 (by simp); have mf4 := H4.out.2.2.2.2.frz 4 (by simp); have g0 : w3.cell? ⟨gp, k * 5, none⟩ = some (.string own) := H4.out.1.2.1.cell (j := 0) rfl; have g1 : w3.cell? ⟨gp, k * 5 + 1, none⟩ = some (.slice q1 pms.length c1) := H4.out.1.2.1.cell (j := 1) rfl; have g2 : w3.cell? ⟨gp, k * 5 + 2, none⟩ = some (.bool false) := H4.out.1.2.1.cell (j := 2) rfl; have g3 : w3.cell? ⟨gp, k * 5 + 3, none⟩ = some (.string val) := H4.out.1.2.1.cell (j := 3) rfl; have g4 : w3.cell? ⟨gp, k * 5 + 4, none⟩ = some (.slice q2 vt.length c2) := H4.out.1.2.1.cell (j := 4) rfl; have gf0 := H4.out.1.2.1.frz (k * 5); have gf1 := H4.out.1.2.1.frz (k * 5 + 1); have gf2 := H4.out.1.2.1.frz (k * 5 + 2); have gf3 := H4.out.1.2.1.frz (k * 5 + 3); have gf4 := H4.out.1.2.1.frz (k * 5 + 4); have gz := H4.out.1.2.1.lt) | (go_at_call 61; refine (l10Value_n own z1 y1 L true val q2 (List.length (α := Sh.T .int) vt) c2 _ HZL.out.1 ((HA5.out.1.set (p := ⟨X.heap.size, 1, none⟩) (fun q => by have := H3.out.2.2.2.2.2; simp only [Btw] at q; omega) _).set (p := ⟨X.heap.size, 2, none⟩) (fun q => by have := H3.out.2.2.2.2.2; simp only [Btw] at q; omega) _).lies).mono ?_; rintro r w4 ⟨rfl, hb⟩; have H5 := Hid.intro (show Loc X lo ga (i * 3) gp (k * 5) (locS ga gp B1 B2) ((w3.setCell ⟨X.heap.size, 1, none⟩ (.slice z1 (List.length (α := Sh.T shPromise) L) y1)).setCell ⟨X.heap.size, 2, none⟩ (.bool true)) (.slice q1 pms.length c1) (.slice q2 vt.length c2) B1 B2 ((k : Int) + 1) b v own pms false val vt ∧ Bx ((w3.setCell ⟨X.heap.size, 1, none⟩ (.slice z1 (List.length (α := Sh.T shPromise) L) y1)).setCell ⟨X.heap.size, 2, none⟩ (.bool true)) w.heap.size [.slice (some ⟨ga, 0, none⟩) ac.length ka, .slice (some ⟨gp, 0, none⟩) pr.length kp] ∧ Bx ((w3.setCell ⟨X.heap.size, 1, none⟩ (.slice z1 (List.length (α := Sh.T shPromise) L) y1)).setCell ⟨X.heap.size, 2, none⟩ (.bool true)) (w.heap.size + 1) [.bool false, .int .i64 ((k : Int) + 1), .int .i64 (i : Int)] ∧ Bx ((w3.setCell ⟨X.heap.size, 1, none⟩ (.slice z1 (List.length (α := Sh.T shPromise) L) y1)).setCell ⟨X.heap.size, 2, none⟩ (.bool true)) (w.heap.size + 1 + 1) [.slice none 0 0, .slice none 0 0] ∧ Bx ((w3.setCell ⟨X.heap.size, 1, none⟩ (.slice z1 (List.length (α := Sh.T shPromise) L) y1)).setCell ⟨X.heap.size, 2, none⟩ (.bool true)) X.heap.size [.string own, .slice z1 (List.length (α := Sh.T shPromise) L) y1, .bool true, .string val, .slice q2 vt.length c2] ∧ OwnX ((w3.setCell ⟨X.heap.size, 1, none⟩ (.slice z1 (List.length (α := Sh.T shPromise) L) y1)).setCell ⟨X.heap.size, 2, none⟩ (.bool true)) X3.heap.size (.list tyPromise 96) [(.slice z1 (List.length (α := Sh.T shPromise) L) y1)] L (Btw X3.heap.size w3.heap.size) from ⟨(H4.out.1.newer (Nat.le_refl _) (fun j hj => by have := (HX.out.1.2.2.2.2.2.1 j hj).2.2.1; omega) 1 _).newer (Nat.le_refl _) (fun j hj => by have := (HX.out.1.2.2.2.2.2.1 j hj).2.2.1; omega) 2 _, (H4.out.2.1.other n11).other n11, (H4.out.2.2.1.other n12).other n12, (H4.out.2.2.2.1.other n13).other n13, (H4.out.2.2.2.2.set (k := 1) (by simp) _).set (k := 2) (by simp) _, (HA5.out.1.set (p := ⟨X.heap.size, 1, none⟩) (fun q => by have := H3.out.2.2.2.2.2; simp only [Btw] at q; omega) _).set (p := ⟨X.heap.size, 2, none⟩) (fun q => by have := H3.out.2.2.2.2.2; simp only [Btw] at q; omega) _⟩); have H6 := Hid.intro (And.intro (H5.out.1.next hb) (And.intro (H5.out.2.1.next hb) (And.intro (H5.out.2.2.1.next hb) (And.intro (H5.out.2.2.2.1.next hb) (H5.out.2.2.2.2.1.next hb))))); have HA7 := Hid.intro (H5.out.2.2.2.2.2.next hb); have HZ4 : Hid (w3.heap.size ≤ w4.heap.size) := Hid.intro (by have := hb.size; simp only [World.size_setCell] at this; exact this); clear hb; clear s0 s1 sz t0 t1 t2 tz r0 r1 rz rf0 rf1; clear m0 m1 m2 m3 m4 mz mf1 mf2 mf3 mf4 g0 g1 g2 g3 g4 gf0 gf1 gf2 gf3 gf4 gz; have s0 := H6.out.2.1.cell 0 rfl; have s1 := H6.out.2.1.cell 1 rfl; have sz := H6.out.2.1.2; have t0 := H6.out.2.2.1.cell 0 rfl; have t1 := H6.out.2.2.1.cell 1 rfl; have t2 := H6.out.2.2.1.cell 2 rfl; have tz := H6.out.2.2.1.2; have r0 := H6.out.2.2.2.1.cell 0 rfl; have r1 := H6.out.2.2.2.1.cell 1 rfl; have rz := H6.out.2.2.2.1.2; have rf0 := H6.out.2.2.2.1.frz 0 (by simp); have rf1 := H6.out.2.2.2.1.frz 1 (by simp); have m0 := H6.out.2.2.2.2.cell 0 rfl; have m1 := H6.out.2.2.2.2.cell 1 rfl; have m2 := H6.out.2.2.2.2.cell 2 rfl; have m3 := H6.out.2.2.2.2.cell 3 rfl; have m4 := H6.out.2.2.2.2.cell 4 rfl; have mz := H6.out.2.2.2.2.2; have mf1 := H6.out.2.2.2.2.frz 1 (by simp); have mf2 := H6.out.2.2.2.2.frz 2 (by simp); have mf3 := H6.out.2.2.2.2.frz 3 (by simp); have mf4 := H6.out.2.2.2.2.frz 4 (by simp); have g0 : w4.cell? ⟨gp, k * 5, none⟩ = some (.string own) := H6.out.1.2.1.cell (j := 0) rfl; have g1 : w4.cell? ⟨gp, k * 5 + 1, none⟩ = some (.slice q1 pms.length c1) := H6.out.1.2.1.cell (j := 1) rfl; have g2 : w4.cell? ⟨gp, k * 5 + 2, none⟩ = some (.bool false) := H6.out.1.2.1.cell (j := 2) rfl; have g3 : w4.cell? ⟨gp, k * 5 + 3, none⟩ = some (.string val) := H6.out.1.2.1.cell (j := 3) rfl; have g4 : w4.cell? ⟨gp, k * 5 + 4, none⟩ = some (.slice q2 vt.length c2) := H6.out.1.2.1.cell (j := 4) rfl; have gf0 := H6.out.1.2.1.frz (k * 5); have gf1 := H6.out.1.2.1.frz (k * 5 + 1); have gf2 := H6.out.1.2.1.frz (k * 5 + 2); have gf3 := H6.out.1.2.1.frz (k * 5 + 3); have gf4 := H6.out.1.2.1.frz (k * 5 + 4); have gz := H6.out.1.2.1.lt))
      have HL5 := Hid.intro (H6.out.1.newer (g := X.heap.size) (Nat.le_refl _) (fun j hj => by have := (HX.out.1.2.2.2.2.2.1 j hj).2.2.1; omega) 3 (.string (fixV own L)))
      have HF := Hid.intro (HL5.out.put5 (v5 := (.slice z1 (List.length (α := Sh.T shPromise) L) y1)) (v6 := .slice q2 vt.length c2) (B5 := Btw X3.heap.size w3.heap.size) (B6 := B2) (own' := own) (ps' := L) (fx' := true) (val' := fixV own L) (vt' := vt) ((HA7.out.lower (Nat.le_trans HX.out.1.2.2.2.2.2.2.2.2.2.2 (by have := H3.out.2.2.2.2.2; omega))).set (p := ⟨X.heap.size, 3, none⟩) (fun q => by have := H3.out.2.2.2.2.2; simp only [Btw] at q; omega) _) HL5.out.2.2.2.1 (fun j hj hq => by have h1 := (HX.out.1.2.2.2.2.2.1 j (Or.inr hq)).2.2.1; have := H3.out.2.2.2.2.2; simp only [Btw] at hj; omega) (fun j hj => by
        rcases hj with hj | hj
        · have h3 := H3.out.2.2.2.2.2
          have hz4 := HZ4.out
          simp only [Btw] at hj
          exact ⟨by omega, by omega, by simp only [World.size_setCell]; omega, Or.inr (by omega)⟩
        · exact HL5.out.2.2.2.2.2.1 j (Or.inr hj)))
      exact bodyPost_ret (v := .tuple #[.agg #[.slice (some ⟨ga, 0, none⟩) ac.length ka, .slice (some ⟨gp, 0, none⟩) pr.length kp], .bool true]) (by simp [results, Try.results48, go_sem, *]) rfl (StQ.yes (c := w.heap.size + 1 + 1) HN.out (HBK.out _ _ _ _ _ _ _ _ _ _ _ _ _ HF.out) (by omega) (by have := HX.out.2.2.2.2.2.2; omega) HO.out.2.1 HX.out.2.2.2.2.2.1 HX.out.2.2.2.2.1 HF.out.2.2.2.2.2.2.2.2.2.1 _ _)
    · have HN : Hid (stB ac pr false ((k : Int) + 1) (i : Int) = some (ac.set i ((k : Int) + 1, b, v, ()), pr.set k (own, L, false, val, vt, ()))) := Hid.intro (by rw [HN0.out]; simp [hdc])
      have hdc' : 2 * (L.length : Int) ≤ (ac.length : Int) := by omega
      go_wp2_with (first | (go_at_call 58; refine (l1In_any _ _ _ _).mono ?_; rintro e w' ⟨rfl, hw⟩; have hw := hw.symm; subst hw; first | rw [d1] | rw [d2]) | (go_at_call 85; rw [← hY, ← hX3]; refine (l10Promise_n _ pms i b v lo B1 _ (by have := HGS.out.2.1; omega) HGS.out.2.2.1 H3.out.1.2.2.1).mono ?_; rintro r w3 ⟨v5, rfl, hA5⟩; (have hA5 : ApS tyPromise 96 X3 w3 v5 L := HLD.out ▸ hA5); obtain ⟨z1, y1, hv5⟩ := hA5.1.vform; (have hv5 : v5 = .slice z1 (List.length (α := Sh.T shPromise) L) y1 := hv5); subst hv5; have H4 := Hid.intro (And.intro (H3.out.1.next hA5.2) (And.intro (H3.out.2.1.next hA5.2) (And.intro (H3.out.2.2.1.next hA5.2) (And.intro (H3.out.2.2.2.1.next hA5.2) (H3.out.2.2.2.2.1.next hA5.2))))); have HA5 := Hid.intro hA5; clear hA5; clear s0 s1 sz t0 t1 t2 tz r0 r1 rz rf0 rf1; clear u0 u1 u2 uf0 uf1 uf2 e0 e1 e2 e3 e4; have s0 := H4.out.2.1.cell 0 rfl; have s1 := H4.out.2.1.cell 1 rfl; have sz := H4.out.2.1.2; have t0 := H4.out.2.2.1.cell 0 rfl; have t1 := H4.out.2.2.1.cell 1 rfl; have t2 := H4.out.2.2.1.cell 2 rfl; have tz := H4.out.2.2.1.2; have r0 := H4.out.2.2.2.1.cell 0 rfl; have r1 := H4.out.2.2.2.1.cell 1 rfl; have rz := H4.out.2.2.2.1.2; have rf0 := H4.out.2.2.2.1.frz 0 (by simp); have rf1 := H4.out.2.2.2.1.frz 1 (by simp); have m0 := H4.out.2.2.2.2.cell 0 rfl; have m1 := H4.out.2.2.2.2.cell 1 rfl; have m2 := H4.out.2.2.2.2.cell 2 rfl; have m3 := H4.out.2.2.2.2.cell 3 rfl; have m4 := H4.out.2.2.2.2.cell 4 rfl; have mz := H4.out.2.2.2.2.2; have mf1 := H4.out.2.2.2.2.frz 1 (by simp); have mf2 := H4.out.2.2.2.2.frz 2 (by simp); have mf3 := H4.out.2.2.2.2.frz 3 (by simp); have mf4 := H4.out.2.2.2.2.frz 4 (by simp); have g0 : w3.cell? ⟨gp, k * 5, none⟩ = some (.string own) := H4.out.1.2.1.cell (j := 0) rfl; have g1 : w3.cell? ⟨gp, k * 5 + 1, none⟩ = some (.slice q1 pms.length c1) := H4.out.1.2.1.cell (j := 1) rfl; have g2 : w3.cell? ⟨gp, k * 5 + 2, none⟩ = some (.bool false) := H4.out.1.2.1.cell (j := 2) rfl; have g3 : w3.cell? ⟨gp, k * 5 + 3, none⟩ = some (.string val) := H4.out.1.2.1.cell (j := 3) rfl; have g4 : w3.cell? ⟨gp, k * 5 + 4, none⟩ = some (.slice q2 vt.length c2) := H4.out.1.2.1.cell (j := 4) rfl; have gf0 := H4.out.1.2.1.frz (k * 5); have gf1 := H4.out.1.2.1.frz (k * 5 + 1); have gf2 := H4.out.1.2.1.frz (k * 5 + 2); have gf3 := H4.out.1.2.1.frz (k * 5 + 3); have gf4 := H4.out.1.2.1.frz (k * 5 + 4); have gz := H4.out.1.2.1.lt) | (go_at_call 61; refine (l10Value_n own z1 y1 L true val q2 (List.length (α := Sh.T .int) vt) c2 _ HZL.out.1 ((HA5.out.1.set (p := ⟨X.heap.size, 1, none⟩) (fun q => by have := H3.out.2.2.2.2.2; simp only [Btw] at q; omega) _).set (p := ⟨X.heap.size, 2, none⟩) (fun q => by have := H3.out.2.2.2.2.2; simp only [Btw] at q; omega) _).lies).mono ?_; rintro r w4 ⟨rfl, hb⟩; have H5 := Hid.intro (show Loc X lo ga (i * 3) gp (k * 5) (locS ga gp B1 B2) ((w3.setCell ⟨X.heap.size, 1, none⟩ (.slice z1 (List.length (α := Sh.T shPromise) L) y1)).setCell ⟨X.heap.size, 2, none⟩ (.bool true)) (.slice q1 pms.length c1) (.slice q2 vt.length c2) B1 B2 ((k : Int) + 1) b v own pms false val vt ∧ Bx ((w3.setCell ⟨X.heap.size, 1, none⟩ (.slice z1 (List.length (α := Sh.T shPromise) L) y1)).setCell ⟨X.heap.size, 2, none⟩ (.bool true)) w.heap.size [.slice (some ⟨ga, 0, none⟩) ac.length ka, .slice (some ⟨gp, 0, none⟩) pr.length kp] ∧ Bx ((w3.setCell ⟨X.heap.size, 1, none⟩ (.slice z1 (List.length (α := Sh.T shPromise) L) y1)).setCell ⟨X.heap.size, 2, none⟩ (.bool true)) (w.heap.size + 1) [.bool false, .int .i64 ((k : Int) + 1), .int .i64 (i : Int)] ∧ Bx ((w3.setCell ⟨X.heap.size, 1, none⟩ (.slice z1 (List.length (α := Sh.T shPromise) L) y1)).setCell ⟨X.heap.size, 2, none⟩ (.bool true)) (w.heap.size + 1 + 1) [.slice none 0 0, .slice none 0 0] ∧ Bx ((w3.setCell ⟨X.heap.size, 1, none⟩ (.slice z1 (List.length (α := Sh.T shPromise) L) y1)).setCell ⟨X.heap.size, 2, none⟩ (.bool true)) X.heap.size [.string own, .slice z1 (List.length (α := Sh.T shPromise) L) y1, .bool true, .string val, .slice q2 vt.length c2] ∧ OwnX ((w3.setCell ⟨X.heap.size, 1, none⟩ (.slice z1 (List.length (α := Sh.T shPromise) L) y1)).setCell ⟨X.heap.size, 2, none⟩ (.bool true)) X3.heap.size (.list tyPromise 96) [(.slice z1 (List.length (α := Sh.T shPromise) L) y1)] L (Btw X3.heap.size w3.heap.size) from ⟨(H4.out.1.newer (Nat.le_refl _) (fun j hj => by have := (HX.out.1.2.2.2.2.2.1 j hj).2.2.1; omega) 1 _).newer (Nat.le_refl _) (fun j hj => by have := (HX.out.1.2.2.2.2.2.1 j hj).2.2.1; omega) 2 _, (H4.out.2.1.other n11).other n11, (H4.out.2.2.1.other n12).other n12, (H4.out.2.2.2.1.other n13).other n13, (H4.out.2.2.2.2.set (k := 1) (by simp) _).set (k := 2) (by simp) _, (HA5.out.1.set (p := ⟨X.heap.size, 1, none⟩) (fun q => by have := H3.out.2.2.2.2.2; simp only [Btw] at q; omega) _).set (p := ⟨X.heap.size, 2, none⟩) (fun q => by have := H3.out.2.2.2.2.2; simp only [Btw] at q; omega) _⟩); have H6 := Hid.intro (And.intro (H5.out.1.next hb) (And.intro (H5.out.2.1.next hb) (And.intro (H5.out.2.2.1.next hb) (And.intro (H5.out.2.2.2.1.next hb) (H5.out.2.2.2.2.1.next hb))))); have HA7 := Hid.intro (H5.out.2.2.2.2.2.next hb); have HZ4 : Hid (w3.heap.size ≤ w4.heap.size) := Hid.intro (by have := hb.size; simp only [World.size_setCell] at this; exact this); clear hb; clear s0 s1 sz t0 t1 t2 tz r0 r1 rz rf0 rf1; clear m0 m1 m2 m3 m4 mz mf1 mf2 mf3 mf4 g0 g1 g2 g3 g4 gf0 gf1 gf2 gf3 gf4 gz; have s0 := H6.out.2.1.cell 0 rfl; have s1 := H6.out.2.1.cell 1 rfl; have sz := H6.out.2.1.2; have t0 := H6.out.2.2.1.cell 0 rfl; have t1 := H6.out.2.2.1.cell 1 rfl; have t2 := H6.out.2.2.1.cell 2 rfl; have tz := H6.out.2.2.1.2; have r0 := H6.out.2.2.2.1.cell 0 rfl; have r1 := H6.out.2.2.2.1.cell 1 rfl; have rz := H6.out.2.2.2.1.2; have rf0 := H6.out.2.2.2.1.frz 0 (by simp); have rf1 := H6.out.2.2.2.1.frz 1 (by simp); have m0 := H6.out.2.2.2.2.cell 0 rfl; have m1 := H6.out.2.2.2.2.cell 1 rfl; have m2 := H6.out.2.2.2.2.cell 2 rfl; have m3 := H6.out.2.2.2.2.cell 3 rfl; have m4 := H6.out.2.2.2.2.cell 4 rfl; have mz := H6.out.2.2.2.2.2; have mf1 := H6.out.2.2.2.2.frz 1 (by simp); have mf2 := H6.out.2.2.2.2.frz 2 (by simp); have mf3 := H6.out.2.2.2.2.frz 3 (by simp); have mf4 := H6.out.2.2.2.2.frz 4 (by simp); have g0 : w4.cell? ⟨gp, k * 5, none⟩ = some (.string own) := H6.out.1.2.1.cell (j := 0) rfl; have g1 : w4.cell? ⟨gp, k * 5 + 1, none⟩ = some (.slice q1 pms.length c1) := H6.out.1.2.1.cell (j := 1) rfl; have g2 : w4.cell? ⟨gp, k * 5 + 2, none⟩ = some (.bool false) := H6.out.1.2.1.cell (j := 2) rfl; have g3 : w4.cell? ⟨gp, k * 5 + 3, none⟩ = some (.string val) := H6.out.1.2.1.cell (j := 3) rfl; have g4 : w4.cell? ⟨gp, k * 5 + 4, none⟩ = some (.slice q2 vt.length c2) := H6.out.1.2.1.cell (j := 4) rfl; have gf0 := H6.out.1.2.1.frz (k * 5); have gf1 := H6.out.1.2.1.frz (k * 5 + 1); have gf2 := H6.out.1.2.1.frz (k * 5 + 2); have gf3 := H6.out.1.2.1.frz (k * 5 + 3); have gf4 := H6.out.1.2.1.frz (k * 5 + 4); have gz := H6.out.1.2.1.lt))
      have HZ4 : Hid (w3.heap.size ≤ w3.heap.size) := Hid.intro (Nat.le_refl _)
      have HL5 := Hid.intro (H4.out.1.newer (g := X.heap.size) (Nat.le_refl _) (fun j hj => by have := (HX.out.1.2.2.2.2.2.1 j hj).2.2.1; omega) 1 (.slice z1 (List.length (α := Sh.T shPromise) L) y1))
      have HF := Hid.intro (HL5.out.put5 (v5 := (.slice z1 (List.length (α := Sh.T shPromise) L) y1)) (v6 := .slice q2 vt.length c2) (B5 := Btw X3.heap.size w3.heap.size) (B6 := B2) (own' := own) (ps' := L) (fx' := false) (val' := val) (vt' := vt) ((HA5.out.1.lower (Nat.le_trans HX.out.1.2.2.2.2.2.2.2.2.2.2 (by have := H3.out.2.2.2.2.2; omega))).set (p := ⟨X.heap.size, 1, none⟩) (fun q => by have := H3.out.2.2.2.2.2; simp only [Btw] at q; omega) _) HL5.out.2.2.2.1 (fun j hj hq => by have h1 := (HX.out.1.2.2.2.2.2.1 j (Or.inr hq)).2.2.1; have := H3.out.2.2.2.2.2; simp only [Btw] at hj; omega) (fun j hj => by
        rcases hj with hj | hj
        · have h3 := H3.out.2.2.2.2.2
          have hz4 := HZ4.out
          simp only [Btw] at hj
          exact ⟨by omega, by omega, by simp only [World.size_setCell]; omega, Or.inr (by omega)⟩
        · exact HL5.out.2.2.2.2.2.1 j (Or.inr hj)))
      exact bodyPost_ret (v := .tuple #[.agg #[.slice (some ⟨ga, 0, none⟩) ac.length ka, .slice (some ⟨gp, 0, none⟩) pr.length kp], .bool true]) (by simp [results, Try.results48, go_sem, *]) rfl (StQ.yes (c := w.heap.size + 1 + 1) HN.out (HBK.out _ _ _ _ _ _ _ _ _ _ _ _ _ HF.out) (by omega) (by have := HX.out.2.2.2.2.2.2; omega) HO.out.2.1 HX.out.2.2.2.2.2.1 HX.out.2.2.2.2.1 HF.out.2.2.2.2.2.2.2.2.2.1 _ _)
  · cases fx
    · have HN : Hid (stB ac pr true ((k : Int) + 1) (i : Int) = none) := Hid.intro (by rw [HS.out]; rfl)
      go_wp2_with (first | (go_at_call 58; refine (l1In_any _ _ _ _).mono ?_; rintro e w' ⟨rfl, hw⟩; have hw := hw.symm; subst hw; first | rw [d1] | rw [d2]) | (go_at_call 83; refine (l1Has_any _ _ _ _ _ _ (by have := HGS.out.2.2.2.2.2.2.1; omega) HVS.out).mono ?_; rintro e w' ⟨rfl, hw⟩; have hw := hw.symm; subst hw; rw [hHB]))
      exact bodyPost_ret (v := .tuple #[.agg #[.slice (some ⟨ga, 0, none⟩) ac.length ka, .slice (some ⟨gp, 0, none⟩) pr.length kp], .bool false]) (by simp [results, Try.results48, go_sem, *]) rfl (StQ.no HN.out HO.out.1 (HB2.out _ _))
    by_cases hpb : p ≤ (k : Int) + 1
    case neg =>
      have hpb' : (k : Int) + 1 < p := by omega
      have HN : Hid (stB ac pr true ((k : Int) + 1) (i : Int) = none) := Hid.intro (by rw [HS.out]; unfold stE tkV; simp [hpb])
      go_wp2_with (first | (go_at_call 58; refine (l1In_any _ _ _ _).mono ?_; rintro e w' ⟨rfl, hw⟩; have hw := hw.symm; subst hw; first | rw [d1] | rw [d2]) | (go_at_call 83; refine (l1Has_any _ _ _ _ _ _ (by have := HGS.out.2.2.2.2.2.2.1; omega) HVS.out).mono ?_; rintro e w' ⟨rfl, hw⟩; have hw := hw.symm; subst hw; rw [hHB]))
      exact bodyPost_ret (v := .tuple #[.agg #[.slice (some ⟨ga, 0, none⟩) ac.length ka, .slice (some ⟨gp, 0, none⟩) pr.length kp], .bool false]) (by simp [results, Try.results48, go_sem, *]) rfl (StQ.no HN.out HO.out.1 (HB2.out _ _))
    cases hHB : hasN (atI vt) (i : Int) vt.length
    case true =>
      have HN : Hid (stB ac pr true ((k : Int) + 1) (i : Int) = none) := Hid.intro (by rw [HS.out]; unfold stE tkV; rw [← has_mem, hHB]; simp)
      go_wp2_with (first | (go_at_call 58; refine (l1In_any _ _ _ _).mono ?_; rintro e w' ⟨rfl, hw⟩; have hw := hw.symm; subst hw; first | rw [d1] | rw [d2]) | (go_at_call 83; refine (l1Has_any _ _ _ _ _ _ (by have := HGS.out.2.2.2.2.2.2.1; omega) HVS.out).mono ?_; rintro e w' ⟨rfl, hw⟩; have hw := hw.symm; subst hw; rw [hHB]))
      exact bodyPost_ret (v := .tuple #[.agg #[.slice (some ⟨ga, 0, none⟩) ac.length ka, .slice (some ⟨gp, 0, none⟩) pr.length kp], .bool false]) (by simp [results, Try.results48, go_sem, *]) rfl (StQ.no HN.out HO.out.1 (HB2.out _ _))
    have HN : Hid (stB ac pr true ((k : Int) + 1) (i : Int) = some (ac.set i ((k : Int) + 1, (k : Int) + 1, val, ()), pr.set k (own, pms, true, val, insI vt i, ()))) := Hid.intro (by rw [HS.out]; unfold stE tkV; rw [← has_mem, hHB]; simp [hpb])
    obtain ⟨Y, hY⟩ : ∃ x, x = (((X.setCell ⟨ga, i * 3, none⟩ (.int .i64 ((k : Int) + 1))).setCell ⟨ga, i * 3 + 1, none⟩ (.int .i64 ((k : Int) + 1))).setCell ⟨ga, i * 3 + 2, none⟩ (.string val)) := ⟨_, rfl⟩
    obtain ⟨X3, hX3⟩ : ∃ x, x = (Y.alloc (.cells #[.string own, .slice q1 pms.length c1, .bool true, .string val, .slice q2 vt.length c2] 43)).alloc (.cells #[.int .i64 p, .int .i64 b, .string v] 91) := ⟨_, rfl⟩
    have hYz : Y.heap.size = X.heap.size := by rw [hY]; simp only [World.size_setCell]
    have hYX : Below Y.heap.size Y X3 := hX3 ▸ ((Below.refl _ _).alloc (Nat.le_refl _) _).alloc (by simp) _
    have hz3 : X3.heap.size = X.heap.size + 2 := by rw [hX3]; simp [hYz]
    have H3 : Hid (Loc X lo ga (i * 3) gp (k * 5) (locS ga gp B1 B2) X3 (.slice q1 pms.length c1) (.slice q2 vt.length c2) B1 B2 ((k : Int) + 1) ((k : Int) + 1) val own pms true val vt ∧ Bx X3 w.heap.size [.slice (some ⟨ga, 0, none⟩) ac.length ka, .slice (some ⟨gp, 0, none⟩) pr.length kp] ∧ Bx X3 (w.heap.size + 1) [.bool true, .int .i64 ((k : Int) + 1), .int .i64 (i : Int)] ∧ Bx X3 (w.heap.size + 1 + 1) [.slice none 0 0, .slice none 0 0] ∧ Bx X3 X.heap.size [.string own, .slice q1 pms.length c1, .bool true, .string val, .slice q2 vt.length c2] ∧ X3.heap.size = X.heap.size + 2) := ⟨(hY ▸ HX.out.1.setA3 _ _ _ : Loc X lo ga (i * 3) gp (k * 5) (locS ga gp B1 B2) Y (.slice q1 pms.length c1) (.slice q2 vt.length c2) B1 B2 ((k : Int) + 1) ((k : Int) + 1) val own pms true val vt).next hYX, (hY ▸ ((HX.out.2.1.other n4).other n4).other n4 : Bx Y _ _).next hYX, (hY ▸ ((HX.out.2.2.1.other n6).other n6).other n6 : Bx Y _ _).next hYX, (hY ▸ ((HX.out.2.2.2.1.other n8).other n8).other n8 : Bx Y _ _).next hYX, hX3 ▸ (Bx.newAt hYz).alloc _, hz3⟩
    clear hYX hYz hz3
    go_wp2_with (first | (go_at_call 58; refine (l1In_any _ _ _ _).mono ?_; rintro e w' ⟨rfl, hw⟩; have hw := hw.symm; subst hw; first | rw [d1] | rw [d2]) | (go_at_call 83; refine (l1Has_any _ _ _ _ _ _ (by have := HGS.out.2.2.2.2.2.2.1; omega) HVS.out).mono ?_; rintro e w' ⟨rfl, hw⟩; have hw := hw.symm; subst hw; rw [hHB]) | (go_at_call 84; rw [← hY, ← hX3]; refine (l9Put_n _ vt _ lo B2 _ (by have := HGS.out.2.2.2.2.2.2.1; omega) HGS.out.2.2.2.2.2.2.2.1 H3.out.1.2.2.2.1).mono ?_; rintro r w3 ⟨v6, rfl, hA6⟩; obtain ⟨z2, y2, hv6⟩ := hA6.1.vform; (have hv6 : v6 = .slice z2 (List.length (α := Sh.T .int) (insI vt i)) y2 := hv6); subst hv6; have H4 := Hid.intro (And.intro (H3.out.1.next hA6.2) (And.intro (H3.out.2.1.next hA6.2) (And.intro (H3.out.2.2.1.next hA6.2) (And.intro (H3.out.2.2.2.1.next hA6.2) (H3.out.2.2.2.2.1.next hA6.2))))); have HA6 := Hid.intro hA6; clear hA6 s0 s1 sz t0 t1 t2 tz r0 r1 rz rf0 rf1 u0 u1 u2 uf0 uf1 uf2 e0 e1 e2 e3 e4; have s0 := H4.out.2.1.cell 0 rfl; have s1 := H4.out.2.1.cell 1 rfl; have sz := H4.out.2.1.2; have t0 := H4.out.2.2.1.cell 0 rfl; have t1 := H4.out.2.2.1.cell 1 rfl; have t2 := H4.out.2.2.1.cell 2 rfl; have tz := H4.out.2.2.1.2; have r0 := H4.out.2.2.2.1.cell 0 rfl; have r1 := H4.out.2.2.2.1.cell 1 rfl; have rz := H4.out.2.2.2.1.2; have rf0 := H4.out.2.2.2.1.frz 0 (by simp); have rf1 := H4.out.2.2.2.1.frz 1 (by simp); have m0 := H4.out.2.2.2.2.cell 0 rfl; have m1 := H4.out.2.2.2.2.cell 1 rfl; have m2 := H4.out.2.2.2.2.cell 2 rfl; have m3 := H4.out.2.2.2.2.cell 3 rfl; have m4 := H4.out.2.2.2.2.cell 4 rfl; have mz := H4.out.2.2.2.2.2; have mf4 := H4.out.2.2.2.2.frz 4 (by simp); have g0 : w3.cell? ⟨gp, k * 5, none⟩ = some (.string own) := H4.out.1.2.1.cell (j := 0) rfl; have g1 : w3.cell? ⟨gp, k * 5 + 1, none⟩ = some (.slice q1 pms.length c1) := H4.out.1.2.1.cell (j := 1) rfl; have g2 : w3.cell? ⟨gp, k * 5 + 2, none⟩ = some (.bool true) := H4.out.1.2.1.cell (j := 2) rfl; have g3 : w3.cell? ⟨gp, k * 5 + 3, none⟩ = some (.string val) := H4.out.1.2.1.cell (j := 3) rfl; have g4 : w3.cell? ⟨gp, k * 5 + 4, none⟩ = some (.slice q2 vt.length c2) := H4.out.1.2.1.cell (j := 4) rfl; have gf0 := H4.out.1.2.1.frz (k * 5); have gf1 := H4.out.1.2.1.frz (k * 5 + 1); have gf2 := H4.out.1.2.1.frz (k * 5 + 2); have gf3 := H4.out.1.2.1.frz (k * 5 + 3); have gf4 := H4.out.1.2.1.frz (k * 5 + 4); have gz := H4.out.1.2.1.lt))
    have HL5 := Hid.intro (H4.out.1.newer (g := X.heap.size) (Nat.le_refl _) (fun j hj => by have := (HX.out.1.2.2.2.2.2.1 j hj).2.2.1; omega) 4 (.slice z2 (List.length (α := Sh.T .int) (insI vt i)) y2))
    have HF := Hid.intro (HL5.out.put5 (v5 := .slice q1 pms.length c1) (v6 := (.slice z2 (List.length (α := Sh.T .int) (insI vt i)) y2)) (B5 := B1) (B6 := Btw X3.heap.size w3.heap.size) (own' := own) (ps' := pms) (fx' := true) (val' := val) (vt' := insI vt i) HL5.out.2.2.1 ((HA6.out.1.lower (Nat.le_trans HX.out.1.2.2.2.2.2.2.2.2.2.2 (by have := H3.out.2.2.2.2.2; omega))).set (p := ⟨X.heap.size, 4, none⟩) (fun q => by have := H3.out.2.2.2.2.2; simp only [Btw] at q; omega) _) (fun j hj hq => by have h1 := (HX.out.1.2.2.2.2.2.1 j (Or.inl hj)).2.2.1; have := H3.out.2.2.2.2.2; simp only [Btw] at hq; omega) (fun j hj => by
      rcases hj with hj | hj
      · exact HL5.out.2.2.2.2.2.1 j (Or.inl hj)
      · have h3 := H3.out.2.2.2.2.2
        simp only [Btw] at hj
        exact ⟨by omega, by omega, by simp only [World.size_setCell]; omega, Or.inr (by omega)⟩))
    exact bodyPost_ret (v := .tuple #[.agg #[.slice (some ⟨ga, 0, none⟩) ac.length ka, .slice (some ⟨gp, 0, none⟩) pr.length kp], .bool true]) (by simp [results, Try.results48, go_sem, *]) rfl (StQ.yes (c := w.heap.size + 1 + 1) HN.out (HBK.out _ _ _ _ _ _ _ _ _ _ _ _ _ HF.out) (by omega) (by have := HX.out.2.2.2.2.2.2; omega) HO.out.2.1 HX.out.2.2.2.2.2.1 HX.out.2.2.2.2.1 HF.out.2.2.2.2.2.2.2.2.2.1 _ _)

end Go.Proofs.Ytmhkfangfhanlaa
