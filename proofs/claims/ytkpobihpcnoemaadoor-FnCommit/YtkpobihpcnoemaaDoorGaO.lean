/- Put together of: MarkT, ShM. -/
import Derived.Test.YtkpobihpcnoemaaDoorProg
import Derived.Test.YtkpobihpcnoemaaDoorGaK
import Derived.WalkKit
import Derived.WalkSpells
import Derived.WalkLawsBesides
import Derived.Lib.AppendStr
import Derived.Lib.SlBytesRow
import Derived.Test.YtkpobihpcnoemaaDoorGaD
/- The law's own markText: a text for each number. -/
namespace Go.Proofs.YtkpobihpcnoemaaDoor
open Go.RowKit
set_option linter.unusedVariables false

/-- One byte as a text. -/
def oneB (y : Int) : ByteArray := ⟨[UInt8.ofNat (y % 256).toNat].toArray⟩
theorem oneB_size (y : Int) : (oneB y).size = 1 := rfl
theorem oneB_byte (y : Int) (h0 : 0 ≤ y) (h1 : y ≤ 255) : y = ((UInt8.ofNat (y % 256).toNat).toNat : Int) := by
  rw [UInt8.toNat_ofNat_of_lt' (by simp; omega)]; omega
theorem conv1 (W : World) (y : Int) (h0 : 0 ≤ y) (h1 : y ≤ 255) :
    (convert 22 9 (.slice (some ⟨W.heap.size, 0, none⟩) 1 1)).run Tryd.prog (W.alloc (.cells #[.int .u8 y] 5)) = .ok (.string (oneB y)) (W.alloc (.cells #[.int .u8 y] 5)) := by
  refine Lib.run_convert_whole _ 22 5 9 Tryd.underlying22 Tryd.underlying5 Tryd.underlying9 W.heap.size 0 (oneB y) (fun i hi => ?_) 1
  have hi0 : i = 0 := by have : i < 1 := hi; omega
  subst hi0
  rw [World.cell?_alloc_new]
  show some (Value.int .u8 y) = some (Value.int .u8 ((UInt8.ofNat (y % 256).toNat).toNat : Int))
  rw [← oneB_byte y h0 h1]

/-- The digits of k ahead of a text. -/
def digs : Nat → Nat → ByteArray → ByteArray
  | 0, _, out => out
  | f + 1, k, out => if k = 0 then out else digs f (k / 10) (oneB (48 + (k : Int) % 10) ++ out)
def mtx (q : Int) : ByteArray := if q ≤ 0 then ⟨[109, 48].toArray⟩ else ⟨[109].toArray⟩ ++ digs q.toNat q.toNat ⟨#[]⟩
theorem digs_zero (f : Nat) (out : ByteArray) : digs f 0 out = out := by cases f <;> rfl
theorem digs_step {f k : Nat} {out : ByteArray} (hk : 0 < k) (hf : k ≤ f) : ∃ f', k / 10 ≤ f' ∧ digs f k out = digs f' (k / 10) (oneB (48 + (k : Int) % 10) ++ out) := by
  cases f with
  | zero => omega
  | succ f => exact ⟨f, by omega, by simp only [digs, if_neg (show ¬ k = 0 by omega)]⟩

theorem dig_size {k s : Nat} (hk : 0 < k) (h : k * 10 ^ s ≤ 8796093022208) : s ≤ 12 := by
  rcases Nat.lt_or_ge 12 s with g | g
  · have h1 : 10 ^ 13 ≤ 10 ^ s := Nat.pow_le_pow_right (by omega) g
    have h2 : 1 * 10 ^ s ≤ k * 10 ^ s := Nat.mul_le_mul_right _ hk
    have h3 : (10 : Nat) ^ 13 = 10000000000000 := by decide
    omega
  · exact g
theorem dig_next {k s : Nat} (h : k * 10 ^ s ≤ 8796093022208) : k / 10 * 10 ^ (s + 1) ≤ 8796093022208 := by
  have h1 : k / 10 * 10 ≤ k := Nat.div_mul_le_self k 10
  have h2 : k / 10 * 10 * 10 ^ s ≤ k * 10 ^ s := Nat.mul_le_mul_right _ h1
  have h3 : k / 10 * 10 ^ (s + 1) = k / 10 * 10 * 10 ^ s := by rw [Nat.pow_succ, Nat.mul_comm (10 ^ s) 10, Nat.mul_assoc]
  omega

end Go.Proofs.YtkpobihpcnoemaaDoor
/- Marks on shapes: each number, text and bool of a list gets one of its own. -/
namespace Go.Proofs.YtkpobihpcnoemaaDoor
open Go.RowKit
set_option linter.unusedVariables false

/-- How many marks a datum takes. -/
def cntD : (s : Sh) → s.T → Nat
  | .int, _ => 1
  | .str, _ => 1
  | .bool, _ => 1
  | .nil, _ => 0
  | .pair a b, x => cntD a x.1 + cntD b x.2
  | .list e, l => (l.map (cntD e)).sum
def mkLs {α : Type} (f : α → Int → α) (c : α → Nat) : List α → Int → List α
  | [], _ => []
  | x :: t, q => f x q :: mkLs f c t (q + (c x : Int))
/-- The datum with its marks from q on. -/
def mkD : (s : Sh) → s.T → Int → s.T
  | .int, _, q => q
  | .str, _, q => mtx q
  | .bool, _, q => q % 3 == 0
  | .nil, x, _ => x
  | .pair a b, x, q => (mkD a x.1 q, mkD b x.2 (q + (cntD a x.1 : Int)))
  | .list e, l, q => mkLs (mkD e) (cntD e) l q
theorem mkLs_len {α : Type} (f : α → Int → α) (c : α → Nat) : ∀ (l : List α) (q : Int), (mkLs f c l q).length = l.length
  | [], _ => rfl
  | x :: t, q => by simp [mkLs, mkLs_len f c t]
theorem mkD_len (e : Sh) (l : List e.T) (q : Int) : (mkD (.list e) l q).length = l.length := mkLs_len _ _ _ _
theorem mkLs_at {α : Type} (f : α → Int → α) (c : α → Nat) : ∀ (l : List α) (q : Int) (k : Nat) (h : k < l.length) (h' : k < (mkLs f c l q).length), (mkLs f c l q)[k] = f l[k] (q + (((l.take k).map c).sum : Nat))
  | [], _, _, h, _ => absurd h (by simp)
  | x :: t, q, 0, _, _ => by simp [mkLs]
  | x :: t, q, k + 1, h, h' => by
    simp only [mkLs, List.getElem_cons_succ]
    rw [mkLs_at f c t _ k (by simpa using h)]
    simp only [List.take_succ_cons, List.map_cons, List.sum_cons]
    congr 1
    omega
/-- How many marks the first k take. -/
def cntU (e : Sh) (l : List e.T) (k : Nat) : Nat := ((l.take k).map (cntD e)).sum
theorem cntU_zero (e : Sh) (l : List e.T) : cntU e l 0 = 0 := by simp [cntU]
theorem cntU_succ (e : Sh) (l : List e.T) (k : Nat) (h : k < l.length) : cntU e l (k + 1) = cntU e l k + cntD e l[k] := by
  unfold cntU
  rw [List.take_succ_eq_append_getElem h, List.map_append, List.sum_append]; simp
theorem cntU_all (e : Sh) (l : List e.T) : cntU e l l.length = cntD (.list e) l := by unfold cntU; rw [List.take_length]; rfl
theorem cntU_le (e : Sh) (l : List e.T) (k : Nat) : cntU e l k ≤ cntD (.list e) l := by
  unfold cntU
  show _ ≤ (l.map (cntD e)).sum
  have := List.take_append_drop k l
  conv => rhs; rw [← this, List.map_append, List.sum_append]
  omega
theorem mkD_at (e : Sh) (l : List e.T) (q : Int) (k : Nat) (h : k < l.length) (h' : k < (mkD (.list e) l q).length) : (mkD (.list e) l q)[k] = mkD e l[k] (q + (cntU e l k : Nat)) := mkLs_at _ _ _ _ _ h h'
/-- The first k are marked. -/
def mkU (e : Sh) (l : List e.T) (q : Int) (k : Nat) : List e.T := (mkD (.list e) l q).take k ++ l.drop k
theorem mkU_len (e : Sh) (l : List e.T) (q : Int) (k : Nat) : (mkU e l q k).length = l.length := by
  unfold mkU; rw [List.length_append, List.length_take, mkD_len, List.length_drop]; omega
theorem mkU_zero (e : Sh) (l : List e.T) (q : Int) : mkU e l q 0 = l := by simp [mkU]
theorem mkU_all (e : Sh) (l : List e.T) (q : Int) : mkU e l q l.length = mkD (.list e) l q := by
  unfold mkU; rw [List.drop_length, List.append_nil, List.take_of_length_le (by rw [mkD_len]; exact Nat.le_refl _)]
theorem mkU_q (e : Sh) (l : List e.T) (q : Int) (k i : Nat) (h : k ≤ l.length) : (mkU e l q k)[i]? = if i < k then (mkD (.list e) l q)[i]? else l[i]? := by
  unfold mkU
  by_cases g : i < k
  · rw [if_pos g, List.getElem?_append_left (by rw [List.length_take, mkD_len]; omega), List.getElem?_take, if_pos g]
  · rw [if_neg g, List.getElem?_append_right (by rw [List.length_take, mkD_len]; omega), List.getElem?_drop, List.length_take, mkD_len]
    congr 1
    omega
theorem mkU_at (e : Sh) (l : List e.T) (q : Int) (k : Nat) (h : k < l.length) (h' : k < (mkU e l q k).length) : (mkU e l q k)[k] = l[k] := by
  have h1 := mkU_q e l q k k (by omega)
  rw [if_neg (by omega), List.getElem?_eq_getElem h', List.getElem?_eq_getElem h] at h1
  exact Option.some.inj h1
theorem mkU_set (e : Sh) (l : List e.T) (q : Int) (k : Nat) (h : k < l.length) : (mkU e l q k).set k (mkD e l[k] (q + (cntU e l k : Nat))) = mkU e l q (k + 1) := by
  apply List.ext_getElem?
  intro i
  rw [mkU_q _ _ _ _ _ (by omega), List.getElem?_set]
  by_cases g : k = i
  · subst g
    rw [if_pos rfl, if_pos (by rw [mkU_len]; exact h), if_pos (by omega), List.getElem?_eq_getElem (by rw [mkD_len]; exact h), mkD_at e l q k h]
  · rw [if_neg g, mkU_q _ _ _ _ _ (by omega)]
    by_cases g2 : i < k
    · rw [if_pos g2, if_pos (by omega)]
    · rw [if_neg g2, if_neg (by omega)]
/-- A world in which the first j cells of element k of a row have been written, and the blocks Bk of that element may have turned. -/
def PartD (w0 w : World) (g n c k j : Nat) (vs : List Value) (Bk : Nat → Prop) : Prop :=
  TurnS (fun b => b = g ∨ Bk b) w0 w ∧ Room w g (n * c) ∧ (∀ q, q < k * c ∨ k * c + j ≤ q → w.cell? ⟨g, q, none⟩ = w0.cell? ⟨g, q, none⟩) ∧ (∀ t, t < j → w.cell? ⟨g, k * c + t, none⟩ = vs[t]?) ∧ g < w.heap.size
theorem PartD.start {w : World} {g n c k : Nat} {vs : List Value} {Bk : Nat → Prop} (h : Room w g (n * c)) (hg : g < w.heap.size) : PartD w w g n c k 0 vs Bk := ⟨TurnS.refl _ _, h, fun _ _ => rfl, fun t ht => absurd ht (by omega), hg⟩
theorem PartD.next {w0 w w' : World} {g n c k j : Nat} {vs : List Value} {Bk : Nat → Prop} (h : PartD w0 w g n c k j vs Bk) (hb : Below w.heap.size w w') : PartD w0 w' g n c k j vs Bk :=
  ⟨h.1.next hb, h.2.1.below hb h.2.2.2.2, fun q hq => (hb.cell (p := ⟨g, q, none⟩) h.2.2.2.2).trans (h.2.2.1 q hq), fun t ht => (hb.cell (p := ⟨g, k * c + t, none⟩) h.2.2.2.2).trans (h.2.2.2.1 t ht), Nat.lt_of_lt_of_le h.2.2.2.2 hb.size⟩
theorem PartD.turn {w0 w w' : World} {g n c k j : Nat} {vs : List Value} {Bk Bi : Nat → Prop} (h : PartD w0 w g n c k j vs Bk) (ht : TurnS Bi w w') (h1 : ∀ b, Bi b → Bk b) (h2 : ¬ Bi g) : PartD w0 w' g n c k j vs Bk :=
  ⟨h.1.trans (ht.wide (fun b hb => Or.inr (h1 b hb))), h.2.1.same (ht.block h.2.2.2.2 h2), fun q hq => (ht.cell h.2.2.2.2 h2).trans (h.2.2.1 q hq), fun t hj => (ht.cell h.2.2.2.2 h2).trans (h.2.2.2.1 t hj), Nat.lt_of_lt_of_le h.2.2.2.2 ht.size⟩
theorem PartD.set {w0 w : World} {g n c k j : Nat} {vs : List Value} {Bk : Nat → Prop} {v : Value} (h : PartD w0 w g n c k j vs Bk) (hk : k < n) (hj : j < c) (hv : vs[j]? = some v) : PartD w0 (w.setCell ⟨g, k * c + j, none⟩ v) g n c k (j + 1) vs Bk := by
  have hle := mul_step (c := c) hk
  refine ⟨h.1.set (p := ⟨g, k * c + j, none⟩) (Or.inl rfl) v, h.2.1.set (by omega), fun q hq => ?_, fun t ht => ?_, by simpa using h.2.2.2.2⟩
  · rw [World.cell?_setCell_other _ _ _ _ (addr_ne (by omega))]
    exact h.2.2.1 q (by omega)
  · by_cases e : t = j
    · subst e
      obtain ⟨⟨x, hx⟩, _⟩ := h.2.1 (k * c + t) (by omega)
      rw [World.cell?_setCell_same _ _ _ hx, hv]
    · rw [World.cell?_setCell_other _ _ _ _ (addr_ne (by omega))]
      exact h.2.2.2.1 t (by omega)
theorem PartD.skip {w0 w : World} {g n c k j : Nat} {vs : List Value} {Bk : Nat → Prop} (h : PartD w0 w g n c k j vs Bk) (hv : w0.cell? ⟨g, k * c + j, none⟩ = vs[j]?) : PartD w0 w g n c k (j + 1) vs Bk :=
  ⟨h.1, h.2.1, fun q hq => h.2.2.1 q (by omega), fun t ht => by
    by_cases e : t = j
    · subst e; rw [h.2.2.1 _ (by omega), hv]
    · exact h.2.2.2.1 t (by omega), h.2.2.2.2⟩
theorem PartD.old {w0 w : World} {g n c k j t : Nat} {vs : List Value} {Bk : Nat → Prop} (h : PartD w0 w g n c k j vs Bk) (ht : j ≤ t) {v : Value} (hv : w0.cell? ⟨g, k * c + t, none⟩ = some v) : w.cell? ⟨g, k * c + t, none⟩ = some v := (h.2.2.1 _ (by omega)).trans hv
theorem PartD.done {w0 w : World} {e : Sh} {g n k : Nat} {vs : List Value} {l : List e.T} {S : Nat → Prop} {B : Nat → Nat → Prop} {y : e.T} (h : PartD w0 w g n e.c k e.c vs (B k)) (hO : OwnK w0 e g n n l S B) (hk : k < n) (hvs : vs.length = e.c) (hy : Own w e vs y (B k)) : OwnK w e g n n (l.set k y) S B ∧ TurnS S w0 w :=
  ⟨hO.swap hk h.1.size h.2.1 (fun q hq => h.2.2.1 q hq) (fun b hb hg hB => h.1.block hb (fun q => q.elim hg hB)) hvs (fun j hj => h.2.2.2.1 j (by omega)) hy,
    h.1.wide (fun b hb => hb.elim (fun q => q ▸ hO.2.1) (fun q => (hO.2.2.1 k hk b q).1))⟩
theorem Bx.turnS {S : Nat → Prop} {w w' : World} {g : Nat} {vs : List Value} (h : Bx w g vs) (ht : TurnS S w w') (hx : ¬ S g) : Bx w' g vs :=
  ⟨fun j hj => ⟨(World.cell?_of_block (a := ⟨g, j, none⟩) (ht.block h.2 hx)).trans (h.1 j hj).1, (World.frozen?_of_block (a := ⟨g, j, none⟩) (ht.block h.2 hx)).trans (h.1 j hj).2⟩, Nat.lt_of_lt_of_le h.2 ht.size⟩
/-- What a marking function answers. -/
def MkP (s : Sh) (cs : List Value) (y : s.T) (q : Int) (S : Nat → Prop) (w : World) (r : Ending) (w' : World) : Prop := r = .returned (.int .i64 q) ∧ Own w' s cs y S ∧ TurnS S w w'
/-- A struct's lists marked, its other fields left alone. -/
def cntT : (s : Sh) → s.T → Nat
  | .int, _ => 0
  | .str, _ => 0
  | .bool, _ => 0
  | .nil, _ => 0
  | .pair a b, x => cntT a x.1 + cntT b x.2
  | .list e, l => cntD (.list e) l
def mkT : (s : Sh) → s.T → Int → s.T
  | .int, x, _ => x
  | .str, x, _ => x
  | .bool, x, _ => x
  | .nil, x, _ => x
  | .pair a b, x, q => (mkT a x.1 q, mkT b x.2 (q + (cntT a x.1 : Int)))
  | .list e, l, q => mkD (.list e) l q
end Go.Proofs.YtkpobihpcnoemaaDoor
