/- Bags: what is good, said plainly; adds in maps by their places. No Go text is spoken of here. -/
import Derived.Test.YtnglgndocmkbfaaNg
import Derived.Test.YtnglgndocmkbfaaIn
import Derived.Test.YtnglgndocmkbfaaValI
import Derived.Test.YtnglgndocmkbfaaNtS
import Derived.Test.YtnglgndocmkbfaaJnI
namespace Go.Proofs.Ytnglgndocmkbfaa
open Go.RowKit
set_option linter.unusedVariables false
set_option linter.unusedSimpArgs false

abbrev AdV : Type := Sh.T shAdd
def mkA (v : ByteArray) (a n : Int) : AdV := (v, a, n, ())
def addB (v : ByteArray) (a n : Int) : Bool := valOk v && (inR a 0 5 && inR n 1 1000)
def addP (x : AdV) : Prop := addB x.1 x.2.1 x.2.2.1 = true
def lesA (a n a' n' : Int) : Prop := a < a' ∨ (a = a' ∧ n < n')
def lesX (x y : AdV) : Prop := lesA x.2.1 x.2.2.1 y.2.1 y.2.2.1
def plc (x : AdV) : Int × Int := (x.2.1, x.2.2.1)
theorem lesX_trans {x y z : AdV} (h : lesX x y) (k : lesX y z) : lesX x z := by unfold lesX lesA at *; omega
theorem lesX_irr (x : AdV) : ¬ lesX x x := by unfold lesX lesA; omega
theorem lesX_plc {x y : AdV} (h : lesX x y) : plc x ≠ plc y := by
  unfold lesX lesA at h
  unfold plc
  intro e
  have e1 := congrArg Prod.fst e
  have e2 := congrArg Prod.snd e
  simp only at e1 e2
  omega
theorem lesX_tri {x y : AdV} (h : plc x ≠ plc y) : lesX x y ∨ lesX y x := by
  unfold lesX lesA
  rcases Int.lt_trichotomy x.2.1 y.2.1 with q | q | q
  · exact Or.inl (Or.inl q)
  · rcases Int.lt_trichotomy x.2.2.1 y.2.2.1 with r | r | r
    · exact Or.inl (Or.inr ⟨q, r⟩)
    · exact absurd (show (x.2.1, x.2.2.1) = (y.2.1, y.2.2.1) by rw [q, r]) h
    · exact Or.inr (Or.inr ⟨q.symm, r⟩)
  · exact Or.inr (Or.inl q)
/-- The first k are adds, each behind the one ahead of it. -/
def adsK (l : List AdV) (k : Nat) : Prop := ∀ j (h : j < l.length), j < k → addP l[j] ∧ ∀ i (hi : i < l.length), i + 1 = j → lesX l[i] l[j]
def adsP (l : List AdV) : Prop := l.length ≤ 40 ∧ adsK l l.length
theorem adsK_zero (l : List AdV) : adsK l 0 := fun j _ h => absurd h (Nat.not_lt_zero j)
theorem adsK_succ {l : List AdV} {k : Nat} (h : adsK l k) (hk : k < l.length) (h1 : addP l[k]) (h2 : ∀ i (hi : i < l.length), i + 1 = k → lesX l[i] l[k]) : adsK l (k + 1) := by
  intro j hj hlt
  by_cases e : j = k
  · subst e; exact ⟨h1, h2⟩
  · exact h j hj (by omega)
theorem ads_rise {l : List AdV} (h : adsK l l.length) : ∀ {j i : Nat} (hi : i < l.length) (hj : j < l.length), i < j → lesX l[i] l[j]
  | 0, i, hi, hj, hlt => absurd hlt (Nat.not_lt_zero i)
  | j + 1, i, hi, hj, hlt => by
    have h1 := (h (j + 1) hj hj).2 j (by omega) rfl
    by_cases e : i = j
    · subst e; exact h1
    · exact lesX_trans (ads_rise h hi (by omega) (show i < j by omega)) h1
theorem ads_pair {l : List AdV} (h : adsK l l.length) : l.Pairwise lesX := List.pairwise_iff_getElem.2 (fun i j hi hj hlt => ads_rise h hi hj hlt)
theorem ads_of {l : List AdV} (h1 : ∀ x ∈ l, addP x) (h2 : l.Pairwise lesX) : adsK l l.length := fun j hj _ => ⟨h1 _ (List.getElem_mem hj), fun i hi e => List.pairwise_iff_getElem.1 h2 i j hi hj (by omega)⟩
theorem ads_all {l : List AdV} (h : adsK l l.length) : ∀ x ∈ l, addP x := fun x hx => by obtain ⟨i, hi, rfl⟩ := List.getElem_of_mem hx; exact (h i hi hi).1
theorem ads_iff {l : List AdV} : adsP l ↔ l.length ≤ 40 ∧ (∀ x ∈ l, addP x) ∧ l.Pairwise lesX := ⟨fun h => ⟨h.1, ads_all h.2, ads_pair h.2⟩, fun h => ⟨h.1, ads_of h.2.1 h.2.2⟩⟩
def goodB (A G : List AdV) : Prop := (adsP A ∧ adsP G) ∧ ∀ x ∈ A, ∀ y ∈ G, plc x ≠ plc y
/-- What is heard of an add: is it gone. -/
abbrev HrV : Type := ByteArray × Int × Int × Bool
def hrd (g : Bool) (x : AdV) : HrV := (x.1, x.2.1, x.2.2.1, g)
abbrev kvP (k : Int × Int) : Value := .agg #[.int .i64 k.1, .int .i64 k.2]
abbrev evH (h : HrV) : Value := .agg #[.string h.1, .int .i64 h.2.1, .int .i64 h.2.2.1, .bool h.2.2.2]
/-- What a list of adds tells. -/
def hoF (l : List AdV) (g : Bool) : Int × Int → Option HrV := l.foldl (fun f x => updF f (plc x) (hrd g x)) (fun _ => none)
theorem hoF_snoc (l : List AdV) (x : AdV) (g : Bool) : hoF (l ++ [x]) g = updF (hoF l g) (plc x) (hrd g x) := by simp [hoF]
def hoL (l : List AdV) (g : Bool) : List ((Int × Int) × HrV) := l.map (fun x => (plc x, hrd g x))
theorem hoL_len (l : List AdV) (g : Bool) : (hoL l g).length = l.length := by simp [hoL]
theorem hoL_keys {l : List AdV} {g : Bool} (h : l.Pairwise lesX) : KeysN (hoL l g) := by
  unfold KeysN hoL
  rw [List.map_map, List.nodup_iff_pairwise_ne, List.pairwise_map]
  exact h.imp (fun q => lesX_plc q)
theorem hoF_at : ∀ {l : List AdV} {g : Bool}, l.Pairwise lesX → ∀ k, hoF l g k = getK k (hoL l g) := by
  intro l g
  induction hn : l.length generalizing l with
  | zero => intro _ k; rw [List.eq_nil_of_length_eq_zero hn]; rfl
  | succ n ih =>
    intro h k
    have hne : l ≠ [] := fun e => by rw [e] at hn; cases hn
    obtain ⟨x, hx⟩ : ∃ x, x = l.getLast hne := ⟨_, rfl⟩
    have hs : l = l.dropLast ++ [x] := by rw [hx]; exact (List.dropLast_concat_getLast hne).symm
    generalize l.dropLast = t at hs
    subst hs
    have hp := (List.pairwise_append.1 h)
    have ht : t.length = n := by rw [List.length_append] at hn; simpa using hn
    rw [hoF_snoc]
    unfold updF
    have e1 : hoL (t ++ [x]) g = hoL t g ++ [(plc x, hrd g x)] := by simp [hoL]
    by_cases q : plc x = k
    · rw [if_pos q]
      refine (getK_of (hoL_keys h) ?_).symm
      rw [e1, ← q]; simp
    · rw [if_neg q, ih ht hp.1 k]
      cases hg : getK k (hoL t g) with
      | none =>
        refine (getK_none.2 (fun p hp' e => ?_)).symm
        rw [e1] at hp'
        rcases List.mem_append.1 hp' with r | r
        · exact getK_none.1 hg p r e
        · rw [List.mem_singleton.1 r] at e; exact q e
      | some v => exact (getK_of (hoL_keys h) (by rw [e1]; exact List.mem_append.2 (Or.inl (getK_mem hg)))).symm
def togH (a b : HrV) : HrV := if a.1 = b.1 ∧ a.2.1 = b.2.1 ∧ a.2.2.1 = b.2.2.1 then (a.1, a.2.1, a.2.2.1, a.2.2.2 || b.2.2.2) else (⟨#[]⟩, 0, 0, false)
/-- What a bag tells. -/
def bgF (A G : List AdV) : Int × Int → Option HrV := jnF togH (hoF A false) (hoF G true)
/-- Two maps of the same keys are as long. -/
theorem len_of_keys {α β γ : Type} [DecidableEq α] {l : List (α × β)} {l' : List (α × γ)} (h1 : KeysN l) (h2 : KeysN l') (h : ∀ k, (getK k l).isSome = (getK k l').isSome) : l.length = l'.length := by
  have e : ∀ {δ : Type} {m : List (α × δ)} (k : α), getK k (m.map (fun p => (p.1, ()))) = (getK k m).map (fun _ => ()) := by
    intro δ m k
    induction m with
    | nil => rfl
    | cons p t ih =>
      rw [List.map_cons]
      unfold getK
      by_cases q : p.1 = k
      · rw [if_pos q, if_pos q]; rfl
      · rw [if_neg q, if_neg q, ih]
  have kn : ∀ {δ : Type} {m : List (α × δ)}, KeysN m → KeysN (m.map (fun p => (p.1, ()))) := by
    intro δ m hm
    unfold KeysN at hm ⊢
    rw [List.map_map]; exact hm
  have hp := perm_of_get (kn h1) (kn h2) (fun k => by
    rw [e, e]
    have := h k
    cases a : getK k l <;> cases b : getK k l' <;> simp_all)
  have := hp.length_eq
  simpa using this
/-- What a good bag tells, as a list. -/
def bgL (A G : List AdV) : List ((Int × Int) × HrV) := hoL A false ++ hoL G true
theorem bgL_len (A G : List AdV) : (bgL A G).length = A.length + G.length := by unfold bgL; rw [List.length_append, hoL_len, hoL_len]
theorem hoL_mem {l : List AdV} {g : Bool} {p : (Int × Int) × HrV} : p ∈ hoL l g ↔ ∃ x ∈ l, p = (plc x, hrd g x) := by
  unfold hoL
  rw [List.mem_map]
  exact ⟨fun ⟨x, h, e⟩ => ⟨x, h, e.symm⟩, fun ⟨x, h, e⟩ => ⟨x, h, e.symm⟩⟩
theorem bgL_keys {A G : List AdV} (h1 : A.Pairwise lesX) (h2 : G.Pairwise lesX) (h : ∀ x ∈ A, ∀ y ∈ G, plc x ≠ plc y) : KeysN (bgL A G) := by
  unfold KeysN bgL
  rw [List.map_append, List.nodup_append]
  refine ⟨hoL_keys h1, hoL_keys h2, ?_⟩
  intro a ha b hb
  obtain ⟨p, hp, rfl⟩ := List.mem_map.1 ha
  obtain ⟨q, hq, rfl⟩ := List.mem_map.1 hb
  obtain ⟨x, hx, rfl⟩ := hoL_mem.1 hp
  obtain ⟨y, hy, rfl⟩ := hoL_mem.1 hq
  exact h x hx y hy
theorem bgF_at {A G : List AdV} (h1 : A.Pairwise lesX) (h2 : G.Pairwise lesX) (h : ∀ x ∈ A, ∀ y ∈ G, plc x ≠ plc y) (k : Int × Int) : bgF A G k = getK k (bgL A G) := by
  unfold bgF jnF
  rw [hoF_at h1, hoF_at h2]
  have hk := bgL_keys h1 h2 h
  cases e2 : getK k (hoL G true) with
  | some y =>
    have hm := getK_mem e2
    have e1 : getK k (hoL A false) = none := getK_none.2 (fun p hp e => by
      obtain ⟨x, hx, rfl⟩ := hoL_mem.1 hp
      obtain ⟨z, hz, ez⟩ := hoL_mem.1 hm
      exact h x hx z hz (by have := congrArg Prod.fst ez; simp only at this e; rw [e, this]))
    rw [e1]
    exact (getK_of hk (List.mem_append.2 (Or.inr hm))).symm
  | none =>
    cases e1 : getK k (hoL A false) with
    | some x => exact (getK_of hk (List.mem_append.2 (Or.inl (getK_mem e1)))).symm
    | none =>
      refine (getK_none.2 (fun p hp e => ?_)).symm
      rcases List.mem_append.1 hp with q | q
      · exact getK_none.1 e1 p q e
      · exact getK_none.1 e2 p q e
/-- How many places a bag has: all just where none is in both lists. -/
theorem bg_count {A G : List AdV} {l : List ((Int × Int) × HrV)} (h1 : A.Pairwise lesX) (h2 : G.Pairwise lesX) (hn : KeysN l) (hl : ∀ k, getK k l = bgF A G k) : l.length = A.length + G.length ↔ ∀ x ∈ A, ∀ y ∈ G, plc x ≠ plc y := by
  constructor
  · intro hlen
    refine Classical.byContradiction (fun hc => ?_)
    have hc : ∃ y ∈ G, ∃ x ∈ A, plc x = plc y := Classical.byContradiction (fun q => hc (fun x hx y hy e => q ⟨y, hy, x, hx, e⟩))
    let G' := G.filter (fun y => tf (∀ x ∈ A, plc x ≠ plc y))
    have hG' : G'.Pairwise lesX := h2.filter _
    have hd : ∀ x ∈ A, ∀ y ∈ G', plc x ≠ plc y := fun x hx y hy => (tf_iff.1 (List.mem_filter.1 hy).2) x hx
    have hk := bgL_keys h1 hG' hd
    have hlt : G'.length < G.length := by
      obtain ⟨y, hy, x, hx, e⟩ := hc
      refine List.length_filter_lt_length_iff_exists.2 ⟨y, hy, ?_⟩
      rw [tf_no (fun q => q x hx e)]; simp
    have hll := len_of_keys hn hk (fun k => by
      rw [hl]
      unfold bgF jnF
      rw [hoF_at h1, hoF_at h2, Bool.eq_iff_iff]
      constructor
      · intro hs
        cases e1 : getK k (hoL A false) with
        | some v => rw [getK_of hk (List.mem_append.2 (Or.inl (getK_mem e1)))]; rfl
        | none =>
          cases e2 : getK k (hoL G true) with
          | none => rw [e1, e2] at hs; cases hs
          | some v =>
            obtain ⟨y, hy, ey⟩ := hoL_mem.1 (getK_mem e2)
            have hyk : plc y = k := (congrArg Prod.fst ey).symm
            have hy' : y ∈ G' := List.mem_filter.2 ⟨hy, tf_yes (fun x hx e => getK_none.1 e1 _ (hoL_mem.2 ⟨x, hx, rfl⟩) (e.trans hyk))⟩
            rw [← hyk, getK_of hk (List.mem_append.2 (Or.inr (hoL_mem.2 ⟨y, hy', rfl⟩)))]; rfl
      · intro hs
        cases e3 : getK k (bgL A G') with
        | none => rw [e3] at hs; cases hs
        | some v =>
          rcases List.mem_append.1 (getK_mem e3) with q | q
          · obtain ⟨x, hx, ex⟩ := hoL_mem.1 q
            have hxk : k = plc x := congrArg Prod.fst ex
            rw [hxk, getK_of (hoL_keys (g := false) h1) (hoL_mem.2 ⟨x, hx, rfl⟩)]
            cases getK (plc x) (hoL G true) <;> rfl
          · obtain ⟨y, hy, ey⟩ := hoL_mem.1 q
            have hyk : k = plc y := congrArg Prod.fst ey
            rw [hyk, getK_of (hoL_keys (g := true) h2) (hoL_mem.2 ⟨y, (List.mem_filter.1 hy).1, rfl⟩)]
            cases getK (plc y) (hoL A false) <;> rfl)
    rw [bgL_len] at hll
    omega
  · intro h
    rw [len_of_keys hn (bgL_keys h1 h2 h) (fun k => by rw [hl, bgF_at h1 h2 h]), bgL_len]
end Go.Proofs.Ytnglgndocmkbfaa
