/- Put together of: ShW, ShS, MarkT, ShM. -/
import Derived.Test.YtkpobihpcnoemaaDoorShY
import Derived.Maps.AppendAt
import Derived.Laws.OwnMore
import Derived.Test.YtkpobihpcnoemaaDoorProg
import Derived.Test.YtkpobihpcnoemaaDoorGaK
import Derived.WalkKit
import Derived.WalkSpells
import Derived.WalkLawsBesides
import Derived.Lib.AppendStr
import Derived.Lib.SlBytesRow
import Derived.Test.YtkpobihpcnoemaaDoorGaD
/- Appends of flat data to lists whose rows are known exactly. No Go text is spoken of here. -/
namespace Go.Proofs.YtkpobihpcnoemaaDoor
open Go.RowKit
set_option linter.unusedVariables false

theorem lies_flat {W : World} {e : Ty} (he : e.flatB = true) : ∀ {cs : List Value} {x : e.T}, Lies W e.sh cs x → cs = valC e x := by
  induction e with
  | int => intro cs x h; exact h
  | str => intro cs x h; exact h
  | bool => intro cs x h; exact h
  | nil => intro cs x h; exact h
  | pair a b iha ihb =>
    intro cs x h
    simp only [Ty.flatB, Bool.and_eq_true] at he
    obtain ⟨c1, c2, rfl, h1, h2⟩ := h
    rw [iha he.1 h1, ihb he.2 h2]; rfl
  | list e t ih => simp [Ty.flatB] at he
theorem lies_news {W : World} {e : Ty} (he : e.flatB = true) {ad : Addr} {n cap : Nat} {l : List e.T} (h : Lies W (.list e.sh) [.slice (some ad) n cap] l) (hl : l ≠ []) : ∀ j u, (l.flatMap (valC e))[j]? = some u → W.cell? (ad.add j) = some u := by
  obtain ⟨a, c, e1, _, _, h⟩ := h
  simp only [List.cons.injEq, Value.slice.injEq, and_true] at e1
  obtain ⟨rfl, _, _⟩ := e1
  rcases h with h | ⟨g, off, e2, hg, hE⟩
  · exact absurd h hl
  · have e2 : ad = ⟨g, off, none⟩ := by simpa using e2
    subst e2
    intro j u hu
    have hlen := flat_len (fun x => valC_len (s := e) x he) l
    have hjl : j < l.length * e.c := by
      rcases Nat.lt_or_ge j (l.flatMap (valC e)).length with q | q
      · rwa [hlen] at q
      · rw [List.getElem?_eq_none q] at hu; cases hu
    have hc : 0 < e.c := by
      rcases Nat.eq_zero_or_pos e.c with q | q
      · rw [q] at hjl; omega
      · exact q
    have hi : j / e.c < l.length := by rw [Nat.div_lt_iff_lt_mul hc]; exact hjl
    obtain ⟨ec, h1, h2, h3⟩ := hE (j / e.c) hi
    have hev := lies_flat he h3
    have hm : j % e.c < e.c := Nat.mod_lt _ hc
    have hd : j / e.c * e.c + j % e.c = j := by rw [Nat.mul_comm]; exact Nat.div_add_mod j e.c
    have hcell := h2 (j % e.c) (by rw [h1]; exact hm)
    have hch := flat_chunk (fun x => valC_len (s := e) x he) l (j / e.c) hi
    have h4 : (l.flatMap (valC e))[j]? = ec[j % e.c]? := by
      rw [hev, ← hch, cells_of_take hm, hd]
    have ha : (⟨g, off, none⟩ : Addr).add j = ⟨g, off + j / e.c * e.c + j % e.c, none⟩ := by
      rw [add0, Nat.add_assoc, hd]
    rw [ha]
    have hcell' : W.cell? ⟨g, off + j / e.c * e.c + j % e.c, none⟩ = ec[j % e.c]? := hcell
    rw [hcell', ← h4]; exact hu
theorem run_append_nil {P : Program} {w : World} (base : Nat) (t ty e : TypeId) (i : TypeInfo) (size c : Nat) (ht : P.underlying t = some (.slice e)) (hi : P.info? e = some i)
    (v : Value) (n : Nat) (xs : List Value) (hown : w.ownsRow base e size v n xs) : (Builtin.append_ #[t, t] ty #[v, .slice none 0 c]).run P w = .ok v w := by
  rcases hown.2 with ⟨rfl, rfl⟩ | ⟨g, cap, cur, rfl, _, _, hnc, _⟩
  · simp [Builtin.append_, run_underlying ht, sizeOf, typeInfo, hi, Builtin.lenOf, Builtin.firstCells]
  · simp [Builtin.append_, run_underlying ht, sizeOf, typeInfo, hi, Builtin.lenOf, Builtin.firstCells, hnc, storeCells]
/-- append(s, x...) of flat data. -/
theorem run_appx {P : Program} {w : World} (t ty et : TypeId) (i : TypeInfo) (z : Value) (bytes lo : Nat) (e : Ty) (he : e.flatB = true) (ht : P.underlying t = some (.slice et)) (hi : P.info? et = some i) (hz : i.zero = some z) (hsize : i.size = e.c) (hby : i.bytes = bytes) (hzs : z.cells.size = e.c) (hsz : 0 < e.c)
    (v : Value) (l l2 : List e.T) (S : Nat → Prop) (hO : OwnX w lo (.list e et) [v] l S) (ad : Option Addr) (cap : Nat) (hL : Lies w (.list e.sh) [.slice ad l2.length cap] l2) (h63 : l.length + l2.length ≤ maxLen) (hbytes : (l.length + l2.length) * bytes ≤ 140737488355328) (hbase : lo ≤ w.heap.size) :
    ∃ v' w', (Builtin.append_ #[t, t] ty #[v, .slice ad l2.length cap]).run P w = .ok v' w' ∧ OwnX w' lo (.list e et) [v'] (l ++ l2) (fun k => S k ∨ k = w.heap.size) ∧ w.grownBy w' v.ownBlock ∧ (v'.ownBlock = v.ownBlock ∨ v'.ownBlock = some w.heap.size) := by
  obtain ⟨hrow, hS⟩ := hO.flat he
  have hin : ∀ v' w', w'.ownsRow lo et e.c v' (l.length + l2.length) (l.flatMap (valC e) ++ l2.flatMap (valC e)) → (v'.ownBlock = v.ownBlock ∨ v'.ownBlock = some w.heap.size) → OwnX w' lo (.list e et) [v'] (l ++ l2) (fun k => S k ∨ k = w.heap.size) := by
    intro v' w' h2 h5
    refine OwnX.of_flat he (by rw [List.length_append, List.flatMap_append]; exact h2) (fun k hk => ?_)
    rcases h5 with q | q
    · exact Or.inl (hS k (q ▸ hk))
    · rw [q] at hk; cases hk; exact Or.inr rfl
  cases ad with
  | none =>
    have h0 : l2 = [] := by
      obtain ⟨a, c, e1, _, _, h⟩ := hL
      rcases h with h | ⟨g, off, e2, _⟩
      · exact h
      · simp only [List.cons.injEq, Value.slice.injEq, and_true] at e1
        rw [← e1.1] at e2; cases e2
    subst h0
    refine ⟨v, w, run_append_nil lo t ty et i e.c cap ht hi v l.length _ hrow, hin v w ?_ (Or.inl rfl), ⟨rfl, rfl, rfl, Nat.le_refl _, fun _ _ _ => rfl⟩, Or.inl rfl⟩
    simpa using hrow
  | some a =>
    obtain ⟨v', w', hr, h2, h3, _, h5⟩ := run_append_own_at (P := P) w lo t ty et i z e.c bytes ht hi hz hsize hby hzs hsz v l.length _ hrow a l2.length cap (l2.flatMap (valC e)) (flat_len (fun x => valC_len x he) l2) (by
      by_cases hl : l2 = []
      · subst hl; intro j u hu; simp at hu
      · exact lies_news he hL hl) (flat_one l2) h63 hbytes hbase
    exact ⟨v', w', hr, hin v' w' h2 h5, h3, h5⟩
theorem wp_appx {P : Program} {w : World} {o : Oper} {a : Act} {K : Act → World → Prop} {Q : Exit → Act → World → Prop} (s x : Operand) (t et : TypeId)
    (ho : o.op = .call { callee := .builtin .append, args := #[s, x], argTypes := #[t, t] }) (i : TypeInfo) (z : Value) (bytes lo : Nat) (e : Ty) (he : e.flatB = true) (ht : P.underlying t = some (.slice et)) (hi : P.info? et = some i) (hz : i.zero = some z) (hsize : i.size = e.c) (hby : i.bytes = bytes) (hzs : z.cells.size = e.c) (hsz : 0 < e.c)
    (v : Value) (l l2 : List e.T) (S : Nat → Prop) (hs : a.eval s = v) (hO : OwnX w lo (.list e et) [v] l S) (ad : Option Addr) (cap : Nat) (hx : a.eval x = .slice ad l2.length cap) (hL : Lies w (.list e.sh) [.slice ad l2.length cap] l2) (h63 : l.length + l2.length ≤ maxLen) (hbytes : (l.length + l2.length) * bytes ≤ 140737488355328) (hbase : lo ≤ w.heap.size)
    (h : ∀ v' w', OwnX w' lo (.list e et) [v'] (l ++ l2) (fun k => S k ∨ k = w.heap.size) → w.grownBy w' v.ownBlock → (v'.ownBlock = v.ownBlock ∨ v'.ownBlock = some w.heap.size) → K (a.put o.dst v') w') : o.wp P a w K Q := by
  obtain ⟨v', w', hr, h2, h3, h5⟩ := run_appx (P := P) (w := w) t o.type et i z bytes lo e he ht hi hz hsize hby hzs hsz v l l2 S hO ad cap hL h63 hbytes hbase
  unfold Oper.wp execOp
  simp only [ho, resolve, invoke, builtin, Sem.run_bind, Sem.run_pure, Result.andThen_ok, List.map_toArray, List.map_cons, List.map_nil, hs, hx, hr]
  exact h v' w' h2 h3 h5
theorem wpList_appx {P : Program} {w : World} {ops : Array Oper} {rest : List Oper} {o : Oper} {a : Act} {Q : Exit → Act → World → Prop} (hgd : o.guard = none) (s x : Operand) (t et : TypeId)
    (ho : o.op = .call { callee := .builtin .append, args := #[s, x], argTypes := #[t, t] }) (i : TypeInfo) (z : Value) (bytes lo : Nat) (e : Ty) (he : e.flatB = true) (ht : P.underlying t = some (.slice et)) (hi : P.info? et = some i) (hz : i.zero = some z) (hsize : i.size = e.c) (hby : i.bytes = bytes) (hzs : z.cells.size = e.c) (hsz : 0 < e.c)
    (v : Value) (l l2 : List e.T) (S : Nat → Prop) (hs : a.eval s = v) (hO : OwnX w lo (.list e et) [v] l S) (ad : Option Addr) (cap : Nat) (hx : a.eval x = .slice ad l2.length cap) (hL : Lies w (.list e.sh) [.slice ad l2.length cap] l2) (h63 : l.length + l2.length ≤ maxLen) (hbytes : (l.length + l2.length) * bytes ≤ 140737488355328) (hbase : lo ≤ w.heap.size)
    (h : ∀ v' w', OwnX w' lo (.list e et) [v'] (l ++ l2) (fun k => S k ∨ k = w.heap.size) → w.grownBy w' v.ownBlock → (v'.ownBlock = v.ownBlock ∨ v'.ownBlock = some w.heap.size) → wpList P ops Q rest (a.put o.dst v') w') : wpList P ops Q (o :: rest) a w := by
  refine wpList_plain hgd fun K hK => ?_
  exact wp_appx s x t et ho i z bytes lo e he ht hi hz hsize hby hzs hsz v l l2 S hs hO ad cap hx hL h63 hbytes hbase (fun v' w' h1 h2 h3 => hK _ _ (h v' w' h1 h2 h3))
/-- A struct is made anew, its rows known exactly. -/
def ToX (s : Ty) (x : s.T) (w : World) (r : Ending) (w' : World) : Prop := ∃ cs : List Value, r = .returned (.agg cs.toArray) ∧ OwnX w' w.heap.size s cs x (Btw w.heap.size w'.heap.size) ∧ Below w.heap.size w w'
theorem OwnX.vform {W : World} {lo : Nat} {e : Ty} {t : TypeId} {v : Value} {l : List e.T} {S : Nat → Prop} (h : OwnX W lo (.list e t) [v] l S) : ∃ a c, v = .slice a l.length c := by
  rcases h with ⟨hl, e1⟩ | ⟨g, cap, xs, B, e1, _⟩
  · exact ⟨none, 0, by rw [hl]; simpa using e1⟩
  · exact ⟨_, cap, by simpa using e1⟩
end Go.Proofs.YtkpobihpcnoemaaDoor
/- Lists built anew whose rows are known exactly; one number of such a list set in place. No Go text is spoken of here. -/
namespace Go.Proofs.YtkpobihpcnoemaaDoor
open Go.RowKit
set_option linter.unusedVariables false
set_option linter.unusedSimpArgs false

theorem lies_drop {w : World} {e : Sh} {g off n cap : Nat} {l : List e.T} (h : Lies w (.list e) [.slice (some ⟨g, off, none⟩) n cap] l) (k : Nat) (hk : k ≤ l.length) : Lies w (.list e) [.slice (some ⟨g, off + k * e.c, none⟩) (n - k) (cap - k)] (l.drop k) := by
  obtain ⟨ad, c, e1, c1, c2, h⟩ := h
  simp only [List.cons.injEq, Value.slice.injEq, and_true] at e1
  obtain ⟨e0, rfl, rfl⟩ := e1
  have hl : (l.drop k).length = l.length - k := by rw [List.length_drop]
  refine ⟨_, _, by rw [hl], by omega, by omega, ?_⟩
  rcases h with h | ⟨g', off', e2, hg, hE⟩
  · left; rw [h]; simp
  · rw [← e0] at e2
    have e2 : g = g' ∧ off = off' := by simpa using e2
    obtain ⟨rfl, rfl⟩ := e2
    right
    refine ⟨g, off + k * e.c, rfl, hg, fun i hi => ?_⟩
    obtain ⟨ec, h1, h2, h3⟩ := hE (k + i) (by omega)
    refine ⟨ec, h1, fun j hj => ?_, by rw [List.getElem_drop]; exact h3⟩
    have := h2 j hj
    rw [Nat.add_mul] at this
    rw [← this]
    congr 2
    omega
theorem lies_one {w : World} {e : Sh} {cs : List Value} {x : e.T} (t : TypeId) (hl : cs.length = e.c) (h : Lies (w.alloc (.cells cs.toArray t)) e cs x) : Lies (w.alloc (.cells cs.toArray t)) (.list e) [.slice (some ⟨w.heap.size, 0, none⟩) 1 1] [x] := by
  refine ⟨_, 1, rfl, by simp, by unfold maxLen; omega, Or.inr ⟨w.heap.size, 0, rfl, by simp, fun i hi => ⟨cs, hl, fun j hj => ?_, ?_⟩⟩⟩
  · have hi0 : i = 0 := by simpa using hi
    subst hi0
    have hj' : j < cs.length := by omega
    rw [List.getElem?_eq_getElem hj']
    have := cells_new w cs t j cs[j] (List.getElem?_eq_getElem hj')
    simp
  · have hi0 : i = 0 := by simpa using hi
    subst hi0; exact h
/-- A list that is being built, since w. -/
def ApS (e : Ty) (t : TypeId) (w W : World) (v : Value) (l : List e.T) : Prop := OwnX W w.heap.size (.list e t) [v] l (Btw w.heap.size W.heap.size) ∧ Below w.heap.size w W
theorem ApS.nil {e : Ty} {t : TypeId} {w : World} : ApS e t w w (.slice none 0 0) [] := ⟨OwnX.nil', Below.refl _ _⟩
theorem ApS.next {e : Ty} {t : TypeId} {w W W' : World} {v : Value} {l : List e.T} (he : e.flatB = true) (h : ApS e t w W v l) (hb : Below W.heap.size W W') : ApS e t w W' v l := by
  obtain ⟨row, _⟩ := (h.1.next hb).flat he
  exact ⟨OwnX.of_flat he row (fun k hk => row.lt k hk), below_next h.2 hb⟩
theorem ApS.app {e : Ty} {t : TypeId} {w W W' : World} {v v' : Value} {l l2 : List e.T} {S : Nat → Prop} (he : e.flatB = true) (h : ApS e t w W v l) (hO : OwnX W' w.heap.size (.list e t) [v'] (l ++ l2) S) (hg : W.grownBy W' v.ownBlock) : ApS e t w W' v' (l ++ l2) := by
  obtain ⟨row, _⟩ := hO.flat he
  obtain ⟨row0, _⟩ := h.1.flat he
  exact ⟨OwnX.of_flat he row (fun k hk => row.lt k hk), h.2.grown hg h.2.size (fun k hk => (row0.lt k hk).1)⟩
/-- A new list is answered. -/
def NewX (e : Ty) (t : TypeId) (l : List e.T) (w : World) (r : Ending) (w' : World) : Prop := ∃ v, r = .returned v ∧ ApS e t w w' v l
theorem OwnX.form {W : World} {lo : Nat} {e : Ty} {t : TypeId} {v : Value} {l : List e.T} {S : Nat → Prop} (h : OwnX W lo (.list e t) [v] l S) : (l = [] ∧ v = .slice none 0 0) ∨ ∃ g cap, v = .slice (some ⟨g, 0, none⟩) l.length cap ∧ g < W.heap.size := by
  rcases h with ⟨hl, e1⟩ | ⟨g, cap, xs, B, e1, hr, _⟩
  · exact Or.inl ⟨hl, by simpa using e1⟩
  · have e1 : v = .slice (some ⟨g, 0, none⟩) l.length cap := by simpa using e1
    exact Or.inr ⟨g, cap, e1, by subst e1; exact hr.lt⟩
theorem ApS.made {e : Ty} {t : TypeId} {w : World} (he : e.flatB = true) : ApS e t w (w.alloc (.cells #[] t)) (.slice (some ⟨w.heap.size, 0, none⟩) 0 0) [] := by
  refine ⟨OwnX.of_flat he (World.ownsRow_made w #[] 0 (Nat.le_refl _) (Nat.zero_le _) (by simp)) (fun k hk => ?_), Go.Joins.below_alloc1 _ _⟩
  cases hk
  simp [Btw]
/-- One number of a list is set in place. -/
theorem OwnX.seti {W : World} {lo : Nat} {t : TypeId} {g n cap : Nat} {l : List (Sh.T .int)} {S : Nat → Prop} (h : OwnX W lo (.list .int t) [.slice (some ⟨g, 0, none⟩) n cap] l S) {k : Nat} (hk : k < l.length) (x : Int) : OwnX (W.setCell ⟨g, k, none⟩ (.int .i64 x)) lo (.list .int t) [.slice (some ⟨g, 0, none⟩) n cap] (l.set k x) S := by
  obtain ⟨g', cap', ec, Bk, hv, hg, hlo, hS, hB, hec, hcells, hroom, hO, hch, hback⟩ := OwnX.lens (e := .int) h hk
  simp only [Value.slice.injEq, Option.some.injEq, Addr.mk.injEq, and_true] at hv
  obtain ⟨rfl, _, _⟩ := hv
  have e : k * Ty.c .int = k := Nat.mul_one k
  have hO : ec = [.int .i64 l[k]] := hO
  subst hO
  have h2 := hch.set (j := 0) (by simp) (.int .i64 x)
  rw [e] at h2 hback
  exact (hback (W.setCell ⟨g, k, none⟩ (.int .i64 x)) [.int .i64 x] x Bk (fun _ => False) (fun b _ _ hb _ => Below.heap_setCell _ _ _ _ hb) h2 rfl (fun b hb => Or.inl hb) (fun b q => q.elim)).mono (fun b q => q.elim id False.elim)
theorem OwnX.inti {W : World} {lo : Nat} {t : TypeId} {g n cap : Nat} {l : List (Sh.T .int)} {S : Nat → Prop} (h : OwnX W lo (.list .int t) [.slice (some ⟨g, 0, none⟩) n cap] l S) {k : Nat} (hk : k < l.length) : W.cell? ⟨g, k, none⟩ = some (.int .i64 (atI l k)) ∧ W.frozen? ⟨g, k, none⟩ = false ∧ g < W.heap.size := by
  obtain ⟨g', cap', ec, Bk, hv, hg, hlo, hS, hB, hec, hcells, hroom, hO, hch, hback⟩ := OwnX.lens (e := .int) h hk
  simp only [Value.slice.injEq, Option.some.injEq, Addr.mk.injEq, and_true] at hv
  obtain ⟨rfl, _, _⟩ := hv
  have e : k * Ty.c .int = k := Nat.mul_one k
  have hO : ec = [.int .i64 l[k]] := hO
  subst hO
  have h1 := hcells 0 (by simp)
  rw [e] at h1
  have hr : k < l.length * Ty.c .int := Nat.lt_of_lt_of_le hk (Nat.le_of_eq (Nat.mul_one _).symm)
  exact ⟨by rw [atI_lt hk]; exact h1, (hroom k hr).2, hg⟩

/-- A list of numbers in a row of its own, block g. -/
def Rw (t : TypeId) (W : World) (lo g c : Nat) (l : List (Sh.T .int)) (m : Nat) : Prop := OwnX W lo (.list .int t) [.slice (some ⟨g, 0, none⟩) m c] l (fun k => k = g) ∧ l.length = m
theorem Rw.keep {t : TypeId} {W W' : World} {lo g c m : Nat} {l : List (Sh.T .int)} (h : Rw t W lo g c l m) (e : W'.heap[g]? = W.heap[g]?) : Rw t W' lo g c l m := ⟨h.1.keep (fun k _ hk => by have hk : k = g := hk; subst hk; exact e), h.2⟩
theorem Rw.lt {t : TypeId} {W : World} {lo g c m : Nat} {l : List (Sh.T .int)} (h : Rw t W lo g c l m) : g < W.heap.size ∧ lo ≤ g := by
  rcases h.1 with ⟨_, q⟩ | ⟨g', cap, xs, B, e1, hr, hlo, _⟩
  · simp at q
  · simp only [List.cons.injEq, Value.slice.injEq, Option.some.injEq, Addr.mk.injEq, and_true] at e1
    obtain ⟨rfl, _⟩ := e1
    exact ⟨hr.lt, hlo⟩
theorem Rw.next {t : TypeId} {W W' : World} {lo g c m : Nat} {l : List (Sh.T .int)} (h : Rw t W lo g c l m) (hb : Below W.heap.size W W') : Rw t W' lo g c l m := h.keep (hb.block g h.lt.1)
theorem Rw.turn {t : TypeId} {S : Nat → Prop} {W W' : World} {lo g c m : Nat} {l : List (Sh.T .int)} (h : Rw t W lo g c l m) (ht : TurnS S W W') (hg : ¬ S g) : Rw t W' lo g c l m := h.keep (ht.block h.lt.1 hg)
theorem Rw.other {t : TypeId} {W : World} {lo g c m : Nat} {l : List (Sh.T .int)} (h : Rw t W lo g c l m) {p : Addr} (hg : g ≠ p.block) (v : Value) : Rw t (W.setCell p v) lo g c l m := h.keep (Below.heap_setCell _ _ _ _ hg)
theorem Rw.set {t : TypeId} {W : World} {lo g c m : Nat} {l : List (Sh.T .int)} (h : Rw t W lo g c l m) {k : Nat} (hk : k < m) (x : Int) : Rw t (W.setCell ⟨g, k, none⟩ (.int .i64 x)) lo g c (l.set k x) m := ⟨h.1.seti (by rw [h.2]; exact hk) x, by rw [List.length_set]; exact h.2⟩
theorem Rw.at {t : TypeId} {W : World} {lo g c m : Nat} {l : List (Sh.T .int)} (h : Rw t W lo g c l m) {k : Nat} (hk : k < m) : W.cell? ⟨g, k, none⟩ = some (.int .i64 (atI l k)) ∧ W.frozen? ⟨g, k, none⟩ = false ∧ g < W.heap.size := h.1.inti (by rw [h.2]; exact hk)
theorem Rw.lies {t : TypeId} {W : World} {lo g c m : Nat} {l : List (Sh.T .int)} (h : Rw t W lo g c l m) : Lies W (.list .int) [.slice (some ⟨g, 0, none⟩) l.length c] l := by have := OwnX.lies h.1; rw [h.2]; exact this
theorem Rw.lower {t : TypeId} {W : World} {lo lo' g c m : Nat} {l : List (Sh.T .int)} (h : Rw t W lo g c l m) (hl : lo' ≤ lo) : Rw t W lo' g c l m := ⟨h.1.lower hl, h.2⟩
/-- A list that is not empty lies so. -/
theorem Rw.of {t : TypeId} {W : World} {lo : Nat} {v : Value} {l : List (Sh.T .int)} {S : Nat → Prop} (h : OwnX W lo (.list .int t) [v] l S) (hl : l ≠ []) : ∃ g c, v = .slice (some ⟨g, 0, none⟩) l.length c ∧ S g ∧ Rw t W lo g c l l.length := by
  obtain ⟨row, hS⟩ := OwnX.flat (e := .int) rfl h
  rcases h.form with ⟨q, _⟩ | ⟨g, c, rfl, _⟩
  · exact absurd q hl
  · exact ⟨g, c, rfl, hS g rfl, OwnX.of_flat (e := .int) rfl row (fun k hk => by cases hk; rfl), rfl⟩
end Go.Proofs.YtkpobihpcnoemaaDoor
/- The law's own markText: a text for each number. -/
namespace Go.Proofs.YtkpobihpcnoemaaDoor
open Go.RowKit
set_option linter.unusedVariables false

/-- One byte as a text. -/
def oneB (y : Int) : ByteArray := ⟨[UInt8.ofNat (y % 256).toNat].toArray⟩
theorem oneB_size (y : Int) : (oneB y).size = 1 := rfl
theorem oneB_byte (y : Int) (h0 : 0 ≤ y) (h1 : y ≤ 255) : y = ((UInt8.ofNat (y % 256).toNat).toNat : Int) := by
  rw [UInt8.toNat_ofNat_of_lt' (by simp; omega)]; omega
theorem conv1 (W : World) (y : Int) (h0 : 0 ≤ y) (h1 : y ≤ 255) :
    (convert 22 9 (.slice (some ⟨W.heap.size, 0, none⟩) 1 1)).run Tryd.prog (W.alloc (.cells #[.int .u8 y] 5)) = .ok (.string (oneB y)) (W.alloc (.cells #[.int .u8 y] 5)) := by
  refine Lib.run_convert_whole _ 22 5 9 Tryd.underlying22 Tryd.underlying5 Tryd.underlying9 W.heap.size 0 (oneB y) (fun i hi => ?_) 1
  have hi0 : i = 0 := by have : i < 1 := hi; omega
  subst hi0
  rw [World.cell?_alloc_new]
  show some (Value.int .u8 y) = some (Value.int .u8 ((UInt8.ofNat (y % 256).toNat).toNat : Int))
  rw [← oneB_byte y h0 h1]

/-- The digits of k ahead of a text. -/
def digs : Nat → Nat → ByteArray → ByteArray
  | 0, _, out => out
  | f + 1, k, out => if k = 0 then out else digs f (k / 10) (oneB (48 + (k : Int) % 10) ++ out)
def mtx (q : Int) : ByteArray := if q ≤ 0 then ⟨[109, 48].toArray⟩ else ⟨[109].toArray⟩ ++ digs q.toNat q.toNat ⟨#[]⟩
theorem digs_zero (f : Nat) (out : ByteArray) : digs f 0 out = out := by cases f <;> rfl
theorem digs_step {f k : Nat} {out : ByteArray} (hk : 0 < k) (hf : k ≤ f) : ∃ f', k / 10 ≤ f' ∧ digs f k out = digs f' (k / 10) (oneB (48 + (k : Int) % 10) ++ out) := by
  cases f with
  | zero => omega
  | succ f => exact ⟨f, by omega, by simp only [digs, if_neg (show ¬ k = 0 by omega)]⟩

theorem dig_size {k s : Nat} (hk : 0 < k) (h : k * 10 ^ s ≤ 8796093022208) : s ≤ 12 := by
  rcases Nat.lt_or_ge 12 s with g | g
  · have h1 : 10 ^ 13 ≤ 10 ^ s := Nat.pow_le_pow_right (by omega) g
    have h2 : 1 * 10 ^ s ≤ k * 10 ^ s := Nat.mul_le_mul_right _ hk
    have h3 : (10 : Nat) ^ 13 = 10000000000000 := by decide
    omega
  · exact g
theorem dig_next {k s : Nat} (h : k * 10 ^ s ≤ 8796093022208) : k / 10 * 10 ^ (s + 1) ≤ 8796093022208 := by
  have h1 : k / 10 * 10 ≤ k := Nat.div_mul_le_self k 10
  have h2 : k / 10 * 10 * 10 ^ s ≤ k * 10 ^ s := Nat.mul_le_mul_right _ h1
  have h3 : k / 10 * 10 ^ (s + 1) = k / 10 * 10 * 10 ^ s := by rw [Nat.pow_succ, Nat.mul_comm (10 ^ s) 10, Nat.mul_assoc]
  omega

end Go.Proofs.YtkpobihpcnoemaaDoor
/- Marks on shapes: each number, text and bool of a list gets one of its own. -/
namespace Go.Proofs.YtkpobihpcnoemaaDoor
open Go.RowKit
set_option linter.unusedVariables false

/-- How many marks a datum takes. -/
def cntD : (s : Sh) → s.T → Nat
  | .int, _ => 1
  | .str, _ => 1
  | .bool, _ => 1
  | .nil, _ => 0
  | .pair a b, x => cntD a x.1 + cntD b x.2
  | .list e, l => (l.map (cntD e)).sum
def mkLs {α : Type} (f : α → Int → α) (c : α → Nat) : List α → Int → List α
  | [], _ => []
  | x :: t, q => f x q :: mkLs f c t (q + (c x : Int))
/-- The datum with its marks from q on. -/
def mkD : (s : Sh) → s.T → Int → s.T
  | .int, _, q => q
  | .str, _, q => mtx q
  | .bool, _, q => q % 3 == 0
  | .nil, x, _ => x
  | .pair a b, x, q => (mkD a x.1 q, mkD b x.2 (q + (cntD a x.1 : Int)))
  | .list e, l, q => mkLs (mkD e) (cntD e) l q
theorem mkLs_len {α : Type} (f : α → Int → α) (c : α → Nat) : ∀ (l : List α) (q : Int), (mkLs f c l q).length = l.length
  | [], _ => rfl
  | x :: t, q => by simp [mkLs, mkLs_len f c t]
theorem mkD_len (e : Sh) (l : List e.T) (q : Int) : (mkD (.list e) l q).length = l.length := mkLs_len _ _ _ _
theorem mkLs_at {α : Type} (f : α → Int → α) (c : α → Nat) : ∀ (l : List α) (q : Int) (k : Nat) (h : k < l.length) (h' : k < (mkLs f c l q).length), (mkLs f c l q)[k] = f l[k] (q + (((l.take k).map c).sum : Nat))
  | [], _, _, h, _ => absurd h (by simp)
  | x :: t, q, 0, _, _ => by simp [mkLs]
  | x :: t, q, k + 1, h, h' => by
    simp only [mkLs, List.getElem_cons_succ]
    rw [mkLs_at f c t _ k (by simpa using h)]
    simp only [List.take_succ_cons, List.map_cons, List.sum_cons]
    congr 1
    omega
/-- How many marks the first k take. -/
def cntU (e : Sh) (l : List e.T) (k : Nat) : Nat := ((l.take k).map (cntD e)).sum
theorem cntU_zero (e : Sh) (l : List e.T) : cntU e l 0 = 0 := by simp [cntU]
theorem cntU_succ (e : Sh) (l : List e.T) (k : Nat) (h : k < l.length) : cntU e l (k + 1) = cntU e l k + cntD e l[k] := by
  unfold cntU
  rw [List.take_succ_eq_append_getElem h, List.map_append, List.sum_append]; simp
theorem cntU_all (e : Sh) (l : List e.T) : cntU e l l.length = cntD (.list e) l := by unfold cntU; rw [List.take_length]; rfl
theorem cntU_le (e : Sh) (l : List e.T) (k : Nat) : cntU e l k ≤ cntD (.list e) l := by
  unfold cntU
  show _ ≤ (l.map (cntD e)).sum
  have := List.take_append_drop k l
  conv => rhs; rw [← this, List.map_append, List.sum_append]
  omega
theorem mkD_at (e : Sh) (l : List e.T) (q : Int) (k : Nat) (h : k < l.length) (h' : k < (mkD (.list e) l q).length) : (mkD (.list e) l q)[k] = mkD e l[k] (q + (cntU e l k : Nat)) := mkLs_at _ _ _ _ _ h h'
/-- The first k are marked. -/
def mkU (e : Sh) (l : List e.T) (q : Int) (k : Nat) : List e.T := (mkD (.list e) l q).take k ++ l.drop k
theorem mkU_len (e : Sh) (l : List e.T) (q : Int) (k : Nat) : (mkU e l q k).length = l.length := by
  unfold mkU; rw [List.length_append, List.length_take, mkD_len, List.length_drop]; omega
theorem mkU_zero (e : Sh) (l : List e.T) (q : Int) : mkU e l q 0 = l := by simp [mkU]
theorem mkU_all (e : Sh) (l : List e.T) (q : Int) : mkU e l q l.length = mkD (.list e) l q := by
  unfold mkU; rw [List.drop_length, List.append_nil, List.take_of_length_le (by rw [mkD_len]; exact Nat.le_refl _)]
theorem mkU_q (e : Sh) (l : List e.T) (q : Int) (k i : Nat) (h : k ≤ l.length) : (mkU e l q k)[i]? = if i < k then (mkD (.list e) l q)[i]? else l[i]? := by
  unfold mkU
  by_cases g : i < k
  · rw [if_pos g, List.getElem?_append_left (by rw [List.length_take, mkD_len]; omega), List.getElem?_take, if_pos g]
  · rw [if_neg g, List.getElem?_append_right (by rw [List.length_take, mkD_len]; omega), List.getElem?_drop, List.length_take, mkD_len]
    congr 1
    omega
theorem mkU_at (e : Sh) (l : List e.T) (q : Int) (k : Nat) (h : k < l.length) (h' : k < (mkU e l q k).length) : (mkU e l q k)[k] = l[k] := by
  have h1 := mkU_q e l q k k (by omega)
  rw [if_neg (by omega), List.getElem?_eq_getElem h', List.getElem?_eq_getElem h] at h1
  exact Option.some.inj h1
theorem mkU_set (e : Sh) (l : List e.T) (q : Int) (k : Nat) (h : k < l.length) : (mkU e l q k).set k (mkD e l[k] (q + (cntU e l k : Nat))) = mkU e l q (k + 1) := by
  apply List.ext_getElem?
  intro i
  rw [mkU_q _ _ _ _ _ (by omega), List.getElem?_set]
  by_cases g : k = i
  · subst g
    rw [if_pos rfl, if_pos (by rw [mkU_len]; exact h), if_pos (by omega), List.getElem?_eq_getElem (by rw [mkD_len]; exact h), mkD_at e l q k h]
  · rw [if_neg g, mkU_q _ _ _ _ _ (by omega)]
    by_cases g2 : i < k
    · rw [if_pos g2, if_pos (by omega)]
    · rw [if_neg g2, if_neg (by omega)]
/-- A world in which the first j cells of element k of a row have been written, and the blocks Bk of that element may have turned. -/
def PartD (w0 w : World) (g n c k j : Nat) (vs : List Value) (Bk : Nat → Prop) : Prop :=
  TurnS (fun b => b = g ∨ Bk b) w0 w ∧ Room w g (n * c) ∧ (∀ q, q < k * c ∨ k * c + j ≤ q → w.cell? ⟨g, q, none⟩ = w0.cell? ⟨g, q, none⟩) ∧ (∀ t, t < j → w.cell? ⟨g, k * c + t, none⟩ = vs[t]?) ∧ g < w.heap.size
theorem PartD.start {w : World} {g n c k : Nat} {vs : List Value} {Bk : Nat → Prop} (h : Room w g (n * c)) (hg : g < w.heap.size) : PartD w w g n c k 0 vs Bk := ⟨TurnS.refl _ _, h, fun _ _ => rfl, fun t ht => absurd ht (by omega), hg⟩
theorem PartD.next {w0 w w' : World} {g n c k j : Nat} {vs : List Value} {Bk : Nat → Prop} (h : PartD w0 w g n c k j vs Bk) (hb : Below w.heap.size w w') : PartD w0 w' g n c k j vs Bk :=
  ⟨h.1.next hb, h.2.1.below hb h.2.2.2.2, fun q hq => (hb.cell (p := ⟨g, q, none⟩) h.2.2.2.2).trans (h.2.2.1 q hq), fun t ht => (hb.cell (p := ⟨g, k * c + t, none⟩) h.2.2.2.2).trans (h.2.2.2.1 t ht), Nat.lt_of_lt_of_le h.2.2.2.2 hb.size⟩
theorem PartD.turn {w0 w w' : World} {g n c k j : Nat} {vs : List Value} {Bk Bi : Nat → Prop} (h : PartD w0 w g n c k j vs Bk) (ht : TurnS Bi w w') (h1 : ∀ b, Bi b → Bk b) (h2 : ¬ Bi g) : PartD w0 w' g n c k j vs Bk :=
  ⟨h.1.trans (ht.wide (fun b hb => Or.inr (h1 b hb))), h.2.1.same (ht.block h.2.2.2.2 h2), fun q hq => (ht.cell h.2.2.2.2 h2).trans (h.2.2.1 q hq), fun t hj => (ht.cell h.2.2.2.2 h2).trans (h.2.2.2.1 t hj), Nat.lt_of_lt_of_le h.2.2.2.2 ht.size⟩
theorem PartD.set {w0 w : World} {g n c k j : Nat} {vs : List Value} {Bk : Nat → Prop} {v : Value} (h : PartD w0 w g n c k j vs Bk) (hk : k < n) (hj : j < c) (hv : vs[j]? = some v) : PartD w0 (w.setCell ⟨g, k * c + j, none⟩ v) g n c k (j + 1) vs Bk := by
  have hle := mul_step (c := c) hk
  refine ⟨h.1.set (p := ⟨g, k * c + j, none⟩) (Or.inl rfl) v, h.2.1.set (by omega), fun q hq => ?_, fun t ht => ?_, by simpa using h.2.2.2.2⟩
  · rw [World.cell?_setCell_other _ _ _ _ (addr_ne (by omega))]
    exact h.2.2.1 q (by omega)
  · by_cases e : t = j
    · subst e
      obtain ⟨⟨x, hx⟩, _⟩ := h.2.1 (k * c + t) (by omega)
      rw [World.cell?_setCell_same _ _ _ hx, hv]
    · rw [World.cell?_setCell_other _ _ _ _ (addr_ne (by omega))]
      exact h.2.2.2.1 t (by omega)
theorem PartD.skip {w0 w : World} {g n c k j : Nat} {vs : List Value} {Bk : Nat → Prop} (h : PartD w0 w g n c k j vs Bk) (hv : w0.cell? ⟨g, k * c + j, none⟩ = vs[j]?) : PartD w0 w g n c k (j + 1) vs Bk :=
  ⟨h.1, h.2.1, fun q hq => h.2.2.1 q (by omega), fun t ht => by
    by_cases e : t = j
    · subst e; rw [h.2.2.1 _ (by omega), hv]
    · exact h.2.2.2.1 t (by omega), h.2.2.2.2⟩
theorem PartD.old {w0 w : World} {g n c k j t : Nat} {vs : List Value} {Bk : Nat → Prop} (h : PartD w0 w g n c k j vs Bk) (ht : j ≤ t) {v : Value} (hv : w0.cell? ⟨g, k * c + t, none⟩ = some v) : w.cell? ⟨g, k * c + t, none⟩ = some v := (h.2.2.1 _ (by omega)).trans hv
theorem PartD.done {w0 w : World} {e : Sh} {g n k : Nat} {vs : List Value} {l : List e.T} {S : Nat → Prop} {B : Nat → Nat → Prop} {y : e.T} (h : PartD w0 w g n e.c k e.c vs (B k)) (hO : OwnK w0 e g n n l S B) (hk : k < n) (hvs : vs.length = e.c) (hy : Own w e vs y (B k)) : OwnK w e g n n (l.set k y) S B ∧ TurnS S w0 w :=
  ⟨hO.swap hk h.1.size h.2.1 (fun q hq => h.2.2.1 q hq) (fun b hb hg hB => h.1.block hb (fun q => q.elim hg hB)) hvs (fun j hj => h.2.2.2.1 j (by omega)) hy,
    h.1.wide (fun b hb => hb.elim (fun q => q ▸ hO.2.1) (fun q => (hO.2.2.1 k hk b q).1))⟩
theorem Bx.turnS {S : Nat → Prop} {w w' : World} {g : Nat} {vs : List Value} (h : Bx w g vs) (ht : TurnS S w w') (hx : ¬ S g) : Bx w' g vs :=
  ⟨fun j hj => ⟨(World.cell?_of_block (a := ⟨g, j, none⟩) (ht.block h.2 hx)).trans (h.1 j hj).1, (World.frozen?_of_block (a := ⟨g, j, none⟩) (ht.block h.2 hx)).trans (h.1 j hj).2⟩, Nat.lt_of_lt_of_le h.2 ht.size⟩
/-- What a marking function answers. -/
def MkP (s : Sh) (cs : List Value) (y : s.T) (q : Int) (S : Nat → Prop) (w : World) (r : Ending) (w' : World) : Prop := r = .returned (.int .i64 q) ∧ Own w' s cs y S ∧ TurnS S w w'
/-- A struct's lists marked, its other fields left alone. -/
def cntT : (s : Sh) → s.T → Nat
  | .int, _ => 0
  | .str, _ => 0
  | .bool, _ => 0
  | .nil, _ => 0
  | .pair a b, x => cntT a x.1 + cntT b x.2
  | .list e, l => cntD (.list e) l
def mkT : (s : Sh) → s.T → Int → s.T
  | .int, x, _ => x
  | .str, x, _ => x
  | .bool, x, _ => x
  | .nil, x, _ => x
  | .pair a b, x, q => (mkT a x.1 q, mkT b x.2 (q + (cntT a x.1 : Int)))
  | .list e, l, q => mkD (.list e) l q
end Go.Proofs.YtkpobihpcnoemaaDoor
