/- Put together of: ShW, ShS, ShDv. -/
import Derived.Test.YtkpobihpcnoemaaDoorShY
import Derived.Maps.AppendAt
import Derived.Laws.OwnMore
import Derived.Test.YtkpobihpcnoemaaDoorGaP
/- Appends of flat data to lists whose rows are known exactly. No Go text is spoken of here. -/
namespace Go.Proofs.YtkpobihpcnoemaaDoor
open Go.RowKit
set_option linter.unusedVariables false

theorem lies_flat {W : World} {e : Ty} (he : e.flatB = true) : ∀ {cs : List Value} {x : e.T}, Lies W e.sh cs x → cs = valC e x := by
  induction e with
  | int => intro cs x h; exact h
  | str => intro cs x h; exact h
  | bool => intro cs x h; exact h
  | nil => intro cs x h; exact h
  | pair a b iha ihb =>
    intro cs x h
    simp only [Ty.flatB, Bool.and_eq_true] at he
    obtain ⟨c1, c2, rfl, h1, h2⟩ := h
    rw [iha he.1 h1, ihb he.2 h2]; rfl
  | list e t ih => simp [Ty.flatB] at he
theorem lies_news {W : World} {e : Ty} (he : e.flatB = true) {ad : Addr} {n cap : Nat} {l : List e.T} (h : Lies W (.list e.sh) [.slice (some ad) n cap] l) (hl : l ≠ []) : ∀ j u, (l.flatMap (valC e))[j]? = some u → W.cell? (ad.add j) = some u := by
  obtain ⟨a, c, e1, _, _, h⟩ := h
  simp only [List.cons.injEq, Value.slice.injEq, and_true] at e1
  obtain ⟨rfl, _, _⟩ := e1
  rcases h with h | ⟨g, off, e2, hg, hE⟩
  · exact absurd h hl
  · have e2 : ad = ⟨g, off, none⟩ := by simpa using e2
    subst e2
    intro j u hu
    have hlen := flat_len (fun x => valC_len (s := e) x he) l
    have hjl : j < l.length * e.c := by
      rcases Nat.lt_or_ge j (l.flatMap (valC e)).length with q | q
      · rwa [hlen] at q
      · rw [List.getElem?_eq_none q] at hu; cases hu
    have hc : 0 < e.c := by
      rcases Nat.eq_zero_or_pos e.c with q | q
      · rw [q] at hjl; omega
      · exact q
    have hi : j / e.c < l.length := by rw [Nat.div_lt_iff_lt_mul hc]; exact hjl
    obtain ⟨ec, h1, h2, h3⟩ := hE (j / e.c) hi
    have hev := lies_flat he h3
    have hm : j % e.c < e.c := Nat.mod_lt _ hc
    have hd : j / e.c * e.c + j % e.c = j := by rw [Nat.mul_comm]; exact Nat.div_add_mod j e.c
    have hcell := h2 (j % e.c) (by rw [h1]; exact hm)
    have hch := flat_chunk (fun x => valC_len (s := e) x he) l (j / e.c) hi
    have h4 : (l.flatMap (valC e))[j]? = ec[j % e.c]? := by
      rw [hev, ← hch, cells_of_take hm, hd]
    have ha : (⟨g, off, none⟩ : Addr).add j = ⟨g, off + j / e.c * e.c + j % e.c, none⟩ := by
      rw [add0, Nat.add_assoc, hd]
    rw [ha]
    have hcell' : W.cell? ⟨g, off + j / e.c * e.c + j % e.c, none⟩ = ec[j % e.c]? := hcell
    rw [hcell', ← h4]; exact hu
theorem run_append_nil {P : Program} {w : World} (base : Nat) (t ty e : TypeId) (i : TypeInfo) (size c : Nat) (ht : P.underlying t = some (.slice e)) (hi : P.info? e = some i)
    (v : Value) (n : Nat) (xs : List Value) (hown : w.ownsRow base e size v n xs) : (Builtin.append_ #[t, t] ty #[v, .slice none 0 c]).run P w = .ok v w := by
  rcases hown.2 with ⟨rfl, rfl⟩ | ⟨g, cap, cur, rfl, _, _, hnc, _⟩
  · simp [Builtin.append_, run_underlying ht, sizeOf, typeInfo, hi, Builtin.lenOf, Builtin.firstCells]
  · simp [Builtin.append_, run_underlying ht, sizeOf, typeInfo, hi, Builtin.lenOf, Builtin.firstCells, hnc, storeCells]
/-- append(s, x...) of flat data. -/
theorem run_appx {P : Program} {w : World} (t ty et : TypeId) (i : TypeInfo) (z : Value) (bytes lo : Nat) (e : Ty) (he : e.flatB = true) (ht : P.underlying t = some (.slice et)) (hi : P.info? et = some i) (hz : i.zero = some z) (hsize : i.size = e.c) (hby : i.bytes = bytes) (hzs : z.cells.size = e.c) (hsz : 0 < e.c)
    (v : Value) (l l2 : List e.T) (S : Nat → Prop) (hO : OwnX w lo (.list e et) [v] l S) (ad : Option Addr) (cap : Nat) (hL : Lies w (.list e.sh) [.slice ad l2.length cap] l2) (h63 : l.length + l2.length ≤ maxLen) (hbytes : (l.length + l2.length) * bytes ≤ 140737488355328) (hbase : lo ≤ w.heap.size) :
    ∃ v' w', (Builtin.append_ #[t, t] ty #[v, .slice ad l2.length cap]).run P w = .ok v' w' ∧ OwnX w' lo (.list e et) [v'] (l ++ l2) (fun k => S k ∨ k = w.heap.size) ∧ w.grownBy w' v.ownBlock ∧ (v'.ownBlock = v.ownBlock ∨ v'.ownBlock = some w.heap.size) := by
  obtain ⟨hrow, hS⟩ := hO.flat he
  have hin : ∀ v' w', w'.ownsRow lo et e.c v' (l.length + l2.length) (l.flatMap (valC e) ++ l2.flatMap (valC e)) → (v'.ownBlock = v.ownBlock ∨ v'.ownBlock = some w.heap.size) → OwnX w' lo (.list e et) [v'] (l ++ l2) (fun k => S k ∨ k = w.heap.size) := by
    intro v' w' h2 h5
    refine OwnX.of_flat he (by rw [List.length_append, List.flatMap_append]; exact h2) (fun k hk => ?_)
    rcases h5 with q | q
    · exact Or.inl (hS k (q ▸ hk))
    · rw [q] at hk; cases hk; exact Or.inr rfl
  cases ad with
  | none =>
    have h0 : l2 = [] := by
      obtain ⟨a, c, e1, _, _, h⟩ := hL
      rcases h with h | ⟨g, off, e2, _⟩
      · exact h
      · simp only [List.cons.injEq, Value.slice.injEq, and_true] at e1
        rw [← e1.1] at e2; cases e2
    subst h0
    refine ⟨v, w, run_append_nil lo t ty et i e.c cap ht hi v l.length _ hrow, hin v w ?_ (Or.inl rfl), ⟨rfl, rfl, rfl, Nat.le_refl _, fun _ _ _ => rfl⟩, Or.inl rfl⟩
    simpa using hrow
  | some a =>
    obtain ⟨v', w', hr, h2, h3, _, h5⟩ := run_append_own_at (P := P) w lo t ty et i z e.c bytes ht hi hz hsize hby hzs hsz v l.length _ hrow a l2.length cap (l2.flatMap (valC e)) (flat_len (fun x => valC_len x he) l2) (by
      by_cases hl : l2 = []
      · subst hl; intro j u hu; simp at hu
      · exact lies_news he hL hl) (flat_one l2) h63 hbytes hbase
    exact ⟨v', w', hr, hin v' w' h2 h5, h3, h5⟩
theorem wp_appx {P : Program} {w : World} {o : Oper} {a : Act} {K : Act → World → Prop} {Q : Exit → Act → World → Prop} (s x : Operand) (t et : TypeId)
    (ho : o.op = .call { callee := .builtin .append, args := #[s, x], argTypes := #[t, t] }) (i : TypeInfo) (z : Value) (bytes lo : Nat) (e : Ty) (he : e.flatB = true) (ht : P.underlying t = some (.slice et)) (hi : P.info? et = some i) (hz : i.zero = some z) (hsize : i.size = e.c) (hby : i.bytes = bytes) (hzs : z.cells.size = e.c) (hsz : 0 < e.c)
    (v : Value) (l l2 : List e.T) (S : Nat → Prop) (hs : a.eval s = v) (hO : OwnX w lo (.list e et) [v] l S) (ad : Option Addr) (cap : Nat) (hx : a.eval x = .slice ad l2.length cap) (hL : Lies w (.list e.sh) [.slice ad l2.length cap] l2) (h63 : l.length + l2.length ≤ maxLen) (hbytes : (l.length + l2.length) * bytes ≤ 140737488355328) (hbase : lo ≤ w.heap.size)
    (h : ∀ v' w', OwnX w' lo (.list e et) [v'] (l ++ l2) (fun k => S k ∨ k = w.heap.size) → w.grownBy w' v.ownBlock → (v'.ownBlock = v.ownBlock ∨ v'.ownBlock = some w.heap.size) → K (a.put o.dst v') w') : o.wp P a w K Q := by
  obtain ⟨v', w', hr, h2, h3, h5⟩ := run_appx (P := P) (w := w) t o.type et i z bytes lo e he ht hi hz hsize hby hzs hsz v l l2 S hO ad cap hL h63 hbytes hbase
  unfold Oper.wp execOp
  simp only [ho, resolve, invoke, builtin, Sem.run_bind, Sem.run_pure, Result.andThen_ok, List.map_toArray, List.map_cons, List.map_nil, hs, hx, hr]
  exact h v' w' h2 h3 h5
theorem wpList_appx {P : Program} {w : World} {ops : Array Oper} {rest : List Oper} {o : Oper} {a : Act} {Q : Exit → Act → World → Prop} (hgd : o.guard = none) (s x : Operand) (t et : TypeId)
    (ho : o.op = .call { callee := .builtin .append, args := #[s, x], argTypes := #[t, t] }) (i : TypeInfo) (z : Value) (bytes lo : Nat) (e : Ty) (he : e.flatB = true) (ht : P.underlying t = some (.slice et)) (hi : P.info? et = some i) (hz : i.zero = some z) (hsize : i.size = e.c) (hby : i.bytes = bytes) (hzs : z.cells.size = e.c) (hsz : 0 < e.c)
    (v : Value) (l l2 : List e.T) (S : Nat → Prop) (hs : a.eval s = v) (hO : OwnX w lo (.list e et) [v] l S) (ad : Option Addr) (cap : Nat) (hx : a.eval x = .slice ad l2.length cap) (hL : Lies w (.list e.sh) [.slice ad l2.length cap] l2) (h63 : l.length + l2.length ≤ maxLen) (hbytes : (l.length + l2.length) * bytes ≤ 140737488355328) (hbase : lo ≤ w.heap.size)
    (h : ∀ v' w', OwnX w' lo (.list e et) [v'] (l ++ l2) (fun k => S k ∨ k = w.heap.size) → w.grownBy w' v.ownBlock → (v'.ownBlock = v.ownBlock ∨ v'.ownBlock = some w.heap.size) → wpList P ops Q rest (a.put o.dst v') w') : wpList P ops Q (o :: rest) a w := by
  refine wpList_plain hgd fun K hK => ?_
  exact wp_appx s x t et ho i z bytes lo e he ht hi hz hsize hby hzs hsz v l l2 S hs hO ad cap hx hL h63 hbytes hbase (fun v' w' h1 h2 h3 => hK _ _ (h v' w' h1 h2 h3))
/-- A struct is made anew, its rows known exactly. -/
def ToX (s : Ty) (x : s.T) (w : World) (r : Ending) (w' : World) : Prop := ∃ cs : List Value, r = .returned (.agg cs.toArray) ∧ OwnX w' w.heap.size s cs x (Btw w.heap.size w'.heap.size) ∧ Below w.heap.size w w'
theorem OwnX.vform {W : World} {lo : Nat} {e : Ty} {t : TypeId} {v : Value} {l : List e.T} {S : Nat → Prop} (h : OwnX W lo (.list e t) [v] l S) : ∃ a c, v = .slice a l.length c := by
  rcases h with ⟨hl, e1⟩ | ⟨g, cap, xs, B, e1, _⟩
  · exact ⟨none, 0, by rw [hl]; simpa using e1⟩
  · exact ⟨_, cap, by simpa using e1⟩
end Go.Proofs.YtkpobihpcnoemaaDoor
/- Lists built anew whose rows are known exactly; one number of such a list set in place. No Go text is spoken of here. -/
namespace Go.Proofs.YtkpobihpcnoemaaDoor
open Go.RowKit
set_option linter.unusedVariables false
set_option linter.unusedSimpArgs false

theorem lies_drop {w : World} {e : Sh} {g off n cap : Nat} {l : List e.T} (h : Lies w (.list e) [.slice (some ⟨g, off, none⟩) n cap] l) (k : Nat) (hk : k ≤ l.length) : Lies w (.list e) [.slice (some ⟨g, off + k * e.c, none⟩) (n - k) (cap - k)] (l.drop k) := by
  obtain ⟨ad, c, e1, c1, c2, h⟩ := h
  simp only [List.cons.injEq, Value.slice.injEq, and_true] at e1
  obtain ⟨e0, rfl, rfl⟩ := e1
  have hl : (l.drop k).length = l.length - k := by rw [List.length_drop]
  refine ⟨_, _, by rw [hl], by omega, by omega, ?_⟩
  rcases h with h | ⟨g', off', e2, hg, hE⟩
  · left; rw [h]; simp
  · rw [← e0] at e2
    have e2 : g = g' ∧ off = off' := by simpa using e2
    obtain ⟨rfl, rfl⟩ := e2
    right
    refine ⟨g, off + k * e.c, rfl, hg, fun i hi => ?_⟩
    obtain ⟨ec, h1, h2, h3⟩ := hE (k + i) (by omega)
    refine ⟨ec, h1, fun j hj => ?_, by rw [List.getElem_drop]; exact h3⟩
    have := h2 j hj
    rw [Nat.add_mul] at this
    rw [← this]
    congr 2
    omega
theorem lies_one {w : World} {e : Sh} {cs : List Value} {x : e.T} (t : TypeId) (hl : cs.length = e.c) (h : Lies (w.alloc (.cells cs.toArray t)) e cs x) : Lies (w.alloc (.cells cs.toArray t)) (.list e) [.slice (some ⟨w.heap.size, 0, none⟩) 1 1] [x] := by
  refine ⟨_, 1, rfl, by simp, by unfold maxLen; omega, Or.inr ⟨w.heap.size, 0, rfl, by simp, fun i hi => ⟨cs, hl, fun j hj => ?_, ?_⟩⟩⟩
  · have hi0 : i = 0 := by simpa using hi
    subst hi0
    have hj' : j < cs.length := by omega
    rw [List.getElem?_eq_getElem hj']
    have := cells_new w cs t j cs[j] (List.getElem?_eq_getElem hj')
    simp
  · have hi0 : i = 0 := by simpa using hi
    subst hi0; exact h
/-- A list that is being built, since w. -/
def ApS (e : Ty) (t : TypeId) (w W : World) (v : Value) (l : List e.T) : Prop := OwnX W w.heap.size (.list e t) [v] l (Btw w.heap.size W.heap.size) ∧ Below w.heap.size w W
theorem ApS.nil {e : Ty} {t : TypeId} {w : World} : ApS e t w w (.slice none 0 0) [] := ⟨OwnX.nil', Below.refl _ _⟩
theorem ApS.next {e : Ty} {t : TypeId} {w W W' : World} {v : Value} {l : List e.T} (he : e.flatB = true) (h : ApS e t w W v l) (hb : Below W.heap.size W W') : ApS e t w W' v l := by
  obtain ⟨row, _⟩ := (h.1.next hb).flat he
  exact ⟨OwnX.of_flat he row (fun k hk => row.lt k hk), below_next h.2 hb⟩
theorem ApS.app {e : Ty} {t : TypeId} {w W W' : World} {v v' : Value} {l l2 : List e.T} {S : Nat → Prop} (he : e.flatB = true) (h : ApS e t w W v l) (hO : OwnX W' w.heap.size (.list e t) [v'] (l ++ l2) S) (hg : W.grownBy W' v.ownBlock) : ApS e t w W' v' (l ++ l2) := by
  obtain ⟨row, _⟩ := hO.flat he
  obtain ⟨row0, _⟩ := h.1.flat he
  exact ⟨OwnX.of_flat he row (fun k hk => row.lt k hk), h.2.grown hg h.2.size (fun k hk => (row0.lt k hk).1)⟩
/-- A new list is answered. -/
def NewX (e : Ty) (t : TypeId) (l : List e.T) (w : World) (r : Ending) (w' : World) : Prop := ∃ v, r = .returned v ∧ ApS e t w w' v l
theorem OwnX.form {W : World} {lo : Nat} {e : Ty} {t : TypeId} {v : Value} {l : List e.T} {S : Nat → Prop} (h : OwnX W lo (.list e t) [v] l S) : (l = [] ∧ v = .slice none 0 0) ∨ ∃ g cap, v = .slice (some ⟨g, 0, none⟩) l.length cap ∧ g < W.heap.size := by
  rcases h with ⟨hl, e1⟩ | ⟨g, cap, xs, B, e1, hr, _⟩
  · exact Or.inl ⟨hl, by simpa using e1⟩
  · have e1 : v = .slice (some ⟨g, 0, none⟩) l.length cap := by simpa using e1
    exact Or.inr ⟨g, cap, e1, by subst e1; exact hr.lt⟩
theorem ApS.made {e : Ty} {t : TypeId} {w : World} (he : e.flatB = true) : ApS e t w (w.alloc (.cells #[] t)) (.slice (some ⟨w.heap.size, 0, none⟩) 0 0) [] := by
  refine ⟨OwnX.of_flat he (World.ownsRow_made w #[] 0 (Nat.le_refl _) (Nat.zero_le _) (by simp)) (fun k hk => ?_), Go.Joins.below_alloc1 _ _⟩
  cases hk
  simp [Btw]
/-- One number of a list is set in place. -/
theorem OwnX.seti {W : World} {lo : Nat} {t : TypeId} {g n cap : Nat} {l : List (Sh.T .int)} {S : Nat → Prop} (h : OwnX W lo (.list .int t) [.slice (some ⟨g, 0, none⟩) n cap] l S) {k : Nat} (hk : k < l.length) (x : Int) : OwnX (W.setCell ⟨g, k, none⟩ (.int .i64 x)) lo (.list .int t) [.slice (some ⟨g, 0, none⟩) n cap] (l.set k x) S := by
  obtain ⟨g', cap', ec, Bk, hv, hg, hlo, hS, hB, hec, hcells, hroom, hO, hch, hback⟩ := OwnX.lens (e := .int) h hk
  simp only [Value.slice.injEq, Option.some.injEq, Addr.mk.injEq, and_true] at hv
  obtain ⟨rfl, _, _⟩ := hv
  have e : k * Ty.c .int = k := Nat.mul_one k
  have hO : ec = [.int .i64 l[k]] := hO
  subst hO
  have h2 := hch.set (j := 0) (by simp) (.int .i64 x)
  rw [e] at h2 hback
  exact (hback (W.setCell ⟨g, k, none⟩ (.int .i64 x)) [.int .i64 x] x Bk (fun _ => False) (fun b _ _ hb _ => Below.heap_setCell _ _ _ _ hb) h2 rfl (fun b hb => Or.inl hb) (fun b q => q.elim)).mono (fun b q => q.elim id False.elim)
theorem OwnX.inti {W : World} {lo : Nat} {t : TypeId} {g n cap : Nat} {l : List (Sh.T .int)} {S : Nat → Prop} (h : OwnX W lo (.list .int t) [.slice (some ⟨g, 0, none⟩) n cap] l S) {k : Nat} (hk : k < l.length) : W.cell? ⟨g, k, none⟩ = some (.int .i64 (atI l k)) ∧ W.frozen? ⟨g, k, none⟩ = false ∧ g < W.heap.size := by
  obtain ⟨g', cap', ec, Bk, hv, hg, hlo, hS, hB, hec, hcells, hroom, hO, hch, hback⟩ := OwnX.lens (e := .int) h hk
  simp only [Value.slice.injEq, Option.some.injEq, Addr.mk.injEq, and_true] at hv
  obtain ⟨rfl, _, _⟩ := hv
  have e : k * Ty.c .int = k := Nat.mul_one k
  have hO : ec = [.int .i64 l[k]] := hO
  subst hO
  have h1 := hcells 0 (by simp)
  rw [e] at h1
  have hr : k < l.length * Ty.c .int := Nat.lt_of_lt_of_le hk (Nat.le_of_eq (Nat.mul_one _).symm)
  exact ⟨by rw [atI_lt hk]; exact h1, (hroom k hr).2, hg⟩

/-- A list of numbers in a row of its own, block g. -/
def Rw (t : TypeId) (W : World) (lo g c : Nat) (l : List (Sh.T .int)) (m : Nat) : Prop := OwnX W lo (.list .int t) [.slice (some ⟨g, 0, none⟩) m c] l (fun k => k = g) ∧ l.length = m
theorem Rw.keep {t : TypeId} {W W' : World} {lo g c m : Nat} {l : List (Sh.T .int)} (h : Rw t W lo g c l m) (e : W'.heap[g]? = W.heap[g]?) : Rw t W' lo g c l m := ⟨h.1.keep (fun k _ hk => by have hk : k = g := hk; subst hk; exact e), h.2⟩
theorem Rw.lt {t : TypeId} {W : World} {lo g c m : Nat} {l : List (Sh.T .int)} (h : Rw t W lo g c l m) : g < W.heap.size ∧ lo ≤ g := by
  rcases h.1 with ⟨_, q⟩ | ⟨g', cap, xs, B, e1, hr, hlo, _⟩
  · simp at q
  · simp only [List.cons.injEq, Value.slice.injEq, Option.some.injEq, Addr.mk.injEq, and_true] at e1
    obtain ⟨rfl, _⟩ := e1
    exact ⟨hr.lt, hlo⟩
theorem Rw.next {t : TypeId} {W W' : World} {lo g c m : Nat} {l : List (Sh.T .int)} (h : Rw t W lo g c l m) (hb : Below W.heap.size W W') : Rw t W' lo g c l m := h.keep (hb.block g h.lt.1)
theorem Rw.turn {t : TypeId} {S : Nat → Prop} {W W' : World} {lo g c m : Nat} {l : List (Sh.T .int)} (h : Rw t W lo g c l m) (ht : TurnS S W W') (hg : ¬ S g) : Rw t W' lo g c l m := h.keep (ht.block h.lt.1 hg)
theorem Rw.other {t : TypeId} {W : World} {lo g c m : Nat} {l : List (Sh.T .int)} (h : Rw t W lo g c l m) {p : Addr} (hg : g ≠ p.block) (v : Value) : Rw t (W.setCell p v) lo g c l m := h.keep (Below.heap_setCell _ _ _ _ hg)
theorem Rw.set {t : TypeId} {W : World} {lo g c m : Nat} {l : List (Sh.T .int)} (h : Rw t W lo g c l m) {k : Nat} (hk : k < m) (x : Int) : Rw t (W.setCell ⟨g, k, none⟩ (.int .i64 x)) lo g c (l.set k x) m := ⟨h.1.seti (by rw [h.2]; exact hk) x, by rw [List.length_set]; exact h.2⟩
theorem Rw.at {t : TypeId} {W : World} {lo g c m : Nat} {l : List (Sh.T .int)} (h : Rw t W lo g c l m) {k : Nat} (hk : k < m) : W.cell? ⟨g, k, none⟩ = some (.int .i64 (atI l k)) ∧ W.frozen? ⟨g, k, none⟩ = false ∧ g < W.heap.size := h.1.inti (by rw [h.2]; exact hk)
theorem Rw.lies {t : TypeId} {W : World} {lo g c m : Nat} {l : List (Sh.T .int)} (h : Rw t W lo g c l m) : Lies W (.list .int) [.slice (some ⟨g, 0, none⟩) l.length c] l := by have := OwnX.lies h.1; rw [h.2]; exact this
theorem Rw.lower {t : TypeId} {W : World} {lo lo' g c m : Nat} {l : List (Sh.T .int)} (h : Rw t W lo g c l m) (hl : lo' ≤ lo) : Rw t W lo' g c l m := ⟨h.1.lower hl, h.2⟩
/-- A list that is not empty lies so. -/
theorem Rw.of {t : TypeId} {W : World} {lo : Nat} {v : Value} {l : List (Sh.T .int)} {S : Nat → Prop} (h : OwnX W lo (.list .int t) [v] l S) (hl : l ≠ []) : ∃ g c, v = .slice (some ⟨g, 0, none⟩) l.length c ∧ S g ∧ Rw t W lo g c l l.length := by
  obtain ⟨row, hS⟩ := OwnX.flat (e := .int) rfl h
  rcases h.form with ⟨q, _⟩ | ⟨g, c, rfl, _⟩
  · exact absurd q hl
  · exact ⟨g, c, rfl, hS g rfl, OwnX.of_flat (e := .int) rfl row (fun k hk => by cases hk; rfl), rfl⟩
end Go.Proofs.YtkpobihpcnoemaaDoor
/- A list of flat data that is being built while the cursor draws; a number drawn among some. -/
namespace Go.Proofs.YtkpobihpcnoemaaDoor
open Go.RowKit
set_option linter.unusedVariables false
set_option linter.unusedSimpArgs false

theorem Drew.grownX {w w' w'' : World} {g : Nat} {a : Option Addr} {n cap : Nat} {X : Nat → Int} {t : Nat} {row : Option Nat} (h : Drew g a n cap X t w w') (hg : w'.grownBy w'' row) (hgw : g < w.heap.size) (hne : ∀ j, row = some j → w.heap.size ≤ j) : Drew g a n cap X t w w'' := by
  refine ⟨h.1.grown hg (fun j hj => by have := hne j hj; omega), ⟨hg.os.trans h.2.1, hg.tape.trans h.2.2.1, hg.output.trans h.2.2.2.1, Nat.le_trans h.2.2.2.2.1 hg.size, fun k hk hx => ?_⟩⟩
  rw [hg.block k (Nat.lt_of_lt_of_le hk h.2.2.2.2.1) (fun e => by have := hne k e.symm; omega)]
  exact h.2.2.2.2.2 k hk hx
/-- A list of flat data that is being built while the cursor draws. -/
def DvH (e : Ty) (y : TypeId) (W w : World) (g : Nat) (a : Option Addr) (n cap : Nat) (X : Nat → Int) (t : Nat) (v : Value) (L : List e.T) : Prop := OwnX W w.heap.size (.list e y) [v] L (Btw w.heap.size W.heap.size) ∧ Drew g a n cap X t w W
section
variable {e : Ty} {y : TypeId} {W W' w : World} {g : Nat} {a : Option Addr} {n cap : Nat} {X : Nat → Int} {t t' : Nat} {v v' : Value} {L L2 : List e.T}
theorem DvH.draw (h : DvH e y W w g a n cap X t v L) (hd : Drew g a n cap X t' W W') (hg : g < w.heap.size) : DvH e y W' w g a n cap X t' v L :=
  ⟨(h.1.keep (fun k hk hs => hd.2.2.2.2.2 k hk (by have := hs.1; omega))).mono (fun k hk => ⟨hk.1, Nat.lt_of_lt_of_le hk.2 hd.2.2.2.2.1⟩), h.2.trans hd⟩
theorem DvH.alloc (h : DvH e y W w g a n cap X t v L) (o : Obj) : DvH e y (W.alloc o) w g a n cap X t v L :=
  ⟨(h.1.next (Go.Joins.below_alloc1 _ _)).mono (fun k hk => ⟨hk.1, Nat.lt_of_lt_of_le hk.2 (by simp)⟩), ⟨h.2.1.next (Go.Joins.below_alloc1 _ _), h.2.2.alloc _⟩⟩
theorem DvH.app {S : Nat → Prop} (he : e.flatB = true) (h : DvH e y W w g a n cap X t v L) (hg : g < w.heap.size) (hO : OwnX W' w.heap.size (.list e y) [v'] (L ++ L2) S) (hgr : W.grownBy W' v.ownBlock) : DvH e y W' w g a n cap X t v' (L ++ L2) := by
  obtain ⟨row, _⟩ := hO.flat he
  obtain ⟨row0, _⟩ := h.1.flat he
  exact ⟨OwnX.of_flat he row (fun k hk => row.lt k hk), h.2.grownX hgr hg (fun j hj => (row0.lt j hj).1)⟩
theorem DvH.set (h : DvH e y W w g a n cap X t v L) {b : Nat} (hg : g < w.heap.size) (hb : w.heap.size ≤ b) (hn : v.ownBlock ≠ some b) (he : e.flatB = true) (q : Nat) (u : Value) : DvH e y (W.setCell ⟨b, q, none⟩ u) w g a n cap X t v L := by
  obtain ⟨row, _⟩ := h.1.flat he
  have h1 : OwnX W w.heap.size (.list e y) [v] L (fun k => v.ownBlock = some k) := OwnX.of_flat he row (fun k hk => hk)
  have h2 := h1.set (p := ⟨b, q, none⟩) hn u
  refine ⟨h2.mono (fun k hk => by have := row.lt k hk; simp only [Btw, World.size_setCell]; exact this), h.2.out hg hb u⟩
end

theorem Bx.keepB {W W' : World} {b : Nat} {vs : List Value} (h : Bx W b vs) (hb : b < W.heap.size → W'.heap[b]? = W.heap[b]?) (hz : W.heap.size ≤ W'.heap.size) : Bx W' b vs :=
  ⟨fun j hj => ⟨(World.cell?_of_block (a := ⟨b, j, none⟩) (hb h.2)).trans (h.1 j hj).1, (World.frozen?_of_block (a := ⟨b, j, none⟩) (hb h.2)).trans (h.1 j hj).2⟩, Nat.lt_of_lt_of_le h.2 hz⟩
theorem OwnX.aform {W : World} {lo : Nat} {e : Ty} {t : TypeId} {a : Option Addr} {n c : Nat} {l : List e.T} {S : Nat → Prop} (h : OwnX W lo (.list e t) [.slice a n c] l S) : a = none ∨ ∃ gx, a = some ⟨gx, 0, none⟩ := by
  rcases h.form with ⟨_, e1⟩ | ⟨g, cap, e1, _⟩
  · cases e1; exact Or.inl rfl
  · cases e1; exact Or.inr ⟨g, rfl⟩
theorem snoc_len {α : Type} {l : List α} {x : α} {k : Nat} (h : l.length = k) : (l ++ [x]).length = k + 1 := by rw [List.length_append, h]; rfl

/-- The cells of a list of numbers that was just laid. -/
theorem int_new (w : World) (L : List Int) (e : TypeId) : ∀ i, i < L.length → (w.alloc (.cells (L.map (Value.int .i64)).toArray e)).cell? ⟨w.heap.size, i, none⟩ = some (.int .i64 (L.getD i 0)) := by
  intro i hi
  have := cells_new w (L.map (Value.int .i64)) e i (.int .i64 (L.getD i 0)) (by simp [List.getD, hi])
  have e1 : ((⟨w.heap.size, 0, none⟩ : Addr).add i) = ⟨w.heap.size, i, none⟩ := by unfold Addr.add; split <;> simp_all
  rw [e1] at this
  exact this
theorem int_small {L : List Int} {B : Int} (h : L.all (fun x => decide (-B ≤ x ∧ x ≤ B)) = true) : ∀ i, i < L.length → -B ≤ L.getD i 0 ∧ L.getD i 0 ≤ B := by
  intro i hi
  have := List.all_eq_true.1 h (L[i]) (List.getElem_mem hi)
  simpa [List.getD, hi] using this
set_option maxHeartbeats 400000 in
theorem amongL_any (g : Nat) (a : Option Addr) (n cap : Nat) (X : Nat → Int) (t : Nat) (l lc m : Nat) (Z : Nat → Int) (B : Int) (w : World) (ht : t ≤ 999990) (hc : Cur w g a n cap X t) (hl : l ≠ g) (hls : l < w.heap.size) (hm : 0 < m) (hm5 : m ≤ 20)
    (cs : ∀ i, i < m → w.cell? ⟨l, i, none⟩ = some (.int .i64 (Z i))) (zs : ∀ i, i < m → -B ≤ Z i ∧ Z i ≤ B) :
    Calls Tryd.prog 59 #[.pointer (some ⟨g, 0, none⟩), .slice (some ⟨l, 0, none⟩) m lc] w fun r w' => ∃ x : Int, (-B ≤ x ∧ x ≤ B) ∧ r = .returned (.int .i64 x) ∧ Drew g a n cap X (t + 2) w w' := by
  have HC : Hid (Cur w g a n cap X t) := hc
  have HZ : Hid ((∀ i, i < m → w.cell? ⟨l, i, none⟩ = some (.int .i64 (Z i))) ∧ ∀ i, i < m → -B ≤ Z i ∧ Z i ≤ B) := ⟨cs, zs⟩
  clear hc cs zs
  go_enter Tryd.func59, Tryd.ntmps59
  go_wp2_with fail
  refine (pick_any _ _ _ _ _ _ _ _ ht (by omega) HC.out).mono ?_
  rintro r w1 ⟨x, hx, rfl, hd⟩
  obtain ⟨i, him, hix⟩ : ∃ i : Nat, i < m ∧ x = (i : Int) := ⟨x.toNat, by omega, by omega⟩
  subst hix
  have H1 : Hid (Drew g a n cap X (t + 2) w w1) := hd
  have c0 := (World.cell?_of_block (a := ⟨l, i, none⟩) (hd.2.2.2.2.2 l hls (by omega))).trans (HZ.out.1 i him)
  have HZI := Hid.intro (HZ.out.2 i him)
  have him' : (i : Int) < (m : Int) := by omega
  clear hd HC HZ
  go_wp2
  go_ret
  exact ⟨Z i, HZI.out, rfl, H1.out⟩
end Go.Proofs.YtkpobihpcnoemaaDoor
