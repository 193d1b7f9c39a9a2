/- Appends of flat data to lists whose rows are known exactly. No Go text is spoken of here. -/
import Derived.Test.YtkpobihpcnoemaaShY
import Derived.Maps.AppendAt
import Derived.Laws.OwnMore
namespace Go.Proofs.Ytkpobihpcnoemaa
open Go.RowKit
set_option linter.unusedVariables false

theorem lies_flat {W : World} {e : Ty} (he : e.flatB = true) : ∀ {cs : List Value} {x : e.T}, Lies W e.sh cs x → cs = valC e x := by
  induction e with
  | int => intro cs x h; exact h
  | str => intro cs x h; exact h
  | bool => intro cs x h; exact h
  | nil => intro cs x h; exact h
  | pair a b iha ihb =>
    intro cs x h
    simp only [Ty.flatB, Bool.and_eq_true] at he
    obtain ⟨c1, c2, rfl, h1, h2⟩ := h
    rw [iha he.1 h1, ihb he.2 h2]; rfl
  | list e t ih => simp [Ty.flatB] at he
theorem lies_news {W : World} {e : Ty} (he : e.flatB = true) {ad : Addr} {n cap : Nat} {l : List e.T} (h : Lies W (.list e.sh) [.slice (some ad) n cap] l) (hl : l ≠ []) : ∀ j u, (l.flatMap (valC e))[j]? = some u → W.cell? (ad.add j) = some u := by
  obtain ⟨a, c, e1, _, _, h⟩ := h
  simp only [List.cons.injEq, Value.slice.injEq, and_true] at e1
  obtain ⟨rfl, _, _⟩ := e1
  rcases h with h | ⟨g, off, e2, hg, hE⟩
  · exact absurd h hl
  · have e2 : ad = ⟨g, off, none⟩ := by simpa using e2
    subst e2
    intro j u hu
    have hlen := flat_len (fun x => valC_len (s := e) x he) l
    have hjl : j < l.length * e.c := by
      rcases Nat.lt_or_ge j (l.flatMap (valC e)).length with q | q
      · rwa [hlen] at q
      · rw [List.getElem?_eq_none q] at hu; cases hu
    have hc : 0 < e.c := by
      rcases Nat.eq_zero_or_pos e.c with q | q
      · rw [q] at hjl; omega
      · exact q
    have hi : j / e.c < l.length := by rw [Nat.div_lt_iff_lt_mul hc]; exact hjl
    obtain ⟨ec, h1, h2, h3⟩ := hE (j / e.c) hi
    have hev := lies_flat he h3
    have hm : j % e.c < e.c := Nat.mod_lt _ hc
    have hd : j / e.c * e.c + j % e.c = j := by rw [Nat.mul_comm]; exact Nat.div_add_mod j e.c
    have hcell := h2 (j % e.c) (by rw [h1]; exact hm)
    have hch := flat_chunk (fun x => valC_len (s := e) x he) l (j / e.c) hi
    have h4 : (l.flatMap (valC e))[j]? = ec[j % e.c]? := by
      rw [hev, ← hch, cells_of_take hm, hd]
    have ha : (⟨g, off, none⟩ : Addr).add j = ⟨g, off + j / e.c * e.c + j % e.c, none⟩ := by
      rw [add0, Nat.add_assoc, hd]
    rw [ha]
    have hcell' : W.cell? ⟨g, off + j / e.c * e.c + j % e.c, none⟩ = ec[j % e.c]? := hcell
    rw [hcell', ← h4]; exact hu
theorem run_append_nil {P : Program} {w : World} (base : Nat) (t ty e : TypeId) (i : TypeInfo) (size c : Nat) (ht : P.underlying t = some (.slice e)) (hi : P.info? e = some i)
    (v : Value) (n : Nat) (xs : List Value) (hown : w.ownsRow base e size v n xs) : (Builtin.append_ #[t, t] ty #[v, .slice none 0 c]).run P w = .ok v w := by
  rcases hown.2 with ⟨rfl, rfl⟩ | ⟨g, cap, cur, rfl, _, _, hnc, _⟩
  · simp [Builtin.append_, run_underlying ht, sizeOf, typeInfo, hi, Builtin.lenOf, Builtin.firstCells]
  · simp [Builtin.append_, run_underlying ht, sizeOf, typeInfo, hi, Builtin.lenOf, Builtin.firstCells, hnc, storeCells]
/-- append(s, x...) of flat data. -/
theorem run_appx {P : Program} {w : World} (t ty et : TypeId) (i : TypeInfo) (z : Value) (bytes lo : Nat) (e : Ty) (he : e.flatB = true) (ht : P.underlying t = some (.slice et)) (hi : P.info? et = some i) (hz : i.zero = some z) (hsize : i.size = e.c) (hby : i.bytes = bytes) (hzs : z.cells.size = e.c) (hsz : 0 < e.c)
    (v : Value) (l l2 : List e.T) (S : Nat → Prop) (hO : OwnX w lo (.list e et) [v] l S) (ad : Option Addr) (cap : Nat) (hL : Lies w (.list e.sh) [.slice ad l2.length cap] l2) (h63 : l.length + l2.length ≤ maxLen) (hbytes : (l.length + l2.length) * bytes ≤ 140737488355328) (hbase : lo ≤ w.heap.size) :
    ∃ v' w', (Builtin.append_ #[t, t] ty #[v, .slice ad l2.length cap]).run P w = .ok v' w' ∧ OwnX w' lo (.list e et) [v'] (l ++ l2) (fun k => S k ∨ k = w.heap.size) ∧ w.grownBy w' v.ownBlock ∧ (v'.ownBlock = v.ownBlock ∨ v'.ownBlock = some w.heap.size) := by
  obtain ⟨hrow, hS⟩ := hO.flat he
  have hin : ∀ v' w', w'.ownsRow lo et e.c v' (l.length + l2.length) (l.flatMap (valC e) ++ l2.flatMap (valC e)) → (v'.ownBlock = v.ownBlock ∨ v'.ownBlock = some w.heap.size) → OwnX w' lo (.list e et) [v'] (l ++ l2) (fun k => S k ∨ k = w.heap.size) := by
    intro v' w' h2 h5
    refine OwnX.of_flat he (by rw [List.length_append, List.flatMap_append]; exact h2) (fun k hk => ?_)
    rcases h5 with q | q
    · exact Or.inl (hS k (q ▸ hk))
    · rw [q] at hk; cases hk; exact Or.inr rfl
  cases ad with
  | none =>
    have h0 : l2 = [] := by
      obtain ⟨a, c, e1, _, _, h⟩ := hL
      rcases h with h | ⟨g, off, e2, _⟩
      · exact h
      · simp only [List.cons.injEq, Value.slice.injEq, and_true] at e1
        rw [← e1.1] at e2; cases e2
    subst h0
    refine ⟨v, w, run_append_nil lo t ty et i e.c cap ht hi v l.length _ hrow, hin v w ?_ (Or.inl rfl), ⟨rfl, rfl, rfl, Nat.le_refl _, fun _ _ _ => rfl⟩, Or.inl rfl⟩
    simpa using hrow
  | some a =>
    obtain ⟨v', w', hr, h2, h3, _, h5⟩ := run_append_own_at (P := P) w lo t ty et i z e.c bytes ht hi hz hsize hby hzs hsz v l.length _ hrow a l2.length cap (l2.flatMap (valC e)) (flat_len (fun x => valC_len x he) l2) (by
      by_cases hl : l2 = []
      · subst hl; intro j u hu; simp at hu
      · exact lies_news he hL hl) (flat_one l2) h63 hbytes hbase
    exact ⟨v', w', hr, hin v' w' h2 h5, h3, h5⟩
theorem wp_appx {P : Program} {w : World} {o : Oper} {a : Act} {K : Act → World → Prop} {Q : Exit → Act → World → Prop} (s x : Operand) (t et : TypeId)
    (ho : o.op = .call { callee := .builtin .append, args := #[s, x], argTypes := #[t, t] }) (i : TypeInfo) (z : Value) (bytes lo : Nat) (e : Ty) (he : e.flatB = true) (ht : P.underlying t = some (.slice et)) (hi : P.info? et = some i) (hz : i.zero = some z) (hsize : i.size = e.c) (hby : i.bytes = bytes) (hzs : z.cells.size = e.c) (hsz : 0 < e.c)
    (v : Value) (l l2 : List e.T) (S : Nat → Prop) (hs : a.eval s = v) (hO : OwnX w lo (.list e et) [v] l S) (ad : Option Addr) (cap : Nat) (hx : a.eval x = .slice ad l2.length cap) (hL : Lies w (.list e.sh) [.slice ad l2.length cap] l2) (h63 : l.length + l2.length ≤ maxLen) (hbytes : (l.length + l2.length) * bytes ≤ 140737488355328) (hbase : lo ≤ w.heap.size)
    (h : ∀ v' w', OwnX w' lo (.list e et) [v'] (l ++ l2) (fun k => S k ∨ k = w.heap.size) → w.grownBy w' v.ownBlock → (v'.ownBlock = v.ownBlock ∨ v'.ownBlock = some w.heap.size) → K (a.put o.dst v') w') : o.wp P a w K Q := by
  obtain ⟨v', w', hr, h2, h3, h5⟩ := run_appx (P := P) (w := w) t o.type et i z bytes lo e he ht hi hz hsize hby hzs hsz v l l2 S hO ad cap hL h63 hbytes hbase
  unfold Oper.wp execOp
  simp only [ho, resolve, invoke, builtin, Sem.run_bind, Sem.run_pure, Result.andThen_ok, List.map_toArray, List.map_cons, List.map_nil, hs, hx, hr]
  exact h v' w' h2 h3 h5
theorem wpList_appx {P : Program} {w : World} {ops : Array Oper} {rest : List Oper} {o : Oper} {a : Act} {Q : Exit → Act → World → Prop} (hgd : o.guard = none) (s x : Operand) (t et : TypeId)
    (ho : o.op = .call { callee := .builtin .append, args := #[s, x], argTypes := #[t, t] }) (i : TypeInfo) (z : Value) (bytes lo : Nat) (e : Ty) (he : e.flatB = true) (ht : P.underlying t = some (.slice et)) (hi : P.info? et = some i) (hz : i.zero = some z) (hsize : i.size = e.c) (hby : i.bytes = bytes) (hzs : z.cells.size = e.c) (hsz : 0 < e.c)
    (v : Value) (l l2 : List e.T) (S : Nat → Prop) (hs : a.eval s = v) (hO : OwnX w lo (.list e et) [v] l S) (ad : Option Addr) (cap : Nat) (hx : a.eval x = .slice ad l2.length cap) (hL : Lies w (.list e.sh) [.slice ad l2.length cap] l2) (h63 : l.length + l2.length ≤ maxLen) (hbytes : (l.length + l2.length) * bytes ≤ 140737488355328) (hbase : lo ≤ w.heap.size)
    (h : ∀ v' w', OwnX w' lo (.list e et) [v'] (l ++ l2) (fun k => S k ∨ k = w.heap.size) → w.grownBy w' v.ownBlock → (v'.ownBlock = v.ownBlock ∨ v'.ownBlock = some w.heap.size) → wpList P ops Q rest (a.put o.dst v') w') : wpList P ops Q (o :: rest) a w := by
  refine wpList_plain hgd fun K hK => ?_
  exact wp_appx s x t et ho i z bytes lo e he ht hi hz hsize hby hzs hsz v l l2 S hs hO ad cap hx hL h63 hbytes hbase (fun v' w' h1 h2 h3 => hK _ _ (h v' w' h1 h2 h3))
/-- A struct is made anew, its rows known exactly. -/
def ToX (s : Ty) (x : s.T) (w : World) (r : Ending) (w' : World) : Prop := ∃ cs : List Value, r = .returned (.agg cs.toArray) ∧ OwnX w' w.heap.size s cs x (Btw w.heap.size w'.heap.size) ∧ Below w.heap.size w w'
theorem OwnX.vform {W : World} {lo : Nat} {e : Ty} {t : TypeId} {v : Value} {l : List e.T} {S : Nat → Prop} (h : OwnX W lo (.list e t) [v] l S) : ∃ a c, v = .slice a l.length c := by
  rcases h with ⟨hl, e1⟩ | ⟨g, cap, xs, B, e1, _⟩
  · exact ⟨none, 0, by rw [hl]; simpa using e1⟩
  · exact ⟨_, cap, by simpa using e1⟩
end Go.Proofs.Ytkpobihpcnoemaa
