/- Synods: what is chosen, on both sides. -/
import Derived.Test.YtmhkfangfhanlaaSyJ
import Derived.Test.YtmhkfangfhanlaaSyS
import Derived.Test.YtmhkfangfhanlaaCln
import Derived.Test.YtmhkfangfhanlaaSrS
import Derived.Test.YtmhkfangfhanlaaL3E
import Derived.Test.YtmhkfangfhanlaaInsS
import Derived.Test.YtmhkfangfhanlaaMgD
import Derived.Test.YtmhkfangfhanlaaShC
import Derived.Test.YtmhkfangfhanlaaNtT
namespace Go.Proofs.Ytmhkfangfhanlaa
open Go.RowKit
set_option linter.unusedVariables false
set_option linter.unusedSimpArgs false

def vCell (t : ByteArray) : CellV := ⟨t, ⟨#[]⟩⟩
def chB (nc : Int) (n : Nat) : Bool := decide (nc < 2 * (n : Int))
def chS (nc : Int) (L : List CellV) (p : Sh.T shProposer) : List CellV := if chB nc p.2.2.2.2.1.length then putL L (vCell p.2.2.2.1) else L
def chK (nc : Int) (ps : List (Sh.T shProposer)) (k : Nat) : List CellV := (ps.take k).foldl (chS nc) []
theorem chK_succ {nc : Int} {ps : List (Sh.T shProposer)} {k : Nat} (h : k < ps.length) : chK nc ps (k + 1) = chS nc (chK nc ps k) ps[k] := by
  unfold chK; rw [List.take_succ_eq_append_getElem h, List.foldl_append]; rfl
theorem putL_mem {L : List CellV} {x c : CellV} (h : c ∈ putL L x) : c = x ∨ c ∈ L := by
  unfold putL at h
  split at h
  · rcases List.mem_append.1 h with q | q
    · exact Or.inr (List.mem_of_mem_take q)
    · rcases List.mem_cons.1 q with q | q
      · exact Or.inl q
      · exact Or.inr (List.mem_of_mem_drop q)
  · rcases List.mem_append.1 h with q | q
    · exact Or.inr (List.mem_of_mem_take q)
    · rcases List.mem_cons.1 q with q | q
      · exact Or.inl q
      · exact Or.inr (List.mem_of_mem_drop q)
theorem chK_inv {nc : Int} {ps : List (Sh.T shProposer)} : ∀ {k : Nat}, k ≤ ps.length → riseL (chK nc ps k) ∧ (∀ c ∈ chK nc ps k, c.f1 = ⟨#[]⟩) ∧ (chK nc ps k).length ≤ k
  | 0, _ => by
    have e : chK nc ps 0 = [] := by simp [chK]
    rw [e]
    exact ⟨fun i hi => by simp at hi, fun c hc => by simp at hc, Nat.zero_le _⟩
  | k + 1, hk => by
    obtain ⟨h1, h2, h3⟩ := chK_inv (nc := nc) (ps := ps) (k := k) (by omega)
    rw [chK_succ (by omega)]
    unfold chS
    split
    · refine ⟨putL_rise _ h1, fun c hc => ?_, ?_⟩
      · rcases putL_mem hc with q | q
        · rw [q]; rfl
        · exact h2 c q
      · have := putL_len (chK nc ps k) (vCell ps[k].2.2.2.1); omega
    · exact ⟨h1, h2, by omega⟩
theorem putL_same {L : List CellV} {t : ByteArray} (h : hitB L t = true) (h1 : ∀ c ∈ L, c.f1 = ⟨#[]⟩) : putL L (vCell t) = L := by
  unfold hitB at h
  have h := of_decide_eq_true h
  have e : cV L (plN L t.toList) = vCell t := by
    have hm : cV L (plN L t.toList) ∈ L := by rw [cV_at h.1]; exact List.getElem_mem _
    have h2 := h1 _ hm
    have h3 := h.2
    generalize cV L (plN L t.toList) = c at *
    obtain ⟨a, b⟩ := c
    simp only at h2 h3
    rw [h2, h3]; rfl
  have hp : putL L (vCell t) = L.take (plN L t.toList) ++ vCell t :: L.drop (plN L t.toList + 1) := by
    unfold putL
    exact if_pos ⟨h.1, by rw [show (vCell t).f0 = t from rfl, h.2]⟩
  rw [hp, ← e]
  exact (split_at h.1).symm
theorem putL_new {L : List CellV} {t : ByteArray} (h : hitB L t = false) : putL L (vCell t) = L.take (plN L t.toList) ++ vCell t :: L.drop (plN L t.toList) := by
  unfold hitB at h
  have h := of_decide_eq_false h
  unfold putL
  exact if_neg (fun q => h ⟨q.1, bytes_eq q.2⟩)
def kyL (L : List CellV) : List (Sh.T .str) := L.map CellV.f0
theorem kyL_len (L : List CellV) : (kyL L).length = L.length := List.length_map ..
noncomputable def chA (ac : List (Sh.T shAcceptor)) (ps : List (Sh.T shProposer)) : List (Sh.T .str) := if tf (goodS ac ps) then kyL (chK ac.length ps ps.length) else []
/-- A list of texts that is being built. -/
def OwS (W : World) (lo : Nat) (v : Value) (M : List ByteArray) : Prop := W.ownsRow lo 9 1 v M.length (M.map Value.string)
theorem OwS.nil (W : World) (lo : Nat) : OwS W lo (.slice none 0 0) [] := World.ownsRow_nil _ _ _ _
theorem OwS.next {W W' : World} {lo : Nat} {v : Value} {M : List ByteArray} (h : OwS W lo v M) (hb : Below W.heap.size W W') : OwS W' lo v M := ownsRow_next h hb
theorem OwS.app {W : World} {lo : Nat} {v : Value} {M : List ByteArray} (h : OwS W lo v M) : AppB W lo 9 .str v M := by
  refine ⟨M.map Value.string, fun _ _ => False, h, fun i hi => ?_, fun i hi b q => q.elim, fun i j _ _ b q => q.elim⟩
  show ((M.map Value.string).drop (i * 1)).take 1 = [.string M[i]]
  have hi' : i < M.length := hi
  rw [Nat.mul_one, List.drop_eq_getElem_cons (by rw [List.length_map]; exact hi'), List.take_succ_cons, List.take_zero, List.getElem_map]
theorem OwS.cells {W : World} {lo : Nat} {a : Option Addr} {c : Nat} {L : List CellV} (h : OwS W lo (.slice a L.length c) (kyL L)) : 0 < L.length → ∃ g, a = some ⟨g, 0, none⟩ ∧ ∀ j, j < L.length → W.cell? ⟨g, 0 + j, none⟩ = some (.string (cV L j).f0) := by
  intro hp
  rcases Go.Joins.ownsRow_forms h with ⟨_, h0⟩ | ⟨g, cap, hv⟩
  · rw [kyL_len] at h0; omega
  · simp only [Value.slice.injEq] at hv
    obtain ⟨rfl, hl, rfl⟩ := hv
    refine ⟨g, rfl, fun j hj => ?_⟩
    have h' : W.ownsRow lo 9 1 (.slice (some ⟨g, 0, none⟩) (kyL L).length c) (kyL L).length ((kyL L).map Value.string) := by
      show OwS W lo (.slice (some ⟨g, 0, none⟩) (kyL L).length c) (kyL L)
      rw [← hl]; exact h
    rw [Nat.zero_add, h'.cellAt j (by rw [kyL_len]; omega), List.getElem?_map]
    unfold kyL
    rw [List.getElem?_map, List.getElem?_eq_getElem hj, cV_at hj]; rfl
theorem OwS.form {W : World} {lo : Nat} {v : Value} {M : List ByteArray} (h : OwS W lo v M) : ∃ a c, v = .slice a M.length c := by
  rcases Go.Joins.ownsRow_forms h with ⟨h, h0⟩ | ⟨g, cap, hv⟩
  · exact ⟨none, 0, by rw [h, h0]⟩
  · exact ⟨_, _, hv⟩
theorem put_texts {M : List ByteArray} {t : ByteArray} {p : Nat} (hp : p ≤ M.length) : putAt (M.map Value.string) [.string t] (p * 1) = (M.take p ++ t :: M.drop p).map Value.string := by
  rw [putAt, Nat.mul_one, List.map_append, List.map_cons, List.map_take, List.map_drop, List.append_assoc]; rfl

set_option maxRecDepth 100000 in
set_option maxHeartbeats 4000000 in
theorem chosenIn_n (cs : List Value) (ac : List (Sh.T shAcceptor)) (ps : List (Sh.T shProposer)) (w : World) (hz : szD shSynod (ac, ps, ()) ≤ 1073741824) (h : Lies w shSynod cs (ac, ps, ())) :
    Calls Try.prog 15 #[.agg cs.toArray] w (LisP .str (chA ac ps) (tf (goodS ac ps)) w) := by
  obtain ⟨a1, k1, a2, k2, rfl, h1, h2⟩ := lies_Synod h
  have HL : Hid (Lies w (.list shAcceptor) [.slice a1 ac.length k1] ac ∧ Lies w (.list shProposer) [.slice a2 ps.length k2] ps) := ⟨h1, h2⟩
  have HZ : Hid (szD shSynod (ac, ps, ()) ≤ 1073741824) := hz
  have hno := (syn_sizes hz).2.2.2
  clear h h1 h2 hz
  have HB0 : Hid (Bx (w.alloc (.cells #[.slice a1 ac.length k1, .slice a2 ps.length k2] 30)) w.heap.size [.slice a1 ac.length k1, .slice a2 ps.length k2] ∧ Below w.heap.size w (w.alloc (.cells #[.slice a1 ac.length k1, .slice a2 ps.length k2] 30))) := ⟨Bx.new w [_, _] _, Go.Joins.below_alloc1 _ _⟩
  go_enter Try.func15, Try.ntmps15
  go_wp2_with fail
  refine (goodSynod_n [.slice a1 ac.length k1, .slice a2 ps.length k2] ac ps _ HZ.out (mk_Synod (HL.out.1.next HB0.out.2) (HL.out.2.next HB0.out.2))).mono ?_
  rintro r w1 ⟨rfl, hb⟩
  have HB1 : Hid (Bx w1 w.heap.size [.slice a1 ac.length k1, .slice a2 ps.length k2] ∧ Below w.heap.size w w1) := ⟨HB0.out.1.next hb, below_next HB0.out.2 hb⟩
  clear hb HB0
  have s0 := (HB1.out.1).cell 0 rfl; have s1 := (HB1.out.1).cell 1 rfl; have sz := (HB1.out.1).2
  by_cases c0 : goodS ac ps
  case neg =>
    have HN : Hid (chA ac ps = [] ∧ tf (goodS ac ps) = false) := ⟨by unfold chA; rw [tf_no c0]; rfl, tf_no c0⟩
    rw [tf_no c0]
    clear c0
    go_wp2
    refine bodyPost_ret (v := .tuple #[.slice none 0 0, .bool false]) (by simp [results, Try.results15, go_sem]) rfl ?_
    rw [HN.out.1, HN.out.2]
    exact ⟨none, 0, rfl, Own.none (Nat.zero_le _), HB1.out.2⟩
  have HN : Hid (chA ac ps = kyL (chK ac.length ps ps.length) ∧ tf (goodS ac ps) = true ∧ ac.length ≤ 12 ∧ ps.length ≤ 8) := ⟨by unfold chA; rw [tf_yes c0]; rfl, tf_yes c0, c0.1.2, c0.2.1.2⟩
  rw [tf_yes c0]
  clear c0
  go_wp2
  clear s0 s1 sz
  go_loopw [15, 4] (fun i v wr => ∃ k : Nat, k ≤ ps.length ∧ i = .int .i64 k ∧ OwS wr (w.heap.size + 1) v (kyL (chK ac.length ps k)) ∧ Bx wr w.heap.size [.slice a1 ac.length k1, .slice a2 ps.length k2] ∧ Below w.heap.size w wr) (fun i _ _ => ps.length - (intOf i).toNat)
  case atStart => exact ⟨0, Nat.zero_le _, rfl, OwS.nil _ _, HB1.out⟩
  case round =>
    obtain ⟨k, hk, rfl, hO, hbx, hBr⟩ := hrel
    clear HB1
    have HO : Hid (OwS wr (w.heap.size + 1) u4 (kyL (chK ac.length ps k)) ∧ Bx wr w.heap.size [.slice a1 ac.length k1, .slice a2 ps.length k2] ∧ Below w.heap.size w wr) := ⟨hO, hbx, hBr⟩
    have s0 := (hbx).cell 0 rfl; have s1 := (hbx).cell 1 rfl; have sz := (hbx).2
    by_cases hlt : k < ps.length
    · have hlt' : (k : Int) < (ps.length : Int) := by omega
      have HLE : Hid (Lies wr (.list shProposer) [.slice a2 ps.length k2] ps) := HL.out.2.next hBr
      obtain ⟨xg, xoff, xgo, xgs, xec, xel, xhec, xle⟩ := Lies.elem (HLE.out) hlt
      subst xgo
      rcases xX : ps[k] with ⟨x0, x1, x2, x3, x4, ⟨⟩⟩
      rw [xX] at xle
      have xH : Hid (ps[k] = (x0, x1, x2, x3, x4, ())) := xX
      clear xX
      obtain ⟨xa1, xk1, xa2, xk2, xev, xq1, xq2⟩ := lies_Proposer xle
      subst xev
      have xc0 : wr.cell? ⟨xg, xoff + k * 5, none⟩ = some (.string x0) := xhec 0 (by simp)
      have xc1 : wr.cell? ⟨xg, xoff + k * 5 + 1, none⟩ = some (.slice xa1 x1.length xk1) := xhec 1 (by simp)
      have xc2 : wr.cell? ⟨xg, xoff + k * 5 + 2, none⟩ = some (.bool x2) := xhec 2 (by simp)
      have xc3 : wr.cell? ⟨xg, xoff + k * 5 + 3, none⟩ = some (.string x3) := xhec 3 (by simp)
      have xc4 : wr.cell? ⟨xg, xoff + k * 5 + 4, none⟩ = some (.slice xa2 x4.length xk2) := xhec 4 (by simp)
      clear xhec xel xle
      have hV := (syn_sizes HZ.out).2.1 ps[k] (List.getElem_mem hlt)
      rw [xH.out] at hV
      have HV : Hid (x3.size ≤ 281474976710656) := Hid.intro (by have h2 : x3.size ≤ 1073741824 := hV.2.2.1; omega)
      have hn4 : x4.length ≤ 1073741824 := hV.2.2.2
      obtain ⟨i1, i2, i3⟩ := chK_inv (nc := (ac.length : Int)) (ps := ps) (k := k) hk
      have HSU : Hid (chK ac.length ps (k + 1) = if chB ac.length x4.length then putL (chK ac.length ps k) (vCell x3) else chK ac.length ps k) := Hid.intro (by rw [chK_succ hlt, xH.out]; rfl)
      obtain ⟨L, hLE⟩ : ∃ L, L = chK (ac.length : Int) ps k := ⟨_, rfl⟩
      rw [← hLE] at i1 i2 i3 HSU HO
      have HI : Hid (riseL L ∧ (∀ c ∈ L, c.f1 = ⟨#[]⟩) ∧ L.length ≤ 1000) := ⟨i1, i2, by have := HN.out.2.2.2; omega⟩
      obtain ⟨av, cv, hvE⟩ := HO.out.1.form
      rw [kyL_len] at hvE
      subst hvE
      obtain ⟨w2, hw2⟩ : ∃ x, x = wr.alloc (.cells #[.string x0, .slice xa1 x1.length xk1, .bool x2, .string x3, .slice xa2 x4.length xk2] 43) := ⟨_, rfl⟩
      have hb2 : Below wr.heap.size wr w2 := hw2 ▸ Go.Joins.below_alloc1 _ _
      have HB2 : Hid (Bx w2 wr.heap.size [.string x0, .slice xa1 x1.length xk1, .bool x2, .string x3, .slice xa2 x4.length xk2] ∧ OwS w2 (w.heap.size + 1) (.slice av L.length cv) (kyL L) ∧ Bx w2 w.heap.size [.slice a1 ac.length k1, .slice (some ⟨xg, xoff, none⟩) ps.length k2] ∧ Below w.heap.size w w2) := ⟨hw2 ▸ Bx.new wr [_, _, _, _, _] _, HO.out.1.next hb2, HO.out.2.1.next hb2, below_next HO.out.2.2 hb2⟩
      clear hO hbx hBr HLE hV i1 i2 i3 hLE HO xq1 xq2 hb2
      have HM : Hid (∀ W, Calls Try.prog 50 #[.int .i64 (x4.length : Nat), .int .i64 (ac.length : Nat)] W fun r w' => r = .returned (.bool (chB ac.length x4.length)) ∧ w' = W) := Hid.intro (fun W => isMost_n x4.length ac.length W hn4)
      cases cb : chB ac.length x4.length
      · have HS2 : Hid (chK ac.length ps (k + 1) = L) := Hid.intro (by rw [HSU.out, cb]; rfl)
        rw [cb] at HM
        clear HSU cb
        go_wp2_with (first | (go_at_call 50; rw [← hw2]; refine (HM.out _).mono ?_; rintro e w' ⟨rfl, hw⟩; have hw := hw.symm; subst hw; clear hw2))
        go_roundw
        case rel => exact ⟨k + 1, by omega, by go_num, by rw [HS2.out]; exact HB2.out.2.1, HB2.out.2.2⟩
        case measure => simp [intOf]; omega
      have HSU : Hid (chK ac.length ps (k + 1) = putL L (vCell x3)) := Hid.intro (by rw [HSU.out, cb]; rfl)
      rw [cb] at HM
      clear cb
      have p0 := (HB2.out.1).cell 0 rfl; have p1 := (HB2.out.1).cell 1 rfl; have p2 := (HB2.out.1).cell 2 rfl; have p3 := (HB2.out.1).cell 3 rfl; have p4 := (HB2.out.1).cell 4 rfl; have pz := (HB2.out.1).2
      go_wp2_with (first | (go_at_call 50; rw [← hw2]; refine (HM.out _).mono ?_; rintro e w' ⟨rfl, hw⟩; have hw := hw.symm; subst hw; clear hw2 s0 s1 sz xc0 xc1 xc2 xc3 xc4))
      refine (searchStr_n L x3 av cv _ HI.out.1 HI.out.2.2 HB2.out.2.1.cells).mono ?_
      rintro r w3 ⟨rfl, hb⟩
      have hple := plN_le L x3.toList
      have HB3 : Hid (Bx w3 wr.heap.size [.string x0, .slice xa1 x1.length xk1, .bool x2, .string x3, .slice xa2 x4.length xk2] ∧ OwS w3 (w.heap.size + 1) (.slice av L.length cv) (kyL L) ∧ Bx w3 w.heap.size [.slice a1 ac.length k1, .slice (some ⟨xg, xoff, none⟩) ps.length k2] ∧ Below w.heap.size w w3) := ⟨HB2.out.1.next hb, HB2.out.2.1.next hb, HB2.out.2.2.1.next hb, below_next HB2.out.2.2.2 hb⟩
      clear hb HB2 p0 p1 p2 p3 p4 pz
      cases ch : hitB L x3
      case true =>
        have HS2 : Hid (chK ac.length ps (k + 1) = L) := Hid.intro (by rw [HSU.out, putL_same ch HI.out.2.1])
        clear HSU
        generalize plN L x3.toList = pp at *
        go_wp2
        go_roundw
        case rel => exact ⟨k + 1, by omega, by go_num, by rw [HS2.out]; exact HB3.out.2.1, HB3.out.2.2⟩
        case measure => simp [intOf]; omega
      have HS2 : Hid (chK ac.length ps (k + 1) = L.take (plN L x3.toList) ++ vCell x3 :: L.drop (plN L x3.toList)) := Hid.intro (by rw [HSU.out, putL_new ch])
      clear HSU ch
      obtain ⟨pp, hpp⟩ : ∃ p, p = plN L x3.toList := ⟨_, rfl⟩
      rw [← hpp] at HS2 hple ⊢
      clear hpp
      have p0 := (HB3.out.1).cell 0 rfl; have p1 := (HB3.out.1).cell 1 rfl; have p2 := (HB3.out.1).cell 2 rfl; have p3 := (HB3.out.1).cell 3 rfl; have p4 := (HB3.out.1).cell 4 rfl; have pz := (HB3.out.1).2
      go_wp2_with fail
      clear p0 p1 p2 p3 p4 pz
      refine (clone_any _ _ HV.out).mono ?_
      rintro r w4 ⟨rfl, hb⟩
      have HB4 : Hid (OwS w4 (w.heap.size + 1) (.slice av L.length cv) (kyL L) ∧ Bx w4 w.heap.size [.slice a1 ac.length k1, .slice (some ⟨xg, xoff, none⟩) ps.length k2] ∧ Below w.heap.size w w4) := ⟨HB3.out.2.1.next hb, HB3.out.2.2.1.next hb, below_next HB3.out.2.2.2 hb⟩
      clear hb HB3
      have hz4 : w.heap.size + 1 ≤ w4.heap.size := HB4.out.2.1.2
      have hkl := kyL_len L
      have HOK : Hid (w4.ownsRow (w.heap.size + 1) 9 1 (.slice av L.length cv) L.length ((kyL L).map Value.string)) := Hid.intro (by have := HB4.out.1; unfold OwS at this; rwa [kyL_len] at this)
      have HLT : Hid (∀ j, (Value.slice av L.length cv).ownBlock = some j → w.heap.size + 1 ≤ j ∧ j < w4.heap.size) := fun j hj => HOK.out.lt j hj
      have hnl : L.length ≤ 1000 := HI.out.2.2
      go_wp2_with fail
      refine (insert_S (w.heap.size + 1) L.length pp w4.heap.size (.slice av L.length cv) ((kyL L).map Value.string) [.string x3] 9 _ hple (by omega) (World.ownsRow.alloc HOK.out _) (by intro u hu; obtain ⟨y, _, rfl⟩ := List.mem_map.1 hu; rfl) (heap_alloc_new w4 _) rfl (by intro u hu; simp at hu; subst hu; rfl) (by simp; omega) (fun e => by have := (HLT.out _ e).2; omega)).mono ?_
      rintro r w5 ⟨v5, rfl, ho, hgr, hwh⟩
      have HB5 : Hid (OwS w5 (w.heap.size + 1) v5 (kyL (chK ac.length ps (k + 1))) ∧ Bx w5 w.heap.size [.slice a1 ac.length k1, .slice (some ⟨xg, xoff, none⟩) ps.length k2] ∧ Below w.heap.size w w5) := by
        refine ⟨?_, (HB4.out.2.1.alloc _).grow hgr (fun e => by have := (HLT.out _ e.symm).1; omega), (HB4.out.2.2.alloc HB4.out.2.2.size _).grown hgr (by simp; omega) (fun j hj => by have := (HLT.out j hj).1; omega)⟩
        have e1 : kyL (chK ac.length ps (k + 1)) = (kyL L).take pp ++ x3 :: (kyL L).drop pp := by
          rw [HS2.out]; unfold kyL; rw [List.map_append, List.map_cons, List.map_take, List.map_drop]; rfl
        have e2 : (kyL (chK ac.length ps (k + 1))).length = L.length + 1 := by
          rw [e1, List.length_append, List.length_cons, List.length_take, List.length_drop, kyL_len]; omega
        unfold OwS
        rw [e2, e1, ← put_texts (by rw [kyL_len]; exact hple)]
        exact ho
      clear ho hgr hwh HB4 HOK HLT hkl
      go_wp2
      go_roundw
      case rel => exact ⟨k + 1, by omega, by go_num, HB5.out.1, HB5.out.2⟩
      case measure => simp [intOf]; omega
    · have hkn : k = ps.length := by omega
      have HF : Hid (∃ a cap, u4 = .slice a (chA ac ps).length cap ∧ Own wr (.list .str) [.slice a (chA ac ps).length cap] (chA ac ps) (Btw w.heap.size wr.heap.size) ∧ Below w.heap.size w wr) := by
        have hO2 := hO
        rw [hkn, ← HN.out.1] at hO2
        obtain ⟨a, cap, e, _, ho⟩ := (hO2.app.lo (Nat.le_succ _)).own
        exact ⟨a, cap, e, ho, hBr⟩
      obtain ⟨a, cap, e, ho⟩ := HF.out
      have HO2 := Hid.intro ho
      subst e
      clear hO hbx hBr ho HF HO hkn
      go_wp2
      refine bodyPost_ret (v := .tuple #[.slice a (chA ac ps).length cap, .bool true]) (by simp [results, Try.results15, go_sem]) rfl ?_
      rw [HN.out.2.1]
      exact ⟨a, cap, rfl, HO2.out⟩
end Go.Proofs.Ytmhkfangfhanlaa
