/- The contracts of ReadMsgs on both sides. -/
import Derived.Test.YtbklhmeaoigneaaRdW
import Derived.Test.YtbklhmeaoigneaaRdP
import Derived.Test.YtbklhmeaoigneaaMsgS
import Derived.Test.YtbklhmeaoigneaaTurn
namespace Go.Proofs.Ytbklhmeaoigneaa
open Go.RowKit
set_option linter.unusedVariables false

/-- The message at the front of a text. -/
def mvOf (s : ByteArray) : MsgV := ⟨mI s (b8 s 0), mI s (b8 s 1), mI s (b8 s 2), mI s (rdN s 3 2), mS s (rKey s), mS s (rVal s), mI s (rE s), mI s (unS (rdN s 5 8)), rGood s && unL (rdN s 5 8)⟩
theorem rAgg_mv (s : ByteArray) : rAgg s = #[.int .i64 (mvOf s).kd, .int .i64 (mvOf s).fr, .int .i64 (mvOf s).dt, .int .i64 (mvOf s).tx, .string (mvOf s).key, .string (mvOf s).val, .int .i64 (mvOf s).e, .int .i64 (mvOf s).s, .bool (mvOf s).b] := rfl
/-- What is left behind k messages. -/
def sq (s : ByteArray) : Nat → ByteArray
  | 0 => s
  | k + 1 => (sq s k).extract (rEnd (sq s k)) (sq s k).size
def rmM (s : ByteArray) (i : Nat) : MsgV := mvOf (sq s i)
/-- How many messages a text is, at most f. -/
def rms : Nat → ByteArray → Option Nat
  | 0, s => if s.size = 0 then some 0 else none
  | f + 1, s => if s.size = 0 then some 0 else if rGood s then (rms f (s.extract (rEnd s) s.size)).map (· + 1) else none
theorem rms_end {f : Nat} {s : ByteArray} (h : s.size = 0) : rms f s = some 0 := by cases f <;> simp [rms, h]
theorem rms_bad {f : Nat} {s : ByteArray} (h : ¬ s.size = 0) (hg : rGood s = false) : rms f s = none := by cases f <;> simp [rms, h, hg]
theorem rms_full {s : ByteArray} (h : ¬ s.size = 0) : rms (60 - 60) s = none := by simp [rms, h]
theorem rms_step {k : Nat} {s : ByteArray} (h : ¬ s.size = 0) (hg : rGood s = true) (hk : k < 60) : (rms (60 - k) s).map (· + k) = (rms (60 - (k + 1)) (s.extract (rEnd s) s.size)).map (· + (k + 1)) := by
  rw [show 60 - k = (60 - (k + 1)) + 1 by omega, rms, if_neg h, if_pos hg]
  cases rms (60 - (k + 1)) (s.extract (rEnd s) s.size) <;> simp <;> omega
theorem rEnd_pos (s : ByteArray) : 0 < rEnd s := by unfold rEnd rK; omega
theorem rGood_end {s : ByteArray} (h : rGood s = true) : rEnd s ≤ s.size := (rGood_parts h).2.2.2.1
def rmN (s : ByteArray) : Nat := (rms 60 s).getD 0
def rmOk (s : ByteArray) : Bool := (rms 60 s).isSome
def strLen : Value → Nat
  | .string x => x.size
  | _ => 0
def RmPost (s : ByteArray) (w : World) (r : Ending) (w' : World) : Prop :=
  (∃ a cap, r = .returned (.tuple #[.slice a (rmN s) cap, .bool (rmOk s)]) ∧ SRow w' w.heap.size w'.heap.size a (rmN s) 9 (msgF (rmM s))) ∧ Below w.heap.size w w'
theorem rm_no {s : ByteArray} {w w' : World} (h : rms 60 s = none) (hb : Below w.heap.size w w') : RmPost s w (.returned (.tuple #[.slice none 0 0, .bool false])) w' :=
  ⟨⟨none, 0, by simp [rmN, rmOk, h], Or.inl (by simp [rmN, h]), Nat.le_refl _⟩, hb⟩
theorem rm_yes {s : ByteArray} {w w' : World} {a : Option Addr} {k cap : Nat} (h : rms 60 s = some k) (hS : SRow w' w.heap.size w'.heap.size a k 9 (msgF (rmM s))) (hb : Below w.heap.size w w') : RmPost s w (.returned (.tuple #[.slice a k cap, .bool true])) w' :=
  ⟨⟨a, cap, by simp [rmN, rmOk, h], by simpa [rmN, h] using hS⟩, hb⟩
theorem rms_le : ∀ (f : Nat) (s : ByteArray) (n : Nat), rms f s = some n → n ≤ f
  | 0, s, n, h => by simp [rms] at h; omega
  | f + 1, s, n, h => by
    simp only [rms] at h
    split at h
    · simp at h; omega
    · split at h
      · cases hq : rms f (s.extract (rEnd s) s.size) with
        | none => rw [hq] at h; simp at h
        | some m => rw [hq] at h; simp at h; have := rms_le f _ m hq; omega
      · simp at h
theorem rmN_le (s : ByteArray) : rmN s ≤ 60 := by
  unfold rmN
  cases h : rms 60 s with
  | none => simp
  | some n => exact rms_le 60 s n h
theorem rowKeep {w w' : World} {base : Nat} {e : TypeId} {size : Nat} {v : Value} {n : Nat} {xs : List Value} (h : w.ownsRow base e size v n xs) (hb : Below w.heap.size w w') : w'.ownsRow base e size v n xs := by
  obtain ⟨h1, h2⟩ := h
  refine ⟨h1, ?_⟩
  rcases h2 with h2 | ⟨g, cap, cur, hv, hg, hh, r⟩
  · exact Or.inl h2
  · have : g < w.heap.size := by
      rcases Nat.lt_or_ge g w.heap.size with q | q
      · exact q
      · rw [Array.getElem?_eq_none q] at hh; cases hh
    exact Or.inr ⟨g, cap, cur, hv, hg, by rw [hb.block g this]; exact hh, r⟩
theorem cells_at {w : World} {s : Nat} (hs : w.heap.size = s) (C : List Value) (e : TypeId) : ∀ j u, C[j]? = some u → (w.alloc (.cells C.toArray e)).cell? ((⟨s, 0, none⟩ : Addr).add j) = some u := hs ▸ cells_new w C e

set_option maxRecDepth 100000 in
set_option maxHeartbeats 4000000 in
theorem readMsgs_any (s : ByteArray) (w : World) (hs : s.size ≤ 1048576) :
    Calls Try.prog 33 #[.string s] w fun r w' => RmPost s w r w' := by
  obtain ⟨i0, hi, hz0, hz1, hz2⟩ := info_parts info_msg
  go_enter Try.func33, Try.ntmps33
  go_wp2
  go_loopw [0, 4] (fun x v wr => ∃ k : Nat, k ≤ 60 ∧ x = .string (sq s k) ∧ (sq s k).size ≤ 1048576 ∧ wr.ownsRow w.heap.size 43 9 v k (cellsL (msgF (rmM s)) 9 k) ∧ rms 60 s = (rms (60 - k) (sq s k)).map (· + k) ∧ Below w.heap.size w wr) (fun x _ _ => strLen x)
  case atStart => exact ⟨0, by omega, rfl, hs, World.ownsRow_nil _ _ _ _, by simp [sq], Below.refl _ _⟩
  case round =>
    obtain ⟨k, hk, rfl, hsz, hown, hr, hB⟩ := hrel
    obtain ⟨x, hx⟩ : ∃ x, x = sq s k := ⟨_, rfl⟩
    rw [← hx] at hsz hr
    rw [← hx]
    have HX : Hid (x = sq s k) := hx
    clear hx
    by_cases h0 : x.size = 0
    · have h0' : ¬ (0 : Int) < (x.size : Int) := by omega
      have HR : Hid (rms 60 s = some k) := by show rms 60 s = some k; rw [hr, rms_end h0]; simp
      obtain ⟨a4, cap4, rfl, _, hS⟩ := SRow.of hown
      have HS : Hid (SRow wr w.heap.size wr.heap.size a4 k 9 (msgF (rmM s)) ∧ Below w.heap.size w wr) := ⟨hS, hB⟩
      clear hown hr hB hS
      go_wp2
      exact bodyPost_ret (v := .tuple #[.slice a4 k cap4, .bool true]) (by simp [results, Try.results33, go_sem]) rfl (rm_yes HR.out HS.out.1 HS.out.2)
    · have h0' : (0 : Int) < (x.size : Int) := by omega
      have HO : Hid (wr.ownsRow w.heap.size 43 9 u4 k (cellsL (msgF (rmM s)) 9 k) ∧ rms 60 s = (rms (60 - k) x).map (· + k) ∧ Below w.heap.size w wr) := ⟨hown, hr, hB⟩
      have hn0 : ∃ a4 cap4, u4 = .slice a4 k cap4 := by obtain ⟨a4, cap4, e, _⟩ := SRow.of hown; exact ⟨a4, cap4, e⟩
      clear hown hr hB
      go_wp2_with fail
      refine (readMsg_any x _ hsz).mono ?_
      rintro r w2 ⟨rfl, hb2⟩
      have HB2 : Hid (Below wr.heap.size wr w2) := hb2
      have hzz : w.heap.size ≤ w2.heap.size := Nat.le_trans HO.out.2.2.size hb2.size
      clear hb2
      rw [rAgg_mv]
      cases hg : rGood x
      · have hz : mI x (rEnd x) = 0 := by simp [mI, hg]
        rw [hz]
        have HN : Hid (rms 60 s = none) := by show rms 60 s = none; rw [HO.out.2.1, rms_bad h0 hg]; rfl
        have HB : Hid (Below w.heap.size w (w2.alloc (.cells #[.int .i64 (mvOf x).kd, .int .i64 (mvOf x).fr, .int .i64 (mvOf x).dt, .int .i64 (mvOf x).tx, .string (mvOf x).key, .string (mvOf x).val, .int .i64 (mvOf x).e, .int .i64 (mvOf x).s, .bool (mvOf x).b] 43))) := (HO.out.2.2.trans (HB2.out.mono HO.out.2.2.size)).alloc hzz _
        generalize mvOf x = mv at *
        go_wp2
        exact bodyPost_ret (v := .tuple #[.slice none 0 0, .bool false]) (by simp [results, Try.results33, go_sem]) rfl (rm_no HN.out HB.out)
      have hEp := rEnd_pos x
      have hEs := (rGood_end hg)
      have hz : mI x (rEnd x) = ((rEnd x : Nat) : Int) := by simp [mI, hg]
      rw [hz]
      have hEp' : (((rEnd x : Nat) : Int) == 0) = false := by simp; omega
      have HE : Hid (sq s (k + 1) = x.extract (rEnd x) x.size ∧ (x.extract (rEnd x) x.size).size < x.size) := ⟨by rw [sq, ← HX.out], by rw [ByteArray.size_extract]; omega⟩
      by_cases h60 : k = 60
      · have HN : Hid (rms 60 s = none) := by show rms 60 s = none; rw [HO.out.2.1, h60, rms_full h0]; rfl
        have HB : Hid (Below w.heap.size w (w2.alloc (.cells #[.int .i64 (mvOf x).kd, .int .i64 (mvOf x).fr, .int .i64 (mvOf x).dt, .int .i64 (mvOf x).tx, .string (mvOf x).key, .string (mvOf x).val, .int .i64 (mvOf x).e, .int .i64 (mvOf x).s, .bool (mvOf x).b] 43))) := (HO.out.2.2.trans (HB2.out.mono HO.out.2.2.size)).alloc hzz _
        generalize mvOf x = mv at *
        obtain ⟨a4, cap4, rfl⟩ := hn0
        have h60' : ((k : Int) == 60) = true := by simp; omega
        clear h60
        go_wp2
        exact bodyPost_ret (v := .tuple #[.slice none 0 0, .bool false]) (by simp [results, Try.results33, go_sem]) rfl (rm_no HN.out HB.out)
      have h60' : ((k : Int) == 60) = false := by simp; omega
      have HR : Hid (rms 60 s = (rms (60 - (k + 1)) (sq s (k + 1))).map (· + (k + 1))) := by show _ = _; rw [HO.out.2.1, HE.out.1]; exact rms_step h0 hg (by omega)
      have hkn : k ≤ 59 := by omega
      have HM : Hid (mvOf x = rmM s k) := by show _ = _; rw [HX.out]; rfl
      generalize mvOf x = mv at *
      have HW : Hid ((w2.alloc (.cells #[.int .i64 mv.kd, .int .i64 mv.fr, .int .i64 mv.dt, .int .i64 mv.tx, .string mv.key, .string mv.val, .int .i64 mv.e, .int .i64 mv.s, .bool mv.b] 43)).ownsRow w.heap.size 43 9 u4 k (cellsL (msgF (rmM s)) 9 k) ∧ Below w.heap.size w (w2.alloc (.cells #[.int .i64 mv.kd, .int .i64 mv.fr, .int .i64 mv.dt, .int .i64 mv.tx, .string mv.key, .string mv.val, .int .i64 mv.e, .int .i64 mv.s, .bool mv.b] 43))) := ⟨rowKeep HO.out.1 (HB2.out.trans ((Go.Joins.below_alloc1 _ _).mono HB2.out.size)), (HO.out.2.2.trans (HB2.out.mono HO.out.2.2.size)).alloc hzz _⟩
      obtain ⟨a4, cap4, rfl⟩ := hn0
      obtain ⟨en, hen⟩ : ∃ e : Nat, e = rEnd x := ⟨_, rfl⟩
      rw [← hen] at hEs HE hEp' hEp
      rw [← hen]
      have hes : ((en : Nat) : Int) ≤ (x.size : Int) := by omega
      clear hen hz hg h60
      go_wp2_with (first
        | (at_builtin; refine wpList_append_own _ rfl (.tmp 22) (.tmp 24) 49 rfl w.heap.size 43 i0 (.agg #[.int .i64 0, .int .i64 0, .int .i64 0, .int .i64 0, .string ⟨#[]⟩, .string ⟨#[]⟩, .int .i64 0, .int .i64 0, .bool false]) 9 88 Try.underlying49 hi hz0 hz1 hz2 rfl (by decide) (.slice a4 k cap4) k (cellsL (msgF (rmM s)) 9 k) rfl (World.ownsRow.alloc HW.out.1 _) ⟨_, 0, none⟩ 1 1 [.int .i64 mv.kd, .int .i64 mv.fr, .int .i64 mv.dt, .int .i64 mv.tx, .string mv.key, .string mv.val, .int .i64 mv.e, .int .i64 mv.s, .bool mv.b] rfl rfl (cells_at (by first | rfl | simp) _ _) (by intro u hu; simp at hu; rcases hu with rfl | rfl | rfl | rfl | rfl | rfl | rfl | rfl | rfl <;> rfl) (by unfold maxLen; omega) (by omega) (by simp <;> omega) ?_; intro v4 w4 hown hgrow hnil)
        | go_in)
      have HF : Hid (w4.ownsRow w.heap.size 43 9 v4 (k + 1) (cellsL (msgF (rmM s)) 9 (k + 1)) ∧ Below w.heap.size w w4) := by
        refine ⟨?_, (HW.out.2.alloc HW.out.2.size _).grown hgrow (by have := HW.out.2.size; simp at this ⊢; omega) (fun j hj => (HW.out.1.lt j hj).1)⟩
        have e : (List.range 9).map (msgF (rmM s) k) = [.int .i64 mv.kd, .int .i64 mv.fr, .int .i64 mv.dt, .int .i64 mv.tx, .string mv.key, .string mv.val, .int .i64 mv.e, .int .i64 mv.s, .bool mv.b] := by rw [HM.out]; rfl
        rw [cellsL, e]; exact hown
      clear hown hgrow hnil HW
      go_wp2
      go_roundw
      case rel => exact ⟨k + 1, by omega, by rw [HE.out.1], by rw [HE.out.1]; have := HE.out.2; omega, HF.out.1, HR.out, HF.out.2⟩
      case measure => exact HE.out.2

set_option maxRecDepth 100000 in
set_option maxHeartbeats 4000000 in
theorem specReadMsgs_any (s : ByteArray) (w : World) (hs : s.size ≤ 1048576) :
    Calls Try.prog 51 #[.string s] w fun r w' => RmPost s w r w' := by
  obtain ⟨i0, hi, hz0, hz1, hz2⟩ := info_parts info_msg
  go_enter Try.func51, Try.ntmps51
  go_wp2
  go_loopw [0, 4] (fun x v wr => ∃ k : Nat, k ≤ 60 ∧ x = .string (sq s k) ∧ (sq s k).size ≤ 1048576 ∧ wr.ownsRow w.heap.size 43 9 v k (cellsL (msgF (rmM s)) 9 k) ∧ rms 60 s = (rms (60 - k) (sq s k)).map (· + k) ∧ Below w.heap.size w wr) (fun x _ _ => strLen x)
  case atStart => exact ⟨0, by omega, rfl, hs, World.ownsRow_nil _ _ _ _, by simp [sq], Below.refl _ _⟩
  case round =>
    obtain ⟨k, hk, rfl, hsz, hown, hr, hB⟩ := hrel
    obtain ⟨x, hx⟩ : ∃ x, x = sq s k := ⟨_, rfl⟩
    rw [← hx] at hsz hr
    rw [← hx]
    have HX : Hid (x = sq s k) := hx
    clear hx
    by_cases h0 : x.size = 0
    · have h0' : ¬ (0 : Int) < (x.size : Int) := by omega
      have HR : Hid (rms 60 s = some k) := by show rms 60 s = some k; rw [hr, rms_end h0]; simp
      obtain ⟨a4, cap4, rfl, _, hS⟩ := SRow.of hown
      have HS : Hid (SRow wr w.heap.size wr.heap.size a4 k 9 (msgF (rmM s)) ∧ Below w.heap.size w wr) := ⟨hS, hB⟩
      clear hown hr hB hS
      go_wp2
      exact bodyPost_ret (v := .tuple #[.slice a4 k cap4, .bool true]) (by simp [results, Try.results51, go_sem]) rfl (rm_yes HR.out HS.out.1 HS.out.2)
    · have h0' : (0 : Int) < (x.size : Int) := by omega
      have HO : Hid (wr.ownsRow w.heap.size 43 9 u4 k (cellsL (msgF (rmM s)) 9 k) ∧ rms 60 s = (rms (60 - k) x).map (· + k) ∧ Below w.heap.size w wr) := ⟨hown, hr, hB⟩
      have hn0 : ∃ a4 cap4, u4 = .slice a4 k cap4 := by obtain ⟨a4, cap4, e, _⟩ := SRow.of hown; exact ⟨a4, cap4, e⟩
      clear hown hr hB
      go_wp2_with fail
      refine (l1Read_any x _ hsz).mono ?_
      rintro r w2 ⟨rfl, hb2⟩
      have HB2 : Hid (Below wr.heap.size wr w2) := hb2
      have hzz : w.heap.size ≤ w2.heap.size := Nat.le_trans HO.out.2.2.size hb2.size
      clear hb2
      rw [rAgg_mv]
      cases hg : rGood x
      · have hz : mI x (rEnd x) = 0 := by simp [mI, hg]
        rw [hz]
        have HN : Hid (rms 60 s = none) := by show rms 60 s = none; rw [HO.out.2.1, rms_bad h0 hg]; rfl
        have HB : Hid (Below w.heap.size w (w2.alloc (.cells #[.int .i64 (mvOf x).kd, .int .i64 (mvOf x).fr, .int .i64 (mvOf x).dt, .int .i64 (mvOf x).tx, .string (mvOf x).key, .string (mvOf x).val, .int .i64 (mvOf x).e, .int .i64 (mvOf x).s, .bool (mvOf x).b] 43))) := (HO.out.2.2.trans (HB2.out.mono HO.out.2.2.size)).alloc hzz _
        generalize mvOf x = mv at *
        go_wp2
        exact bodyPost_ret (v := .tuple #[.slice none 0 0, .bool false]) (by simp [results, Try.results51, go_sem]) rfl (rm_no HN.out HB.out)
      have hEp := rEnd_pos x
      have hEs := (rGood_end hg)
      have hz : mI x (rEnd x) = ((rEnd x : Nat) : Int) := by simp [mI, hg]
      rw [hz]
      have hEp' : (((rEnd x : Nat) : Int) == 0) = false := by simp; omega
      have HE : Hid (sq s (k + 1) = x.extract (rEnd x) x.size ∧ (x.extract (rEnd x) x.size).size < x.size) := ⟨by rw [sq, ← HX.out], by rw [ByteArray.size_extract]; omega⟩
      by_cases h60 : k = 60
      · have HN : Hid (rms 60 s = none) := by show rms 60 s = none; rw [HO.out.2.1, h60, rms_full h0]; rfl
        have HB : Hid (Below w.heap.size w (w2.alloc (.cells #[.int .i64 (mvOf x).kd, .int .i64 (mvOf x).fr, .int .i64 (mvOf x).dt, .int .i64 (mvOf x).tx, .string (mvOf x).key, .string (mvOf x).val, .int .i64 (mvOf x).e, .int .i64 (mvOf x).s, .bool (mvOf x).b] 43))) := (HO.out.2.2.trans (HB2.out.mono HO.out.2.2.size)).alloc hzz _
        generalize mvOf x = mv at *
        obtain ⟨a4, cap4, rfl⟩ := hn0
        have h60' : ((k : Int) == 60) = true := by simp; omega
        clear h60
        go_wp2
        exact bodyPost_ret (v := .tuple #[.slice none 0 0, .bool false]) (by simp [results, Try.results51, go_sem]) rfl (rm_no HN.out HB.out)
      have h60' : ((k : Int) == 60) = false := by simp; omega
      have HR : Hid (rms 60 s = (rms (60 - (k + 1)) (sq s (k + 1))).map (· + (k + 1))) := by show _ = _; rw [HO.out.2.1, HE.out.1]; exact rms_step h0 hg (by omega)
      have hkn : k ≤ 59 := by omega
      have HM : Hid (mvOf x = rmM s k) := by show _ = _; rw [HX.out]; rfl
      generalize mvOf x = mv at *
      have HW : Hid ((w2.alloc (.cells #[.int .i64 mv.kd, .int .i64 mv.fr, .int .i64 mv.dt, .int .i64 mv.tx, .string mv.key, .string mv.val, .int .i64 mv.e, .int .i64 mv.s, .bool mv.b] 43)).ownsRow w.heap.size 43 9 u4 k (cellsL (msgF (rmM s)) 9 k) ∧ Below w.heap.size w (w2.alloc (.cells #[.int .i64 mv.kd, .int .i64 mv.fr, .int .i64 mv.dt, .int .i64 mv.tx, .string mv.key, .string mv.val, .int .i64 mv.e, .int .i64 mv.s, .bool mv.b] 43))) := ⟨rowKeep HO.out.1 (HB2.out.trans ((Go.Joins.below_alloc1 _ _).mono HB2.out.size)), (HO.out.2.2.trans (HB2.out.mono HO.out.2.2.size)).alloc hzz _⟩
      obtain ⟨a4, cap4, rfl⟩ := hn0
      obtain ⟨en, hen⟩ : ∃ e : Nat, e = rEnd x := ⟨_, rfl⟩
      rw [← hen] at hEs HE hEp' hEp
      rw [← hen]
      have hes : ((en : Nat) : Int) ≤ (x.size : Int) := by omega
      clear hen hz hg h60
      go_wp2_with (first
        | (at_builtin; refine wpList_append_own _ rfl (.tmp 22) (.tmp 24) 49 rfl w.heap.size 43 i0 (.agg #[.int .i64 0, .int .i64 0, .int .i64 0, .int .i64 0, .string ⟨#[]⟩, .string ⟨#[]⟩, .int .i64 0, .int .i64 0, .bool false]) 9 88 Try.underlying49 hi hz0 hz1 hz2 rfl (by decide) (.slice a4 k cap4) k (cellsL (msgF (rmM s)) 9 k) rfl (World.ownsRow.alloc HW.out.1 _) ⟨_, 0, none⟩ 1 1 [.int .i64 mv.kd, .int .i64 mv.fr, .int .i64 mv.dt, .int .i64 mv.tx, .string mv.key, .string mv.val, .int .i64 mv.e, .int .i64 mv.s, .bool mv.b] rfl rfl (cells_at (by first | rfl | simp) _ _) (by intro u hu; simp at hu; rcases hu with rfl | rfl | rfl | rfl | rfl | rfl | rfl | rfl | rfl <;> rfl) (by unfold maxLen; omega) (by omega) (by simp <;> omega) ?_; intro v4 w4 hown hgrow hnil)
        | go_in)
      have HF : Hid (w4.ownsRow w.heap.size 43 9 v4 (k + 1) (cellsL (msgF (rmM s)) 9 (k + 1)) ∧ Below w.heap.size w w4) := by
        refine ⟨?_, (HW.out.2.alloc HW.out.2.size _).grown hgrow (by have := HW.out.2.size; simp at this ⊢; omega) (fun j hj => (HW.out.1.lt j hj).1)⟩
        have e : (List.range 9).map (msgF (rmM s) k) = [.int .i64 mv.kd, .int .i64 mv.fr, .int .i64 mv.dt, .int .i64 mv.tx, .string mv.key, .string mv.val, .int .i64 mv.e, .int .i64 mv.s, .bool mv.b] := by rw [HM.out]; rfl
        rw [cellsL, e]; exact hown
      clear hown hgrow hnil HW
      go_wp2
      go_roundw
      case rel => exact ⟨k + 1, by omega, by rw [HE.out.1], by rw [HE.out.1]; have := HE.out.2; omega, HF.out.1, HR.out, HF.out.2⟩
      case measure => exact HE.out.2
end Go.Proofs.Ytbklhmeaoigneaa
