/- What a drawn play of commits leaves is good, agreed and alive, and each step is taken by the program as by the specification: the law FnCommit, at every list of bytes. No condition. -/
import Derived.LaidLaws
import Derived.RowKitTokens
import Derived.ChangeVars
import Derived.ChangeSame
import Derived.JoinedOf
import Derived.Stop.LaidErr
import Derived.SevenTiedAt
import Derived.Test.YtkpobihpcnoemaaDoorTie
import Derived.Test.YtkpobihpcnoemaaDoorCards
import Derived.Test.YtkpobihpcnoemaaDoorGaN
import Derived.Test.YtkpobihpcnoemaaDoorGaJ
import Derived.Test.YtkpobihpcnoemaaDoorWords
import Derived.ProofKit
import Derived.OpenShut
import Derived.ShutString
import Derived.ChangeOld
import Derived.Below
import Derived.Lib.SmallJoins
namespace Go.Proofs.YtkpobihpcnoemaaDoor.fCommit
open Go.ChangeShapes Go.WideShapes Go.ChangeAt Go.RowKit
open Go.ChangeMaps (open_string shut_string)
set_option linter.unusedVariables false

set_option maxRecDepth 100000 in
set_option maxHeartbeats 16000000 in
theorem walk (w : World) (hfl : Flt w) (a : Option Addr) (n cap : Nat) (X : Nat → Int) (hm : n ≤ maxLen) (hs : Sl w a n 1 (byF X)) (hX : ∀ i, i < n → 0 ≤ X i ∧ X i ≤ 255) :
    Calls Tryd.prog 3 #[.slice a n cap] w fun r w' => r = .returned (.bool true) ∧ Below w.heap.size w w' := by
  unfold maxLen at hm
  have HS : Hid (Sl w a n 1 (byF X) ∧ ∀ i, i < n → 0 ≤ X i ∧ X i ≤ 255) := ⟨hs, hX⟩
  have HFL := Hid.intro hfl
  clear hs hX hfl
  by_cases hlt : (1048576 : Int) < (n : Int)
  case pos =>
    go_enter Tryd.func3, Tryd.ntmps3
    go_wp2
    go_ret
    exact ⟨rfl, Below.refl _ _⟩
  case neg =>
  go_enter Tryd.func3, Tryd.ntmps3
  go_wp2_with fail
  refine (drawPlayCommit_any _ _ _ X _ hm HS.out.1 HS.out.2).mono ?_
  rintro r w1 ⟨am, l, a1, k1, a2, k2, ham, hll, rfl, h1, h2, hb⟩
  have H1 : Hid (Below w.heap.size w w1 ∧ Lies w1 (.list .int) [.slice a1 am.length k1] am ∧ Lies w1 (.list shCommitStep) [.slice a2 l.length k2] l) := Hid.intro ⟨hb, h1, h2⟩
  clear hb h1 h2
  obtain ⟨NS, nd, nr, D, z, hA⟩ : ∃ NS nd nr D z, PcH am l NS nd nr D z := ⟨_, _, _, _, _, rfl, rfl, rfl, rfl, rfl⟩
  have HA : Hid (PcH am l NS nd nr D z) := Hid.intro hA
  have hD : D.length ≤ 100 := pch_len hA
  have HM : Hid (szD (.list .int) am ≤ 1073741824 ∧ szD (.list shCommitStep) l ≤ 1073741824) := Hid.intro ⟨by rw [sz_ints]; omega, by rw [sz_cst]; omega⟩
  clear hA ham hll
  go_wp2_with fail
  refine (playCommit_l a1 k1 am a2 k2 l _ NS nd nr D z HA.out HM.out.1 HM.out.2 (HFL.out.next H1.out.1 HFL.out.lt) H1.out.2.1 H1.out.2.2).mono ?_
  rintro r w2 hT
  obtain ⟨cs9, v9, S2a, S2b, rfl, ho, hod, hs1, hs2, hb⟩ := hT
  obtain ⟨p2, q2, _, hev, _⟩ := own_Commit ho
  subst hev
  obtain ⟨pd, qd, hvd⟩ := own_form hod
  simp only [List.cons.injEq, and_true] at hvd
  subst hvd
  obtain ⟨w3, hw3⟩ : ∃ x, x = w2.alloc (.cells #[.slice p2 NS.length q2, .int .i64 nd, .int .i64 nr] 29) := ⟨_, rfl⟩
  have hb3 : Below w2.heap.size w2 w3 := hw3 ▸ Go.Joins.below_alloc1 _ _
  have hb13 := below_next hb hb3
  have H3 : Hid (Below w.heap.size w w3 ∧ Lies w3 (.list .int) [.slice a1 am.length k1] am ∧ Lies w3 (.list shCommitStep) [.slice a2 l.length k2] l ∧ Bx w3 w2.heap.size [.slice p2 NS.length q2, .int .i64 nd, .int .i64 nr] ∧ Lies w3 shCommit [.slice p2 NS.length q2, .int .i64 nd, .int .i64 nr] (NS, nd, nr, ()) ∧ Lies w3 (.list .bool) [.slice pd D.length qd] D) := Hid.intro ⟨below_next H1.out.1 hb13, H1.out.2.1.next hb13, H1.out.2.2.next hb13, hw3 ▸ Bx.new w2 [_, _, _] _, ho.lies.next hb3, hod.lies.next hb3⟩
  clear hb ho hod hs1 hs2 hb3 hb13 H1
  obtain ⟨B, hB⟩ : ∃ B, B = w2.heap.size := ⟨_, rfl⟩
  go_upto_region 5 with fail
  rw [← hw3, ← hB]
  rw [← hB] at H3
  clear hw3 hB
  go_wp2_with fail
  refine (specPlayCommit_l a1 k1 am a2 k2 l _ NS nd nr D z HA.out HM.out.1 HM.out.2 H3.out.2.1 H3.out.2.2.1).mono ?_
  rintro r w4 hT
  obtain ⟨cs9, v9, S4a, S4b, rfl, ho, hod, hs1, hs2, hb⟩ := hT
  obtain ⟨p4, q4, _, hev, _⟩ := own_Commit ho
  subst hev
  obtain ⟨pe, qe, hvd⟩ := own_form hod
  simp only [List.cons.injEq, and_true] at hvd
  subst hvd
  obtain ⟨w5, hw5⟩ : ∃ x, x = w4.alloc (.cells #[.slice p4 NS.length q4, .int .i64 nd, .int .i64 nr] 29) := ⟨_, rfl⟩
  have hb5 : Below w4.heap.size w4 w5 := hw5 ▸ Go.Joins.below_alloc1 _ _
  have hb15 := below_next hb hb5
  have H5 : Hid (Below w.heap.size w w5 ∧ Bx w5 B [.slice p2 NS.length q2, .int .i64 nd, .int .i64 nr] ∧ Lies w5 shCommit [.slice p2 NS.length q2, .int .i64 nd, .int .i64 nr] (NS, nd, nr, ()) ∧ Lies w5 (.list .bool) [.slice pd D.length qd] D ∧ Lies w5 (.list .bool) [.slice pe D.length qe] D) := Hid.intro ⟨below_next H3.out.1 hb15, H3.out.2.2.2.1.next hb15, H3.out.2.2.2.2.1.next hb15, H3.out.2.2.2.2.2.next hb15, hod.lies.next hb5⟩
  clear hb ho hod hs1 hs2 hb5 hb15 H3
  go_upto_region 6 with fail
  rw [← hw5]
  clear hw5
  cases z
  case false =>
    go_wp2_with fail
    refine (sameBools_same pd pe qd qe D _ (by omega) H5.out.2.2.2.1 H5.out.2.2.2.2).mono ?_
    rintro r w6 ⟨rfl, hb⟩
    have HE := Hid.intro (below_next H5.out.1 hb)
    have hd0 : (List.length (α := Sh.T .bool) D) = 0 := by rw [(pch_no HA.out).1]; rfl
    clear hb H5 hD
    rw [hd0]
    clear hd0
    go_wp2
    go_ret
    exact ⟨rfl, HE.out⟩
  case true =>
    have HI : Hid (invC (NS, nd, nr)) := Hid.intro (pch_inv HA.out)
    have HG : Hid (goodC NS nd nr = true) := Hid.intro HI.out.1
    have HZ : Hid (szD shCommit (NS, nd, nr, ()) ≤ 1073741824) := Hid.intro (Nat.le_trans (good_szC HG.out) (by decide))
    have HAI : Hid (aiA NS nd nr = (true, true)) := Hid.intro (by rw [aiA_yes HG.out, show agrA NS nd nr = true from HI.out.2.1])
    have HLI : Hid (liA NS nd nr = (true, true)) := Hid.intro (by rw [liA_yes HG.out, show NS.all livB = true from HI.out.2.2])
    go_wp2_with fail
    refine (sameBools_same pd pe qd qe D _ (by omega) H5.out.2.2.2.1 H5.out.2.2.2.2).mono ?_
    rintro r w6 ⟨rfl, hb⟩
    have H6 : Hid (Below w.heap.size w w6 ∧ Bx w6 B [.slice p2 NS.length q2, .int .i64 nd, .int .i64 nr] ∧ Lies w6 shCommit [.slice p2 NS.length q2, .int .i64 nd, .int .i64 nr] (NS, nd, nr, ())) := Hid.intro ⟨below_next H5.out.1 hb, H5.out.2.1.next hb, H5.out.2.2.1.next hb⟩
    clear hb H5
    have s0 := (H6.out.2.1).cell 0 rfl; have s1 := (H6.out.2.1).cell 1 rfl; have s2 := (H6.out.2.1).cell 2 rfl; have sz := (H6.out.2.1).2
    go_wp2_with fail
    refine (agreesIn_n [.slice p2 NS.length q2, .int .i64 nd, .int .i64 nr] NS nd nr _ HZ.out H6.out.2.2).mono ?_
    rintro r w7 ⟨hr, hb⟩
    rw [HAI.out] at hr
    subst hr
    have H7 : Hid (Below w.heap.size w w7 ∧ Bx w7 B [.slice p2 NS.length q2, .int .i64 nd, .int .i64 nr] ∧ Lies w7 shCommit [.slice p2 NS.length q2, .int .i64 nd, .int .i64 nr] (NS, nd, nr, ())) := Hid.intro ⟨below_next H6.out.1 hb, H6.out.2.1.next hb, H6.out.2.2.next hb⟩
    clear hb H6 s0 s1 s2 sz
    have s0 := (H7.out.2.1).cell 0 rfl; have s1 := (H7.out.2.1).cell 1 rfl; have s2 := (H7.out.2.1).cell 2 rfl; have sz := (H7.out.2.1).2
    go_wp2_with fail
    refine (livesIn_n [.slice p2 NS.length q2, .int .i64 nd, .int .i64 nr] NS nd nr _ HZ.out H7.out.2.2).mono ?_
    rintro r w8 ⟨hr, hb⟩
    rw [HLI.out] at hr
    subst hr
    have H8 : Hid (Below w.heap.size w w8 ∧ Bx w8 B [.slice p2 NS.length q2, .int .i64 nd, .int .i64 nr] ∧ Lies w8 shCommit [.slice p2 NS.length q2, .int .i64 nd, .int .i64 nr] (NS, nd, nr, ())) := Hid.intro ⟨below_next H7.out.1 hb, H7.out.2.1.next hb, H7.out.2.2.next hb⟩
    clear hb H7 s0 s1 s2 sz
    have s0 := (H8.out.2.1).cell 0 rfl; have s1 := (H8.out.2.1).cell 1 rfl; have s2 := (H8.out.2.1).cell 2 rfl; have sz := (H8.out.2.1).2
    go_wp2_with (go_at_call 13; refine (goodCommit_n [.slice p2 NS.length q2, .int .i64 nd, .int .i64 nr] NS nd nr _ HZ.out H8.out.2.2).mono ?_; rintro r w9 ⟨rfl, hb⟩; rw [HG.out]; have HE := Hid.intro (below_next H8.out.1 hb); clear hb)
    go_ret
    exact ⟨rfl, HE.out⟩


theorem own : ownKnob Tryd.prog.godebug = none := by kernel_rfl
theorem laidOut : laidOutB Tryd.prog = true := by kernel_rfl

theorem gO : Tryd.prog.globalNamed "loop.example/g00218/impl.errCommitFault" = some 0 := by kernel_rfl
theorem gOType : (Tryd.prog.globals[0]?).map (·.type) = some 119 := by kernel_rfl
theorem underE : ∃ ms, Tryd.prog.underlying 119 = some (.interface ms) := by
  have h : (match Tryd.prog.underlying 119 with | some (.interface _) => true | _ => false) = true := by kernel_rfl
  generalize Tryd.prog.underlying 119 = u at h ⊢
  cases u with
  | none => simp at h
  | some d => cases d <;> first | exact ⟨_, rfl⟩ | simp at h
theorem underP : Tryd.prog.underlying 123 = some (.pointer 140) := by kernel_rfl
theorem underS : ∃ f : Field, Tryd.prog.underlying 140 = some (.struct #[f]) ∧ f.type = 9 ∧ f.offset = 0 := by
  have h : (match Tryd.prog.underlying 140 with | some (.struct fs) => fs.toList.map (fun f => (f.type, f.offset)) == [(9, 0)] | _ => false) = true := by kernel_rfl
  generalize Tryd.prog.underlying 140 = u at h ⊢
  cases u with
  | none => simp at h
  | some d =>
    cases d <;> try (simp at h; done)
    rename_i fs
    obtain ⟨l⟩ := fs
    match l, h with
    | [], h => simp at h
    | [f], h => exact ⟨f, rfl, by simpa using h⟩
    | f :: g :: t, h => simp at h
theorem underT : Tryd.prog.underlying 9 = some .string := by kernel_rfl
theorem cellsS : Tryd.prog.cellsOf 140 = 1 := by kernel_rfl
theorem cellsT : Tryd.prog.cellsOf 9 = 1 := by kernel_rfl
theorem star : "*" ++ "errors.errorString" = "*errors.errorString" := by decide
theorem rowP (u : TypeId) (h : Tryd.prog.typeName? 3 u = some "*errors.errorString") : u = 123 :=
  typeName_ptr_named (nm := "errors.errorString") (by rw [star]; kernel_rfl) (by kernel_rfl) (by decide) u (by rw [star]; exact h)
abbrev faultS : ByteArray := { data := ⟨[99, 111, 109, 109, 105, 116, 58, 32, 116, 104, 101, 32, 115, 116, 101, 112, 32, 108, 97, 99, 107, 115, 32, 119, 104, 97, 116, 32, 105, 116, 32, 97, 115, 107, 115, 32, 102, 111, 114]⟩ }
noncomputable def lowW : Nat := (World.holding Tryd.prog default ⟨#[], #[], []⟩).heap.size
noncomputable def laidWorld (os : Os) : World :=
  let w0 := World.holding Tryd.prog os ⟨#[.cells #[.string faultS] 140], #[], []⟩
  { w0 with heap := w0.heap.modify 0 fun
      | .cells _ t frozen => .cells #[.iface 123 (.pointer (some ⟨lowW, 0, none⟩))] t frozen
      | o => o }
theorem laidWorld_met (os : Os) (args : Array Value) : laidMet Tryd.prog Rows.fnCommitRow.laid ((laidWorld os).forCall (fun _ _ => 0) ⟨#[], args, []⟩).memory :=
  laidMet_of_run (ps := [.cell 0 0, .cell lowW 0]) 8 (by kernel_rfl) (by kernel_rfl) (by kernel_rfl)
theorem var_kept {W W' : World} {cs : Array Value} (h : W.var? Tryd.prog "loop.example/g00218/impl.errCommitFault" = some cs) (hb : W'.heap[0]? = W.heap[0]?) : W'.var? Tryd.prog "loop.example/g00218/impl.errCommitFault" = some cs := by
  unfold World.var? at h ⊢
  simp only [gO, Option.bind_some] at h ⊢
  rw [hb]
  exact h

set_option maxRecDepth 100000 in
theorem lifted (os : Os) (started : os.Started) (H : Type) (enc : TypeId × Value → H) :
    ReturnsInHanded {} Tryd.checked os 3 .any (fun w args => (Rows.fnCommitSpec.pre enc Tryd.prog Tryd.f3 [] false w args ∧ laidMet Tryd.prog Rows.fnCommitRow.laid w) ∧ sizedMet enc Tryd.prog Tryd.f3 (OpenSpec.ofChange Rows.fnCommitSpec) false w args)
      (Rows.fnCommitSpec.post enc Tryd.prog Tryd.f3 false true false false) := by
  refine returnsInHanded_of_change_and (C := Tryd.checked) (X := fun w _ => laidMet Tryd.prog Rows.fnCommitRow.laid w) (fun _ _ _ hh h => h.of_heap hh) own started (by kernel_rfl) Tryd.func3
    (ChangeSpec.witness_at (enc := enc) (C := Tryd.checked) (os := os) (X := fun w _ => laidMet Tryd.prog Rows.fnCommitRow.laid w) false (laidWorld os) #[.slice none 0 0] 8 rfl (by kernel_rfl) (by kernel_rfl) (by kernel_rfl) (by kernel_rfl) (by kernel_rfl) (laidWorld_met os _)) ?_
  intro W base args ds gs before hval0 hW _ _ hL _
  have hval : ∀ (j : Nat) t v, Tryd.f3.params[j]? = some t → args[j]? = some v → Value.okWide Tryd.prog W .any base t v := hval0
  have hW' := hW
  obtain ⟨p, q, hA0, hV0, rfl, hfz, hnd⟩ := hW
  have hV : DataW.TrodVars enc Tryd.prog W (fun _ => true) ["loop.example/g00218/impl.errCommitFault"] gs q := hV0
  have hA : DataW.TrodAll enc Tryd.prog W 0 (fun _ => true) true Tryd.f3.params.toList args.toList ds p := hA0
  rw [Tryd.params3] at hA hval
  obtain ⟨v0, vs0, d0, ds0, p0, q0, hargs, rfl, rfl, h0, r0⟩ := trodAll_cons hA
  obtain ⟨rfl, rfl, rfl⟩ := trodAll_nil r0
  obtain rfl : args = #[v0] := by cases args; simp_all
  obtain ⟨ms, hms⟩ := underE
  obtain ⟨fS, hfS, hfT, hfO⟩ := underS
  obtain ⟨aE, sE, hv1, hc1, hs1, hz1⟩ := laid_sentinel hL gO gOType hms rowP underP hfS hfT hfO underT cellsS cellsT
  obtain ⟨rfl, rfl⟩ := hV.unique (vars_read1 enc gO gOType hms hv1 trivial _)
  clear hV0
  have hg1 : W.cell? ⟨0, 0, none⟩ = some (.iface 123 (.pointer (some aE))) := by simpa using World.var?_cell gO hv1 0
  have hfl : Flt W := ⟨_, hg1⟩
  have k0 := h0
  have lt0 : ∀ x ∈ p0, x.block < W.heap.size := by obtain ⟨m, hm⟩ := k0; exact DataW.trod_lt m _ _ _ hm
  obtain ⟨a0, len0, cap0, rfl⟩ := okWide_slice Tryd.underlying22 (hval 0 22 v0 rfl rfl)
  obtain ⟨n0, X0, s0, b0⟩ := open_bytes h0
  clear hA0 hval0
  refine (walk (w := W) hfl a0 len0 cap0 X0 n0 s0 b0).mono fun e W' ⟨he, bel⟩ => ?_
  subst he
  have hv2 := var_kept hv1 (bel.block 0 hfl.lt)
  refine ⟨_, rfl, _, _, _, [], _, [.cell 0 0], hW', trodAll_mk1 (shut_bool Tryd.underlying4 _), (trodAll_cons_mk (Below.trod laidOut (by kernel_rfl) (of_decide_eq_true (by kernel_rfl)) k0 bel lt0) trodAll_mk0), vars_read1 enc gO gOType hms hv2 trivial _, bel.frame _, fun h => by cases h⟩

set_option maxHeartbeats 40000000 in
theorem closed : joinedFacts Tryd.pinned.checked.prog 3 Tryd.f3 Rows.fnCommitSpec Rows.fnCommitRow = true := by
  unfold joinedFacts
  repeat' (first | (with_reducible refine both ?_ ?_) | (with_reducible exact may_enter') | (with_reducible refine lifts_eq ?_) | (with_reducible refine make_eq ?_) | as_aux_lemma => kernel_rfl)
theorem named : Tryd.pinned.checked.prog.funcNamed Rows.fnCommitRow.func = some 3 := by kernel_rfl
theorem over : Rows.fnCommitRow.holds Tryd.pinned (OpenSpec.ofChange Rows.fnCommitSpec) :=
  OpenClaim.holds_of_wide 3 Tryd.f3 rfl rfl rfl rfl rfl rfl rfl ⟨rfl, rfl, rfl, rfl, rfl⟩ rfl rfl rfl rfl rfl named Tryd.func3 closed
    (of_decide_eq_true (by as_aux_lemma => kernel_rfl)) (by unfold Func.isWrapper; first | (rw [if_pos (by decide +kernel)]; kernel_rfl) | (rw [if_neg (by decide +kernel)]; exact ⟨rfl, rfl⟩))
    (fun os started H enc _ => lifted os started H enc)

theorem card : Rows.FnCommitCardSaid :=
  Claim7.holds_tied_plain_at .later [] [.sentinel] true _ false
    over (fun _ h => by cases h) (by kernel_rfl) (fun _ h => by cases h) fnCommit_row_tie rfl ⟨rfl, rfl⟩ (by kernel_rfl) rfl
    (fun f fn hf hfn => by
      obtain rfl : f = 3 := Option.some.inj (named.symm.trans hf) |>.symm
      obtain rfl : fn = Tryd.f3 := (Option.some.inj (Tryd.func3.symm.trans hfn)).symm
      refine ⟨by kernel_rfl, fun j t ht => ?_⟩
      have hall : (Tryd.f3.params.toList.all fun t => !Tryd.prog.wantsStandIn t) = true := by kernel_rfl
      have := List.all_eq_true.1 hall t (List.mem_of_getElem? (i := j) (by rw [Array.getElem?_toList]; exact ht))
      have h2 : Tryd.prog.wantsStandIn t = false := by simpa using this
      exact h2)
    (by kernel_rfl)

end Go.Proofs.YtkpobihpcnoemaaDoor.fCommit
namespace Go.Proofs.YtkpobihpcnoemaaDoor
theorem fCommit_holds : Rows.FnCommitCardSaid := fCommit.card
#print axioms fCommit_holds
end Go.Proofs.YtkpobihpcnoemaaDoor
