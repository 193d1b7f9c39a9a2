/- Commits: sizes, how many marks; NewCommit as its law wants it. -/
import Derived.Test.YtkpobihpcnoemaaDoorGaL
namespace Go.Proofs.YtkpobihpcnoemaaDoor
open Go.RowKit
set_option linter.unusedVariables false
set_option linter.unusedSimpArgs false

theorem sz_flat {e : Sh} (h : ∀ x, szD e x = 0) : ∀ l : List e.T, szD (.list e) l = l.length := by
  intro l
  have : (l.map (szD e)).sum = 0 := by
    induction l with
    | nil => rfl
    | cons x t ih => rw [List.map_cons, List.sum_cons, h, ih]
  show l.length + (l.map (szD e)).sum = l.length
  omega
theorem sz_ints (l : List (Sh.T .int)) : szD (.list .int) l = l.length := sz_flat (fun _ => rfl) l
theorem sz_bools (l : List (Sh.T .bool)) : szD (.list .bool) l = l.length := sz_flat (fun _ => rfl) l
theorem small_cm : Small shCommit := ⟨⟨by decide, ⟨by decide, trivial, trivial, trivial⟩, trivial⟩, trivial, trivial, trivial⟩
theorem cnt_cm {ss : List Shd} {dr rc : Int} (h : szD shCommit (ss, dr, rc, ()) ≤ 1073741824) : cntT shCommit (ss, dr, rc, ()) ≤ 100000000000 := by
  have h1 := cntT_le shCommit (ss, dr, rc, ())
  have h2 := cnt_le shCommit (ss, dr, rc, ()) small_cm
  have h3 : shCommit.c = 3 := rfl
  omega
theorem cnt_intsC {l : List (Sh.T .int)} (h : szD (.list .int) l ≤ 1073741824) : cntD (.list .int) l ≤ 100000000000 := by
  have h2 := cnt_le (.list .int) l ⟨by decide, trivial⟩
  have h3 : (Sh.list .int).c = 1 := rfl
  omega
theorem cnt_boolsC {l : List (Sh.T .bool)} (h : szD (.list .bool) l ≤ 1073741824) : cntD (.list .bool) l ≤ 100000000000 := by
  have h2 := cnt_le (.list .bool) l ⟨by decide, trivial⟩
  have h3 : (Sh.list .bool).c = 1 := rfl
  omega
/-- A good commit is small. -/
theorem good_szC {ss : List Shd} {dr rc : Int} (h : goodC ss dr rc = true) : szD shCommit (ss, dr, rc, ()) ≤ 24 := by
  unfold goodC at h
  simp only [Bool.and_eq_true] at h
  obtain ⟨⟨_, h1⟩, h2⟩ := h
  rw [cm_size]
  have h3 : ss.length ≤ 4 := by have := (inR_iff.1 h1).2; omega
  have h4 : ∀ l : List Shd, l.all shB = true → (l.map fun s => (srs s).length).sum ≤ l.length * 5 := by
    intro l
    induction l with
    | nil => intro _; simp
    | cons s t ih =>
      intro hl
      simp only [List.all_cons, Bool.and_eq_true] at hl
      have h5 := ih hl.2
      have h6 := hl.1
      unfold shB at h6
      simp only [Bool.and_eq_true] at h6
      have h7 := (inR_iff.1 h6.1).2
      simp only [List.map_cons, List.sum_cons, List.length_cons]
      omega
  have h5 := h4 ss h2
  omega
theorem nw_good {am : List (Sh.T .int)} (h : nwOk am = true) : goodC (am.map nwS) 0 0 = true := by
  unfold nwOk at h
  simp only [Bool.and_eq_true] at h
  unfold goodC
  rw [List.length_map, h.1]
  have : (am.map nwS).all shB = true := by
    rw [List.all_map, List.all_eq_true]
    intro n hn
    have h1 := List.all_eq_true.1 h.2 n hn
    obtain ⟨h2, h3⟩ := inR_iff.1 h1
    show shB (nwS n) = true
    unfold shB nwS
    rw [srs_mk, rep_len]
    have e : inR ((n.toNat : Nat) : Int) 1 5 = true := inR_iff.2 (by omega)
    rw [e, any_none (fun o ho => by rw [List.eq_of_mem_replicate ho]; rfl)]
    rfl
  rw [this]; rfl
theorem sz_nwC (am : List (Sh.T .int)) : szD shCommit (nwC am, 0, 0, ()) ≤ 1073741824 := by
  cases h : nwOk am
  · rw [nw_none h]; exact Nat.zero_le _
  · rw [nw_some h]; have := good_szC (nw_good h); omega

theorem newCommit_l (a : Option Addr) (k : Nat) (am : List (Sh.T .int)) (w : World) (NS : List Shd) (z : Bool) (hA : nwC am = NS ∧ nwOk am = z) (hz : szD (.list .int) am ≤ 1073741824) (h : Lies w (.list .int) [.slice a am.length k] am) :
    Calls Tryd.prog 36 #[.slice a am.length k] w (AnsP shCommit (NS, 0, 0, ()) z w) := by
  obtain ⟨rfl, rfl⟩ := hA
  exact (newCommit_x a k am w (by rw [sz_ints] at hz; exact hz) h).mono (fun r w' => AnC.out)

theorem specNewCommit_l (a : Option Addr) (k : Nat) (am : List (Sh.T .int)) (w : World) (NS : List Shd) (z : Bool) (hA : nwC am = NS ∧ nwOk am = z) (hz : szD (.list .int) am ≤ 1073741824) (h : Lies w (.list .int) [.slice a am.length k] am) :
    Calls Tryd.prog 37 #[.slice a am.length k] w (AnsP shCommit (NS, 0, 0, ()) z w) := by
  obtain ⟨rfl, rfl⟩ := hA
  exact (specNewCommit_x a k am w (by rw [sz_ints] at hz; exact hz) h).mono (fun r w' => AnC.out)

end Go.Proofs.YtkpobihpcnoemaaDoor
