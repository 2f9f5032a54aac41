/-
  What is read: the package and the reference read the same; a name's bytes are read back, and no name's bytes begin with another's.
-/
import Derived.Test.YtgbdckiojjmncaaNamJ
namespace Go.Proofs.Ytgbdckiojjmncaa
open Go.RowKit

theorem st_bad {k : Int} {l : List UInt8} {bad : Bool} (h : (st k l bad).bad = true) : st k l bad = .no := by
  unfold st at h ⊢
  split
  · rfl
  · rename_i hn
    rw [if_neg hn] at h
    cases h
theorem wd_nil : wd [] = false := rfl
theorem rdn_bad {l : List UInt8} {bad : Bool} {r : List UInt8} : ∀ n, vl r (rdn l bad n).1 = true → (rdn l bad n).2.2 = false := by
  intro n hv
  obtain ⟨h1, _, h3, _⟩ := vl_parts hv
  cases n with
  | zero => rw [rdn_zero] at h1; simp at h1
  | succ k =>
    rw [rdn_succ] at h3 ⊢
    cases hb : (st 1 (rdn l bad k).2.1 (rdn l bad k).2.2).bad with
    | false => rfl
    | true =>
      have h4 := h3 (st 1 (rdn l bad k).2.1 (rdn l bad k).2.2).got (by simp)
      rw [st_bad hb] at h4
      exact absurd h4 (by decide)
theorem vl_long {r : List UInt8} {ps : List (List UInt8)} (h : 8 < ps.length) : vl r ps = false := by
  cases hv : vl r ps with
  | false => rfl
  | true => have := (vl_parts hv).2.1; omega
/-- both read the same -/
theorem rnm_rrnm (l : List UInt8) (bad : Bool) : rrnm l bad = rnm l bad ∧ ((rnm l bad).isSome = true → (rq l bad).2.1 = (rp l bad).2.1) := by
  by_cases h9 : (rn l bad).num ≤ 9
  · have e : rq l bad = rp l bad := by
      unfold rq rp
      rw [Nat.min_eq_left h9]
    refine ⟨?_, fun _ => by rw [e]⟩
    unfold rrnm rnm
    rw [e]
    by_cases hv : vl (rr l bad).got (rp l bad).1 = true
    · rw [if_pos ⟨rdn_bad _ hv, hv⟩, if_pos hv]
    · rw [if_neg (fun h => hv h.2), if_neg hv]
  · have l1 : (rp l bad).1.length = (rn l bad).num := (rdn_len _ _ _).2
    have l2 : (rq l bad).1.length = min (rn l bad).num 9 := (rdn_len _ _ _).2
    have v1 : vl (rr l bad).got (rp l bad).1 = false := vl_long (by omega)
    have v2 : vl (rr l bad).got (rq l bad).1 = false := vl_long (by omega)
    unfold rrnm rnm
    rw [v1, v2]
    simp

theorem nb1_len {x : Nat} (h : x < 256) (z : List UInt8) : be ((nb 1 x ++ z).take 1) = x ∧ (nb 1 x ++ z).drop 1 = z := by
  have hl := nb_length 1 x
  refine ⟨?_, ?_⟩
  · rw [List.take_append_of_le_length (by omega), List.take_of_length_le (by omega)]
    exact be_nb 1 x (by simpa using h)
  · rw [List.drop_append_of_le_length (by omega), List.drop_of_length_le (by omega)]
    rfl
theorem st_fl {p : List UInt8} (h : p.length < 256) (z : List UInt8) : st 1 (fl p ++ z) false = ⟨p, 0, z, false⟩ := by
  have hl := nb_length 1 p.length
  have e : fl p ++ z = nb 1 p.length ++ (p ++ z) := by simp [fl]
  obtain ⟨h1, h2⟩ := nb1_len h (p ++ z)
  rw [e]
  unfold st
  rw [show (1 : Int).toNat = 1 from rfl, h1, h2, if_neg]
  · simp
  · simp only [List.length_append]
    intro hh
    rcases hh with hh | hh | hh | hh
    · cases hh
    · exact hh ⟨by decide, by decide⟩
    · omega
    · omega
theorem nm_nb {x : Nat} (h : x < 256) (z : List UInt8) : nm 1 (nb 1 x ++ z) false = ⟨[], x, z, false⟩ := by
  have hl := nb_length 1 x
  obtain ⟨h1, h2⟩ := nb1_len h z
  unfold nm
  rw [show (1 : Int).toNat = 1 from rfl, h1, h2, if_neg]
  simp only [List.length_append]
  intro hh
  rcases hh with hh | hh | hh
  · cases hh
  · exact hh ⟨by decide, by decide⟩
  · omega
theorem rdn_fl (ps : List (List UInt8)) (hp : ∀ p ∈ ps, p.length < 256) (z : List UInt8) : ∀ k, k ≤ ps.length → rdn (ps.flatMap fl ++ z) false k = (ps.take k, (ps.drop k).flatMap fl ++ z, false) := by
  intro k
  induction k with
  | zero => intro _; simp [rdn_zero]
  | succ k ih =>
    intro hk
    rw [rdn_succ, ih (by omega)]
    simp only
    have e : (ps.drop k).flatMap fl ++ z = fl ps[k] ++ ((ps.drop (k + 1)).flatMap fl ++ z) := by
      rw [List.drop_eq_getElem_cons (show k < ps.length by omega), List.flatMap_cons, List.append_assoc]
    rw [e, st_fl (hp _ (List.getElem_mem _))]
    simp only
    rw [List.take_succ_eq_append_getElem (show k < ps.length by omega)]
/-- a name's bytes are read back -/
theorem rnm_nbs {r : List UInt8} {ps : List (List UInt8)} (h : vl r ps = true) (z : List UInt8) : rnm (nbs r ps ++ z) false = some (r, ps) ∧ (rp (nbs r ps ++ z) false).2 = (z, false) := by
  obtain ⟨h1, h2, h3, h4⟩ := vl_parts h
  have e : nbs r ps ++ z = fl r ++ (nb 1 ps.length ++ (ps.flatMap fl ++ z)) := by simp [nbs]
  have er : rr (nbs r ps ++ z) false = ⟨r, 0, nb 1 ps.length ++ (ps.flatMap fl ++ z), false⟩ := by
    rw [e, rr, st_fl (by have := (wd_len h4).2; omega)]
  have en : rn (nbs r ps ++ z) false = ⟨[], ps.length, ps.flatMap fl ++ z, false⟩ := by
    rw [rn, er]
    exact nm_nb (by omega) _
  have ep : rp (nbs r ps ++ z) false = (ps, z, false) := by
    rw [rp, en]
    simp only
    rw [rdn_fl ps (fun p hp => by have := (wd_len (h3 p hp)).2; omega) z ps.length (Nat.le_refl _)]
    simp
  refine ⟨?_, by rw [ep]⟩
  unfold rnm
  rw [er, ep, if_pos h]
theorem rnm_nil : rnm [] false = none := rfl
theorem prs_nil : prs [] = none := by
  unfold prs
  rw [show pp (([] : List UInt8).length + 1) [] = none by rw [pp, nx_nil]; simp]
theorem txt_vl {r : List UInt8} {ps : List (List UInt8)} (h : vl r ps = true) : prs (txt r ps) = some (r, ps) := by
  rw [txt, if_pos h]
  exact prs_full h
theorem txt_no {r : List UInt8} {ps : List (List UInt8)} (h : vl r ps = false) : txt r ps = [] := by
  rw [txt, if_neg (by rw [h]; decide)]

theorem bls_ext {ss tt : List ByteArray} (h : bls ss = bls tt) : ss = tt := by
  induction ss generalizing tt with
  | nil =>
    cases tt with
    | nil => rfl
    | cons t tt => cases h
  | cons s ss ih =>
    cases tt with
    | nil => cases h
    | cons t tt =>
      simp only [bls, List.map_cons, List.cons.injEq] at h
      rw [bl_ext h.1, ih (tt := tt) h.2]
theorem sm_t {s t : ByteArray} {ss tt : List ByteArray} (h1 : bl s = bl t) (h2 : bls ss = bls tt) : sm s ss t tt = true := by
  rw [bl_ext h1, bls_ext h2]
  simp [sm]
theorem sm_eq {s t : ByteArray} {ss tt : List ByteArray} (h : sm s ss t tt = true) : s = t ∧ ss = tt := by simpa [sm] using h
/-- no name's bytes begin with another's -/
theorem nbs_apart {r r' : List UInt8} {ps ps' : List (List UInt8)} (h : vl r ps = true) (h' : vl r' ps' = true) {n : Nat} (hn : n = min (nbs r ps).length (nbs r' ps').length) (e : (nbs r ps).take n = (nbs r' ps').take n) : r = r' ∧ ps = ps' := by
  have k1 := (rnm_nbs h []).1
  have k2 := (rnm_nbs h' []).1
  rw [List.append_nil] at k1 k2
  by_cases hl : (nbs r ps).length ≤ (nbs r' ps').length
  · rw [Nat.min_eq_left hl] at hn
    subst hn
    rw [List.take_length] at e
    have k3 := (rnm_nbs h ((nbs r' ps').drop (nbs r ps).length)).1
    have e2 : nbs r ps ++ (nbs r' ps').drop (nbs r ps).length = nbs r' ps' := by
      conv => lhs; arg 1; rw [e]
      exact List.take_append_drop _ _
    rw [e2] at k3
    rw [k2] at k3
    simp only [Option.some.injEq, Prod.mk.injEq] at k3
    exact ⟨k3.1.symm, k3.2.symm⟩
  · rw [Nat.min_eq_right (by omega)] at hn
    subst hn
    rw [List.take_length] at e
    have k3 := (rnm_nbs h' ((nbs r ps).drop (nbs r' ps').length)).1
    have e2 : nbs r' ps' ++ (nbs r ps).drop (nbs r' ps').length = nbs r ps := by
      conv => lhs; arg 1; rw [← e]
      exact List.take_append_drop _ _
    rw [e2] at k3
    rw [k1] at k3
    simp only [Option.some.injEq, Prod.mk.injEq] at k3
    exact k3
end Go.Proofs.Ytgbdckiojjmncaa
