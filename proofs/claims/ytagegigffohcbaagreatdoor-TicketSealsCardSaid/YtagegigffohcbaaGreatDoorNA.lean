/-
  Names of clients in plain lists of bytes: words, marks, texts, parsing (the package's and the reference's).
  Strings and slices of strings in memory; words and names, checked by the package and by the reference.
  Names checked: the package's Valid; the reference's Word and Valid, Few.
  Bytes and strings turned into each other; words with their backslashes: the package's and the reference's; words without them.
  Texts of names: the package's and the reference's; names compared.
  Names compared by the reference; the first word of a text, by the package.
-/
import Derived.Test.YtagegigffohcbaaGreatDoorMA
import Derived.Laws.RangeAny
import Derived.Lib.ConvBytes
import Derived.Laws.IdiomStrings
import Derived.Laws.BytesArg
import Derived.Test.YtagegigffohcbaaGreatDoorShelf
import Derived.Deep.RegionHeld3
set_option linter.unusedVariables false
set_option linter.unusedSimpArgs false
namespace Go.Proofs.YtagegigffohcbaaGreatDoor

/-- a mark: a slash, an at sign, a backslash -/
def mk (c : UInt8) : Bool := decide (c = 47) || decide (c = 64) || decide (c = 92)
/-- a byte of a word -/
def wb (c : UInt8) : Bool := decide (33 ≤ c.toNat) && decide (c.toNat ≤ 126)
/-- a word -/
def wd (l : List UInt8) : Bool := decide (1 ≤ l.length) && decide (l.length ≤ 100) && l.all wb
/-- a name -/
def vl (r : List UInt8) (ps : List (List UInt8)) : Bool := decide (1 ≤ ps.length) && decide (ps.length ≤ 8) && ps.all wd && wd r
/-- a word with its backslashes, one byte -/
def es (c : UInt8) : List UInt8 := if mk c then [92, c] else [c]
/-- a word with its backslashes -/
def esc (l : List UInt8) : List UInt8 := l.flatMap es
/-- the further parts, a slash ahead of each -/
def tls (ps : List (List UInt8)) : List UInt8 := ps.flatMap fun p => 47 :: esc p
/-- the parts with slashes -/
def jn : List (List UInt8) → List UInt8
  | [] => []
  | p :: ps => esc p ++ tls ps
/-- the text of what may be no name -/
def tx0 (r : List UInt8) (ps : List (List UInt8)) : List UInt8 := jn ps ++ 64 :: esc r
/-- the text of a name -/
def txt (r : List UInt8) (ps : List (List UInt8)) : List UInt8 := if vl r ps then tx0 r ps else []

theorem esc_nil : esc [] = [] := rfl
theorem esc_cons (c : UInt8) (l : List UInt8) : esc (c :: l) = es c ++ esc l := rfl
theorem esc_snoc (l : List UInt8) (c : UInt8) : esc (l ++ [c]) = esc l ++ es c := by simp [esc, List.flatMap_append]
theorem es_mark {c : UInt8} (h : mk c = true) : es c = [92, c] := by rw [es, if_pos h]
theorem es_plain {c : UInt8} (h : mk c = false) : es c = [c] := by rw [es, if_neg (by rw [h]; decide)]
theorem mk_47 : mk 47 = true := rfl
theorem mk_64 : mk 64 = true := rfl
theorem mk_92 : mk 92 = true := rfl
theorem not_mk {c : UInt8} (h : mk c = false) : c ≠ 47 ∧ c ≠ 64 ∧ c ≠ 92 := by
  simp [mk] at h
  exact ⟨h.1.1, h.1.2, h.2⟩
theorem mk_not {c : UInt8} (h1 : c ≠ 47) (h2 : c ≠ 64) (h3 : c ≠ 92) : mk c = false := by simp [mk, h1, h2, h3]
theorem esc_len (l : List UInt8) : (esc l).length ≤ 2 * l.length := by
  induction l with
  | nil => simp [esc]
  | cons c l ih =>
    rw [esc_cons, List.length_append, List.length_cons]
    have : (es c).length ≤ 2 := by unfold es; split <;> simp
    omega
theorem esc_take (l : List UInt8) {k : Nat} (h : k < l.length) : esc (l.take (k + 1)) = esc (l.take k) ++ es l[k] := by rw [List.take_succ_eq_append_getElem h, esc_snoc]
theorem tls_cons (p : List UInt8) (ps : List (List UInt8)) : tls (p :: ps) = (47 :: esc p) ++ tls ps := rfl
theorem tls_snoc (ps : List (List UInt8)) (p : List UInt8) : tls (ps ++ [p]) = tls ps ++ 47 :: esc p := by simp [tls, List.flatMap_append]
theorem jn_snoc {ps : List (List UInt8)} (h : ps ≠ []) (p : List UInt8) : jn (ps ++ [p]) = jn ps ++ 47 :: esc p := by
  cases ps with
  | nil => exact absurd rfl h
  | cons q qs =>
    show esc q ++ tls (qs ++ [p]) = _
    rw [tls_snoc, jn, List.append_assoc]
theorem wd_len {l : List UInt8} (h : wd l = true) : 1 ≤ l.length ∧ l.length ≤ 100 := by
  simp [wd] at h
  exact ⟨by have := h.1.1; cases l <;> simp at this ⊢, h.1.2⟩
theorem vl_parts {r : List UInt8} {ps : List (List UInt8)} (h : vl r ps = true) : 1 ≤ ps.length ∧ ps.length ≤ 8 ∧ (∀ p ∈ ps, wd p = true) ∧ wd r = true := by
  simp only [vl, Bool.and_eq_true, decide_eq_true_eq, List.all_eq_true] at h
  exact ⟨h.1.1.1, h.1.1.2, h.1.2, h.2⟩
theorem tls_len (ps : List (List UInt8)) (h : ∀ p ∈ ps, wd p = true) : (tls ps).length ≤ 201 * ps.length := by
  induction ps with
  | nil => simp [tls]
  | cons p ps ih =>
    rw [tls_cons, List.length_append, List.length_cons, List.length_cons]
    have h1 := ih (fun q hq => h q (by simp [hq]))
    have h2 := esc_len p
    have h3 := (wd_len (h p (by simp))).2
    omega
theorem tx0_len {r : List UInt8} {ps : List (List UInt8)} (h : vl r ps = true) : (tx0 r ps).length ≤ 1808 := by
  obtain ⟨h1, h2, h3, h4⟩ := vl_parts h
  cases ps with
  | nil => simp at h1
  | cons p ps =>
    unfold tx0 jn
    rw [List.length_append, List.length_append, List.length_cons]
    have k1 := tls_len ps (fun q hq => h3 q (by simp [hq]))
    have k2 := esc_len p
    have k3 := (wd_len (h3 p (by simp))).2
    have k4 := esc_len r
    have k5 := (wd_len h4).2
    rw [List.length_cons] at h2
    omega

/-! ## the package's reading of a text -/
/-- the first word, the sign that ends it (0: the end), what follows; none, if a backslash stands in front of another byte than a mark -/
def nxw : List UInt8 → Option (List UInt8 × UInt8 × List UInt8)
  | [] => some ([], 0, [])
  | c :: l =>
    if c = 47 ∨ c = 64 then some ([], c, l)
    else if c = 92 then
      match l with
      | [] => none
      | d :: l' => if mk d then (nxw l').map fun x => (d :: x.1, x.2.1, x.2.2) else none
    else (nxw l).map fun x => (c :: x.1, x.2.1, x.2.2)
/-- the parts up to the at sign, and what follows it -/
def pp : Nat → List UInt8 → Option (List (List UInt8) × List UInt8)
  | 0, _ => none
  | f + 1, l =>
    match nxw l with
    | none => none
    | some (w, m, rest) => if m = 47 then (pp f rest).map fun x => (w :: x.1, x.2) else if m = 64 then some ([w], rest) else none
/-- the name with a text -/
def prs (l : List UInt8) : Option (List UInt8 × List (List UInt8)) :=
  match pp (l.length + 1) l with
  | none => none
  | some (ps, rest) =>
    match nxw rest with
    | none => none
    | some (r, m, _) => if m = 0 ∧ vl r ps = true then some (r, ps) else none

theorem nx_nil : nxw [] = some ([], 0, []) := by rw [nxw.eq_def]
theorem nx_sg {c : UInt8} (h : c = 47 ∨ c = 64) (l : List UInt8) : nxw (c :: l) = some ([], c, l) := by
  rw [nxw.eq_def]
  simp only
  rw [if_pos h]
theorem nx_b0 : nxw [92] = none := by
  rw [nxw.eq_def]
  simp
theorem nx_b (d : UInt8) (l : List UInt8) : nxw (92 :: d :: l) = if mk d then (nxw l).map fun x => (d :: x.1, x.2.1, x.2.2) else none := by
  rw [nxw.eq_def]
  simp
theorem nx_pl {c : UInt8} (h1 : c ≠ 47) (h2 : c ≠ 64) (h3 : c ≠ 92) (l : List UInt8) : nxw (c :: l) = (nxw l).map fun x => (c :: x.1, x.2.1, x.2.2) := by
  rw [nxw.eq_def]
  simp only
  rw [if_neg (by simp [h1, h2]), if_neg h3]

/-- what 'nxw' finds is there -/
theorem nx_sound : ∀ (n : Nat) (l : List UInt8), l.length ≤ n → ∀ w m rest, nxw l = some (w, m, rest) → (m = 0 ∧ rest = [] ∧ l = esc w) ∨ ((m = 47 ∨ m = 64) ∧ l = esc w ++ m :: rest) := by
  intro n
  induction n with
  | zero =>
    intro l hl w m rest h
    obtain rfl := List.eq_nil_of_length_eq_zero (Nat.le_zero.1 hl)
    rw [nx_nil] at h
    simp only [Option.some.injEq, Prod.mk.injEq] at h
    obtain ⟨rfl, rfl, rfl⟩ := h
    exact .inl ⟨rfl, rfl, rfl⟩
  | succ n ih =>
    intro l hl w m rest h
    match l, hl, h with
    | [], _, h =>
      rw [nx_nil] at h
      simp only [Option.some.injEq, Prod.mk.injEq] at h
      obtain ⟨rfl, rfl, rfl⟩ := h
      exact .inl ⟨rfl, rfl, rfl⟩
    | c :: l, hl, h =>
      rw [List.length_cons] at hl
      by_cases hc : c = 47 ∨ c = 64
      · rw [nx_sg hc] at h
        simp only [Option.some.injEq, Prod.mk.injEq] at h
        obtain ⟨rfl, rfl, rfl⟩ := h
        exact .inr ⟨hc, by simp [esc]⟩
      · simp only [not_or] at hc
        by_cases hb : c = 92
        · subst hb
          match l, hl, h with
          | [], _, h => rw [nx_b0] at h; cases h
          | d :: l', hl, h =>
            rw [nx_b] at h
            by_cases hd : mk d = true
            · rw [if_pos hd] at h
              obtain ⟨⟨w', m', r'⟩, h1, h2⟩ := Option.map_eq_some_iff.1 h
              simp only [Prod.mk.injEq] at h2
              obtain ⟨rfl, rfl, rfl⟩ := h2
              rw [List.length_cons] at hl
              rcases ih l' (by omega) w' m' r' h1 with ⟨e1, e2, e3⟩ | ⟨e1, e2⟩
              · exact .inl ⟨e1, e2, by rw [esc_cons, es_mark hd, ← e3]; rfl⟩
              · refine .inr ⟨e1, ?_⟩
                rw [esc_cons, es_mark hd, e2]
                rfl
            · rw [if_neg hd] at h
              cases h
        · rw [nx_pl hc.1 hc.2 hb] at h
          obtain ⟨⟨w', m', r'⟩, h1, h2⟩ := Option.map_eq_some_iff.1 h
          simp only [Prod.mk.injEq] at h2
          obtain ⟨rfl, rfl, rfl⟩ := h2
          have hm := mk_not hc.1 hc.2 hb
          rcases ih l (by omega) w' m' r' h1 with ⟨e1, e2, e3⟩ | ⟨e1, e2⟩
          · exact .inl ⟨e1, e2, by rw [esc_cons, es_plain hm, ← e3]; rfl⟩
          · refine .inr ⟨e1, ?_⟩
            rw [esc_cons, es_plain hm, e2]
            rfl
theorem nx_esc (w : List UInt8) (t : List UInt8) : nxw (esc w ++ t) = (nxw t).map fun x => (w ++ x.1, x.2.1, x.2.2) := by
  induction w with
  | nil =>
    simp only [esc_nil, List.nil_append]
    cases nxw t <;> rfl
  | cons c w ih =>
    rw [esc_cons]
    cases hm : mk c with
    | true =>
      rw [es_mark hm]
      show nxw (92 :: c :: (esc w ++ t)) = _
      rw [nx_b, if_pos hm, ih, Option.map_map]
      rfl
    | false =>
      obtain ⟨h1, h2, h3⟩ := not_mk hm
      rw [es_plain hm]
      show nxw (c :: (esc w ++ t)) = _
      rw [nx_pl h1 h2 h3, ih, Option.map_map]
      rfl
theorem nx_end (w : List UInt8) : nxw (esc w) = some (w, 0, []) := by
  have := nx_esc w []
  rw [List.append_nil] at this
  rw [this, nx_nil]
  simp
theorem nx_sign (w : List UInt8) (m : UInt8) (rest : List UInt8) (h : m = 47 ∨ m = 64) : nxw (esc w ++ m :: rest) = some (w, m, rest) := by
  rw [nx_esc, nx_sg h]
  simp

theorem pp_sound : ∀ (f : Nat) (l : List UInt8) ps rest, pp f l = some (ps, rest) → ps ≠ [] ∧ l = jn ps ++ 64 :: rest := by
  intro f
  induction f with
  | zero => intro l ps rest h; cases h
  | succ f ih =>
    intro l ps rest h
    rw [pp] at h
    cases hn : nxw l with
    | none => rw [hn] at h; cases h
    | some x =>
      obtain ⟨w, m, t⟩ := x
      rw [hn] at h
      simp only at h
      have hs := nx_sound l.length l (Nat.le_refl _) w m t hn
      by_cases h47 : m = 47
      · rw [if_pos h47] at h
        obtain ⟨⟨qs, r'⟩, h1, h2⟩ := Option.map_eq_some_iff.1 h
        simp only [Prod.mk.injEq] at h2
        obtain ⟨rfl, rfl⟩ := h2
        obtain ⟨k1, k2⟩ := ih t qs r' h1
        refine ⟨by simp, ?_⟩
        rcases hs with ⟨e, _⟩ | ⟨_, e⟩
        · rw [h47] at e; exact absurd e (by decide)
        · rw [e, h47, k2]
          cases qs with
          | nil => exact absurd rfl k1
          | cons q qs =>
            show _ = (esc w ++ tls (q :: qs)) ++ _
            rw [tls_cons, jn]
            simp
      · rw [if_neg h47] at h
        by_cases h64 : m = 64
        · rw [if_pos h64] at h
          simp only [Option.some.injEq, Prod.mk.injEq] at h
          obtain ⟨rfl, rfl⟩ := h
          refine ⟨by simp, ?_⟩
          rcases hs with ⟨e, _⟩ | ⟨_, e⟩
          · rw [h64] at e; exact absurd e (by decide)
          · rw [e, h64]
            simp [jn, tls]
        · rw [if_neg h64] at h
          cases h
theorem pp_full : ∀ (ps : List (List UInt8)) (f : Nat) (rest : List UInt8), ps ≠ [] → ps.length ≤ f → pp f (jn ps ++ 64 :: rest) = some (ps, rest) := by
  intro ps
  induction ps with
  | nil => intro f rest h; exact absurd rfl h
  | cons p ps ih =>
    intro f rest _ hf
    rw [List.length_cons] at hf
    obtain ⟨f, rfl⟩ : ∃ g, f = g + 1 := ⟨f - 1, by omega⟩
    cases ps with
    | nil =>
      have e : jn [p] ++ 64 :: rest = esc p ++ 64 :: rest := by simp [jn, tls]
      rw [pp, e, nx_sign p 64 rest (.inr rfl)]
      rfl
    | cons q qs =>
      have e : jn (p :: q :: qs) ++ 64 :: rest = esc p ++ 47 :: (jn (q :: qs) ++ 64 :: rest) := by
        show (esc p ++ tls (q :: qs)) ++ _ = _
        rw [tls_cons, jn]
        simp
      rw [pp, e, nx_sign p 47 _ (.inl rfl)]
      simp only [if_true]
      rw [ih f rest (by simp) (by omega)]
      rfl
theorem jn_len (ps : List (List UInt8)) : ps.length ≤ (jn ps).length + 1 := by
  cases ps with
  | nil => simp
  | cons p ps =>
    unfold jn
    have : ∀ qs : List (List UInt8), qs.length ≤ (tls qs).length := by
      intro qs
      induction qs with
      | nil => simp
      | cons q qs ih => rw [tls_cons, List.length_append, List.length_cons, List.length_cons]; omega
    have := this ps
    rw [List.length_cons, List.length_append]
    omega
theorem prs_sound {l r : List UInt8} {ps : List (List UInt8)} (h : prs l = some (r, ps)) : vl r ps = true ∧ l = tx0 r ps := by
  unfold prs at h
  cases hp : pp (l.length + 1) l with
  | none => rw [hp] at h; cases h
  | some x =>
    obtain ⟨qs, rest⟩ := x
    rw [hp] at h
    simp only at h
    obtain ⟨h1, h2⟩ := pp_sound _ _ _ _ hp
    cases hn : nxw rest with
    | none => rw [hn] at h; cases h
    | some y =>
      obtain ⟨r', m, t⟩ := y
      rw [hn] at h
      simp only at h
      by_cases hv : m = 0 ∧ vl r' qs = true
      · rw [if_pos hv] at h
        simp only [Option.some.injEq, Prod.mk.injEq] at h
        obtain ⟨rfl, rfl⟩ := h
        refine ⟨hv.2, ?_⟩
        rcases nx_sound rest.length rest (Nat.le_refl _) _ _ _ hn with ⟨_, _, e⟩ | ⟨e, _⟩
        · rw [h2, e, tx0]
        · rw [hv.1] at e
          rcases e with e | e <;> exact absurd e (by decide)
      · rw [if_neg hv] at h
        cases h
theorem prs_full {r : List UInt8} {ps : List (List UInt8)} (h : vl r ps = true) : prs (tx0 r ps) = some (r, ps) := by
  obtain ⟨h1, _⟩ := vl_parts h
  have hne : ps ≠ [] := by rintro rfl; simp at h1
  unfold prs
  rw [show pp ((tx0 r ps).length + 1) (tx0 r ps) = some (ps, esc r) from pp_full ps _ (esc r) hne (by have := jn_len ps; simp [tx0]; omega)]
  simp only
  rw [nx_end]
  simp [h]
theorem prs_long {l : List UInt8} (h : 1808 < l.length) : prs l = none := by
  cases hp : prs l with
  | none => rfl
  | some x =>
    obtain ⟨r, ps⟩ := x
    obtain ⟨h1, h2⟩ := prs_sound hp
    have := tx0_len h1
    rw [← h2] at this
    omega

/-! ## the reference's reading of a text -/
/-- bytes ahead of the first piece -/
def hd (x : List UInt8) : List (List UInt8) → List (List UInt8)
  | [] => [x]
  | p :: ps => (x ++ p) :: ps
/-- the pieces between signs that have no backslash in front of them -/
def spl (sign : UInt8) : List UInt8 → List (List UInt8)
  | [] => [[]]
  | c :: l =>
    if c = 92 then
      match l with
      | [] => [[92]]
      | d :: l' => hd [92, d] (spl sign l')
    else if c = sign then [] :: spl sign l
    else hd [c] (spl sign l)
/-- a word without its backslashes -/
def pln : List UInt8 → List UInt8
  | [] => []
  | c :: l =>
    if c = 92 then
      match l with
      | [] => [92]
      | d :: l' => d :: pln l'
    else c :: pln l
theorem spl_nil (sign : UInt8) : spl sign [] = [[]] := by rw [spl.eq_def]
theorem spl_b0 (sign : UInt8) : spl sign [92] = [[92]] := by
  rw [spl.eq_def]
  simp
theorem spl_b (sign d : UInt8) (l : List UInt8) : spl sign (92 :: d :: l) = hd [92, d] (spl sign l) := by
  rw [spl.eq_def]
  simp
theorem spl_sign (sign : UInt8) (hs : sign ≠ 92) (t : List UInt8) : spl sign (sign :: t) = [] :: spl sign t := by
  rw [spl.eq_def]
  simp only
  rw [if_neg hs]
  simp
theorem spl_other (sign c : UInt8) (h1 : c ≠ 92) (h2 : c ≠ sign) (t : List UInt8) : spl sign (c :: t) = hd [c] (spl sign t) := by
  rw [spl.eq_def]
  simp only
  rw [if_neg h1, if_neg h2]
theorem pln_nil : pln [] = [] := by rw [pln.eq_def]
theorem pln_b0 : pln [92] = [92] := by
  rw [pln.eq_def]
  simp
theorem pln_b (d : UInt8) (l : List UInt8) : pln (92 :: d :: l) = d :: pln l := by
  rw [pln.eq_def]
  simp
theorem pln_pl {c : UInt8} (h : c ≠ 92) (l : List UInt8) : pln (c :: l) = c :: pln l := by
  rw [pln.eq_def]
  simp only
  rw [if_neg h]
theorem hd_hd (x y : List UInt8) (ls : List (List UInt8)) : hd x (hd y ls) = hd (x ++ y) ls := by
  cases ls <;> simp [hd]
theorem hd_nil {ls : List (List UInt8)} (h : ls ≠ []) : hd [] ls = ls := by
  cases ls with
  | nil => exact absurd rfl h
  | cons p ps => rfl
theorem hd_ne (x : List UInt8) (ls : List (List UInt8)) : hd x ls ≠ [] := by cases ls <;> simp [hd]
theorem spl_ne (sign : UInt8) (l : List UInt8) : spl sign l ≠ [] := by
  match l with
  | [] => rw [spl_nil]; simp
  | c :: l =>
    by_cases hc : c = 92
    · subst hc
      cases l with
      | nil => rw [spl_b0]; simp
      | cons d l => rw [spl_b]; exact hd_ne _ _
    · by_cases hs : c = sign
      · subst hs
        rw [spl_sign c hc]
        simp
      · rw [spl_other sign c hc hs]
        exact hd_ne _ _
theorem spl_esc (sign : UInt8) (hs : sign = 47 ∨ sign = 64) (w t : List UInt8) : spl sign (esc w ++ t) = hd (esc w) (spl sign t) := by
  induction w with
  | nil => simp only [esc_nil, List.nil_append]; rw [hd_nil (spl_ne _ _)]
  | cons c w ih =>
    rw [esc_cons]
    cases hm : mk c with
    | true =>
      rw [es_mark hm]
      show spl sign (92 :: c :: (esc w ++ t)) = _
      rw [spl_b, ih, hd_hd]
    | false =>
      obtain ⟨h1, h2, h3⟩ := not_mk hm
      rw [es_plain hm]
      show spl sign (c :: (esc w ++ t)) = _
      rw [spl_other sign c h3 (by rcases hs with rfl | rfl; exact h1; exact h2), ih, hd_hd]
theorem spl_tls64 (ps : List (List UInt8)) (t : List UInt8) : spl 64 (tls ps ++ t) = hd (tls ps) (spl 64 t) := by
  induction ps with
  | nil => simp only [tls, List.flatMap_nil, List.nil_append]; rw [hd_nil (spl_ne _ _)]
  | cons p ps ih =>
    rw [tls_cons, List.append_assoc]
    show spl 64 (47 :: (esc p ++ (tls ps ++ t))) = _
    rw [spl_other 64 47 (by decide) (by decide), spl_esc 64 (.inr rfl), ih, hd_hd, hd_hd]
    simp
theorem spl_at (r : List UInt8) {ps : List (List UInt8)} (h : ps ≠ []) : spl 64 (tx0 r ps) = [jn ps, esc r] := by
  cases ps with
  | nil => exact absurd rfl h
  | cons p ps =>
    have e : tx0 r (p :: ps) = esc p ++ (tls ps ++ 64 :: (esc r ++ [])) := by simp [tx0, jn]
    rw [e, spl_esc 64 (.inr rfl), spl_tls64, spl_sign 64 (by decide), spl_esc 64 (.inr rfl)]
    rw [spl_nil]
    simp [hd, jn]
theorem spl_tls47 (ps : List (List UInt8)) : spl 47 (tls ps) = [] :: ps.map esc := by
  induction ps with
  | nil => exact spl_nil _
  | cons p ps ih =>
    rw [tls_cons]
    show spl 47 (47 :: (esc p ++ tls ps)) = _
    rw [spl_sign 47 (by decide), spl_esc 47 (.inl rfl), ih]
    simp [hd]
theorem spl_jn {ps : List (List UInt8)} (h : ps ≠ []) : spl 47 (jn ps) = ps.map esc := by
  cases ps with
  | nil => exact absurd rfl h
  | cons p ps =>
    rw [jn, spl_esc 47 (.inl rfl), spl_tls47]
    simp [hd]
theorem pln_esc (w : List UInt8) : pln (esc w) = w := by
  induction w with
  | nil => exact pln_nil
  | cons c w ih =>
    rw [esc_cons]
    cases hm : mk c with
    | true =>
      rw [es_mark hm]
      show pln (92 :: c :: esc w) = _
      rw [pln_b, ih]
    | false =>
      rw [es_plain hm]
      show pln (c :: esc w) = _
      rw [pln_pl (not_mk hm).2.2, ih]
/-- the reference's name with a text -/
def rprs (l : List UInt8) : Option (List UInt8 × List (List UInt8)) :=
  match spl 64 l with
  | [a, b] => if vl (pln b) ((spl 47 a).map pln) = true ∧ txt (pln b) ((spl 47 a).map pln) = l then some (pln b, (spl 47 a).map pln) else none
  | _ => none
theorem rprs_sound {l r : List UInt8} {ps : List (List UInt8)} (h : rprs l = some (r, ps)) : vl r ps = true ∧ l = tx0 r ps := by
  unfold rprs at h
  split at h
  · split at h
    · rename_i hv
      simp only [Option.some.injEq, Prod.mk.injEq] at h
      obtain ⟨rfl, rfl⟩ := h
      refine ⟨hv.1, ?_⟩
      have := hv.2
      rw [txt, if_pos hv.1] at this
      exact this.symm
    · cases h
  · cases h
theorem rprs_full {r : List UInt8} {ps : List (List UInt8)} (h : vl r ps = true) : rprs (tx0 r ps) = some (r, ps) := by
  obtain ⟨h1, _⟩ := vl_parts h
  have hne : ps ≠ [] := by rintro rfl; simp at h1
  unfold rprs
  rw [spl_at r hne]
  simp only
  have e : (spl 47 (jn ps)).map pln = ps := by
    rw [spl_jn hne, List.map_map]
    conv => rhs; rw [← List.map_id ps]
    exact List.map_congr_left fun p _ => pln_esc p
  rw [e, pln_esc, if_pos ⟨h, by rw [txt, if_pos h]⟩]
/-- both read the same -/
theorem prs_rprs (l : List UInt8) : prs l = rprs l := by
  cases h : prs l with
  | some x =>
    obtain ⟨r, ps⟩ := x
    obtain ⟨h1, h2⟩ := prs_sound h
    rw [h2, rprs_full h1]
  | none =>
    cases h' : rprs l with
    | none => rfl
    | some x =>
      obtain ⟨r, ps⟩ := x
      obtain ⟨h1, h2⟩ := rprs_sound h'
      rw [h2, prs_full h1] at h
      cases h
end Go.Proofs.YtagegigffohcbaaGreatDoor

namespace Go.Proofs.YtagegigffohcbaaGreatDoor
open Go.RowKit

/-- the bytes of a string -/
def bl (s : ByteArray) : List UInt8 := s.data.toList
/-- the bytes of strings -/
def bls (ss : List ByteArray) : List (List UInt8) := ss.map bl
theorem bl_len (s : ByteArray) : (bl s).length = s.size := by simp [bl]
theorem bl_get {s : ByteArray} {k : Nat} (h : k < s.size) : (bl s)[k]'(by rw [bl_len]; exact h) = s[k] := by simp [bl]; rfl
theorem bl_toList (s : ByteArray) : s.toList = bl s := ByteArray.toList_eq s
theorem bl_mk (l : List UInt8) : bl ⟨l.toArray⟩ = l := by simp [bl]
theorem bl_ext {s t : ByteArray} (h : bl s = bl t) : s = t := by
  cases s
  cases t
  simp [bl] at h
  rw [h]
theorem bls_len (ss : List ByteArray) : (bls ss).length = ss.length := by simp [bls]
theorem bls_get {ss : List ByteArray} {k : Nat} (h : k < ss.length) : (bls ss)[k]'(by rw [bls_len]; exact h) = bl ss[k] := by simp [bls]
theorem bls_take (ss : List ByteArray) (k : Nat) : bls (ss.take k) = (bls ss).take k := by simp [bls, List.map_take]
theorem bls_snoc (ss : List ByteArray) (s : ByteArray) : bls (ss ++ [s]) = bls ss ++ [bl s] := by simp [bls]

/-- a slice of strings reads as the list ss; its block and the block's type meet S -/
def SR (w : World) (S : Nat → TypeId → Prop) (A : Option Addr) (ss : List ByteArray) : Prop :=
  0 < ss.length → ∃ g off cs t fr, A = some ⟨g, off, none⟩ ∧ w.heap[g]? = some (.cells cs t fr) ∧ S g t ∧ ∀ j s, ss[j]? = some s → cs[off + j]? = some (.string s)
section
variable {w w' : World} {S T : Nat → TypeId → Prop} {A : Option Addr} {ss : List ByteArray}
theorem SR.nil (w : World) (S : Nat → TypeId → Prop) (A : Option Addr) : SR w S A [] := fun h => absurd h (by simp)
theorem SR.cell (h : SR w S A ss) {k : Nat} (hk : k < ss.length) : ∃ g off, A = some ⟨g, off, none⟩ ∧ w.cell? ⟨g, off + k, none⟩ = some (.string ss[k]) := by
  obtain ⟨g, off, cs, t, fr, rfl, hh, _, hc⟩ := h (by omega)
  exact ⟨g, off, rfl, by rw [cells_of hh]; exact hc k _ (List.getElem?_eq_getElem hk)⟩
theorem SR.keep (h : SR w S A ss) (hk : ∀ g o, w.heap[g]? = some o → (∃ cs t fr, o = .cells cs t fr ∧ S g t) → w'.heap[g]? = some o) : SR w' S A ss := by
  intro hl
  obtain ⟨g, off, cs, t, fr, rfl, hh, hs, hc⟩ := h hl
  exact ⟨g, off, cs, t, fr, rfl, hk g _ hh ⟨cs, t, fr, rfl, hs⟩, hs, hc⟩
theorem SR.ext (h : SR w S A ss) (hb : Ext w w') : SR w' S A ss := h.keep fun _ _ hh _ => hb.get hh
theorem SR.grown (h : SR w S A ss) {row : Option Nat} (hb : w.grownBy w' row) (hne : ∀ g t, S g t → row ≠ some g) : SR w' S A ss := h.keep fun _ _ hh ⟨_, _, _, _, hs⟩ => grown_get hb hh (hne _ _ hs)
theorem SR.far (h : SR w S A ss) {g : Nat} {cs : Array Value} {t : TypeId} {fr : Nat × Nat} (hb : w.grownBy w' (some g)) (hg : w.heap[g]? = some (.cells cs t fr)) (hne : ∀ g', ¬ S g' t) : SR w' S A ss :=
  h.keep fun g' o hh ⟨cs', t', fr', he, hs⟩ => grown_get hb hh (by
    rintro e
    injection e with e
    subst e
    rw [hg] at hh
    injection hh with hh
    rw [he] at hh
    injection hh with _ ht _
    subst ht
    exact hne _ hs)
theorem SR.more (h : SR w S A ss) (hS : ∀ g t, S g t → T g t) : SR w T A ss := by
  intro hl
  obtain ⟨g, off, cs, t, fr, rfl, hh, hs, hc⟩ := h hl
  exact ⟨g, off, cs, t, fr, rfl, hh, hS g t hs, hc⟩
theorem SR.inside (h : SR w S A ss) : SR w (fun g t => S g t ∧ g < w.heap.size) A ss := by
  intro hl
  obtain ⟨g, off, cs, t, fr, rfl, hh, hs, hc⟩ := h hl
  exact ⟨g, off, cs, t, fr, rfl, hh, ⟨hs, lt_of_some hh⟩, hc⟩
end
/-- the strings of a row of the call's own -/
theorem OwnV.sr {w : World} {E : TypeId} {base c : Nat} {A : Option Addr} {ss : List ByteArray} (h : OwnV w E base A c (ss.map Value.string)) : SR w (fun g t => base ≤ g ∧ t = E ∧ (Value.slice A ss.length c).ownBlock = some g) A ss := by
  intro hl
  rcases h.block with ⟨_, _, h0⟩ | ⟨g, cs, rfl, hb, hh, _, _, _, h4⟩
  · have := congrArg List.length h0
    simp at this
    rw [this] at hl
    simp at hl
  · refine ⟨g, 0, cs, E, (0, 0), rfl, hh, ⟨hb, rfl, rfl⟩, fun j s hj => ?_⟩
    have hjl : j < ss.length := (List.getElem?_eq_some_iff.1 hj).1
    have : (cs.toList.take (ss.map Value.string).length)[j]? = (ss.map Value.string)[j]? := by rw [h4]
    rw [List.getElem?_take, if_pos (by rw [List.length_map]; exact hjl), List.getElem?_map, hj] at this
    simpa using this
/-- a string of one byte more -/
theorem mk_append (l m : List UInt8) : (⟨l.toArray⟩ : ByteArray) ++ ⟨m.toArray⟩ = ⟨(l ++ m).toArray⟩ := ByteArray.mk_append_mk l m

theorem all_take {p : UInt8 → Bool} (l : List UInt8) {k : Nat} (hk : k < l.length) (h : (l.take k).all p = true) : (l.take (k + 1)).all p = p l[k] := by
  rw [List.take_succ_eq_append_getElem hk, List.all_append, h]
  simp
theorem all_not {p : UInt8 → Bool} (l : List UInt8) {k : Nat} (hk : k < l.length) (h : p l[k] = false) : l.all p = false := by
  rw [List.all_eq_false]
  exact ⟨l[k], List.getElem_mem _, by rw [h]; decide⟩
theorem wb_t {c : UInt8} (h1 : 33 ≤ c.toNat) (h2 : c.toNat ≤ 126) : wb c = true := by simp [wb, h1, h2]
theorem wb_f {c : UInt8} (h : c.toNat < 33 ∨ 126 < c.toNat) : wb c = false := by
  unfold wb
  rcases h with h | h
  · rw [decide_eq_false (by omega), Bool.false_and]
  · rw [decide_eq_false (show ¬ c.toNat ≤ 126 by omega), Bool.and_false]


set_option maxRecDepth 100000 in
set_option maxHeartbeats 1000000 in
theorem isWord_c (s : ByteArray) (w : World) (hs : s.size ≤ 9223372036854775807) : Calls Tryz.prog 64 #[.string s] w fun e w' => e = .returned (.bool (wd (bl s))) ∧ Ext w w' := by
  by_cases h1 : s.size < 1
  · have e : wd (bl s) = false := by
      unfold wd
      rw [bl_len, decide_eq_false (by omega), Bool.false_and, Bool.false_and]
    rw [e]
    have t1 : (s.size : Int) < 1 := by omega
    clear e
    go_enter Tryz.func64, Tryz.ntmps64
    go_wp2_with fail
    go_ret
    exact ⟨rfl, Ext.refl _⟩
  · have t1 : (1 : Int) ≤ (s.size : Int) := by omega
    by_cases h2 : 100 < s.size
    · have e : wd (bl s) = false := by
        unfold wd
        rw [bl_len, decide_eq_false (show ¬ s.size ≤ 100 by omega), Bool.and_false, Bool.false_and]
      rw [e]
      have t2 : (100 : Int) < (s.size : Int) := by omega
      clear e
      go_enter Tryz.func64, Tryz.ntmps64
      go_wp2_with fail
      go_ret
      exact ⟨rfl, Ext.refl _⟩
    · have t2 : (s.size : Int) ≤ 100 := by omega
      have e : wd (bl s) = (bl s).all wb := by
        unfold wd
        rw [bl_len, decide_eq_true (show 1 ≤ s.size by omega), decide_eq_true (show s.size ≤ 100 by omega), Bool.true_and, Bool.true_and]
      rw [e]
      clear e
      go_enter Tryz.func64, Tryz.ntmps64
      go_wp2_with fail
      go_loopw [4] (fun _ wr => ∃ pos : Nat, pos ≤ s.size ∧ wr = w.iter s pos ∧ ((bl s).take pos).all wb = true) (fun _ wr => s.size - wr.iterPos w.heap.size)
      case atStart => exact ⟨0, Nat.zero_le _, rfl, by simp⟩
      case round =>
        obtain ⟨pos, hpos, rfl, hall⟩ := hrel
        have HA := Lib.hid hall
        clear hall
        by_cases hp : pos < s.size
        · have hp' : pos < (bl s).length := by rw [bl_len]; exact hp
          by_cases hh : (s[pos]'hp).toNat < 128
          · have hnx := fun ty => run_next_ascii (P := Tryz.prog) w s pos ty hp hh
            have hg := bl_get hp
            obtain ⟨b, hb⟩ : ∃ b, b = s[pos]'hp := ⟨_, rfl⟩
            rw [← hb] at hnx hg
            have HG := Lib.hid hg
            clear hg hb hh
            by_cases q1 : b.toNat < 33
            · have t3 : (b.toNat : Int) < 33 := by omega
              have hw : (bl s).all wb = false := all_not _ hp' (by rw [HG.out]; exact wb_f (.inl q1))
              have HW := Lib.hid hw
              clear hw q1
              go_wp2_with fail
              go_ret
              exact ⟨by rw [HW.out]; rfl, Ext.alloc _ _⟩
            · have t3 : (33 : Int) ≤ (b.toNat : Int) := by omega
              by_cases q2 : 126 < b.toNat
              · have t4 : (126 : Int) < (b.toNat : Int) := by omega
                have hw : (bl s).all wb = false := all_not _ hp' (by rw [HG.out]; exact wb_f (.inr q2))
                have HW := Lib.hid hw
                clear hw q1 q2
                go_wp2_with fail
                go_ret
                exact ⟨by rw [HW.out]; rfl, Ext.alloc _ _⟩
              · have t4 : (b.toNat : Int) ≤ 126 := by omega
                have hw : ((bl s).take (pos + 1)).all wb = true := by rw [all_take _ hp' HA.out, HG.out]; exact wb_t (by omega) (by omega)
                have HW := Lib.hid hw
                clear hw q1 q2
                go_wp2_with fail
                go_roundw
                case rel => exact ⟨pos + 1, by omega, rfl, HW.out⟩
                case measure => simp; omega
          · have hdh := (decode_high s pos hp (by omega)).1
            have hnx : ∀ ty, (Instr.next (.pointer (some ⟨w.heap.size, 0, none⟩)) true ty).run Tryz.prog (w.iter s pos) = _ := fun ty => run_next_any w s pos ty hp
            have hw : (bl s).all wb = false := all_not _ hp' (by rw [bl_get hp]; exact wb_f (.inr (by omega)))
            have HW := Lib.hid hw
            obtain ⟨x, hx⟩ : ∃ x, x = Utf8.decode s pos := ⟨_, rfl⟩
            rw [← hx] at hnx hdh
            have t3 : ¬ (x.1 : Int) < 33 := by omega
            have t4 : (126 : Int) < (x.1 : Int) := by omega
            clear hw hdh hx hh
            go_wp2_with fail
            go_ret
            exact ⟨by rw [HW.out]; rfl, Ext.alloc _ _⟩
        · have hnx := fun ty => run_next_end (P := Tryz.prog) w s pos ty hp
          have hw : (bl s).all wb = true := by
            have := HA.out
            rw [List.take_of_length_le (by rw [bl_len]; omega)] at this
            exact this
          have HW := Lib.hid hw
          clear hw
          go_wp2_with fail
          go_ret
          exact ⟨by rw [HW.out]; rfl, Ext.alloc _ _⟩
end Go.Proofs.YtagegigffohcbaaGreatDoor

namespace Go.Proofs.YtagegigffohcbaaGreatDoor
open Go.RowKit

/-- a name as a value -/
def nv (s : ByteArray) (A : Option Addr) (n c : Nat) : Value := .agg #[.string s, .slice A n c]
theorem all_bls {p : List UInt8 → Bool} (ss : List ByteArray) {k : Nat} (hk : k < ss.length) (h : ((bls ss).take k).all p = true) : ((bls ss).take (k + 1)).all p = p (bl ss[k]) := by
  have hk' : k < (bls ss).length := by rw [bls_len]; exact hk
  rw [List.take_succ_eq_append_getElem hk', List.all_append, h, bls_get hk]
  simp
theorem all_bls_not {p : List UInt8 → Bool} (ss : List ByteArray) {k : Nat} (hk : k < ss.length) (h : p (bl ss[k]) = false) : (bls ss).all p = false := by
  rw [List.all_eq_false]
  exact ⟨bl ss[k], by rw [← bls_get hk]; exact List.getElem_mem _, by rw [h]; decide⟩
theorem vl_none {r : List UInt8} {ps : List (List UInt8)} (h : ps.length < 1) : vl r ps = false := by
  unfold vl
  rw [decide_eq_false (by omega), Bool.false_and, Bool.false_and, Bool.false_and]
theorem vl_many {r : List UInt8} {ps : List (List UInt8)} (h : 8 < ps.length) : vl r ps = false := by
  unfold vl
  rw [decide_eq_false (show ¬ ps.length ≤ 8 by omega), Bool.and_false, Bool.false_and, Bool.false_and]
theorem vl_some {r : List UInt8} {ps : List (List UInt8)} (h1 : 1 ≤ ps.length) (h2 : ps.length ≤ 8) : vl r ps = (ps.all wd && wd r) := by
  unfold vl
  rw [decide_eq_true h1, decide_eq_true h2, Bool.true_and, Bool.true_and]

set_option maxRecDepth 100000 in
set_option maxHeartbeats 1000000 in
theorem valid_c (s : ByteArray) (A : Option Addr) (c : Nat) (ss : List ByteArray) (S : Nat → TypeId → Prop) (w : World) (h : SR w S A ss) (hs : s.size ≤ 9223372036854775807) (hz : ∀ t ∈ ss, t.size ≤ 9223372036854775807) (hn : ss.length ≤ 9223372036854775807) :
    Calls Tryz.prog 42 #[.agg #[.string s, .slice A ss.length c]] w fun e w' => e = .returned (.bool (vl (bl s) (bls ss))) ∧ Ext w w' := by
  have H := Lib.hid h
  have HZ := Lib.hid hz
  clear h hz
  by_cases h1 : ss.length < 1
  · have e := vl_none (r := bl s) (ps := bls ss) (by rw [bls_len]; exact h1)
    rw [e]
    have t1 : (ss.length : Int) < 1 := by omega
    clear e
    go_enter Tryz.func42, Tryz.ntmps42
    go_wp2_with fail
    go_ret
    exact ⟨rfl, Ext.alloc _ _⟩
  · have t1 : (1 : Int) ≤ (ss.length : Int) := by omega
    by_cases h2 : 8 < ss.length
    · have e := vl_many (r := bl s) (ps := bls ss) (by rw [bls_len]; exact h2)
      rw [e]
      have t2 : (8 : Int) < (ss.length : Int) := by omega
      clear e
      go_enter Tryz.func42, Tryz.ntmps42
      go_wp2_with fail
      go_ret
      exact ⟨rfl, Ext.alloc _ _⟩
    · have t2 : (ss.length : Int) ≤ 8 := by omega
      have e := vl_some (r := bl s) (ps := bls ss) (by rw [bls_len]; omega) (by rw [bls_len]; omega)
      rw [e]
      clear e
      obtain ⟨wo, hwo⟩ : ∃ wo : World, wo = w.alloc (.cells #[.string s, .slice A ss.length c] 26) := ⟨_, rfl⟩
      have hd : wo.heap[w.heap.size]? = some (.cells #[.string s, .slice A ss.length c] 26 (0, 0)) := by rw [hwo]; exact new_of _ _
      have hx0 : Ext w wo := by rw [hwo]; exact Ext.alloc _ _
      have HD := Lib.hid hd
      have HX0 := Lib.hid hx0
      have HW := Lib.hid hwo
      clear hd hx0 hwo
      go_enter Tryz.func42, Tryz.ntmps42
      go_wp2_with fail
      rw [← HW.out]
      go_loopw [4, 18] (fun _ i wr => ∃ k : Nat, k ≤ ss.length ∧ i = .int .i64 k ∧ ((bls ss).take k).all wd = true ∧ Ext wo wr) (fun _ i _ => ss.length - (intOf i).toNat)
      case atStart => exact ⟨0, Nat.zero_le _, rfl, by simp, Ext.refl _⟩
      case round =>
        obtain ⟨k, hk, rfl, hall, hx⟩ := hrel
        have HA := Lib.hid hall
        have HX := Lib.hid hx
        clear hall hx
        by_cases hlt : k < ss.length
        · obtain ⟨g, off, rfl, hc⟩ := (H.out.ext (HX0.out.tr HX.out)).cell hlt
          have hsz := HZ.out ss[k] (List.getElem_mem _)
          have h1' := all_bls ss hlt HA.out
          have h2' := fun h => all_bls_not (p := wd) ss hlt h
          obtain ⟨t, ht⟩ : ∃ t, t = ss[k] := ⟨_, rfl⟩
          rw [← ht] at hc hsz h1' h2'
          have H1 := Lib.hid h1'
          have H2 := Lib.hid h2'
          clear ht h1' h2'
          by_cases hwd : wd (bl t) = true
          · have hcw := isWord_c t wr hsz
            rw [hwd] at hcw H1
            have HCW := Lib.hid hcw
            clear hcw hwd
            go_wp2_with fail
            refine HCW.out.mono ?_
            rintro e w1 ⟨rfl, hx1⟩
            go_wp2_with fail
            go_roundw
            case rel => exact ⟨k + 1, by omega, by go_num, H1.out, HX.out.tr hx1⟩
            case measure => simp [intOf]; omega
          · have hwd' : wd (bl t) = false := by simpa using hwd
            have hcw := isWord_c t wr hsz
            rw [hwd'] at hcw
            have HCW := Lib.hid hcw
            have HF := Lib.hid (H2.out hwd')
            clear hcw hwd hwd'
            go_wp2_with fail
            refine HCW.out.mono ?_
            rintro e w1 ⟨rfl, hx1⟩
            go_wp2_with fail
            go_ret
            exact ⟨by rw [HF.out]; rfl, (HX0.out.tr HX.out).tr hx1⟩
        · have c0 : wr.cell? ⟨w.heap.size, 0, none⟩ = some (.string s) := cells_of (HX.out.get HD.out) 0
          have hall : (bls ss).all wd = true := by
            have := HA.out
            rw [List.take_of_length_le (by rw [bls_len]; omega)] at this
            exact this
          have HL := Lib.hid hall
          clear hall
          go_wp2_with fail
          refine (isWord_c s wr hs).mono ?_
          rintro e w1 ⟨rfl, hx1⟩
          go_wp2_with fail
          go_ret
          exact ⟨by rw [HL.out, Bool.true_and]; rfl, (HX0.out.tr HX.out).tr hx1⟩

set_option maxRecDepth 100000 in
set_option maxHeartbeats 1000000 in
theorem rword_c (s : ByteArray) (w : World) (hs : s.size ≤ 9223372036854775807) : Calls Tryz.prog 46 #[.string s] w fun e w' => e = .returned (.bool (wd (bl s))) ∧ w = w' := by
  go_enter Tryz.func46, Tryz.ntmps46
  go_wp2_with fail
  go_loop [3] (fun i => ∃ k : Nat, k ≤ s.size ∧ i = .int .i64 k ∧ ((bl s).take k).all wb = true) (fun i => s.size - (intOf i).toNat)
  case atStart => exact ⟨0, Nat.zero_le _, rfl, by simp⟩
  case round =>
    obtain ⟨k, hk, rfl, hall⟩ := hrel
    have HA := Lib.hid hall
    clear hall
    by_cases hlt : k < s.size
    · have hp' : k < (bl s).length := by rw [bl_len]; exact hlt
      have hg := bl_get hlt
      have h1' := all_take (p := wb) (bl s) hp' HA.out
      have h2' := fun h => all_not (p := wb) (bl s) hp' h
      rw [hg] at h1' h2'
      obtain ⟨b, hb⟩ : ∃ b, s[k]'hlt = b := ⟨_, rfl⟩
      rw [hb] at h1' h2'
      have H1 := Lib.hid h1'
      have H2 := Lib.hid h2'
      clear h1' h2' hg
      by_cases q1 : b.toNat < 33
      · have t3 : (b.toNat : Int) < 33 := by omega
        have HW := Lib.hid (H2.out (wb_f (.inl q1)))
        clear q1
        go_wp2_with fail
        go_ret
        refine ⟨?_, rfl⟩
        rw [wd, HW.out, Bool.and_false]
        rfl
      · have t3 : (33 : Int) ≤ (b.toNat : Int) := by omega
        by_cases q2 : 126 < b.toNat
        · have t4 : (126 : Int) < (b.toNat : Int) := by omega
          have HW := Lib.hid (H2.out (wb_f (.inr q2)))
          clear q1 q2
          go_wp2_with fail
          go_ret
          refine ⟨?_, rfl⟩
          rw [wd, HW.out, Bool.and_false]
          rfl
        · have t4 : (b.toNat : Int) ≤ 126 := by omega
          have HW := Lib.hid (H1.out.trans (wb_t (by omega) (by omega)))
          clear q1 q2
          go_wp2_with fail
          go_round
          case rel => exact ⟨k + 1, by omega, by go_num, HW.out⟩
          case measure => simp [intOf]; omega
    · have hw : (bl s).all wb = true := by
        have := HA.out
        rw [List.take_of_length_le (by rw [bl_len]; omega)] at this
        exact this
      have HW := Lib.hid hw
      have hl := bl_len s
      have HL := Lib.hid hl
      clear hw hl
      by_cases q1 : 1 ≤ s.size
      · have t1 : (1 : Int) ≤ (s.size : Int) := by omega
        go_wp2_with fail
        go_ret
        refine ⟨?_, rfl⟩
        rw [wd, HW.out, HL.out, decide_eq_true q1, Bool.and_true, Bool.true_and]
        show Ending.returned (Value.bool (decide ((s.size : Int) ≤ 100))) = _
        congr 2
        exact decide_eq_decide.2 (by omega)
      · have t1 : (s.size : Int) < 1 := by omega
        go_wp2_with fail
        go_ret
        refine ⟨?_, rfl⟩
        rw [wd, HW.out, HL.out, decide_eq_false q1]
        rfl

set_option maxRecDepth 100000 in
set_option maxHeartbeats 1000000 in
theorem rvalid_c (s : ByteArray) (A : Option Addr) (c : Nat) (ss : List ByteArray) (S : Nat → TypeId → Prop) (w : World) (h : SR w S A ss) (hs : s.size ≤ 9223372036854775807) (hz : ∀ t ∈ ss, t.size ≤ 9223372036854775807) (hn : ss.length ≤ 9223372036854775807) :
    Calls Tryz.prog 22 #[.agg #[.string s, .slice A ss.length c]] w fun e w' => e = .returned (.bool (vl (bl s) (bls ss))) ∧ Ext w w' := by
  have H := Lib.hid h
  have HZ := Lib.hid hz
  clear h hz
  obtain ⟨wo, hwo⟩ : ∃ wo : World, wo = w.alloc (.cells #[.string s, .slice A ss.length c] 26) := ⟨_, rfl⟩
  have hd : wo.heap[w.heap.size]? = some (.cells #[.string s, .slice A ss.length c] 26 (0, 0)) := by rw [hwo]; exact new_of _ _
  have hx0 : Ext w wo := by rw [hwo]; exact Ext.alloc _ _
  have c0 : wo.cell? ⟨w.heap.size, 0, none⟩ = some (.string s) := cells_of hd 0
  have c1 : wo.cell? ⟨w.heap.size, 1, none⟩ = some (.slice A ss.length c) := cells_of hd 1
  have HX0 := Lib.hid hx0
  have HW := Lib.hid hwo
  clear hd hx0 hwo
  go_enter Tryz.func22, Tryz.ntmps22
  go_wp2_with fail
  rw [← HW.out]
  go_loopw [3] (fun i wr => ∃ k : Nat, k ≤ ss.length ∧ i = .int .i64 k ∧ ((bls ss).take k).all wd = true ∧ wr = wo) (fun i _ => ss.length - (intOf i).toNat)
  case atStart => exact ⟨0, Nat.zero_le _, rfl, by simp, rfl⟩
  case round =>
    obtain ⟨k, hk, rfl, hall, rfl⟩ := hrel
    have HA := Lib.hid hall
    clear hall
    by_cases hlt : k < ss.length
    · obtain ⟨g, off, rfl, hc⟩ := (H.out.ext HX0.out).cell hlt
      have hsz := HZ.out ss[k] (List.getElem_mem _)
      have h1' := all_bls ss hlt HA.out
      have h2' := fun h => all_bls_not (p := wd) ss hlt h
      obtain ⟨t, ht⟩ : ∃ t, t = ss[k] := ⟨_, rfl⟩
      rw [← ht] at hc hsz h1' h2'
      have H1 := Lib.hid h1'
      have H2 := Lib.hid h2'
      clear ht h1' h2'
      by_cases hwd : wd (bl t) = true
      · have hcw := rword_c t wr hsz
        rw [hwd] at hcw H1
        have HCW := Lib.hid hcw
        clear hcw hwd
        go_wp2_with fail
        refine HCW.out.mono ?_
        rintro e w1 ⟨rfl, rfl⟩
        go_wp2_with fail
        go_roundw
        case rel => exact ⟨k + 1, by omega, by go_num, H1.out, by first | rfl | trivial⟩
        case measure => simp [intOf]; omega
      · have hwd' : wd (bl t) = false := by simpa using hwd
        have hcw := rword_c t wr hsz
        rw [hwd'] at hcw
        have HCW := Lib.hid hcw
        have HF := Lib.hid (H2.out hwd')
        clear hcw hwd hwd'
        go_wp2_with fail
        refine HCW.out.mono ?_
        rintro e w1 ⟨rfl, rfl⟩
        go_wp2_with fail
        go_ret
        refine ⟨?_, HX0.out⟩
        rw [vl, HF.out, Bool.and_false, Bool.false_and]
        rfl
    · have hall : (bls ss).all wd = true := by
        have := HA.out
        rw [List.take_of_length_le (by rw [bls_len]; omega)] at this
        exact this
      have HL := Lib.hid hall
      have HB := Lib.hid (bls_len ss)
      clear hall
      have hcw := rword_c s wr hs
      by_cases hwd : wd (bl s) = true
      · rw [hwd] at hcw
        have HCW := Lib.hid hcw
        have HWD := Lib.hid hwd
        clear hcw hwd
        by_cases q1 : 0 < ss.length
        · have t1 : (0 : Int) < (ss.length : Int) := by omega
          go_wp2_with fail
          refine HCW.out.mono ?_
          rintro e w1 ⟨rfl, rfl⟩
          go_wp2_with fail
          go_ret
          refine ⟨?_, HX0.out⟩
          show Ending.returned (Value.bool (decide ((ss.length : Int) < 9))) = _
          by_cases q2 : ss.length < 9
          · rw [vl_some (by rw [HB.out]; omega) (by rw [HB.out]; omega), HL.out, HWD.out, decide_eq_true (by omega)]
            rfl
          · rw [vl_many (by rw [HB.out]; omega), decide_eq_false (by omega)]
        · have t1 : (ss.length : Int) ≤ 0 := by omega
          go_wp2_with fail
          refine HCW.out.mono ?_
          rintro e w1 ⟨rfl, rfl⟩
          go_wp2_with fail
          go_ret
          refine ⟨?_, HX0.out⟩
          rw [vl_none (by rw [HB.out]; omega)]
          rfl
      · have hwd' : wd (bl s) = false := by simpa using hwd
        rw [hwd'] at hcw
        have HCW := Lib.hid hcw
        have HWD := Lib.hid hwd'
        clear hcw hwd hwd'
        go_wp2_with fail
        refine HCW.out.mono ?_
        rintro e w1 ⟨rfl, rfl⟩
        go_wp2_with fail
        go_ret
        refine ⟨?_, HX0.out⟩
        rw [vl, HWD.out, Bool.and_false]
        rfl

/-- a small name -/
def few (s : ByteArray) (ss : List ByteArray) : Bool := ss.all (fun t => decide (t.size ≤ 300)) && (decide (s.size ≤ 300) && decide (ss.length ≤ 20))
set_option maxRecDepth 100000 in
set_option maxHeartbeats 1000000 in
theorem few_c (s : ByteArray) (A : Option Addr) (c : Nat) (ss : List ByteArray) (S : Nat → TypeId → Prop) (w : World) (h : SR w S A ss) (hn : ss.length ≤ 9223372036854775807) :
    Calls Tryz.prog 20 #[.agg #[.string s, .slice A ss.length c]] w fun e w' => e = .returned (.bool (few s ss)) ∧ Ext w w' := by
  have H := Lib.hid h
  clear h
  obtain ⟨wo, hwo⟩ : ∃ wo : World, wo = w.alloc (.cells #[.string s, .slice A ss.length c] 26) := ⟨_, rfl⟩
  have hd : wo.heap[w.heap.size]? = some (.cells #[.string s, .slice A ss.length c] 26 (0, 0)) := by rw [hwo]; exact new_of _ _
  have hx0 : Ext w wo := by rw [hwo]; exact Ext.alloc _ _
  have c0 : wo.cell? ⟨w.heap.size, 0, none⟩ = some (.string s) := cells_of hd 0
  have c1 : wo.cell? ⟨w.heap.size, 1, none⟩ = some (.slice A ss.length c) := cells_of hd 1
  have HX0 := Lib.hid hx0
  have HW := Lib.hid hwo
  clear hd hx0 hwo
  go_enter Tryz.func20, Tryz.ntmps20
  go_wp2_with fail
  rw [← HW.out]
  go_loopw [3] (fun i wr => ∃ k : Nat, k ≤ ss.length ∧ i = .int .i64 k ∧ ((ss.take k).all (fun t => decide (t.size ≤ 300))) = true ∧ wr = wo) (fun i _ => ss.length - (intOf i).toNat)
  case atStart => exact ⟨0, Nat.zero_le _, rfl, by simp, rfl⟩
  case round =>
    obtain ⟨k, hk, rfl, hall, rfl⟩ := hrel
    have HA := Lib.hid hall
    clear hall
    by_cases hlt : k < ss.length
    · obtain ⟨g, off, rfl, hc⟩ := (H.out.ext HX0.out).cell hlt
      have h1' : (ss.take (k + 1)).all (fun t => decide (t.size ≤ 300)) = decide (ss[k].size ≤ 300) := by
        rw [List.take_succ_eq_append_getElem hlt, List.all_append, HA.out]
        simp
      have h2' : decide (ss[k].size ≤ 300) = false → ss.all (fun t => decide (t.size ≤ 300)) = false := fun h => by
        rw [List.all_eq_false]
        exact ⟨ss[k], List.getElem_mem _, by rw [h]; decide⟩
      obtain ⟨t, ht⟩ : ∃ t, t = ss[k] := ⟨_, rfl⟩
      rw [← ht] at hc h1' h2'
      have H1 := Lib.hid h1'
      have H2 := Lib.hid h2'
      clear ht h1' h2'
      by_cases q : t.size ≤ 300
      · have t1 : (t.size : Int) ≤ 300 := by omega
        have HQ := Lib.hid (H1.out.trans (decide_eq_true q))
        clear q
        go_wp2_with fail
        go_roundw
        case rel => exact ⟨k + 1, by omega, by go_num, HQ.out, by first | rfl | trivial⟩
        case measure => simp [intOf]; omega
      · have t1 : (300 : Int) < (t.size : Int) := by omega
        have HF := Lib.hid (H2.out (decide_eq_false q))
        clear q
        go_wp2_with fail
        go_ret
        refine ⟨?_, HX0.out⟩
        rw [few, HF.out, Bool.false_and]
        rfl
    · have hall : ss.all (fun t => decide (t.size ≤ 300)) = true := by
        have := HA.out
        rw [List.take_of_length_le (by omega)] at this
        exact this
      have HL := Lib.hid hall
      clear hall
      by_cases q : s.size ≤ 300
      · have t1 : (s.size : Int) ≤ 300 := by omega
        have HQ := Lib.hid (decide_eq_true q)
        clear q
        go_wp2_with fail
        go_ret
        refine ⟨?_, HX0.out⟩
        rw [few, HL.out, HQ.out, Bool.true_and, Bool.true_and]
        show Ending.returned (Value.bool (decide ((ss.length : Int) ≤ 20))) = _
        congr 2
        exact decide_eq_decide.2 (by omega)
      · have t1 : (300 : Int) < (s.size : Int) := by omega
        have HQ := Lib.hid (decide_eq_false q)
        clear q
        go_wp2_with fail
        go_ret
        refine ⟨?_, HX0.out⟩
        rw [few, HQ.out, Bool.false_and, Bool.and_false]
        rfl
end Go.Proofs.YtagegigffohcbaaGreatDoor

namespace Go.Proofs.YtagegigffohcbaaGreatDoor
open Go.RowKit

theorem bytesWorld_ext' (w : World) (E : TypeId) (s : ByteArray) : Ext w (Lib.bytesWorld w E s) :=
  ⟨rfl, rfl, rfl, by rw [Lib.bytesWorld_size]; omega, fun k hk => Lib.bytesWorld_at_old w E s k hk⟩
theorem bytesWorld_rb' (w : World) (E : TypeId) (s : ByteArray) : RB (Lib.bytesWorld w E s) (fun g t => g = w.heap.size ∧ t = E) (some ⟨w.heap.size, 0, none⟩) (bl s) := by
  intro _
  refine ⟨_, 0, _, _, _, rfl, Lib.bytesWorld_at_new w E s, ⟨rfl, rfl⟩, fun j b hj => ?_⟩
  unfold bl at hj
  have hjl : j < s.data.size := by have := (List.getElem?_eq_some_iff.1 hj).1; simpa using this
  rw [Array.getElem?_toList] at hj
  unfold Lib.bytesCells
  rw [Nat.zero_add, Array.getElem?_append_left (by simpa using hjl), Array.getElem?_map, hj]
  rfl
/-- '[]byte(s)' in a region in the text's order -/
theorem wpList_conv_str {P : Program} (w : World) {ops : Array Oper} {rest : List Oper} {o : Oper} {a : Act} {Q : Exit → Act → World → Prop} (hgd : o.guard = none) (src dst : TypeId) (x : Operand) (ho : o.op = .convert src dst x)
    (E : TypeId) (hs : P.underlying src = some .string) (hd : P.underlying dst = some (.slice E)) (he : P.underlying E = some (.int .u8)) (s : ByteArray) (hx : a.eval x = .string s) (hm : s.size ≤ maxLen)
    (h : ∀ g c w', RB w' (fun g' t => g' = g ∧ t = E) (some ⟨g, 0, none⟩) (bl s) → s.size ≤ c → c ≤ maxLen → w.heap.size ≤ g → g < w'.heap.size → Ext w w' → wpList P ops Q rest (a.put o.dst (.slice (some ⟨g, 0, none⟩) s.size c)) w') : wpList P ops Q (o :: rest) a w := by
  have hrun := Lib.run_convert_string_bytes (P := P) w src dst E s hs hd he
  refine wpList_plain hgd fun K hK => ?_
  unfold Oper.wp execOp
  simp only [ho, hx, Sem.run_bind, Sem.run_pure, Result.andThen_ok, hrun]
  exact hK _ _ (h _ _ _ (bytesWorld_rb' w E s) (grownCap_ge _ _ _ _) (grownCap_le_maxLen _ _ _ _ hm) (Nat.le_refl _) (by rw [Lib.bytesWorld_size]; omega) (bytesWorld_ext' w E s))
/-- 'string(b)' -/
theorem conv_back {w : World} {S : Nat → TypeId → Prop} {A : Option Addr} {l : List UInt8} (c n : Nat) (h : RB w S A l) (hn : l.length = n) :
    (convert 31 9 (.slice A n c)).run Tryz.prog w = .ok (.string ⟨l.toArray⟩) w := by
  subst hn
  rcases A with _ | a
  · have : l = [] := by
      rcases l with _ | ⟨x, l⟩
      · rfl
      · obtain ⟨_, _, _, _, _, h, _⟩ := h (by simp)
        cases h
    subst this
    exact run_convert_bytes_nil w 31 5 Tryz.underlying31 Tryz.underlying5 0 c 9 Tryz.underlying9
  · refine run_convert_bytes_back w 31 9 5 a c l Tryz.underlying31 Tryz.underlying5 Tryz.underlying9 fun j hj => ?_
    obtain ⟨g, off, hA, hc⟩ := h.cell hj
    injection hA with hA
    subst hA
    rw [(addr_add _ _).2 rfl]
    exact hc


theorem bl_append (a b : ByteArray) : bl (a ++ b) = bl a ++ bl b := by simp [bl]
theorem bl_ex (s : ByteArray) (i j : Nat) : bl (s.extract i j) = ((bl s).drop i).take (j - i) := by
  obtain ⟨l, rfl⟩ : ∃ l : List UInt8, s = ⟨l.toArray⟩ := ⟨bl s, bl_ext (bl_mk _).symm⟩
  rw [ByteArray.extract_mk, bl_mk, bl_mk]
theorem bl_cut {s : ByteArray} {k : Nat} (h : k < s.size) : bl (s.extract k (k + 1)) = [s[k]] := by
  have h' : k < (bl s).length := by rw [bl_len]; exact h
  rw [bl_ex, show k + 1 - k = 1 by omega, List.drop_eq_getElem_cons h', bl_get h]
  rfl
theorem cut_size {s : ByteArray} {k : Nat} (h : k < s.size) : (s.extract k (k + 1)).size = 1 := by
  rw [← bl_len, bl_cut h]
  rfl


theorem pln_at92 {l : List UInt8} {k : Nat} (h : k + 1 < l.length) (hc : l[k] = 92) : pln (l.drop k) = l[k + 1] :: pln (l.drop (k + 2)) := by
  rw [List.drop_eq_getElem_cons (by omega), hc, List.drop_eq_getElem_cons h, pln_b]
theorem pln_end92 {l : List UInt8} {k : Nat} (h : k + 1 = l.length) (hc : l[k] = 92) : pln (l.drop k) = [92] := by
  rw [List.drop_eq_getElem_cons (by omega), hc, List.drop_of_length_le (by omega), pln_b0]
theorem pln_at {l : List UInt8} {k : Nat} (h : k < l.length) (hc : l[k] ≠ 92) : pln (l.drop k) = l[k] :: pln (l.drop (k + 1)) := by
  rw [List.drop_eq_getElem_cons h, pln_pl hc]
end Go.Proofs.YtagegigffohcbaaGreatDoor

namespace Go.Proofs.YtagegigffohcbaaGreatDoor
open Go.RowKit

theorem info_str : (Tryz.prog.info? 9).map (fun i => (i.zero, i.size, i.bytes)) = some (some (.string ByteArray.empty), 1, 16) := by kernel_rfl
theorem info_parts' {P : Program} {e : TypeId} {z : Value} {s b : Nat} (h : (P.info? e).map (fun i => (i.zero, i.size, i.bytes)) = some (some z, s, b)) : ∃ i, P.info? e = some i ∧ i.zero = some z ∧ i.size = s ∧ i.bytes = b := by
  cases hi : P.info? e with
  | none => rw [hi] at h; cases h
  | some i =>
    rw [hi] at h
    simp only [Option.map_some, Option.some.injEq, Prod.mk.injEq] at h
    exact ⟨i, rfl, h.1, h.2.1, h.2.2⟩
theorem strs_one (ss : List ByteArray) : ∀ u ∈ ss.map Value.string, u.oneCell' = true := by
  intro u hu
  obtain ⟨b, _, rfl⟩ := List.mem_map.1 hu
  rfl
section
variable {w w' : World} {E : TypeId} {base c g : Nat} {ss : List ByteArray}
/-- strings of the call's own in a row that has so many cells -/
def OwnS (w : World) (E : TypeId) (base : Nat) (A : Option Addr) (c : Nat) (ss : List ByteArray) : Prop := w.ownsRow base E 1 (.slice A ss.length c) ss.length (ss.map Value.string)
theorem OwnS.v {A : Option Addr} (h : OwnS w E base A c ss) : OwnV w E base A c (ss.map Value.string) := by
  unfold OwnV
  rw [List.length_map]
  exact h
theorem OwnV.s {A : Option Addr} (h : OwnV w E base A c (ss.map Value.string)) : OwnS w E base A c ss := by
  unfold OwnV at h
  rw [List.length_map] at h
  exact h
theorem OwnS.nil (w : World) (E : TypeId) (base : Nat) : OwnS w E base none 0 [] := World.ownsRow_nil _ _ _ _
theorem OwnS.sr {A : Option Addr} (h : OwnS w E base A c ss) : SR w (fun g t => base ≤ g ∧ t = E ∧ (Value.slice A ss.length c).ownBlock = some g) A ss := OwnV.sr h.v
theorem OwnS.ext {A : Option Addr} (h : OwnS w E base A c ss) (hb : Ext w w') : OwnS w' E base A c ss := (h.v.ext hb).s
theorem OwnS.ge {A : Option Addr} (h : OwnS w E base A c ss) : ∀ g, (Value.slice A ss.length c).ownBlock = some g → base ≤ g := by
  have := h.v.ge
  rw [List.length_map] at this
  exact this
theorem OwnS.le {A : Option Addr} (h : OwnS w E base A c ss) : ss.length ≤ c ∧ c ≤ maxLen := by
  rcases h.v.block with ⟨_, rfl, h0⟩ | ⟨_, _, _, _, _, h1, h2, _⟩
  · have := congrArg List.length h0
    simp at this
    simp [this]
  · rw [List.length_map] at h1
    exact ⟨h1, h2⟩
theorem OwnS.cellAt (h : OwnS w E base (some ⟨g, 0, none⟩) c ss) {j : Nat} (hj : j < ss.length) : w.cell? ⟨g, j, none⟩ = some (.string ss[j]) := by
  have := World.ownsRow.cellAt h j (by omega)
  rw [this, List.getElem?_map, List.getElem?_eq_getElem hj]
  rfl
theorem OwnS.freeAt (h : OwnS w E base (some ⟨g, 0, none⟩) c ss) (j : Nat) : w.frozen? ⟨g, j, none⟩ = false := World.ownsRow.frozenAt h j
theorem OwnS.set_ (h : OwnS w E base (some ⟨g, 0, none⟩) c ss) (j : Nat) (s : ByteArray) : OwnS (w.setCell ⟨g, j, none⟩ (.string s)) E base (some ⟨g, 0, none⟩) c (ss.set j s) := by
  have := (World.ownsRow.stored h j (.string s)).1
  unfold OwnS
  rw [List.length_set, List.map_set]
  exact this
theorem OwnS.at_ (h : OwnS w E base (some ⟨g, 0, none⟩) c ss) : base ≤ g ∧ g < w.heap.size := by
  rcases h.v.block with ⟨hA, _⟩ | ⟨g', cs, hA, hb, hh, _⟩
  · cases hA
  · injection hA with hA
    injection hA with hA
    subst hA
    exact ⟨hb, lt_of_some hh⟩
theorem made_strs (n : Nat) : (madeCells (Value.string ByteArray.empty).cells (n * 1)).toList = (List.replicate n ByteArray.empty).map Value.string := by
  rw [show (Value.string ByteArray.empty).cells = #[.string ByteArray.empty] from rfl, toList_madeCells_one, Nat.mul_one, List.map_replicate]
end

theorem jn_len8 {ps : List (List UInt8)} (h1 : ps.length ≤ 8) (h2 : ∀ p ∈ ps, wd p = true) : (jn ps).length ≤ 1608 := by
  cases ps with
  | nil => simp [jn]
  | cons p ps =>
    have k1 := tls_len ps (fun q hq => h2 q (by simp [hq]))
    have k2 := esc_len p
    have k3 := (wd_len (h2 p (by simp))).2
    rw [jn, List.length_append]
    rw [List.length_cons] at h1
    omega


theorem jn_take (ps : List (List UInt8)) {k : Nat} (h1 : 1 ≤ k) (hk : k < ps.length) : jn (ps.take (k + 1)) = jn (ps.take k) ++ 47 :: esc ps[k] := by
  rw [List.take_succ_eq_append_getElem hk, jn_snoc]
  intro e
  have h0 : (ps.take k).length = 0 := by rw [e]; rfl
  rw [List.length_take] at h0
  omega
theorem jn_one (ps : List (List UInt8)) (h : 0 < ps.length) : jn (ps.take 1) = esc ps[0] := by
  cases ps with
  | nil => simp at h
  | cons p ps => simp [jn, tls]


/-! ## names compared -/
theorem beq_str_t {s t : ByteArray} (h : s = t) : (s.toList == t.toList) = true := by rw [h]; simp
theorem beq_str_f {s t : ByteArray} (h : s ≠ t) : (s.toList == t.toList) = false := by
  rw [bl_toList, bl_toList]
  simp only [beq_eq_false_iff_ne, ne_eq]
  exact fun e => h (bl_ext e)
theorem SR.getD {w : World} {S : Nat → TypeId → Prop} {g off : Nat} {ss : List ByteArray} (h : SR w S (some ⟨g, off, none⟩) ss) : ∀ j, j < ss.length → w.cell? ⟨g, off + j, none⟩ = some (.string (ss.getD j ByteArray.empty)) := by
  intro j hj
  obtain ⟨g', off', hA, hc⟩ := h.cell hj
  injection hA with hA
  injection hA with h1 h2
  subst h1 h2
  rw [hc, List.getD_eq_getElem?_getD, List.getElem?_eq_getElem hj]
  rfl

set_option maxRecDepth 100000 in
set_option maxHeartbeats 1000000 in
theorem sequal_c (A B : Option Addr) (c d : Nat) (ss tt : List ByteArray) (S T : Nat → TypeId → Prop) (w : World) (ha : SR w S A ss) (hb : SR w T B tt) (hn : ss.length ≤ 9223372036854775807) (hm : tt.length ≤ 9223372036854775807) :
    Calls Tryz.prog 63 #[.slice A ss.length c, .slice B tt.length d] w fun e w' => e = .returned (.bool (decide (ss = tt))) ∧ Ext w w' := by
  by_cases hl : ss.length = tt.length
  · by_cases h0 : ss.length = 0
    · have e1 : ss = [] := List.eq_nil_of_length_eq_zero h0
      have e2 : tt = [] := List.eq_nil_of_length_eq_zero (by omega)
      subst e1 e2
      exact (Tryz.slices_Equal_string_empty A B c 0 d w (by omega)).mono fun e w' ⟨he, hw⟩ => ⟨by rw [he]; rfl, by rw [hw]; exact Ext.refl _⟩
    · obtain ⟨g1, o1, _, _, _, rfl, _⟩ := ha (by omega)
      obtain ⟨g2, o2, _, _, _, rfl, _⟩ := hb (by omega)
      refine (Tryz.slices_Equal_string g1 o1 ss.length c g2 o2 tt.length d ss tt w (Nat.le_refl _) (Nat.le_refl _) hn hm ha.getD hb.getD).mono ?_
      rintro e w' ⟨rfl, q, rfl⟩
      rw [List.take_length, List.take_length]
      exact ⟨rfl, Ext.drewN _ _⟩
  · have hb0 := bne_t (a := (ss.length : Int)) (b := (tt.length : Int)) (by omega)
    have hf : decide (ss = tt) = false := decide_eq_false (fun h => hl (by rw [h]))
    rw [hf]
    clear hl hf
    go_enter Tryz.func63, Tryz.ntmps63
    go_wp2_with fail
    go_ret
    exact ⟨rfl, Ext.refl _⟩

/-- two names are the same -/
def sm (s : ByteArray) (ss : List ByteArray) (t : ByteArray) (tt : List ByteArray) : Bool := decide (s = t) && decide (ss = tt)
set_option maxRecDepth 100000 in
set_option maxHeartbeats 1000000 in
theorem nsame_c (s t : ByteArray) (A B : Option Addr) (c d : Nat) (ss tt : List ByteArray) (S T : Nat → TypeId → Prop) (w : World) (ha : SR w S A ss) (hb : SR w T B tt) (hn : ss.length ≤ 9223372036854775807) (hm : tt.length ≤ 9223372036854775807) :
    Calls Tryz.prog 41 #[.agg #[.string s, .slice A ss.length c], .agg #[.string t, .slice B tt.length d]] w fun e w' => e = .returned (.bool (sm s ss t tt)) ∧ Ext w w' := by
  have HA := Lib.hid ha
  have HB := Lib.hid hb
  clear ha hb
  by_cases h1 : s = t
  · have t1 := beq_str_t h1
    have e : sm s ss t tt = decide (ss = tt) := by rw [sm, decide_eq_true h1, Bool.true_and]
    rw [e]
    clear e h1
    go_enter Tryz.func41, Tryz.ntmps41
    go_wp2_with fail
    refine (sequal_c A B c d ss tt S T _ (HA.out.ext ((Ext.alloc _ _).tr (Ext.alloc _ _))) (HB.out.ext ((Ext.alloc _ _).tr (Ext.alloc _ _))) hn hm).mono ?_
    rintro e w1 ⟨rfl, hx⟩
    have HX := Lib.hid (((Ext.alloc _ _).tr (Ext.alloc _ _)).tr hx)
    clear hx
    go_wp2_with fail
    go_ret
    exact ⟨rfl, HX.out⟩
  · have t1 := beq_str_f h1
    have e : sm s ss t tt = false := by rw [sm, decide_eq_false h1, Bool.false_and]
    rw [e]
    clear e h1
    go_enter Tryz.func41, Tryz.ntmps41
    go_wp2_with fail
    go_ret
    exact ⟨rfl, (Ext.alloc _ _).tr (Ext.alloc _ _)⟩
end Go.Proofs.YtagegigffohcbaaGreatDoor

namespace Go.Proofs.YtagegigffohcbaaGreatDoor
open Go.RowKit

theorem strs_take {ss tt : List ByteArray} {k : Nat} (h : ss.take k = tt.take k) (hl : k < ss.length) (hm : k < tt.length) : (ss.take (k + 1) = tt.take (k + 1)) ↔ ss[k] = tt[k] := take_succ_eq h hl hm
set_option maxRecDepth 100000 in
set_option maxHeartbeats 1000000 in
theorem rnsame_c (s t : ByteArray) (A B : Option Addr) (c d : Nat) (ss tt : List ByteArray) (S T : Nat → TypeId → Prop) (w : World) (ha : SR w S A ss) (hb : SR w T B tt) (hn : ss.length ≤ 9223372036854775807) (hm : tt.length ≤ 9223372036854775807) :
    Calls Tryz.prog 30 #[.agg #[.string s, .slice A ss.length c], .agg #[.string t, .slice B tt.length d]] w fun e w' => e = .returned (.bool (sm s ss t tt)) ∧ Ext w w' := by
  obtain ⟨wo, hwo⟩ : ∃ wo : World, wo = (w.alloc (.cells #[.string s, .slice A ss.length c] 26)).alloc (.cells #[.string t, .slice B tt.length d] 26) := ⟨_, rfl⟩
  have hx0 : Ext w wo := by rw [hwo]; exact (Ext.alloc _ _).tr (Ext.alloc _ _)
  have hd1 : wo.heap[w.heap.size]? = some (.cells #[.string s, .slice A ss.length c] 26 (0, 0)) := by rw [hwo]; exact (two_new _ _ _).1
  have hd2 : wo.heap[w.heap.size + 1]? = some (.cells #[.string t, .slice B tt.length d] 26 (0, 0)) := by rw [hwo]; exact (two_new _ _ _).2
  have HA := Lib.hid (ha.ext hx0)
  have HB := Lib.hid (hb.ext hx0)
  have HX0 := Lib.hid hx0
  have HW := Lib.hid hwo
  have k1 : wo.cell? ⟨w.heap.size, 1, none⟩ = some (.slice A ss.length c) := cells_of hd1 1
  have k2 : wo.cell? ⟨w.heap.size + 1, 1, none⟩ = some (.slice B tt.length d) := cells_of hd2 1
  clear ha hb hx0
  by_cases h1 : s = t
  · have t1 := beq_str_t h1
    by_cases hl : ss.length = tt.length
    · have e : sm s ss t tt = decide (ss = tt) := by rw [sm, decide_eq_true h1, Bool.true_and]
      rw [e]
      have hb0 := bne_f (a := (ss.length : Int)) (b := (tt.length : Int)) (by omega)
      have hl1 : ss.length ≤ tt.length := by omega
      have hl2 : tt.length ≤ ss.length := by omega
      have K1 := Lib.hid k1
      have K2 := Lib.hid k2
      clear e h1 hl hwo hd1 hd2 k1 k2
      go_enter Tryz.func30, Tryz.ntmps30
      go_wp2_with fail
      rw [← HW.out]
      go_loopw [5] (fun i wr => ∃ (k n : Nat), k ≤ ss.length ∧ i = .int .i64 k ∧ ss.take k = tt.take k ∧ wr = wo.drewN n) (fun i _ => ss.length - (intOf i).toNat)
      case atStart => exact ⟨0, 0, Nat.zero_le _, rfl, by simp, rfl⟩
      case round =>
        obtain ⟨k, n, hk, rfl, htk, rfl⟩ := hrel
        have HTK := Lib.hid htk
        have c1 := K1.out
        have c2 := K2.out
        clear htk
        by_cases hlt : k < ss.length
        · have hlt' : k < tt.length := by omega
          obtain ⟨g1, o1, rfl, hc1⟩ := HA.out.cell hlt
          obtain ⟨g2, o2, rfl, hc2⟩ := HB.out.cell hlt'
          have HS := Lib.hid (strs_take HTK.out hlt hlt')
          by_cases he : ss[k] = tt[k]
          · have t2 := beq_str_t he
            have HE := Lib.hid he
            clear he
            go_wp2_with fail
            go_quiet (fail)
            go_wp2_with fail
            go_roundw
            case rel => exact ⟨k + 1, _, by omega, by go_num, HS.out.2 HE.out, rfl⟩
            case measure => simp [intOf]; omega
          · have t2 := beq_str_f he
            have HE := Lib.hid he
            clear he
            go_wp2_with fail
            go_quiet (fail)
            go_wp2_with fail
            go_ret
            exact ⟨by rw [decide_eq_false (fun h => HE.out (by subst h; rfl))]; rfl, HX0.out.tr ((Ext.drewN _ _).tr (Ext.drewN _ _))⟩
        · have hall : ss = tt := by
            have := HTK.out
            rw [List.take_of_length_le (by omega), List.take_of_length_le (by omega)] at this
            exact this
          have HL := Lib.hid hall
          clear hall
          go_wp2_with fail
          go_ret
          exact ⟨by rw [decide_eq_true HL.out]; rfl, HX0.out.tr (Ext.drewN _ _)⟩
    · have e : sm s ss t tt = false := by rw [sm, decide_eq_false (p := ss = tt) (fun h => hl (by rw [h])), Bool.and_false]
      rw [e]
      have hb0 := bne_t (a := (ss.length : Int)) (b := (tt.length : Int)) (by omega)
      clear e h1 hl hwo hd1 hd2 k1 k2
      go_enter Tryz.func30, Tryz.ntmps30
      go_wp2_with fail
      go_ret
      exact ⟨rfl, (Ext.alloc _ _).tr (Ext.alloc _ _)⟩
  · have t1 := beq_str_f h1
    have e : sm s ss t tt = false := by rw [sm, decide_eq_false h1, Bool.false_and]
    rw [e]
    clear e h1 hwo hd1 hd2 k1 k2
    go_enter Tryz.func30, Tryz.ntmps30
    go_wp2_with fail
    go_ret
    exact ⟨rfl, (Ext.alloc _ _).tr (Ext.alloc _ _)⟩

/-! ## the first word -/
theorem nx_drop_sg {l : List UInt8} {k : Nat} (h : k < l.length) (hc : l[k] = 47 ∨ l[k] = 64) : nxw (l.drop k) = some ([], l[k], l.drop (k + 1)) := by
  rw [List.drop_eq_getElem_cons h, nx_sg hc]
theorem nx_drop_b0 {l : List UInt8} {k : Nat} (h : k + 1 = l.length) (hc : l[k] = 92) : nxw (l.drop k) = none := by
  rw [List.drop_eq_getElem_cons (by omega), hc, List.drop_of_length_le (by omega), nx_b0]
theorem nx_drop_b {l : List UInt8} {k : Nat} (h : k + 1 < l.length) (hc : l[k] = 92) : nxw (l.drop k) = if mk l[k + 1] then (nxw (l.drop (k + 2))).map fun x => (l[k + 1] :: x.1, x.2.1, x.2.2) else none := by
  rw [List.drop_eq_getElem_cons (by omega), hc, List.drop_eq_getElem_cons h, nx_b]
theorem nx_drop_pl {l : List UInt8} {k : Nat} (h : k < l.length) (h1 : l[k] ≠ 47) (h2 : l[k] ≠ 64) (h3 : l[k] ≠ 92) : nxw (l.drop k) = (nxw (l.drop (k + 1))).map fun x => (l[k] :: x.1, x.2.1, x.2.2) := by
  rw [List.drop_eq_getElem_cons h, nx_pl h1 h2 h3]
/-- what 'next' returns -/
def nxr (l : List UInt8) : List UInt8 × UInt8 × List UInt8 := (nxw l).getD ([], 0, [])
/-- bytes ahead of the word -/
def nxaw (acc : List UInt8) (o : Option (List UInt8 × UInt8 × List UInt8)) : Option (List UInt8 × UInt8 × List UInt8) := o.map fun x => (acc ++ x.1, x.2.1, x.2.2)
theorem nxa_map (acc : List UInt8) (b : UInt8) (o : Option (List UInt8 × UInt8 × List UInt8)) : nxaw acc (o.map fun x => (b :: x.1, x.2.1, x.2.2)) = nxaw (acc ++ [b]) o := by
  unfold nxaw
  rw [Option.map_map]
  congr 1
  funext x
  simp
theorem nxa_nil (o : Option (List UInt8 × UInt8 × List UInt8)) : nxaw [] o = o := by
  unfold nxaw
  cases o with
  | none => rfl
  | some x => simp
theorem drop_all {s : ByteArray} {k : Nat} : bl (s.extract k s.size) = (bl s).drop k := by
  rw [bl_ex, List.take_of_length_le (by rw [List.length_drop, bl_len]; omega)]

end Go.Proofs.YtagegigffohcbaaGreatDoor
