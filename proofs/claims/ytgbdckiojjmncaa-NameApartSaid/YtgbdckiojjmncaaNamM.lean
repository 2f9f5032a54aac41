/-
  Names of clients in plain lists of bytes: words, marks, texts, parsing (the package's and the reference's).
-/
import Derived.Test.YtgbdckiojjmncaaKit
namespace Go.Proofs.Ytgbdckiojjmncaa

/-- a mark: a slash, an at sign, a backslash -/
def mk (c : UInt8) : Bool := decide (c = 47) || decide (c = 64) || decide (c = 92)
/-- a byte of a word -/
def wb (c : UInt8) : Bool := decide (33 ≤ c.toNat) && decide (c.toNat ≤ 126)
/-- a word -/
def wd (l : List UInt8) : Bool := decide (1 ≤ l.length) && decide (l.length ≤ 100) && l.all wb
/-- a name -/
def vl (r : List UInt8) (ps : List (List UInt8)) : Bool := decide (1 ≤ ps.length) && decide (ps.length ≤ 8) && ps.all wd && wd r
/-- a word with its backslashes, one byte -/
def es (c : UInt8) : List UInt8 := if mk c then [92, c] else [c]
/-- a word with its backslashes -/
def esc (l : List UInt8) : List UInt8 := l.flatMap es
/-- the further parts, a slash ahead of each -/
def tls (ps : List (List UInt8)) : List UInt8 := ps.flatMap fun p => 47 :: esc p
/-- the parts with slashes -/
def jn : List (List UInt8) → List UInt8
  | [] => []
  | p :: ps => esc p ++ tls ps
/-- the text of what may be no name -/
def tx0 (r : List UInt8) (ps : List (List UInt8)) : List UInt8 := jn ps ++ 64 :: esc r
/-- the text of a name -/
def txt (r : List UInt8) (ps : List (List UInt8)) : List UInt8 := if vl r ps then tx0 r ps else []

theorem esc_nil : esc [] = [] := rfl
theorem esc_cons (c : UInt8) (l : List UInt8) : esc (c :: l) = es c ++ esc l := rfl
theorem esc_snoc (l : List UInt8) (c : UInt8) : esc (l ++ [c]) = esc l ++ es c := by simp [esc, List.flatMap_append]
theorem es_mark {c : UInt8} (h : mk c = true) : es c = [92, c] := by rw [es, if_pos h]
theorem es_plain {c : UInt8} (h : mk c = false) : es c = [c] := by rw [es, if_neg (by rw [h]; decide)]
theorem mk_47 : mk 47 = true := rfl
theorem mk_64 : mk 64 = true := rfl
theorem mk_92 : mk 92 = true := rfl
theorem not_mk {c : UInt8} (h : mk c = false) : c ≠ 47 ∧ c ≠ 64 ∧ c ≠ 92 := by
  simp [mk] at h
  exact ⟨h.1.1, h.1.2, h.2⟩
theorem mk_not {c : UInt8} (h1 : c ≠ 47) (h2 : c ≠ 64) (h3 : c ≠ 92) : mk c = false := by simp [mk, h1, h2, h3]
theorem esc_len (l : List UInt8) : (esc l).length ≤ 2 * l.length := by
  induction l with
  | nil => simp [esc]
  | cons c l ih =>
    rw [esc_cons, List.length_append, List.length_cons]
    have : (es c).length ≤ 2 := by unfold es; split <;> simp
    omega
theorem esc_take (l : List UInt8) {k : Nat} (h : k < l.length) : esc (l.take (k + 1)) = esc (l.take k) ++ es l[k] := by rw [List.take_succ_eq_append_getElem h, esc_snoc]
theorem tls_cons (p : List UInt8) (ps : List (List UInt8)) : tls (p :: ps) = (47 :: esc p) ++ tls ps := rfl
theorem tls_snoc (ps : List (List UInt8)) (p : List UInt8) : tls (ps ++ [p]) = tls ps ++ 47 :: esc p := by simp [tls, List.flatMap_append]
theorem jn_snoc {ps : List (List UInt8)} (h : ps ≠ []) (p : List UInt8) : jn (ps ++ [p]) = jn ps ++ 47 :: esc p := by
  cases ps with
  | nil => exact absurd rfl h
  | cons q qs =>
    show esc q ++ tls (qs ++ [p]) = _
    rw [tls_snoc, jn, List.append_assoc]
theorem wd_len {l : List UInt8} (h : wd l = true) : 1 ≤ l.length ∧ l.length ≤ 100 := by
  simp [wd] at h
  exact ⟨by have := h.1.1; cases l <;> simp at this ⊢, h.1.2⟩
theorem vl_parts {r : List UInt8} {ps : List (List UInt8)} (h : vl r ps = true) : 1 ≤ ps.length ∧ ps.length ≤ 8 ∧ (∀ p ∈ ps, wd p = true) ∧ wd r = true := by
  simp only [vl, Bool.and_eq_true, decide_eq_true_eq, List.all_eq_true] at h
  exact ⟨h.1.1.1, h.1.1.2, h.1.2, h.2⟩
theorem tls_len (ps : List (List UInt8)) (h : ∀ p ∈ ps, wd p = true) : (tls ps).length ≤ 201 * ps.length := by
  induction ps with
  | nil => simp [tls]
  | cons p ps ih =>
    rw [tls_cons, List.length_append, List.length_cons, List.length_cons]
    have h1 := ih (fun q hq => h q (by simp [hq]))
    have h2 := esc_len p
    have h3 := (wd_len (h p (by simp))).2
    omega
theorem tx0_len {r : List UInt8} {ps : List (List UInt8)} (h : vl r ps = true) : (tx0 r ps).length ≤ 1808 := by
  obtain ⟨h1, h2, h3, h4⟩ := vl_parts h
  cases ps with
  | nil => simp at h1
  | cons p ps =>
    unfold tx0 jn
    rw [List.length_append, List.length_append, List.length_cons]
    have k1 := tls_len ps (fun q hq => h3 q (by simp [hq]))
    have k2 := esc_len p
    have k3 := (wd_len (h3 p (by simp))).2
    have k4 := esc_len r
    have k5 := (wd_len h4).2
    rw [List.length_cons] at h2
    omega

/-! ## the package's reading of a text -/
/-- the first word, the sign that ends it (0: the end), what follows; none, if a backslash stands in front of another byte than a mark -/
def nx : List UInt8 → Option (List UInt8 × UInt8 × List UInt8)
  | [] => some ([], 0, [])
  | c :: l =>
    if c = 47 ∨ c = 64 then some ([], c, l)
    else if c = 92 then
      match l with
      | [] => none
      | d :: l' => if mk d then (nx l').map fun x => (d :: x.1, x.2.1, x.2.2) else none
    else (nx l).map fun x => (c :: x.1, x.2.1, x.2.2)
/-- the parts up to the at sign, and what follows it -/
def pp : Nat → List UInt8 → Option (List (List UInt8) × List UInt8)
  | 0, _ => none
  | f + 1, l =>
    match nx l with
    | none => none
    | some (w, m, rest) => if m = 47 then (pp f rest).map fun x => (w :: x.1, x.2) else if m = 64 then some ([w], rest) else none
/-- the name with a text -/
def prs (l : List UInt8) : Option (List UInt8 × List (List UInt8)) :=
  match pp (l.length + 1) l with
  | none => none
  | some (ps, rest) =>
    match nx rest with
    | none => none
    | some (r, m, _) => if m = 0 ∧ vl r ps = true then some (r, ps) else none

theorem nx_nil : nx [] = some ([], 0, []) := by rw [nx.eq_def]
theorem nx_sg {c : UInt8} (h : c = 47 ∨ c = 64) (l : List UInt8) : nx (c :: l) = some ([], c, l) := by
  rw [nx.eq_def]
  simp only
  rw [if_pos h]
theorem nx_b0 : nx [92] = none := by
  rw [nx.eq_def]
  simp
theorem nx_b (d : UInt8) (l : List UInt8) : nx (92 :: d :: l) = if mk d then (nx l).map fun x => (d :: x.1, x.2.1, x.2.2) else none := by
  rw [nx.eq_def]
  simp
theorem nx_pl {c : UInt8} (h1 : c ≠ 47) (h2 : c ≠ 64) (h3 : c ≠ 92) (l : List UInt8) : nx (c :: l) = (nx l).map fun x => (c :: x.1, x.2.1, x.2.2) := by
  rw [nx.eq_def]
  simp only
  rw [if_neg (by simp [h1, h2]), if_neg h3]

/-- what 'nx' finds is there -/
theorem nx_sound : ∀ (n : Nat) (l : List UInt8), l.length ≤ n → ∀ w m rest, nx l = some (w, m, rest) → (m = 0 ∧ rest = [] ∧ l = esc w) ∨ ((m = 47 ∨ m = 64) ∧ l = esc w ++ m :: rest) := by
  intro n
  induction n with
  | zero =>
    intro l hl w m rest h
    obtain rfl := List.eq_nil_of_length_eq_zero (Nat.le_zero.1 hl)
    rw [nx_nil] at h
    simp only [Option.some.injEq, Prod.mk.injEq] at h
    obtain ⟨rfl, rfl, rfl⟩ := h
    exact .inl ⟨rfl, rfl, rfl⟩
  | succ n ih =>
    intro l hl w m rest h
    match l, hl, h with
    | [], _, h =>
      rw [nx_nil] at h
      simp only [Option.some.injEq, Prod.mk.injEq] at h
      obtain ⟨rfl, rfl, rfl⟩ := h
      exact .inl ⟨rfl, rfl, rfl⟩
    | c :: l, hl, h =>
      rw [List.length_cons] at hl
      by_cases hc : c = 47 ∨ c = 64
      · rw [nx_sg hc] at h
        simp only [Option.some.injEq, Prod.mk.injEq] at h
        obtain ⟨rfl, rfl, rfl⟩ := h
        exact .inr ⟨hc, by simp [esc]⟩
      · simp only [not_or] at hc
        by_cases hb : c = 92
        · subst hb
          match l, hl, h with
          | [], _, h => rw [nx_b0] at h; cases h
          | d :: l', hl, h =>
            rw [nx_b] at h
            by_cases hd : mk d = true
            · rw [if_pos hd] at h
              obtain ⟨⟨w', m', r'⟩, h1, h2⟩ := Option.map_eq_some_iff.1 h
              simp only [Prod.mk.injEq] at h2
              obtain ⟨rfl, rfl, rfl⟩ := h2
              rw [List.length_cons] at hl
              rcases ih l' (by omega) w' m' r' h1 with ⟨e1, e2, e3⟩ | ⟨e1, e2⟩
              · exact .inl ⟨e1, e2, by rw [esc_cons, es_mark hd, ← e3]; rfl⟩
              · refine .inr ⟨e1, ?_⟩
                rw [esc_cons, es_mark hd, e2]
                rfl
            · rw [if_neg hd] at h
              cases h
        · rw [nx_pl hc.1 hc.2 hb] at h
          obtain ⟨⟨w', m', r'⟩, h1, h2⟩ := Option.map_eq_some_iff.1 h
          simp only [Prod.mk.injEq] at h2
          obtain ⟨rfl, rfl, rfl⟩ := h2
          have hm := mk_not hc.1 hc.2 hb
          rcases ih l (by omega) w' m' r' h1 with ⟨e1, e2, e3⟩ | ⟨e1, e2⟩
          · exact .inl ⟨e1, e2, by rw [esc_cons, es_plain hm, ← e3]; rfl⟩
          · refine .inr ⟨e1, ?_⟩
            rw [esc_cons, es_plain hm, e2]
            rfl
theorem nx_esc (w : List UInt8) (t : List UInt8) : nx (esc w ++ t) = (nx t).map fun x => (w ++ x.1, x.2.1, x.2.2) := by
  induction w with
  | nil =>
    simp only [esc_nil, List.nil_append]
    cases nx t <;> rfl
  | cons c w ih =>
    rw [esc_cons]
    cases hm : mk c with
    | true =>
      rw [es_mark hm]
      show nx (92 :: c :: (esc w ++ t)) = _
      rw [nx_b, if_pos hm, ih, Option.map_map]
      rfl
    | false =>
      obtain ⟨h1, h2, h3⟩ := not_mk hm
      rw [es_plain hm]
      show nx (c :: (esc w ++ t)) = _
      rw [nx_pl h1 h2 h3, ih, Option.map_map]
      rfl
theorem nx_end (w : List UInt8) : nx (esc w) = some (w, 0, []) := by
  have := nx_esc w []
  rw [List.append_nil] at this
  rw [this, nx_nil]
  simp
theorem nx_sign (w : List UInt8) (m : UInt8) (rest : List UInt8) (h : m = 47 ∨ m = 64) : nx (esc w ++ m :: rest) = some (w, m, rest) := by
  rw [nx_esc, nx_sg h]
  simp

theorem pp_sound : ∀ (f : Nat) (l : List UInt8) ps rest, pp f l = some (ps, rest) → ps ≠ [] ∧ l = jn ps ++ 64 :: rest := by
  intro f
  induction f with
  | zero => intro l ps rest h; cases h
  | succ f ih =>
    intro l ps rest h
    rw [pp] at h
    cases hn : nx l with
    | none => rw [hn] at h; cases h
    | some x =>
      obtain ⟨w, m, t⟩ := x
      rw [hn] at h
      simp only at h
      have hs := nx_sound l.length l (Nat.le_refl _) w m t hn
      by_cases h47 : m = 47
      · rw [if_pos h47] at h
        obtain ⟨⟨qs, r'⟩, h1, h2⟩ := Option.map_eq_some_iff.1 h
        simp only [Prod.mk.injEq] at h2
        obtain ⟨rfl, rfl⟩ := h2
        obtain ⟨k1, k2⟩ := ih t qs r' h1
        refine ⟨by simp, ?_⟩
        rcases hs with ⟨e, _⟩ | ⟨_, e⟩
        · rw [h47] at e; exact absurd e (by decide)
        · rw [e, h47, k2]
          cases qs with
          | nil => exact absurd rfl k1
          | cons q qs =>
            show _ = (esc w ++ tls (q :: qs)) ++ _
            rw [tls_cons, jn]
            simp
      · rw [if_neg h47] at h
        by_cases h64 : m = 64
        · rw [if_pos h64] at h
          simp only [Option.some.injEq, Prod.mk.injEq] at h
          obtain ⟨rfl, rfl⟩ := h
          refine ⟨by simp, ?_⟩
          rcases hs with ⟨e, _⟩ | ⟨_, e⟩
          · rw [h64] at e; exact absurd e (by decide)
          · rw [e, h64]
            simp [jn, tls]
        · rw [if_neg h64] at h
          cases h
theorem pp_full : ∀ (ps : List (List UInt8)) (f : Nat) (rest : List UInt8), ps ≠ [] → ps.length ≤ f → pp f (jn ps ++ 64 :: rest) = some (ps, rest) := by
  intro ps
  induction ps with
  | nil => intro f rest h; exact absurd rfl h
  | cons p ps ih =>
    intro f rest _ hf
    rw [List.length_cons] at hf
    obtain ⟨f, rfl⟩ : ∃ g, f = g + 1 := ⟨f - 1, by omega⟩
    cases ps with
    | nil =>
      have e : jn [p] ++ 64 :: rest = esc p ++ 64 :: rest := by simp [jn, tls]
      rw [pp, e, nx_sign p 64 rest (.inr rfl)]
      rfl
    | cons q qs =>
      have e : jn (p :: q :: qs) ++ 64 :: rest = esc p ++ 47 :: (jn (q :: qs) ++ 64 :: rest) := by
        show (esc p ++ tls (q :: qs)) ++ _ = _
        rw [tls_cons, jn]
        simp
      rw [pp, e, nx_sign p 47 _ (.inl rfl)]
      simp only [if_true]
      rw [ih f rest (by simp) (by omega)]
      rfl
theorem jn_len (ps : List (List UInt8)) : ps.length ≤ (jn ps).length + 1 := by
  cases ps with
  | nil => simp
  | cons p ps =>
    unfold jn
    have : ∀ qs : List (List UInt8), qs.length ≤ (tls qs).length := by
      intro qs
      induction qs with
      | nil => simp
      | cons q qs ih => rw [tls_cons, List.length_append, List.length_cons, List.length_cons]; omega
    have := this ps
    rw [List.length_cons, List.length_append]
    omega
theorem prs_sound {l r : List UInt8} {ps : List (List UInt8)} (h : prs l = some (r, ps)) : vl r ps = true ∧ l = tx0 r ps := by
  unfold prs at h
  cases hp : pp (l.length + 1) l with
  | none => rw [hp] at h; cases h
  | some x =>
    obtain ⟨qs, rest⟩ := x
    rw [hp] at h
    simp only at h
    obtain ⟨h1, h2⟩ := pp_sound _ _ _ _ hp
    cases hn : nx rest with
    | none => rw [hn] at h; cases h
    | some y =>
      obtain ⟨r', m, t⟩ := y
      rw [hn] at h
      simp only at h
      by_cases hv : m = 0 ∧ vl r' qs = true
      · rw [if_pos hv] at h
        simp only [Option.some.injEq, Prod.mk.injEq] at h
        obtain ⟨rfl, rfl⟩ := h
        refine ⟨hv.2, ?_⟩
        rcases nx_sound rest.length rest (Nat.le_refl _) _ _ _ hn with ⟨_, _, e⟩ | ⟨e, _⟩
        · rw [h2, e, tx0]
        · rw [hv.1] at e
          rcases e with e | e <;> exact absurd e (by decide)
      · rw [if_neg hv] at h
        cases h
theorem prs_full {r : List UInt8} {ps : List (List UInt8)} (h : vl r ps = true) : prs (tx0 r ps) = some (r, ps) := by
  obtain ⟨h1, _⟩ := vl_parts h
  have hne : ps ≠ [] := by rintro rfl; simp at h1
  unfold prs
  rw [show pp ((tx0 r ps).length + 1) (tx0 r ps) = some (ps, esc r) from pp_full ps _ (esc r) hne (by have := jn_len ps; simp [tx0]; omega)]
  simp only
  rw [nx_end]
  simp [h]
theorem prs_long {l : List UInt8} (h : 1808 < l.length) : prs l = none := by
  cases hp : prs l with
  | none => rfl
  | some x =>
    obtain ⟨r, ps⟩ := x
    obtain ⟨h1, h2⟩ := prs_sound hp
    have := tx0_len h1
    rw [← h2] at this
    omega

/-! ## the reference's reading of a text -/
/-- bytes ahead of the first piece -/
def hd (x : List UInt8) : List (List UInt8) → List (List UInt8)
  | [] => [x]
  | p :: ps => (x ++ p) :: ps
/-- the pieces between signs that have no backslash in front of them -/
def spl (sign : UInt8) : List UInt8 → List (List UInt8)
  | [] => [[]]
  | c :: l =>
    if c = 92 then
      match l with
      | [] => [[92]]
      | d :: l' => hd [92, d] (spl sign l')
    else if c = sign then [] :: spl sign l
    else hd [c] (spl sign l)
/-- a word without its backslashes -/
def pln : List UInt8 → List UInt8
  | [] => []
  | c :: l =>
    if c = 92 then
      match l with
      | [] => [92]
      | d :: l' => d :: pln l'
    else c :: pln l
theorem spl_nil (sign : UInt8) : spl sign [] = [[]] := by rw [spl.eq_def]
theorem spl_b0 (sign : UInt8) : spl sign [92] = [[92]] := by
  rw [spl.eq_def]
  simp
theorem spl_b (sign d : UInt8) (l : List UInt8) : spl sign (92 :: d :: l) = hd [92, d] (spl sign l) := by
  rw [spl.eq_def]
  simp
theorem spl_sign (sign : UInt8) (hs : sign ≠ 92) (t : List UInt8) : spl sign (sign :: t) = [] :: spl sign t := by
  rw [spl.eq_def]
  simp only
  rw [if_neg hs]
  simp
theorem spl_other (sign c : UInt8) (h1 : c ≠ 92) (h2 : c ≠ sign) (t : List UInt8) : spl sign (c :: t) = hd [c] (spl sign t) := by
  rw [spl.eq_def]
  simp only
  rw [if_neg h1, if_neg h2]
theorem pln_nil : pln [] = [] := by rw [pln.eq_def]
theorem pln_b0 : pln [92] = [92] := by
  rw [pln.eq_def]
  simp
theorem pln_b (d : UInt8) (l : List UInt8) : pln (92 :: d :: l) = d :: pln l := by
  rw [pln.eq_def]
  simp
theorem pln_pl {c : UInt8} (h : c ≠ 92) (l : List UInt8) : pln (c :: l) = c :: pln l := by
  rw [pln.eq_def]
  simp only
  rw [if_neg h]
theorem hd_hd (x y : List UInt8) (ls : List (List UInt8)) : hd x (hd y ls) = hd (x ++ y) ls := by
  cases ls <;> simp [hd]
theorem hd_nil {ls : List (List UInt8)} (h : ls ≠ []) : hd [] ls = ls := by
  cases ls with
  | nil => exact absurd rfl h
  | cons p ps => rfl
theorem hd_ne (x : List UInt8) (ls : List (List UInt8)) : hd x ls ≠ [] := by cases ls <;> simp [hd]
theorem spl_ne (sign : UInt8) (l : List UInt8) : spl sign l ≠ [] := by
  match l with
  | [] => rw [spl_nil]; simp
  | c :: l =>
    by_cases hc : c = 92
    · subst hc
      cases l with
      | nil => rw [spl_b0]; simp
      | cons d l => rw [spl_b]; exact hd_ne _ _
    · by_cases hs : c = sign
      · subst hs
        rw [spl_sign c hc]
        simp
      · rw [spl_other sign c hc hs]
        exact hd_ne _ _
theorem spl_esc (sign : UInt8) (hs : sign = 47 ∨ sign = 64) (w t : List UInt8) : spl sign (esc w ++ t) = hd (esc w) (spl sign t) := by
  induction w with
  | nil => simp only [esc_nil, List.nil_append]; rw [hd_nil (spl_ne _ _)]
  | cons c w ih =>
    rw [esc_cons]
    cases hm : mk c with
    | true =>
      rw [es_mark hm]
      show spl sign (92 :: c :: (esc w ++ t)) = _
      rw [spl_b, ih, hd_hd]
    | false =>
      obtain ⟨h1, h2, h3⟩ := not_mk hm
      rw [es_plain hm]
      show spl sign (c :: (esc w ++ t)) = _
      rw [spl_other sign c h3 (by rcases hs with rfl | rfl; exact h1; exact h2), ih, hd_hd]
theorem spl_tls64 (ps : List (List UInt8)) (t : List UInt8) : spl 64 (tls ps ++ t) = hd (tls ps) (spl 64 t) := by
  induction ps with
  | nil => simp only [tls, List.flatMap_nil, List.nil_append]; rw [hd_nil (spl_ne _ _)]
  | cons p ps ih =>
    rw [tls_cons, List.append_assoc]
    show spl 64 (47 :: (esc p ++ (tls ps ++ t))) = _
    rw [spl_other 64 47 (by decide) (by decide), spl_esc 64 (.inr rfl), ih, hd_hd, hd_hd]
    simp
theorem spl_at (r : List UInt8) {ps : List (List UInt8)} (h : ps ≠ []) : spl 64 (tx0 r ps) = [jn ps, esc r] := by
  cases ps with
  | nil => exact absurd rfl h
  | cons p ps =>
    have e : tx0 r (p :: ps) = esc p ++ (tls ps ++ 64 :: (esc r ++ [])) := by simp [tx0, jn]
    rw [e, spl_esc 64 (.inr rfl), spl_tls64, spl_sign 64 (by decide), spl_esc 64 (.inr rfl)]
    rw [spl_nil]
    simp [hd, jn]
theorem spl_tls47 (ps : List (List UInt8)) : spl 47 (tls ps) = [] :: ps.map esc := by
  induction ps with
  | nil => exact spl_nil _
  | cons p ps ih =>
    rw [tls_cons]
    show spl 47 (47 :: (esc p ++ tls ps)) = _
    rw [spl_sign 47 (by decide), spl_esc 47 (.inl rfl), ih]
    simp [hd]
theorem spl_jn {ps : List (List UInt8)} (h : ps ≠ []) : spl 47 (jn ps) = ps.map esc := by
  cases ps with
  | nil => exact absurd rfl h
  | cons p ps =>
    rw [jn, spl_esc 47 (.inl rfl), spl_tls47]
    simp [hd]
theorem pln_esc (w : List UInt8) : pln (esc w) = w := by
  induction w with
  | nil => exact pln_nil
  | cons c w ih =>
    rw [esc_cons]
    cases hm : mk c with
    | true =>
      rw [es_mark hm]
      show pln (92 :: c :: esc w) = _
      rw [pln_b, ih]
    | false =>
      rw [es_plain hm]
      show pln (c :: esc w) = _
      rw [pln_pl (not_mk hm).2.2, ih]
/-- the reference's name with a text -/
def rprs (l : List UInt8) : Option (List UInt8 × List (List UInt8)) :=
  match spl 64 l with
  | [a, b] => if vl (pln b) ((spl 47 a).map pln) = true ∧ txt (pln b) ((spl 47 a).map pln) = l then some (pln b, (spl 47 a).map pln) else none
  | _ => none
theorem rprs_sound {l r : List UInt8} {ps : List (List UInt8)} (h : rprs l = some (r, ps)) : vl r ps = true ∧ l = tx0 r ps := by
  unfold rprs at h
  split at h
  · split at h
    · rename_i hv
      simp only [Option.some.injEq, Prod.mk.injEq] at h
      obtain ⟨rfl, rfl⟩ := h
      refine ⟨hv.1, ?_⟩
      have := hv.2
      rw [txt, if_pos hv.1] at this
      exact this.symm
    · cases h
  · cases h
theorem rprs_full {r : List UInt8} {ps : List (List UInt8)} (h : vl r ps = true) : rprs (tx0 r ps) = some (r, ps) := by
  obtain ⟨h1, _⟩ := vl_parts h
  have hne : ps ≠ [] := by rintro rfl; simp at h1
  unfold rprs
  rw [spl_at r hne]
  simp only
  have e : (spl 47 (jn ps)).map pln = ps := by
    rw [spl_jn hne, List.map_map]
    conv => rhs; rw [← List.map_id ps]
    exact List.map_congr_left fun p _ => pln_esc p
  rw [e, pln_esc, if_pos ⟨h, by rw [txt, if_pos h]⟩]
/-- both read the same -/
theorem prs_rprs (l : List UInt8) : prs l = rprs l := by
  cases h : prs l with
  | some x =>
    obtain ⟨r, ps⟩ := x
    obtain ⟨h1, h2⟩ := prs_sound h
    rw [h2, rprs_full h1]
  | none =>
    cases h' : rprs l with
    | none => rfl
    | some x =>
      obtain ⟨r, ps⟩ := x
      obtain ⟨h1, h2⟩ := rprs_sound h'
      rw [h2, prs_full h1] at h
      cases h
end Go.Proofs.Ytgbdckiojjmncaa
