/-
  A region that draws its order, walked in the order of its text: each operation yields one value in every world that meets S, and leaves a world that meets S; the operations at the end, which wait for all others, are walked as they stand.
-/
import Derived.Test.YtdmfajcbbolfiaaFree
import Derived.Test.YtdmfajcbbolfiaaArrQ
import Derived.StillTailTactics
namespace Go.Proofs.Ytdmfajcbbolfiaa
open Go.RowKit

def q4 (a b c d : Nat) : Nat → Nat := fun i => if i = 0 then a else if i = 1 then b else if i = 2 then c else d
/-- who writes a slot that operation i looks at is waited for, or waits -/
def looksOk (ops : Array Oper) (n : Nat) : Bool := (List.range n).all fun i => ((ops[i]?).map fun o => (o.looksAt ops).all fun d =>
  (List.range ops.size).all fun j => dstOf ops j != some d || (decide (j < i) && Region.waitsFor .any ops i j) || (decide (i < j) && Region.waitsFor .any ops j i)).getD true
/-- operation t waits for j, or for one that does, and so on -/
def waitsFar (ops : Array Oper) : Nat → Nat → Nat → Bool
  | 0, _, _ => false
  | f + 1, t, j => Region.waitsFor .any ops t j || (List.range t).any fun k => Region.waitsFor .any ops t k && waitsFar ops f k j
def tailOk (ops : Array Oper) (n : Nat) : Bool := (List.range ops.size).all fun t => decide (t < n) || if t = n then (List.range n).all fun j => waitsFar ops n t j else Region.waitsFor .any ops t (t - 1)
def marks (n m : Nat) : Array Bool := ((List.range (n + m)).map fun i => decide (i < n)).toArray
def ordOk (ops : Array Oper) (n m : Nat) : Bool := freeOk ops && looksOk ops n && tailOk ops n && Region.noSelect ops && Region.seqB .any ops m n (marks n m)

def tx (a : Act) : List Oper → List Value → Act
  | o :: os, v :: vs => tx (a.put o.dst v) os vs
  | _, _ => a
def noQ : Exit → Act → World → Prop := fun _ _ _ => False
def upd (L : Nat → Bool) (i : Nat) : Nat → Bool := fun j => if j = i then true else L j
theorem upd_ne {L : Nat → Bool} {i k : Nat} (h : i ≠ k) : upd L i k = L k := if_neg (fun e => h e.symm)
theorem upd_eq {L : Nat → Bool} {k : Nat} : upd L k k = true := if_pos rfl
def TxStep (P : Program) (ops : Array Oper) (S : (Nat → Bool) → World → Prop) (i : Nat) (a : Act) (o : Oper) (v : Value) : Prop :=
  ∀ L W, L i = false → S L W → if Region.wanted o (yielded ops a.tmps) = true then Oper.wp P o a W (fun a' W' => a' = a.put o.dst v ∧ S (upd L i) W') noQ else v = undef ∧ S (upd L i) W
/-- the walk; L tells which operations have come up -/
def wpTxt (P : Program) (ops : Array Oper) (S : (Nat → Bool) → World → Prop) (Qf : Act → Prop) : Nat → List Oper → Act → Prop
  | _, [], a => Qf a
  | i, o :: rest, a => ∃ v, TxStep P ops S i a o v ∧ wpTxt P ops S Qf (i + 1) rest (a.put o.dst v)
section
variable {P : Program} {ops : Array Oper} {S : (Nat → Bool) → World → Prop} {S0 : World → Prop} {Qf : Act → Prop} {k : Nat}
theorem wpTxt_stay {w : World} {a : Act} {o : Oper} {rest : List Oper} (v : Value)
    (h : ∀ (K : Act → World → Prop), K (a.put o.dst v) w → Oper.wp P o a w K noQ) (hw : Region.wanted o (yielded ops a.tmps) = true) (hr : wpTxt P ops (fun _ W => W = w) Qf (k + 1) rest (a.put o.dst v)) : wpTxt P ops (fun _ W => W = w) Qf k (o :: rest) a :=
  ⟨v, fun L W _ hS => by
    subst hS
    rw [if_pos hw]
    exact h _ ⟨rfl, rfl⟩, hr⟩
theorem wpTxt_nil {a : Act} (h : Qf a) : wpTxt P ops S Qf k [] a := h
theorem wpTxt_step {a : Act} {o : Oper} {rest : List Oper} (v : Value)
    (h : ∀ (W : World) (K : Act → World → Prop), S0 W → (∀ W', S0 W' → K (a.put o.dst v) W') → Oper.wp P o a W K noQ) (hw : Region.wanted o (yielded ops a.tmps) = true) (hr : wpTxt P ops (fun _ => S0) Qf (k + 1) rest (a.put o.dst v)) : wpTxt P ops (fun _ => S0) Qf k (o :: rest) a :=
  ⟨v, fun L W _ hS => by rw [if_pos hw]; exact h W _ hS (fun W' hS' => ⟨rfl, hS'⟩), hr⟩
theorem wpTxt_skip {a : Act} {o : Oper} {rest : List Oper} (hw : Region.wanted o (yielded ops a.tmps) = false) (hr : wpTxt P ops (fun _ => S0) Qf (k + 1) rest (a.put o.dst undef)) : wpTxt P ops (fun _ => S0) Qf k (o :: rest) a :=
  ⟨undef, fun L W _ hS => by rw [if_neg (by rw [hw]; decide)]; exact ⟨rfl, hS⟩, hr⟩
/-- one operation (number c) turns the world w0 into w1, whenever it comes up -/
def Alt (c : Nat) (w0 w1 : World) : (Nat → Bool) → World → Prop := fun L W => W = if L c = true then w1 else w0
theorem wpTxt_alt {c : Nat} {w0 w1 : World} {a : Act} {o : Oper} {rest : List Oper} (v : Value) (hkc : k ≠ c)
    (h : ∀ (W : World) (K : Act → World → Prop), (W = w0 ∨ W = w1) → K (a.put o.dst v) W → Oper.wp P o a W K noQ) (hw : Region.wanted o (yielded ops a.tmps) = true) (hr : wpTxt P ops (Alt c w0 w1) Qf (k + 1) rest (a.put o.dst v)) : wpTxt P ops (Alt c w0 w1) Qf k (o :: rest) a :=
  ⟨v, fun L W _ hS => by
    rw [if_pos hw]
    refine h W _ ?_ ⟨rfl, ?_⟩
    · rw [hS]
      split
      · exact .inr rfl
      · exact .inl rfl
    · unfold Alt
      rw [upd_ne hkc]
      exact hS, hr⟩
theorem wpTxt_turn {w0 w1 : World} {a : Act} {o : Oper} {rest : List Oper} (v : Value)
    (h : ∀ (K : Act → World → Prop), K (a.put o.dst v) w1 → Oper.wp P o a w0 K noQ) (hw : Region.wanted o (yielded ops a.tmps) = true) (hr : wpTxt P ops (Alt k w0 w1) Qf (k + 1) rest (a.put o.dst v)) : wpTxt P ops (Alt k w0 w1) Qf k (o :: rest) a :=
  ⟨v, fun L W hL hS => by
    rw [if_pos hw]
    unfold Alt at hS
    rw [hL, if_neg (by decide)] at hS
    subst hS
    refine h _ ⟨rfl, ?_⟩
    unfold Alt
    rw [upd_eq, if_pos rfl], hr⟩
theorem wpTxt_vals : ∀ (l : List Oper) (k : Nat) (a : Act), wpTxt P ops S Qf k l a → ∃ vs : List Value, vs.length = l.length ∧ (∀ i o, l[i]? = some o → TxStep P ops S (k + i) (tx a (l.take i) (vs.take i)) o (vs.getD i undef)) ∧ Qf (tx a l vs)
  | [], _, a, h => ⟨[], rfl, fun i o hi => by simp at hi, h⟩
  | o :: l, k, a, ⟨v, hv, h⟩ => by
    obtain ⟨vs, hl, hs, hq⟩ := wpTxt_vals l (k + 1) _ h
    refine ⟨v :: vs, by simp [hl], fun i o' hi => ?_, hq⟩
    cases i with
    | zero =>
      simp at hi
      subst hi
      exact hv
    | succ i =>
      have := hs i o' (by simpa using hi)
      rw [show k + 1 + i = k + (i + 1) by omega] at this
      exact this
theorem tx_size (a : Act) (l : List Oper) (vs : List Value) : (tx a l vs).tmps.size = a.tmps.size := by
  induction l generalizing a vs with
  | nil => simp [tx]
  | cons o l ih => cases vs with
    | nil => simp [tx]
    | cons v vs => rw [tx, ih, put_size]
theorem tx_defers (a : Act) (l : List Oper) (vs : List Value) : (tx a l vs).defers = a.defers := by
  induction l generalizing a vs with
  | nil => simp [tx]
  | cons o l ih => cases vs with
    | nil => simp [tx]
    | cons v vs => rw [tx, ih, put_defers']
theorem tx_old (a : Act) (l : List Oper) (vs : List Value) (d : Nat) (h : ∀ (j : Nat) (o : Oper), l[j]? = some o → o.dst ≠ some d) : (tx a l vs).tmps.getD d undef = a.tmps.getD d undef := by
  induction l generalizing a vs with
  | nil => simp [tx]
  | cons o l ih => cases vs with
    | nil => simp [tx]
    | cons v vs =>
      rw [tx, ih _ _ (fun j o' hj => h (j + 1) o' (by simpa using hj)), put_other _ _ _ (h 0 o rfl)]
theorem tx_new (a : Act) (l : List Oper) (vs : List Value) (hl : vs.length = l.length) (d : Nat) (hd : d < a.tmps.size) (i : Nat) (o : Oper) (hi : l[i]? = some o) (ho : o.dst = some d)
    (h : ∀ (j : Nat) (o : Oper), l[j]? = some o → o.dst = some d → j = i) : (tx a l vs).tmps.getD d undef = vs.getD i undef := by
  induction l generalizing a vs i with
  | nil => simp at hi
  | cons o' l ih => cases vs with
    | nil => simp at hl
    | cons v vs =>
      rw [tx]
      cases i with
      | zero =>
        simp at hi
        subst hi
        rw [tx_old _ _ _ _ (fun j o' hj hd => by have := h (j + 1) o' (by simpa using hj) hd; omega), ho, put_same _ _ hd]
        rfl
      | succ i =>
        have := ih (a.put o'.dst v) vs (by simpa using hl) (by rw [put_size]; exact hd) i (by simpa using hi) (fun j o'' hj hd => by have := h (j + 1) o'' (by simpa using hj) hd; omega)
        rw [this]
        simp

/-- what holds while the region is on its way -/
structure OInv (ops : Array Oper) (n : Nat) (S : (Nat → Bool) → World → Prop) (vs : List Value) (a0 : Act) (listed : Array Bool) (a : Act) (W : World) : Prop where
  s : S (fun i => listed.getD i false) W
  len : listed.size = ops.size
  size : a.tmps.size = a0.tmps.size
  defers : a.defers = a0.defers
  closed : ∀ j oj e, ops[j]? = some oj → listed.getD j true = true → e ∈ oj.after → Region.binds .any e = true → listed.getD e.on false = true
  tail : ∀ t, n ≤ t → t < ops.size → listed.getD t true = false
  old : ∀ d, (∀ j, listed.getD j false = true → dstOf ops j ≠ some d) → a.tmps.getD d undef = a0.tmps.getD d undef
  new : ∀ j d, listed.getD j false = true → dstOf ops j = some d → a.tmps.getD d undef = vs.getD j undef

theorem dstOf_lt {j d : Nat} (h : dstOf ops j = some d) : j < ops.size := by
  unfold dstOf at h
  rcases Nat.lt_or_ge j ops.size with h' | h'
  · exact h'
  · rw [Array.getElem?_eq_none h'] at h; cases h
theorem getD_tt {listed : Array Bool} {j : Nat} (hj : j < listed.size) (h : listed.getD j false = true) : listed.getD j true = true := by
  simpa [Array.getD_eq_getD_getElem?, hj] using h
theorem getD_ft {listed : Array Bool} {j : Nat} (hj : j < listed.size) (h : listed.getD j true = true) : listed.getD j false = true := by
  simpa [Array.getD_eq_getD_getElem?, hj] using h

/-- the operation does here what it does in the order of the text -/
theorem wp_conv {o : Oper} {a a1 : Act} {W : World} {v : Value} {K : Act → World → Prop} {Q : Exit → Act → World → Prop} (he : execOp a.eval o = execOp a1.eval o)
    (h : Oper.wp P o a1 W (fun a' W' => a' = a1.put o.dst v ∧ S0 W') noQ) (hd : ∀ d, o.dst = some d → d < a1.tmps.size) (hK : ∀ W', S0 W' → K (a.put o.dst v) W') : Oper.wp P o a W K Q := by
  have hu : ∀ u, a1.put o.dst u = a1.put o.dst v → a.put o.dst u = a.put o.dst v := fun u hu => by
    cases hq : o.dst with
    | none => rfl
    | some d =>
      rw [hq] at hu
      have h1 := put_same a1 u (hd d hq)
      rw [hu, put_same a1 v (hd d hq)] at h1
      rw [h1]
  unfold Oper.wp at *
  rw [he]
  generalize (execOp a1.eval o).run P W = r at *
  cases r with
  | ok n w' =>
    cases n <;> simp only [Oper.upon] at h ⊢
    case value u => rw [hu u h.1]; exact hK _ h.2
    case skip => rw [hu _ h.1]; exact hK _ h.2
    case defer d =>
      have := congrArg Act.defers h.1
      simp only [put_defers'] at this
      have := congrArg List.length this
      simp at this
    case enter f args =>
      refine Calls.mono h fun e w'' he => ?_
      cases e with
      | returned u =>
        show K (a.put o.dst u) w''
        rw [hu u he.1]
        exact hK _ he.2
      | panicked c => exact he.elim
      | outgrown =>
        obtain ⟨_, _, hf⟩ := he
        exact hf.elim
    case row row args => exact Rows.mono h fun u w'' he => by rw [hu u he.1]; exact hK _ he.2
  | halt x w' =>
    cases x <;> simp only [Oper.upon] at h ⊢
    case panic u => exact h.elim

theorem waitsFar_listed {listed : Array Bool} (hcl : ∀ j oj e, ops[j]? = some oj → listed.getD j true = true → e ∈ oj.after → Region.binds .any e = true → listed.getD e.on false = true) :
    ∀ (f t j : Nat), waitsFar ops f t j = true → (∀ o, ops[t]? = some o → ∀ e ∈ o.after, Region.binds .any e = true → listed.getD e.on false = true) → listed.getD j false = true
  | 0, _, _, h, _ => by simp [waitsFar] at h
  | f + 1, t, j, h, hp => by
    have one : ∀ k, Region.waitsFor .any ops t k = true → listed.getD k false = true := fun k hk => by
      obtain ⟨o', ho', e, he, hb, hon⟩ := Region.waitsFor_spec hk
      have := hp o' ho' e he hb
      rwa [hon] at this
    simp only [waitsFar, Bool.or_eq_true] at h
    rcases h with h | h
    · exact one j h
    · obtain ⟨k, _, hk⟩ := List.any_eq_true.1 h
      simp only [Bool.and_eq_true] at hk
      have hlk := one k hk.1
      have hks : k < listed.size := by
        rcases Nat.lt_or_ge k listed.size with h' | h'
        · exact h'
        · simp [Array.getD_eq_getD_getElem?, h'] at hlk
      exact waitsFar_listed hcl f k j hk.2 (fun o ho e he hb => hcl k o e ho (getD_tt hks hlk) he hb)

theorem ord_go {n : Nat} {l tl : List Oper} {Q : Exit → Act → World → Prop} {a0 : Act} {vs : List Value} (hops : ops = (l ++ tl).toArray) (hn : l.length = n) (hok : ordOk ops n tl.length = true) (hvs : vs.length = n)
    (hin : ∀ j d, dstOf ops j = some d → d < a0.tmps.size) (steps : ∀ i o, l[i]? = some o → TxStep P ops S i (tx a0 (l.take i) (vs.take i)) o (vs.getD i undef))
    (fin : ∀ L W, (∀ i, i < n → L i = true) → S L W → wpList P ops Q tl (tx a0 l vs) W) :
    ∀ (m : Nat) (listed : Array Bool) (a : Act) (W : World), (listed.toList.take n).count false = m → OInv ops n S vs a0 listed a W → wpAny P .any ops Q (m + tl.length) listed a W := by
  unfold ordOk at hok
  simp only [Bool.and_eq_true] at hok
  obtain ⟨⟨⟨⟨hfree, hlook⟩, htail⟩, hsel⟩, hseq⟩ := hok
  have hsz : ops.size = n + tl.length := by rw [hops]; simp [hn]
  have hget : ∀ i, i < n → ops[i]? = l[i]? := fun i hi => by
    rw [hops, List.getElem?_toArray, List.getElem?_append_left (by omega)]
  have htx : ∀ (i : Nat), i ≤ n → ∀ d, (∀ j, j < i → dstOf ops j ≠ some d) → (tx a0 (l.take i) (vs.take i)).tmps.getD d undef = a0.tmps.getD d undef := by
    intro i hi d hd
    refine tx_old _ _ _ _ fun j o hj ho => ?_
    rw [List.getElem?_take] at hj
    split at hj
    · rename_i hji
      exact hd j hji (by unfold dstOf; rw [hget j (by omega), hj]; exact ho)
    · cases hj
  have htxn : ∀ (i : Nat), i ≤ n → ∀ j d, j < i → dstOf ops j = some d → (tx a0 (l.take i) (vs.take i)).tmps.getD d undef = vs.getD j undef := by
    intro i hi j d hji hd
    have hjl : j < l.length := by omega
    have hdd : (l[j]).dst = some d := by
      have h := hd
      unfold dstOf at h
      rw [hget j (by omega), List.getElem?_eq_getElem hjl] at h
      exact h
    have h := tx_new a0 (l.take i) (vs.take i) (by simp [hvs, hn]) d (hin j d hd) j l[j] (by rw [List.getElem?_take, if_pos hji, List.getElem?_eq_getElem hjl]) hdd (fun k o hk ho => by
      rw [List.getElem?_take] at hk
      split at hk
      · refine freeOk_apart hfree (d := d) ?_ hd
        unfold dstOf
        rw [hget k (by omega), hk]
        exact ho
      · cases hk)
    rw [h, List.getD_eq_getElem?_getD, List.getD_eq_getElem?_getD, List.getElem?_take, if_pos hji]
  have all_of : ∀ {listed : Array Bool} {a : Act} {W : World}, OInv ops n S vs a0 listed a W → (listed.toList.take n).count false = 0 → ∀ j, j < n → listed.getD j false = true := by
    intro listed a W h hc j hj
    have hjs : j < listed.size := by rw [h.len]; omega
    rw [List.count_eq_zero] at hc
    cases hb : listed[j] with
    | true => simp [Array.getD_eq_getD_getElem?, hjs, hb]
    | false =>
      exfalso
      refine hc ?_
      rw [List.mem_take_iff_getElem]
      exact ⟨j, by simp; omega, by simp [hb]⟩
  have head : ∀ {listed : Array Bool} {a : Act} {W : World}, OInv ops n S vs a0 listed a W → ∀ (k j : Nat), j < k → j < n → listed.getD j true = false → ∃ i ∈ Region.ready .any ops listed, i < n := by
    intro listed a W h k
    induction k with
    | zero => intro j hj; omega
    | succ k ih =>
      intro j hj hjn hun
      by_cases hall : ∀ e ∈ (ops[j]'(by omega)).after, Region.binds .any e = true → listed.getD e.on false = true
      · exact ⟨j, mem_ready.2 ⟨hun, ops[j]'(by omega), Array.getElem?_eq_getElem (by omega), hall⟩, hjn⟩
      · simp only [Classical.not_forall] at hall
        obtain ⟨e, he, hb, hl⟩ := hall
        have hlt := freeOk_lt hfree (Array.getElem?_eq_getElem (show j < ops.size by omega)) he hb
        have hes : e.on < listed.size := by rw [h.len]; omega
        exact ih e.on (by omega) (by omega) (by simpa [Array.getD_eq_getD_getElem?, hes] using hl)
  intro m
  induction m with
  | zero =>
    intro listed a W hc h
    have hall := all_of h hc
    have hL : listed = marks n tl.length := by
      apply Array.ext_getElem?
      intro i
      rw [show (marks n tl.length)[i]? = ((List.range (n + tl.length)).map fun i => decide (i < n))[i]? from by unfold marks; rw [List.getElem?_toArray], List.getElem?_map]
      rcases Nat.lt_or_ge i ops.size with hi | hi
      · rw [List.getElem?_range (by omega)]
        have his : i < listed.size := by rw [h.len]; omega
        rw [Array.getElem?_eq_getElem his]
        by_cases hin' : i < n
        · have := hall i hin'
          rw [Array.getD_eq_getD_getElem?, Array.getElem?_eq_getElem his] at this
          simpa [hin'] using this
        · have := h.tail i (by omega) hi
          rw [Array.getD_eq_getD_getElem?, Array.getElem?_eq_getElem his] at this
          simpa [hin'] using this
      · rw [Array.getElem?_eq_none (by rw [h.len]; omega), List.getElem?_eq_none (by simp; omega)]
        rfl
    have ha : a = tx a0 l vs := by
      have e1 : a.tmps = (tx a0 l vs).tmps := by
        apply Array.ext
        · rw [h.size, tx_size]
        · intro d h1 h2
          have hg : a.tmps.getD d undef = (tx a0 l vs).tmps.getD d undef := by
            by_cases hex : ∃ j, j < n ∧ dstOf ops j = some d
            · obtain ⟨j, hjn, hjd⟩ := hex
              have hx := htxn n (Nat.le_refl _) j d hjn hjd
              rw [List.take_of_length_le (by omega), List.take_of_length_le (by omega)] at hx
              rw [hx]
              exact h.new j d (hall j hjn) hjd
            · have hx := htx n (Nat.le_refl _) d (fun j hj hd => hex ⟨j, hj, hd⟩)
              rw [List.take_of_length_le (by omega), List.take_of_length_le (by omega)] at hx
              rw [hx]
              refine h.old d fun j hj hd => ?_
              rcases Nat.lt_or_ge j n with hjn | hjn
              · exact hex ⟨j, hjn, hd⟩
              · have hjs := dstOf_lt hd
                have := h.tail j hjn hjs
                rw [getD_tt (by rw [h.len]; exact hjs) hj] at this
                cases this
          simpa [Array.getD_eq_getD_getElem?, h1, h2] using hg
      have e2 : a.defers = (tx a0 l vs).defers := by rw [h.defers, tx_defers]
      rcases a with ⟨t, d⟩
      rcases hx : tx a0 l vs with ⟨t', d'⟩
      rw [hx] at e1 e2
      simp only at e1 e2
      rw [e1, e2]
    have hf := fin _ W hall h.s
    rw [Nat.zero_add, hL, ha]
    refine wpAny_of_seq tl n _ _ W (fun j => ?_) hseq hf
    rw [hops, List.getElem?_toArray, List.getElem?_append_right (by omega)]
    congr 1
    omega
  | succ m ih =>
    intro listed a W hc h
    rw [show m + 1 + tl.length = (m + tl.length) + 1 by omega]
    have hex : ∃ j, j < n ∧ listed.getD j true = false := by
      apply Classical.byContradiction
      intro hno
      have : (listed.toList.take n).count false = 0 := by
        rw [List.count_eq_zero, List.mem_take_iff_getElem]
        rintro ⟨j, hj, hb⟩
        have hjs : j < listed.size := by simp at hj; omega
        refine hno ⟨j, by simp at hj; omega, ?_⟩
        simp [Array.getD_eq_getD_getElem?, hjs]
        simpa using hb
      omega
    obtain ⟨j0, hj0, hun0⟩ := hex
    obtain ⟨i0, hi0, _⟩ := head h (j0 + 1) j0 (by omega) hj0 hun0
    refine ⟨fun h0 => (by rw [h0] at hi0; cases hi0), fun i hi => ?_⟩
    obtain ⟨hun, o, ho, hdep⟩ := mem_ready.1 hi
    have his : i < ops.size := (Array.getElem?_eq_some_iff.1 ho).1
    have hil : i < listed.size := by rw [h.len]; exact his
    have hin' : i < n := by
      apply Classical.byContradiction
      intro hge
      have h1 := List.all_eq_true.1 htail i (List.mem_range.2 his)
      simp only [Bool.or_eq_true, decide_eq_true_eq] at h1
      rcases h1 with h1 | h1
      · omega
      · by_cases hin : i = n
        · rw [if_pos hin] at h1
          have h2 := List.all_eq_true.1 h1 j0 (List.mem_range.2 hj0)
          have h3 := waitsFar_listed h.closed n i j0 h2 (fun o' ho' e he hb => by
            rw [ho] at ho'
            injection ho' with ho'
            subst ho'
            exact hdep e he hb)
          have hjs : j0 < listed.size := by rw [h.len]; omega
          rw [getD_tt hjs h3] at hun0
          cases hun0
        · rw [if_neg hin] at h1
          obtain ⟨o', ho', e, he, hb, hon⟩ := Region.waitsFor_spec h1
          rw [ho] at ho'
          injection ho' with ho'
          subst ho'
          have h3 := hdep e he hb
          rw [hon] at h3
          have h4 := h.tail (i - 1) (by omega) (by omega)
          rw [getD_tt (by rw [h.len]; omega) h3] at h4
          cases h4
    have hdst : dstOf ops i = o.dst := by unfold dstOf; rw [ho]; rfl
    have hli : l[i]? = some o := by rw [← hget i hin']; exact ho
    have hst := steps i o hli
    have hlooks : ∀ d, d ∈ o.looksAt ops → a.tmps.getD d undef = (tx a0 (l.take i) (vs.take i)).tmps.getD d undef := by
      intro d hd
      have h1 := List.all_eq_true.1 hlook i (List.mem_range.2 hin')
      rw [ho] at h1
      have h2 := List.all_eq_true.1 h1 d hd
      by_cases hex : ∃ j, dstOf ops j = some d
      · obtain ⟨j, hjd⟩ := hex
        have hjs := dstOf_lt hjd
        have h3 := List.all_eq_true.1 h2 j (List.mem_range.2 hjs)
        rw [hjd] at h3
        simp only [bne_self_eq_false, Bool.false_or, Bool.or_eq_true, Bool.and_eq_true, decide_eq_true_eq] at h3
        rcases h3 with ⟨hlt, hw⟩ | ⟨hlt, hw⟩
        · obtain ⟨o', ho', e, he, hb, hon⟩ := Region.waitsFor_spec hw
          rw [ho] at ho'
          injection ho' with ho'
          subst ho'
          have h4 := hdep e he hb
          rw [hon] at h4
          rw [h.new j d h4 hjd, htxn i (by omega) j d hlt hjd]
        · obtain ⟨o', ho', e, he, hb, hon⟩ := Region.waitsFor_spec hw
          have hnl : ∀ k, listed.getD k false = true → dstOf ops k ≠ some d := fun k hk hkd => by
            have hkj : k = j := freeOk_apart hfree hkd hjd
            subst hkj
            have hks : k < listed.size := by rw [h.len]; exact hjs
            have h5 := h.closed k o' e ho' (getD_tt hks hk) he hb
            rw [hon] at h5
            rw [getD_tt hil h5] at hun
            cases hun
          rw [h.old d hnl, htx i (by omega) d (fun k hk hkd => by
            have hkj : k = j := freeOk_apart hfree hkd hjd
            omega)]
      · rw [h.old d (fun k _ hkd => hex ⟨k, hkd⟩), htx i (by omega) d (fun k _ hkd => hex ⟨k, hkd⟩)]
    have heval : ∀ x ∈ o.op.operands, a.eval x = (tx a0 (l.take i) (vs.take i)).eval x := by
      intro x hx
      cases x with
      | tmp d =>
        have hm : d ∈ o.looksAt ops := List.mem_append_left _ (List.mem_filterMap.2 ⟨.tmp d, by simpa using hx, rfl⟩)
        have := hlooks d hm
        simpa [Act.eval, Array.getD_eq_getD_getElem?] using this
      | _ => rfl
    have hexec : execOp a.eval o = execOp (tx a0 (l.take i) (vs.take i)).eval o := execOp_congr o (fun cs b => Region.noSelect_spec hsel i o cs b ho) heval
    have hwant : Region.wanted o (yielded ops a.tmps) = Region.wanted o (yielded ops (tx a0 (l.take i) (vs.take i)).tmps) := by
      unfold Region.wanted
      cases hg : o.guard with
      | none => rfl
      | some gw =>
        obtain ⟨g, want⟩ := gw
        have hy : yielded ops a.tmps g = yielded ops (tx a0 (l.take i) (vs.take i)).tmps g := by
          unfold yielded
          cases ht : (ops[g]?).bind (·.dst) with
          | none => rfl
          | some t =>
            have hm : t ∈ o.looksAt ops := by simp [Oper.looksAt, hg, ht]
            have hl := hlooks t hm
            have hts : t < a0.tmps.size := hin g t ht
            have h1 : t < a.tmps.size := by rw [h.size]; exact hts
            have h2 : t < (tx a0 (l.take i) (vs.take i)).tmps.size := by rw [tx_size]; exact hts
            simp [Array.getD_eq_getD_getElem?, h1, h2] at hl
            simp [h1, h2, hl]
        simp only [hy]
    have hLi : listed.getD i false = false := by
      rw [Array.getD_eq_getD_getElem?, Array.getElem?_eq_getElem hil, Option.getD_some] at hun ⊢
      exact hun
    have hupd : upd (fun j => listed.getD j false) i = fun j => (listed.setIfInBounds i true).getD j false := by
      funext j
      unfold upd
      by_cases e : j = i
      · subst e
        rw [if_pos rfl, getD_set_same hil]
      · rw [if_neg e, getD_set_ne false (fun h => e h.symm)]
    have hput : ∀ W', S (upd (fun j => listed.getD j false) i) W' → OInv ops n S vs a0 (listed.setIfInBounds i true) (a.put o.dst (vs.getD i undef)) W' := by
      intro W' hS
      have hmono : ∀ k, listed.getD k false = true → (listed.setIfInBounds i true).getD k false = true := fun k hk => by
        by_cases e : i = k
        · subst e; exact getD_set_same hil _
        · rw [getD_set_ne false e]; exact hk
      refine ⟨by rw [← hupd]; exact hS, by simp [h.len], by rw [put_size, h.size], by rw [put_defers', h.defers], ?_, ?_, ?_, ?_⟩
      · intro j oj e hj hl he hb
        by_cases e1 : i = j
        · subst e1
          rw [ho] at hj
          injection hj with hj
          subst hj
          exact hmono _ (hdep e he hb)
        · rw [getD_set_ne true e1] at hl
          exact hmono _ (h.closed j oj e hj hl he hb)
      · intro t ht hts
        rw [getD_set_ne true (by omega)]
        exact h.tail t ht hts
      · intro d hd
        have hne : o.dst ≠ some d := by rw [← hdst]; exact hd i (getD_set_same hil _)
        rw [put_other _ _ _ hne]
        refine h.old d fun j hj => hd j (hmono j hj)
      · intro j d hj hd
        by_cases e : i = j
        · subst e
          rw [hdst] at hd
          rw [hd, put_same _ _ (by rw [h.size]; exact hin i d (by rw [hdst, hd]))]
        · have hne : o.dst ≠ some d := fun hc => e (freeOk_apart hfree (by rw [hdst]; exact hc) hd)
          rw [put_other _ _ _ hne]
          rw [getD_set_ne false e] at hj
          exact h.new j d hj hd
    have hcount : ((listed.setIfInBounds i true).toList.take n).count false = m := by
      rw [Array.toList_setIfInBounds, List.take_set, List.count_set (by simp; omega)]
      rw [Array.getD_eq_getD_getElem?, Array.getElem?_eq_getElem hil, Option.getD_some] at hun
      simp [hun, hc]
    unfold wpOp
    rw [ho]
    have hs1 := hst _ W hLi h.s
    simp only [hwant]
    by_cases hw : Region.wanted o (yielded ops (tx a0 (l.take i) (vs.take i)).tmps) = true
    · rw [if_pos hw] at hs1
      simp only [hw, if_true]
      exact .inl (wp_conv hexec hs1 (fun d hd => by rw [tx_size]; exact hin i d (by rw [hdst]; exact hd)) fun W' hS => ih _ _ _ hcount (hput W' hS))
    · rw [if_neg hw] at hs1
      simp only [hw]
      have := hput W hs1.2
      rw [hs1.1] at this
      exact ih _ _ _ hcount this
/-- THE REGION: the first n operations in the order of the text, in whatever world that meets S; then the others. -/
theorem wp_region_ordL {id : Nat} {l : List Oper} {Q : Exit → Act → World → Prop} {a0 : Act} {w : World} (n : Nat) (S : (Nat → Bool) → World → Prop) (hm : P.follows .mixedOrders = true) (hok : ordOk l.toArray n (l.length - n) = true) (hn : n ≤ l.length)
    (hin : ((List.range l.length).all fun j => ((dstOf l.toArray j).map fun d => decide (d < a0.tmps.size)).getD true) = true) (hS : S (fun _ => false) w.drew)
    (h : wpTxt P l.toArray S (fun a => ∀ L W, (∀ i, i < n → L i = true) → S L W → wpList P l.toArray Q (l.drop n) a W) 0 (l.take n) a0) : (Code.region id l.toArray true).wp P Q a0 w := by
  obtain ⟨vs, hl, hs, hq⟩ := wpTxt_vals _ _ _ h
  have htl : (l.take n).length = n := by simp; omega
  refine wp_region_any hm ?_
  have hg := ord_go (P := P) (S := S) (n := n) (l := l.take n) (tl := l.drop n) (Q := Q) (a0 := a0) (vs := vs) (ops := l.toArray) (by rw [List.take_append_drop]) htl (by rw [List.length_drop]; exact hok) (by rw [hl, htl]) ?_ (fun i o hi => by have := hs i o hi; rwa [Nat.zero_add] at this) hq
    n (Array.replicate l.toArray.size false) a0 w.drew ?_ ?_
  · rw [List.length_drop, show n + (l.length - n) = l.toArray.size by simp; omega] at hg
    exact hg
  · intro j d hd
    have hjs := dstOf_lt hd
    have := List.all_eq_true.1 hin j (List.mem_range.2 (by simpa using hjs))
    rw [hd] at this
    simpa using this
  · rw [Array.toList_replicate, List.take_replicate, List.count_replicate]
    simp
    omega
  · have hrep : ∀ j, (Array.replicate l.toArray.size false).getD j false = false := fun j => getD_replicate_false _ _
    refine ⟨by simp only [hrep]; exact hS, by simp, rfl, rfl, ?_, ?_, fun d _ => rfl, ?_⟩
    · intro j oj e hj hl
      have hjs : j < l.length := by have := (Array.getElem?_eq_some_iff.1 hj).1; simpa using this
      simp [Array.getD_eq_getD_getElem?, hjs] at hl
    · intro t _ ht
      have ht' : t < l.length := by simpa using ht
      simp [Array.getD_eq_getD_getElem?, ht']
    · intro j d hl
      rw [hrep] at hl
      cases hl
theorem wp_region_ord {id : Nat} {l : List Oper} {Q : Exit → Act → World → Prop} {a0 : Act} {w : World} (n : Nat) (S : World → Prop) (hm : P.follows .mixedOrders = true) (hok : ordOk l.toArray n (l.length - n) = true) (hn : n ≤ l.length)
    (hin : ((List.range l.length).all fun j => ((dstOf l.toArray j).map fun d => decide (d < a0.tmps.size)).getD true) = true) (hS : S w.drew)
    (h : wpTxt P l.toArray (fun _ => S) (fun a => ∀ W, S W → wpList P l.toArray Q (l.drop n) a W) 0 (l.take n) a0) : (Code.region id l.toArray true).wp P Q a0 w := by
  refine wp_region_ordL n (fun _ => S) hm hok hn hin hS ?_
  have mono : ∀ (l' : List Oper) (k : Nat) (a : Act) (Q1 Q2 : Act → Prop), (∀ a, Q1 a → Q2 a) → wpTxt P l.toArray (fun _ => S) Q1 k l' a → wpTxt P l.toArray (fun _ => S) Q2 k l' a := by
    intro l'
    induction l' with
    | nil => intro k a Q1 Q2 h12 h; exact h12 _ h
    | cons o l' ih => intro k a Q1 Q2 h12 h; exact ⟨h.choose, h.choose_spec.1, ih _ _ _ _ h12 h.choose_spec.2⟩
  exact mono _ _ _ _ _ (fun a ha _ W _ hS => ha W hS) h
end
/-- a whole array is read -/
theorem wp_load_arr {P : Program} {o : Oper} {a : Act} {w : World} {K : Act → World → Prop} {Q : Exit → Act → World → Prop} (ty : TypeId) (x : Operand) (ho : o.op = .load ty x)
    (g : Nat) (hx : a.eval x = .pointer (some ⟨g, 0, none⟩)) (k : IntKind) (n : Nat) (f : Nat → Nat) (e t : TypeId) (hg : Arr w g t k n f) (hu : P.underlying ty = some (.array n e)) (hz : (P.info? ty).map (·.size) = some n)
    (h : K (a.put o.dst (.agg (tabV k n f))) w) : o.wp P a w K Q := by
  refine wp_load_mid ty x ho g 0 hx (tabV k n f).toList _ (rangeAt_arr hg) hu rfl (by rw [Array.length_toList, tabV_size]; exact hz) ?_
  rw [Array.toArray_toList]
  exact h
theorem tab4 (a b c d : Nat) : tabV .u8 4 (q4 a b c d) = #[.int .u8 (a : Int), .int .u8 (b : Int), .int .u8 (c : Int), .int .u8 (d : Int)] := rfl
end Go.Proofs.Ytdmfajcbbolfiaa
