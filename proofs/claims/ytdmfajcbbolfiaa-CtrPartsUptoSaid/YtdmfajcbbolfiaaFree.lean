/-
  A region that draws its order, each operation once: what each operation leaves in its own slot is told by a relation that no later operation unmakes; then the region is told by one step for each operation, whatever the order.
-/
import Derived.Test.YtdmfajcbbolfiaaKit
import Derived.Deep.RegionHeld
namespace Go.Proofs.Ytdmfajcbbolfiaa
open Go.RowKit

def dstOf (ops : Array Oper) (i : Nat) : Option Tmp := (ops[i]?).bind (·.dst)
/-- the slots are apart, and each operation waits for earlier ones alone -/
def freeOk (ops : Array Oper) : Bool := (List.range ops.size).all fun i =>
  (((ops[i]?).map fun o => o.after.all fun e => !Region.binds .any e || decide (e.on < i)).getD true) && (List.range ops.size).all fun j => i == j || dstOf ops i == none || dstOf ops i != dstOf ops j
/-- whoever writes slot d waits for operation i -/
def waits (ops : Array Oper) (i d : Nat) : Bool := (List.range ops.size).all fun j => dstOf ops j != some d || (((ops[j]?).map fun o => o.after.any fun e => Region.binds .any e && e.on == i).getD false)
/-- operation i waits for the one that writes slot d -/
def dep (ops : Array Oper) (i d : Nat) : Bool := ((ops[i]?).map fun o => o.after.any fun e => Region.binds .any e && dstOf ops e.on == some d).getD false

theorem any_mem {α : Type} {xs : Array α} {p : α → Bool} (h : xs.any p = true) : ∃ e, e ∈ xs ∧ p e = true := by
  rw [← Array.any_toList, List.any_eq_true] at h
  obtain ⟨e, he, hp⟩ := h
  exact ⟨e, Array.mem_toList_iff.1 he, hp⟩
theorem freeOk_apart {ops : Array Oper} (h : freeOk ops = true) {i j d : Nat} (hi : dstOf ops i = some d) (hj : dstOf ops j = some d) : i = j := by
  have lt : ∀ {k}, dstOf ops k = some d → k < ops.size := fun {k} hk => by
    unfold dstOf at hk
    rcases Nat.lt_or_ge k ops.size with h | h
    · exact h
    · rw [Array.getElem?_eq_none h] at hk; cases hk
  have h1 := List.all_eq_true.1 h i (List.mem_range.2 (lt hi))
  rw [Bool.and_eq_true] at h1
  have h2 := List.all_eq_true.1 h1.2 j (List.mem_range.2 (lt hj))
  rw [hi, hj] at h2
  simpa using h2
theorem freeOk_lt {ops : Array Oper} (h : freeOk ops = true) {i : Nat} {o : Oper} (ho : ops[i]? = some o) {e : Edge} (he : e ∈ o.after) (hb : Region.binds .any e = true) : e.on < i := by
  have h1 := List.all_eq_true.1 h i (List.mem_range.2 (Array.getElem?_eq_some_iff.1 ho).1)
  rw [Bool.and_eq_true, ho] at h1
  have h2 := Array.all_eq_true_iff_forall_mem.1 h1.1 e he
  rw [hb] at h2
  simpa using h2

section
variable {P : Program} {ops : Array Oper} {Q : Exit → Act → World → Prop} {S : World → Prop} {R : Nat → Value → World → Prop} {Le : World → World → Prop} {a0 : Act}

structure FInv (ops : Array Oper) (S : World → Prop) (R : Nat → Value → World → Prop) (a0 : Act) (listed : Array Bool) (a : Act) (W : World) : Prop where
  s : S W
  len : listed.size = ops.size
  size : a.tmps.size = a0.tmps.size
  defers : a.defers = a0.defers
  closed : ∀ j oj e, ops[j]? = some oj → listed.getD j true = true → e ∈ oj.after → Region.binds .any e = true → listed.getD e.on false = true
  old : ∀ d, (∀ j, listed.getD j false = true → dstOf ops j ≠ some d) → a.tmps.getD d undef = a0.tmps.getD d undef
  new : ∀ j d, listed.getD j false = true → dstOf ops j = some d → R d (a.tmps.getD d undef) W

/-- what is asked of operation i -/
def StepOk (P : Program) (ops : Array Oper) (Q : Exit → Act → World → Prop) (S : World → Prop) (R : Nat → Value → World → Prop) (Le : World → World → Prop) (a0 : Act) (i : Nat) (o : Oper) : Prop :=
  ∀ (a : Act) (W : World), S W → a.tmps.size = a0.tmps.size → (∀ d, waits ops i d = true → a.tmps.getD d undef = a0.tmps.getD d undef) → (∀ d, dep ops i d = true → R d (a.tmps.getD d undef) W) →
    (Region.wanted o (yielded ops a.tmps) = true ∧ ∀ K : Act → World → Prop, (∀ v W', S W' → Le W W' → (∀ d, o.dst = some d → R d v W') → K (a.put o.dst v) W') → Oper.wp P o a W K Q) ∨
    (Region.wanted o (yielded ops a.tmps) = false ∧ ∀ d, o.dst = some d → R d undef W)
def Steps (f : Nat → Oper → Prop) : Nat → List Oper → Prop
  | _, [] => True
  | i, o :: os => f i o ∧ Steps f (i + 1) os
theorem Steps.nil {f : Nat → Oper → Prop} {i : Nat} : Steps f i [] := trivial
theorem Steps.cons {f : Nat → Oper → Prop} {i : Nat} {o : Oper} {os : List Oper} (h : f i o) (hs : Steps f (i + 1) os) : Steps f i (o :: os) := ⟨h, hs⟩
theorem Steps.at_ {f : Nat → Oper → Prop} : ∀ {l : List Oper} {k : Nat} (_ : Steps f k l) {i : Nat} {o : Oper}, l[i]? = some o → f (k + i) o
  | [], _, _, _, _, h => by simp at h
  | _ :: _, _, hs, 0, _, h => by simp at h; subst h; exact hs.1
  | _ :: _, k, hs, i + 1, _, h => by
    have := Steps.at_ hs.2 (i := i) (by simpa using h)
    rwa [Nat.add_right_comm, Nat.add_assoc] at this

theorem put_size (a : Act) (d : Option Tmp) (v : Value) : (a.put d v).tmps.size = a.tmps.size := by
  unfold Act.put
  split <;> simp
theorem put_defers' (a : Act) (d : Option Tmp) (v : Value) : (a.put d v).defers = a.defers := by
  unfold Act.put
  split <;> rfl
theorem put_other (a : Act) (d : Option Tmp) (v : Value) {t : Nat} (h : d ≠ some t) : (a.put d v).tmps.getD t undef = a.tmps.getD t undef := by
  unfold Act.put
  split
  · rename_i d'
    have hne : d' ≠ t := fun e => h (by rw [e])
    simp only [Array.getD_eq_getD_getElem?, Array.getElem?_setIfInBounds, if_neg hne]
  · rfl
theorem put_same (a : Act) (v : Value) {t : Nat} (h : t < a.tmps.size) : (a.put (some t) v).tmps.getD t undef = v := by
  unfold Act.put
  simp only [Array.getD_eq_getD_getElem?, Array.getElem?_setIfInBounds, if_true, h, Option.getD_some]

theorem getD_set_same {listed : Array Bool} {i : Nat} (h : i < listed.size) (d : Bool) : (listed.setIfInBounds i true).getD i d = true := by
  simp only [Array.getD_eq_getD_getElem?, Array.getElem?_setIfInBounds, if_true, h, Option.getD_some]
theorem FInv.put {listed : Array Bool} {a : Act} {W W' : World} {i : Nat} {o : Oper} (hfree : freeOk ops = true) (mono : ∀ d v W W', R d v W → Le W W' → R d v W') (hin : ∀ j d, dstOf ops j = some d → d < a0.tmps.size)
    (h : FInv ops S R a0 listed a W) (ho : ops[i]? = some o) (hr : i ∈ Region.ready .any ops listed) (v : Value) (hS : S W') (hLe : Le W W') (hR : ∀ d, o.dst = some d → R d v W') :
    FInv ops S R a0 (listed.setIfInBounds i true) (a.put o.dst v) W' := by
  obtain ⟨hun, o', ho', hdep⟩ := mem_ready.1 hr
  rw [ho] at ho'
  injection ho' with ho'
  subst ho'
  have hil : i < listed.size := by rw [h.len]; exact (Array.getElem?_eq_some_iff.1 ho).1
  have hdst : dstOf ops i = o.dst := by unfold dstOf; rw [ho]; rfl
  refine ⟨hS, by simp [h.len], by rw [put_size, h.size], by rw [put_defers', h.defers], ?_, ?_, ?_⟩
  · intro j oj e hj hl he hb
    have hmono : ∀ k, listed.getD k false = true → (listed.setIfInBounds i true).getD k false = true := fun k hk => by
      by_cases e : i = k
      · subst e; exact getD_set_same hil _
      · rw [getD_set_ne false e]; exact hk
    by_cases e1 : i = j
    · subst e1
      rw [ho] at hj
      injection hj with hj
      subst hj
      exact hmono _ (hdep e he hb)
    · rw [getD_set_ne true e1] at hl
      exact hmono _ (h.closed j oj e hj hl he hb)
  · intro d hd
    have hne : o.dst ≠ some d := by rw [← hdst]; exact hd i (getD_set_same hil _)
    rw [put_other _ _ _ hne]
    refine h.old d fun j hj => hd j ?_
    by_cases e : i = j
    · subst e; exact getD_set_same hil _
    · rw [getD_set_ne false e]; exact hj
  · intro j d hj hd
    by_cases e : i = j
    · subst e
      rw [hdst] at hd
      rw [hd, put_same _ _ (by rw [h.size]; exact hin i d (by rw [hdst, hd]))]
      exact hR d hd
    · have hne : o.dst ≠ some d := fun hc => e (freeOk_apart hfree (by rw [hdst]; exact hc) hd)
      rw [put_other _ _ _ hne]
      rw [getD_set_ne false e] at hj
      exact mono _ _ _ _ (h.new j d hj hd) hLe

theorem free_go (hfree : freeOk ops = true) (mono : ∀ d v W W', R d v W → Le W W' → R d v W') (leRefl : ∀ W, Le W W) (hin : ∀ j d, dstOf ops j = some d → d < a0.tmps.size)
    (steps : ∀ i o, ops[i]? = some o → StepOk P ops Q S R Le a0 i o)
    (fin : ∀ a W, S W → a.tmps.size = a0.tmps.size → a.defers = a0.defers → (∀ d, (∀ j, dstOf ops j ≠ some d) → a.tmps.getD d undef = a0.tmps.getD d undef) → (∀ j d, dstOf ops j = some d → R d (a.tmps.getD d undef) W) → Q .normal a W) :
    ∀ (fuel : Nat) (listed : Array Bool) (a : Act) (W : World), listed.toList.count false = fuel → FInv ops S R a0 listed a W → wpAnyH P .any ops Q S fuel listed a W := by
  have finish : ∀ (listed : Array Bool) (a : Act) (W : World), FInv ops S R a0 listed a W → Region.ready .any ops listed = [] → Q .normal a W := by
    intro listed a W h hr
    have all : ∀ (n j : Nat), j < n → j < ops.size → listed.getD j true = true := by
      intro n
      induction n with
      | zero => intro j hj; omega
      | succ n ih =>
        intro j hj hjs
        by_cases hl : listed.getD j true = true
        · exact hl
        · exfalso
          have hm : j ∈ Region.ready .any ops listed := mem_ready.2 ⟨by simpa using hl, ops[j], Array.getElem?_eq_getElem hjs, fun e he hb => by
            have hlt := freeOk_lt hfree (Array.getElem?_eq_getElem hjs) he hb
            have := ih e.on (by omega) (by omega)
            have hes : e.on < listed.size := by rw [h.len]; omega
            simpa [Array.getD_eq_getD_getElem?, hes] using this⟩
          rw [hr] at hm
          cases hm
    have all' : ∀ j d, dstOf ops j = some d → listed.getD j false = true := fun j d hd => by
      have hjs : j < ops.size := by
        unfold dstOf at hd
        rcases Nat.lt_or_ge j ops.size with h | h
        · exact h
        · rw [Array.getElem?_eq_none h] at hd; cases hd
      have := all (j + 1) j (by omega) hjs
      have hes : j < listed.size := by rw [h.len]; omega
      simpa [Array.getD_eq_getD_getElem?, hes] using this
    exact fin a W h.s h.size h.defers (fun d hd => h.old d fun j _ => hd j) (fun j d hd => h.new j d (all' j d hd) hd)
  intro fuel
  induction fuel with
  | zero =>
    intro listed a W hc h
    have hr : Region.ready .any ops listed = [] := by
      refine List.eq_nil_iff_forall_not_mem.2 fun i hi => ?_
      obtain ⟨hun, o, ho, _⟩ := mem_ready.1 hi
      have hil : i < listed.size := by rw [h.len]; exact (Array.getElem?_eq_some_iff.1 ho).1
      have hm : false ∈ listed.toList := by
        rw [Array.getD_eq_getD_getElem?, Array.getElem?_eq_getElem hil, Option.getD_some] at hun
        rw [← hun]
        exact Array.getElem_mem_toList hil
      have := List.count_pos_iff.2 hm
      omega
    exact ⟨hr, finish listed a W h hr⟩
  | succ fuel ih =>
    intro listed a W hc h
    refine ⟨finish listed a W h, fun i hi => ?_⟩
    obtain ⟨hun, o, ho, hdep⟩ := mem_ready.1 hi
    have hil : i < listed.size := by rw [h.len]; exact (Array.getElem?_eq_some_iff.1 ho).1
    have hcount : (listed.setIfInBounds i true).toList.count false = fuel := by
      rw [Array.toList_setIfInBounds, List.count_set (by simpa using hil)]
      rw [Array.getD_eq_getD_getElem?, Array.getElem?_eq_getElem hil, Option.getD_some] at hun
      simp [hun, hc]
    have hdst : dstOf ops i = o.dst := by unfold dstOf; rw [ho]; rfl
    have hU : ∀ d, waits ops i d = true → a.tmps.getD d undef = a0.tmps.getD d undef := fun d hw => h.old d fun j hj hd => by
      have hjs : j < ops.size := by
        unfold dstOf at hd
        rcases Nat.lt_or_ge j ops.size with h | h
        · exact h
        · rw [Array.getElem?_eq_none h] at hd; cases hd
      have h1 := List.all_eq_true.1 hw j (List.mem_range.2 hjs)
      rw [hd, Array.getElem?_eq_getElem hjs] at h1
      have h2 : (ops[j].after.any fun e => Region.binds .any e && e.on == i) = true := by simpa using h1
      obtain ⟨e, he, hbo⟩ := any_mem h2
      rw [Bool.and_eq_true] at hbo
      obtain ⟨hb, hon⟩ := hbo
      have hon : e.on = i := by simpa using hon
      have hlj : listed.getD j true = true := by
        have hes : j < listed.size := by rw [h.len]; omega
        simpa [Array.getD_eq_getD_getElem?, hes] using hj
      have hli := h.closed j ops[j] e (Array.getElem?_eq_getElem hjs) hlj he hb
      rw [hon] at hli
      rw [Array.getD_eq_getD_getElem?, Array.getElem?_eq_getElem hil, Option.getD_some] at hli hun
      rw [hun] at hli
      cases hli
    have hD : ∀ d, dep ops i d = true → R d (a.tmps.getD d undef) W := fun d hd => by
      unfold dep at hd
      rw [ho] at hd
      have h2 : (o.after.any fun e => Region.binds .any e && dstOf ops e.on == some d) = true := hd
      obtain ⟨e, he, hbo⟩ := any_mem h2
      rw [Bool.and_eq_true] at hbo
      exact h.new e.on d (hdep e he hbo.1) (by simpa using hbo.2)
    unfold wpOp
    rw [ho]
    rcases steps i o ho a W h.s h.size hU hD with ⟨hw, hk⟩ | ⟨hw, hR⟩
    · simp only [hw, if_true]
      exact .inl (hk _ fun v W' hS hLe hR => ⟨hS, ih _ _ _ hcount (h.put hfree mono hin ho hi v hS hLe hR)⟩)
    · simp only [hw]
      exact ⟨h.s, ih _ _ _ hcount (h.put hfree mono hin ho hi undef h.s (leRefl W) hR)⟩

/-- THE REGION, whatever the order. -/
theorem region_free {id : Nat} {l : List Oper} {w : World} (S : World → Prop) (R : Nat → Value → World → Prop) (Le : World → World → Prop) (hm : P.follows .mixedOrders = true) (hfree : freeOk l.toArray = true) (hin : ((List.range l.length).all fun j => ((dstOf l.toArray j).map fun d => decide (d < a0.tmps.size)).getD true) = true)
    (mono : ∀ d v W W', R d v W → Le W W' → R d v W') (leRefl : ∀ W, Le W W) (hS : S w.drew) (steps : Steps (StepOk P l.toArray Q S R Le a0) 0 l)
    (fin : ∀ a W, S W → a.tmps.size = a0.tmps.size → a.defers = a0.defers → (∀ d, (∀ j, dstOf l.toArray j ≠ some d) → a.tmps.getD d undef = a0.tmps.getD d undef) → (∀ j d, dstOf l.toArray j = some d → R d (a.tmps.getD d undef) W) → Q .normal a W) :
    (Code.region id l.toArray true).wp P Q a0 w := by
  refine wp_region_held_drew (S := S) hm hS fun _ => ?_
  refine free_go (a0 := a0) (R := R) (Le := Le) hfree mono leRefl ?_ (fun i o ho => ?_) fin _ _ _ _ (by simp) ?_
  · intro j d hd
    have hjs : j < l.length := by
      unfold dstOf at hd
      rcases Nat.lt_or_ge j l.length with h | h
      · exact h
      · rw [Array.getElem?_eq_none (by simpa using h)] at hd; cases hd
    have := List.all_eq_true.1 hin j (List.mem_range.2 hjs)
    rw [hd] at this
    simpa using this
  · have := steps.at_ (i := i) (o := o) (by simpa using ho)
    rwa [Nat.zero_add] at this
  · refine ⟨hS, by simp, rfl, rfl, ?_, fun d _ => rfl, ?_⟩
    · intro j oj e hj hl
      have hjs : j < l.length := by have := (Array.getElem?_eq_some_iff.1 hj).1; simpa using this
      simp [Array.getD_eq_getD_getElem?, hjs] at hl
    · intro j d hl
      rw [Array.getD_eq_getD_getElem?, Array.getElem?_replicate] at hl
      split at hl <;> simp at hl
end
end Go.Proofs.Ytdmfajcbbolfiaa
