/-
  A region in a round of a range over a function, or ahead of a call of yield, is walked by the laws of plain walks.
-/
import Derived.Test.YtdmfajcbbolfiaaCtrA
import Derived.RangeFuncNested
import Derived.RangeFuncLeaves
import Derived.OrdersIn
import Derived.OwnWalkIn
import Derived.TacticsInMore
import Derived.LoopNIn
import Derived.LoopIn
namespace Go.Proofs.Ytdmfajcbbolfiaa
open Go.RowKit

/-- the wide fence, in a round or not -/
structure Wd (F : Fence) : Prop where
  fn : ∀ f, F.fn f
  depth : F.depth = none
  sem : ∀ (ρ : Operand → Value) (o : Oper), (∀ c, o.op ≠ .defer c) → Oper.semAt F.round ρ o = execOp ρ o
  calls : ∀ {P : Program} {f : FuncId} {args : Array Value} {w : World} {R : Ending → World → Prop} (n : Nat), Calls P f args w R → CallsIn F n P f args w R
  rows : ∀ {P : Program} {row : String} {args : Array Value} {w : World} {R : Value → World → Prop} (n : Nat), Rows P row args w R → RowsIn F n P row args w R
theorem rows_wide {n : Nat} {P : Program} {row : String} {args : Array Value} {w : World} {R : Value → World → Prop} (h : Rows P row args w R) : RowsIn Fence.wide n P row args w R :=
  fun c cs _ => let ⟨v, w', r, s⟩ := h c cs; ⟨v, w', r, stepsIn_wide.2 s⟩
theorem wd_wide : Wd Fence.wide := ⟨fun _ => trivial, rfl, fun ρ o _ => Oper.semAt_none ρ o, fun _ h => callsIn_wide.2 h, fun _ h => rows_wide h⟩
theorem wd_round (l : Nat) : Wd (Fence.wide.inRound l) :=
  ⟨fun _ => trivial, rfl, fun ρ o h => Oper.semAt_some l ρ o h, fun _ h => CallsIn.inRound l (callsIn_wide.2 h), fun _ h => rows_wide h⟩

section
variable {F : Fence} {n : Nat} {P : Program} {ops : Array Oper}
/-- ends where it is, and nowhere else -/
def nQ (R : Act → World → Prop) : Exit → Act → World → Prop := fun e a w => e = .normal ∧ R a w
theorem nQ_out {R : Act → World → Prop} : ¬ LetsOut (nQ R) := fun ⟨_, _, h⟩ => nomatch h.1
theorem oper_in (hF : Wd F) {o : Oper} {a : Act} {w : World} {K : Act → World → Prop} {R : Act → World → Prop} {Q : Exit → Act → World → Prop} (hd : ∀ c, o.op ≠ .defer c) (h : o.wp P a w K (nQ R)) : o.wpIn F n P a w K Q := by
  refine ⟨fun f _ => hF.fn f, ?_⟩
  rw [hF.sem _ _ hd]
  unfold Oper.wp at h
  generalize (execOp a.eval o).run P w = r at *
  have hdep : ∀ {p : Prop}, F.depth.isSome = true → p := fun h => by rw [hF.depth] at h; cases h
  cases r with
  | ok x w' =>
    cases x <;> simp only [Oper.upon, Oper.uponIn] at h ⊢
    case value => exact h
    case skip => exact h
    case defer => exact h
    case enter f args =>
      refine ⟨fun h => hdep h, hF.calls _ (h.mono fun e w'' he => ?_)⟩
      cases e with
      | returned v => exact he
      | panicked c => exact nomatch he.1
      | outgrown => exact absurd he nQ_out
    case row row args => exact ⟨fun h => hdep h, hF.rows _ h⟩
  | halt x w' =>
    cases x <;> simp only [Oper.upon, Oper.uponIn] at h ⊢
    case panic => exact nomatch h.1
def noDefer (ops : List Oper) : Bool := ops.all fun o => match o.op with | .defer _ => false | _ => true
theorem noDefer_op {o : Oper} (h : (match o.op with | .defer _ => false | _ => true) = true) : ∀ c, o.op ≠ .defer c := fun c hc => by rw [hc] at h; cases h
theorem list_in (hF : Wd F) {R : Act → World → Prop} {Q : Exit → Act → World → Prop} (l2 : List Oper) : ∀ (l1 : List Oper) (a : Act) (w : World), noDefer l1 = true → (∀ a w, R a w → wpListIn F n P ops Q l2 a w) →
    wpList P ops (nQ R) l1 a w → wpListIn F n P ops Q (l1 ++ l2) a w
  | [], a, w, _, hR, h => hR a w h.2
  | o :: l1, a, w, hd, hR, h => by
    have hd' : (match o.op with | .defer _ => false | _ => true) = true ∧ noDefer l1 = true := by simpa [noDefer] using hd
    unfold wpList at h
    show wpListIn F n P ops Q (o :: (l1 ++ l2)) a w
    unfold wpListIn
    split
    · rename_i hw
      rw [if_pos hw] at h
      rcases h with h | h
      · exact Oper.wpIn_mono (fun a w h => list_in hF l2 l1 a w hd'.2 hR h) (oper_in hF (noDefer_op hd'.1) h)
      · exact absurd h.2 nQ_out
    · rename_i hw
      rw [if_neg hw] at h
      exact ⟨fun f _ => hF.fn f, list_in hF l2 l1 _ w hd'.2 hR h⟩
theorem any_in (hF : Wd F) {md : Region.Mode} {R : Act → World → Prop} {Q : Exit → Act → World → Prop} (hd : noDefer ops.toList = true) (hR : ∀ a w, R a w → Q .normal a w) : ∀ (fuel : Nat) (listed : Array Bool) (a : Act) (w : World),
    wpAny P md ops (nQ R) fuel listed a w → wpAnyIn F n P md ops Q fuel listed a w
  | 0, listed, a, w, h => ⟨h.1, hR _ _ h.2.2⟩
  | fuel + 1, listed, a, w, h => by
    refine ⟨fun h0 => hR _ _ (h.1 h0).2, fun i hi => ?_⟩
    have h1 := h.2 i hi
    unfold wpOp at h1
    unfold wpOpIn
    cases ho : ops[i]? with
    | none =>
      rw [ho] at h1
      exact any_in hF hd hR fuel _ a w h1
    | some o =>
      rw [ho] at h1
      simp only at h1 ⊢
      have hdo : (match o.op with | .defer _ => false | _ => true) = true := by
        have := List.all_eq_true.1 hd o (by rw [Array.mem_toList_iff]; exact Array.mem_of_getElem? ho)
        exact this
      split
      · rename_i hw
        rw [if_pos hw] at h1
        rcases h1 with h1 | h1
        · exact Oper.wpIn_mono (fun a w h => any_in hF hd hR fuel _ a w h) (oper_in hF (noDefer_op hdo) h1)
        · exact absurd h1.2 nQ_out
      · rename_i hw
        rw [if_neg hw] at h1
        exact ⟨fun f _ => hF.fn f, any_in hF hd hR fuel _ _ w h1⟩
/-- a region in the order of its text -/
theorem region_in (hF : Wd F) {id : Nat} {l : List Oper} {R : Act → World → Prop} {Q : Exit → Act → World → Prop} {a : Act} {w : World} (hd : noDefer l = true) (hR : ∀ a w, R a w → Q .normal a w)
    (h : wpList P l.toArray (nQ R) l a w) : (Code.region id l.toArray false).wpIn F n P Q a w := by
  refine wpIn_region_lit ?_
  have := list_in (n := n) (Q := Q) hF [] l a w hd (fun a w h => wpListIn_nil (hR a w h)) h
  rwa [List.append_nil] at this
/-- a region of which the last operations are walked in the fence -/
theorem region_in2 (hF : Wd F) {id : Nat} {l : List Oper} {Q : Exit → Act → World → Prop} {a : Act} {w : World} (k : Nat) (hd : noDefer (l.take k) = true)
    (h : wpList P l.toArray (nQ (wpListIn F n P l.toArray Q (l.drop k))) (l.take k) a w) : (Code.region id l.toArray false).wpIn F n P Q a w := by
  refine wpIn_region_lit ?_
  have := list_in (n := n) (Q := Q) hF (l.drop k) (l.take k) a w hd (fun _ _ h => h) h
  rwa [List.take_append_drop] at this
end
theorem any_ordL {P : Program} {l : List Oper} {Q : Exit → Act → World → Prop} {a0 : Act} {w : World} (n : Nat) (S : (Nat → Bool) → World → Prop) (hok : ordOk l.toArray n (l.length - n) = true) (hn : n ≤ l.length)
    (hin : ((List.range l.length).all fun j => ((dstOf l.toArray j).map fun d => decide (d < a0.tmps.size)).getD true) = true) (hS : S (fun _ => false) w.drew)
    (h : wpTxt P l.toArray S (fun a => ∀ L W, (∀ i, i < n → L i = true) → S L W → wpList P l.toArray Q (l.drop n) a W) 0 (l.take n) a0) : wpAny P .any l.toArray Q l.toArray.size (Array.replicate l.toArray.size false) a0 w.drew := by
  obtain ⟨vs, hl, hs, hq⟩ := wpTxt_vals _ _ _ h
  have htl : (l.take n).length = n := by simp; omega
  have hg := ord_go (P := P) (S := S) (n := n) (l := l.take n) (tl := l.drop n) (Q := Q) (a0 := a0) (vs := vs) (ops := l.toArray) (by rw [List.take_append_drop]) htl (by rw [List.length_drop]; exact hok) (by rw [hl, htl]) ?_ (fun i o hi => by have := hs i o hi; rwa [Nat.zero_add] at this) hq
    n (Array.replicate l.toArray.size false) a0 w.drew ?_ ?_
  · rw [List.length_drop, show n + (l.length - n) = l.toArray.size by simp; omega] at hg
    exact hg
  · intro j d hd
    have hjs := dstOf_lt hd
    have := List.all_eq_true.1 hin j (List.mem_range.2 (by simpa using hjs))
    rw [hd] at this
    simpa using this
  · rw [Array.toList_replicate, List.take_replicate, List.count_replicate]
    simp
    omega
  · have hrep : ∀ j, (Array.replicate l.toArray.size false).getD j false = false := fun j => getD_replicate_false _ _
    refine ⟨by simp only [hrep]; exact hS, by simp, rfl, rfl, ?_, ?_, fun d _ => rfl, ?_⟩
    · intro j oj e hj hl
      have hjs : j < l.length := by have := (Array.getElem?_eq_some_iff.1 hj).1; simpa using this
      simp [Array.getD_eq_getD_getElem?, hjs] at hl
    · intro t _ ht
      have ht' : t < l.length := by simpa using ht
      simp [Array.getD_eq_getD_getElem?, ht']
    · intro j d hl
      rw [hrep] at hl
      cases hl
theorem any_ord {P : Program} {l : List Oper} {Q : Exit → Act → World → Prop} {a0 : Act} {w : World} (n : Nat) (S : World → Prop) (hok : ordOk l.toArray n (l.length - n) = true) (hn : n ≤ l.length)
    (hin : ((List.range l.length).all fun j => ((dstOf l.toArray j).map fun d => decide (d < a0.tmps.size)).getD true) = true) (hS : S w.drew)
    (h : wpTxt P l.toArray (fun _ => S) (fun a => ∀ W, S W → wpList P l.toArray Q (l.drop n) a W) 0 (l.take n) a0) : wpAny P .any l.toArray Q l.toArray.size (Array.replicate l.toArray.size false) a0 w.drew := by
  refine any_ordL n (fun _ => S) hok hn hin hS ?_
  have mono : ∀ (l' : List Oper) (k : Nat) (a : Act) (Q1 Q2 : Act → Prop), (∀ a, Q1 a → Q2 a) → wpTxt P l.toArray (fun _ => S) Q1 k l' a → wpTxt P l.toArray (fun _ => S) Q2 k l' a := by
    intro l'
    induction l' with
    | nil => intro k a Q1 Q2 h12 h; exact h12 _ h
    | cons o l' ih => intro k a Q1 Q2 h12 h; exact ⟨h.choose, h.choose_spec.1, ih _ _ _ _ h12 h.choose_spec.2⟩
  exact mono _ _ _ _ _ (fun a ha _ W _ hS => ha W hS) h
/-- a region that draws its order, in the order of its text -/
theorem region_ord_in {F : Fence} {m : Nat} {P : Program} (hF : Wd F) {id : Nat} {l : List Oper} {R : Act → World → Prop} {Q : Exit → Act → World → Prop} {a : Act} {w : World} (n : Nat) (S : World → Prop) (hd : noDefer l = true) (hR : ∀ a w, R a w → Q .normal a w)
    (hm : P.follows .mixedOrders = true) (hok : ordOk l.toArray n (l.length - n) = true) (hn : n ≤ l.length) (hin : ((List.range l.length).all fun j => ((dstOf l.toArray j).map fun d => decide (d < a.tmps.size)).getD true) = true) (hS : S w.drew)
    (h : wpTxt P l.toArray (fun _ => S) (fun a => ∀ W, S W → wpList P l.toArray (nQ R) (l.drop n) a W) 0 (l.take n) a) : (Code.region id l.toArray true).wpIn F m P Q a w :=
  wpIn_region_any hm (any_in hF (by simpa using hd) hR _ _ a _ (any_ord n S hok hn hin hS h))
end Go.Proofs.Ytdmfajcbbolfiaa
