/-
  Arrays of integers by value: equal ones; an array out of a slice.
-/
import Derived.Test.YtgbdckiojjmncaaArr
import Derived.ChangeKeysEq
import Derived.Laws.StructEq
import Derived.Deep.MidRow
import Derived.Deep.RegionHeld3
namespace Go.Proofs.Ytgbdckiojjmncaa
open Go.RowKit

theorem run_part_tab {P : Program} {e : TypeId} {n : Nat} {k : IntKind} (he : P.underlying e = some (.int k)) (f : Nat → Nat) (i : Nat) (hi : i < n) (w : World) : (part e (tabV k n f) (i * 1)).run P w = .ok (.int k (f i : Nat)) w := by
  have hc : (tabV k n f)[i]? = some (.int k (f i : Nat)) := tabV_get hi
  simp [part, isAgg, run_underlying he, hc]
theorem run_eqItems_tab {P : Program} {e : TypeId} {n : Nat} {k : IntKind} (he : P.underlying e = some (.int k)) (f f' : Nat → Nat) (d : Nat) (w : World) (hf : ∀ i, i < n → f i = f' i) : ∀ is : List Nat, (∀ i ∈ is, i < n) →
    (Op.eqItems (d + 1) e 1 (tabV k n f) (tabV k n f') is).run P w = .ok true w
  | [], _ => by simp [Op.eqItems]
  | i :: is, h => by
    have hi := h i (by simp)
    have ih := run_eqItems_tab he f f' d w hf is (fun j hj => h j (by simp [hj]))
    simp only [Op.eqItems, Sem.run_bind, run_part_tab he f i hi, run_part_tab he f' i hi, Result.andThen_ok, run_equalIn_int w d e k k _ _ he, hf i hi]
    simpa using ih
/-- equal arrays are equal -/
theorem run_eql_tab {P : Program} {t e : TypeId} {n : Nat} {k : IntKind} (hu : P.underlying t = some (.array n e)) (he : P.underlying e = some (.int k)) (hs : (P.info? e).map (·.size) = some 1) (hc : P.cellsOf e = 1) (f f' : Nat → Nat) (hf : ∀ i, i < n → f i = f' i) (w : World) :
    (binOp .eql t (.agg (tabV k n f)) (.agg (tabV k n f'))).run P w = .ok (.bool true) w := by
  cases hq : P.info? e with
  | none => simp [hq] at hs
  | some ie =>
    rw [run_eql_struct, show (10000 : Nat) = 9999 + 1 from rfl, run_equalIn_array w 9999 _ _ hu hq, hc, show (9999 : Nat) = 9998 + 1 from rfl, run_eqItems_tab he f f' 9998 w hf _ (fun i hi => List.mem_range.1 hi)]
    rfl
/-- a slice that is long enough leads to an array -/
theorem run_arrayAt {P : Program} {t e : TypeId} {n : Nat} (hu : P.underlying t = some (.array n e)) (a : Option Addr) (len cap : Nat) (h : n ≤ len) (w : World) : (Instr.arrayAt t (.slice a len cap)).run P w = .ok (.pointer a) w := by
  have h1 : ¬ len < n := by omega
  simp [Instr.arrayAt, run_underlying hu, h1]
/-- an array, read out of a slice of bytes -/
theorem rangeAt_rb {w : World} {S : Nat → TypeId → Prop} {g off n : Nat} {l : List UInt8} (h : RB w S (some ⟨g, off, none⟩) l) (hn : n ≤ l.length) (bt : Nat → Nat) (hb : ∀ i, i < n → bt i = (l.getD i 0).toNat) (h0 : 0 < n) : w.rangeAt g off (tabV .u8 n bt).toList := by
  intro j v hj
  rw [Array.getElem?_toList, tabV_get'] at hj
  split at hj
  · rename_i hjn
    injection hj with hj
    subst hj
    obtain ⟨g', off', cs, t, fr, e, hh, _, hc⟩ := h (by omega)
    injection e with e
    injection e with e1 e2
    subst e1; subst e2
    rw [cells_of hh, hc j _ (List.getElem?_eq_getElem (by omega))]
    rw [hb j hjn, List.getD_eq_getElem?_getD, List.getElem?_eq_getElem (by omega)]
    rfl
  · cases hj
theorem wpList_load_part {P : Program} {ops : Array Oper} {rest : List Oper} {op : Oper} {a : Act} {w : World} {Q : Exit → Act → World → Prop} (hgd : op.guard = none) (ty : TypeId) (x : Operand) (ho : op.op = .load ty x)
    (g off : Nat) (hx : a.eval x = .pointer (some ⟨g, off, none⟩)) (k : IntKind) (n : Nat) (f : Nat → Nat) (e : TypeId) (hc : w.rangeAt g off (tabV k n f).toList) (hu : P.underlying ty = some (.array n e)) (hi : (P.info? ty).map (·.size) = some n)
    (h : wpList P ops Q rest (a.put op.dst (.agg (tabV k n f))) w) : wpList P ops Q (op :: rest) a w := by
  refine wpList_load_mid hgd ty x ho g off hx (tabV k n f).toList _ hc hu rfl (by rw [Array.length_toList, tabV_size]; exact hi) ?_
  rw [Array.toArray_toList]
  exact h
/-- an array that is written out -/
theorem wpList_build_tab {P : Program} {ops : Array Oper} {rest : List Oper} {o : Oper} {a : Act} {w : World} {Q : Exit → Act → World → Prop} (hg : o.guard = none) (t : TypeId) (parts : Array (Nat × Operand)) (ho : o.op = .build t parts) (k : IntKind) (n : Nat) (f : Nat → Nat)
    (hf : P.built t (parts.map fun (i, x) => (i, a.eval x)).toList = some (tabV k n f)) (h : wpList P ops Q rest (a.put o.dst (.agg (tabV k n f))) w) : wpList P ops Q (o :: rest) a w :=
  wpList_build hg t parts ho (by rw [hf]; rfl) (by rw [hf]; exact h)
/-- in a region that draws its order: a whole array is read first -/
theorem wpAnyH_take_arr {P : Program} {md : Region.Mode} {ops : Array Oper} {Q : Exit → Act → World → Prop} {S : World → Prop} {fuel : Nat} {listed : Array Bool} {a : Act} {w : World} (i : Nat) {oi : Oper} (hi : ops[i]? = some oi)
    (hs : Region.noSelect ops = true) (hf : Region.free md ops listed i = true) (hr : (Region.ready md ops listed).contains i = true) (hQ : ∀ c a v w, Q (.panic c) (a.put oi.dst v) w → Q (.panic c) a w)
    (hw : Region.wanted oi (yielded ops a.tmps) = true) (ty : TypeId) (x : Operand) (ho : oi.op = .load ty x) (g off : Nat) (hx : a.eval x = .pointer (some ⟨g, off, none⟩)) (k : IntKind) (n : Nat) (f : Nat → Nat) (e : TypeId)
    (hS : ∀ w, S w → w.rangeAt g off (tabV k n f).toList) (hu : P.underlying ty = some (.array n e)) (hz : (P.info? ty).map (·.size) = some n) (hSw : S w)
    (h : wpAnyH P md ops Q S fuel (listed.setIfInBounds i true) (a.put oi.dst (.agg (tabV k n f))) w) : wpAnyH P md ops Q S (fuel + 1) listed a w :=
  wpAnyH_take (v := .agg (tabV k n f)) hi hs hf hr (fun c a w => hQ c a _ w) (by
    have := yieldsIf_load_mid (P := P) (ops := ops) (S := S) (op := oi) (a := a) hw ty x ho g off hx (tabV k n f).toList _ hS hu rfl (by rw [Array.length_toList, tabV_size]; exact hz)
    rwa [Array.toArray_toList] at this) hSw h
theorem rangeAt_arr {V : World} {g : Nat} {t : TypeId} {k : IntKind} {n : Nat} {f : Nat → Nat} (h : Arr V g t k n f) : V.rangeAt g 0 (tabV k n f).toList := by
  intro j v hj
  rw [Array.getElem?_toList] at hj
  unfold Arr at h
  rw [cells_of h, Nat.zero_add]
  exact hj
/-- '==' at two arrays that hold the same -/
theorem wp_eql_tab {P : Program} {o : Oper} {a : Act} {w : World} {K : Act → World → Prop} {Q : Exit → Act → World → Prop} (t yt : TypeId) (x y : Operand) (ho : o.op = .binOp .eql t x y yt) (k : IntKind) (n : Nat) (f f' : Nat → Nat) (hx : a.eval x = .agg (tabV k n f)) (hy : a.eval y = .agg (tabV k n f'))
    (e : TypeId) (hu : P.underlying t = some (.array n e)) (he : P.underlying e = some (.int k)) (hs : (P.info? e).map (·.size) = some 1) (hc : P.cellsOf e = 1) (hm : P.eqGuardType P.depth t = false) (hf : ∀ i, i < n → f i = f' i)
    (h : K (a.put o.dst (.bool true)) w) : o.wp P a w K Q := by
  unfold Oper.wp execOp
  simp only [ho, hx, hy, Sem.run_bind, run_eqGuard_agg w .eql t x y _ _ hm, Result.andThen_ok, run_eql_tab hu he hs hc f f' hf w, Sem.run_pure]
  exact h
theorem step_eql_tab {P : Program} {ops : Array Oper} {o : Oper} {a : Act} {w : World} {K : Act → World → Prop} {Q : Exit → Act → World → Prop} {E : Prop} (hw : Region.wanted o (yielded ops a.tmps) = true) (t yt : TypeId) (x y : Operand) (ho : o.op = .binOp .eql t x y yt) (k : IntKind) (n : Nat) (f f' : Nat → Nat) (hx : a.eval x = .agg (tabV k n f)) (hy : a.eval y = .agg (tabV k n f'))
    (e : TypeId) (hu : P.underlying t = some (.array n e)) (he : P.underlying e = some (.int k)) (hs : (P.info? e).map (·.size) = some 1) (hc : P.cellsOf e = 1) (hm : P.eqGuardType P.depth t = false) (hf : ∀ i, i < n → f i = f' i)
    (h : K (a.put o.dst (.bool true)) w) : if Region.wanted o (yielded ops a.tmps) = true then Oper.wp P o a w K Q else E := by
  rw [if_pos hw]
  exact wp_eql_tab t yt x y ho k n f f' hx hy e hu he hs hc hm hf h
theorem wpList_eql_tab {P : Program} {ops : Array Oper} {rest : List Oper} {o : Oper} {a : Act} {w : World} {Q : Exit → Act → World → Prop} (hgd : o.guard = none) (t yt : TypeId) (x y : Operand) (ho : o.op = .binOp .eql t x y yt) (k : IntKind) (n : Nat) (f f' : Nat → Nat) (hx : a.eval x = .agg (tabV k n f)) (hy : a.eval y = .agg (tabV k n f'))
    (e : TypeId) (hu : P.underlying t = some (.array n e)) (he : P.underlying e = some (.int k)) (hs : (P.info? e).map (·.size) = some 1) (hc : P.cellsOf e = 1) (hm : P.eqGuardType P.depth t = false) (hf : ∀ i, i < n → f i = f' i)
    (h : wpList P ops Q rest (a.put o.dst (.bool true)) w) : wpList P ops Q (o :: rest) a w :=
  wpList_plain hgd fun _ hK => wp_eql_tab t yt x y ho k n f f' hx hy e hu he hs hc hm hf (hK _ _ h)
end Go.Proofs.Ytgbdckiojjmncaa
