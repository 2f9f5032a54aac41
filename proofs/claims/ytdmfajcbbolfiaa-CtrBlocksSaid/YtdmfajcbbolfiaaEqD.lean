/-
  '==' and '!=' of two arrays, whatever they hold; of two arrays of arrays that hold the same.
-/
import Derived.Test.YtdmfajcbbolfiaaAesG
namespace Go.Proofs.Ytdmfajcbbolfiaa
open Go.RowKit

/-- a part of an array by value -/
theorem tab_extract {k : IntKind} {N n off : Nat} {F : Nat → Nat} (h : off + n ≤ N) : (tabV k N F).extract off (off + n) = tabV k n (fun j => F (off + j)) := by
  apply tabV_ext
  · rw [Array.size_extract, tabV_size]; omega
  · intro i hi
    rw [Array.getElem?_extract, tabV_size, if_pos (by omega), tabV_get (by omega)]
/-- the same values -/
def eqb (n : Nat) (f g : Nat → Nat) : Bool := (List.range n).all fun i => f i == g i
theorem eqb_true {n : Nat} {f g : Nat → Nat} : eqb n f g = true ↔ ∀ i, i < n → f i = g i := by
  unfold eqb
  rw [List.all_eq_true]
  exact ⟨fun h i hi => by simpa using h i (List.mem_range.2 hi), fun h i hi => by simpa using h i (List.mem_range.1 hi)⟩
theorem eqb_false {n : Nat} {f g : Nat → Nat} (h : ¬ ∀ i, i < n → f i = g i) : eqb n f g = false := by
  cases hq : eqb n f g with
  | false => rfl
  | true => exact absurd (eqb_true.1 hq) h
theorem run_eqItems_dec {P : Program} {e : TypeId} {n : Nat} {k : IntKind} (he : P.underlying e = some (.int k)) (f f' : Nat → Nat) (d : Nat) (w : World) : ∀ is : List Nat, (∀ i ∈ is, i < n) →
    (Op.eqItems (d + 1) e 1 (tabV k n f) (tabV k n f') is).run P w = .ok (is.all fun i => f i == f' i) w
  | [], _ => by simp [Op.eqItems]
  | i :: is, h => by
    have hi := h i (by simp)
    have ih := run_eqItems_dec he f f' d w is (fun j hj => h j (by simp [hj]))
    simp only [Op.eqItems, Sem.run_bind, run_part_tab he f i hi, run_part_tab he f' i hi, Result.andThen_ok, run_equalIn_int w d e k k _ _ he, List.all_cons]
    by_cases hq : f i = f' i
    · simp only [hq, beq_self_eq_true, Bool.true_and]
      simpa using ih
    · have h1 : ((f i : Nat) : Int) ≠ ((f' i : Nat) : Int) := by omega
      rw [show (f i == f' i) = false from beq_eq_false_iff_ne.2 hq]
      simp [h1]
theorem run_equalIn_dec {P : Program} {t e : TypeId} {n : Nat} {k : IntKind} (hu : P.underlying t = some (.array n e)) (he : P.underlying e = some (.int k)) (hs : (P.info? e).map (·.size) = some 1) (hc : P.cellsOf e = 1) (f f' : Nat → Nat) (d : Nat) (w : World) :
    (Op.equalIn (d + 2) t (.agg (tabV k n f)) (.agg (tabV k n f'))).run P w = .ok (eqb n f f') w := by
  cases hq : P.info? e with
  | none => simp [hq] at hs
  | some ie => rw [run_equalIn_array w (d + 1) _ _ hu hq, hc, run_eqItems_dec he f f' d w _ (fun i hi => List.mem_range.1 hi)]; rfl
theorem wp_eql_dec {P : Program} {o : Oper} {a : Act} {w : World} {K : Act → World → Prop} {Q : Exit → Act → World → Prop} (t yt : TypeId) (x y : Operand) (ho : o.op = .binOp .eql t x y yt) (k : IntKind) (n : Nat) (f f' : Nat → Nat) (hx : a.eval x = .agg (tabV k n f)) (hy : a.eval y = .agg (tabV k n f'))
    (e : TypeId) (hu : P.underlying t = some (.array n e)) (he : P.underlying e = some (.int k)) (hs : (P.info? e).map (·.size) = some 1) (hc : P.cellsOf e = 1) (hm : P.eqGuardType P.depth t = false)
    (h : K (a.put o.dst (.bool (eqb n f f'))) w) : o.wp P a w K Q := by
  unfold Oper.wp execOp
  simp only [ho, hx, hy, Sem.run_bind, run_eqGuard_agg w .eql t x y _ _ hm, Result.andThen_ok, run_eql_struct, run_equalIn_dec hu he hs hc f f' 9998 w, Sem.run_pure]
  exact h
theorem wp_neq_dec {P : Program} {o : Oper} {a : Act} {w : World} {K : Act → World → Prop} {Q : Exit → Act → World → Prop} (t yt : TypeId) (x y : Operand) (ho : o.op = .binOp .neq t x y yt) (k : IntKind) (n : Nat) (f f' : Nat → Nat) (hx : a.eval x = .agg (tabV k n f)) (hy : a.eval y = .agg (tabV k n f'))
    (e : TypeId) (hu : P.underlying t = some (.array n e)) (he : P.underlying e = some (.int k)) (hs : (P.info? e).map (·.size) = some 1) (hc : P.cellsOf e = 1) (hm : P.eqGuardType P.depth t = false)
    (h : K (a.put o.dst (.bool (!eqb n f f'))) w) : o.wp P a w K Q := by
  unfold Oper.wp execOp
  simp only [ho, hx, hy, Sem.run_bind, run_eqGuard_agg w .neq t x y _ _ hm, Result.andThen_ok, run_neq_struct, run_equalIn_dec hu he hs hc f f' 9998 w, Sem.run_pure]
  exact h
/-- arrays of arrays that hold the same -/
theorem run_eqItems2 {P : Program} {t e : TypeId} {m n N : Nat} {k : IntKind} (hu : P.underlying t = some (.array n e)) (he : P.underlying e = some (.int k)) (hs : (P.info? e).map (·.size) = some 1) (hst : (P.info? t).map (·.size) = some n) (hc : P.cellsOf e = 1)
    (f f' : Nat → Nat) (d : Nat) (w : World) (hf : ∀ i, i < N → f i = f' i) (hN : N = m * n) : ∀ is : List Nat, (∀ i ∈ is, i < m) → (Op.eqItems (d + 2) t n (tabV k N f) (tabV k N f') is).run P w = .ok true w
  | [], _ => by simp [Op.eqItems]
  | i :: is, h => by
    have hi := h i (by simp)
    have hlt : i * n + n ≤ N := by
      subst hN
      calc i * n + n = (i + 1) * n := by rw [Nat.add_mul, Nat.one_mul]
        _ ≤ m * n := Nat.mul_le_mul_right _ hi
    have ih := run_eqItems2 hu he hs hst hc f f' d w hf hN is (fun j hj => h j (by simp [hj]))
    have hp : ∀ g : Nat → Nat, (part t (tabV k N g) (i * n)).run P w = .ok (.agg (tabV k n (fun j => g (i * n + j)))) w := by
      intro g
      cases hq : P.info? t with
      | none => simp [hq] at hst
      | some it =>
        have hsz : it.size = n := by simpa [hq] using hst
        simp [part, isAgg, Sem.run_bind, run_underlying hu, sizeOf, typeInfo, hq, hsz, tab_extract hlt]
    have he1 : eqb n (fun j => f (i * n + j)) (fun j => f' (i * n + j)) = true := eqb_true.2 fun j hj => hf _ (by omega)
    simp only [Op.eqItems, Sem.run_bind, hp, Result.andThen_ok, run_equalIn_dec hu he hs hc _ _ d w, he1]
    simpa using ih
theorem wp_eql_tab2 {P : Program} {o : Oper} {a : Act} {w : World} {K : Act → World → Prop} {Q : Exit → Act → World → Prop} (T yt : TypeId) (x y : Operand) (ho : o.op = .binOp .eql T x y yt) (k : IntKind) (m n N : Nat) (f f' : Nat → Nat) (hx : a.eval x = .agg (tabV k N f)) (hy : a.eval y = .agg (tabV k N f'))
    (t e : TypeId) (hT : P.underlying T = some (.array m t)) (hu : P.underlying t = some (.array n e)) (he : P.underlying e = some (.int k)) (hs : (P.info? e).map (·.size) = some 1) (hst : (P.info? t).map (·.size) = some n) (hc : P.cellsOf e = 1) (hct : P.cellsOf t = n) (hm : P.eqGuardType P.depth T = false)
    (hf : ∀ i, i < N → f i = f' i) (hN : N = m * n) (h : K (a.put o.dst (.bool true)) w) : o.wp P a w K Q := by
  have hrun : (Op.equalIn 10000 T (.agg (tabV k N f)) (.agg (tabV k N f'))).run P w = .ok true w := by
    cases hq : P.info? t with
    | none => simp [hq] at hst
    | some it => rw [show (10000 : Nat) = 9999 + 1 from rfl, run_equalIn_array w 9999 _ _ hT hq, hct, show (9999 : Nat) = 9997 + 2 from rfl, run_eqItems2 hu he hs hst hc f f' 9997 w hf hN _ (fun i hi => List.mem_range.1 hi)]
  unfold Oper.wp execOp
  simp only [ho, hx, hy, Sem.run_bind, run_eqGuard_agg w .eql T x y _ _ hm, Result.andThen_ok, run_eql_struct, hrun, Sem.run_pure]
  exact h
end Go.Proofs.Ytdmfajcbbolfiaa
