/-
  Arrays of integers: a block whose cells are a function's values.
-/
import Derived.Test.YtgbdckiojjmncaaKit
import Derived.Deep.WholeRow
namespace Go.Proofs.Ytgbdckiojjmncaa
open Go.RowKit

/-- n cells, the values of f -/
def tabV (k : IntKind) (n : Nat) (f : Nat → Nat) : Array Value := ((List.range n).map fun i => Value.int k (f i : Nat)).toArray
section
variable {k : IntKind} {n : Nat} {f f' : Nat → Nat}
theorem tabV_size : (tabV k n f).size = n := by simp [tabV]
theorem tabV_get {i : Nat} (h : i < n) : (tabV k n f)[i]? = some (.int k (f i : Nat)) := by simp [tabV, h]
theorem tabV_get' (i : Nat) : (tabV k n f)[i]? = if i < n then some (.int k (f i : Nat)) else none := by
  split
  · exact tabV_get ‹_›
  · simp [tabV]; omega
theorem tabV_congr (h : ∀ i, i < n → f i = f' i) : tabV k n f = tabV k n f' := by
  unfold tabV
  congr 1
  exact List.map_congr_left fun i hi => by rw [h i (List.mem_range.1 hi)]
theorem tabV_ext {cs : Array Value} (hs : cs.size = n) (h : ∀ i, i < n → cs[i]? = some (.int k (f i : Nat))) : cs = tabV k n f := by
  apply Array.ext_getElem?
  intro i
  rw [tabV_get']
  split
  · exact h i ‹_›
  · rw [Array.getElem?_eq_none (by omega)]
theorem tabV_set (i v : Nat) (h : i < n) : (tabV k n f).setIfInBounds i (.int k (v : Nat)) = tabV k n (fun j => if j = i then v else f j) := by
  apply tabV_ext
  · rw [Array.size_setIfInBounds, tabV_size]
  · intro j hj
    rw [Array.getElem?_setIfInBounds, tabV_size]
    by_cases e : i = j
    · subst e; simp [h]
    · rw [if_neg e, tabV_get hj, if_neg (fun h => e h.symm)]
theorem tabV_one : (tabV k n f).all (·.oneCell') = true := by
  rw [Array.all_eq_true]
  intro i hi
  have : (tabV k n f)[i]? = some (tabV k n f)[i] := Array.getElem?_eq_getElem hi
  rw [tabV_get (by rw [tabV_size] at hi; exact hi)] at this
  injection this with this
  rw [← this]
  rfl
theorem tabV_inj (h : tabV k n f = tabV k n f') {i : Nat} (hi : i < n) : f i = f' i := by
  have h1 := tabV_get (k := k) (f := f) hi
  rw [h, tabV_get hi] at h1
  simp at h1
  omega
end

/-- block g is such an array -/
def Arr (w : World) (g : Nat) (t : TypeId) (k : IntKind) (n : Nat) (f : Nat → Nat) : Prop := w.heap[g]? = some (.cells (tabV k n f) t (0, 0))
section
variable {w w' : World} {g : Nat} {t : TypeId} {k : IntKind} {n : Nat} {f f' : Nat → Nat}
theorem Arr.cell (h : Arr w g t k n f) {i : Nat} (hi : i < n) : w.cell? ⟨g, i, none⟩ = some (.int k (f i : Nat)) := by
  unfold Arr at h; rw [cells_of h, tabV_get hi]
theorem Arr.free (h : Arr w g t k n f) (i : Nat) : w.frozen? ⟨g, i, none⟩ = false := free_of h i
theorem Arr.ext (h : Arr w g t k n f) (hx : Ext w w') : Arr w' g t k n f := hx.get h
theorem Arr.lt (h : Arr w g t k n f) : g < w.heap.size := lt_of_some h
theorem Arr.set_ (h : Arr w g t k n f) {i v : Nat} (hi : i < n) : Arr (w.setCell ⟨g, i, none⟩ (.int k (v : Nat))) g t k n (fun j => if j = i then v else f j) := by
  unfold Arr at *
  rw [set_of h, tabV_set i v hi]
theorem Arr.other {g' : Nat} (h : Arr w g t k n f) (hne : g ≠ g') (i : Nat) (u : Value) : Arr (w.setCell ⟨g', i, none⟩ u) g t k n f := by
  unfold Arr at *
  rw [Below.heap_setCell w ⟨g', i, none⟩ u g hne]
  exact h
theorem Arr.congr (h : Arr w g t k n f) (hf : ∀ i, i < n → f i = f' i) : Arr w g t k n f' := by
  unfold Arr at *
  rw [h, tabV_congr hf]
theorem Arr.new (w : World) (t : TypeId) (k : IntKind) (n : Nat) (f : Nat → Nat) : Arr (w.alloc (.cells (tabV k n f) t)) w.heap.size t k n f := new_of _ _
theorem Arr.row (h : Arr w g t k n f) (f' : Nat → Nat) : Arr (w.setRow g (tabV k n f')) g t k n f' := setRow_heap w g _ _ t _ h
theorem Arr.rowOther {g' : Nat} (h : Arr w g t k n f) (hne : g ≠ g') (cs : Array Value) : Arr (w.setRow g' cs) g t k n f := by
  unfold Arr at *
  rw [setRow_other w g' g cs hne]
  exact h
end
theorem ext_setRow {w w' : World} (h : Ext w w') {g : Nat} (hg : w.heap.size ≤ g) (cs : Array Value) : Ext w (w'.setRow g cs) :=
  h.trans ⟨rfl, rfl, rfl, by simp [World.setRow], fun k hk => setRow_other w' g k cs (by omega)⟩
theorem ext_setCell {w w' : World} (h : Ext w w') {p : Addr} (hg : w.heap.size ≤ p.block) (u : Value) : Ext w (w'.setCell p u) := h.setCell hg u
theorem grown_setRow {w : World} (g : Nat) (cs : Array Value) : w.grownBy (w.setRow g cs) (some g) :=
  ⟨rfl, rfl, rfl, by simp [World.setRow], fun i _ hne => setRow_other w g i cs (by rintro rfl; exact hne rfl)⟩
/-- zero cells, as the model lays them -/
theorem tabV_zero (k : IntKind) (n : Nat) : tabV k n (fun _ => 0) = Array.replicate n (.int k 0) := by
  apply Eq.symm
  apply tabV_ext (by simp)
  intro i hi
  simp [hi]

/-- a whole array is stored into a block that is known -/
theorem wpList_store_arr {P : Program} {w : World} {ops : Array Oper} {rest : List Oper} {o : Oper} {a : Act} {Q : Exit → Act → World → Prop} (hgd : o.guard = none) (ty : TypeId) (x y : Operand) (ho : o.op = .store ty x y)
    (g : Nat) (k : IntKind) (n : Nat) (f : Nat → Nat) (hx : a.eval x = .pointer (some ⟨g, 0, none⟩)) (hy : a.eval y = .agg (tabV k n f)) (t : TypeId) (old : Array Value) (hg : w.heap[g]? = some (.cells old t (0, 0)))
    (hi : (P.info? ty).map (·.size) = some n) (hold : old.size = n) (h : ∀ w', Arr w' g t k n f → w.grownBy w' (some g) → wpList P ops Q rest (a.put o.dst undef) w') : wpList P ops Q (o :: rest) a w :=
  wpList_store_row hgd ty x y ho g (tabV k n f) hx hy t old hg (by rw [tabV_size]; exact hi) (by rw [tabV_size]; exact hold) tabV_one (h _ (setRow_heap w g old _ t _ hg) (grown_setRow g _))
/-- a whole array is read -/
theorem wpList_load_arr {P : Program} {w : World} {ops : Array Oper} {rest : List Oper} {o : Oper} {a : Act} {Q : Exit → Act → World → Prop} (hgd : o.guard = none) (ty : TypeId) (x : Operand) (ho : o.op = .load ty x)
    (g : Nat) (hx : a.eval x = .pointer (some ⟨g, 0, none⟩)) (t : TypeId) (k : IntKind) (n : Nat) (f : Nat → Nat) (e : TypeId) (hg : Arr w g t k n f) (hu : P.underlying ty = some (.array n e)) (hi : (P.info? ty).map (·.size) = some n)
    (h : wpList P ops Q rest (a.put o.dst (.agg (tabV k n f))) w) : wpList P ops Q (o :: rest) a w :=
  wpList_load_row hgd ty x ho g hx t (tabV k n f) (0, 0) _ hg hu rfl (by rw [tabV_size]; exact hi) h
/-- an element of an array by value -/
theorem run_index_tab {P : Program} {t e : TypeId} {n : Nat} {k : IntKind} (hu : P.underlying t = some (.array n e)) (he : P.underlying e = some (.int k)) (hs : (P.info? e).map (·.size) = some 1) (f : Nat → Nat) (i : Nat) (hi : i < n) (w : World) :
    (Instr.index t (.agg (tabV k n f)) (.int .i64 (i : Int))).run P w = .ok (.int k (f i : Nat)) w := by
  cases hq : P.info? e with
  | none => simp [hq] at hs
  | some ie =>
    have hsz : ie.size = 1 := by simpa [hq] using hs
    have hc : (tabV k n f)[i]? = some (.int k (f i : Nat)) := tabV_get hi
    simp [Instr.index, asIntOf, Sem.run_bind, run_underlying hu, sizeOf, typeInfo, hq, hsz, hi, part, isAgg, run_underlying he, hc]

/-- the end of an array, as a slice -/
theorem run_slice_arr {P : Program} {t e : TypeId} {n : Nat} (hu : P.underlying t = some (.array n e)) (hs : (P.info? e).map (·.size) = some 1) (g r : Nat) (hr : r < n) (i : Int) (hi : i = r) (W : World) :
    (Instr.sliceAt t (.pointer (some ⟨g, 0, none⟩)) (some (.int .i64 i)) none none).run P W = .ok (.slice (some ⟨g, r, none⟩) (n - r) (n - r)) W := by
  subst hi
  cases hq : P.info? e with
  | none => simp [hq] at hs
  | some ie =>
    have hsz : ie.size = 1 := by simpa [hq] using hs
    have h1 : ¬ n = r := by omega
    have h2 : (r : Int) ≤ (n : Int) := by omega
    have h3 : (⟨g, 0, none⟩ : Addr).add r = ⟨g, r, none⟩ := by rw [(addr_add _ _).2 rfl, Nat.zero_add]
    simp [Instr.sliceAt, Instr.sureAddr, Sem.run_bind, run_underlying hu, Instr.sliceBounds, run_sliceBound, sizeOf, typeInfo, hq, hsz, h1, h2, h3]

end Go.Proofs.Ytgbdckiojjmncaa
