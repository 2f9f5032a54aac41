/-
  Small facts that every layer's texts use: new blocks, bytes, stores of whole arrays.
-/
import Derived.Test.YtgbdckiojjmncaaArrQ
namespace Go.Proofs.Ytgbdckiojjmncaa
open Go.RowKit

theorem Arr.to {w : World} {g : Nat} {t : TypeId} {k : IntKind} {n : Nat} {f f' : Nat → Nat} (h : Arr w g t k n f) {i : Nat} (hi : i < n) {v : Int} (hv : v = (f' i : Nat)) (hf : ∀ j, j < n → j ≠ i → f j = f' j) : Arr (w.setCell ⟨g, i, none⟩ (.int k v)) g t k n f' := by
  subst hv
  refine (h.set_ (v := f' i) hi).congr fun j hj => ?_
  by_cases e : j = i
  · subst e; simp
  · simp [e, hf j hj e]
theorem two_new (w : World) (o p : Obj) : ((w.alloc o).alloc p).heap[w.heap.size]? = some o ∧ ((w.alloc o).alloc p).heap[w.heap.size + 1]? = some p :=
  ⟨(Ext.alloc (w.alloc o) p).get (new_of w o), by have := new_of (w.alloc o) p; simpa using this⟩
theorem new3 (w : World) (o p q : Obj) : (((w.alloc o).alloc p).alloc q).heap[w.heap.size]? = some o ∧ (((w.alloc o).alloc p).alloc q).heap[w.heap.size + 1]? = some p ∧ (((w.alloc o).alloc p).alloc q).heap[w.heap.size + 1 + 1]? = some q := by
  obtain ⟨h1, h2⟩ := two_new w o p
  refine ⟨(Ext.alloc _ q).get h1, (Ext.alloc _ q).get h2, ?_⟩
  have h := new_of ((w.alloc o).alloc p) q
  rw [show ((w.alloc o).alloc p).heap.size = w.heap.size + 1 + 1 by simp] at h
  exact h
theorem wpList_store_arr' {P : Program} {w : World} {ops : Array Oper} {rest : List Oper} {o : Oper} {a : Act} {Q : Exit → Act → World → Prop} (hgd : o.guard = none) (hdst : o.dst = none) (ty : TypeId) (x y : Operand) (ho : o.op = .store ty x y)
    (g : Nat) (k : IntKind) (n : Nat) (f : Nat → Nat) (hx : a.eval x = .pointer (some ⟨g, 0, none⟩)) (hy : a.eval y = .agg (tabV k n f)) (t : TypeId) (old : Array Value) (hg : w.heap[g]? = some (.cells old t (0, 0)))
    (hi : (P.info? ty).map (·.size) = some n) (hold : old.size = n) (h : ∀ w', Arr w' g t k n f → w.grownBy w' (some g) → wpList P ops Q rest a w') : wpList P ops Q (o :: rest) a w :=
  wpList_store_arr hgd ty x y ho g k n f hx hy t old hg hi hold (fun w' h1 h2 => by rw [hdst]; exact h w' h1 h2)
theorem size_u8 : (Try.prog.info? 5).map (·.size) = some 1 := by kernel_rfl
theorem cells_u8 : Try.prog.cellsOf 5 = 1 := by kernel_rfl
theorem info_u8 : (Try.prog.info? 5).map (fun i => (i.zero, i.size, i.bytes)) = some (some (.int .u8 0), 1, 1) := by kernel_rfl
end Go.Proofs.Ytgbdckiojjmncaa
