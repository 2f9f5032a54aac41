/-
  The reference's state after a block.
  The reference: the table and the start of SHA-256.
  The padding of the reference.
  The reference's digest of bytes.
  The reference's code of bytes under a key.
-/
import Derived.Test.YtagegigffohcbaaDoorME
import Derived.StillTailTactics
import Derived.IntWalk
import Derived.Test.YtagegigffohcbaaDoorMA
import Derived.Deep.RegionHeld3
import Derived.Test.YtagegigffohcbaaDoorMF
set_option linter.unusedVariables false
set_option linter.unusedSimpArgs false
namespace Go.Proofs.YtagegigffohcbaaDoor
open Go.RowKit

theorem wpart_at (bl : Nat → Nat) {i k : Nat} (hk : k < 4) : wpart bl (4 * i + k + 1) i = wpart bl (4 * i + k) i * 256 + bl (4 * i + k) := by
  have h := wpart_same bl (4 * i + k)
  rw [show (4 * i + k) / 4 = i by omega] at h
  exact h
theorem wpart_at_low {bl : Nat → Nat} (hb : ∀ i, bl i < 256) {i k : Nat} (hk : k < 4) : wpart bl (4 * i + k) i < 16777216 := by
  have h := wpart_low hb (4 * i + k)
  rw [show (4 * i + k) / 4 = i by omega] at h
  exact h
theorem new5q (w : World) (o p q r s : Obj) : (((((w.alloc o).alloc p).alloc q).alloc r).alloc s).heap[w.heap.size]? = some o ∧ (((((w.alloc o).alloc p).alloc q).alloc r).alloc s).heap[w.heap.size + 1]? = some p ∧
    (((((w.alloc o).alloc p).alloc q).alloc r).alloc s).heap[w.heap.size + 1 + 1]? = some q ∧ (((((w.alloc o).alloc p).alloc q).alloc r).alloc s).heap[w.heap.size + 1 + 1 + 1]? = some r ∧
    (((((w.alloc o).alloc p).alloc q).alloc r).alloc s).heap[w.heap.size + 1 + 1 + 1 + 1]? = some s := by
  obtain ⟨h1, h2, h3⟩ := new3 w o p q
  have x1 := (Ext.alloc (((w.alloc o).alloc p).alloc q) r)
  have x2 := x1.tr (Ext.alloc _ s)
  refine ⟨x2.get h1, x2.get h2, x2.get h3, ?_, ?_⟩
  · have h := new_of (((w.alloc o).alloc p).alloc q) r
    rw [show (((w.alloc o).alloc p).alloc q).heap.size = w.heap.size + 1 + 1 + 1 by simp] at h
    exact (Ext.alloc _ s).get h
  · have h := new_of ((((w.alloc o).alloc p).alloc q).alloc r) s
    rw [show ((((w.alloc o).alloc p).alloc q).alloc r).heap.size = w.heap.size + 1 + 1 + 1 + 1 by simp] at h
    exact h

/-- the blocks of the reference's Block: its arguments, its result, its words -/
def Rb (w wr : World) (st : St) (bl kf f : Nat → Nat) : Prop :=
  Arr wr (w.heap.size + 1 + 1 + 1 + 1) 114 .u32 64 f ∧ Arr wr (w.heap.size + 1) 96 .u8 64 bl ∧ Arr wr w.heap.size 107 .u32 8 st.get ∧ Arr wr (w.heap.size + 1 + 1) 114 .u32 64 kf ∧
    Arr wr (w.heap.size + 1 + 1 + 1) 107 .u32 8 (fun _ => 0) ∧ Ext w wr
theorem Rb.ext {w wr wr' : World} {st : St} {bl kf f : Nat → Nat} (h : Rb w wr st bl kf f) (hx : Ext wr wr') : Rb w wr' st bl kf f :=
  ⟨h.1.ext hx, h.2.1.ext hx, h.2.2.1.ext hx, h.2.2.2.1.ext hx, h.2.2.2.2.1.ext hx, h.2.2.2.2.2.tr hx⟩
theorem Rb.congr {w wr : World} {st : St} {bl kf f f' : Nat → Nat} (h : Rb w wr st bl kf f) (hf : ∀ i, i < 64 → f i = f' i) : Rb w wr st bl kf f' := ⟨h.1.congr hf, h.2⟩
theorem Rb.set_ {w wr : World} {st : St} {bl kf f f' : Nat → Nat} (h : Rb w wr st bl kf f) {i : Nat} (hi : i < 64) {v : Int} (hv : v = (f' i : Nat)) (hf : ∀ j, j < 64 → j ≠ i → f j = f' j) : Rb w (wr.setCell ⟨w.heap.size + 1 + 1 + 1 + 1, i, none⟩ (.int .u32 v)) st bl kf f' :=
  ⟨h.1.to hi hv hf, h.2.1.other (by omega) _ _, h.2.2.1.other (by omega) _ _, h.2.2.2.1.other (by omega) _ _, h.2.2.2.2.1.other (by omega) _ _, Below.setCell h.2.2.2.2.2 (by simp; omega) _⟩
theorem Rb.grown {w wr wr' : World} {st : St} {bl kf f : Nat → Nat} (h : Rb w wr st bl kf f) {gv : Nat} (hg : w.heap.size + 1 + 1 + 1 + 1 < gv) (hx : wr.grownBy wr' (some gv)) : Rb w wr' st bl kf f :=
  ⟨grown_get hx h.1 (by simp; omega), grown_get hx h.2.1 (by simp; omega), grown_get hx h.2.2.1 (by simp; omega), grown_get hx h.2.2.2.1 (by simp; omega), grown_get hx h.2.2.2.2.1 (by simp; omega),
    grown_new h.2.2.2.2.2 hx (fun g hg' => by simp at hg'; omega)⟩
theorem rb_start (w : World) (st : St) (bl kf : Nat → Nat) :
    Rb w (((((w.alloc (.cells (tabV .u32 8 st.get) 107)).alloc (.cells (tabV .u8 64 bl) 96)).alloc (.cells (tabV .u32 64 kf) 114)).alloc (.cells (tabV .u32 8 (fun _ => 0)) 107)).alloc (.cells (tabV .u32 64 (fun _ => 0)) 114)) st bl kf (fun _ => 0) := by
  obtain ⟨h0, h1, h2, h3, h4⟩ := new5q w (.cells (tabV .u32 8 st.get) 107) (.cells (tabV .u8 64 bl) 96) (.cells (tabV .u32 64 kf) 114) (.cells (tabV .u32 8 (fun _ => 0)) 107) (.cells (tabV .u32 64 (fun _ => 0)) 114)
  exact ⟨h4, h1, h0, h2, h3, ((((Ext.alloc _ _).tr (Ext.alloc _ _)).tr (Ext.alloc _ _)).tr (Ext.alloc _ _)).tr (Ext.alloc _ _)⟩

/-- the words of a state while they are moved on -/
def shifted (s : St) (k i : Nat) : Nat := if k < i then s.get (i - 1) else s.get i
theorem shifted_start (s : St) {i : Nat} (h : i < 8) : s.get i = shifted s 7 i := by unfold shifted; rw [if_neg (by omega)]
theorem mk_get (s : St) (p q : Nat) {i : Nat} (h : i < 8) : (if i = 0 then p else if i = 4 then q else shifted s 0 i) = (St.mk p s.a s.b s.c q s.e s.f s.g).get i := by
  unfold shifted
  rcases i with _ | _ | _ | _ | _ | _ | _ | _ | i <;> first | (simp [St.get]; done) | omega
theorem rnd_get (s : St) (k x : Nat) {i : Nat} (h : i < 8) : (if i = 0 then ad (tOf s k x) (uOf s) else if i = 4 then ad s.d (tOf s k x) else shifted s 0 i) = (srnd s k x).get i := by
  unfold srnd
  exact mk_get s _ _ h
end Go.Proofs.YtagegigffohcbaaDoor

namespace Go.Proofs.YtagegigffohcbaaDoor
open Go.RowKit

theorem cells_u32 : Tryd.prog.cellsOf 106 = 1 := by kernel_rfl
theorem noGuard_st : Tryd.prog.eqGuardType Tryd.prog.depth 107 = false := by kernel_rfl
theorem noGuard_dig : Tryd.prog.eqGuardType Tryd.prog.depth 82 = false := by kernel_rfl

end Go.Proofs.YtagegigffohcbaaDoor

namespace Go.Proofs.YtagegigffohcbaaDoor
open Go.RowKit


theorem pad_zero_at (n k : Nat) (h : k < zeros n) : (pad n)[1 + k]? = some 0 := by
  rw [pad, Nat.add_comm, List.getElem?_cons_succ, List.getElem?_append_left (by simpa using h), List.getElem?_replicate, if_pos h]
theorem pad_size_at (n j : Nat) (h : j < 8) : (pad n)[1 + zeros n + j]? = some (UInt8.ofNat (8 * n / 2 ^ (8 * (7 - j)))) := by
  rw [pad, show 1 + zeros n + j = (zeros n + j) + 1 by omega, List.getElem?_cons_succ, List.getElem?_append_right (by simp), List.length_replicate, show zeros n + j - zeros n = j by omega]
  simp [size8, h]
theorem take_snoc_some {α : Type} {l : List α} {m : Nat} {x : α} (h : l[m]? = some x) : l.take m ++ [x] = l.take (m + 1) := by
  obtain ⟨hl, e⟩ := List.getElem?_eq_some_iff.1 h
  rw [List.take_succ_eq_append_getElem hl, e]
theorem zeros_least (n k : Nat) (h : k ≤ zeros n) : (n + 1 + k + 8) % 64 = 0 ↔ k = zeros n := by unfold zeros at *; omega

end Go.Proofs.YtagegigffohcbaaDoor

namespace Go.Proofs.YtagegigffohcbaaDoor
open Go.RowKit

/-- in a region whose last operations alone write: a whole array is read -/
theorem wpStill_load_arr {P : Program} {ops : Array Oper} {w : World} {Q : Act → Prop} {a : Act} {o : Oper} {rest : List Oper} (hw : Region.wanted o (yielded ops a.tmps) = true) (ty : TypeId) (x : Operand) (ho : o.op = .load ty x) (g off : Nat) (hx : a.eval x = .pointer (some ⟨g, off, none⟩)) (k : IntKind) (n : Nat) (f : Nat → Nat) (e : TypeId)
    (hS : w.rangeAt g off (tabV k n f).toList) (hu : P.underlying ty = some (.array n e)) (hz : (P.info? ty).map (·.size) = some n) (h : wpStill P ops w Q rest (a.put o.dst (.agg (tabV k n f)))) : wpStill P ops w Q (o :: rest) a := by
  refine wpStill_step (fun K hK => ?_)
  rw [if_pos hw]
  have hl := run_loadVar_mid (P := P) w g off ty (tabV k n f).toList _ hS hu rfl (by rw [Array.length_toList, tabV_size]; exact hz)
  rw [Array.toArray_toList] at hl
  unfold Oper.still execOp
  simp only [ho, hx, Instr.loadAt, Instr.sureAddr, Sem.run_bind, Sem.run_pure, Result.andThen_ok, hl, Oper.stillUpon_value]
  exact hK _ h
/-- a part of a slice -/
theorem run_slice_row {P : Program} {t e : TypeId} (hu : P.underlying t = some (.slice e)) (hs : (P.info? e).map (·.size) = some 1) (g off len cap lo n : Nat) (h1 : lo + n ≤ cap) (h2 : 0 < n) (i j : Int) (hi : i = lo) (hj : j = ((lo + n : Nat) : Int)) (W : World) :
    (Instr.sliceAt t (.slice (some ⟨g, off, none⟩) len cap) (some (.int .i64 i)) (some (.int .i64 j)) none).run P W = .ok (.slice (some ⟨g, off + lo, none⟩) n (cap - lo)) W := by
  subst hi hj
  cases hq : P.info? e with
  | none => simp [hq] at hs
  | some ie =>
    have hsz : ie.size = 1 := by simpa [hq] using hs
    have a1 : ¬ cap = lo := by omega
    have a2 : (((lo + n : Nat) : Int)) ≤ (cap : Int) := by omega
    have a3 : (lo : Int) ≤ ((lo + n : Nat) : Int) := by omega
    have a4 : (⟨g, off, none⟩ : Addr).add lo = ⟨g, off + lo, none⟩ := (addr_add _ _).2 rfl
    have a5 : lo + n - lo = n := by omega
    rw [show (Instr.sliceAt t (.slice (some ⟨g, off, none⟩) len cap) (some (.int .i64 (lo : Int))) (some (.int .i64 ((lo + n : Nat) : Int))) none).run P W = (Instr.slice t (.slice (some ⟨g, off, none⟩) len cap) (some (.int .i64 (lo : Int))) (some (.int .i64 ((lo + n : Nat) : Int))) none).run P W by simp [Instr.sliceAt, run_underlying hu]]
    simp only [Instr.slice, Sem.run_bind, run_underlying hu, Result.andThen_ok, Instr.sliceBounds, Sem.run_pure, run_sliceBound W .i64 _ cap _ (Int.natCast_nonneg _) a2, Int.toNat_natCast]
    simp [run_sliceBound W .i64 (lo : Int) (lo + n) _ (Int.natCast_nonneg _) a3, sizeOf, typeInfo, hq, hsz, a1, a4]

theorem own_empty (w : World) (X : Obj) : OwnB ((w.alloc X).alloc (.cells #[] 5)) 5 w.heap.size (some ⟨w.heap.size + 1, 0, none⟩) 0 [] := by
  have h := OwnB.lit (w := w.alloc X) (E := 5) (base := w.heap.size) [] #[] rfl (by simp) (by simp [maxLen])
  rw [show (w.alloc X).heap.size = w.heap.size + 1 by simp] at h
  exact h
/-- the digest's blocks: the state and the table; the padded bytes; the result -/
def HeldS (w : World) (g4 g5 : Nat) (A : Option Addr) (c : Nat) (l : List UInt8) (st : St) (V : World) : Prop :=
  Arr V g4 107 .u32 8 st.get ∧ Arr V g5 114 .u32 64 kc ∧ OwnB V 5 w.heap.size A c l ∧ Arr V w.heap.size 82 .u8 32 (fun _ => 0) ∧ Ext w V
theorem HeldS.ext {w : World} {g4 g5 : Nat} {A : Option Addr} {c : Nat} {l : List UInt8} {st : St} {V V' : World} (h : HeldS w g4 g5 A c l st V) (hx : Ext V V') : HeldS w g4 g5 A c l st V' :=
  ⟨h.1.ext hx, h.2.1.ext hx, h.2.2.1.ext hx, h.2.2.2.1.ext hx, h.2.2.2.2.tr hx⟩
theorem HeldS.store {w : World} {g4 g5 : Nat} {A : Option Addr} {c : Nat} {l : List UInt8} {st st' : St} {V V' : World} (h : HeldS w g4 g5 A c l st V) (h1 : g4 < g5) (h2 : w.heap.size < g4) (hA : Arr V' g4 107 .u32 8 st'.get) (hG : V.grownBy V' (some g4)) : HeldS w g4 g5 A c l st' V' :=
  ⟨hA, grown_get hG h.2.1 (by simp; omega), h.2.2.1.far hG h.1 (by decide), grown_get hG h.2.2.2.1 (by simp; omega), grown_new h.2.2.2.2 hG (fun g hg => by simp at hg; omega)⟩
/-- what a law is told of a slice of slices of bytes that came in, the capacities with it -/
def IsRowsC (w : World) (a : Option Addr) (len cap : Nat) (ls : List (List UInt8)) : Prop :=
  ls.length = len ∧ len ≤ cap ∧ cap ≤ maxLen ∧ RBC w (fun g _ => g < w.heap.size) (fun g _ => g < w.heap.size) a ls

end Go.Proofs.YtagegigffohcbaaDoor

namespace Go.Proofs.YtagegigffohcbaaDoor
open Go.RowKit

theorem btl_succ (n : Nat) (f : Nat → Nat) : btl (n + 1) f = btl n f ++ [UInt8.ofNat (f n)] := by
  unfold btl
  rw [List.range_succ, List.map_append]
  rfl
/-- two rows of the call's own in blocks of their own -/
def Apart (A B : Value) : Prop := ∀ g, A.ownBlock = some g → B.ownBlock ≠ some g
theorem OwnB.keepA {w w' : World} {E : TypeId} {base c : Nat} {A : Option Addr} {l : List UInt8} {V : Value} (h : OwnB w E base A c l) (hg : w.grownBy w' V.ownBlock) (hne : Apart (.slice A l.length c) V) : OwnB w' E base A c l := by
  refine h.keep fun g o hA _ hh => grown_get hg hh (fun e => ?_)
  subst hA
  exact hne g rfl e
theorem OwnB.below {w : World} {E : TypeId} {base c : Nat} {A : Option Addr} {l : List UInt8} (h : OwnB w E base A c l) : ∀ g, (Value.slice A l.length c).ownBlock = some g → g < w.heap.size := by
  rcases h.block with ⟨rfl, _, _⟩ | ⟨g, cs, rfl, _, hh, _⟩
  · intro g hg; simp [Value.ownBlock] at hg
  · intro g' hg'; simp [Value.ownBlock] at hg'; subst hg'; exact lt_of_some hh
theorem byte_of {x : Nat} (h : x < 256) : ∃ b : UInt8, b.toNat = x ∧ b = UInt8.ofNat x := ⟨UInt8.ofNat x, by rw [UInt8.toNat_ofNat']; exact Nat.mod_eq_of_lt h, rfl⟩
theorem OwnB.notAt {w : World} {E : TypeId} {base c : Nat} {A : Option Addr} {l : List UInt8} (h : OwnB w E base A c l) {g : Nat} {cs : Array Value} {t : TypeId} {fr : Nat × Nat} (hg : w.heap[g]? = some (.cells cs t fr)) (hne : t ≠ E) : (Value.slice A l.length c).ownBlock ≠ some g := by
  rcases h.block with ⟨rfl, _, _⟩ | ⟨g', cs', rfl, _, hh, _⟩
  · simp [Value.ownBlock]
  · intro e
    simp [Value.ownBlock] at e
    subst e
    rw [hg] at hh
    injection hh with hh
    injection hh with _ ht _
    exact hne ht

end Go.Proofs.YtagegigffohcbaaDoor
