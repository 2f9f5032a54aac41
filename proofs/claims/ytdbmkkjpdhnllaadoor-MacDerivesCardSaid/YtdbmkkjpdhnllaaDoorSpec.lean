/-
  What a slot of a region holds, told so that no later operation unmakes it: values, rows of bytes, rows of rows of bytes.
-/
import Derived.Test.YtdbmkkjpdhnllaaDoorFree
import Derived.Test.YtdbmkkjpdhnllaaDoorMacR
import Derived.Lib.SlBytesConst
namespace Go.Proofs.YtdbmkkjpdhnllaaDoor
open Go.RowKit

/-- nothing has turned but marks of rows -/
structure Lz (w w' : World) : Prop where
  size : w.heap.size ≤ w'.heap.size
  block : ∀ (k : Nat) (cs : Array Value) (t : TypeId) (fr : Nat × Nat), w.heap[k]? = some (.cells cs t fr) → ∃ fr', w'.heap[k]? = some (.cells cs t fr')
theorem Lz.refl (w : World) : Lz w w := ⟨Nat.le_refl _, fun _ _ _ fr h => ⟨fr, h⟩⟩
theorem Lz.ofExt {w w' : World} (h : Ext w w') : Lz w w' := ⟨h.size, fun _ _ _ fr hh => ⟨fr, h.get hh⟩⟩
theorem Lz.alloc (w : World) (o : Obj) : Lz w (w.alloc o) := Lz.ofExt (Ext.alloc w o)
section
variable {w w' : World} {S T : Nat → TypeId → Prop} {A : Option Addr} {l : List UInt8} {ls : List (List UInt8)}
theorem RB.lz (h : RB w S A l) (hx : Lz w w') : RB w' S A l := by
  intro hl
  obtain ⟨g, off, cs, t, fr, rfl, hh, hs, hc⟩ := h hl
  obtain ⟨fr', hh'⟩ := hx.block _ _ _ _ hh
  exact ⟨g, off, cs, t, fr', rfl, hh', hs, hc⟩
theorem RBC.lz (h : RBC w S T A ls) (hx : Lz w w') : RBC w' S T A ls := by
  intro hl
  obtain ⟨g, off, cs, t, fr, rfl, hh, hs, hc⟩ := h hl
  obtain ⟨fr', hh'⟩ := hx.block _ _ _ _ hh
  exact ⟨g, off, cs, t, fr', rfl, hh', hs, fun j l hj => (hc j l hj).imp fun B ⟨c, h1, h2, h3⟩ => ⟨c, h1, h2.lz hx, h3⟩⟩
end

/-- what a slot holds -/
inductive Sp where
  | any
  | val (x : Value)
  | lit (cs : Array Value)
  | len (n : Nat)
  | byt (l : List UInt8)
  | rows (ls : List (List UInt8))
def Sp.holds (base : Nat) : Sp → Value → World → Prop
  | .any, _, _ => True
  | .val x, v, _ => v = x
  | .lit cs, v, W => ∃ g fr, v = .slice (some ⟨g, 0, none⟩) cs.size cs.size ∧ base ≤ g ∧ W.heap[g]? = some (.cells cs 5 fr)
  | .len n, v, _ => ∃ A c, v = .slice A n c
  | .byt l, v, W => ∃ A c, v = .slice A l.length c ∧ RB W (fun _ _ => True) A l ∧ l.length ≤ c ∧ c ≤ 9223372036854775807
  | .rows ls, v, W => ∃ A c, v = .slice A ls.length c ∧ RBC W (fun _ _ => True) (fun _ _ => True) A ls
def Sp.at_ (sp : List Sp) (base d : Nat) (v : Value) (W : World) : Prop := (sp.getD d .any).holds base v W
theorem Sp.mono (sp : List Sp) (base : Nat) : ∀ d v W W', Sp.at_ sp base d v W → Lz W W' → Sp.at_ sp base d v W' := by
  intro d v W W' h hx
  unfold Sp.at_ at *
  generalize sp.getD d .any = x at *
  cases x with
  | any => trivial
  | val x => exact h
  | lit cs =>
    obtain ⟨g, fr, h1, h2, h3⟩ := h
    obtain ⟨fr', h4⟩ := hx.block _ _ _ _ h3
    exact ⟨g, fr', h1, h2, h4⟩
  | len n => exact h
  | byt l =>
    obtain ⟨A, c, h1, h2, h3⟩ := h
    exact ⟨A, c, h1, h2.lz hx, h3⟩
  | rows ls =>
    obtain ⟨A, c, h1, h2⟩ := h
    exact ⟨A, c, h1, h2.lz hx⟩
/-- a row of bytes that is written out reads as its bytes -/
theorem lit_rb {W : World} {g : Nat} {cs : Array Value} {t : TypeId} {fr : Nat × Nat} (h : W.heap[g]? = some (.cells cs t fr)) (l : List UInt8) (hl : cs.toList = l.map u8) : RB W (fun _ _ => True) (some ⟨g, 0, none⟩) l := by
  intro _
  refine ⟨g, 0, cs, t, fr, rfl, h, trivial, fun j b hj => ?_⟩
  rw [Nat.zero_add, ← Array.getElem?_toList, hl, List.getElem?_map, hj]
  rfl

theorem wanted_guard {ops : Array Oper} {o : Oper} {tmps : Array Value} {j d : Nat} {b : Bool} (hg : o.guard = some (j, b)) (hd : dstOf ops j = some d) (hv : tmps.getD d undef = .bool b) : Region.wanted o (yielded ops tmps) = true := by
  have hy : yielded ops tmps j = some b := by
    unfold yielded
    unfold dstOf at hd
    rw [hd]
    have : tmps[d]? = some (.bool b) := by
      rw [Array.getD_eq_getD_getElem?] at hv
      cases h : tmps[d]? with
      | none => rw [h] at hv; cases hv
      | some v => rw [h] at hv; rw [← hv]; rfl
    simp [this]
  unfold Region.wanted
  rw [hg]
  simp [hy]
theorem unwanted_guard {ops : Array Oper} {o : Oper} {tmps : Array Value} {j d : Nat} {b b' : Bool} (hg : o.guard = some (j, b)) (hd : dstOf ops j = some d) (hv : tmps.getD d undef = .bool b') (hne : b' ≠ b) : Region.wanted o (yielded ops tmps) = false := by
  have hy : yielded ops tmps j = some b' := by
    unfold yielded
    unfold dstOf at hd
    rw [hd]
    have : tmps[d]? = some (.bool b') := by
      rw [Array.getD_eq_getD_getElem?] at hv
      cases h : tmps[d]? with
      | none => rw [h] at hv; cases hv
      | some v => rw [h] at hv; rw [← hv]; rfl
    simp [this]
  unfold Region.wanted
  rw [hg]
  simp [hy, hne]
theorem evals {a : Act} {d : Nat} {v : Value} (h : a.tmps.getD d undef = v) : a.eval (.tmp d) = v := h
theorem getDs {a : Act} {d : Nat} {v : Value} (h : a.tmps.getD d undef = v) : a.tmps[d]?.getD undef = v := by rw [← h, Array.getD_eq_getD_getElem?]

/-- a constant's bytes as bytes: the row is marked -/
theorem wp_convert_mark {P : Program} {o : Oper} {a : Act} {W : World} {K : Act → World → Prop} {Q : Exit → Act → World → Prop} (t e : TypeId) (x : Operand) (ho : o.op = .convert t t x) (ht : P.underlying t = some (.slice e)) (he : P.underlying e = some (.int .u8))
    (g n c : Nat) (C : Array Value) (fr : Nat × Nat) (hx : a.eval x = .slice (some ⟨g, 0, none⟩) n c) (hg : W.heap[g]? = some (.cells C e fr))
    (h : ∀ W' fr', W'.heap[g]? = some (.cells C e fr') → Lz W W' → (∀ w, w.heap.size ≤ g → Ext w W → Ext w W') → K (a.put o.dst (.slice (some ⟨g, 0, none⟩) n c)) W') : Oper.wp P o a W K Q := by
  have hsh : W.shape? g = some (e, C.size) := by unfold World.shape?; rw [hg]
  have hrun : (convert t t (.slice (some ⟨g, 0, none⟩) n c)).run P W = .ok (.slice (some ⟨g, 0, none⟩) n c) (W.freeze ⟨g, C.size, none⟩ 1) := by
    simp [convert, run_underlying ht, run_underlying he, markStringish, hsh]
  unfold Oper.wp execOp
  simp only [ho, hx, Sem.run_bind, Sem.run_pure, Result.andThen_ok, hrun]
  have hother : ∀ k, k ≠ g → (W.freeze ⟨g, C.size, none⟩ 1).heap[k]? = W.heap[k]? := by
    intro k hk
    unfold World.freeze
    rw [if_neg (by decide)]
    simp only [Array.getElem?_modify, if_neg (fun e => hk (Eq.symm e))]
  have hself : ∃ fr', (W.freeze ⟨g, C.size, none⟩ 1).heap[g]? = some (.cells C e fr') := by
    obtain ⟨lo, hi⟩ := fr
    unfold World.freeze
    rw [if_neg (by decide)]
    simp only [Array.getElem?_modify, if_true, hg, Option.map_some]
    exact ⟨_, rfl⟩
  obtain ⟨fr', hs⟩ := hself
  have hsz : (W.freeze ⟨g, C.size, none⟩ 1).heap.size = W.heap.size := by
    unfold World.freeze
    rw [if_neg (by decide)]
    simp
  have hos : (W.freeze ⟨g, C.size, none⟩ 1).os = W.os ∧ (W.freeze ⟨g, C.size, none⟩ 1).tape = W.tape ∧ (W.freeze ⟨g, C.size, none⟩ 1).output = W.output := by
    unfold World.freeze
    rw [if_neg (by decide)]
    exact ⟨rfl, rfl, rfl⟩
  refine h _ fr' hs ⟨by omega, fun k cs t' fr1 hk => ?_⟩ (fun w hw hx => ⟨hos.1.trans hx.os, hos.2.1.trans hx.tape, hos.2.2.trans hx.output, by have := hx.size; omega, fun k hk => (hother k (by omega)).trans (hx.block k hk)⟩)
  by_cases e1 : k = g
  · subst e1
    rw [hg] at hk
    injection hk with hk
    injection hk with h1 h2 h3
    subst h1 h2
    exact ⟨fr', hs⟩
  · exact ⟨fr1, by rw [hother k e1]; exact hk⟩
end Go.Proofs.YtdbmkkjpdhnllaaDoor
