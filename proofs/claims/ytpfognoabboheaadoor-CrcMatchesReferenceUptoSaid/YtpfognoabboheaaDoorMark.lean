/-
  A constant's bytes as bytes: the row is marked, and reads as before.
-/
import Derived.Test.YtpfognoabboheaaDoorRowsC
namespace Go.Proofs.YtpfognoabboheaaDoor
open Go.RowKit

/-- nothing has turned but marks of rows -/
structure Lz (w w' : World) : Prop where
  size : w.heap.size ≤ w'.heap.size
  block : ∀ (k : Nat) (cs : Array Value) (t : TypeId) (fr : Nat × Nat), w.heap[k]? = some (.cells cs t fr) → ∃ fr', w'.heap[k]? = some (.cells cs t fr')
theorem Lz.refl (w : World) : Lz w w := ⟨Nat.le_refl _, fun _ _ _ fr h => ⟨fr, h⟩⟩
theorem Lz.ofExt {w w' : World} (h : Ext w w') : Lz w w' := ⟨h.size, fun _ _ _ fr hh => ⟨fr, h.get hh⟩⟩
theorem Lz.alloc (w : World) (o : Obj) : Lz w (w.alloc o) := Lz.ofExt (Ext.alloc w o)
section
variable {w w' : World} {S T : Nat → TypeId → Prop} {A : Option Addr} {l : List UInt8} {ls : List (List UInt8)}
theorem RB.lz (h : RB w S A l) (hx : Lz w w') : RB w' S A l := by
  intro hl
  obtain ⟨g, off, cs, t, fr, rfl, hh, hs, hc⟩ := h hl
  obtain ⟨fr', hh'⟩ := hx.block _ _ _ _ hh
  exact ⟨g, off, cs, t, fr', rfl, hh', hs, hc⟩
theorem RBC.lz (h : RBC w S T A ls) (hx : Lz w w') : RBC w' S T A ls := by
  intro hl
  obtain ⟨g, off, cs, t, fr, rfl, hh, hs, hc⟩ := h hl
  obtain ⟨fr', hh'⟩ := hx.block _ _ _ _ hh
  exact ⟨g, off, cs, t, fr', rfl, hh', hs, fun j l hj => (hc j l hj).imp fun B ⟨c, h1, h2, h3⟩ => ⟨c, h1, h2.lz hx, h3⟩⟩
end

/-- a row of bytes that is written out reads as its bytes -/
theorem lit_rb {W : World} {g : Nat} {cs : Array Value} {t : TypeId} {fr : Nat × Nat} (h : W.heap[g]? = some (.cells cs t fr)) (l : List UInt8) (hl : cs.toList = l.map u8) : RB W (fun _ _ => True) (some ⟨g, 0, none⟩) l := by
  intro _
  refine ⟨g, 0, cs, t, fr, rfl, h, trivial, fun j b hj => ?_⟩
  rw [Nat.zero_add, ← Array.getElem?_toList, hl, List.getElem?_map, hj]
  rfl

/-- a constant's bytes as bytes: the row is marked -/
theorem wp_convert_mark {P : Program} {o : Oper} {a : Act} {W : World} {K : Act → World → Prop} {Q : Exit → Act → World → Prop} (t e : TypeId) (x : Operand) (ho : o.op = .convert t t x) (ht : P.underlying t = some (.slice e)) (he : P.underlying e = some (.int .u8))
    (g n c : Nat) (C : Array Value) (fr : Nat × Nat) (hx : a.eval x = .slice (some ⟨g, 0, none⟩) n c) (hg : W.heap[g]? = some (.cells C e fr))
    (h : ∀ W' fr', W'.heap[g]? = some (.cells C e fr') → Lz W W' → (∀ w, w.heap.size ≤ g → Ext w W → Ext w W') → K (a.put o.dst (.slice (some ⟨g, 0, none⟩) n c)) W') : Oper.wp P o a W K Q := by
  have hsh : W.shape? g = some (e, C.size) := by unfold World.shape?; rw [hg]
  have hrun : (convert t t (.slice (some ⟨g, 0, none⟩) n c)).run P W = .ok (.slice (some ⟨g, 0, none⟩) n c) (W.freeze ⟨g, C.size, none⟩ 1) := by
    simp [convert, run_underlying ht, run_underlying he, markStringish, hsh]
  unfold Oper.wp execOp
  simp only [ho, hx, Sem.run_bind, Sem.run_pure, Result.andThen_ok, hrun]
  have hother : ∀ k, k ≠ g → (W.freeze ⟨g, C.size, none⟩ 1).heap[k]? = W.heap[k]? := by
    intro k hk
    unfold World.freeze
    rw [if_neg (by decide)]
    simp only [Array.getElem?_modify, if_neg (fun e => hk (Eq.symm e))]
  have hself : ∃ fr', (W.freeze ⟨g, C.size, none⟩ 1).heap[g]? = some (.cells C e fr') := by
    obtain ⟨lo, hi⟩ := fr
    unfold World.freeze
    rw [if_neg (by decide)]
    simp only [Array.getElem?_modify, if_true, hg, Option.map_some]
    exact ⟨_, rfl⟩
  obtain ⟨fr', hs⟩ := hself
  have hsz : (W.freeze ⟨g, C.size, none⟩ 1).heap.size = W.heap.size := by
    unfold World.freeze
    rw [if_neg (by decide)]
    simp
  have hos : (W.freeze ⟨g, C.size, none⟩ 1).os = W.os ∧ (W.freeze ⟨g, C.size, none⟩ 1).tape = W.tape ∧ (W.freeze ⟨g, C.size, none⟩ 1).output = W.output := by
    unfold World.freeze
    rw [if_neg (by decide)]
    exact ⟨rfl, rfl, rfl⟩
  refine h _ fr' hs ⟨by omega, fun k cs t' fr1 hk => ?_⟩ (fun w hw hx => ⟨hos.1.trans hx.os, hos.2.1.trans hx.tape, hos.2.2.trans hx.output, by have := hx.size; omega, fun k hk => (hother k (by omega)).trans (hx.block k hk)⟩)
  by_cases e1 : k = g
  · subst e1
    rw [hg] at hk
    injection hk with hk
    injection hk with h1 h2 h3
    subst h1 h2
    exact ⟨fr', hs⟩
  · exact ⟨fr1, by rw [hother k e1]; exact hk⟩
/-- the same in a region in the text's order -/
theorem wpList_mark {P : Program} {ops : Array Oper} {rest : List Oper} {o : Oper} {a : Act} {W : World} {Q : Exit → Act → World → Prop} (hgd : o.guard = none) (t e : TypeId) (x : Operand) (ho : o.op = .convert t t x) (ht : P.underlying t = some (.slice e)) (he : P.underlying e = some (.int .u8))
    (g n c : Nat) (C : Array Value) (fr : Nat × Nat) (hx : a.eval x = .slice (some ⟨g, 0, none⟩) n c) (hg : W.heap[g]? = some (.cells C e fr))
    (h : ∀ W' fr', W'.heap[g]? = some (.cells C e fr') → Lz W W' → (∀ w, w.heap.size ≤ g → Ext w W → Ext w W') → wpList P ops Q rest (a.put o.dst (.slice (some ⟨g, 0, none⟩) n c)) W') : wpList P ops Q (o :: rest) a W :=
  wpList_plain hgd fun _ hK => wp_convert_mark t e x ho ht he g n c C fr hx hg fun W' fr' h1 h2 h3 => hK _ _ (h W' fr' h1 h2 h3)
end Go.Proofs.YtpfognoabboheaaDoor
