/-
  Slices of slices of bytes, with what is said of their capacities; parts joined.
-/
import Derived.Test.YtgbdckiojjmncaaKit
namespace Go.Proofs.Ytgbdckiojjmncaa
open Go.RowKit

theorem flat_take (ls : List (List UInt8)) (k : Nat) (h : k < ls.length) : (ls.take (k + 1)).flatten = (ls.take k).flatten ++ ls[k] := by
  rw [List.take_succ_eq_append_getElem h, List.flatten_append]
  simp only [List.flatten_cons, List.flatten_nil, List.append_nil]
theorem flat_len_le (ls : List (List UInt8)) (k : Nat) : (ls.take k).flatten.length ≤ ls.flatten.length := by
  have : ls.flatten = (ls.take k).flatten ++ (ls.drop k).flatten := by rw [← List.flatten_append, List.take_append_drop]
  rw [this, List.length_append]
  omega
/-- the bytes of the first k parts -/
def flt (ls : List (List UInt8)) (k : Nat) : List UInt8 := (ls.take k).flatten
/-- the bytes of all parts -/
def fla (ls : List (List UInt8)) : List UInt8 := ls.flatten
theorem flt_zero (ls : List (List UInt8)) : flt ls 0 = [] := by simp [flt]
theorem flt_step (ls : List (List UInt8)) (k : Nat) (h : k < ls.length) : flt ls k ++ ls[k] = flt ls (k + 1) := (flat_take ls k h).symm
theorem flt_all (ls : List (List UInt8)) {k : Nat} (h : ls.length ≤ k) : flt ls k = fla ls := by rw [flt, List.take_of_length_le h, fla]
theorem flt_le (ls : List (List UInt8)) (k : Nat) : (flt ls k).length ≤ (fla ls).length := flat_len_le ls k
theorem flt_more (ls : List (List UInt8)) (k : Nat) (h : k < ls.length) : (flt ls k).length + (ls[k]).length ≤ (fla ls).length := by
  rw [← List.length_append, flt_step ls k h]
  exact flt_le ls _

/-- A slice of slices of bytes, the capacities no less than the lengths. -/
def RBC (w : World) (S T : Nat → TypeId → Prop) (A : Option Addr) (ls : List (List UInt8)) : Prop :=
  0 < ls.length → ∃ g off cs t fr, A = some ⟨g, off, none⟩ ∧ w.heap[g]? = some (.cells cs t fr) ∧ S g t ∧
    ∀ j l, ls[j]? = some l → ∃ B c, cs[off + j]? = some (.slice B l.length c) ∧ RB w T B l ∧ l.length ≤ c ∧ c ≤ 9223372036854775807
theorem RBC.rbs {w : World} {S T : Nat → TypeId → Prop} {A : Option Addr} {ls : List (List UInt8)} (h : RBC w S T A ls) : RBs w S T A ls := by
  intro hl
  obtain ⟨g, off, cs, t, fr, rfl, hh, hs, hc⟩ := h hl
  exact ⟨g, off, cs, t, fr, rfl, hh, hs, fun j l hj => (hc j l hj).imp fun B ⟨c, h1, h2, _⟩ => ⟨c, h1, h2⟩⟩
theorem RBC.cell {w : World} {S T : Nat → TypeId → Prop} {A : Option Addr} {ls : List (List UInt8)} (h : RBC w S T A ls) {k : Nat} (hk : k < ls.length) :
    ∃ g off B c, A = some ⟨g, off, none⟩ ∧ w.cell? ⟨g, off + k, none⟩ = some (.slice B (ls[k]).length c) ∧ RB w T B ls[k] ∧ (ls[k]).length ≤ c ∧ c ≤ 9223372036854775807 := by
  obtain ⟨g, off, cs, t, fr, rfl, hh, _, hc⟩ := h (by omega)
  obtain ⟨B, c, h1, h2⟩ := hc k _ (List.getElem?_eq_getElem hk)
  exact ⟨g, off, B, c, rfl, by rw [cells_of hh]; exact h1, h2⟩
/-- carried to a later world -/
theorem RBC.keep {w w' : World} {S T : Nat → TypeId → Prop} {A : Option Addr} {ls : List (List UInt8)} (h : RBC w S T A ls) (hk : ∀ g o, w.heap[g]? = some o → (∃ cs t fr, o = .cells cs t fr ∧ (S g t ∨ T g t)) → w'.heap[g]? = some o) : RBC w' S T A ls := by
  intro hl
  obtain ⟨g, off, cs, t, fr, rfl, hh, hs, hc⟩ := h hl
  exact ⟨g, off, cs, t, fr, rfl, hk g _ hh ⟨cs, t, fr, rfl, .inl hs⟩, hs, fun j l hj => (hc j l hj).imp fun B ⟨c, h1, h2, h3⟩ => ⟨c, h1, h2.keep (fun g o ho ⟨cs, t, fr, e, hT⟩ => hk g o ho ⟨cs, t, fr, e, .inr hT⟩), h3⟩⟩
theorem RBC.ext {w w' : World} {S T : Nat → TypeId → Prop} {A : Option Addr} {ls : List (List UInt8)} (h : RBC w S T A ls) (hb : Ext w w') : RBC w' S T A ls := h.keep fun _ _ hh _ => hb.get hh
theorem RBC.nil (w : World) (S T : Nat → TypeId → Prop) (A : Option Addr) : RBC w S T A [] := fun h => absurd h (by simp)
theorem RBC.inside {w : World} {S T : Nat → TypeId → Prop} {A : Option Addr} {ls : List (List UInt8)} (h : RBC w S T A ls) : RBC w (fun g _ => g < w.heap.size) (fun g _ => g < w.heap.size) A ls := by
  intro hl
  obtain ⟨g, off, cs, t, fr, rfl, hh, hs, hc⟩ := h hl
  exact ⟨g, off, cs, t, fr, rfl, hh, lt_of_some hh, fun j l hj => (hc j l hj).imp fun B ⟨c, h1, h2, h3⟩ => ⟨c, h1, h2.inside.more (fun _ _ h => h.2), h3⟩⟩

end Go.Proofs.Ytgbdckiojjmncaa
