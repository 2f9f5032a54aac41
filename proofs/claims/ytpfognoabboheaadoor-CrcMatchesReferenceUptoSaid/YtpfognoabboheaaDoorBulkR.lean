/-
  What the second form's bound says of a slice of slices of bytes: the number of all its bytes.
-/
import Derived.Test.YtpfognoabboheaaDoorBytC
namespace Go.Proofs.YtpfognoabboheaaDoor
open Go.RowKit

/-- what a law is told of a slice of slices of bytes that came in, the capacities with it -/
def IsRowsC (w : World) (a : Option Addr) (len cap : Nat) (ls : List (List UInt8)) : Prop :=
  ls.length = len ∧ len ≤ cap ∧ cap ≤ maxLen ∧ RBC w (fun g _ => g < w.heap.size) (fun g _ => g < w.heap.size) a ls

theorem bulk_pos {H : Type} (d : DataW H) : 1 ≤ Rows.uptoBulk d := by
  cases d with
  | lit l => cases l <;> simp [Rows.uptoBulk]
  | _ => simp [Rows.uptoBulk]
theorem bulk_len {H : Type} (ds : List (DataW H)) : ds.length ≤ Rows.uptoBulkAll ds := by
  induction ds with
  | nil => simp [Rows.uptoBulkAll]
  | cons d ds ih =>
    have := bulk_pos d
    simp only [Rows.uptoBulkAll, List.length_cons]
    omega
theorem bulk_mem {H : Type} {d : DataW H} {ds : List (DataW H)} (h : d ∈ ds) : Rows.uptoBulk d ≤ Rows.uptoBulkAll ds := by
  induction ds with
  | nil => cases h
  | cons e ds ih =>
    simp only [Rows.uptoBulkAll]
    rcases List.mem_cons.1 h with rfl | h
    · omega
    · have := ih h
      omega
/-- all bytes of the rows are no more than the rows' bulk -/
theorem flat_bulk {H : Type} (f : Nat → List UInt8) (g : Nat → DataW H) : ∀ (is : List Nat), (∀ i ∈ is, (f i).length ≤ Rows.uptoBulk (g i)) → ((is.map f).flatten).length ≤ Rows.uptoBulkAll (is.map g)
  | [], _ => by simp
  | i :: is, h => by
    have h1 := h i (by simp)
    have h2 := flat_bulk f g is (fun j hj => h j (by simp [hj]))
    simp only [List.map_cons, List.flatten_cons, List.length_append, Rows.uptoBulkAll]
    omega
open Go.Deep in
theorem row_bulk {H : Type} (k : IntKind) (A : Option Addr) (L : Nat) (zs : List Int) (h1 : L ≤ zs.length) (h0 : A = none → L = 0) : L ≤ Rows.uptoBulk (intRow (H := H) k A L zs) := by
  cases A with
  | none => rw [h0 rfl]; exact Nat.zero_le _
  | some a =>
    have h2 := bulk_len (Go.ChangeShapes.lits (H := H) k (zs.take L))
    have h3 : (Go.ChangeShapes.lits (H := H) k (zs.take L)).length = L := by simp [Go.ChangeShapes.lits]; omega
    simp only [intRow, Rows.uptoBulk]
    omega
open Go.Deep in
theorem open_rowsC {H : Type} {enc : TypeId × Value → H} {P : Program} {w : World} {base : Nat} {held : Bool} {t e q : TypeId} {fuel : Nat} {a : Option Addr} {len cap : Nat} {d : DataW H} {p : List MemPlace}
    (ht : P.underlying t = some (.slice e)) (he : P.underlying e = some (.slice q)) (hq : P.underlying q = some (.int .u8)) (ce : P.cellsOf e = 1) (cq : P.cellsOf q = 1)
    (h : DataW.trod enc P w base (fun _ => true) held fuel t [.slice a len cap] = some (d, p)) : ∃ ls, IsRowsC w a len cap ls ∧ (fla ls).length ≤ Rows.uptoBulk d := by
  rcases open_int_rows ht he hq ce cq h with ⟨hcs, _⟩ | ⟨y, len', cap', A, L, C, Z, hcs, _, hl, hm, hx, hc⟩
  · simp at hcs
    obtain ⟨rfl, rfl, rfl⟩ := hcs
    exact ⟨[], ⟨rfl, by simp, by simp [maxLen], RBC.nil _ _ _ _⟩, by simp [fla]⟩
  · simp at hcs
    obtain ⟨rfl, rfl, rfl⟩ := hcs
    have hV : ∀ i, i < len → ∃ l : List UInt8, l.length = L i ∧ w.cell? (y.add i) = some (.slice (A i) l.length (C i)) ∧ RB w (fun g _ => g < w.heap.size) (A i) l ∧ l.length ≤ C i ∧ C i ≤ maxLen ∧ l.length ≤ Rows.uptoBulk (intRow (H := H) .u8 (A i) (L i) (Z i)) := by
      intro j hj
      obtain ⟨h1, h2, h3, h4, h5, h6, h7⟩ := hc j (by omega)
      have hrow : IsRow .u8 w (A j) (L j) (C j) (Z j) := by
        rcases hA : A j with _ | a'
        · have := h6 hA
          exact .inl ⟨rfl, by omega, this, List.eq_nil_of_length_eq_zero (by omega)⟩
        · exact .inr ⟨a', rfl, h2, h3, h4, fun i hi => (h7 a' hA).2 i (by omega), h5⟩
      obtain ⟨l, e1, e2, e3, e4⟩ := row_bytes hrow
      refine ⟨l, e1, by rw [e1]; exact h1, e4, e2, e3, ?_⟩
      rw [e1]
      exact row_bulk .u8 (A j) (L j) (Z j) (by omega) (fun hA => by have := h6 hA; omega)
    obtain ⟨f, hf⟩ := choose_lt hV
    refine ⟨(List.range len).map f, ⟨by simp, hl, hm, fun hp => ?_⟩, ?_⟩
    · simp at hp
      have hc0 := (hc 0 (by omega)).1
      rw [addr_add0] at hc0
      obtain ⟨hs, cs, t', fr, hh⟩ := addr_at hc0
      refine ⟨y.block, y.off, cs, t', fr, by cases y; simp_all, hh, lt_of_some hh, fun j l hj => ?_⟩
      rw [List.getElem?_map] at hj
      obtain ⟨j', hj1, rfl⟩ := Option.map_eq_some_iff.1 hj
      obtain ⟨hjl, e⟩ := List.getElem?_eq_some_iff.1 hj1
      simp only [List.length_range, List.getElem_range] at hjl e
      subst e
      obtain ⟨_, h1, h2, h3, h4, _⟩ := hf j hjl
      rw [(addr_add y _).2 hs, cells_of hh] at h1
      unfold maxLen at h4
      exact ⟨A j, C j, h1, h2, h3, by omega⟩
    · injection hx with hd _
      rw [hd]
      have hfl := flat_bulk f (fun r => intRow (H := H) .u8 (A r) (L r) (Z r)) (List.range len) (fun i hi => (hf i (List.mem_range.1 hi)).2.2.2.2.2)
      simp only [Rows.uptoBulk, fla]
      omega
end Go.Proofs.YtpfognoabboheaaDoor
