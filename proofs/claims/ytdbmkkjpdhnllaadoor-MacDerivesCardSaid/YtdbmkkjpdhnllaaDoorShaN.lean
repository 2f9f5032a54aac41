/-
  SHA-256 in plain numbers: blocks taken one after the other.
-/
import Derived.Test.YtdbmkkjpdhnllaaDoorShaM
namespace Go.Proofs.YtdbmkkjpdhnllaaDoor
open Go.RowKit

theorem acc_congr {bl bl' : Nat → Nat} (i : Nat) (hi : i < 16) (h : ∀ j, j < 64 → bl j = bl' j) (m : Nat) (hm : m ≤ 4) : acc bl i m = acc bl' i m := by
  induction m with
  | zero => rw [acc, acc]
  | succ m ih => rw [acc, acc, ih (by omega), h _ (by omega)]
theorem wl_congr {bl bl' : Nat → Nat} (h : ∀ j, j < 64 → bl j = bl' j) (k : Nat) : wl bl k = wl bl' k := by
  induction k with
  | zero =>
    rw [wl, wl]
    exact List.map_congr_left fun i hi => acc_congr i (List.mem_range.1 hi) h 4 (by omega)
  | succ k ih => rw [wl_succ, wl_succ, ih]
theorem wds_congr {bl bl' : Nat → Nat} (h : ∀ j, j < 64 → bl j = bl' j) : wds bl = wds bl' := by
  funext i
  unfold wds
  rw [wl_congr h]
theorem blk_congr (K : Nat → Nat) (s : St) {bl bl' : Nat → Nat} (h : ∀ j, j < 64 → bl j = bl' j) : blk K s bl = blk K s bl' := by
  unfold blk
  rw [wds_congr h]

theorem byt_drop (l : List UInt8) (k i : Nat) : byt (l.drop k) i = byt l (k + i) := by
  unfold byt
  rw [List.getD_eq_getElem?_getD, List.getD_eq_getElem?_getD, List.getElem?_drop]
theorem byt_left (l m : List UInt8) {i : Nat} (h : i < l.length) : byt (l ++ m) i = byt l i := by
  unfold byt
  rw [List.getD_eq_getElem?_getD, List.getD_eq_getElem?_getD, List.getElem?_append_left h]
theorem byt_right (l m : List UInt8) {i : Nat} (h : l.length ≤ i) : byt (l ++ m) i = byt m (i - l.length) := by
  unfold byt
  rw [List.getD_eq_getElem?_getD, List.getD_eq_getElem?_getD, List.getElem?_append_right h]
theorem byt_take (l : List UInt8) {k i : Nat} (h : i < k) : byt (l.take k) i = byt l i := by
  unfold byt
  rw [List.getD_eq_getElem?_getD, List.getD_eq_getElem?_getD, List.getElem?_take, if_pos h]
/-- blocks that are whole stay as they are -/
theorem run_more (K : Nat → Nat) (s : St) (q p : List UInt8) (m : Nat) (h : 64 * m ≤ q.length) : run K s (q ++ p) m = run K s q m := by
  induction m with
  | zero => rw [run, run]
  | succ m ih =>
    rw [run_succ, run_succ, ih (by omega)]
    refine blk_congr K _ fun j hj => ?_
    rw [byt_drop, byt_drop, byt_left _ _ (by omega)]

/-- what the variables of Sum hold when the bytes q have been added -/
def Part (q : List UInt8) (f : Nat → Nat) : Prop := (∀ i, f i < 256) ∧ ∀ i, i < q.length % 64 → f i = byt q (64 * (q.length / 64) + i)
/-- how many bytes fit -/
def fits (q rest : List UInt8) : Nat := min rest.length (64 - q.length % 64)
def fill (q rest : List UInt8) (f : Nat → Nat) (i : Nat) : Nat := if q.length % 64 ≤ i ∧ i < q.length % 64 + fits q rest then byt rest (i - q.length % 64) else f i
theorem fits_le (q rest : List UInt8) : fits q rest ≤ rest.length ∧ fits q rest ≤ 64 - q.length % 64 := by unfold fits; omega
theorem fits_pos (q : List UInt8) {rest : List UInt8} (h : 0 < rest.length) : 0 < fits q rest := by unfold fits; omega
theorem fill_lt {q : List UInt8} {f : Nat → Nat} (rest : List UInt8) (h : Part q f) (i : Nat) : fill q rest f i < 256 := by
  unfold fill
  split
  · exact byt_lt _ _
  · exact h.1 i
theorem fill_at {q rest : List UInt8} {f : Nat → Nat} (h : Part q f) {i : Nat} (hi : i < q.length % 64 + fits q rest) : fill q rest f i = byt (q ++ rest.take (fits q rest)) (64 * (q.length / 64) + i) := by
  have hq : 64 * (q.length / 64) + q.length % 64 = q.length := by omega
  unfold fill
  by_cases h1 : q.length % 64 ≤ i
  · rw [if_pos ⟨h1, hi⟩, byt_right _ _ (by omega), byt_take _ (by omega)]
    congr 1
    omega
  · rw [if_neg (by omega), h.2 i (by omega), byt_left _ _ (by omega)]
theorem len_fits (q rest : List UInt8) : (q ++ rest.take (fits q rest)).length = q.length + fits q rest := by
  have := fits_le q rest
  simp only [List.length_append, List.length_take]
  omega
/-- the block is not full yet -/
theorem part_open {q rest : List UInt8} {f : Nat → Nat} (h : Part q f) (hm : (q.length + fits q rest) % 64 ≠ 0) :
    Part (q ++ rest.take (fits q rest)) (fill q rest f) ∧ ∀ K s, run K s (q ++ rest.take (fits q rest)) ((q ++ rest.take (fits q rest)).length / 64) = run K s q (q.length / 64) := by
  have hf := fits_le q rest
  have hl := len_fits q rest
  have h1 : (q.length + fits q rest) / 64 = q.length / 64 := by omega
  have h2 : (q.length + fits q rest) % 64 = q.length % 64 + fits q rest := by omega
  refine ⟨⟨fill_lt rest h, fun i hi => ?_⟩, fun K s => ?_⟩
  · rw [hl, h2] at hi
    rw [fill_at h hi, hl, h1]
  · rw [hl, h1, run_more K s _ _ _ (by omega)]
/-- the block is full -/
theorem part_full {q rest : List UInt8} {f : Nat → Nat} (h : Part q f) (hr : 0 < rest.length) (hm : (q.length + fits q rest) % 64 = 0) :
    Part (q ++ rest.take (fits q rest)) (fill q rest f) ∧ ∀ K s, run K s (q ++ rest.take (fits q rest)) ((q ++ rest.take (fits q rest)).length / 64) = blk K (run K s q (q.length / 64)) (fill q rest f) := by
  have hf := fits_le q rest
  have hp := fits_pos q hr
  have hl := len_fits q rest
  have h1 : (q.length + fits q rest) / 64 = q.length / 64 + 1 := by omega
  have h2 : q.length % 64 + fits q rest = 64 := by omega
  refine ⟨⟨fill_lt rest h, fun i hi => ?_⟩, fun K s => ?_⟩
  · rw [hl, hm] at hi
    omega
  · rw [hl, h1, run_succ, run_more K s _ _ _ (by omega)]
    refine blk_congr K _ fun j hj => ?_
    rw [byt_drop, fill_at h (by omega)]
theorem part_nil : Part [] (fun _ => 0) := ⟨fun _ => Nat.succ_pos _, fun i hi => by simp at hi⟩

end Go.Proofs.YtdbmkkjpdhnllaaDoor
