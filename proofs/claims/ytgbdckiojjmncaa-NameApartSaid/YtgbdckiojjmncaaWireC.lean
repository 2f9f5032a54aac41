/-
  Package wire, the reads in one form: each read as a function of what is left and of whether a read has failed.
-/
import Derived.Test.YtgbdckiojjmncaaWireB
namespace Go.Proofs.Ytgbdckiojjmncaa
open Go.RowKit

/-- what is read, what is left, whether a read has failed -/
structure Tk where
  got : List UInt8
  num : Nat
  left : List UInt8
  bad : Bool
def Tk.no : Tk := ⟨[], 0, [], true⟩

def tk (n : Int) (l : List UInt8) (bad : Bool) : Tk := if bad = true ∨ n < 0 ∨ (l.length : Int) < n then .no else ⟨l.take n.toNat, 0, l.drop n.toNat, false⟩
def nm (k : Int) (l : List UInt8) (bad : Bool) : Tk := if bad = true ∨ ¬ (1 ≤ k ∧ k ≤ 8) ∨ (l.length : Int) < k then .no else ⟨[], be (l.take k.toNat), l.drop k.toNat, false⟩
def st (k : Int) (l : List UInt8) (bad : Bool) : Tk :=
  if bad = true ∨ ¬ (1 ≤ k ∧ k ≤ 8) ∨ (l.length : Int) < k ∨ l.length - k.toNat < be (l.take k.toNat) then .no
  else ⟨(l.drop k.toNat).take (be (l.take k.toNat)), 0, (l.drop k.toNat).drop (be (l.take k.toNat)), false⟩

theorem tk_len (n : Int) (l : List UInt8) (bad : Bool) : (tk n l bad).got.length ≤ l.length ∧ (tk n l bad).left.length ≤ l.length := by
  unfold tk Tk.no; split
  · simp
  · simp only [List.length_take, List.length_drop]; omega
theorem nm_len (n : Int) (l : List UInt8) (bad : Bool) : (nm n l bad).left.length ≤ l.length := by
  unfold nm Tk.no; split
  · simp
  · simp only [List.length_drop]; omega
theorem st_len (n : Int) (l : List UInt8) (bad : Bool) : (st n l bad).got.length ≤ l.length ∧ (st n l bad).left.length ≤ l.length := by
  unfold st Tk.no; split
  · simp
  · simp only [List.length_take, List.length_drop]; omega
theorem nm_lt (n : Int) (l : List UInt8) (bad : Bool) : (nm n l bad).num < 18446744073709551616 := by
  unfold nm Tk.no; split
  · simp
  · rename_i h
    have h1 := be_lt (l.take n.toNat)
    have h2 : 256 ^ (l.take n.toNat).length ≤ 256 ^ 8 := Nat.pow_le_pow_right (by omega) (by rw [List.length_take]; omega)
    have h3 : (256 : Nat) ^ 8 = 18446744073709551616 := by decide
    show be (l.take n.toNat) < _
    omega

theorem num_any {S : Nat → TypeId → Prop} {g : Nat} {l : List UInt8} {bad : Bool} (k : Int) (w : World) (h : Rd w S g l bad) (hS : NoRd S) :
    Calls Try.prog 36 #[.pointer (some ⟨g, 0, none⟩), .int .i64 k] w fun e w' => e = .returned (.int .u64 (nm k l bad).num) ∧
      Rd w' S g (nm k l bad).left (nm k l bad).bad ∧ w.grownBy w' (some g) := by
  unfold nm
  by_cases hb : bad = true ∨ ¬ (1 ≤ k ∧ k ≤ 8) ∨ (l.length : Int) < k
  · rw [if_pos hb]
    exact (num_no k w h hb).mono fun e w' ⟨he, hr, hg⟩ => ⟨he, hr, hg⟩
  · rw [if_neg hb]
    simp only [not_or, Classical.not_not] at hb
    obtain ⟨h1, ⟨h2, h4⟩, h3⟩ := hb
    obtain ⟨k, rfl⟩ := Int.eq_ofNat_of_zero_le (by omega : 0 ≤ k)
    obtain rfl : bad = false := by simpa using h1
    rw [Int.toNat_natCast]
    exact num_c k w h hS ⟨by omega, by omega⟩ (by omega)
theorem str_any {S : Nat → TypeId → Prop} {g : Nat} {l : List UInt8} {bad : Bool} (k : Int) (w : World) (h : Rd w S g l bad) (hS : NoRd S) (hl : l.length ≤ 140737488355328) :
    Calls Try.prog 35 #[.pointer (some ⟨g, 0, none⟩), .int .i64 k] w fun e w' => ∃ A c, e = .returned (.slice A (st k l bad).got.length c) ∧ OwnB w' 5 w.heap.size A c (st k l bad).got ∧
      Rd w' S g (st k l bad).left (st k l bad).bad ∧ w.grownBy w' (some g) := by
  unfold st
  by_cases hb : bad = true ∨ ¬ (1 ≤ k ∧ k ≤ 8) ∨ (l.length : Int) < k ∨ l.length - k.toNat < be (l.take k.toNat)
  · rw [if_pos hb]
    exact (str_no k w h hS hb).mono fun e w' ⟨he, hr, hg⟩ => ⟨none, 0, he, OwnB.nil _ _ _, hr, hg⟩
  · rw [if_neg hb]
    simp only [not_or, Classical.not_not] at hb
    obtain ⟨h1, ⟨h2, h4⟩, h3, h5⟩ := hb
    obtain ⟨k, rfl⟩ := Int.eq_ofNat_of_zero_le (by omega : 0 ≤ k)
    obtain rfl : bad = false := by simpa using h1
    rw [Int.toNat_natCast] at h5 ⊢
    exact str_c k w h hS hl ⟨by omega, by omega⟩ (by omega) (by omega)
end Go.Proofs.Ytgbdckiojjmncaa
