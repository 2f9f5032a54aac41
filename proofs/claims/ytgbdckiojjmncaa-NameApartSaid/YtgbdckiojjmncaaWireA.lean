/-
  Package wire, the reader: what each method does, said once for all bytes.
-/
import Derived.Test.YtgbdckiojjmncaaBase
import Derived.Test.YtgbdckiojjmncaaKit
namespace Go.Proofs.Ytgbdckiojjmncaa
open Go.RowKit

/-! ## bytes.Clone -/
set_option maxHeartbeats 400000 in
theorem clone_c (A : Option Addr) (c : Nat) (l : List UInt8) (S : Nat → TypeId → Prop) (w : World) (h : RB w S A l) (hl : l.length ≤ 140737488355328) :
    Calls Try.prog 34 #[.slice A l.length c] w fun e w' => ∃ A' c', e = .returned (.slice A' l.length c') ∧ OwnB w' 5 w.heap.size A' c' l ∧ Ext w w' := by
  obtain ⟨i0, hi0, hz0, hz1, hz2⟩ := info_parts info_u8
  rcases A with _ | ad
  · have hl0 : l = [] := by
      rcases l with _ | ⟨x, l⟩
      · rfl
      · obtain ⟨_, _, _, _, _, h, _⟩ := h (by simp)
        cases h
    subst hl0
    have hnil := fun W => Lib.run_eql_slice_nil (P := Try.prog) W 28 5 none 0 c 0 0 Try.underlying28
    simp only [List.length_nil]
    go_enter Try.func34, Try.ntmps34
    go_wp2
    go_ret
    exact ⟨none, 0, rfl, OwnB.nil _ _ _, Ext.refl _⟩
  · have h1 : RB (w.alloc (.cells #[] 5)) S (some ad) l := h.ext (Ext.alloc _ _)
    have h0 : OwnB (w.alloc (.cells #[] 5)) 5 w.heap.size (some ⟨w.heap.size, 0, none⟩) 0 [] := by
      refine ⟨by simp, .inr ⟨w.heap.size, 0, #[], rfl, Nat.le_refl _, new_of _ _, by simp, by simp [maxLen], by simp, by simp⟩⟩
    have hnil := fun W => Lib.run_eql_slice_nil (P := Try.prog) W 28 5 (some ad) l.length c 0 0 Try.underlying28
    go_enter Try.func34, Try.ntmps34
    go_wp2_with (at_builtin; refine wpList_append_bytes _ rfl _ _ 28 rfl w.heap.size 5 i0 Try.underlying28 hi0 hz0 hz1 hz2 (some ⟨w.heap.size, 0, none⟩) 0 [] rfl h0 S (some ad) c l rfl h1 (by simpa using hl) (by simp) ?_; intro A' c' w1 ho1 hg1 hb1)
    go_ret
    refine ⟨A', c', rfl, ho1, ?_⟩
    exact grown_new (Ext.alloc _ _) hg1 (fun g hg => by simp [Value.ownBlock] at hg; omega)

set_option maxHeartbeats 400000 in
theorem clone_nil (w : World) : Calls Try.prog 34 #[.slice none 0 0] w fun e w' => e = .returned (.slice none 0 0) ∧ w = w' := by
  have hnil := fun W => Lib.run_eql_slice_nil (P := Try.prog) W 28 5 none 0 0 0 0 Try.underlying28
  go_enter Try.func34, Try.ntmps34
  go_wp2
  go_ret
  exact ⟨rfl, rfl⟩

/-! ## the reader -/
/-- A reader in block g has the bytes l left. -/
def Rd (w : World) (S : Nat → TypeId → Prop) (g : Nat) (l : List UInt8) (bad : Bool) : Prop :=
  ∃ A c, w.heap[g]? = some (.cells #[.slice A l.length c, .bool bad] 57 (0, 0)) ∧ RB w S A l ∧ l.length ≤ c ∧ c ≤ maxLen
/-- what S must keep apart: no block of readers -/
def NoRd (S : Nat → TypeId → Prop) : Prop := ∀ h, ¬ S h 57

theorem Rd.ext {w w' : World} {S : Nat → TypeId → Prop} {g : Nat} {l : List UInt8} {bad : Bool} (h : Rd w S g l bad) (hb : Ext w w') : Rd w' S g l bad := by
  obtain ⟨A, c, hg, hr, hc, hm⟩ := h
  exact ⟨A, c, hb.get hg, hr.ext hb, hc, hm⟩
theorem Rd.grown {w w' : World} {S : Nat → TypeId → Prop} {g : Nat} {l : List UInt8} {bad : Bool} (h : Rd w S g l bad) {row : Option Nat} (hb : w.grownBy w' row) (hg0 : row ≠ some g) (hne : ∀ g t, S g t → row ≠ some g) : Rd w' S g l bad := by
  obtain ⟨A, c, hg, hr, hc, hm⟩ := h
  exact ⟨A, c, grown_get hb hg hg0, hr.grown hb hne, hc, hm⟩

theorem Rd.at_ {w : World} {S : Nat → TypeId → Prop} {g : Nat} {l : List UInt8} {bad : Bool} (h : Rd w S g l bad) : ∃ cs, w.heap[g]? = some (.cells cs 57 (0, 0)) := by
  obtain ⟨A, c, hg, _⟩ := h
  exact ⟨_, hg⟩
/-- bytes outside the readers are not turned by a read -/
theorem RB.rd {w w' : World} {S T : Nat → TypeId → Prop} {A : Option Addr} {m : List UInt8} (h : RB w T A m) {g : Nat} {l : List UInt8} {bad : Bool} (hr : Rd w S g l bad) (hb : w.grownBy w' (some g)) (hT : NoRd T) : RB w' T A m := by
  obtain ⟨cs, hg⟩ := hr.at_
  exact h.far hb hg hT
/-- another reader is not turned by a read -/
theorem Rd.rd {w w' : World} {S T : Nat → TypeId → Prop} {g g' : Nat} {l m : List UInt8} {bad bad' : Bool} (h : Rd w T g' m bad') (hr : Rd w S g l bad) (hb : w.grownBy w' (some g)) (hT : NoRd T) (hne : g ≠ g') : Rd w' T g' m bad' := by
  obtain ⟨A, c, hg, h1, h2, h3⟩ := h
  exact ⟨A, c, grown_get hb hg (by simpa using hne), h1.rd hr hb hT, h2, h3⟩
theorem Rd.far {w w' : World} {S : Nat → TypeId → Prop} {g g' : Nat} {l : List UInt8} {bad : Bool} {cs : Array Value} {t : TypeId} {fr : Nat × Nat} (h : Rd w S g l bad) (hb : w.grownBy w' (some g')) (hg' : w.heap[g']? = some (.cells cs t fr)) (hne : g' ≠ g) (hS : ∀ k, ¬ S k t) : Rd w' S g l bad := by
  obtain ⟨A, c, hg, h1, h2, h3⟩ := h
  exact ⟨A, c, grown_get hb hg (by simpa using hne), h1.far hb hg' hS, h2, h3⟩
theorem NoRd.u8 (w : Nat) (B : Option Nat) : NoRd (fun k t => w ≤ k ∧ t = 5 ∧ B = some k) := fun _ h => absurd h.2.1 (by decide)
theorem NoRd.own (w : Nat) (B : Option Nat) : NoRd (fun k t => w ≤ k ∧ t = 5 ∧ B = some k) := fun _ h => absurd h.2.1 (by decide)

set_option maxHeartbeats 400000 in
theorem isWidth_c (k : Int) (w : World) : Calls Try.prog 47 #[.int .i64 k] w fun e w' => e = .returned (.bool (decide (1 ≤ k) && decide (k ≤ 8))) ∧ w = w' := by
  go_enter Try.func47, Try.ntmps47
  go_wp2
  · have h : 1 ≤ k := by assumption
    go_ret
    exact ⟨by simp [h], rfl⟩
  · have h : k < 1 := by assumption
    go_ret
    have h' : decide (1 ≤ k) = false := by simp; omega
    exact ⟨by rw [h']; rfl, rfl⟩
theorem isWidth_t (k : Int) (w : World) (h : 1 ≤ k ∧ k ≤ 8) : Calls Try.prog 47 #[.int .i64 k] w fun e w' => e = .returned (.bool true) ∧ w = w' :=
  (isWidth_c k w).mono fun _ _ ⟨he, hw⟩ => ⟨by rw [he]; simp [h.1, h.2], hw⟩
theorem isWidth_f (k : Int) (w : World) (h : ¬ (1 ≤ k ∧ k ≤ 8)) : Calls Try.prog 47 #[.int .i64 k] w fun e w' => e = .returned (.bool false) ∧ w = w' :=
  (isWidth_c k w).mono fun _ _ ⟨he, hw⟩ => ⟨by rw [he]; congr 1; simp; omega, hw⟩

set_option maxHeartbeats 400000 in
theorem bad_nil (w : World) : Calls Try.prog 37 #[.pointer none] w fun e w' => e = .returned (.bool true) ∧ w = w' := by
  go_enter Try.func37, Try.ntmps37
  go_wp2
  go_ret
  exact ⟨rfl, rfl⟩
set_option maxHeartbeats 400000 in
theorem bad_c {S : Nat → TypeId → Prop} {g : Nat} {l : List UInt8} {bad : Bool} (w : World) (h : Rd w S g l bad) :
    Calls Try.prog 37 #[.pointer (some ⟨g, 0, none⟩)] w fun e w' => e = .returned (.bool bad) ∧ w = w' := by
  obtain ⟨A, c, hg, _⟩ := h
  have c1 : w.cell? ⟨g, 1, none⟩ = some (.bool bad) := cells_of hg 1
  clear hg
  go_enter Try.func37, Try.ntmps37
  go_wp2
  go_ret
  exact ⟨rfl, rfl⟩
set_option maxHeartbeats 400000 in
theorem left_nil (w : World) : Calls Try.prog 23 #[.pointer none] w fun e w' => e = .returned (.int .i64 0) ∧ w = w' := by
  go_enter Try.func23, Try.ntmps23
  go_wp2
  go_ret
  exact ⟨rfl, rfl⟩
set_option maxHeartbeats 400000 in
theorem left_c {S : Nat → TypeId → Prop} {g : Nat} {l : List UInt8} {bad : Bool} (w : World) (h : Rd w S g l bad) :
    Calls Try.prog 23 #[.pointer (some ⟨g, 0, none⟩)] w fun e w' => e = .returned (.int .i64 l.length) ∧ w = w' := by
  obtain ⟨A, c, hg, _⟩ := h
  have c0 : w.cell? ⟨g, 0, none⟩ = some (.slice A l.length c) := cells_of hg 0
  clear hg
  go_enter Try.func23, Try.ntmps23
  go_wp2
  go_ret
  exact ⟨rfl, rfl⟩
set_option maxHeartbeats 400000 in
theorem done_nil (w : World) : Calls Try.prog 20 #[.pointer none] w fun e w' => e = .returned (.bool false) ∧ w = w' := by
  go_enter Try.func20, Try.ntmps20
  go_wp2_with (go_at_call 37; refine (bad_nil _).mono ?_; rintro e w' ⟨rfl, rfl⟩)
  go_ret
  exact ⟨rfl, rfl⟩
set_option maxHeartbeats 400000 in
theorem done_c {S : Nat → TypeId → Prop} {g : Nat} {l : List UInt8} {bad : Bool} (w : World) (h : Rd w S g l bad) :
    Calls Try.prog 20 #[.pointer (some ⟨g, 0, none⟩)] w fun e w' => e = .returned (.bool (!bad && l.isEmpty)) ∧ w = w' := by
  have H := Lib.hid h
  clear h
  cases bad with
  | true =>
    go_enter Try.func20, Try.ntmps20
    go_wp2_with (go_at_call 37; refine (bad_c _ H.out).mono ?_; rintro e w' ⟨rfl, rfl⟩)
    go_ret
    exact ⟨rfl, rfl⟩
  | false =>
    go_enter Try.func20, Try.ntmps20
    go_wp2_with (first | (go_at_call 37; refine (bad_c _ H.out).mono ?_; rintro e w' ⟨rfl, rfl⟩) | (go_at_call 23; refine (left_c _ H.out).mono ?_; rintro e w' ⟨rfl, rfl⟩))
    go_ret
    refine ⟨?_, rfl⟩
    cases l with
    | nil => rfl
    | cons x l => simp; omega
set_option maxHeartbeats 400000 in
theorem fail_nil (w : World) : Calls Try.prog 50 #[.pointer none] w fun e w' => e = .returned (.tuple #[]) ∧ w = w' := by
  go_enter Try.func50, Try.ntmps50
  go_wp2
  go_end0
  exact ⟨rfl, rfl⟩
set_option maxHeartbeats 400000 in
theorem fail_c {S : Nat → TypeId → Prop} {g : Nat} {l : List UInt8} {bad : Bool} (w : World) (h : Rd w S g l bad) :
    Calls Try.prog 50 #[.pointer (some ⟨g, 0, none⟩)] w fun e w' => e = .returned (.tuple #[]) ∧ Rd w' S g [] true ∧ w.grownBy w' (some g) := by
  obtain ⟨A, c, hg, _⟩ := h
  have c0 : w.cell? ⟨g, 0, none⟩ = some (.slice A l.length c) := cells_of hg 0
  have c1 : w.cell? ⟨g, 1, none⟩ = some (.bool bad) := cells_of hg 1
  have f0 : w.frozen? ⟨g, 0, none⟩ = false := free_of hg 0
  have f1 : w.frozen? ⟨g, 1, none⟩ = false := free_of hg 1
  have HG := Lib.hid hg
  clear hg
  go_enter Try.func50, Try.ntmps50
  go_wp2
  go_end0
  refine ⟨rfl, ⟨none, 0, ?_, RB.nil _ _ _, by simp, by simp [maxLen]⟩, ?_⟩
  · have h1 := set_of HG.out 0 (.slice none 0 0)
    have h2 := set_of h1 1 (.bool true)
    simpa using h2
  · exact grown_tr (grown_set _ rfl _) (grown_set _ rfl _)

set_option maxHeartbeats 400000 in
theorem rdnext_nil (n : Int) (w : World) : Calls Try.prog 49 #[.pointer none, .int .u64 n] w fun e w' => e = .returned (.slice none 0 0) ∧ w = w' := by
  go_enter Try.func49, Try.ntmps49
  go_wp2_with (first | (go_at_call 37; refine (bad_nil _).mono ?_; rintro e w' ⟨rfl, rfl⟩) | (go_at_call 50; refine (fail_nil _).mono ?_; rintro e w' ⟨rfl, rfl⟩))
  go_ret
  exact ⟨rfl, rfl⟩
set_option maxHeartbeats 400000 in
/-- not enough bytes, or a read has failed -/
theorem next_no {S : Nat → TypeId → Prop} {g : Nat} {l : List UInt8} {bad : Bool} (n : Int) (w : World) (h : Rd w S g l bad) (hn : bad = true ∨ (l.length : Int) < n) :
    Calls Try.prog 49 #[.pointer (some ⟨g, 0, none⟩), .int .u64 n] w fun e w' => e = .returned (.slice none 0 0) ∧ Rd w' S g [] true ∧ w.grownBy w' (some g) := by
  have h' := h
  obtain ⟨A, c, hg, _, hc, hm⟩ := h'
  have c0 : w.cell? ⟨g, 0, none⟩ = some (.slice A l.length c) := cells_of hg 0
  unfold maxLen at hm
  have H := Lib.hid h
  clear h hg
  cases bad with
  | true =>
    clear hn
    go_enter Try.func49, Try.ntmps49
    go_wp2_with (first | (go_at_call 37; refine (bad_c _ H.out).mono ?_; rintro e w' ⟨rfl, rfl⟩) | (go_at_call 50; refine (fail_c _ H.out).mono ?_; rintro e w' ⟨rfl, hr', hg'⟩))
    go_ret
    exact ⟨rfl, hr', hg'⟩
  | false =>
    replace hn : (l.length : Int) < n := by simpa using hn
    go_enter Try.func49, Try.ntmps49
    go_wp2_with (first | (go_at_call 37; refine (bad_c _ H.out).mono ?_; rintro e w' ⟨rfl, rfl⟩) | (go_at_call 50; refine (fail_c _ H.out).mono ?_; rintro e w' ⟨rfl, hr', hg'⟩))
    go_ret
    exact ⟨rfl, hr', hg'⟩
set_option maxHeartbeats 400000 in
theorem rdnext_c {S : Nat → TypeId → Prop} {g : Nat} {l : List UInt8} (n : Nat) (w : World) (h : Rd w S g l false) (hS : NoRd S) (hn : n ≤ l.length) :
    Calls Try.prog 49 #[.pointer (some ⟨g, 0, none⟩), .int .u64 n] w fun e w' => ∃ A, e = .returned (.slice A n n) ∧ RB w' S A (l.take n) ∧ Rd w' S g (l.drop n) false ∧ w.grownBy w' (some g) := by
  have h' := h
  obtain ⟨A, c, hg, hr, hc, hm⟩ := h'
  have c0 : w.cell? ⟨g, 0, none⟩ = some (.slice A l.length c) := cells_of hg 0
  have f0 : w.frozen? ⟨g, 0, none⟩ = false := free_of hg 0
  unfold maxLen at hm
  have H := Lib.hid h
  have HG := Lib.hid hg
  clear h hg
  go_enter Try.func49, Try.ntmps49
  go_wp2_with (first | (go_at_call 37; refine (bad_c _ H.out).mono ?_; rintro e w' ⟨rfl, rfl⟩))
  all_goals
    go_ret
    have hgr : ∀ u : Value, w.grownBy (w.setCell ⟨g, 0, none⟩ u) (some g) := fun u => grown_set _ rfl u
    have hd := hr.drop (k := n) hc
    refine ⟨A, rfl, (hr.take n).far (hgr _) HG.out hS, ?_, hgr _⟩
  · have hcn : c = n := by assumption
    rw [if_pos hcn] at hd
    refine ⟨A, c - n, ?_, hd.far (hgr _) HG.out hS, by rw [List.length_drop]; omega, by unfold maxLen; omega⟩
    rw [set_of HG.out 0 _]
    simp
    omega
  · have hcn : ¬ c = n := by assumption
    rw [if_neg hcn] at hd
    refine ⟨_, c - n, ?_, hd.far (hgr _) HG.out hS, by rw [List.length_drop]; omega, by unfold maxLen; omega⟩
    rw [set_of HG.out 0 _]
    simp


end Go.Proofs.Ytgbdckiojjmncaa
