/-
  Package wire, the reader: what each method does, said once for all bytes.
  Package wire: numbers and strings read, numbers and strings written, joined parts.
  Package wire, the reads in one form: each read as a function of what is left and of whether a read has failed.
  Package tollref01 (the reference), reading: Take, Number, String.
  Package tollref01 (the reference), reading, in one form: Take, Number, String as functions of what is left.
  Package tollref01 (the reference), writing: PutNumber, PutString.
  Names read from texts, by the package.
  Names read from texts, by the reference.
  Names as bytes: the package's and the reference's.
  Names read from bytes, by the package.
-/
import Derived.Test.YtagegigffohcbaaGreatDoorMA
import Derived.Laws.BitsAllLaws
import Derived.Deep.RegionHeld3
import Derived.Test.YtagegigffohcbaaGreatDoorNA
import Derived.WalkMore
set_option linter.unusedVariables false
set_option linter.unusedSimpArgs false
namespace Go.Proofs.YtagegigffohcbaaGreatDoor
open Go.RowKit

/-! ## bytes.Clone -/
set_option maxHeartbeats 400000 in
theorem clone_c (A : Option Addr) (c : Nat) (l : List UInt8) (S : Nat → TypeId → Prop) (w : World) (h : RB w S A l) (hl : l.length ≤ 140737488355328) :
    Calls Tryz.prog 56 #[.slice A l.length c] w fun e w' => ∃ A' c', e = .returned (.slice A' l.length c') ∧ OwnB w' 5 w.heap.size A' c' l ∧ Ext w w' := by
  obtain ⟨i0, hi0, hz0, hz1, hz2⟩ := info_parts info_u8
  rcases A with _ | ad
  · have hl0 : l = [] := by
      rcases l with _ | ⟨x, l⟩
      · rfl
      · obtain ⟨_, _, _, _, _, h, _⟩ := h (by simp)
        cases h
    subst hl0
    have hnil := fun W => Lib.run_eql_slice_nil (P := Tryz.prog) W 31 5 none 0 c 0 0 Tryz.underlying31
    simp only [List.length_nil]
    go_enter Tryz.func56, Tryz.ntmps56
    go_wp2
    go_ret
    exact ⟨none, 0, rfl, OwnB.nil _ _ _, Ext.refl _⟩
  · have h1 : RB (w.alloc (.cells #[] 5)) S (some ad) l := h.ext (Ext.alloc _ _)
    have h0 : OwnB (w.alloc (.cells #[] 5)) 5 w.heap.size (some ⟨w.heap.size, 0, none⟩) 0 [] := by
      refine ⟨by simp, .inr ⟨w.heap.size, 0, #[], rfl, Nat.le_refl _, new_of _ _, by simp, by simp [maxLen], by simp, by simp⟩⟩
    have hnil := fun W => Lib.run_eql_slice_nil (P := Tryz.prog) W 31 5 (some ad) l.length c 0 0 Tryz.underlying31
    go_enter Tryz.func56, Tryz.ntmps56
    go_wp2_with (at_builtin; refine wpList_append_bytes _ rfl _ _ 31 rfl w.heap.size 5 i0 Tryz.underlying31 hi0 hz0 hz1 hz2 (some ⟨w.heap.size, 0, none⟩) 0 [] rfl h0 S (some ad) c l rfl h1 (by simpa using hl) (by simp) ?_; intro A' c' w1 ho1 hg1 hb1)
    go_ret
    refine ⟨A', c', rfl, ho1, ?_⟩
    exact grown_new (Ext.alloc _ _) hg1 (fun g hg => by simp [Value.ownBlock] at hg; omega)

set_option maxHeartbeats 400000 in
theorem clone_nil (w : World) : Calls Tryz.prog 56 #[.slice none 0 0] w fun e w' => e = .returned (.slice none 0 0) ∧ w = w' := by
  have hnil := fun W => Lib.run_eql_slice_nil (P := Tryz.prog) W 31 5 none 0 0 0 0 Tryz.underlying31
  go_enter Tryz.func56, Tryz.ntmps56
  go_wp2
  go_ret
  exact ⟨rfl, rfl⟩

/-! ## the reader -/
/-- A reader in block g has the bytes l left. -/
def Rd (w : World) (S : Nat → TypeId → Prop) (g : Nat) (l : List UInt8) (bad : Bool) : Prop :=
  ∃ A c, w.heap[g]? = some (.cells #[.slice A l.length c, .bool bad] 88 (0, 0)) ∧ RB w S A l ∧ l.length ≤ c ∧ c ≤ maxLen
/-- what S must keep apart: no block of readers -/
def NoRd (S : Nat → TypeId → Prop) : Prop := ∀ h, ¬ S h 88

theorem Rd.ext {w w' : World} {S : Nat → TypeId → Prop} {g : Nat} {l : List UInt8} {bad : Bool} (h : Rd w S g l bad) (hb : Ext w w') : Rd w' S g l bad := by
  obtain ⟨A, c, hg, hr, hc, hm⟩ := h
  exact ⟨A, c, hb.get hg, hr.ext hb, hc, hm⟩
theorem Rd.grown {w w' : World} {S : Nat → TypeId → Prop} {g : Nat} {l : List UInt8} {bad : Bool} (h : Rd w S g l bad) {row : Option Nat} (hb : w.grownBy w' row) (hg0 : row ≠ some g) (hne : ∀ g t, S g t → row ≠ some g) : Rd w' S g l bad := by
  obtain ⟨A, c, hg, hr, hc, hm⟩ := h
  exact ⟨A, c, grown_get hb hg hg0, hr.grown hb hne, hc, hm⟩

theorem Rd.at_ {w : World} {S : Nat → TypeId → Prop} {g : Nat} {l : List UInt8} {bad : Bool} (h : Rd w S g l bad) : ∃ cs, w.heap[g]? = some (.cells cs 88 (0, 0)) := by
  obtain ⟨A, c, hg, _⟩ := h
  exact ⟨_, hg⟩
/-- bytes outside the readers are not turned by a read -/
theorem RB.rd {w w' : World} {S T : Nat → TypeId → Prop} {A : Option Addr} {m : List UInt8} (h : RB w T A m) {g : Nat} {l : List UInt8} {bad : Bool} (hr : Rd w S g l bad) (hb : w.grownBy w' (some g)) (hT : NoRd T) : RB w' T A m := by
  obtain ⟨cs, hg⟩ := hr.at_
  exact h.far hb hg hT
/-- another reader is not turned by a read -/
theorem Rd.rd {w w' : World} {S T : Nat → TypeId → Prop} {g g' : Nat} {l m : List UInt8} {bad bad' : Bool} (h : Rd w T g' m bad') (hr : Rd w S g l bad) (hb : w.grownBy w' (some g)) (hT : NoRd T) (hne : g ≠ g') : Rd w' T g' m bad' := by
  obtain ⟨A, c, hg, h1, h2, h3⟩ := h
  exact ⟨A, c, grown_get hb hg (by simpa using hne), h1.rd hr hb hT, h2, h3⟩
theorem Rd.far {w w' : World} {S : Nat → TypeId → Prop} {g g' : Nat} {l : List UInt8} {bad : Bool} {cs : Array Value} {t : TypeId} {fr : Nat × Nat} (h : Rd w S g l bad) (hb : w.grownBy w' (some g')) (hg' : w.heap[g']? = some (.cells cs t fr)) (hne : g' ≠ g) (hS : ∀ k, ¬ S k t) : Rd w' S g l bad := by
  obtain ⟨A, c, hg, h1, h2, h3⟩ := h
  exact ⟨A, c, grown_get hb hg (by simpa using hne), h1.far hb hg' hS, h2, h3⟩
theorem NoRd.u8 (w : Nat) (B : Option Nat) : NoRd (fun k t => w ≤ k ∧ t = 5 ∧ B = some k) := fun _ h => absurd h.2.1 (by decide)
theorem NoRd.own (w : Nat) (B : Option Nat) : NoRd (fun k t => w ≤ k ∧ t = 5 ∧ B = some k) := fun _ h => absurd h.2.1 (by decide)

set_option maxHeartbeats 400000 in
theorem isWidth_c (k : Int) (w : World) : Calls Tryz.prog 57 #[.int .i64 k] w fun e w' => e = .returned (.bool (decide (1 ≤ k) && decide (k ≤ 8))) ∧ w = w' := by
  go_enter Tryz.func57, Tryz.ntmps57
  go_wp2
  · have h : 1 ≤ k := by assumption
    go_ret
    exact ⟨by simp [h], rfl⟩
  · have h : k < 1 := by assumption
    go_ret
    have h' : decide (1 ≤ k) = false := by simp; omega
    exact ⟨by rw [h']; rfl, rfl⟩
theorem isWidth_t (k : Int) (w : World) (h : 1 ≤ k ∧ k ≤ 8) : Calls Tryz.prog 57 #[.int .i64 k] w fun e w' => e = .returned (.bool true) ∧ w = w' :=
  (isWidth_c k w).mono fun _ _ ⟨he, hw⟩ => ⟨by rw [he]; simp [h.1, h.2], hw⟩
theorem isWidth_f (k : Int) (w : World) (h : ¬ (1 ≤ k ∧ k ≤ 8)) : Calls Tryz.prog 57 #[.int .i64 k] w fun e w' => e = .returned (.bool false) ∧ w = w' :=
  (isWidth_c k w).mono fun _ _ ⟨he, hw⟩ => ⟨by rw [he]; congr 1; simp; omega, hw⟩

set_option maxHeartbeats 400000 in
theorem bad_nil (w : World) : Calls Tryz.prog 61 #[.pointer none] w fun e w' => e = .returned (.bool true) ∧ w = w' := by
  go_enter Tryz.func61, Tryz.ntmps61
  go_wp2
  go_ret
  exact ⟨rfl, rfl⟩
set_option maxHeartbeats 400000 in
theorem bad_c {S : Nat → TypeId → Prop} {g : Nat} {l : List UInt8} {bad : Bool} (w : World) (h : Rd w S g l bad) :
    Calls Tryz.prog 61 #[.pointer (some ⟨g, 0, none⟩)] w fun e w' => e = .returned (.bool bad) ∧ w = w' := by
  obtain ⟨A, c, hg, _⟩ := h
  have c1 : w.cell? ⟨g, 1, none⟩ = some (.bool bad) := cells_of hg 1
  clear hg
  go_enter Tryz.func61, Tryz.ntmps61
  go_wp2
  go_ret
  exact ⟨rfl, rfl⟩
set_option maxHeartbeats 400000 in
theorem left_nil (w : World) : Calls Tryz.prog 62 #[.pointer none] w fun e w' => e = .returned (.int .i64 0) ∧ w = w' := by
  go_enter Tryz.func62, Tryz.ntmps62
  go_wp2
  go_ret
  exact ⟨rfl, rfl⟩
set_option maxHeartbeats 400000 in
theorem left_c {S : Nat → TypeId → Prop} {g : Nat} {l : List UInt8} {bad : Bool} (w : World) (h : Rd w S g l bad) :
    Calls Tryz.prog 62 #[.pointer (some ⟨g, 0, none⟩)] w fun e w' => e = .returned (.int .i64 l.length) ∧ w = w' := by
  obtain ⟨A, c, hg, _⟩ := h
  have c0 : w.cell? ⟨g, 0, none⟩ = some (.slice A l.length c) := cells_of hg 0
  clear hg
  go_enter Tryz.func62, Tryz.ntmps62
  go_wp2
  go_ret
  exact ⟨rfl, rfl⟩
set_option maxHeartbeats 400000 in
theorem done_nil (w : World) : Calls Tryz.prog 40 #[.pointer none] w fun e w' => e = .returned (.bool false) ∧ w = w' := by
  go_enter Tryz.func40, Tryz.ntmps40
  go_wp2_with (go_at_call 61; refine (bad_nil _).mono ?_; rintro e w' ⟨rfl, rfl⟩)
  go_ret
  exact ⟨rfl, rfl⟩
set_option maxHeartbeats 400000 in
theorem done_c {S : Nat → TypeId → Prop} {g : Nat} {l : List UInt8} {bad : Bool} (w : World) (h : Rd w S g l bad) :
    Calls Tryz.prog 40 #[.pointer (some ⟨g, 0, none⟩)] w fun e w' => e = .returned (.bool (!bad && l.isEmpty)) ∧ w = w' := by
  have H := Lib.hid h
  clear h
  cases bad with
  | true =>
    go_enter Tryz.func40, Tryz.ntmps40
    go_wp2_with (go_at_call 61; refine (bad_c _ H.out).mono ?_; rintro e w' ⟨rfl, rfl⟩)
    go_ret
    exact ⟨rfl, rfl⟩
  | false =>
    go_enter Tryz.func40, Tryz.ntmps40
    go_wp2_with (first | (go_at_call 61; refine (bad_c _ H.out).mono ?_; rintro e w' ⟨rfl, rfl⟩) | (go_at_call 62; refine (left_c _ H.out).mono ?_; rintro e w' ⟨rfl, rfl⟩))
    go_ret
    refine ⟨?_, rfl⟩
    cases l with
    | nil => rfl
    | cons x l => simp; omega
set_option maxHeartbeats 400000 in
theorem fail_nil (w : World) : Calls Tryz.prog 58 #[.pointer none] w fun e w' => e = .returned (.tuple #[]) ∧ w = w' := by
  go_enter Tryz.func58, Tryz.ntmps58
  go_wp2
  go_end0
  exact ⟨rfl, rfl⟩
set_option maxHeartbeats 400000 in
theorem fail_c {S : Nat → TypeId → Prop} {g : Nat} {l : List UInt8} {bad : Bool} (w : World) (h : Rd w S g l bad) :
    Calls Tryz.prog 58 #[.pointer (some ⟨g, 0, none⟩)] w fun e w' => e = .returned (.tuple #[]) ∧ Rd w' S g [] true ∧ w.grownBy w' (some g) := by
  obtain ⟨A, c, hg, _⟩ := h
  have c0 : w.cell? ⟨g, 0, none⟩ = some (.slice A l.length c) := cells_of hg 0
  have c1 : w.cell? ⟨g, 1, none⟩ = some (.bool bad) := cells_of hg 1
  have f0 : w.frozen? ⟨g, 0, none⟩ = false := free_of hg 0
  have f1 : w.frozen? ⟨g, 1, none⟩ = false := free_of hg 1
  have HG := Lib.hid hg
  clear hg
  go_enter Tryz.func58, Tryz.ntmps58
  go_wp2
  go_end0
  refine ⟨rfl, ⟨none, 0, ?_, RB.nil _ _ _, by simp, by simp [maxLen]⟩, ?_⟩
  · have h1 := set_of HG.out 0 (.slice none 0 0)
    have h2 := set_of h1 1 (.bool true)
    simpa using h2
  · exact grown_tr (grown_set _ rfl _) (grown_set _ rfl _)

set_option maxHeartbeats 400000 in
theorem rdnext_nil (n : Int) (w : World) : Calls Tryz.prog 59 #[.pointer none, .int .u64 n] w fun e w' => e = .returned (.slice none 0 0) ∧ w = w' := by
  go_enter Tryz.func59, Tryz.ntmps59
  go_wp2_with (first | (go_at_call 61; refine (bad_nil _).mono ?_; rintro e w' ⟨rfl, rfl⟩) | (go_at_call 58; refine (fail_nil _).mono ?_; rintro e w' ⟨rfl, rfl⟩))
  go_ret
  exact ⟨rfl, rfl⟩
set_option maxHeartbeats 400000 in
/-- not enough bytes, or a read has failed -/
theorem next_no {S : Nat → TypeId → Prop} {g : Nat} {l : List UInt8} {bad : Bool} (n : Int) (w : World) (h : Rd w S g l bad) (hn : bad = true ∨ (l.length : Int) < n) :
    Calls Tryz.prog 59 #[.pointer (some ⟨g, 0, none⟩), .int .u64 n] w fun e w' => e = .returned (.slice none 0 0) ∧ Rd w' S g [] true ∧ w.grownBy w' (some g) := by
  have h' := h
  obtain ⟨A, c, hg, _, hc, hm⟩ := h'
  have c0 : w.cell? ⟨g, 0, none⟩ = some (.slice A l.length c) := cells_of hg 0
  unfold maxLen at hm
  have H := Lib.hid h
  clear h hg
  cases bad with
  | true =>
    clear hn
    go_enter Tryz.func59, Tryz.ntmps59
    go_wp2_with (first | (go_at_call 61; refine (bad_c _ H.out).mono ?_; rintro e w' ⟨rfl, rfl⟩) | (go_at_call 58; refine (fail_c _ H.out).mono ?_; rintro e w' ⟨rfl, hr', hg'⟩))
    go_ret
    exact ⟨rfl, hr', hg'⟩
  | false =>
    replace hn : (l.length : Int) < n := by simpa using hn
    go_enter Tryz.func59, Tryz.ntmps59
    go_wp2_with (first | (go_at_call 61; refine (bad_c _ H.out).mono ?_; rintro e w' ⟨rfl, rfl⟩) | (go_at_call 58; refine (fail_c _ H.out).mono ?_; rintro e w' ⟨rfl, hr', hg'⟩))
    go_ret
    exact ⟨rfl, hr', hg'⟩
set_option maxHeartbeats 400000 in
theorem rdnext_c {S : Nat → TypeId → Prop} {g : Nat} {l : List UInt8} (n : Nat) (w : World) (h : Rd w S g l false) (hS : NoRd S) (hn : n ≤ l.length) :
    Calls Tryz.prog 59 #[.pointer (some ⟨g, 0, none⟩), .int .u64 n] w fun e w' => ∃ A, e = .returned (.slice A n n) ∧ RB w' S A (l.take n) ∧ Rd w' S g (l.drop n) false ∧ w.grownBy w' (some g) := by
  have h' := h
  obtain ⟨A, c, hg, hr, hc, hm⟩ := h'
  have c0 : w.cell? ⟨g, 0, none⟩ = some (.slice A l.length c) := cells_of hg 0
  have f0 : w.frozen? ⟨g, 0, none⟩ = false := free_of hg 0
  unfold maxLen at hm
  have H := Lib.hid h
  have HG := Lib.hid hg
  clear h hg
  go_enter Tryz.func59, Tryz.ntmps59
  go_wp2_with (first | (go_at_call 61; refine (bad_c _ H.out).mono ?_; rintro e w' ⟨rfl, rfl⟩))
  all_goals
    go_ret
    have hgr : ∀ u : Value, w.grownBy (w.setCell ⟨g, 0, none⟩ u) (some g) := fun u => grown_set _ rfl u
    have hd := hr.drop (k := n) hc
    refine ⟨A, rfl, (hr.take n).far (hgr _) HG.out hS, ?_, hgr _⟩
  · have hcn : c = n := by assumption
    rw [if_pos hcn] at hd
    refine ⟨A, c - n, ?_, hd.far (hgr _) HG.out hS, by rw [List.length_drop]; omega, by unfold maxLen; omega⟩
    rw [set_of HG.out 0 _]
    simp
    omega
  · have hcn : ¬ c = n := by assumption
    rw [if_neg hcn] at hd
    refine ⟨_, c - n, ?_, hd.far (hgr _) HG.out hS, by rw [List.length_drop]; omega, by unfold maxLen; omega⟩
    rw [set_of HG.out 0 _]
    simp

/-! ## Take -/
set_option maxHeartbeats 400000 in
theorem take_nil (n : Int) (w : World) (hn : -9223372036854775808 ≤ n ∧ n ≤ 9223372036854775807) : Calls Tryz.prog 39 #[.pointer none, .int .i64 n] w fun e w' => e = .returned (.slice none 0 0) ∧ w = w' := by
  obtain ⟨hn1, hn2⟩ := hn
  by_cases h0 : n < 0
  · go_enter Tryz.func39, Tryz.ntmps39
    go_wp2_with (go_at_call 58; refine (fail_nil _).mono ?_; rintro e w' ⟨rfl, rfl⟩)
    go_ret
    exact ⟨rfl, rfl⟩
  · go_enter Tryz.func39, Tryz.ntmps39
    go_wp2_with fail
    refine (rdnext_nil _ _).mono ?_
    rintro e w' ⟨rfl, rfl⟩
    go_wp2_with fail
    refine (clone_nil _).mono ?_
    rintro e w' ⟨rfl, rfl⟩
    go_wp2_with fail
    go_ret
    exact ⟨rfl, rfl⟩
set_option maxHeartbeats 400000 in
theorem take_no {S : Nat → TypeId → Prop} {g : Nat} {l : List UInt8} {bad : Bool} (n : Int) (w : World) (h : Rd w S g l bad) (hb : -9223372036854775808 ≤ n ∧ n ≤ 9223372036854775807) (hn : bad = true ∨ n < 0 ∨ (l.length : Int) < n) :
    Calls Tryz.prog 39 #[.pointer (some ⟨g, 0, none⟩), .int .i64 n] w fun e w' => e = .returned (.slice none 0 0) ∧ Rd w' S g [] true ∧ w.grownBy w' (some g) := by
  obtain ⟨hn1, hn2⟩ := hb
  have H := Lib.hid h
  clear h
  by_cases h0 : n < 0
  · clear hn
    go_enter Tryz.func39, Tryz.ntmps39
    go_wp2_with (go_at_call 58; refine (fail_c _ H.out).mono ?_; rintro e w' ⟨rfl, hr', hg'⟩)
    go_ret
    exact ⟨rfl, hr', hg'⟩
  · have hn' : bad = true ∨ (l.length : Int) < n := by rcases hn with h | h | h; exact .inl h; omega; exact .inr h
    have HN := Lib.hid hn'
    clear hn hn'
    go_enter Tryz.func39, Tryz.ntmps39
    go_wp2_with fail
    refine (next_no _ _ H.out HN.out).mono ?_
    rintro e w1 ⟨rfl, hr', hg'⟩
    go_wp2_with fail
    refine (clone_nil _).mono ?_
    rintro e w' ⟨rfl, rfl⟩
    go_wp2_with fail
    go_ret
    exact ⟨rfl, hr', hg'⟩
set_option maxHeartbeats 400000 in
theorem take_c {S : Nat → TypeId → Prop} {g : Nat} {l : List UInt8} (n : Nat) (w : World) (h : Rd w S g l false) (hS : NoRd S) (hl : l.length ≤ 140737488355328) (hn : n ≤ l.length) :
    Calls Tryz.prog 39 #[.pointer (some ⟨g, 0, none⟩), .int .i64 n] w fun e w' => ∃ A c, e = .returned (.slice A (l.take n).length c) ∧ OwnB w' 5 w.heap.size A c (l.take n) ∧ Rd w' S g (l.drop n) false ∧ w.grownBy w' (some g) := by
  have H := Lib.hid h
  clear h
  go_enter Tryz.func39, Tryz.ntmps39
  go_wp2_with fail
  refine (rdnext_c n _ H.out hS hn).mono ?_
  rintro e w1 ⟨A, rfl, hA, hr, hg⟩
  have hA' := Lib.hid hA
  have hr' := Lib.hid hr
  have hln : (l.take n).length = n := by rw [List.length_take]; omega
  have hcl := clone_c A n (l.take n) S w1 hA (by omega)
  rw [hln] at hcl
  have hcl' := Lib.hid hcl
  have hln' := Lib.hid hln
  clear hA hr hcl hln
  go_wp2_with fail
  refine hcl'.out.mono ?_
  rintro e w2 ⟨B, c, rfl, hB, hx⟩
  go_wp2_with fail
  go_ret
  exact ⟨B, c, by rw [hln'.out]; rfl, hB.less hg.size, hr'.out.ext hx, grown_tr hg (hx.grown _)⟩

end Go.Proofs.YtagegigffohcbaaGreatDoor

namespace Go.Proofs.YtagegigffohcbaaGreatDoor
open Go.RowKit

/-- the number with these bytes, the highest first -/
def be (l : List UInt8) : Nat := l.foldl (fun x b => x * 256 + b.toNat) 0
theorem be_snoc (l : List UInt8) (b : UInt8) : be (l ++ [b]) = be l * 256 + b.toNat := by simp [be]
theorem be_lt_from (l : List UInt8) : ∀ a : Nat, l.foldl (fun x b => x * 256 + b.toNat) a < (a + 1) * 256 ^ l.length := by
  induction l with
  | nil => intro a; simp
  | cons b l ih =>
    intro a
    have h := ih (a * 256 + b.toNat)
    have hb := UInt8.toNat_lt b
    have h2 : (a * 256 + b.toNat + 1) * 256 ^ l.length ≤ ((a + 1) * 256) * 256 ^ l.length := Nat.mul_le_mul_right _ (by omega)
    rw [List.foldl_cons, List.length_cons, Nat.pow_succ]
    have h3 : (a + 1) * (256 ^ l.length * 256) = ((a + 1) * 256) * 256 ^ l.length := by rw [Nat.mul_assoc, Nat.mul_comm 256]
    omega
theorem be_lt (l : List UInt8) : be l < 256 ^ l.length := by
  have h := be_lt_from l 0
  rw [Nat.zero_add, Nat.one_mul] at h
  exact h

theorem or_step (x b : Nat) (hx : x < 72057594037927936) (hb : b < 256) : bits .or .u64 (IntKind.u64.wrap ((x : Int) * 256)) (IntKind.u64.wrap (b : Int)) = ((x * 256 + b : Nat) : Int) := by
  have e1 : IntKind.u64.wrap ((x : Int) * 256) = ((x * 256 : Nat) : Int) := by rw [IntKind.wrap_u64]; omega
  have e2 : IntKind.u64.wrap (b : Int) = (b : Int) := by rw [IntKind.wrap_u64]; omega
  rw [e1, e2, u64_or_nat _ _ (by omega) (by omega), nat_join 8 (x * 256) b (by omega) (by omega)]
theorem be_take (m : List UInt8) (j : Nat) (h : j < m.length) : be (m.take (j + 1)) = be (m.take j) * 256 + (m[j]).toNat := by
  rw [List.take_succ_eq_append_getElem h, be_snoc]
theorem be_take_lt (m : List UInt8) (j : Nat) (h : j < 8) : be (m.take j) < 72057594037927936 := by
  have h1 := be_lt (m.take j)
  have h2 : 256 ^ (m.take j).length ≤ 256 ^ 7 := Nat.pow_le_pow_right (by omega) (by rw [List.length_take]; omega)
  omega

set_option maxHeartbeats 400000 in
theorem num_c {S : Nat → TypeId → Prop} {g : Nat} {l : List UInt8} (k : Nat) (w : World) (h : Rd w S g l false) (hS : NoRd S) (hk : 1 ≤ k ∧ k ≤ 8) (hn : k ≤ l.length) :
    Calls Tryz.prog 37 #[.pointer (some ⟨g, 0, none⟩), .int .i64 k] w fun e w' => e = .returned (.int .u64 (be (l.take k))) ∧ Rd w' S g (l.drop k) false ∧ w.grownBy w' (some g) := by
  have H := Lib.hid h
  clear h
  obtain ⟨hk1, hk2⟩ := hk
  go_enter Tryz.func37, Tryz.ntmps37
  go_wp2_with (go_at_call 57; refine (isWidth_t _ _ ⟨by omega, by omega⟩).mono ?_; rintro e w' ⟨rfl, rfl⟩)
  refine (rdnext_c k _ H.out hS hn).mono ?_
  rintro e w1 ⟨A, rfl, hA, hr, hg⟩
  have hr' := Lib.hid hr
  have hg' := Lib.hid hg
  clear hr hg
  have hln : (l.take k).length = k := by rw [List.length_take]; omega
  obtain ⟨m, hm⟩ : ∃ m, m = l.take k := ⟨_, rfl⟩
  rw [← hm] at hA hln
  have HM := Lib.hid hm
  clear hm
  have hln1 : m.length ≤ k := by omega
  have hln2 : k ≤ m.length := by omega
  clear hln
  go_wp2_with fail
  go_loop [5, 18] (fun x i => ∃ j : Nat, j ≤ k ∧ i = .int .i64 j ∧ x = .int .u64 (be (m.take j))) (fun _ i => k - (intOf i).toNat)
  case atStart => exact ⟨0, Nat.zero_le _, rfl, rfl⟩
  case round =>
    obtain ⟨j, hj, rfl, rfl⟩ := hrel
    by_cases hlt : j < k
    · have hlt' : j < m.length := by omega
      obtain ⟨g', off', rfl, hc'⟩ := hA.cell hlt'
      have hb := be_take_lt m j (by omega)
      have hs := Lib.hid (be_take m j hlt')
      have ho := Lib.hid (or_step (be (m.take j)) (m[j]).toNat hb (UInt8.toNat_lt _))
      clear hb
      go_wp2_with fail
      go_round
      case rel => exact ⟨j + 1, by omega, by go_num, by rw [ho.out, hs.out]⟩
      case measure => simp [intOf]; omega
    · go_wp2_with fail
      go_ret
      have e : m.take j = m := List.take_of_length_le (by omega)
      rw [← HM.out]
      refine ⟨?_, hr'.out, hg'.out⟩
      rw [e]
      rfl

/-! ## a number is read: the failing ways -/
set_option maxHeartbeats 400000 in
theorem num_no {S : Nat → TypeId → Prop} {g : Nat} {l : List UInt8} {bad : Bool} (k : Int) (w : World) (h : Rd w S g l bad) (hn : bad = true ∨ ¬ (1 ≤ k ∧ k ≤ 8) ∨ (l.length : Int) < k) :
    Calls Tryz.prog 37 #[.pointer (some ⟨g, 0, none⟩), .int .i64 k] w fun e w' => e = .returned (.int .u64 0) ∧ Rd w' S g [] true ∧ w.grownBy w' (some g) := by
  have H := Lib.hid h
  clear h
  by_cases hk : 1 ≤ k ∧ k ≤ 8
  · have hn' : bad = true ∨ (l.length : Int) < k := by rcases hn with h | h | h; exact .inl h; exact absurd hk h; exact .inr h
    have HN := Lib.hid hn'
    clear hn hn'
    have hw := fun W => isWidth_t k W hk
    have hw' := Lib.hid hw
    obtain ⟨h1, h2⟩ := hk
    clear hw
    go_enter Tryz.func37, Tryz.ntmps37
    go_wp2_with (go_at_call 57; refine (hw'.out _).mono ?_; rintro e w' ⟨rfl, rfl⟩)
    refine (next_no _ _ H.out HN.out).mono ?_
    rintro e w1 ⟨rfl, hr, hg⟩
    go_wp2_with fail
    go_loop [5, 18] (fun x i => x = .int .u64 0 ∧ i = .int .i64 0) (fun _ i => 0)
    case atStart => exact ⟨rfl, rfl⟩
    case round =>
      obtain ⟨rfl, rfl⟩ := hrel
      go_wp2_with fail
      go_ret
      exact ⟨rfl, hr, hg⟩
  · clear hn
    have hw := fun W => isWidth_f k W hk
    have hw' := Lib.hid hw
    clear hw hk
    go_enter Tryz.func37, Tryz.ntmps37
    go_wp2_with (first | (go_at_call 57; refine (hw'.out _).mono ?_; rintro e w' ⟨rfl, rfl⟩) | (go_at_call 58; refine (fail_c _ H.out).mono ?_; rintro e w' ⟨rfl, hr, hg⟩))
    go_ret
    exact ⟨rfl, hr, hg⟩
set_option maxHeartbeats 400000 in
theorem num_nil (k : Int) (w : World) (hk : 1 ≤ k ∧ k ≤ 8) :
    Calls Tryz.prog 37 #[.pointer none, .int .i64 k] w fun e w' => e = .returned (.int .u64 0) ∧ w = w' := by
  have hw := fun W => isWidth_t k W hk
  have hw' := Lib.hid hw
  obtain ⟨h1, h2⟩ := hk
  clear hw
  go_enter Tryz.func37, Tryz.ntmps37
  go_wp2_with (go_at_call 57; refine (hw'.out _).mono ?_; rintro e w' ⟨rfl, rfl⟩)
  refine (rdnext_nil _ _).mono ?_
  rintro e w1 ⟨rfl, rfl⟩
  go_wp2_with fail
  go_loop [5, 18] (fun x i => x = .int .u64 0 ∧ i = .int .i64 0) (fun _ i => 0)
  case atStart => exact ⟨rfl, rfl⟩
  case round =>
    obtain ⟨rfl, rfl⟩ := hrel
    go_wp2_with fail
    go_ret
    exact ⟨rfl, rfl⟩

/-! ## a string is read -/
set_option maxHeartbeats 400000 in
theorem str_c {S : Nat → TypeId → Prop} {g : Nat} {l : List UInt8} (k : Nat) (w : World) (h : Rd w S g l false) (hS : NoRd S) (hl : l.length ≤ 140737488355328) (hk : 1 ≤ k ∧ k ≤ 8) (hn : k ≤ l.length) (hm : be (l.take k) ≤ l.length - k) :
    Calls Tryz.prog 60 #[.pointer (some ⟨g, 0, none⟩), .int .i64 k] w fun e w' => ∃ A c, e = .returned (.slice A ((l.drop k).take (be (l.take k))).length c) ∧
      OwnB w' 5 w.heap.size A c ((l.drop k).take (be (l.take k))) ∧ Rd w' S g ((l.drop k).drop (be (l.take k))) false ∧ w.grownBy w' (some g) := by
  have H := Lib.hid h
  clear h
  obtain ⟨n, hn0⟩ : ∃ n, n = be (l.take k) := ⟨_, rfl⟩
  rw [← hn0] at hm
  have HN := Lib.hid hn0
  clear hn0
  go_enter Tryz.func60, Tryz.ntmps60
  go_wp2_with fail
  refine (num_c k _ H.out hS hk hn).mono ?_
  rintro e w1 ⟨rfl, hr, hg⟩
  rw [← HN.out]
  have HR := Lib.hid hr
  have HG := Lib.hid hg
  clear hr hg
  go_wp2_with fail
  refine (rdnext_c n _ HR.out hS (by rw [List.length_drop]; omega)).mono ?_
  rintro e w2 ⟨A, rfl, hA, hr2, hg2⟩
  have hln : ((l.drop k).take n).length = n := by rw [List.length_take, List.length_drop]; omega
  have hcl := clone_c A n ((l.drop k).take n) S w2 hA (by omega)
  rw [hln] at hcl
  have hcl' := Lib.hid hcl
  have hln' := Lib.hid hln
  have hr2' := Lib.hid hr2
  have hg2' := Lib.hid hg2
  clear hA hr2 hg2 hcl hln
  go_wp2_with fail
  refine hcl'.out.mono ?_
  rintro e w3 ⟨B, c, rfl, hB, hx⟩
  go_wp2_with fail
  go_ret
  rw [← HN.out]
  exact ⟨B, c, by rw [hln'.out]; rfl, hB.less (Nat.le_trans HG.out.size hg2'.out.size), hr2'.out.ext hx, grown_tr (grown_tr HG.out hg2'.out) (hx.grown _)⟩
set_option maxHeartbeats 400000 in
theorem str_no {S : Nat → TypeId → Prop} {g : Nat} {l : List UInt8} {bad : Bool} (k : Int) (w : World) (h : Rd w S g l bad) (hS : NoRd S)
    (hn : bad = true ∨ ¬ (1 ≤ k ∧ k ≤ 8) ∨ (l.length : Int) < k ∨ l.length - k.toNat < be (l.take k.toNat)) :
    Calls Tryz.prog 60 #[.pointer (some ⟨g, 0, none⟩), .int .i64 k] w fun e w' => e = .returned (.slice none 0 0) ∧ Rd w' S g [] true ∧ w.grownBy w' (some g) := by
  have H := Lib.hid h
  clear h
  by_cases hb : bad = true ∨ ¬ (1 ≤ k ∧ k ≤ 8) ∨ (l.length : Int) < k
  · have HB := Lib.hid hb
    clear hn hb
    go_enter Tryz.func60, Tryz.ntmps60
    go_wp2_with fail
    refine (num_no k _ H.out HB.out).mono ?_
    rintro e w1 ⟨rfl, hr, hg⟩
    have HR := Lib.hid hr
    clear hr
    go_wp2_with fail
    refine (next_no 0 _ HR.out (.inl rfl)).mono ?_
    rintro e w2 ⟨rfl, hr2, hg2⟩
    go_wp2_with fail
    refine (clone_nil _).mono ?_
    rintro e w' ⟨rfl, rfl⟩
    go_wp2_with fail
    go_ret
    exact ⟨rfl, hr2, grown_tr hg hg2⟩
  · simp only [not_or, Classical.not_not] at hb
    obtain ⟨hb1, ⟨hb2, hb3⟩, hb4⟩ := hb
    have hn' : l.length - k.toNat < be (l.take k.toNat) := by rcases hn with h | h | h | h; exact absurd h hb1; exact absurd ⟨hb2, hb3⟩ h; omega; exact h
    obtain rfl : bad = false := by simpa using hb1
    obtain ⟨m, rfl⟩ := Int.eq_ofNat_of_zero_le (by omega : 0 ≤ k)
    rw [Int.toNat_natCast] at hn'
    clear hn hb1
    obtain ⟨n, hn0⟩ : ∃ n, n = be (l.take m) := ⟨_, rfl⟩
    rw [← hn0] at hn'
    have HN := Lib.hid hn0
    clear hn0
    go_enter Tryz.func60, Tryz.ntmps60
    go_wp2_with fail
    refine (num_c m _ H.out hS ⟨by omega, by omega⟩ (by omega)).mono ?_
    rintro e w1 ⟨rfl, hr, hg⟩
    rw [← HN.out]
    have HR := Lib.hid hr
    clear hr
    go_wp2_with fail
    refine (next_no n _ HR.out (.inr (by rw [List.length_drop]; omega))).mono ?_
    rintro e w2 ⟨rfl, hr2, hg2⟩
    go_wp2_with fail
    refine (clone_nil _).mono ?_
    rintro e w' ⟨rfl, rfl⟩
    go_wp2_with fail
    go_ret
    exact ⟨rfl, hr2, grown_tr hg hg2⟩
set_option maxHeartbeats 400000 in
theorem str_nil (k : Int) (w : World) (hk : 1 ≤ k ∧ k ≤ 8) :
    Calls Tryz.prog 60 #[.pointer none, .int .i64 k] w fun e w' => e = .returned (.slice none 0 0) ∧ w = w' := by
  have HK := Lib.hid hk
  clear hk
  go_enter Tryz.func60, Tryz.ntmps60
  go_wp2_with fail
  refine (num_nil k _ HK.out).mono ?_
  rintro e w' ⟨rfl, rfl⟩
  go_wp2_with fail
  refine (rdnext_nil 0 _).mono ?_
  rintro e w' ⟨rfl, rfl⟩
  go_wp2_with fail
  refine (clone_nil _).mono ?_
  rintro e w' ⟨rfl, rfl⟩
  go_wp2_with fail
  go_ret
  exact ⟨rfl, rfl⟩

/-! ## a new reader -/
set_option maxHeartbeats 400000 in
theorem rdnew_c (A : Option Addr) (c : Nat) (l : List UInt8) (S : Nat → TypeId → Prop) (w : World) (h : RB w S A l) (hl : l.length ≤ 140737488355328) :
    Calls Tryz.prog 36 #[.slice A l.length c] w fun e w' => ∃ g B, e = .returned (.pointer (some ⟨g, 0, none⟩)) ∧ w.heap.size ≤ g ∧
      Rd w' (fun k t => w.heap.size ≤ k ∧ t = 5 ∧ B = some k) g l false ∧ Ext w w' := by
  have H := Lib.hid h
  clear h
  go_enter Tryz.func36, Tryz.ntmps36
  go_wp2_with fail
  refine (clone_c A c l S _ H.out hl).mono ?_
  rintro e w1 ⟨B, d, rfl, hB, hx⟩
  go_wp2_with fail
  go_ret
  refine ⟨w1.heap.size, (Value.slice B l.length d).ownBlock, rfl, hx.size, ⟨B, d, new_of _ _, ?_, hB.le.1, hB.le.2⟩, hx.tr (Ext.alloc _ _)⟩
  exact (hB.rb.ext (Ext.alloc _ _)).more (fun k t ⟨h1, h2, h3⟩ => ⟨h1, h2, h3⟩)

/-! ## a number is written -/
/-- the number x in k bytes, the highest first -/
def nb : Nat → Nat → List UInt8
  | 0, _ => []
  | k + 1, x => nb k (x / 256) ++ [UInt8.ofNat (x % 256)]
theorem nb_length (k : Nat) : ∀ x, (nb k x).length = k := by
  induction k with
  | zero => intro x; rfl
  | succ k ih => intro x; rw [nb, List.length_append, ih]; rfl
theorem be_nb (k : Nat) : ∀ x, x < 256 ^ k → be (nb k x) = x := by
  induction k with
  | zero => intro x h; simp at h; subst h; rfl
  | succ k ih =>
    intro x h
    rw [Nat.pow_succ] at h
    rw [nb, be_snoc, ih _ (by omega)]
    have : (UInt8.ofNat (x % 256)).toNat = x % 256 := by rw [UInt8.toNat_ofNat']; omega
    omega
/-- byte j of the number, from the lowest -/
theorem nb_get (k : Nat) : ∀ x j, j < k → (nb k x)[k - 1 - j]? = some (UInt8.ofNat (x / 256 ^ j % 256)) := by
  induction k with
  | zero => intro x j h; omega
  | succ k ih =>
    intro x j h
    rw [nb, List.getElem?_append]
    rw [nb_length]
    rcases j with _ | j
    · rw [if_neg (by omega)]
      simp
    · rw [if_pos (by omega)]
      have e : k + 1 - 1 - (j + 1) = k - 1 - j := by omega
      rw [e, ih (x / 256) j (by omega), Nat.pow_succ, Nat.mul_comm, Nat.div_div_eq_div_mul]

/-- what the row holds when j bytes are written, the lowest first -/
def fil (k x j : Nat) : List UInt8 := List.replicate (k - j) 0 ++ (nb k x).drop (k - j)
theorem fil_length (k x j : Nat) (h : j ≤ k) : (fil k x j).length = k := by
  rw [fil, List.length_append, List.length_replicate, List.length_drop, nb_length]; omega
theorem fil_zero (k x : Nat) : fil k x 0 = List.replicate k 0 := by
  rw [fil, Nat.sub_zero, List.drop_of_length_le (by rw [nb_length]; omega), List.append_nil]
theorem fil_all (k x : Nat) : fil k x k = nb k x := by rw [fil, Nat.sub_self]; rfl
theorem fil_step (k x j : Nat) (h : j < k) : (fil k x j).set (k - 1 - j) (UInt8.ofNat (x / 256 ^ j % 256)) = fil k x (j + 1) := by
  have hg := nb_get k x j h
  have e1 : k - (j + 1) = k - 1 - j := by omega
  have e2 : k - j = (k - 1 - j) + 1 := by omega
  rw [fil, fil, e1, e2]
  have hl : k - 1 - j < (nb k x).length := by rw [nb_length]; omega
  rw [List.getElem?_eq_getElem hl] at hg
  injection hg with hg
  rw [List.drop_eq_getElem_cons hl, hg, List.replicate_succ', List.append_assoc, List.set_append]
  simp

theorem two_pow8 (j : Nat) : (2 : Int) ^ (8 * j) = ((256 ^ j : Nat) : Int) := by
  rw [show (256 : Nat) = 2 ^ 8 from rfl, ← Nat.pow_mul]
  norm_cast
theorem shr_byte (x j : Nat) : IntKind.u8.wrap ((x : Int) / 2 ^ (8 * j)) = ((UInt8.ofNat (x / 256 ^ j % 256)).toNat : Int) := by
  have e : (UInt8.ofNat (x / 256 ^ j % 256)).toNat = x / 256 ^ j % 256 := by rw [UInt8.toNat_ofNat']; omega
  rw [e, IntKind.wrap_u8', two_pow8, Int.natCast_emod, Int.natCast_ediv]
  rfl
theorem shr_zero (x k : Nat) (h : x < 256 ^ k) : ((x : Int) / 2 ^ (8 * k) != 0) = false := by
  apply bne_f
  rw [two_pow8]
  have h0 : x / 256 ^ k = 0 := Nat.div_eq_of_lt h
  have : ((x : Int) / ((256 ^ k : Nat) : Int)) = ((x / 256 ^ k : Nat) : Int) := (Int.natCast_ediv _ _).symm
  rw [this, h0]
  rfl
theorem shr_more (x k : Nat) (h : 256 ^ k ≤ x) : ((x : Int) / 2 ^ (8 * k) != 0) = true := by
  apply bne_t
  rw [two_pow8]
  have h1 : 0 < x / 256 ^ k := Nat.div_pos h (Nat.pow_pos (by omega))
  have : ((x : Int) / ((256 ^ k : Nat) : Int)) = ((x / 256 ^ k : Nat) : Int) := (Int.natCast_ediv _ _).symm
  rw [this]
  omega

set_option maxHeartbeats 400000 in
theorem put_c (k x : Nat) (w : World) (hk : 1 ≤ k ∧ k ≤ 8) (hx : x < 256 ^ k) (hx64 : x < 18446744073709551616) :
    Calls Tryz.prog 54 #[.int .i64 k, .int .u64 x] w fun e w' => ∃ A c, e = .returned (.tuple #[.slice A (nb k x).length c, .bool true]) ∧ OwnB w' 5 w.heap.size A c (nb k x) ∧ Ext w w' := by
  obtain ⟨i0, hi0, hz0, hz1, hz2⟩ := info_parts info_u8
  obtain ⟨h1, h2⟩ := hk
  have ht := shr_zero x k hx
  have hb := fun j => Lib.hid (shr_byte x j)
  have HX64 := Lib.hid hx64
  clear hx hx64
  go_enter Tryz.func54, Tryz.ntmps54
  go_wp2_with (first | (go_at_call 57; refine (isWidth_t _ _ ⟨by omega, by omega⟩).mono ?_; rintro e w' ⟨rfl, rfl⟩) | (at_make; refine wpList_make_full _ rfl _ _ 31 rfl w.heap.size 5 i0 (.int .u8 0) 1 Tryz.underlying31 hi0 hz0 hz1 .i64 .i64 _ _ k rfl rfl rfl rfl (by rw [hz2]; omega) (by unfold maxLen; omega) (Nat.le_refl _) ?_; intro w1 ho1 hg1))
  have hx1 : Ext w w1 := grown_ext hg1
  have ho : OwnB w1 5 w.heap.size (some ⟨w.heap.size, 0, none⟩) k (fil k x 0) := by
    unfold OwnB
    rw [fil_length _ _ _ (by omega), fil_zero, ← made_bytes]
    exact ho1
  clear ho1 hg1
  go_loopw [7, 22] (fun _ i wr => ∃ j : Nat, j ≤ k ∧ i = .int .i64 j ∧ OwnB wr 5 w.heap.size (some ⟨w.heap.size, 0, none⟩) k (fil k x j) ∧ Ext w wr) (fun _ i _ => k - (intOf i).toNat)
  case atStart => exact ⟨0, Nat.zero_le _, rfl, ho, hx1⟩
  case round =>
    obtain ⟨j, hj, rfl, hor, hxr⟩ := hrel
    by_cases hlt : j < k
    · obtain ⟨v0, hc⟩ : ∃ v, wr.cell? ⟨w.heap.size, k - 1 - j, none⟩ = some v := ⟨_, hor.cellAt (j := k - 1 - j) (by rw [fil_length _ _ _ hj]; omega)⟩
      have hf := hor.freeAt (k - 1 - j)
      have hst := hor.set_ (k - 1 - j) (UInt8.ofNat (x / 256 ^ j % 256))
      rw [fil_step k x j hlt, ← shr_byte] at hst
      have HST := Lib.hid hst
      have hxn := hxr.setCell (p := ⟨w.heap.size, k - 1 - j, none⟩) (Nat.le_refl _) (.int .u8 (IntKind.u8.wrap ((x : Int) / 2 ^ (8 * j))))
      clear hor hst
      go_wp2_with fail
      go_roundw
      case rel => exact ⟨j + 1, by omega, by go_num, HST.out, hxn⟩
      case measure => simp [intOf]; omega
    · obtain rfl : j = k := by omega
      rw [fil_all] at hor
      have HOR := Lib.hid hor
      clear hor
      go_wp2_with fail
      go_ret2
      exact ⟨some ⟨w.heap.size, 0, none⟩, j, by rw [nb_length]; rfl, HOR.out, hxr⟩

theorem isWidth_any (k : Int) (w : World) : Calls Tryz.prog 57 #[.int .i64 k] w fun e w' => e = .returned (.bool (decide (1 ≤ k ∧ k ≤ 8))) ∧ w = w' :=
  (isWidth_c k w).mono fun _ _ ⟨he, hw⟩ => ⟨by rw [he]; congr 2; simp, hw⟩

set_option maxHeartbeats 400000 in
theorem put_no (k : Int) (x : Nat) (w : World) (hb : -9223372036854775808 ≤ k ∧ k ≤ 9223372036854775807) (h : ¬ (1 ≤ k ∧ k ≤ 8) ∨ 256 ^ k.toNat ≤ x) :
    Calls Tryz.prog 54 #[.int .i64 k, .int .u64 x] w fun e w' => e = .returned (.tuple #[.slice none 0 0, .bool false]) ∧ w = w' := by
  obtain ⟨hb1, hb2⟩ := hb
  by_cases hk : 1 ≤ k ∧ k ≤ 8
  · have hx : 256 ^ k.toNat ≤ x := by rcases h with h | h; exact absurd hk h; exact h
    clear h
    have hw := fun W => Lib.hid (isWidth_t k W hk)
    obtain ⟨h1, h2⟩ := hk
    obtain ⟨m, rfl⟩ := Int.eq_ofNat_of_zero_le (by omega : 0 ≤ k)
    rw [Int.toNat_natCast] at hx
    have ht := shr_more x m hx
    clear hx
    go_enter Tryz.func54, Tryz.ntmps54
    go_wp2_with (go_at_call 57; refine (hw _).out.mono ?_; rintro e w' ⟨rfl, rfl⟩)
    go_ret2
    exact ⟨rfl, rfl⟩
  · have hw := fun W => Lib.hid (isWidth_f k W hk)
    clear h hk
    go_enter Tryz.func54, Tryz.ntmps54
    go_wp2_with (go_at_call 57; refine (hw _).out.mono ?_; rintro e w' ⟨rfl, rfl⟩)
    go_ret2
    exact ⟨rfl, rfl⟩


/-! ## a string is written -/
set_option maxHeartbeats 400000 in
theorem puts_c (k : Nat) (A : Option Addr) (c : Nat) (l : List UInt8) (S : Nat → TypeId → Prop) (w : World) (h : RB w S A l) (hk : 1 ≤ k ∧ k ≤ 8) (hx : l.length < 256 ^ k) (hl : l.length ≤ 140737488000000) :
    Calls Tryz.prog 81 #[.int .i64 k, .slice A l.length c] w fun e w' => ∃ A' c', e = .returned (.tuple #[.slice A' (nb k l.length ++ l).length c', .bool true]) ∧ OwnB w' 5 w.heap.size A' c' (nb k l.length ++ l) ∧ Ext w w' := by
  have H := Lib.hid h
  have HX := Lib.hid hx
  have HK := Lib.hid hk
  clear h hx hk
  go_enter Tryz.func81, Tryz.ntmps81
  go_wp2_with fail
  refine (put_c k l.length _ HK.out HX.out (by omega)).mono ?_
  rintro e w1 ⟨B, d, rfl, hB, hx1⟩
  have HB := Lib.hid hB
  have hbl := nb_length k l.length
  rw [hbl]
  have HBL := Lib.hid hbl
  clear hB hbl
  go_wp2_with fail
  have hr : RBs (w1.alloc (.cells #[.slice B k d, .slice A l.length c] 31)) (fun _ _ => True) (fun _ _ => True) (some ⟨w1.heap.size, 0, none⟩) [nb k l.length, l] := by
    intro _
    refine ⟨_, 0, _, _, _, rfl, new_of _ _, trivial, fun j m hj => ?_⟩
    match j, hj with
    | 0, hj =>
      injection hj with hj
      subst hj
      exact ⟨B, d, by rw [HBL.out]; rfl, ((HB.out.rb).ext (Ext.alloc _ _)).more (fun _ _ _ => trivial)⟩
    | 1, hj =>
      injection hj with hj
      subst hj
      exact ⟨A, c, rfl, ((H.out.ext hx1).ext (Ext.alloc _ _)).more (fun _ _ _ => trivial)⟩
  refine (join_c _ 2 [nb k l.length, l] _ _ _ hr (by simp [HBL.out]; have := HK.out.2; omega) (by simp)).mono ?_
  rintro e w2 ⟨A', c', rfl, ho, hx2⟩
  have HO := Lib.hid ho
  clear ho
  go_wp2_with fail
  go_ret2
  have e1 : [nb k l.length, l].flatten = nb k l.length ++ l := by simp
  have ho2 := HO.out
  rw [e1] at ho2
  exact ⟨A', c', by rw [List.length_append]; rfl, ho2.less (Nat.le_trans hx1.size (by simp)), (hx1.tr (Ext.alloc _ _)).tr hx2⟩
set_option maxHeartbeats 400000 in
theorem puts_no (k : Int) (A : Option Addr) (c : Nat) (l : List UInt8) (w : World) (hb : -9223372036854775808 ≤ k ∧ k ≤ 9223372036854775807) (h : ¬ (1 ≤ k ∧ k ≤ 8) ∨ 256 ^ k.toNat ≤ l.length) (hl : l.length ≤ 140737488355328) :
    Calls Tryz.prog 81 #[.int .i64 k, .slice A l.length c] w fun e w' => e = .returned (.tuple #[.slice none 0 0, .bool false]) ∧ w = w' := by
  have H := Lib.hid h
  have HB := Lib.hid hb
  clear h hb
  go_enter Tryz.func81, Tryz.ntmps81
  go_wp2_with fail
  refine (put_no k l.length _ HB.out H.out).mono ?_
  rintro e w1 ⟨rfl, rfl⟩
  go_wp2_with fail
  go_ret2
  exact ⟨rfl, rfl⟩

end Go.Proofs.YtagegigffohcbaaGreatDoor

namespace Go.Proofs.YtagegigffohcbaaGreatDoor
open Go.RowKit

/-- what is read, what is left, whether a read has failed -/
structure Tk where
  got : List UInt8
  num : Nat
  left : List UInt8
  bad : Bool
def Tk.no : Tk := ⟨[], 0, [], true⟩

def tk (n : Int) (l : List UInt8) (bad : Bool) : Tk := if bad = true ∨ n < 0 ∨ (l.length : Int) < n then .no else ⟨l.take n.toNat, 0, l.drop n.toNat, false⟩
def nm (k : Int) (l : List UInt8) (bad : Bool) : Tk := if bad = true ∨ ¬ (1 ≤ k ∧ k ≤ 8) ∨ (l.length : Int) < k then .no else ⟨[], be (l.take k.toNat), l.drop k.toNat, false⟩
def st (k : Int) (l : List UInt8) (bad : Bool) : Tk :=
  if bad = true ∨ ¬ (1 ≤ k ∧ k ≤ 8) ∨ (l.length : Int) < k ∨ l.length - k.toNat < be (l.take k.toNat) then .no
  else ⟨(l.drop k.toNat).take (be (l.take k.toNat)), 0, (l.drop k.toNat).drop (be (l.take k.toNat)), false⟩

theorem tk_len (n : Int) (l : List UInt8) (bad : Bool) : (tk n l bad).got.length ≤ l.length ∧ (tk n l bad).left.length ≤ l.length := by
  unfold tk Tk.no; split
  · simp
  · simp only [List.length_take, List.length_drop]; omega
theorem nm_len (n : Int) (l : List UInt8) (bad : Bool) : (nm n l bad).left.length ≤ l.length := by
  unfold nm Tk.no; split
  · simp
  · simp only [List.length_drop]; omega
theorem st_len (n : Int) (l : List UInt8) (bad : Bool) : (st n l bad).got.length ≤ l.length ∧ (st n l bad).left.length ≤ l.length := by
  unfold st Tk.no; split
  · simp
  · simp only [List.length_take, List.length_drop]; omega
theorem nm_lt (n : Int) (l : List UInt8) (bad : Bool) : (nm n l bad).num < 18446744073709551616 := by
  unfold nm Tk.no; split
  · simp
  · rename_i h
    have h1 := be_lt (l.take n.toNat)
    have h2 : 256 ^ (l.take n.toNat).length ≤ 256 ^ 8 := Nat.pow_le_pow_right (by omega) (by rw [List.length_take]; omega)
    have h3 : (256 : Nat) ^ 8 = 18446744073709551616 := by decide
    show be (l.take n.toNat) < _
    omega

theorem take_any {S : Nat → TypeId → Prop} {g : Nat} {l : List UInt8} {bad : Bool} (n : Int) (w : World) (h : Rd w S g l bad) (hS : NoRd S) (hl : l.length ≤ 140737488355328) (hn : -9223372036854775808 ≤ n ∧ n ≤ 9223372036854775807) :
    Calls Tryz.prog 39 #[.pointer (some ⟨g, 0, none⟩), .int .i64 n] w fun e w' => ∃ A c, e = .returned (.slice A (tk n l bad).got.length c) ∧ OwnB w' 5 w.heap.size A c (tk n l bad).got ∧
      Rd w' S g (tk n l bad).left (tk n l bad).bad ∧ w.grownBy w' (some g) := by
  unfold tk
  by_cases hb : bad = true ∨ n < 0 ∨ (l.length : Int) < n
  · rw [if_pos hb]
    exact (take_no n w h hn hb).mono fun e w' ⟨he, hr, hg⟩ => ⟨none, 0, he, OwnB.nil _ _ _, hr, hg⟩
  · rw [if_neg hb]
    simp only [not_or] at hb
    obtain ⟨h1, h2, h3⟩ := hb
    obtain ⟨k, rfl⟩ := Int.eq_ofNat_of_zero_le (by omega : 0 ≤ n)
    obtain rfl : bad = false := by simpa using h1
    rw [Int.toNat_natCast]
    exact take_c k w h hS hl (by omega)
theorem num_any {S : Nat → TypeId → Prop} {g : Nat} {l : List UInt8} {bad : Bool} (k : Int) (w : World) (h : Rd w S g l bad) (hS : NoRd S) :
    Calls Tryz.prog 37 #[.pointer (some ⟨g, 0, none⟩), .int .i64 k] w fun e w' => e = .returned (.int .u64 (nm k l bad).num) ∧
      Rd w' S g (nm k l bad).left (nm k l bad).bad ∧ w.grownBy w' (some g) := by
  unfold nm
  by_cases hb : bad = true ∨ ¬ (1 ≤ k ∧ k ≤ 8) ∨ (l.length : Int) < k
  · rw [if_pos hb]
    exact (num_no k w h hb).mono fun e w' ⟨he, hr, hg⟩ => ⟨he, hr, hg⟩
  · rw [if_neg hb]
    simp only [not_or, Classical.not_not] at hb
    obtain ⟨h1, ⟨h2, h4⟩, h3⟩ := hb
    obtain ⟨k, rfl⟩ := Int.eq_ofNat_of_zero_le (by omega : 0 ≤ k)
    obtain rfl : bad = false := by simpa using h1
    rw [Int.toNat_natCast]
    exact num_c k w h hS ⟨by omega, by omega⟩ (by omega)
theorem str_any {S : Nat → TypeId → Prop} {g : Nat} {l : List UInt8} {bad : Bool} (k : Int) (w : World) (h : Rd w S g l bad) (hS : NoRd S) (hl : l.length ≤ 140737488355328) :
    Calls Tryz.prog 60 #[.pointer (some ⟨g, 0, none⟩), .int .i64 k] w fun e w' => ∃ A c, e = .returned (.slice A (st k l bad).got.length c) ∧ OwnB w' 5 w.heap.size A c (st k l bad).got ∧
      Rd w' S g (st k l bad).left (st k l bad).bad ∧ w.grownBy w' (some g) := by
  unfold st
  by_cases hb : bad = true ∨ ¬ (1 ≤ k ∧ k ≤ 8) ∨ (l.length : Int) < k ∨ l.length - k.toNat < be (l.take k.toNat)
  · rw [if_pos hb]
    exact (str_no k w h hS hb).mono fun e w' ⟨he, hr, hg⟩ => ⟨none, 0, he, OwnB.nil _ _ _, hr, hg⟩
  · rw [if_neg hb]
    simp only [not_or, Classical.not_not] at hb
    obtain ⟨h1, ⟨h2, h4⟩, h3, h5⟩ := hb
    obtain ⟨k, rfl⟩ := Int.eq_ofNat_of_zero_le (by omega : 0 ≤ k)
    obtain rfl : bad = false := by simpa using h1
    rw [Int.toNat_natCast] at h5 ⊢
    exact str_c k w h hS hl ⟨by omega, by omega⟩ (by omega) (by omega)
end Go.Proofs.YtagegigffohcbaaGreatDoor

namespace Go.Proofs.YtagegigffohcbaaGreatDoor
open Go.RowKit
set_option maxRecDepth 100000

set_option maxHeartbeats 400000 in
theorem rfail_c (w : World) : Calls Tryz.prog 79 #[] w fun e w' => e = .returned (.agg #[.slice none 0 0, .bool true]) ∧ Ext w w' := by
  go_enter Tryz.func79, Tryz.ntmps79
  go_wp2
  exact bodyPost_ret (v := .agg #[.slice none 0 0, .bool true]) (by simp [results, Tryz.results79, go_sem]) rfl ⟨rfl, Ext.alloc _ _⟩

set_option maxHeartbeats 1000000 in
theorem rtake_no (A : Option Addr) (c : Nat) (l : List UInt8) (bad : Bool) (n : Int) (w : World) (hb : -9223372036854775808 ≤ n ∧ n ≤ 9223372036854775807) (_hl : l.length ≤ 140737488355328) (hn : bad = true ∨ n < 0 ∨ (l.length : Int) < n) :
    Calls Tryz.prog 80 #[.agg #[.slice A l.length c, .bool bad], .int .i64 n] w fun e w' => e = .returned (.tuple #[.agg #[.slice none 0 0, .bool true], .slice none 0 0]) ∧ Ext w w' := by
  obtain ⟨hb1, hb2⟩ := hb
  have h' : bad = true ∨ (bad = false ∧ n < 0) ∨ (bad = false ∧ 0 ≤ n ∧ (l.length : Int) < n) := by cases bad <;> simp_all <;> omega
  clear hn
  rcases h' with rfl | ⟨rfl, h1⟩ | ⟨rfl, h1, h2⟩
  all_goals
    go_enter Tryz.func80, Tryz.ntmps80
    go_wp2_with fail
    refine (rfail_c _).mono ?_
    rintro e w1 ⟨rfl, hx⟩
    have hd := hx.get (two_new _ _ _).2
    have c0 : w1.cell? ⟨w.heap.size + 1, 0, none⟩ = some (.slice none 0 0) := cells_of hd 0
    have c1 : w1.cell? ⟨w.heap.size + 1, 1, none⟩ = some (.bool false) := cells_of hd 1
    have f0 : w1.frozen? ⟨w.heap.size + 1, 0, none⟩ = false := free_of hd 0
    have f1 : w1.frozen? ⟨w.heap.size + 1, 1, none⟩ = false := free_of hd 1
    have hx0 : Ext w w1 := ((Ext.alloc _ _).tr (Ext.alloc _ _)).tr hx
    have HX := Lib.hid hx0
    have HD := Lib.hid hd
    clear hx hx0 hd
    go_wp2_with fail
    have q1 := set_of HD.out 0 (.slice none 0 0)
    have q2 := set_of q1 1 (.bool true)
    have e1 := cells_of q2 0
    have e2 := cells_of q2 1
    simp at e1 e2
    refine bodyPost_ret (v := .tuple #[.agg #[.slice none 0 0, .bool true], .slice none 0 0]) (by simp [results, Tryz.results80, go_sem, e1, e2]) rfl ⟨rfl, ?_⟩
    repeat (first | exact HX.out | refine Below.setCell ?_ (by simp) _)

set_option maxHeartbeats 1000000 in
theorem rtake_c (A : Option Addr) (c : Nat) (l : List UInt8) (S : Nat → TypeId → Prop) (n : Nat) (w : World) (h : RB w S A l) (hc : l.length ≤ c) (hm : c ≤ maxLen) (hl : l.length ≤ 140737488355328) (hn : n ≤ l.length) :
    Calls Tryz.prog 80 #[.agg #[.slice A l.length c, .bool false], .int .i64 n] w fun e w' => ∃ A1 c1 A2 c2, e = .returned (.tuple #[.agg #[.slice A1 (l.drop n).length c1, .bool false], .slice A2 (l.take n).length c2]) ∧
      RB w' S A1 (l.drop n) ∧ (l.drop n).length ≤ c1 ∧ c1 ≤ maxLen ∧ OwnB w' 5 w.heap.size A2 c2 (l.take n) ∧ Ext w w' := by
  obtain ⟨i0, hi0, hz0, hz1, hz2⟩ := info_parts info_u8
  unfold maxLen at hm
  have H := Lib.hid h
  clear h
  go_enter Tryz.func80, Tryz.ntmps80
  go_wp2_with fail
  obtain ⟨W, hW⟩ : ∃ W, W = (w.alloc (.cells #[.slice A l.length c, .bool false] 80)).alloc (.cells #[.slice none 0 0, .bool false] 80) := ⟨_, rfl⟩
  obtain ⟨d0, d1⟩ := two_new w (.cells #[.slice A l.length c, .bool false] 80) (.cells #[.slice none 0 0, .bool false] 80)
  have hx0 : Ext w W := by rw [hW]; exact (Ext.alloc _ _).tr (Ext.alloc _ _)
  rw [← hW] at d0 d1 ⊢
  have a0 : W.cell? ⟨w.heap.size, 0, none⟩ = some (.slice A l.length c) := cells_of d0 0
  have b0 : W.cell? ⟨w.heap.size + 1, 0, none⟩ = some (.slice none 0 0) := cells_of d1 0
  have b1 : W.cell? ⟨w.heap.size + 1, 1, none⟩ = some (.bool false) := cells_of d1 1
  have f0 : W.frozen? ⟨w.heap.size + 1, 0, none⟩ = false := free_of d1 0
  have f1 : W.frozen? ⟨w.heap.size + 1, 1, none⟩ = false := free_of d1 1
  have hlt := lt_of_some d1
  have HX := Lib.hid hx0
  have D0 := Lib.hid d0
  have D1 := Lib.hid d1
  clear hW d0 d1 hx0
  have n0 : (0 : Int) ≤ (n : Int) := Int.natCast_nonneg _
  have n1 : (n : Int) ≤ (l.length : Int) := by omega
  have n2 : (l.length : Int) ≤ (c : Int) := by omega
  have n3 : (n : Int) ≤ (c : Int) := by omega
  have hown : OwnB (W.alloc (.cells #[] 5)).drew 5 w.heap.size (some ⟨W.heap.size, 0, none⟩) 0 [] :=
    (OwnB.lit (w := W) (E := 5) (base := w.heap.size) [] #[] rfl HX.out.size (by simp [maxLen])).ext (Ext.drew _)
  have hln : (l.take n).length = n := by rw [List.length_take]; omega
  have hsrc : RB (W.alloc (.cells #[] 5)).drew S A (l.take n) := (((H.out.ext HX.out).ext (Ext.alloc _ _)).ext (Ext.drew _)).take n
  have hbound : ([] : List UInt8).length + n ≤ 140737488355328 := by simp; omega
  have hsz : w.heap.size ≤ (W.alloc (.cells #[] 5)).drew.heap.size := ((HX.out.tr (Ext.alloc _ _)).tr (Ext.drew _)).size
  by_cases hcn : c = n
  · obtain rfl : c = n := hcn
    go_region_held3 (fun V => V.cell? ⟨w.heap.size, 0, none⟩ = some (.slice A l.length c)) (first | (exact g0) | go_keep)
      (first
        | (refine step_append_bytes _ (by rfl) _ _ _ (by rfl) w.heap.size 5 i0 Tryz.underlying31 hi0 hz0 hz1 hz2 (some ⟨W.heap.size, 0, none⟩) 0 [] (by rfl) hown S A c c (l.take c) (by rfl) hln hsrc hbound hsz ?_
           intro A' c' w2 ho2 hg2 hb2
           have x2 : Ext W w2 := grown_new ((Ext.alloc W (.cells #[] 5)).tr (Ext.drew _)) hg2 (fun g hg => by simp [Value.ownBlock] at hg; omega)
           have g0 : w2.cell? ⟨w.heap.size, 0, none⟩ = some (.slice A l.length c) := cells_of (x2.get D0.out) 0
           have g1 : w2.cell? ⟨w.heap.size + 1, 0, none⟩ = some (.slice none 0 0) := cells_of (x2.get D1.out) 0
           have g2 : w2.cell? ⟨w.heap.size + 1, 1, none⟩ = some (.bool false) := cells_of (x2.get D1.out) 1
           have g3 : w2.frozen? ⟨w.heap.size + 1, 0, none⟩ = false := free_of (x2.get D1.out) 0
           have g4 : w2.frozen? ⟨w.heap.size + 1, 1, none⟩ = false := free_of (x2.get D1.out) 1))
    go_wp2_with fail
    have hd := H.out.drop (k := c) hc
    rw [if_pos rfl] at hd
    have D2 := x2.get D1.out
    have q1 := set_of D2 0 (.slice A 0 0)
    have q2 := set_of q1 1 (.bool false)
    have e1 := cells_of q2 0
    have e2 := cells_of q2 1
    simp at e1 e2
    have hg3 : w2.grownBy ((w2.setCell ⟨w.heap.size + 1, 0, none⟩ (.slice A 0 0)).setCell ⟨w.heap.size + 1, 1, none⟩ (.bool false)) (some (w.heap.size + 1)) := grown_tr (grown_set _ rfl _) (grown_set _ rfl _)
    have x3 := grown_new (HX.out.tr x2) hg3 (fun g hg => by simp at hg; omega)
    have hln2 : (l.drop c).length = 0 := by rw [List.length_drop]; omega
    refine bodyPost_ret (v := .tuple #[.agg #[.slice A 0 0, .bool false], .slice A' c c']) (by simp [results, Tryz.results80, go_sem, e1, e2]) rfl ⟨A, 0, A', c', by rw [hln2, hln], hd.ext x3, by omega, by unfold maxLen; omega, ho2.far hg3 D2 (by decide), x3⟩
  · go_region_held3 (fun V => V.cell? ⟨w.heap.size, 0, none⟩ = some (.slice A l.length c)) (first | (exact g0) | go_keep)
      (first
        | (refine step_append_bytes _ (by rfl) _ _ _ (by rfl) w.heap.size 5 i0 Tryz.underlying31 hi0 hz0 hz1 hz2 (some ⟨W.heap.size, 0, none⟩) 0 [] (by rfl) hown S A n c (l.take n) (by rfl) hln hsrc hbound hsz ?_
           intro A' c' w2 ho2 hg2 hb2
           have x2 : Ext W w2 := grown_new ((Ext.alloc W (.cells #[] 5)).tr (Ext.drew _)) hg2 (fun g hg => by simp [Value.ownBlock] at hg; omega)
           have g0 : w2.cell? ⟨w.heap.size, 0, none⟩ = some (.slice A l.length c) := cells_of (x2.get D0.out) 0
           have g1 : w2.cell? ⟨w.heap.size + 1, 0, none⟩ = some (.slice none 0 0) := cells_of (x2.get D1.out) 0
           have g2 : w2.cell? ⟨w.heap.size + 1, 1, none⟩ = some (.bool false) := cells_of (x2.get D1.out) 1
           have g3 : w2.frozen? ⟨w.heap.size + 1, 0, none⟩ = false := free_of (x2.get D1.out) 0
           have g4 : w2.frozen? ⟨w.heap.size + 1, 1, none⟩ = false := free_of (x2.get D1.out) 1))
    go_wp2_with fail
    have hd := H.out.drop (k := n) hc
    rw [if_neg hcn] at hd
    obtain ⟨A3, hA3⟩ : ∃ A3, A3 = A.map (·.add n) := ⟨_, rfl⟩
    rw [← hA3] at hd ⊢
    have D2 := x2.get D1.out
    have q1 := set_of D2 0 (.slice A3 (l.length - n) (c - n))
    have q2 := set_of q1 1 (.bool false)
    have e1 := cells_of q2 0
    have e2 := cells_of q2 1
    simp at e1 e2
    have hg3 : w2.grownBy ((w2.setCell ⟨w.heap.size + 1, 0, none⟩ (.slice A3 (l.length - n) (c - n))).setCell ⟨w.heap.size + 1, 1, none⟩ (.bool false)) (some (w.heap.size + 1)) := grown_tr (grown_set _ rfl _) (grown_set _ rfl _)
    have x3 := grown_new (HX.out.tr x2) hg3 (fun g hg => by simp at hg; omega)
    have hln2 : (l.drop n).length = l.length - n := by rw [List.length_drop]
    refine bodyPost_ret (v := .tuple #[.agg #[.slice A3 (l.length - n) (c - n), .bool false], .slice A' n c']) (by simp [results, Tryz.results80, go_sem, e1, e2]) rfl ⟨A3, c - n, A', c', by rw [hln2, hln], hd.ext x3, by omega, by unfold maxLen; omega, ho2.far hg3 D2 (by decide), x3⟩

end Go.Proofs.YtagegigffohcbaaGreatDoor

namespace Go.Proofs.YtagegigffohcbaaGreatDoor
open Go.RowKit
set_option maxRecDepth 100000

theorem rtake_any (A : Option Addr) (c : Nat) (l : List UInt8) (bad : Bool) (S : Nat → TypeId → Prop) (n : Int) (w : World) (h : RB w S A l) (hc : l.length ≤ c) (hm : c ≤ maxLen) (hl : l.length ≤ 140737488355328) (hb : -9223372036854775808 ≤ n ∧ n ≤ 9223372036854775807) :
    Calls Tryz.prog 80 #[.agg #[.slice A l.length c, .bool bad], .int .i64 n] w fun e w' => ∃ A1 c1 A2 c2, e = .returned (.tuple #[.agg #[.slice A1 (tk n l bad).left.length c1, .bool (tk n l bad).bad], .slice A2 (tk n l bad).got.length c2]) ∧
      RB w' S A1 (tk n l bad).left ∧ (tk n l bad).left.length ≤ c1 ∧ c1 ≤ maxLen ∧ OwnB w' 5 w.heap.size A2 c2 (tk n l bad).got ∧ Ext w w' := by
  unfold tk
  by_cases hh : bad = true ∨ n < 0 ∨ (l.length : Int) < n
  · rw [if_pos hh]
    exact (rtake_no A c l bad n w hb hl hh).mono fun e w' ⟨he, hx⟩ => ⟨none, 0, none, 0, he, RB.nil _ _ _, by simp [Tk.no], by simp [maxLen], OwnB.nil _ _ _, hx⟩
  · rw [if_neg hh]
    simp only [not_or] at hh
    obtain ⟨h1, h2, h3⟩ := hh
    obtain ⟨k, rfl⟩ := Int.eq_ofNat_of_zero_le (by omega : 0 ≤ n)
    obtain rfl : bad = false := by simpa using h1
    rw [Int.toNat_natCast]
    exact rtake_c A c l S k w h hc hm hl (by omega)

theorem nm_tk (k : Int) (l : List UInt8) (bad : Bool) (hk : 1 ≤ k ∧ k ≤ 8) : nm k l bad = ⟨[], be (tk k l bad).got, (tk k l bad).left, (tk k l bad).bad⟩ := by
  unfold nm tk
  by_cases h : bad = true ∨ (l.length : Int) < k
  · rw [if_pos (by rcases h with h | h; exact .inl h; exact .inr (.inr h)), if_pos (by rcases h with h | h; exact .inl h; exact .inr (.inr h))]
    rfl
  · simp only [not_or] at h
    rw [if_neg (by simp only [not_or, Classical.not_not]; exact ⟨h.1, hk, h.2⟩), if_neg (by simp only [not_or]; exact ⟨h.1, by omega, h.2⟩)]
theorem tk_got (k : Int) (l : List UInt8) (bad : Bool) (hk : k ≤ 8) : (tk k l bad).got.length ≤ 8 := by
  unfold tk Tk.no
  split
  · simp
  · simp only [List.length_take]; omega

set_option maxHeartbeats 1000000 in
theorem rnum_bad (A : Option Addr) (c : Nat) (l : List UInt8) (bad : Bool) (k : Int) (w : World) (hb : -9223372036854775808 ≤ k ∧ k ≤ 9223372036854775807) (hk : ¬ (1 ≤ k ∧ k ≤ 8)) :
    Calls Tryz.prog 53 #[.agg #[.slice A l.length c, .bool bad], .int .i64 k] w fun e w' => e = .returned (.tuple #[.agg #[.slice none 0 0, .bool true], .int .u64 0]) ∧ Ext w w' := by
  obtain ⟨hb1, hb2⟩ := hb
  have hk' : k < 1 ∨ (1 ≤ k ∧ 8 < k) := by omega
  clear hk
  rcases hk' with h1 | ⟨h1, h2⟩
  all_goals
    go_enter Tryz.func53, Tryz.ntmps53
    go_wp2_with fail
    refine (rfail_c _).mono ?_
    rintro e w1 ⟨rfl, hx⟩
    have hd := hx.get (two_new _ _ _).2
    have c0 : w1.cell? ⟨w.heap.size + 1, 0, none⟩ = some (.slice none 0 0) := cells_of hd 0
    have c1 : w1.cell? ⟨w.heap.size + 1, 1, none⟩ = some (.bool false) := cells_of hd 1
    have f0 : w1.frozen? ⟨w.heap.size + 1, 0, none⟩ = false := free_of hd 0
    have f1 : w1.frozen? ⟨w.heap.size + 1, 1, none⟩ = false := free_of hd 1
    have hx0 : Ext w w1 := ((Ext.alloc _ _).tr (Ext.alloc _ _)).tr hx
    have HX := Lib.hid hx0
    have HD := Lib.hid hd
    clear hx hx0 hd
    go_wp2_with fail
    have q1 := set_of HD.out 0 (.slice none 0 0)
    have q2 := set_of q1 1 (.bool true)
    have e1 := cells_of q2 0
    have e2 := cells_of q2 1
    simp at e1 e2
    refine bodyPost_ret (v := .tuple #[.agg #[.slice none 0 0, .bool true], .int .u64 0]) (by simp [results, Tryz.results53, go_sem, e1, e2]) rfl ⟨rfl, ?_⟩
    repeat (first | exact HX.out | refine Below.setCell ?_ (by simp) _)

theorem mul_step (x b : Nat) (hx : x < 72057594037927936) (hb : b < 256) : IntKind.u64.wrap (IntKind.u64.wrap ((x : Int) * 256) + IntKind.u64.wrap (b : Int)) = ((x * 256 + b : Nat) : Int) := by
  have e1 : IntKind.u64.wrap ((x : Int) * 256) = ((x * 256 : Nat) : Int) := by rw [IntKind.wrap_u64]; omega
  have e2 : IntKind.u64.wrap (b : Int) = (b : Int) := by rw [IntKind.wrap_u64]; omega
  rw [e1, e2, IntKind.wrap_u64]
  omega

set_option maxHeartbeats 1000000 in
theorem rnum_any (A : Option Addr) (c : Nat) (l : List UInt8) (bad : Bool) (S : Nat → TypeId → Prop) (k : Int) (w : World) (h : RB w S A l) (hS : ∀ g t, S g t → g < w.heap.size) (hc : l.length ≤ c) (hm : c ≤ maxLen) (hl : l.length ≤ 140737488355328) (hb : -9223372036854775808 ≤ k ∧ k ≤ 9223372036854775807) :
    Calls Tryz.prog 53 #[.agg #[.slice A l.length c, .bool bad], .int .i64 k] w fun e w' => ∃ A1 c1, e = .returned (.tuple #[.agg #[.slice A1 (nm k l bad).left.length c1, .bool (nm k l bad).bad], .int .u64 (nm k l bad).num]) ∧
      RB w' S A1 (nm k l bad).left ∧ (nm k l bad).left.length ≤ c1 ∧ c1 ≤ maxLen ∧ Ext w w' := by
  by_cases hk : 1 ≤ k ∧ k ≤ 8
  · rw [nm_tk k l bad hk]
    have hgl := tk_got k l bad hk.2
    obtain ⟨t, ht⟩ : ∃ t, t = tk k l bad := ⟨_, rfl⟩
    rw [← ht] at hgl ⊢
    have HT := Lib.hid ht
    have H := Lib.hid h
    have HB := Lib.hid hb
    have HM := Lib.hid hm
    obtain ⟨hk1, hk2⟩ := hk
    clear ht h hb hm
    go_enter Tryz.func53, Tryz.ntmps53
    go_wp2_with fail
    have x0 : Ext w ((w.alloc (.cells #[.slice A l.length c, .bool bad] 80)).alloc (.cells #[.slice none 0 0, .bool false] 80)) := (Ext.alloc _ _).tr (Ext.alloc _ _)
    refine (rtake_any A c l bad S k _ (H.out.ext x0) hc HM.out hl HB.out).mono ?_
    rintro e w1 ⟨A1, c1, A2, c2, rfl, hr1, h11, h12, ho1, hx1⟩
    rw [← HT.out] at hr1 h11 ho1 ⊢
    have d0 := hx1.get (two_new w (.cells #[.slice A l.length c, .bool bad] 80) (.cells #[.slice none 0 0, .bool false] 80)).2
    have HR1 := Lib.hid hr1
    have HO1 := Lib.hid ho1
    have H12 := Lib.hid h12
    have X1 := Lib.hid (x0.tr hx1)
    have D0 := Lib.hid d0
    clear hr1 ho1 h12 hx1 x0 d0
    go_wp2_with fail
    obtain ⟨W, hW⟩ : ∃ W, W = w1.alloc (.cells #[.slice A1 t.left.length c1, .bool t.bad] 80) := ⟨_, rfl⟩
    have d6 : W.heap[w1.heap.size]? = some (.cells #[.slice A1 t.left.length c1, .bool t.bad] 80 (0, 0)) := by rw [hW]; exact new_of _ _
    have hxW : Ext w1 W := by rw [hW]; exact Ext.alloc _ _
    rw [← hW]
    have d4 := hxW.get D0.out
    have c60 := cells_of d6 0
    have c61 := cells_of d6 1
    have c40 := cells_of d4 0
    have c41 := cells_of d4 1
    have f40 := free_of d4 0
    have f41 := free_of d4 1
    simp at c60 c61 c40 c41
    have XW := Lib.hid hxW
    have D4 := Lib.hid d4
    have hlt4 := lt_of_some D0.out
    clear hW d6 hxW d4
    go_loop [8, 9] (fun x i => ∃ j : Nat, j ≤ t.got.length ∧ i = .int .i64 j ∧ x = .int .u64 (be (t.got.take j))) (fun _ i => t.got.length - (intOf i).toNat)
    case atStart => exact ⟨0, Nat.zero_le _, rfl, rfl⟩
    case round =>
      obtain ⟨j, hj, rfl, rfl⟩ := hrel
      by_cases hlt : j < t.got.length
      · obtain ⟨g', off', hA2, hc'⟩ := ((HO1.out.rb).ext XW.out).cell hlt
        subst hA2
        have hbt := be_take_lt t.got j (by omega)
        have hs := Lib.hid (be_take t.got j hlt)
        have hu := u8_lt t.got[j]
        go_wp2_with fail
        go_round
        case rel => exact ⟨j + 1, by omega, by go_num, by rw [hs.out]; go_num⟩
        case measure => simp [intOf]; omega
      · obtain rfl : j = t.got.length := by omega
        rw [List.take_length]
        go_wp2_with fail
        have q1 := set_of D4.out 0 (.slice A1 t.left.length c1)
        have q2 := set_of q1 1 (.bool t.bad)
        have e1 := cells_of q2 0
        have e2 := cells_of q2 1
        simp at e1 e2
        have hgW : W.grownBy ((W.setCell ⟨w.heap.size + 1, 0, none⟩ (.slice A1 t.left.length c1)).setCell ⟨w.heap.size + 1, 1, none⟩ (.bool t.bad)) (some (w.heap.size + 1)) := grown_tr (grown_set _ rfl _) (grown_set _ rfl _)
        have xf := grown_new (X1.out.tr XW.out) hgW (fun g hg => by simp at hg; omega)
        refine bodyPost_ret (v := .tuple #[.agg #[.slice A1 t.left.length c1, .bool t.bad], .int .u64 (be t.got)]) (by simp [results, Tryz.results53, go_sem, e1, e2]) rfl ⟨A1, c1, rfl, (HR1.out.ext XW.out).grown hgW (fun g t hs hg => by have := hS g t hs; simp at hg; omega), h11, H12.out, xf⟩
  · exact (rnum_bad A c l bad k w hb hk).mono fun e w' ⟨he, hx⟩ => ⟨none, 0, by unfold nm; rw [if_pos (.inr (.inl hk))]; exact he, by unfold nm; rw [if_pos (.inr (.inl hk))]; exact RB.nil _ _ _, by unfold nm; rw [if_pos (.inr (.inl hk))]; simp [Tk.no], by simp [maxLen], hx⟩


theorem st_nm (k : Int) (l : List UInt8) (bad : Bool) :
    ((nm k l bad).bad = true ∨ ((nm k l bad).left.length : Int) < (nm k l bad).num → st k l bad = .no) ∧
    ((nm k l bad).bad = false → (nm k l bad).num ≤ (nm k l bad).left.length → st k l bad = tk ((nm k l bad).num : Nat) (nm k l bad).left false) := by
  unfold nm
  by_cases h : bad = true ∨ ¬ (1 ≤ k ∧ k ≤ 8) ∨ (l.length : Int) < k
  · rw [if_pos h]
    refine ⟨fun _ => ?_, fun h' => by cases h'⟩
    unfold st
    rw [if_pos (by rcases h with h | h | h; exact .inl h; exact .inr (.inl h); exact .inr (.inr (.inl h)))]
  · rw [if_neg h]
    simp only [not_or] at h
    obtain ⟨h1, h2, h3⟩ := h
    refine ⟨fun h' => ?_, fun _ h' => ?_⟩
    · unfold st
      rw [if_pos ?_]
      rcases h' with h' | h'
      · cases h'
      · right; right; right
        simp only [List.length_drop] at h'
        omega
    · simp only [List.length_drop] at h'
      unfold st tk
      rw [if_neg (by simp only [not_or]; exact ⟨h1, h2, h3, by omega⟩), if_neg (by simp only [not_or, List.length_drop]; exact ⟨by simp, by omega, by omega⟩), Int.toNat_natCast]

set_option maxHeartbeats 1000000 in
theorem rstr_any (A : Option Addr) (c : Nat) (l : List UInt8) (bad : Bool) (S : Nat → TypeId → Prop) (k : Int) (w : World) (h : RB w S A l) (hS : ∀ g t, S g t → g < w.heap.size) (hc : l.length ≤ c) (hm : c ≤ maxLen) (hl : l.length ≤ 140737488355328) (hb : -9223372036854775808 ≤ k ∧ k ≤ 9223372036854775807) :
    Calls Tryz.prog 78 #[.agg #[.slice A l.length c, .bool bad], .int .i64 k] w fun e w' => ∃ A1 c1 A2 c2, e = .returned (.tuple #[.agg #[.slice A1 (st k l bad).left.length c1, .bool (st k l bad).bad], .slice A2 (st k l bad).got.length c2]) ∧
      RB w' S A1 (st k l bad).left ∧ (st k l bad).left.length ≤ c1 ∧ c1 ≤ maxLen ∧ OwnB w' 5 w.heap.size A2 c2 (st k l bad).got ∧ Ext w w' := by
  have HS := Lib.hid hS
  obtain ⟨hst1, hst2⟩ := st_nm k l bad
  have hnl := nm_len k l bad
  have hnt := nm_lt k l bad
  obtain ⟨t, ht⟩ : ∃ t, t = nm k l bad := ⟨_, rfl⟩
  rw [← ht] at hst1 hst2 hnl hnt
  have HT := Lib.hid ht
  have H := Lib.hid h
  have HB := Lib.hid hb
  have HM := Lib.hid hm
  have HST1 := Lib.hid hst1
  have HST2 := Lib.hid hst2
  clear ht h hb hm hS hst1 hst2
  go_enter Tryz.func78, Tryz.ntmps78
  go_wp2_with fail
  have x0 : Ext w ((w.alloc (.cells #[.slice A l.length c, .bool bad] 80)).alloc (.cells #[.slice none 0 0, .bool false] 80)) := (Ext.alloc _ _).tr (Ext.alloc _ _)
  refine (rnum_any A c l bad S k _ (H.out.ext x0) (fun g t hs => Nat.lt_of_lt_of_le (HS.out g t hs) x0.size) hc HM.out hl HB.out).mono ?_
  rintro e w1 ⟨A1, c1, rfl, hr1, h11, h12, hx1⟩
  rw [← HT.out] at hr1 h11 ⊢
  have d0 := hx1.get (two_new w (.cells #[.slice A l.length c, .bool bad] 80) (.cells #[.slice none 0 0, .bool false] 80)).2
  have HR1 := Lib.hid hr1
  have H12 := Lib.hid h12
  have X1 := Lib.hid (x0.tr hx1)
  have D0 := Lib.hid d0
  clear hr1 h12 hx1 x0 d0
  have hlt4 := lt_of_some D0.out
  by_cases hbad : t.bad = true
  · have HNO := Lib.hid (HST1.out (.inl hbad))
    rw [hbad]
    clear hbad
    go_wp2_with fail
    refine (rfail_c _).mono ?_
    rintro e w2 ⟨rfl, hx2⟩
    have x12 := (Ext.alloc w1 (.cells #[.slice A1 t.left.length c1, .bool true] 80)).tr hx2
    have d4 := x12.get D0.out
    have c40 := cells_of d4 0
    have c41 := cells_of d4 1
    have f40 := free_of d4 0
    have f41 := free_of d4 1
    simp at c40 c41
    have D4 := Lib.hid d4
    have X2 := Lib.hid (X1.out.tr x12)
    clear d4 hx2 x12
    go_wp2_with fail
    have q1 := set_of D4.out 0 (.slice none 0 0)
    have q2 := set_of q1 1 (.bool true)
    have e1 := cells_of q2 0
    have e2 := cells_of q2 1
    simp at e1 e2
    have hg2 : w2.grownBy ((w2.setCell ⟨w.heap.size + 1, 0, none⟩ (.slice none 0 0)).setCell ⟨w.heap.size + 1, 1, none⟩ (.bool true)) (some (w.heap.size + 1)) := grown_tr (grown_set _ rfl _) (grown_set _ rfl _)
    have xf := grown_new X2.out hg2 (fun g hg => by simp at hg; omega)
    rw [HNO.out]
    exact bodyPost_ret (v := .tuple #[.agg #[.slice none 0 0, .bool true], .slice none 0 0]) (by simp [results, Tryz.results78, go_sem, e1, e2]) rfl ⟨none, 0, none, 0, rfl, RB.nil _ _ _, by simp [Tk.no], by simp [maxLen], OwnB.nil _ _ _, xf⟩
  · have hbf : t.bad = false := by simpa using hbad
    by_cases hbig : (t.left.length : Int) < t.num
    · have HNO := Lib.hid (HST1.out (.inr hbig))
      rw [hbf]
      clear hbad hbf
      go_wp2_with fail
      refine (rfail_c _).mono ?_
      rintro e w2 ⟨rfl, hx2⟩
      have x12 := (Ext.alloc w1 (.cells #[.slice A1 t.left.length c1, .bool false] 80)).tr hx2
      have d4 := x12.get D0.out
      have c40 := cells_of d4 0
      have c41 := cells_of d4 1
      have f40 := free_of d4 0
      have f41 := free_of d4 1
      simp at c40 c41
      have D4 := Lib.hid d4
      have X2 := Lib.hid (X1.out.tr x12)
      clear d4 hx2 x12
      go_wp2_with fail
      have q1 := set_of D4.out 0 (.slice none 0 0)
      have q2 := set_of q1 1 (.bool true)
      have e1 := cells_of q2 0
      have e2 := cells_of q2 1
      simp at e1 e2
      have hg2 : w2.grownBy ((w2.setCell ⟨w.heap.size + 1, 0, none⟩ (.slice none 0 0)).setCell ⟨w.heap.size + 1, 1, none⟩ (.bool true)) (some (w.heap.size + 1)) := grown_tr (grown_set _ rfl _) (grown_set _ rfl _)
      have xf := grown_new X2.out hg2 (fun g hg => by simp at hg; omega)
      rw [HNO.out]
      exact bodyPost_ret (v := .tuple #[.agg #[.slice none 0 0, .bool true], .slice none 0 0]) (by simp [results, Tryz.results78, go_sem, e1, e2]) rfl ⟨none, 0, none, 0, rfl, RB.nil _ _ _, by simp [Tk.no], by simp [maxLen], OwnB.nil _ _ _, xf⟩
    · have HIN := Lib.hid (HST2.out hbf (by omega))
      rw [hbf]
      clear hbad hbf
      have hb64 : (t.num : Int) ≤ 9223372036854775807 := by omega
      go_wp2_with fail
      have xa := Ext.alloc w1 (.cells #[.slice A1 t.left.length c1, .bool false] 80)
      have XA := Lib.hid xa
      clear xa
      refine (rtake_any A1 c1 t.left false S (t.num : Nat) _ (HR1.out.ext XA.out) h11 H12.out (by omega) ⟨by omega, hb64⟩).mono ?_
      rintro e w2 ⟨A2, c2, A3, c3, rfl, hr2, h21, h22, ho2, hx2⟩
      obtain ⟨q, hq⟩ : ∃ q, q = tk (t.num : Nat) t.left false := ⟨_, rfl⟩
      rw [← hq] at hr2 h21 ho2 ⊢
      have HQ := Lib.hid hq
      have HR2 := Lib.hid hr2
      have HO2 := Lib.hid ho2
      have H22 := Lib.hid h22
      have x12 := XA.out.tr hx2
      have d4 := x12.get D0.out
      have c40 := cells_of d4 0
      have c41 := cells_of d4 1
      have f40 := free_of d4 0
      have f41 := free_of d4 1
      simp at c40 c41
      have D4 := Lib.hid d4
      have X2 := Lib.hid (X1.out.tr x12)
      have hsz := (X1.out.tr XA.out).size
      clear d4 hx2 x12 hq hr2 ho2 h22
      go_wp2_with fail
      have q1 := set_of D4.out 0 (.slice A2 q.left.length c2)
      have q2 := set_of q1 1 (.bool q.bad)
      have e1 := cells_of q2 0
      have e2 := cells_of q2 1
      simp at e1 e2
      have hg2 : w2.grownBy ((w2.setCell ⟨w.heap.size + 1, 0, none⟩ (.slice A2 q.left.length c2)).setCell ⟨w.heap.size + 1, 1, none⟩ (.bool q.bad)) (some (w.heap.size + 1)) := grown_tr (grown_set _ rfl _) (grown_set _ rfl _)
      have xf := grown_new X2.out hg2 (fun g hg => by simp at hg; omega)
      rw [HIN.out, ← HQ.out]
      exact bodyPost_ret (v := .tuple #[.agg #[.slice A2 q.left.length c2, .bool q.bad], .slice A3 q.got.length c3]) (by simp [results, Tryz.results78, go_sem, e1, e2]) rfl
        ⟨A2, c2, A3, c3, rfl, HR2.out.grown hg2 (fun g t hs hg => by have := HS.out g t hs; simp at hg; omega), h21, H22.out, (HO2.out.less hsz).far hg2 D4.out (by decide), xf⟩
end Go.Proofs.YtagegigffohcbaaGreatDoor

namespace Go.Proofs.YtagegigffohcbaaGreatDoor
open Go.RowKit

theorem nb_cons (k : Nat) : ∀ x, nb (k + 1) x = UInt8.ofNat (x / 256 ^ k % 256) :: nb k x := by
  induction k with
  | zero => intro x; simp [nb]
  | succ k ih =>
    intro x
    rw [nb, ih (x / 256)]
    rw [List.cons_append, Nat.div_div_eq_div_mul, ← Nat.pow_succ', nb]
theorem byte_mod (x : Nat) : (x : Int) % 256 = ((UInt8.ofNat (x % 256)).toNat : Int) := by
  have e : (UInt8.ofNat (x % 256)).toNat = x % 256 := by rw [UInt8.toNat_ofNat']; omega
  rw [e]
  omega
theorem div_pow (x j : Nat) : x / 256 ^ j / 256 = x / 256 ^ (j + 1) := by rw [Nat.div_div_eq_div_mul, Nat.pow_succ]

set_option maxRecDepth 100000 in
set_option maxHeartbeats 1000000 in
theorem rput_c (k x : Nat) (w : World) (hk : 1 ≤ k ∧ k ≤ 8) (hx : x < 256 ^ k) (hx64 : x < 18446744073709551616) :
    Calls Tryz.prog 51 #[.int .i64 k, .int .u64 x] w fun e w' => ∃ A c, e = .returned (.tuple #[.slice A (nb k x).length c, .bool true]) ∧ OwnB w' 5 w.heap.size A c (nb k x) ∧ Ext w w' := by
  obtain ⟨i0, hi0, hz0, hz1, hz2⟩ := info_parts info_u8
  obtain ⟨h1, h2⟩ := hk
  have HX := Lib.hid hx
  have HX64 := Lib.hid hx64
  clear hx hx64
  go_enter Tryz.func51, Tryz.ntmps51
  go_wp2_with fail
  go_loopw [1, 6, 7] (fun q v i wr => ∃ (j : Nat) (B : Option Addr) (d : Nat), j ≤ k ∧ i = .int .i64 j ∧ q = .int .u64 (x / 256 ^ j : Nat) ∧ v = .slice B (nb j x).length d ∧ OwnB wr 5 w.heap.size B d (nb j x) ∧ Ext w wr) (fun _ _ i _ => k - (intOf i).toNat)
  case atStart => exact ⟨0, none, 0, Nat.zero_le _, rfl, by simp, rfl, OwnB.nil _ _ _, Ext.refl _⟩
  case round =>
    obtain ⟨j, B, d, hj, rfl, rfl, rfl, hor, hxr⟩ := hrel
    by_cases hlt : j < k
    · have hq : x / 256 ^ j < 18446744073709551616 := Nat.lt_of_le_of_lt (Nat.div_le_self _ _) HX64.out
      have hd := Lib.hid (div_pow x j)
      have hn := Lib.hid (nb_cons j x)
      have hnl := nb_length j x
      obtain ⟨q, hq0⟩ : ∃ q, q = x / 256 ^ j := ⟨_, rfl⟩
      rw [← hq0] at hq hd hn ⊢
      have HQ := Lib.hid hq0
      clear hq0
      have hown : OwnB (wr.alloc (.cells #[.int .u8 ((q : Int) % 256)] 5)) 5 w.heap.size (some ⟨wr.heap.size, 0, none⟩) 1 [UInt8.ofNat (q % 256)] :=
        OwnB.lit [UInt8.ofNat (q % 256)] _ (by rw [byte_mod]; rfl) hxr.size (by simp [maxLen])
      have hsrc := hor.rb.ext (Ext.alloc wr (.cells #[.int .u8 ((q : Int) % 256)] 5))
      have hbound : [UInt8.ofNat (q % 256)].length + (nb j x).length ≤ 140737488355328 := by rw [hnl]; simp; omega
      have hsz : w.heap.size ≤ (wr.alloc (.cells #[.int .u8 ((q : Int) % 256)] 5)).heap.size := by have := hxr.size; simp; omega
      have HNL := Lib.hid hnl
      clear hnl hor
      go_wp2_with (at_builtin; refine wpList_append_bytes _ rfl _ _ 31 rfl w.heap.size 5 i0 Tryz.underlying31 hi0 hz0 hz1 hz2 (some ⟨wr.heap.size, 0, none⟩) 1 [UInt8.ofNat (q % 256)] rfl hown _ B d (nb j x) rfl hsrc hbound hsz ?_; intro A' c' w2 ho2 hg2 hb2)
      have hxn : Ext w w2 := grown_new (hxr.tr (Ext.alloc _ _)) hg2 hown.ge
      have e : [UInt8.ofNat (q % 256)] ++ nb j x = nb (j + 1) x := hn.out.symm
      rw [e] at ho2
      go_roundw
      case rel => exact ⟨j + 1, A', c', by omega, by go_num, by rw [← hd.out]; go_num, by rw [← e]; rfl, ho2, hxn⟩
      case measure => simp [intOf]; omega
    · obtain rfl : j = k := by omega
      have h0 : x / 256 ^ j = 0 := Nat.div_eq_of_lt HX.out
      rw [h0]
      go_wp2_with fail
      go_ret2
      exact ⟨B, d, rfl, hor, hxr⟩

set_option maxRecDepth 100000 in
set_option maxHeartbeats 1000000 in
theorem rput_no (k : Int) (x : Nat) (w : World) (hb : -9223372036854775808 ≤ k ∧ k ≤ 9223372036854775807) (hx64 : x < 18446744073709551616) (h : ¬ (1 ≤ k ∧ k ≤ 8) ∨ 256 ^ k.toNat ≤ x) :
    Calls Tryz.prog 51 #[.int .i64 k, .int .u64 x] w fun e w' => e = .returned (.tuple #[.slice none 0 0, .bool false]) ∧ Ext w w' := by
  obtain ⟨hb1, hb2⟩ := hb
  by_cases hk : 1 ≤ k ∧ k ≤ 8
  · have hx : 256 ^ k.toNat ≤ x := by rcases h with h | h; exact absurd hk h; exact h
    clear h
    obtain ⟨h1, h2⟩ := hk
    obtain ⟨k, rfl⟩ := Int.eq_ofNat_of_zero_le (by omega : 0 ≤ k)
    rw [Int.toNat_natCast] at hx
    obtain ⟨i0, hi0, hz0, hz1, hz2⟩ := info_parts info_u8
    have HX := Lib.hid hx
    have HX64 := Lib.hid hx64
    clear hx hx64
    go_enter Tryz.func51, Tryz.ntmps51
    go_wp2_with fail
    go_loopw [1, 6, 7] (fun q v i wr => ∃ (j : Nat) (B : Option Addr) (d : Nat), j ≤ k ∧ i = .int .i64 j ∧ q = .int .u64 (x / 256 ^ j : Nat) ∧ v = .slice B (nb j x).length d ∧ OwnB wr 5 w.heap.size B d (nb j x) ∧ Ext w wr) (fun _ _ i _ => k - (intOf i).toNat)
    case atStart => exact ⟨0, none, 0, Nat.zero_le _, rfl, by simp, rfl, OwnB.nil _ _ _, Ext.refl _⟩
    case round =>
      obtain ⟨j, B, d, hj, rfl, rfl, rfl, hor, hxr⟩ := hrel
      by_cases hlt : j < k
      · have hq : x / 256 ^ j < 18446744073709551616 := Nat.lt_of_le_of_lt (Nat.div_le_self _ _) HX64.out
        have hd := Lib.hid (div_pow x j)
        have hn := Lib.hid (nb_cons j x)
        have hnl := nb_length j x
        obtain ⟨q, hq0⟩ : ∃ q, q = x / 256 ^ j := ⟨_, rfl⟩
        rw [← hq0] at hq hd hn ⊢
        have HQ := Lib.hid hq0
        clear hq0
        have hown : OwnB (wr.alloc (.cells #[.int .u8 ((q : Int) % 256)] 5)) 5 w.heap.size (some ⟨wr.heap.size, 0, none⟩) 1 [UInt8.ofNat (q % 256)] :=
          OwnB.lit [UInt8.ofNat (q % 256)] _ (by rw [byte_mod]; rfl) hxr.size (by simp [maxLen])
        have hsrc := hor.rb.ext (Ext.alloc wr (.cells #[.int .u8 ((q : Int) % 256)] 5))
        have hbound : [UInt8.ofNat (q % 256)].length + (nb j x).length ≤ 140737488355328 := by rw [hnl]; simp; omega
        have hsz : w.heap.size ≤ (wr.alloc (.cells #[.int .u8 ((q : Int) % 256)] 5)).heap.size := by have := hxr.size; simp; omega
        have HNL := Lib.hid hnl
        clear hnl hor
        go_wp2_with (at_builtin; refine wpList_append_bytes _ rfl _ _ 31 rfl w.heap.size 5 i0 Tryz.underlying31 hi0 hz0 hz1 hz2 (some ⟨wr.heap.size, 0, none⟩) 1 [UInt8.ofNat (q % 256)] rfl hown _ B d (nb j x) rfl hsrc hbound hsz ?_; intro A' c' w2 ho2 hg2 hb2)
        have hxn : Ext w w2 := grown_new (hxr.tr (Ext.alloc _ _)) hg2 hown.ge
        have e : [UInt8.ofNat (q % 256)] ++ nb j x = nb (j + 1) x := hn.out.symm
        rw [e] at ho2
        go_roundw
        case rel => exact ⟨j + 1, A', c', by omega, by go_num, by rw [← hd.out]; go_num, by rw [← e]; rfl, ho2, hxn⟩
        case measure => simp [intOf]; omega
      · obtain rfl : j = k := by omega
        have h0 : 0 < x / 256 ^ j := Nat.div_pos HX.out (Nat.pow_pos (by omega))
        obtain ⟨q, hq0⟩ : ∃ q, q = x / 256 ^ j := ⟨_, rfl⟩
        rw [← hq0] at h0 ⊢
        have HQ := Lib.hid hq0
        clear hq0
        go_wp2_with fail
        go_ret2
        exact ⟨rfl, hxr⟩
  · have hk' : k < 1 ∨ (1 ≤ k ∧ 8 < k) := by omega
    clear h hk
    rcases hk' with h1 | ⟨h1, h2⟩
    · go_enter Tryz.func51, Tryz.ntmps51
      go_wp2_with fail
      go_ret2
      exact ⟨rfl, Ext.refl _⟩
    · go_enter Tryz.func51, Tryz.ntmps51
      go_wp2_with fail
      go_ret2
      exact ⟨rfl, Ext.refl _⟩


end Go.Proofs.YtagegigffohcbaaGreatDoor

namespace Go.Proofs.YtagegigffohcbaaGreatDoor
open Go.RowKit

/-- the size of a value that is a string -/
def strSz : Value → Nat
  | .string s => s.size
  | _ => 0
theorem OwnS.keep {w w' : World} {E : TypeId} {base c : Nat} {A : Option Addr} {ss : List ByteArray} (h : OwnS w E base A c ss) (hk : ∀ g o, A = some ⟨g, 0, none⟩ → base ≤ g → w.heap[g]? = some o → w'.heap[g]? = some o) : OwnS w' E base A c ss := by
  refine ⟨h.1, ?_⟩
  rcases h.2 with h' | ⟨g, cap, cs, hv, hg, hh, r⟩
  · exact .inl h'
  · refine .inr ⟨g, cap, cs, hv, hg, hk g _ ?_ hg hh, r⟩
    injection hv
/-- a value is a name, or the zero name -/
def NmR (w : World) (v : Value) (o : Option (List UInt8 × List (List UInt8))) : Prop :=
  ∃ (t : ByteArray) (A : Option Addr) (c : Nat) (ss : List ByteArray), v = .agg #[.string t, .slice A ss.length c] ∧ SR w (fun _ t => t = 9) A ss ∧ ss.length ≤ c ∧ c ≤ maxLen ∧ bl t = (o.getD ([], [])).1 ∧ bls ss = (o.getD ([], [])).2
theorem NmR.none (w : World) : NmR w (.agg #[.string ⟨#[]⟩, .slice none 0 0]) none := ⟨⟨#[]⟩, _, 0, [], rfl, SR.nil _ _ _, Nat.le_refl _, by simp [maxLen], rfl, rfl⟩
theorem NmR.ext {w w' : World} {v : Value} {o : Option (List UInt8 × List (List UInt8))} (h : NmR w v o) (hb : Ext w w') : NmR w' v o := by
  obtain ⟨t, A, c, ss, h1, h2, h3⟩ := h
  exact ⟨t, A, c, ss, h1, h2.ext hb, h3⟩
theorem pp_step (f : Nat) (l : List UInt8) : pp (f + 1) l = match nxw l with
    | none => none
    | some (w, m, rest) => if m = 47 then (pp f rest).map fun x => (w :: x.1, x.2) else if m = 64 then some ([w], rest) else none := rfl
/-- parts ahead of what is read -/
def ppa (acc : List (List UInt8)) (o : Option (List (List UInt8) × List UInt8)) : Option (List (List UInt8) × List UInt8) := o.map fun x => (acc ++ x.1, x.2)
theorem ppa_nil (o : Option (List (List UInt8) × List UInt8)) : ppa [] o = o := by
  unfold ppa
  cases o with
  | none => rfl
  | some x => simp
theorem ppa_47 {acc : List (List UInt8)} {f : Nat} {l w rest : List UInt8} {m : UInt8} (h : nxr l = (w, m, rest)) (hm : m = 47) : ppa acc (pp (f + 1) l) = ppa (acc ++ [w]) (pp f rest) := by
  unfold nxr at h
  cases hn : nxw l with
  | none =>
    rw [hn] at h
    simp only [Option.getD_none, Prod.mk.injEq] at h
    rw [hm] at h
    exact absurd h.2.1 (by decide)
  | some x =>
    rw [hn] at h
    simp only [Option.getD_some] at h
    subst h
    rw [pp_step, hn]
    simp only
    rw [if_pos hm]
    unfold ppa
    rw [Option.map_map]
    congr 1
    funext y
    simp
theorem ppa_64 {acc : List (List UInt8)} {f : Nat} {l w rest : List UInt8} {m : UInt8} (h : nxr l = (w, m, rest)) (hm : m = 64) : ppa acc (pp (f + 1) l) = some (acc ++ [w], rest) := by
  unfold nxr at h
  cases hn : nxw l with
  | none =>
    rw [hn] at h
    simp only [Option.getD_none, Prod.mk.injEq] at h
    rw [hm] at h
    exact absurd h.2.1 (by decide)
  | some x =>
    rw [hn] at h
    simp only [Option.getD_some] at h
    subst h
    rw [pp_step, hn]
    simp only
    rw [if_neg (by rw [hm]; decide), if_pos hm]
    rfl
theorem ppa_no {acc : List (List UInt8)} {f : Nat} {l w rest : List UInt8} {m : UInt8} (h : nxr l = (w, m, rest)) (h1 : m ≠ 47) (h2 : m ≠ 64) : ppa acc (pp (f + 1) l) = none := by
  unfold nxr at h
  cases hn : nxw l with
  | none =>
    rw [pp_step, hn]
    rfl
  | some x =>
    rw [hn] at h
    simp only [Option.getD_some] at h
    subst h
    rw [pp_step, hn]
    simp only
    rw [if_neg h1, if_neg h2]
    rfl
theorem nxr_rest {l w rest : List UInt8} {m : UInt8} (h : nxr l = (w, m, rest)) (hm : m = 47 ∨ m = 64) : rest.length + 1 ≤ l.length := by
  unfold nxr at h
  cases hn : nxw l with
  | none =>
    rw [hn] at h
    simp only [Option.getD_none, Prod.mk.injEq] at h
    rw [← h.2.1] at hm
    rcases hm with h | h <;> exact absurd h (by decide)
  | some x =>
    rw [hn] at h
    simp only [Option.getD_some] at h
    subst h
    rcases nx_sound _ l (Nat.le_refl _) _ _ _ hn with ⟨e, _⟩ | ⟨_, e⟩
    · rw [e] at hm
      rcases hm with h | h <;> exact absurd h (by decide)
    · have := congrArg List.length e
      rw [List.length_append, List.length_cons] at this
      omega
theorem esc_ge (l : List UInt8) : l.length ≤ (esc l).length := by
  induction l with
  | nil => simp [esc]
  | cons c l ih =>
    rw [esc_cons, List.length_append, List.length_cons]
    have : 1 ≤ (es c).length := by unfold es; split <;> simp
    omega
theorem nxr_word {l w rest : List UInt8} {m : UInt8} (h : nxr l = (w, m, rest)) : w.length ≤ l.length := by
  unfold nxr at h
  cases hn : nxw l with
  | none =>
    rw [hn] at h
    simp only [Option.getD_none, Prod.mk.injEq] at h
    rw [← h.1]
    simp
  | some x =>
    rw [hn] at h
    simp only [Option.getD_some] at h
    subst h
    have he := esc_ge w
    rcases nx_sound _ l (Nat.le_refl _) _ _ _ hn with ⟨_, _, e⟩ | ⟨_, e⟩
    · rw [e]; exact he
    · rw [e, List.length_append]; omega
/-- what is made of the parts and of what follows the at sign -/
theorem prs_of {l : List UInt8} {ps : List (List UInt8)} {rest r x : List UInt8} {m : UInt8} (hp : pp (l.length + 1) l = some (ps, rest)) (h : nxr rest = (r, m, x)) : prs l = if m = 0 ∧ vl r ps = true then some (r, ps) else none := by
  unfold nxr at h
  unfold prs
  rw [hp]
  simp only
  cases hn : nxw rest with
  | none =>
    rw [hn] at h
    simp only [Option.getD_none, Prod.mk.injEq] at h
    have hv : vl r ps = false := by
      rw [← h.1]
      unfold vl
      rw [show wd [] = false from rfl, Bool.and_false]
    simp [hv]
  | some y =>
    rw [hn] at h
    simp only [Option.getD_some] at h
    subst h
    rfl
theorem prs_none {l : List UInt8} (hp : pp (l.length + 1) l = none) : prs l = none := by
  unfold prs
  rw [hp]

theorem parse_store {w w2 : World} {E : TypeId} {A A2 : Option Addr} {d c2 : Nat} {ws : List ByteArray} {t : ByteArray} (hg2 : w2.heap[w.heap.size]? = some (.cells #[.string ⟨#[]⟩, .slice none 0 0] 26 (0, 0)))
    (hg4 : w2.heap[w.heap.size + 1]? = some (.cells #[.string ⟨#[]⟩, .slice A ws.length d] 26 (0, 0))) (ho : OwnV w2 E (w.heap.size + 2) A2 c2 (ws.map Value.string ++ [Value.string t])) (hx : Ext w w2) :
    ∃ W, W = w2.setCell ⟨w.heap.size + 1, 1, none⟩ (.slice A2 (ws.length + 1) c2) ∧ W.heap[w.heap.size]? = some (.cells #[.string ⟨#[]⟩, .slice none 0 0] 26 (0, 0)) ∧
      W.heap[w.heap.size + 1]? = some (.cells #[.string ⟨#[]⟩, .slice A2 (ws ++ [t]).length c2] 26 (0, 0)) ∧ OwnS W E (w.heap.size + 2) A2 c2 (ws ++ [t]) ∧ Ext w W := by
  refine ⟨_, rfl, ?_, ?_, ?_, hx.setCell (by show w.heap.size ≤ w.heap.size + 1; omega) _⟩
  · rw [Below.heap_setCell _ _ _ _ (by show w.heap.size ≠ w.heap.size + 1; omega)]
    exact hg2
  · rw [set_of hg4 1 _]
    simp
  · have ho' : OwnV w2 E (w.heap.size + 2) A2 c2 ((ws ++ [t]).map Value.string) := by
      rw [List.map_append]
      exact ho
    refine ho'.s.keep fun g o _ hb hh => ?_
    rw [Below.heap_setCell _ _ _ _ (by show g ≠ w.heap.size + 1; omega)]
    exact hh
/-- a struct of two cells is stored -/
theorem two_stored {W : World} {g : Nat} {a b x y : Value} {T : TypeId} (h : W.heap[g]? = some (.cells #[a, b] T (0, 0))) : ((W.setCell ⟨g, 0, none⟩ x).setCell ⟨g, 1, none⟩ y).heap[g]? = some (.cells #[x, y] T (0, 0)) := by
  have h1 := set_of h 0 x
  have h2 := set_of h1 1 y
  simpa using h2
theorem OwnS.set2 {W : World} {E : TypeId} {base c g : Nat} {A : Option Addr} {ss : List ByteArray} {x y : Value} (h : OwnS W E base A c ss) (hg : g < base) : OwnS ((W.setCell ⟨g, 0, none⟩ x).setCell ⟨g, 1, none⟩ y) E base A c ss := by
  refine h.keep fun g' o _ hb hh => ?_
  rw [Below.heap_setCell _ _ _ _ (by show g' ≠ g; omega), Below.heap_setCell _ _ _ _ (by show g' ≠ g; omega)]
  exact hh
theorem OwnS.set1 {W : World} {E : TypeId} {base c g i : Nat} {A : Option Addr} {ss : List ByteArray} {x : Value} (h : OwnS W E base A c ss) (hg : g < base) : OwnS (W.setCell ⟨g, i, none⟩ x) E base A c ss := by
  refine h.keep fun g' o _ hb hh => ?_
  rw [Below.heap_setCell _ _ _ _ (by show g' ≠ g; omega)]
  exact hh
theorem bne_u8_t {c : UInt8} (h : c ≠ 0) : ((c.toNat : Int) != 0) = true := bne_t (u8_ne (y := 0) h)
theorem bne_u8_f {c : UInt8} (h : c = 0) : ((c.toNat : Int) != 0) = false := bne_f (by rw [h]; rfl)

end Go.Proofs.YtagegigffohcbaaGreatDoor

namespace Go.Proofs.YtagegigffohcbaaGreatDoor
open Go.RowKit
set_option linter.unusedSimpArgs false
set_option linter.unnecessarySimpa false

/-- 'append(out, s)' of a string in a region that draws its order -/
theorem step_append_str1 {P : Program} (w : World) {ops : Array Oper} {o : Oper} {a : Act} {K : Act → World → Prop} {Q : Exit → Act → World → Prop} {G : Prop} (hgd : o.guard = none) (s x : Operand) (t : TypeId)
    (ho : o.op = .call { callee := .builtin .append, args := #[s, x], argTypes := #[t, t] })
    (base : Nat) (E : TypeId) (i : TypeInfo) (ht : P.underlying t = some (.slice E)) (hi : P.info? E = some i) (hz : i.zero = some (.string ByteArray.empty)) (hsz : i.size = 1) (hy : i.bytes = 16)
    (A : Option Addr) (c : Nat) (ss : List ByteArray) (n : Nat) (hs : a.eval s = .slice A n c) (hn : ss.length = n) (hown : OwnS w E base A c ss) (g : Nat) (v : ByteArray) (hx : a.eval x = .slice (some ⟨g, 0, none⟩) 1 1) (hc : w.cell? ⟨g, 0, none⟩ = some (.string v))
    (hlen : n + 1 ≤ 1000000000) (hbase : base ≤ w.heap.size)
    (h : ∀ A' c' w', OwnS w' E base A' c' (ss ++ [v]) → w.grownBy w' (Value.slice A n c).ownBlock → K (a.put o.dst (.slice A' (n + 1) c')) w') :
    if Region.wanted o (yielded ops a.tmps) = true then Oper.wp P o a w K Q else G := by
  subst hn
  obtain ⟨v', w', hrun, h2, h3, _, _⟩ := run_append_own_at (P := P) w base t o.type E i (.string ByteArray.empty) 1 16 ht hi hz hsz hy rfl (by omega) (.slice A ss.length c) ss.length (ss.map Value.string) hown ⟨g, 0, none⟩ 1 1 [.string v] rfl
    (fun j u hj => by
      match j, hj with
      | 0, hj =>
        simp at hj
        subst hj
        exact hc) (fun u hu => by simp at hu; subst hu; rfl) (by unfold maxLen; omega) (by omega) hbase
  have h' : w'.ownsRow base E 1 v' (ss ++ [v]).length ((ss ++ [v]).map Value.string) := by rw [List.length_append, List.map_append]; exact h2
  have shape : ∃ A' c', v' = .slice A' (ss ++ [v]).length c' := by
    rcases h'.2 with ⟨rfl, hn⟩ | ⟨g, cap, cs, rfl, _⟩
    · exact ⟨none, 0, by rw [hn]⟩
    · exact ⟨_, _, rfl⟩
  obtain ⟨A', c', rfl⟩ := shape
  rw [if_pos (by simp [Region.wanted, hgd])]
  unfold Oper.wp execOp
  simp only [ho, resolve, invoke, builtin, Sem.run_bind, Sem.run_pure, Result.andThen_ok, List.map_toArray, List.map_cons, List.map_nil, hs, hx, hrun]
  have := h A' c' w' h' h3
  rw [List.length_append]
  exact this
/-- the same in a region in the text's order -/
theorem wpList_append_str1 {P : Program} (w : World) {ops : Array Oper} {rest : List Oper} {o : Oper} {a : Act} {Q : Exit → Act → World → Prop} (hgd : o.guard = none) (s x : Operand) (t : TypeId)
    (ho : o.op = .call { callee := .builtin .append, args := #[s, x], argTypes := #[t, t] })
    (base : Nat) (E : TypeId) (i : TypeInfo) (ht : P.underlying t = some (.slice E)) (hi : P.info? E = some i) (hz : i.zero = some (.string ByteArray.empty)) (hsz : i.size = 1) (hy : i.bytes = 16)
    (A : Option Addr) (c : Nat) (ss : List ByteArray) (n : Nat) (hs : a.eval s = .slice A n c) (hn : ss.length = n) (hown : OwnS w E base A c ss) (g : Nat) (v : ByteArray) (hx : a.eval x = .slice (some ⟨g, 0, none⟩) 1 1) (hc : w.cell? ⟨g, 0, none⟩ = some (.string v))
    (hlen : n + 1 ≤ 1000000000) (hbase : base ≤ w.heap.size)
    (h : ∀ A' c' w', OwnS w' E base A' c' (ss ++ [v]) → w.grownBy w' (Value.slice A n c).ownBlock → wpList P ops Q rest (a.put o.dst (.slice A' (n + 1) c')) w') : wpList P ops Q (o :: rest) a w :=
  wpList_plain hgd fun K hK => by
    have := step_append_str1 (P := P) (ops := ops) (K := K) (Q := Q) (G := False) w hgd s x t ho base E i ht hi hz hsz hy A c ss n hs hn hown g v hx hc hlen hbase (fun A' c' w' h1 h2 => hK _ _ (h A' c' w' h1 h2))
    rw [if_pos (by simp [Region.wanted, hgd])] at this
    exact this

theorem spl_d92 {l : List UInt8} {k : Nat} {sg : UInt8} (h : k + 1 < l.length) (hc : l[k] = 92) : spl sg (l.drop k) = hd [92, l[k + 1]] (spl sg (l.drop (k + 2))) := by
  rw [List.drop_eq_getElem_cons (by omega), hc, List.drop_eq_getElem_cons h, spl_b]
theorem spl_d0 {l : List UInt8} {k : Nat} {sg : UInt8} (h : k + 1 = l.length) (hc : l[k] = 92) : spl sg (l.drop k) = [[92]] := by
  rw [List.drop_eq_getElem_cons (by omega), hc, List.drop_of_length_le (by omega), spl_b0]
theorem spl_dsg {l : List UInt8} {k : Nat} {sg : UInt8} (hs : sg ≠ 92) (h : k < l.length) (hc : l[k] = sg) : spl sg (l.drop k) = [] :: spl sg (l.drop (k + 1)) := by
  rw [List.drop_eq_getElem_cons h, hc, spl_sign sg hs]
theorem spl_dpl {l : List UInt8} {k : Nat} {sg : UInt8} (h : k < l.length) (h1 : l[k] ≠ 92) (h2 : l[k] ≠ sg) : spl sg (l.drop k) = hd [l[k]] (spl sg (l.drop (k + 1))) := by
  rw [List.drop_eq_getElem_cons h, spl_other sg _ h1 h2]
/-- the piece under way -/
def pc (l : List UInt8) (fr k : Nat) : List UInt8 := (l.drop fr).take (k - fr)
theorem pc_self (l : List UInt8) (k : Nat) : pc l k k = [] := by simp [pc]
theorem pc_one {l : List UInt8} {fr k : Nat} (h : k < l.length) (hf : fr ≤ k) : pc l fr k ++ [l[k]] = pc l fr (k + 1) := by
  unfold pc
  rw [show k + 1 - fr = (k - fr) + 1 by omega, List.take_succ_eq_append_getElem (by rw [List.length_drop]; omega), List.getElem_drop]
  congr 3
  omega
theorem pc_end {l : List UInt8} {fr k : Nat} (h : l.length ≤ k) : pc l fr k = l.drop fr := by
  unfold pc
  exact List.take_of_length_le (by rw [List.length_drop]; omega)


theorem hd_mem {x p : List UInt8} {ls : List (List UInt8)} (h : p ∈ hd x ls) : p ∈ ls ∨ ∃ q, p = x ++ q ∧ (q ∈ ls ∨ q = []) := by
  cases ls with
  | nil =>
    simp [hd] at h
    exact .inr ⟨[], by simp [h], .inr rfl⟩
  | cons q qs =>
    simp only [hd, List.mem_cons] at h
    rcases h with h | h
    · exact .inr ⟨q, h, .inl (by simp)⟩
    · exact .inl (by simp [h])
theorem spl_len (sg : UInt8) : ∀ (n : Nat) (l : List UInt8), l.length ≤ n → (∀ p ∈ spl sg l, p.length ≤ l.length) ∧ (spl sg l).length ≤ l.length + 1 := by
  intro n
  induction n with
  | zero =>
    intro l hl
    obtain rfl := List.eq_nil_of_length_eq_zero (Nat.le_zero.1 hl)
    rw [spl_nil]
    simp
  | succ n ih =>
    have hdl : ∀ (x : List UInt8) (ls : List (List UInt8)), ls ≠ [] → (hd x ls).length = ls.length := fun x ls h => by
      cases ls with
      | nil => exact absurd rfl h
      | cons p ps => rfl
    have step : ∀ (x l : List UInt8), l.length ≤ n → (∀ p ∈ hd x (spl sg l), p.length ≤ x.length + l.length) ∧ (hd x (spl sg l)).length ≤ l.length + 1 := by
      intro x l hl
      obtain ⟨h1, h2⟩ := ih l hl
      refine ⟨fun p hp => ?_, by rw [hdl _ _ (spl_ne _ _)]; exact h2⟩
      rcases hd_mem hp with h | ⟨q, rfl, h | h⟩
      · have := h1 p h; omega
      · have := h1 q h; rw [List.length_append]; omega
      · subst h; simp
    intro l hl
    match l, hl with
    | [], _ => rw [spl_nil]; simp
    | c :: l, hl =>
      rw [List.length_cons] at hl ⊢
      by_cases hc : c = 92
      · subst hc
        match l, hl with
        | [], _ => rw [spl_b0]; simp
        | d :: l', hl =>
          rw [List.length_cons] at hl ⊢
          rw [spl_b]
          obtain ⟨h1, h2⟩ := step [92, d] l' (by omega)
          refine ⟨fun p hp => ?_, by omega⟩
          have := h1 p hp
          simp at this
          omega
      · by_cases hs : c = sg
        · subst hs
          rw [spl_sign c hc]
          obtain ⟨h1, h2⟩ := ih l (by omega)
          refine ⟨fun p hp => ?_, by rw [List.length_cons]; omega⟩
          rcases List.mem_cons.1 hp with rfl | h
          · simp
          · have := h1 p h; omega
        · rw [spl_other sg c hc hs]
          obtain ⟨h1, h2⟩ := step [c] l (by omega)
          refine ⟨fun p hp => ?_, by omega⟩
          have := h1 p hp
          simp at this
          omega
theorem pln_len : ∀ (n : Nat) (l : List UInt8), l.length ≤ n → (pln l).length ≤ l.length := by
  intro n
  induction n with
  | zero =>
    intro l hl
    obtain rfl := List.eq_nil_of_length_eq_zero (Nat.le_zero.1 hl)
    rw [pln_nil]
    simp
  | succ n ih =>
    intro l hl
    match l, hl with
    | [], _ => rw [pln_nil]; simp
    | c :: l, hl =>
      rw [List.length_cons] at hl
      by_cases hc : c = 92
      · subst hc
        match l, hl with
        | [], _ => rw [pln_b0]; simp
        | d :: l', hl =>
          rw [List.length_cons] at hl
          rw [pln_b]
          have := ih l' (by omega)
          simp only [List.length_cons]
          omega
      · rw [pln_pl hc]
        have := ih l (by omega)
        simp only [List.length_cons]
        omega
/-- below a, block g alone has turned -/
theorem grown_more {a b c : World} {g : Nat} {row : Option Nat} (h : a.grownBy b (some g)) (k : b.grownBy c row) (hr : ∀ q, row = some q → a.heap.size ≤ q ∨ q = g) : a.grownBy c (some g) :=
  ⟨k.os.trans h.os, k.tape.trans h.tape, k.output.trans h.output, Nat.le_trans h.size k.size, fun i hi hne => (k.block i (Nat.lt_of_lt_of_le hi h.size) (fun e => by
    rcases hr i e.symm with h' | h'
    · omega
    · exact hne (by rw [h']))).trans (h.block i hi hne)⟩

end Go.Proofs.YtagegigffohcbaaGreatDoor

namespace Go.Proofs.YtagegigffohcbaaGreatDoor
open Go.RowKit

/-- a word as bytes: its length ahead -/
def fl (l : List UInt8) : List UInt8 := nb 1 l.length ++ l
/-- a name as bytes -/
def nbs (r : List UInt8) (ps : List (List UInt8)) : List UInt8 := fl r ++ nb 1 ps.length ++ ps.flatMap fl
theorem nb1 (x : Nat) (h : x < 256) : nb 1 x = [UInt8.ofNat x] := by
  simp only [nb, List.nil_append]
  rw [Nat.mod_eq_of_lt h]
theorem fl_len (l : List UInt8) : (fl l).length = l.length + 1 := by rw [fl, List.length_append, nb_length]; omega

theorem wpList_append_str' {P : Program} (w : World) {ops : Array Oper} {rest : List Oper} {o : Oper} {a : Act} {Q : Exit → Act → World → Prop} (hgd : o.guard = none) (s x : Operand) (t u : TypeId)
    (ho : o.op = .call { callee := .builtin .append, args := #[s, x], argTypes := #[t, u] })
    (base : Nat) (E : TypeId) (i : TypeInfo) (ht : P.underlying t = some (.slice E)) (hu : P.underlying u = some .string) (hi : P.info? E = some i) (hz : i.zero = some (.int .u8 0)) (hsz : i.size = 1) (hy : i.bytes = 1)
    (A : Option Addr) (c : Nat) (l : List UInt8) (n : Nat) (hs : a.eval s = .slice A n c) (hn : l.length = n) (hown : OwnB w E base A c l) (st : ByteArray) (hx : a.eval x = .string st)
    (hlen : n + st.size ≤ 140737488355328) (hbase : base ≤ w.heap.size)
    (h : ∀ A' c' w', OwnB w' E base A' c' (l ++ bl st) → w.grownBy w' (Value.slice A n c).ownBlock → wpList P ops Q rest (a.put o.dst (.slice A' (n + st.size) c')) w') : wpList P ops Q (o :: rest) a w := by
  subst hn
  have hsz2 : st.data.toList.length = st.size := Array.length_toList
  refine Lib.wpList_append_own_string w hgd s x t u ho base E i ht hu hi hz hsz hy (.slice A l.length c) l.length (l.map u8) hs hown st hx (by unfold maxLen; omega) (by omega) hbase ?_
  intro v' w' h2 h3 _
  have e : l.map u8 ++ Lib.strCells st = (l ++ st.data.toList).map u8 := by rw [List.map_append]; rfl
  rw [e] at h2
  have h' : w'.ownsRow base E 1 v' (l ++ st.data.toList).length ((l ++ st.data.toList).map u8) := by rw [List.length_append, hsz2]; exact h2
  have shape : ∃ A' c', v' = .slice A' (l ++ st.data.toList).length c' := by
    rcases h'.2 with ⟨rfl, hn⟩ | ⟨g, cap, cs, rfl, _⟩
    · exact ⟨none, 0, by rw [hn]⟩
    · exact ⟨_, _, rfl⟩
  obtain ⟨A', c', rfl⟩ := shape
  rw [List.length_append, hsz2]
  exact h A' c' w' h' h3

set_option maxRecDepth 100000 in
set_option maxHeartbeats 1000000 in
theorem field_c (s : ByteArray) (w : World) (hs : s.size < 256) : Calls Tryz.prog 55 #[.string s] w fun e w' => ∃ A c, e = .returned (.slice A (fl (bl s)).length c) ∧ OwnB w' 5 w.heap.size A c (fl (bl s)) ∧ Ext w w' := by
  have HL := Lib.hid (bl_len s)
  go_enter Tryz.func55, Tryz.ntmps55
  go_wp2_with (refine wpList_conv_str _ rfl 9 31 (.tmp 6) rfl 5 Tryz.underlying9 Tryz.underlying31 Tryz.underlying5 s rfl (by unfold maxLen; omega) ?_
               intro g c w1 hr hc hm hg hg2 hx1)
  have hp := puts_c 1 (some ⟨g, 0, none⟩) c (bl s) _ w1 hr ⟨by omega, by omega⟩ (by rw [HL.out]; omega) (by rw [HL.out]; omega)
  rw [HL.out] at hp
  refine hp.mono ?_
  rintro e w2 ⟨B, d, rfl, hB, hx2⟩
  have hfl : nb 1 s.size ++ bl s = fl (bl s) := by rw [fl, HL.out]
  rw [hfl] at hB ⊢
  have HB := Lib.hid (hB.less hx1.size)
  have HX := Lib.hid (hx1.tr hx2)
  clear hp hB hx1 hx2 hr
  go_wp2_with fail
  go_ret
  exact ⟨B, d, rfl, HB.out, HX.out⟩

theorem OwnV.litN {w : World} {E : TypeId} {base : Nat} (vs : List Value) (hb : base ≤ w.heap.size) (hm : vs.length ≤ maxLen) : OwnV (w.alloc (.cells vs.toArray E)) E base (some ⟨w.heap.size, 0, none⟩) vs.length vs := by
  refine ⟨by simp, .inr ⟨w.heap.size, vs.length, vs.toArray, rfl, hb, new_of _ _, Nat.le_refl _, hm, by simp, ?_⟩⟩
  simp
theorem AsRows.two {w : World} {T : Nat → TypeId → Prop} {A B : Option Addr} {l m : List UInt8} {n k : Nat} (h : RB w T A l) (hk : RB w T B m) (c d : Nat) (hn : l.length = n) (hm : m.length = k) : AsRows w T [.slice A n c, .slice B k d] [l, m] := by
  subst hn hm
  refine ⟨rfl, fun j x hj => ?_⟩
  match j, hj with
  | 0, hj =>
    injection hj with hj
    subst hj
    exact ⟨A, c, rfl, h⟩
  | 1, hj =>
    injection hj with hj
    subst hj
    exact ⟨B, d, rfl, hk⟩
theorem info_rowN : (Tryz.prog.info? 31).map (fun i => (i.zero, i.size, i.bytes)) = some (some (.slice none 0 0), 1, 24) := by kernel_rfl
/-- bytes in rows of bytes -/
def TB : Nat → TypeId → Prop := fun _ t => t = 5
theorem TB.not (g : Nat) : ¬ TB g 31 := by unfold TB; decide
theorem OwnB.tb {w : World} {base c : Nat} {A : Option Addr} {l : List UInt8} (h : OwnB w 5 base A c l) : RB w TB A l := h.rb.more (fun _ _ h => h.2.1)
theorem flatMap_take_len (ps : List (List UInt8)) (h : ∀ p ∈ ps, p.length ≤ 100) : (ps.flatMap fl).length ≤ 101 * ps.length := by
  induction ps with
  | nil => simp
  | cons p ps ih =>
    rw [List.flatMap_cons, List.length_append, List.length_cons, fl_len]
    have h1 := h p (by simp)
    have h2 := ih (fun q hq => h q (by simp [hq]))
    omega

set_option maxRecDepth 100000 in
set_option maxHeartbeats 4000000 in
theorem nbytes_c (s : ByteArray) (A : Option Addr) (c : Nat) (ss : List ByteArray) (S : Nat → TypeId → Prop) (w : World) (h : SR w S A ss) (hs : s.size ≤ 9223372036854775807) (hz : ∀ t ∈ ss, t.size ≤ 9223372036854775807) (hn : ss.length ≤ 9223372036854775807) (hv : vl (bl s) (bls ss) = true) :
    Calls Tryz.prog 33 #[.agg #[.string s, .slice A ss.length c]] w fun e w' => ∃ B d, e = .returned (.tuple #[.slice B (nbs (bl s) (bls ss)).length d, .bool true]) ∧ OwnB w' 5 w.heap.size B d (nbs (bl s) (bls ss)) ∧ Ext w w' := by
  obtain ⟨i0, hi0, hz0, hz1, hz2⟩ := info_parts' info_rowN
  have hd := new_of w (.cells #[.string s, .slice A ss.length c] 26)
  obtain ⟨wo, hwo⟩ : ∃ wo : World, wo = w.alloc (.cells #[.string s, .slice A ss.length c] 26) := ⟨_, rfl⟩
  rw [← hwo] at hd
  have hx0 : Ext w wo := by rw [hwo]; exact Ext.alloc _ _
  have hval := valid_c s A c ss S wo (h.ext hx0) hs hz hn
  rw [hv] at hval
  obtain ⟨v1, v2, v3, v4⟩ := vl_parts hv
  rw [bls_len] at v1 v2
  have hsl := (wd_len v4).2
  rw [bl_len] at hsl
  have hpl : ∀ (k : Nat) (hk : k < ss.length), (ss[k]).size ≤ 100 := fun k hk => by
    have := (wd_len (v3 (bl ss[k]) (List.mem_map.2 ⟨ss[k], List.getElem_mem _, rfl⟩))).2
    rw [bl_len] at this
    exact this
  have hfm := flatMap_take_len (bls ss) (fun p hp => (wd_len (v3 p hp)).2)
  rw [bls_len] at hfm
  have H := Lib.hid h
  have HD := Lib.hid hd
  have HX0 := Lib.hid hx0
  have HW := Lib.hid hwo
  have HPL := Lib.hid hpl
  have HFM := Lib.hid hfm
  rw [hwo] at hval
  have HVAL := Lib.hid hval
  clear h hz hd hx0 hpl hfm v3 v4 hv hval
  go_enter Tryz.func33, Tryz.ntmps33
  go_wp2_with fail
  refine HVAL.out.mono ?_
  rintro e w1 ⟨rfl, hx1⟩
  rw [← HW.out] at hx1
  have hd1 := hx1.get HD.out
  have c0 : w1.cell? ⟨w.heap.size, 0, none⟩ = some (.string s) := cells_of hd1 0
  have c1 : w1.cell? ⟨w.heap.size, 1, none⟩ = some (.slice A ss.length c) := cells_of hd1 1
  have HD1 := Lib.hid hd1
  have HX1 := Lib.hid (HX0.out.tr hx1)
  have hn64 : (ss.length : Int) % 18446744073709551616 = (ss.length : Int) := by omega
  clear hx1 hd1 hwo
  go_wp2_with fail
  refine (put_c 1 ss.length _ ⟨by omega, by omega⟩ (by omega) (by omega)).mono ?_
  rintro e w2 ⟨B, d, rfl, hB, hx2⟩
  rw [nb_length]
  have hd2 := hx2.get HD1.out
  have k0 : w2.cell? ⟨w.heap.size, 0, none⟩ = some (.string s) := cells_of hd2 0
  have HD2 := Lib.hid hd2
  have HX2 := Lib.hid (HX1.out.tr hx2)
  have HB := Lib.hid hB
  clear hB hx2 hd2 c0 c1
  go_wp2_with fail
  refine (field_c s w2 (by omega)).mono ?_
  rintro e w3 ⟨F, f, rfl, hF, hx3⟩
  rw [fl_len, bl_len]
  have hd3 := hx3.get HD2.out
  have hxa := Ext.alloc w3 (.cells #[.slice F (s.size + 1) f, .slice B 1 d] 31)
  have hd4 := hxa.get hd3
  have m1 : (w3.alloc (.cells #[.slice F (s.size + 1) f, .slice B 1 d] 31)).cell? ⟨w.heap.size, 1, none⟩ = some (.slice A ss.length c) := cells_of hd4 1
  have hrow := OwnV.litN (w := w3) (E := 31) (base := w.heap.size) [.slice F (s.size + 1) f, .slice B 1 d] (HX2.out.tr hx3).size (by simp [maxLen])
  have has : AsRows (w3.alloc (.cells #[.slice F (s.size + 1) f, .slice B 1 d] 31)) TB [.slice F (s.size + 1) f, .slice B 1 d] [fl (bl s), nb 1 ss.length] :=
    AsRows.two (hF.tb.ext hxa) ((HB.out.ext (hx3.tr hxa)).tb) f d (by rw [fl_len, bl_len]) (nb_length _ _)
  have HX3 := Lib.hid ((HX2.out.tr hx3).tr hxa)
  have HROW := Lib.hid hrow
  have HAS := Lib.hid has
  have HD4 := Lib.hid hd4
  clear hx3 hxa hd3 hd4 hrow has hF k0 HB
  go_wp2_with fail
  go_loopw [6, 8, 28] (fun v _ i wr => ∃ (k : Nat) (C : Option Addr) (e : Nat) (vs : List Value), k ≤ ss.length ∧ i = .int .i64 k ∧ v = .slice C (k + 2) e ∧ vs.length = k + 2 ∧ OwnV wr 31 w.heap.size C e vs ∧ AsRows wr TB vs ([fl (bl s), nb 1 ss.length] ++ ((bls ss).take k).map fl) ∧ Ext w wr) (fun _ _ i _ => ss.length - (intOf i).toNat)
  case atStart => exact ⟨0, _, 2, _, Nat.zero_le _, rfl, rfl, rfl, HROW.out, by simpa using HAS.out, HX3.out⟩
  case round =>
    obtain ⟨k, C, e, vs, hk, rfl, rfl, hvl, hor, hasr, hx⟩ := hrel
    have HX := Lib.hid hx
    have HOR := Lib.hid hor
    have HASR := Lib.hid hasr
    have hsz := hx.size
    clear hx hor hasr
    by_cases hlt : k < ss.length
    · obtain ⟨g, off, rfl, hc⟩ := (H.out.ext HX.out).cell hlt
      have hps := HPL.out k hlt
      go_wp2_with fail
      refine (field_c ss[k] wr (by omega)).mono ?_
      rintro e' w4 ⟨G, q, rfl, hG, hx4⟩
      rw [fl_len, bl_len]
      have hxa := Ext.alloc w4 (.cells #[.slice G ((ss[k]).size + 1) q] 31)
      have hor4 := (HOR.out.ext hx4).ext hxa
      have has4 := (HASR.out.ext hx4).ext hxa
      have hG4 := (hG.ext hxa).tb
      have HOR4 := Lib.hid hor4
      have HAS4 := Lib.hid has4
      have HG4 := Lib.hid hG4
      have HX4 := Lib.hid ((HX.out.tr hx4).tr hxa)
      have hgl : (fl (bl ss[k])).length = (ss[k]).size + 1 := by rw [fl_len, bl_len]
      have HGL := Lib.hid hgl
      have htk : ((bls ss).take (k + 1)).map fl = ((bls ss).take k).map fl ++ [fl (bl ss[k])] := by
        rw [List.take_succ_eq_append_getElem (by rw [bls_len]; exact hlt), List.map_append, bls_get hlt]
        rfl
      have HTK := Lib.hid htk
      have hsz4 := HX4.out.size
      clear hor4 has4 hG4 hG hx4 hxa hgl htk
      go_wp2_with (at_builtin; refine wpList_append_one _ rfl _ _ 58 rfl w.heap.size 31 i0 (.slice none 0 0) 24 Tryz.underlying58 hi0 hz0 hz1 hz2 rfl C e vs (by rw [hvl]; rfl) HOR4.out w4.heap.size (.slice G ((ss[k]).size + 1) q) rfl (cells_of (new_of _ _) 0) rfl (by rw [hvl]; unfold maxLen; omega) (by rw [hvl]; omega) hsz4 ?_
                   intro C2 e2 w5 ho5 hg5)
      have hx5 : Ext w w5 := grown_new HX4.out hg5 HOR4.out.ge
      have has5 := HAS4.out.ownV HOR4.out hg5 TB.not
      have hG5 := HG4.out.ownV HOR4.out hg5 TB.not
      have has6 := has5.snoc (d := q) hG5
      rw [HGL.out, List.append_assoc, ← HTK.out] at has6
      have hvl2 : (vs ++ [Value.slice G ((ss[k]).size + 1) q]).length = k + 1 + 2 := by rw [List.length_append, hvl]; rfl
      go_roundw
      case rel => exact ⟨k + 1, C2, e2, _, by omega, by go_num, rfl, hvl2, ho5, has6, hx5⟩
      case measure => simp [intOf]; omega
    · have hall : ([fl (bl s), nb 1 ss.length] ++ ((bls ss).take k).map fl).flatten = nbs (bl s) (bls ss) := by
        rw [List.take_of_length_le (by rw [bls_len]; omega), List.flatten_append, nbs, bls_len, List.flatMap_def]
        simp
      have hrbs := HOR.out.rbs HASR.out
      have hrl : ([fl (bl s), nb 1 ss.length] ++ ((bls ss).take k).map fl).length = k + 2 := by
        rw [List.length_append, List.length_map, List.length_take, bls_len]
        simp
        omega
      have hj := join_c C e ([fl (bl s), nb 1 ss.length] ++ ((bls ss).take k).map fl) _ _ wr hrbs (by
        rw [hall, nbs, List.length_append, List.length_append, fl_len, nb_length, bl_len]
        have := HFM.out
        omega) (by rw [hrl]; omega)
      rw [hall, hrl] at hj
      have HJ := Lib.hid hj
      clear hj hrbs hall hrl
      go_wp2_with fail
      refine HJ.out.mono ?_
      rintro e' w6 ⟨J, j, rfl, hJ, hx6⟩
      have HJ6 := Lib.hid (hJ.less hsz)
      have HX6 := Lib.hid (HX.out.tr hx6)
      clear hJ hx6 HJ
      go_wp2_with fail
      go_ret2
      exact ⟨J, j, rfl, HJ6.out, HX6.out⟩

set_option maxRecDepth 100000 in
set_option maxHeartbeats 1000000 in
theorem nbytes_no (s : ByteArray) (A : Option Addr) (c : Nat) (ss : List ByteArray) (S : Nat → TypeId → Prop) (w : World) (h : SR w S A ss) (hs : s.size ≤ 9223372036854775807) (hz : ∀ t ∈ ss, t.size ≤ 9223372036854775807) (hn : ss.length ≤ 9223372036854775807) (hv : vl (bl s) (bls ss) = false) :
    Calls Tryz.prog 33 #[.agg #[.string s, .slice A ss.length c]] w fun e w' => e = .returned (.tuple #[.slice none 0 0, .bool false]) ∧ Ext w w' := by
  have hval := valid_c s A c ss S (w.alloc (.cells #[.string s, .slice A ss.length c] 26)) (h.ext (Ext.alloc _ _)) hs hz hn
  rw [hv] at hval
  have HVAL := Lib.hid hval
  clear h hz hv hval
  go_enter Tryz.func33, Tryz.ntmps33
  go_wp2_with fail
  refine HVAL.out.mono ?_
  rintro e w1 ⟨rfl, hx1⟩
  have HX := Lib.hid ((Ext.alloc _ _).tr hx1)
  clear hx1
  go_wp2_with fail
  go_ret2
  exact ⟨rfl, HX.out⟩

/-- 'append(out, s...)' of a string in a region that draws its order -/
theorem step_append_str' {P : Program} (w : World) {ops : Array Oper} {o : Oper} {a : Act} {K : Act → World → Prop} {Q : Exit → Act → World → Prop} {G : Prop} (hgd : o.guard = none) (s x : Operand) (t u : TypeId)
    (ho : o.op = .call { callee := .builtin .append, args := #[s, x], argTypes := #[t, u] })
    (base : Nat) (E : TypeId) (i : TypeInfo) (ht : P.underlying t = some (.slice E)) (hu : P.underlying u = some .string) (hi : P.info? E = some i) (hz : i.zero = some (.int .u8 0)) (hsz : i.size = 1) (hy : i.bytes = 1)
    (A : Option Addr) (c : Nat) (l : List UInt8) (n : Nat) (hs : a.eval s = .slice A n c) (hn : l.length = n) (hown : OwnB w E base A c l) (st : ByteArray) (hx : a.eval x = .string st)
    (hlen : n + st.size ≤ 140737488355328) (hbase : base ≤ w.heap.size)
    (h : ∀ A' c' w', OwnB w' E base A' c' (l ++ bl st) → w.grownBy w' (Value.slice A n c).ownBlock → K (a.put o.dst (.slice A' (n + st.size) c')) w') :
    if Region.wanted o (yielded ops a.tmps) = true then Oper.wp P o a w K Q else G := by
  subst hn
  have hsz2 : st.data.toList.length = st.size := Array.length_toList
  obtain ⟨v', w', hrun, h2, h3, _⟩ := Lib.run_append_own_string (P := P) w base t u o.type E i ht hu hi hz hsz hy (.slice A l.length c) l.length (l.map u8) hown st (by unfold maxLen; omega) (by omega) hbase
  have e : l.map u8 ++ Lib.strCells st = (l ++ st.data.toList).map u8 := by rw [List.map_append]; rfl
  rw [e] at h2
  have h' : w'.ownsRow base E 1 v' (l ++ st.data.toList).length ((l ++ st.data.toList).map u8) := by rw [List.length_append, hsz2]; exact h2
  have shape : ∃ A' c', v' = .slice A' (l ++ st.data.toList).length c' := by
    rcases h'.2 with ⟨rfl, hn⟩ | ⟨g, cap, cs, rfl, _⟩
    · exact ⟨none, 0, by rw [hn]⟩
    · exact ⟨_, _, rfl⟩
  obtain ⟨A', c', rfl⟩ := shape
  rw [if_pos (by simp [Region.wanted, hgd])]
  unfold Oper.wp execOp
  simp only [ho, resolve, invoke, builtin, Sem.run_bind, Sem.run_pure, Result.andThen_ok, List.map_toArray, List.map_cons, List.map_nil, hs, hx, hrun]
  have := h A' c' w' h' h3
  rw [List.length_append, hsz2]
  exact this
theorem lit_wrap {n : Nat} (h : n < 256) : (#[Value.int .u8 (IntKind.u8.wrap (n : Int))] : Array Value).toList = [UInt8.ofNat n].map u8 := by
  rw [List.map_cons, List.map_nil, u8, UInt8.toNat_ofNat', Nat.mod_eq_of_lt h, IntKind.wrap_u8', show (n : Int) % 256 = (n : Int) by omega]
theorem ext_cell {w w' : World} (h : Ext w w') {a : Addr} {v : Value} (hc : w.cell? a = some v) : w'.cell? a = some v := by
  have hlt := World.block_lt_of_cell? w a hc
  unfold World.cell? at *
  rw [h.block _ hlt]
  exact hc
theorem u8_nat {n : Nat} (h : n < 256) : u8 (UInt8.ofNat n) = .int .u8 (n : Int) := by
  unfold u8
  rw [UInt8.toNat_ofNat', Nat.mod_eq_of_lt h]
theorem lit_one {n : Nat} (h : n < 256) : (#[Value.int .u8 (n : Int)] : Array Value).toList = [UInt8.ofNat n].map u8 := by
  rw [List.map_cons, List.map_nil, u8_nat h]

set_option maxRecDepth 100000 in
set_option maxHeartbeats 4000000 in
theorem rbytes_c (s : ByteArray) (A : Option Addr) (c : Nat) (ss : List ByteArray) (S : Nat → TypeId → Prop) (w : World) (h : SR w S A ss) (hv : vl (bl s) (bls ss) = true) :
    Calls Tryz.prog 28 #[.agg #[.string s, .slice A ss.length c]] w fun e w' => ∃ B d, e = .returned (.slice B (nbs (bl s) (bls ss)).length d) ∧ OwnB w' 5 w.heap.size B d (nbs (bl s) (bls ss)) ∧ Ext w w' := by
  obtain ⟨i0, hi0, hz0, hz1, hz2⟩ := info_parts info_u8
  obtain ⟨v1, v2, v3, v4⟩ := vl_parts hv
  rw [bls_len] at v1 v2
  have hsl := (wd_len v4).2
  rw [bl_len] at hsl
  have hpl : ∀ (k : Nat) (hk : k < ss.length), (ss[k]).size ≤ 100 := fun k hk => by
    have := (wd_len (v3 (bl ss[k]) (List.mem_map.2 ⟨ss[k], List.getElem_mem _, rfl⟩))).2
    rw [bl_len] at this
    exact this
  have H := Lib.hid h
  have HPL := Lib.hid hpl
  clear h hpl v3 v4 hv
  go_enter Tryz.func28, Tryz.ntmps28
  have hlit1 : OwnB ((w.alloc (.cells #[.string s, .slice A ss.length c] 26)).alloc (.cells #[.int .u8 (s.size : Int)] 5)) 5 (w.heap.size + 1) (some ⟨w.heap.size + 1, 0, none⟩) 1 [UInt8.ofNat s.size] := by
    have := OwnB.lit (w := w.alloc (.cells #[.string s, .slice A ss.length c] 26)) (E := 5) (base := w.heap.size + 1) [UInt8.ofNat s.size] #[.int .u8 (s.size : Int)] (lit_one (by omega)) (by simp) (by simp [maxLen])
    rw [show (w.alloc (.cells #[.string s, .slice A ss.length c] 26)).heap.size = w.heap.size + 1 by simp] at this
    exact this
  have HLIT1 := Lib.hid hlit1
  have hdd := (Ext.alloc (w.alloc (.cells #[.string s, .slice A ss.length c] 26)) (.cells #[.int .u8 (s.size : Int)] 5)).get (new_of w (.cells #[.string s, .slice A ss.length c] 26))
  have HDD := Lib.hid hdd
  clear hlit1 hdd
  go_wp2_with (at_builtin; first
    | (refine wpList_append_str' _ rfl _ _ 31 9 rfl (w.heap.size + 1) 5 i0 Tryz.underlying31 Tryz.underlying9 hi0 hz0 hz1 hz2 (some ⟨w.heap.size + 1, 0, none⟩) 1 [UInt8.ofNat s.size] 1 rfl rfl HLIT1.out s rfl (by omega) (by simp) ?_
       intro A2 c2 w2 ho2 hg2
       have hx2 : Ext w w2 := grown_new ((Ext.alloc _ _).tr (Ext.alloc _ _)) hg2 (fun g hg => by simp [Value.ownBlock] at hg; omega)
       have hd2 := grown_get hg2 HDD.out (fun e => by simp [Value.ownBlock] at e)
       have c1 : w2.cell? ⟨w.heap.size, 1, none⟩ = some (.slice A ss.length c) := cells_of hd2 1
       have c1a : ∀ o, (w2.alloc o).cell? ⟨w.heap.size, 1, none⟩ = some (.slice A ss.length c) := fun o => by rw [World.cell?_alloc_some _ _ _ (by rw [c1]; rfl)]; exact c1
       have hfl : [UInt8.ofNat s.size] ++ bl s = fl (bl s) := by rw [fl, bl_len, nb1 _ (by omega)]
       rw [hfl] at ho2
       have HO2 := Lib.hid (ho2.ext (Ext.alloc w2 (.cells #[.int .u8 (ss.length : Int)] 5)))
       have HL2 := Lib.hid (RB.lit w2 [UInt8.ofNat ss.length] #[.int .u8 (ss.length : Int)] 5 (lit_one (by omega)))
       have hf1 : (fl (bl s)).length = 1 + s.size := by rw [fl_len, bl_len]; omega
       have HF1 := Lib.hid hf1
       have HD2 := Lib.hid (((Ext.alloc w2 (.cells #[.int .u8 (ss.length : Int)] 5))).get hd2)
       have hszx := hx2.size
       have HX2 := Lib.hid hx2
       have hszy := lt_of_some hd2
       clear ho2 hg2 hx2 hd2 hfl hf1)
    | (refine wpList_append_bytes _ rfl _ _ 31 rfl (w.heap.size + 1) 5 i0 Tryz.underlying31 hi0 hz0 hz1 hz2 A2 c2 (fl (bl s)) (by rw [HF1.out]; rfl) HO2.out _ (some ⟨w2.heap.size, 0, none⟩) 1 [UInt8.ofNat ss.length] rfl HL2.out (by rw [HF1.out]; simp; omega) (by simp; omega) ?_
       intro A3 c3 w3 ho3 hg3 hb3
       have hx3 : Ext w w3 := grown_new (HX2.out.tr (Ext.alloc _ _)) hg3 (fun g hg => by have := HO2.out.ge g hg; omega)
       have hd3 := grown_get hg3 HD2.out (fun e => by have := HO2.out.ge _ e; omega)
       have HD3 := Lib.hid hd3
       clear hd3))
  have hn1 : (fl (bl s) ++ [UInt8.ofNat ss.length]).length = 2 + s.size := by rw [List.length_append, HF1.out]; simp; omega
  have hacc0 : fl (bl s) ++ [UInt8.ofNat ss.length] = fl (bl s) ++ nb 1 ss.length ++ ((bls ss).take 0).flatMap fl := by rw [nb1 _ (by omega)]; simp
  rw [HF1.out]
  rw [hacc0] at ho3 hn1
  go_loopw [3, 4] (fun v i wr => ∃ (k n : Nat) (C : Option Addr) (e : Nat), k ≤ ss.length ∧ i = .int .i64 k ∧ v = .slice C n e ∧ (fl (bl s) ++ nb 1 ss.length ++ ((bls ss).take k).flatMap fl).length = n ∧ n ≤ 102 + 101 * k ∧ OwnB wr 5 (w.heap.size + 1) C e (fl (bl s) ++ nb 1 ss.length ++ ((bls ss).take k).flatMap fl) ∧ Ext w wr ∧
    wr.heap[w.heap.size]? = some (.cells #[.string s, .slice A ss.length c] 26 (0, 0))) (fun _ i _ => ss.length - (intOf i).toNat)
  case atStart => exact ⟨0, 2 + s.size, A3, c3, Nat.zero_le _, rfl, congrArg (fun n => Value.slice A3 n c3) (by omega), hn1, by omega, ho3, hx3, HD3.out⟩
  case round =>
    obtain ⟨k, n, C, e, hk, rfl, rfl, hn, hnb, hor, hx, hdr⟩ := hrel
    have c1 : wr.cell? ⟨w.heap.size, 1, none⟩ = some (.slice A ss.length c) := cells_of hdr 1
    have hszr := hx.size
    have hlr := lt_of_some hdr
    by_cases hlt : k < ss.length
    · obtain ⟨gp, op, rfl, hcp0⟩ := H.out.cell hlt
      have hpk := HPL.out k hlt
      have hst : fl (bl s) ++ nb 1 ss.length ++ ((bls ss).take (k + 1)).flatMap fl = fl (bl s) ++ nb 1 ss.length ++ ((bls ss).take k).flatMap fl ++ [UInt8.ofNat (ss[k]).size] ++ bl ss[k] := by
        rw [List.take_succ_eq_append_getElem (by rw [bls_len]; exact hlt), List.flatMap_append, bls_get hlt]
        simp only [List.flatMap_cons, List.flatMap_nil, List.append_nil]
        have e1 : fl (bl ss[k]) = [UInt8.ofNat (ss[k]).size] ++ bl ss[k] := by rw [fl, bl_len, nb1 _ (by omega)]
        rw [e1]
        simp only [List.append_assoc]
      obtain ⟨p, hp⟩ : ∃ p, p = ss[k] := ⟨_, rfl⟩
      rw [← hp] at hcp0 hpk hst
      have hcp := ext_cell hx hcp0
      obtain ⟨E0, hE0⟩ : ∃ E0, E0 = fl (bl s) ++ nb 1 ss.length ++ ((bls ss).take k).flatMap fl := ⟨_, rfl⟩
      rw [← hE0] at hn hor hst
      have hpc := bl_len p
      have HOR := Lib.hid (hor.ext ((Ext.alloc wr (.cells #[.int .u8 (IntKind.u8.wrap (p.size : Int))] 5)).tr (Ext.drew _)))
      have HLT := Lib.hid ((RB.lit wr [UInt8.ofNat p.size] #[.int .u8 (IntKind.u8.wrap (p.size : Int))] 5 (lit_wrap (by omega))).ext (Ext.drew _))
      have HDR := Lib.hid (((Ext.alloc wr (.cells #[.int .u8 (IntKind.u8.wrap (p.size : Int))] 5)).tr (Ext.drew _)).get hdr)
      have HXR := Lib.hid (hx.tr ((Ext.alloc wr (.cells #[.int .u8 (IntKind.u8.wrap (p.size : Int))] 5)).tr (Ext.drew _)))
      have HCP0 := Lib.hid hcp0
      have HST := Lib.hid hst
      have hn2 : (E0 ++ [UInt8.ofNat p.size]).length = n + 1 := by rw [List.length_append, hn]; rfl
      have hbase : w.heap.size + 1 ≤ (wr.alloc (.cells #[.int .u8 (IntKind.u8.wrap (p.size : Int))] 5)).drew.heap.size := by show w.heap.size + 1 ≤ (wr.alloc (.cells #[.int .u8 (IntKind.u8.wrap (p.size : Int))] 5)).heap.size; simp; omega
      have HBA := Lib.hid hbase
      clear hp hE0 hor hx hdr hst hcp0 hbase
      go_wp2_with fail
      go_region_held3 (fun W => W.cell? ⟨w.heap.size, 1, none⟩ = some (.slice (some ⟨gp, op, none⟩) ss.length c) ∧ W.cell? ⟨gp, op + k, none⟩ = some (.string p)) (first | exact ⟨c7, p7⟩ | exact ⟨c6, p6⟩ | go_keep)
        (first
          | (refine step_append_bytes _ (by rfl) _ _ _ (by rfl) (w.heap.size + 1) 5 i0 Tryz.underlying31 hi0 hz0 hz1 hz2 C e E0 (by rw [hn]; rfl) HOR.out _ (some ⟨wr.heap.size, 0, none⟩) 1 1 [UInt8.ofNat p.size] (by rfl) (by rfl) HLT.out (by rw [hn]; omega) HBA.out ?_
             intro C2 e2 w6 ho6 hg6 hb6
             rw [hn2]
             have x6 : Ext w w6 := grown_new HXR.out hg6 (fun g hg => by have := HOR.out.ge g hg; omega)
             have d6 := grown_get hg6 HDR.out (fun e => by have := HOR.out.ge _ e; omega)
             have c6 : w6.cell? ⟨w.heap.size, 1, none⟩ = some (.slice (some ⟨gp, op, none⟩) ss.length c) := cells_of d6 1
             have p6 : w6.cell? ⟨gp, op + k, none⟩ = some (.string p) := ext_cell x6 HCP0.out
             have l6 := lt_of_some d6
             have X6 := Lib.hid x6
             have D6 := Lib.hid d6
             have HO6 := Lib.hid ho6
             clear x6 d6 ho6 hg6 hb6)
          | (refine step_append_str' _ (by rfl) _ _ _ _ (by rfl) (w.heap.size + 1) 5 i0 Tryz.underlying31 Tryz.underlying9 hi0 hz0 hz1 hz2 C2 e2 (E0 ++ [UInt8.ofNat p.size]) (n + 1) (by rfl) hn2 HO6.out p (by rfl) (by omega) (by omega) ?_
             intro C3 e3 w7 ho7 hg7
             have hge7 : ∀ q, (Value.slice C2 (n + 1) e2).ownBlock = some q → w.heap.size + 1 ≤ q := by have := HO6.out.ge; rw [hn2] at this; exact this
             have x7 : Ext w w7 := grown_new X6.out hg7 (fun g hg => by have := hge7 g hg; omega)
             have d7 := grown_get hg7 D6.out (fun e => by have := hge7 _ e; omega)
             have c7 : w7.cell? ⟨w.heap.size, 1, none⟩ = some (.slice (some ⟨gp, op, none⟩) ss.length c) := cells_of d7 1
             have p7 : w7.cell? ⟨gp, op + k, none⟩ = some (.string p) := ext_cell x7 HCP0.out
             have X7 := Lib.hid x7
             have D7 := Lib.hid d7
             have HO7 := Lib.hid ho7
             clear x7 d7 ho7 hg7 hge7))
      all_goals
        go_wp2_with fail
        go_roundw
        case rel => exact ⟨k + 1, n + 1 + p.size, C3, e3, by omega, by go_num, rfl, by rw [HST.out, List.length_append, hn2, bl_len], by omega, by rw [HST.out]; exact HO7.out, X7.out, D7.out⟩
        case measure => simp [intOf]; omega
    · have hall : fl (bl s) ++ nb 1 ss.length ++ ((bls ss).take k).flatMap fl = nbs (bl s) (bls ss) := by
        rw [List.take_of_length_le (by rw [bls_len]; omega), nbs, bls_len]
      rw [hall] at hn hor
      have HO := Lib.hid (hor.less (Nat.le_succ _))
      have HN := Lib.hid hn
      have HX := Lib.hid hx
      clear hall hor hn hx
      go_wp2_with fail
      go_ret
      exact ⟨C, e, by rw [HN.out]; rfl, HO.out, HX.out⟩
end Go.Proofs.YtagegigffohcbaaGreatDoor

namespace Go.Proofs.YtagegigffohcbaaGreatDoor
open Go.RowKit
set_option linter.unusedSimpArgs false
set_option linter.unnecessarySimpa false

/-- so many strings read one after another -/
def rdn (l : List UInt8) (bad : Bool) : Nat → List (List UInt8) × List UInt8 × Bool
  | 0 => ([], l, bad)
  | k + 1 => ((rdn l bad k).1 ++ [(st 1 (rdn l bad k).2.1 (rdn l bad k).2.2).got], (st 1 (rdn l bad k).2.1 (rdn l bad k).2.2).left, (st 1 (rdn l bad k).2.1 (rdn l bad k).2.2).bad)
theorem rdn_zero (l : List UInt8) (bad : Bool) : rdn l bad 0 = ([], l, bad) := rfl
theorem rdn_succ (l : List UInt8) (bad : Bool) (k : Nat) : rdn l bad (k + 1) = ((rdn l bad k).1 ++ [(st 1 (rdn l bad k).2.1 (rdn l bad k).2.2).got], (st 1 (rdn l bad k).2.1 (rdn l bad k).2.2).left, (st 1 (rdn l bad k).2.1 (rdn l bad k).2.2).bad) := rfl
theorem rdn_len (l : List UInt8) (bad : Bool) (k : Nat) : (rdn l bad k).2.1.length ≤ l.length ∧ (rdn l bad k).1.length = k := by
  induction k with
  | zero => exact ⟨Nat.le_refl _, rfl⟩
  | succ k ih =>
    rw [rdn_succ]
    have := (st_len 1 (rdn l bad k).2.1 (rdn l bad k).2.2).2
    exact ⟨by show (st 1 _ _).left.length ≤ _; omega, by show ((rdn l bad k).1 ++ [_]).length = _; rw [List.length_append, ih.2]; rfl⟩
theorem nm1_lt (l : List UInt8) (bad : Bool) : (nm 1 l bad).num < 256 := by
  unfold nm Tk.no
  split
  · simp
  · have h1 := be_lt (l.take (1 : Int).toNat)
    have h2 : 256 ^ (l.take (1 : Int).toNat).length ≤ 256 ^ 1 := Nat.pow_le_pow_right (by omega) (by rw [List.length_take]; exact Nat.min_le_left _ _)
    show be (l.take (1 : Int).toNat) < 256
    omega
/-- the realm that is read, and the reader then -/
def rrl (l : List UInt8) (bad : Bool) : Tk := st 1 l bad
/-- the number of parts that is read, and the reader then -/
def rn (l : List UInt8) (bad : Bool) : Tk := nm 1 (rrl l bad).left (rrl l bad).bad
/-- the parts that are read, and the reader then -/
def rp (l : List UInt8) (bad : Bool) : List (List UInt8) × List UInt8 × Bool := rdn (rn l bad).left (rn l bad).bad (rn l bad).num
/-- the name that is read -/
def rnm (l : List UInt8) (bad : Bool) : Option (List UInt8 × List (List UInt8)) := if vl (rrl l bad).got (rp l bad).1 = true then some ((rrl l bad).got, (rp l bad).1) else none

theorem Rd.inside {w : World} {S : Nat → TypeId → Prop} {g : Nat} {l : List UInt8} {bad : Bool} (h : Rd w S g l bad) : Rd w (fun k t => S k t ∧ k < w.heap.size) g l bad := by
  obtain ⟨A, c, hg, hr, hc, hm⟩ := h
  exact ⟨A, c, hg, hr.inside, hc, hm⟩
theorem Rd.more {w : World} {S T : Nat → TypeId → Prop} {g : Nat} {l : List UInt8} {bad : Bool} (h : Rd w S g l bad) (hS : ∀ k t, S k t → T k t) : Rd w T g l bad := by
  obtain ⟨A, c, hg, hr, hc, hm⟩ := h
  exact ⟨A, c, hg, hr.more hS, hc, hm⟩
theorem Rd.lt {w : World} {S : Nat → TypeId → Prop} {g : Nat} {l : List UInt8} {bad : Bool} (h : Rd w S g l bad) : g < w.heap.size := by
  obtain ⟨cs, hg⟩ := h.at_
  exact lt_of_some hg

set_option maxRecDepth 100000 in
set_option maxHeartbeats 4000000 in
theorem read_c0 {S : Nat → TypeId → Prop} {g : Nat} {l : List UInt8} {bad : Bool} (w : World) (h : Rd w S g l bad) (hS : NoRd S) (hS2 : ∀ k t, S k t → k < w.heap.size) (hl : l.length ≤ 140737488355328) :
    Calls Tryz.prog 38 #[.pointer (some ⟨g, 0, none⟩)] w fun e w' => ∃ v, e = .returned (.tuple #[v, .bool (rnm l bad).isSome]) ∧ NmR w' v (rnm l bad) ∧ Rd w' S g (rp l bad).2.1 (rp l bad).2.2 ∧ w.grownBy w' (some g) := by
  obtain ⟨i0, hi0, hz0, hz1, hz2⟩ := info_parts' info_str
  have hgl := h.lt
  have H := Lib.hid (h.ext (Ext.alloc w (.cells #[.string ⟨#[]⟩, .slice none 0 0] 26)))
  have HS2 := Lib.hid hS2
  clear h hS2
  go_enter Tryz.func38, Tryz.ntmps38
  go_wp2_with fail
  refine (str_any 1 _ H.out hS hl).mono ?_
  rintro e w1 ⟨A, c, rfl, hoA, hrd1, hg1⟩
  have hst := (st_len 1 l bad).1
  have hst2 := (st_len 1 l bad).2
  obtain ⟨t, ht⟩ : ∃ t, t = st 1 l bad := ⟨_, rfl⟩
  rw [← ht] at hoA hrd1 hst hst2 ⊢
  have hcv := conv_back c t.got.length hoA.rb rfl
  obtain ⟨r, hr⟩ : ∃ r : ByteArray, r = ⟨t.got.toArray⟩ := ⟨_, rfl⟩
  rw [← hr] at hcv
  have hbr : bl r = t.got := by rw [hr, bl_mk]
  have hrs : r.size = t.got.length := by rw [← bl_len, hbr]
  have hd1 := grown_get hg1 (new_of w (.cells #[.string ⟨#[]⟩, .slice none 0 0] 26)) (fun e => by injection e with e; omega)
  have hgw1 : w.grownBy w1 (some g) := grown_tr ((Ext.alloc _ _).grown _) hg1
  have HT := Lib.hid ht
  have HBR := Lib.hid hbr
  have HD1 := Lib.hid hd1
  have HG1 := Lib.hid hgw1
  have HRD1 := Lib.hid (hrd1.ext (Ext.alloc w1 (.cells #[.string r, .slice none 0 0] 26)))
  have hl4 := lt_of_some hd1
  clear ht hr hbr hoA hrd1 hg1 hd1 hgw1
  go_wp2_with fail
  refine (num_any 1 _ HRD1.out hS).mono ?_
  rintro e w2 ⟨rfl, hrd2, hg2⟩
  have hnl := nm_len 1 t.left t.bad
  have hnt := nm1_lt t.left t.bad
  obtain ⟨m, hm⟩ : ∃ m, m = nm 1 t.left t.bad := ⟨_, rfl⟩
  rw [← hm] at hrd2 hnl hnt ⊢
  have hdn := grown_get hg2 (new_of w1 (.cells #[.string r, .slice none 0 0] 26)) (fun e => by injection e with e; omega)
  have hd2 := grown_get hg2 ((Ext.alloc w1 (.cells #[.string r, .slice none 0 0] 26)).get HD1.out) (fun e => by injection e with e; omega)
  have hgw2 : w.grownBy w2 (some g) := grown_tr HG1.out (grown_tr ((Ext.alloc _ _).grown _) hg2)
  have hl5 := lt_of_some hdn
  have HM := Lib.hid hm
  have HDN := Lib.hid hdn
  have HD2 := Lib.hid hd2
  have HG2 := Lib.hid hgw2
  have HRD2 := Lib.hid hrd2
  clear hm hrd2 hg2 hdn hd2 hgw2
  go_wp2_with fail
  go_loopw [11] (fun i wr => ∃ (k : Nat) (N : Option Addr) (d : Nat) (ws : List ByteArray), k ≤ m.num ∧ i = .int .u64 k ∧ ws.length = k ∧ bls ws = (rdn m.left m.bad k).1 ∧ wr.heap[w1.heap.size]? = some (.cells #[.string r, .slice N k d] 26 (0, 0)) ∧
    wr.heap[w.heap.size]? = some (.cells #[.string ⟨#[]⟩, .slice none 0 0] 26 (0, 0)) ∧ OwnS wr 9 w2.heap.size N d ws ∧ Rd wr S g (rdn m.left m.bad k).2.1 (rdn m.left m.bad k).2.2 ∧ w.grownBy wr (some g) ∧ w2.heap.size ≤ wr.heap.size ∧ ∀ t ∈ ws, t.size ≤ l.length) (fun i _ => m.num - (intOf i).toNat)
  case atStart => exact ⟨0, none, 0, [], Nat.zero_le _, rfl, rfl, rfl, HDN.out, HD2.out, OwnS.nil _ _ _, HRD2.out, HG2.out, Nat.le_refl _, by simp⟩
  case round =>
    obtain ⟨k, N, d, ws, hk, rfl, hwk, hbw, hdn, hd2, hor, hrd, hgw, hszr, hzs⟩ := hrel
    have c0 : wr.cell? ⟨w1.heap.size, 0, none⟩ = some (.string r) := cells_of hdn 0
    have c1 : wr.cell? ⟨w1.heap.size, 1, none⟩ = some (.slice N k d) := cells_of hdn 1
    have HBW := Lib.hid hbw
    have HDR := Lib.hid hdn
    have HD2R := Lib.hid hd2
    have HOR := Lib.hid hor
    have HRD := Lib.hid hrd
    have HGW := Lib.hid hgw
    have HZS := Lib.hid hzs
    clear hbw hdn hd2 hor hrd hgw hzs
    by_cases hlt : k < m.num
    · have hq := (rdn_len m.left m.bad k).1
      have hsq := rdn_succ m.left m.bad k
      obtain ⟨q, hqq⟩ : ∃ q, q = rdn m.left m.bad k := ⟨_, rfl⟩
      rw [← hqq] at hq hsq
      have HQ := Lib.hid hqq
      have hrdq : Rd wr.drew S g q.2.1 q.2.2 := by rw [hqq]; exact HRD.out.ext (Ext.drew _)
      have hsl := (st_len 1 q.2.1 q.2.2).1
      obtain ⟨x, hx⟩ : ∃ x, x = st 1 q.2.1 q.2.2 := ⟨_, rfl⟩
      rw [← hx] at hsq hsl
      have HX := Lib.hid hx
      have HSQ := Lib.hid hsq
      have HRDQ := Lib.hid hrdq
      have hne := HOR.out.ge
      rw [hwk] at hne
      have HNE := Lib.hid hne
      clear hqq hsq hrdq hx hne
      go_wp2_with fail
      refine wp_region_held_drew (S := fun _ => True) (by kernel_rfl) trivial (fun _ => ?_)
      refine wpAnyH_take (i := 0) (v := ?_) rfl (by kernel_rfl) (by kernel_rfl) (by kernel_rfl) (fun _ _ _ h => h) (Or.inl ⟨by rfl, ?_⟩) trivial ?_
      rotate_left 1
      · intro w hSw
        go_simp
        all_goals with_reducible rfl
      try simp only [Act.put, List.setIfInBounds_toArray, List.set_cons_zero, List.set_cons_succ]
      refine wpAnyH_take (i := 2) (v := ?_) rfl (by kernel_rfl) (by kernel_rfl) (by kernel_rfl) (fun _ _ _ h => h) (Or.inl ⟨by rfl, ?_⟩) trivial ?_
      rotate_left 1
      · intro w hSw
        go_simp
        all_goals with_reducible rfl
      try simp only [Act.put, List.setIfInBounds_toArray, List.set_cons_zero, List.set_cons_succ]
      refine wpAnyH_ready (rs := [1, 3]) (by kernel_rfl) (by simp) ?_
      refine AllReadyH.cons rfl (fun K hK => ?_) ?_
      · go_simp
        refine hK.out _ _ trivial (fun _ => ?_)
        clear hK K
        try simp only [Act.put, List.setIfInBounds_toArray, List.set_cons_zero, List.set_cons_succ]
        refine wpAnyH_ready (rs := [3]) (by kernel_rfl) (by simp) ?_
        refine AllReadyH.cons rfl (fun K hK => ?_) ?_
        · go_simp
          refine (str_any 1 wr.drew HRDQ.out hS (by omega)).mono ?_
          rintro e w6 ⟨B, b, rfl, hoB, hrd6, hg6⟩
          rw [← HX.out] at hoB hrd6 ⊢
          have hcv6 := conv_back b x.got.length hoB.rb rfl
          obtain ⟨s6, hs6⟩ : ∃ s6 : ByteArray, s6 = ⟨x.got.toArray⟩ := ⟨_, rfl⟩
          rw [← hs6] at hcv6
          have hbs6 : bl s6 = x.got := by rw [hs6, bl_mk]
          have hg6' : wr.grownBy w6 (some g) := grown_tr ((Ext.drew _).grown _) hg6
          have d6 := grown_get hg6' HDR.out (fun e => by injection e with e; omega)
          have z6 := grown_get hg6' HD2R.out (fun e => by injection e with e; omega)
          have c6 : w6.cell? ⟨w1.heap.size, 1, none⟩ = some (.slice N k d) := cells_of d6 1
          have c6a : ∀ o, (w6.alloc o).cell? ⟨w1.heap.size, 1, none⟩ = some (.slice N k d) := fun o => by rw [World.cell?_alloc_some _ _ _ (by rw [c6]; rfl)]; exact c6
          have o6 : OwnS w6 9 w2.heap.size N d ws := HOR.out.keep fun q' o _ hb hh => grown_get hg6' hh (fun e => by injection e with e; omega)
          have sz6 := hg6'.size
          have HBS6 := Lib.hid hbs6
          have HRD6 := Lib.hid (hrd6.ext (Ext.alloc w6 (.cells #[.string s6] 9)))
          have HG6 := Lib.hid (grown_tr HGW.out (grown_tr hg6' ((Ext.alloc w6 (.cells #[.string s6] 9)).grown _)))
          have D6 := Lib.hid ((Ext.alloc w6 (.cells #[.string s6] 9)).get d6)
          have Z6 := Lib.hid ((Ext.alloc w6 (.cells #[.string s6] 9)).get z6)
          have O6 := Lib.hid (o6.ext (Ext.alloc w6 (.cells #[.string s6] 9)))
          clear hs6 hbs6 hg6 hg6' d6 z6 o6 hoB hrd6
          go_wp2_with fail
          refine hK.out _ _ trivial (fun _ => ?_)
          clear hK K
          try simp only [Act.put, List.setIfInBounds_toArray, List.set_cons_zero, List.set_cons_succ]
          refine wpAnyH_ready (rs := [4]) (by kernel_rfl) (by simp) ?_
          refine AllReadyH.cons rfl (fun K hK => ?_) ?_
          · go_simp
            refine hK.out _ _ trivial (fun _ => ?_)
            clear hK K
            try simp only [Act.put, List.setIfInBounds_toArray, List.set_cons_zero, List.set_cons_succ]
            refine wpAnyH_ready (rs := [5]) (by kernel_rfl) (by simp) ?_
            refine AllReadyH.cons rfl (fun K hK => ?_) ?_
            · go_simp
              refine hK.out _ _ trivial (fun _ => ?_)
              clear hK K
              try simp only [Act.put, List.setIfInBounds_toArray, List.set_cons_zero, List.set_cons_succ]
              refine wpAnyH_ready (rs := [6]) (by kernel_rfl) (by simp) ?_
              refine AllReadyH.cons rfl (fun K hK => ?_) ?_
              · refine step_append_str1 _ (by rfl) _ _ _ (by rfl) w2.heap.size 9 i0 Tryz.underlying24 hi0 hz0 hz1 hz2 N d ws k (by rfl) hwk O6.out w6.heap.size s6 (by rfl) (cells_of (new_of _ _) 0) (by omega) (by simp; omega) ?_
                intro N7 d7 w7 ho7 hg7
                have d7' := grown_get hg7 D6.out (fun e => by have := HNE.out _ e; omega)
                have z7 := grown_get hg7 Z6.out (fun e => by have := HNE.out _ e; omega)
                have e7 : w7.cell? ⟨w1.heap.size, 1, none⟩ = some (.slice N k d) := cells_of d7' 1
                have f7 : w7.frozen? ⟨w1.heap.size, 1, none⟩ = false := free_of d7' 1
                have r7 := HRD6.out.grown hg7 (fun e => by have := HNE.out _ e; omega) (fun g' t hs e => by have := HS2.out g' t hs; have := HNE.out _ e; omega)
                have sz7 := hg7.size
                have D7 := Lib.hid d7'
                have Z7 := Lib.hid z7
                have R7 := Lib.hid r7
                have O7 := Lib.hid ho7
                have G7 := Lib.hid hg7
                clear d7' z7 r7 ho7 hg7
                refine hK.out _ _ trivial (fun _ => ?_)
                clear hK K
                try simp only [Act.put, List.setIfInBounds_toArray, List.set_cons_zero, List.set_cons_succ]
                refine wpAnyH_take (i := 7) (v := ?_) rfl (by kernel_rfl) (by kernel_rfl) (by kernel_rfl) (fun _ _ _ h => h) (Or.inl ⟨by rfl, ?_⟩) trivial ?_
                rotate_left 1
                · intro w hSw
                  go_simp
                  all_goals with_reducible rfl
                try simp only [Act.put, List.setIfInBounds_toArray, List.set_cons_zero, List.set_cons_succ]
                refine wpAnyH_ready (rs := [8]) (by kernel_rfl) (by simp) ?_
                refine AllReadyH.cons rfl (fun K hK => ?_) ?_
                · go_simp
                  refine hK.out _ _ trivial (fun _ => ?_)
                  clear hK K
                  try simp only [Act.put, List.setIfInBounds_toArray, List.set_cons_zero, List.set_cons_succ]
                  refine wpAnyH_done (by kernel_rfl) ?_ _
                  go_wp2_with fail
                  go_roundw
                  case rel =>
                    have hts : s6.size ≤ l.length := by rw [← bl_len, HBS6.out]; omega
                    refine ⟨k + 1, N7, d7, ws ++ [s6], by omega, by go_num, by rw [List.length_append, hwk]; rfl, by rw [bls_snoc, HBW.out, HBS6.out, HSQ.out, HQ.out], by rw [set_of D7.out 1 _]; simp, by rw [Below.heap_setCell _ _ _ _ (by show w.heap.size ≠ w1.heap.size; omega)]; exact Z7.out, O7.out.set1 (by omega), ?_, ?_, ?_, fun t' ht' => by rcases List.mem_append.1 ht' with h | h; exact HZS.out t' h; simp at h; rw [h]; exact hts⟩
                    · rw [HSQ.out]
                      exact R7.out.grown (grown_set (g := w1.heap.size) _ rfl _) (fun e => by injection e with e; omega) (fun g' t hs e => by have := HS2.out g' t hs; injection e with e; omega)
                    · exact grown_more (grown_more HG6.out G7.out (fun q h => .inl (by have := HNE.out q h; omega))) (grown_set (g := w1.heap.size) _ rfl _) (fun q h => .inl (by injection h with h; omega))
                    · have e1 : (w7.setCell ⟨w1.heap.size, 1, none⟩ (.slice N7 (k + 1) d7)).heap.size = w7.heap.size := by simp [World.setCell]
                      have e2 : (w6.alloc (.cells #[.string s6] 9)).heap.size = w6.heap.size + 1 := by simp
                      omega
                  case measure => simp [intOf]; omega
                exact AllReadyH.nil
              exact AllReadyH.nil
            exact AllReadyH.nil
          exact AllReadyH.nil
        exact AllReadyH.nil
      refine AllReadyH.cons rfl (fun K hK => ?_) ?_
      · go_simp
        refine (str_any 1 wr.drew HRDQ.out hS (by omega)).mono ?_
        rintro e w6 ⟨B, b, rfl, hoB, hrd6, hg6⟩
        rw [← HX.out] at hoB hrd6 ⊢
        have hcv6 := conv_back b x.got.length hoB.rb rfl
        obtain ⟨s6, hs6⟩ : ∃ s6 : ByteArray, s6 = ⟨x.got.toArray⟩ := ⟨_, rfl⟩
        rw [← hs6] at hcv6
        have hbs6 : bl s6 = x.got := by rw [hs6, bl_mk]
        have hg6' : wr.grownBy w6 (some g) := grown_tr ((Ext.drew _).grown _) hg6
        have d6 := grown_get hg6' HDR.out (fun e => by injection e with e; omega)
        have z6 := grown_get hg6' HD2R.out (fun e => by injection e with e; omega)
        have c6 : w6.cell? ⟨w1.heap.size, 1, none⟩ = some (.slice N k d) := cells_of d6 1
        have c6a : ∀ o, (w6.alloc o).cell? ⟨w1.heap.size, 1, none⟩ = some (.slice N k d) := fun o => by rw [World.cell?_alloc_some _ _ _ (by rw [c6]; rfl)]; exact c6
        have o6 : OwnS w6 9 w2.heap.size N d ws := HOR.out.keep fun q' o _ hb hh => grown_get hg6' hh (fun e => by injection e with e; omega)
        have sz6 := hg6'.size
        have HBS6 := Lib.hid hbs6
        have HRD6 := Lib.hid (hrd6.ext (Ext.alloc w6 (.cells #[.string s6] 9)))
        have HG6 := Lib.hid (grown_tr HGW.out (grown_tr hg6' ((Ext.alloc w6 (.cells #[.string s6] 9)).grown _)))
        have D6 := Lib.hid ((Ext.alloc w6 (.cells #[.string s6] 9)).get d6)
        have Z6 := Lib.hid ((Ext.alloc w6 (.cells #[.string s6] 9)).get z6)
        have O6 := Lib.hid (o6.ext (Ext.alloc w6 (.cells #[.string s6] 9)))
        clear hs6 hbs6 hg6 hg6' d6 z6 o6 hoB hrd6
        go_wp2_with fail
        refine hK.out _ _ trivial (fun _ => ?_)
        clear hK K
        try simp only [Act.put, List.setIfInBounds_toArray, List.set_cons_zero, List.set_cons_succ]
        refine wpAnyH_ready (rs := [1, 4]) (by kernel_rfl) (by simp) ?_
        refine AllReadyH.cons rfl (fun K hK => ?_) ?_
        · go_simp
          refine hK.out _ _ trivial (fun _ => ?_)
          clear hK K
          try simp only [Act.put, List.setIfInBounds_toArray, List.set_cons_zero, List.set_cons_succ]
          refine wpAnyH_ready (rs := [4]) (by kernel_rfl) (by simp) ?_
          refine AllReadyH.cons rfl (fun K hK => ?_) ?_
          · go_simp
            refine hK.out _ _ trivial (fun _ => ?_)
            clear hK K
            try simp only [Act.put, List.setIfInBounds_toArray, List.set_cons_zero, List.set_cons_succ]
            refine wpAnyH_ready (rs := [5]) (by kernel_rfl) (by simp) ?_
            refine AllReadyH.cons rfl (fun K hK => ?_) ?_
            · go_simp
              refine hK.out _ _ trivial (fun _ => ?_)
              clear hK K
              try simp only [Act.put, List.setIfInBounds_toArray, List.set_cons_zero, List.set_cons_succ]
              refine wpAnyH_ready (rs := [6]) (by kernel_rfl) (by simp) ?_
              refine AllReadyH.cons rfl (fun K hK => ?_) ?_
              · refine step_append_str1 _ (by rfl) _ _ _ (by rfl) w2.heap.size 9 i0 Tryz.underlying24 hi0 hz0 hz1 hz2 N d ws k (by rfl) hwk O6.out w6.heap.size s6 (by rfl) (cells_of (new_of _ _) 0) (by omega) (by simp; omega) ?_
                intro N7 d7 w7 ho7 hg7
                have d7' := grown_get hg7 D6.out (fun e => by have := HNE.out _ e; omega)
                have z7 := grown_get hg7 Z6.out (fun e => by have := HNE.out _ e; omega)
                have e7 : w7.cell? ⟨w1.heap.size, 1, none⟩ = some (.slice N k d) := cells_of d7' 1
                have f7 : w7.frozen? ⟨w1.heap.size, 1, none⟩ = false := free_of d7' 1
                have r7 := HRD6.out.grown hg7 (fun e => by have := HNE.out _ e; omega) (fun g' t hs e => by have := HS2.out g' t hs; have := HNE.out _ e; omega)
                have sz7 := hg7.size
                have D7 := Lib.hid d7'
                have Z7 := Lib.hid z7
                have R7 := Lib.hid r7
                have O7 := Lib.hid ho7
                have G7 := Lib.hid hg7
                clear d7' z7 r7 ho7 hg7
                refine hK.out _ _ trivial (fun _ => ?_)
                clear hK K
                try simp only [Act.put, List.setIfInBounds_toArray, List.set_cons_zero, List.set_cons_succ]
                refine wpAnyH_take (i := 7) (v := ?_) rfl (by kernel_rfl) (by kernel_rfl) (by kernel_rfl) (fun _ _ _ h => h) (Or.inl ⟨by rfl, ?_⟩) trivial ?_
                rotate_left 1
                · intro w hSw
                  go_simp
                  all_goals with_reducible rfl
                try simp only [Act.put, List.setIfInBounds_toArray, List.set_cons_zero, List.set_cons_succ]
                refine wpAnyH_ready (rs := [8]) (by kernel_rfl) (by simp) ?_
                refine AllReadyH.cons rfl (fun K hK => ?_) ?_
                · go_simp
                  refine hK.out _ _ trivial (fun _ => ?_)
                  clear hK K
                  try simp only [Act.put, List.setIfInBounds_toArray, List.set_cons_zero, List.set_cons_succ]
                  refine wpAnyH_done (by kernel_rfl) ?_ _
                  go_wp2_with fail
                  go_roundw
                  case rel =>
                    have hts : s6.size ≤ l.length := by rw [← bl_len, HBS6.out]; omega
                    refine ⟨k + 1, N7, d7, ws ++ [s6], by omega, by go_num, by rw [List.length_append, hwk]; rfl, by rw [bls_snoc, HBW.out, HBS6.out, HSQ.out, HQ.out], by rw [set_of D7.out 1 _]; simp, by rw [Below.heap_setCell _ _ _ _ (by show w.heap.size ≠ w1.heap.size; omega)]; exact Z7.out, O7.out.set1 (by omega), ?_, ?_, ?_, fun t' ht' => by rcases List.mem_append.1 ht' with h | h; exact HZS.out t' h; simp at h; rw [h]; exact hts⟩
                    · rw [HSQ.out]
                      exact R7.out.grown (grown_set (g := w1.heap.size) _ rfl _) (fun e => by injection e with e; omega) (fun g' t hs e => by have := HS2.out g' t hs; injection e with e; omega)
                    · exact grown_more (grown_more HG6.out G7.out (fun q h => .inl (by have := HNE.out q h; omega))) (grown_set (g := w1.heap.size) _ rfl _) (fun q h => .inl (by injection h with h; omega))
                    · have e1 : (w7.setCell ⟨w1.heap.size, 1, none⟩ (.slice N7 (k + 1) d7)).heap.size = w7.heap.size := by simp [World.setCell]
                      have e2 : (w6.alloc (.cells #[.string s6] 9)).heap.size = w6.heap.size + 1 := by simp
                      omega
                  case measure => simp [intOf]; omega
                exact AllReadyH.nil
              exact AllReadyH.nil
            exact AllReadyH.nil
          exact AllReadyH.nil
        refine AllReadyH.cons rfl (fun K hK => ?_) ?_
        · go_simp
          refine hK.out _ _ trivial (fun _ => ?_)
          clear hK K
          try simp only [Act.put, List.setIfInBounds_toArray, List.set_cons_zero, List.set_cons_succ]
          refine wpAnyH_ready (rs := [1, 5]) (by kernel_rfl) (by simp) ?_
          refine AllReadyH.cons rfl (fun K hK => ?_) ?_
          · go_simp
            refine hK.out _ _ trivial (fun _ => ?_)
            clear hK K
            try simp only [Act.put, List.setIfInBounds_toArray, List.set_cons_zero, List.set_cons_succ]
            refine wpAnyH_ready (rs := [5]) (by kernel_rfl) (by simp) ?_
            refine AllReadyH.cons rfl (fun K hK => ?_) ?_
            · go_simp
              refine hK.out _ _ trivial (fun _ => ?_)
              clear hK K
              try simp only [Act.put, List.setIfInBounds_toArray, List.set_cons_zero, List.set_cons_succ]
              refine wpAnyH_ready (rs := [6]) (by kernel_rfl) (by simp) ?_
              refine AllReadyH.cons rfl (fun K hK => ?_) ?_
              · refine step_append_str1 _ (by rfl) _ _ _ (by rfl) w2.heap.size 9 i0 Tryz.underlying24 hi0 hz0 hz1 hz2 N d ws k (by rfl) hwk O6.out w6.heap.size s6 (by rfl) (cells_of (new_of _ _) 0) (by omega) (by simp; omega) ?_
                intro N7 d7 w7 ho7 hg7
                have d7' := grown_get hg7 D6.out (fun e => by have := HNE.out _ e; omega)
                have z7 := grown_get hg7 Z6.out (fun e => by have := HNE.out _ e; omega)
                have e7 : w7.cell? ⟨w1.heap.size, 1, none⟩ = some (.slice N k d) := cells_of d7' 1
                have f7 : w7.frozen? ⟨w1.heap.size, 1, none⟩ = false := free_of d7' 1
                have r7 := HRD6.out.grown hg7 (fun e => by have := HNE.out _ e; omega) (fun g' t hs e => by have := HS2.out g' t hs; have := HNE.out _ e; omega)
                have sz7 := hg7.size
                have D7 := Lib.hid d7'
                have Z7 := Lib.hid z7
                have R7 := Lib.hid r7
                have O7 := Lib.hid ho7
                have G7 := Lib.hid hg7
                clear d7' z7 r7 ho7 hg7
                refine hK.out _ _ trivial (fun _ => ?_)
                clear hK K
                try simp only [Act.put, List.setIfInBounds_toArray, List.set_cons_zero, List.set_cons_succ]
                refine wpAnyH_take (i := 7) (v := ?_) rfl (by kernel_rfl) (by kernel_rfl) (by kernel_rfl) (fun _ _ _ h => h) (Or.inl ⟨by rfl, ?_⟩) trivial ?_
                rotate_left 1
                · intro w hSw
                  go_simp
                  all_goals with_reducible rfl
                try simp only [Act.put, List.setIfInBounds_toArray, List.set_cons_zero, List.set_cons_succ]
                refine wpAnyH_ready (rs := [8]) (by kernel_rfl) (by simp) ?_
                refine AllReadyH.cons rfl (fun K hK => ?_) ?_
                · go_simp
                  refine hK.out _ _ trivial (fun _ => ?_)
                  clear hK K
                  try simp only [Act.put, List.setIfInBounds_toArray, List.set_cons_zero, List.set_cons_succ]
                  refine wpAnyH_done (by kernel_rfl) ?_ _
                  go_wp2_with fail
                  go_roundw
                  case rel =>
                    have hts : s6.size ≤ l.length := by rw [← bl_len, HBS6.out]; omega
                    refine ⟨k + 1, N7, d7, ws ++ [s6], by omega, by go_num, by rw [List.length_append, hwk]; rfl, by rw [bls_snoc, HBW.out, HBS6.out, HSQ.out, HQ.out], by rw [set_of D7.out 1 _]; simp, by rw [Below.heap_setCell _ _ _ _ (by show w.heap.size ≠ w1.heap.size; omega)]; exact Z7.out, O7.out.set1 (by omega), ?_, ?_, ?_, fun t' ht' => by rcases List.mem_append.1 ht' with h | h; exact HZS.out t' h; simp at h; rw [h]; exact hts⟩
                    · rw [HSQ.out]
                      exact R7.out.grown (grown_set (g := w1.heap.size) _ rfl _) (fun e => by injection e with e; omega) (fun g' t hs e => by have := HS2.out g' t hs; injection e with e; omega)
                    · exact grown_more (grown_more HG6.out G7.out (fun q h => .inl (by have := HNE.out q h; omega))) (grown_set (g := w1.heap.size) _ rfl _) (fun q h => .inl (by injection h with h; omega))
                    · have e1 : (w7.setCell ⟨w1.heap.size, 1, none⟩ (.slice N7 (k + 1) d7)).heap.size = w7.heap.size := by simp [World.setCell]
                      have e2 : (w6.alloc (.cells #[.string s6] 9)).heap.size = w6.heap.size + 1 := by simp
                      omega
                  case measure => simp [intOf]; omega
                exact AllReadyH.nil
              exact AllReadyH.nil
            exact AllReadyH.nil
          refine AllReadyH.cons rfl (fun K hK => ?_) ?_
          · go_simp
            refine hK.out _ _ trivial (fun _ => ?_)
            clear hK K
            try simp only [Act.put, List.setIfInBounds_toArray, List.set_cons_zero, List.set_cons_succ]
            refine wpAnyH_ready (rs := [1]) (by kernel_rfl) (by simp) ?_
            refine AllReadyH.cons rfl (fun K hK => ?_) ?_
            · go_simp
              refine hK.out _ _ trivial (fun _ => ?_)
              clear hK K
              try simp only [Act.put, List.setIfInBounds_toArray, List.set_cons_zero, List.set_cons_succ]
              refine wpAnyH_ready (rs := [6]) (by kernel_rfl) (by simp) ?_
              refine AllReadyH.cons rfl (fun K hK => ?_) ?_
              · refine step_append_str1 _ (by rfl) _ _ _ (by rfl) w2.heap.size 9 i0 Tryz.underlying24 hi0 hz0 hz1 hz2 N d ws k (by rfl) hwk O6.out w6.heap.size s6 (by rfl) (cells_of (new_of _ _) 0) (by omega) (by simp; omega) ?_
                intro N7 d7 w7 ho7 hg7
                have d7' := grown_get hg7 D6.out (fun e => by have := HNE.out _ e; omega)
                have z7 := grown_get hg7 Z6.out (fun e => by have := HNE.out _ e; omega)
                have e7 : w7.cell? ⟨w1.heap.size, 1, none⟩ = some (.slice N k d) := cells_of d7' 1
                have f7 : w7.frozen? ⟨w1.heap.size, 1, none⟩ = false := free_of d7' 1
                have r7 := HRD6.out.grown hg7 (fun e => by have := HNE.out _ e; omega) (fun g' t hs e => by have := HS2.out g' t hs; have := HNE.out _ e; omega)
                have sz7 := hg7.size
                have D7 := Lib.hid d7'
                have Z7 := Lib.hid z7
                have R7 := Lib.hid r7
                have O7 := Lib.hid ho7
                have G7 := Lib.hid hg7
                clear d7' z7 r7 ho7 hg7
                refine hK.out _ _ trivial (fun _ => ?_)
                clear hK K
                try simp only [Act.put, List.setIfInBounds_toArray, List.set_cons_zero, List.set_cons_succ]
                refine wpAnyH_take (i := 7) (v := ?_) rfl (by kernel_rfl) (by kernel_rfl) (by kernel_rfl) (fun _ _ _ h => h) (Or.inl ⟨by rfl, ?_⟩) trivial ?_
                rotate_left 1
                · intro w hSw
                  go_simp
                  all_goals with_reducible rfl
                try simp only [Act.put, List.setIfInBounds_toArray, List.set_cons_zero, List.set_cons_succ]
                refine wpAnyH_ready (rs := [8]) (by kernel_rfl) (by simp) ?_
                refine AllReadyH.cons rfl (fun K hK => ?_) ?_
                · go_simp
                  refine hK.out _ _ trivial (fun _ => ?_)
                  clear hK K
                  try simp only [Act.put, List.setIfInBounds_toArray, List.set_cons_zero, List.set_cons_succ]
                  refine wpAnyH_done (by kernel_rfl) ?_ _
                  go_wp2_with fail
                  go_roundw
                  case rel =>
                    have hts : s6.size ≤ l.length := by rw [← bl_len, HBS6.out]; omega
                    refine ⟨k + 1, N7, d7, ws ++ [s6], by omega, by go_num, by rw [List.length_append, hwk]; rfl, by rw [bls_snoc, HBW.out, HBS6.out, HSQ.out, HQ.out], by rw [set_of D7.out 1 _]; simp, by rw [Below.heap_setCell _ _ _ _ (by show w.heap.size ≠ w1.heap.size; omega)]; exact Z7.out, O7.out.set1 (by omega), ?_, ?_, ?_, fun t' ht' => by rcases List.mem_append.1 ht' with h | h; exact HZS.out t' h; simp at h; rw [h]; exact hts⟩
                    · rw [HSQ.out]
                      exact R7.out.grown (grown_set (g := w1.heap.size) _ rfl _) (fun e => by injection e with e; omega) (fun g' t hs e => by have := HS2.out g' t hs; injection e with e; omega)
                    · exact grown_more (grown_more HG6.out G7.out (fun q h => .inl (by have := HNE.out q h; omega))) (grown_set (g := w1.heap.size) _ rfl _) (fun q h => .inl (by injection h with h; omega))
                    · have e1 : (w7.setCell ⟨w1.heap.size, 1, none⟩ (.slice N7 (k + 1) d7)).heap.size = w7.heap.size := by simp [World.setCell]
                      have e2 : (w6.alloc (.cells #[.string s6] 9)).heap.size = w6.heap.size + 1 := by simp
                      omega
                  case measure => simp [intOf]; omega
                exact AllReadyH.nil
              exact AllReadyH.nil
            exact AllReadyH.nil
          exact AllReadyH.nil
        exact AllReadyH.nil
      exact AllReadyH.nil
    · have ek : k = m.num := by omega
      have hv2 : ∀ t ∈ ws, t.size ≤ 9223372036854775807 := fun t ht => by have := HZS.out t ht; omega
      have hval := valid_c r N d ws _ wr HOR.out.sr (by omega) hv2 (by omega)
      rw [hwk] at hval
      have hrnm : rnm l bad = if vl (bl r) (bls ws) = true then some (bl r, bls ws) else none := by
        unfold rnm rp rn rrl
        rw [← HT.out, ← HM.out, ← ek, ← HBW.out, HBR.out]
      have hrp : (rdn m.left m.bad k).2 = (rp l bad).2 := by
        unfold rp rn rrl
        rw [← HT.out, ← HM.out, ← ek]
      have hrd2 := HRD.out
      rw [hrp] at hrd2
      have HRD := Lib.hid hrd2
      have HRNM := Lib.hid hrnm
      have HOL := Lib.hid HOR.out.le
      have hkm : m.num ≤ k := by omega
      clear hv2 hrnm hrp hrd2 ek
      by_cases hv : vl (bl r) (bls ws) = true
      · rw [hv] at hval
        have hres : rnm l bad = some (bl r, bls ws) := by rw [HRNM.out, if_pos hv]
        have HRES := Lib.hid hres
        have HVAL := Lib.hid hval
        clear hval hres hv
        go_wp2_with fail
        refine HVAL.out.mono ?_
        rintro e w4 ⟨rfl, hx4⟩
        have hd4 := hx4.get HDR.out
        have hz4 := hx4.get HD2R.out
        have v4 : w4.cell? ⟨w1.heap.size, 0, none⟩ = some (.string r) := cells_of hd4 0
        have v5 : w4.cell? ⟨w1.heap.size, 1, none⟩ = some (.slice N k d) := cells_of hd4 1
        have x0 : w4.cell? ⟨w.heap.size, 0, none⟩ = some (.string ⟨#[]⟩) := cells_of hz4 0
        have x1 : w4.cell? ⟨w.heap.size, 1, none⟩ = some (.slice none 0 0) := cells_of hz4 1
        have b0 : w4.frozen? ⟨w.heap.size, 0, none⟩ = false := free_of hz4 0
        have b1 : w4.frozen? ⟨w.heap.size, 1, none⟩ = false := free_of hz4 1
        have HGZ := Lib.hid (two_stored (x := .string r) (y := (.slice N k d)) hz4)
        have HOZ := Lib.hid ((HOR.out.ext hx4).set2 (g := w.heap.size) (x := .string r) (y := (.slice N k d)) (by omega))
        have hgz : w4.grownBy ((w4.setCell ⟨w.heap.size, 0, none⟩ (.string r)).setCell ⟨w.heap.size, 1, none⟩ (.slice N k d)) (some w.heap.size) := grown_tr (grown_set _ rfl _) (grown_set _ rfl _)
        have HRZ := Lib.hid ((HRD.out.ext hx4).grown hgz (fun e => by injection e with e; omega) (fun g' t hs e => by have := HS2.out g' t hs; injection e with e; omega))
        have HGG := Lib.hid (grown_more (grown_tr HGW.out (hx4.grown _)) hgz (fun q h => .inl (by injection h with h; omega)))
        clear hx4 hd4 hz4 hgz HVAL
        go_wp2_with fail
        have e0 := cells_of HGZ.out 0
        have e1 := cells_of HGZ.out 1
        refine bodyPost_ret (v := .tuple #[.agg #[.string r, .slice N k d], .bool true]) (by simp [results, Tryz.results38, go_sem, e0, e1]) rfl ⟨_, ?_, ⟨r, N, d, ws, by rw [hwk], HOZ.out.sr.more (fun _ _ h => h.2.1), HOL.out.1, HOL.out.2, by rw [HRES.out]; rfl, by rw [HRES.out]; rfl⟩, HRZ.out, HGG.out⟩
        rw [HRES.out]
        rfl
      · have hv' : vl (bl r) (bls ws) = false := by simpa using hv
        rw [hv'] at hval
        have hres : rnm l bad = none := by rw [HRNM.out, if_neg hv]
        have HRES := Lib.hid hres
        have HVAL := Lib.hid hval
        clear hval hres hv hv'
        go_wp2_with fail
        refine HVAL.out.mono ?_
        rintro e w4 ⟨rfl, hx4⟩
        have hd4 := hx4.get HDR.out
        have hz4 := hx4.get HD2R.out
        have v4 : w4.cell? ⟨w1.heap.size, 0, none⟩ = some (.string r) := cells_of hd4 0
        have v5 : w4.cell? ⟨w1.heap.size, 1, none⟩ = some (.slice N k d) := cells_of hd4 1
        have x0 : w4.cell? ⟨w.heap.size, 0, none⟩ = some (.string ⟨#[]⟩) := cells_of hz4 0
        have x1 : w4.cell? ⟨w.heap.size, 1, none⟩ = some (.slice none 0 0) := cells_of hz4 1
        have b0 : w4.frozen? ⟨w.heap.size, 0, none⟩ = false := free_of hz4 0
        have b1 : w4.frozen? ⟨w.heap.size, 1, none⟩ = false := free_of hz4 1
        have HGZ := Lib.hid (two_stored (x := .string ⟨#[]⟩) (y := (.slice none 0 0)) hz4)
        have HOZ := Lib.hid ((HOR.out.ext hx4).set2 (g := w.heap.size) (x := .string ⟨#[]⟩) (y := (.slice none 0 0)) (by omega))
        have hgz : w4.grownBy ((w4.setCell ⟨w.heap.size, 0, none⟩ (.string ⟨#[]⟩)).setCell ⟨w.heap.size, 1, none⟩ (.slice none 0 0)) (some w.heap.size) := grown_tr (grown_set _ rfl _) (grown_set _ rfl _)
        have HRZ := Lib.hid ((HRD.out.ext hx4).grown hgz (fun e => by injection e with e; omega) (fun g' t hs e => by have := HS2.out g' t hs; injection e with e; omega))
        have HGG := Lib.hid (grown_more (grown_tr HGW.out (hx4.grown _)) hgz (fun q h => .inl (by injection h with h; omega)))
        clear hx4 hd4 hz4 hgz HVAL
        go_wp2_with fail
        have e0 := cells_of HGZ.out 0
        have e1 := cells_of HGZ.out 1
        refine bodyPost_ret (v := .tuple #[.agg #[.string ⟨#[]⟩, .slice none 0 0], .bool false]) (by simp [results, Tryz.results38, go_sem, e0, e1]) rfl ⟨_, ?_, by rw [HRES.out]; exact NmR.none _, HRZ.out, HGG.out⟩
        rw [HRES.out]
        rfl
theorem read_c {S : Nat → TypeId → Prop} {g : Nat} {l : List UInt8} {bad : Bool} (w : World) (h : Rd w S g l bad) (hS : NoRd S) (hl : l.length ≤ 140737488355328) :
    Calls Tryz.prog 38 #[.pointer (some ⟨g, 0, none⟩)] w fun e w' => ∃ v, e = .returned (.tuple #[v, .bool (rnm l bad).isSome]) ∧ NmR w' v (rnm l bad) ∧ Rd w' S g (rp l bad).2.1 (rp l bad).2.2 ∧ w.grownBy w' (some g) :=
  (read_c0 w h.inside (fun k hk => hS k hk.1) (fun _ _ hk => hk.2) hl).mono fun _ _ ⟨v, h1, h2, h3, h4⟩ => ⟨v, h1, h2, h3.more (fun _ _ hk => hk.1), h4⟩
end Go.Proofs.YtagegigffohcbaaGreatDoor
