/-
  Package wire: numbers and strings read, numbers and strings written, joined parts.
-/
import Derived.Test.YtgbdckiojjmncaaRowsC
import Derived.Test.YtgbdckiojjmncaaWireA
import Derived.Test.YtgbdckiojjmncaaJoin
import Derived.Laws.BitsAllLaws
namespace Go.Proofs.Ytgbdckiojjmncaa
open Go.RowKit

/-- the number with these bytes, the highest first -/
def be (l : List UInt8) : Nat := l.foldl (fun x b => x * 256 + b.toNat) 0
theorem be_snoc (l : List UInt8) (b : UInt8) : be (l ++ [b]) = be l * 256 + b.toNat := by simp [be]
theorem be_lt_from (l : List UInt8) : ∀ a : Nat, l.foldl (fun x b => x * 256 + b.toNat) a < (a + 1) * 256 ^ l.length := by
  induction l with
  | nil => intro a; simp
  | cons b l ih =>
    intro a
    have h := ih (a * 256 + b.toNat)
    have hb := UInt8.toNat_lt b
    have h2 : (a * 256 + b.toNat + 1) * 256 ^ l.length ≤ ((a + 1) * 256) * 256 ^ l.length := Nat.mul_le_mul_right _ (by omega)
    rw [List.foldl_cons, List.length_cons, Nat.pow_succ]
    have h3 : (a + 1) * (256 ^ l.length * 256) = ((a + 1) * 256) * 256 ^ l.length := by rw [Nat.mul_assoc, Nat.mul_comm 256]
    omega
theorem be_lt (l : List UInt8) : be l < 256 ^ l.length := by
  have h := be_lt_from l 0
  rw [Nat.zero_add, Nat.one_mul] at h
  exact h

theorem or_step (x b : Nat) (hx : x < 72057594037927936) (hb : b < 256) : bits .or .u64 (IntKind.u64.wrap ((x : Int) * 256)) (IntKind.u64.wrap (b : Int)) = ((x * 256 + b : Nat) : Int) := by
  have e1 : IntKind.u64.wrap ((x : Int) * 256) = ((x * 256 : Nat) : Int) := by rw [IntKind.wrap_u64]; omega
  have e2 : IntKind.u64.wrap (b : Int) = (b : Int) := by rw [IntKind.wrap_u64]; omega
  rw [e1, e2, u64_or_nat _ _ (by omega) (by omega), nat_join 8 (x * 256) b (by omega) (by omega)]
theorem be_take (m : List UInt8) (j : Nat) (h : j < m.length) : be (m.take (j + 1)) = be (m.take j) * 256 + (m[j]).toNat := by
  rw [List.take_succ_eq_append_getElem h, be_snoc]
theorem be_take_lt (m : List UInt8) (j : Nat) (h : j < 8) : be (m.take j) < 72057594037927936 := by
  have h1 := be_lt (m.take j)
  have h2 : 256 ^ (m.take j).length ≤ 256 ^ 7 := Nat.pow_le_pow_right (by omega) (by rw [List.length_take]; omega)
  omega

set_option maxHeartbeats 400000 in
theorem num_c {S : Nat → TypeId → Prop} {g : Nat} {l : List UInt8} (k : Nat) (w : World) (h : Rd w S g l false) (hS : NoRd S) (hk : 1 ≤ k ∧ k ≤ 8) (hn : k ≤ l.length) :
    Calls Try.prog 36 #[.pointer (some ⟨g, 0, none⟩), .int .i64 k] w fun e w' => e = .returned (.int .u64 (be (l.take k))) ∧ Rd w' S g (l.drop k) false ∧ w.grownBy w' (some g) := by
  have H := Lib.hid h
  clear h
  obtain ⟨hk1, hk2⟩ := hk
  go_enter Try.func36, Try.ntmps36
  go_wp2_with (go_at_call 47; refine (isWidth_t _ _ ⟨by omega, by omega⟩).mono ?_; rintro e w' ⟨rfl, rfl⟩)
  refine (rdnext_c k _ H.out hS hn).mono ?_
  rintro e w1 ⟨A, rfl, hA, hr, hg⟩
  have hr' := Lib.hid hr
  have hg' := Lib.hid hg
  clear hr hg
  have hln : (l.take k).length = k := by rw [List.length_take]; omega
  obtain ⟨m, hm⟩ : ∃ m, m = l.take k := ⟨_, rfl⟩
  rw [← hm] at hA hln
  have HM := Lib.hid hm
  clear hm
  have hln1 : m.length ≤ k := by omega
  have hln2 : k ≤ m.length := by omega
  clear hln
  go_wp2_with fail
  go_loop [5, 18] (fun x i => ∃ j : Nat, j ≤ k ∧ i = .int .i64 j ∧ x = .int .u64 (be (m.take j))) (fun _ i => k - (intOf i).toNat)
  case atStart => exact ⟨0, Nat.zero_le _, rfl, rfl⟩
  case round =>
    obtain ⟨j, hj, rfl, rfl⟩ := hrel
    by_cases hlt : j < k
    · have hlt' : j < m.length := by omega
      obtain ⟨g', off', rfl, hc'⟩ := hA.cell hlt'
      have hb := be_take_lt m j (by omega)
      have hs := Lib.hid (be_take m j hlt')
      have ho := Lib.hid (or_step (be (m.take j)) (m[j]).toNat hb (UInt8.toNat_lt _))
      clear hb
      go_wp2_with fail
      go_round
      case rel => exact ⟨j + 1, by omega, by go_num, by rw [ho.out, hs.out]⟩
      case measure => simp [intOf]; omega
    · go_wp2_with fail
      go_ret
      have e : m.take j = m := List.take_of_length_le (by omega)
      rw [← HM.out]
      refine ⟨?_, hr'.out, hg'.out⟩
      rw [e]
      rfl

/-! ## a number is read: the failing ways -/
set_option maxHeartbeats 400000 in
theorem num_no {S : Nat → TypeId → Prop} {g : Nat} {l : List UInt8} {bad : Bool} (k : Int) (w : World) (h : Rd w S g l bad) (hn : bad = true ∨ ¬ (1 ≤ k ∧ k ≤ 8) ∨ (l.length : Int) < k) :
    Calls Try.prog 36 #[.pointer (some ⟨g, 0, none⟩), .int .i64 k] w fun e w' => e = .returned (.int .u64 0) ∧ Rd w' S g [] true ∧ w.grownBy w' (some g) := by
  have H := Lib.hid h
  clear h
  by_cases hk : 1 ≤ k ∧ k ≤ 8
  · have hn' : bad = true ∨ (l.length : Int) < k := by rcases hn with h | h | h; exact .inl h; exact absurd hk h; exact .inr h
    have HN := Lib.hid hn'
    clear hn hn'
    have hw := fun W => isWidth_t k W hk
    have hw' := Lib.hid hw
    obtain ⟨h1, h2⟩ := hk
    clear hw
    go_enter Try.func36, Try.ntmps36
    go_wp2_with (go_at_call 47; refine (hw'.out _).mono ?_; rintro e w' ⟨rfl, rfl⟩)
    refine (next_no _ _ H.out HN.out).mono ?_
    rintro e w1 ⟨rfl, hr, hg⟩
    go_wp2_with fail
    go_loop [5, 18] (fun x i => x = .int .u64 0 ∧ i = .int .i64 0) (fun _ i => 0)
    case atStart => exact ⟨rfl, rfl⟩
    case round =>
      obtain ⟨rfl, rfl⟩ := hrel
      go_wp2_with fail
      go_ret
      exact ⟨rfl, hr, hg⟩
  · clear hn
    have hw := fun W => isWidth_f k W hk
    have hw' := Lib.hid hw
    clear hw hk
    go_enter Try.func36, Try.ntmps36
    go_wp2_with (first | (go_at_call 47; refine (hw'.out _).mono ?_; rintro e w' ⟨rfl, rfl⟩) | (go_at_call 50; refine (fail_c _ H.out).mono ?_; rintro e w' ⟨rfl, hr, hg⟩))
    go_ret
    exact ⟨rfl, hr, hg⟩
set_option maxHeartbeats 400000 in
theorem num_nil (k : Int) (w : World) (hk : 1 ≤ k ∧ k ≤ 8) :
    Calls Try.prog 36 #[.pointer none, .int .i64 k] w fun e w' => e = .returned (.int .u64 0) ∧ w = w' := by
  have hw := fun W => isWidth_t k W hk
  have hw' := Lib.hid hw
  obtain ⟨h1, h2⟩ := hk
  clear hw
  go_enter Try.func36, Try.ntmps36
  go_wp2_with (go_at_call 47; refine (hw'.out _).mono ?_; rintro e w' ⟨rfl, rfl⟩)
  refine (rdnext_nil _ _).mono ?_
  rintro e w1 ⟨rfl, rfl⟩
  go_wp2_with fail
  go_loop [5, 18] (fun x i => x = .int .u64 0 ∧ i = .int .i64 0) (fun _ i => 0)
  case atStart => exact ⟨rfl, rfl⟩
  case round =>
    obtain ⟨rfl, rfl⟩ := hrel
    go_wp2_with fail
    go_ret
    exact ⟨rfl, rfl⟩

/-! ## a string is read -/
set_option maxHeartbeats 400000 in
theorem str_c {S : Nat → TypeId → Prop} {g : Nat} {l : List UInt8} (k : Nat) (w : World) (h : Rd w S g l false) (hS : NoRd S) (hl : l.length ≤ 140737488355328) (hk : 1 ≤ k ∧ k ≤ 8) (hn : k ≤ l.length) (hm : be (l.take k) ≤ l.length - k) :
    Calls Try.prog 35 #[.pointer (some ⟨g, 0, none⟩), .int .i64 k] w fun e w' => ∃ A c, e = .returned (.slice A ((l.drop k).take (be (l.take k))).length c) ∧
      OwnB w' 5 w.heap.size A c ((l.drop k).take (be (l.take k))) ∧ Rd w' S g ((l.drop k).drop (be (l.take k))) false ∧ w.grownBy w' (some g) := by
  have H := Lib.hid h
  clear h
  obtain ⟨n, hn0⟩ : ∃ n, n = be (l.take k) := ⟨_, rfl⟩
  rw [← hn0] at hm
  have HN := Lib.hid hn0
  clear hn0
  go_enter Try.func35, Try.ntmps35
  go_wp2_with fail
  refine (num_c k _ H.out hS hk hn).mono ?_
  rintro e w1 ⟨rfl, hr, hg⟩
  rw [← HN.out]
  have HR := Lib.hid hr
  have HG := Lib.hid hg
  clear hr hg
  go_wp2_with fail
  refine (rdnext_c n _ HR.out hS (by rw [List.length_drop]; omega)).mono ?_
  rintro e w2 ⟨A, rfl, hA, hr2, hg2⟩
  have hln : ((l.drop k).take n).length = n := by rw [List.length_take, List.length_drop]; omega
  have hcl := clone_c A n ((l.drop k).take n) S w2 hA (by omega)
  rw [hln] at hcl
  have hcl' := Lib.hid hcl
  have hln' := Lib.hid hln
  have hr2' := Lib.hid hr2
  have hg2' := Lib.hid hg2
  clear hA hr2 hg2 hcl hln
  go_wp2_with fail
  refine hcl'.out.mono ?_
  rintro e w3 ⟨B, c, rfl, hB, hx⟩
  go_wp2_with fail
  go_ret
  rw [← HN.out]
  exact ⟨B, c, by rw [hln'.out]; rfl, hB.less (Nat.le_trans HG.out.size hg2'.out.size), hr2'.out.ext hx, grown_tr (grown_tr HG.out hg2'.out) (hx.grown _)⟩
set_option maxHeartbeats 400000 in
theorem str_no {S : Nat → TypeId → Prop} {g : Nat} {l : List UInt8} {bad : Bool} (k : Int) (w : World) (h : Rd w S g l bad) (hS : NoRd S)
    (hn : bad = true ∨ ¬ (1 ≤ k ∧ k ≤ 8) ∨ (l.length : Int) < k ∨ l.length - k.toNat < be (l.take k.toNat)) :
    Calls Try.prog 35 #[.pointer (some ⟨g, 0, none⟩), .int .i64 k] w fun e w' => e = .returned (.slice none 0 0) ∧ Rd w' S g [] true ∧ w.grownBy w' (some g) := by
  have H := Lib.hid h
  clear h
  by_cases hb : bad = true ∨ ¬ (1 ≤ k ∧ k ≤ 8) ∨ (l.length : Int) < k
  · have HB := Lib.hid hb
    clear hn hb
    go_enter Try.func35, Try.ntmps35
    go_wp2_with fail
    refine (num_no k _ H.out HB.out).mono ?_
    rintro e w1 ⟨rfl, hr, hg⟩
    have HR := Lib.hid hr
    clear hr
    go_wp2_with fail
    refine (next_no 0 _ HR.out (.inl rfl)).mono ?_
    rintro e w2 ⟨rfl, hr2, hg2⟩
    go_wp2_with fail
    refine (clone_nil _).mono ?_
    rintro e w' ⟨rfl, rfl⟩
    go_wp2_with fail
    go_ret
    exact ⟨rfl, hr2, grown_tr hg hg2⟩
  · simp only [not_or, Classical.not_not] at hb
    obtain ⟨hb1, ⟨hb2, hb3⟩, hb4⟩ := hb
    have hn' : l.length - k.toNat < be (l.take k.toNat) := by rcases hn with h | h | h | h; exact absurd h hb1; exact absurd ⟨hb2, hb3⟩ h; omega; exact h
    obtain rfl : bad = false := by simpa using hb1
    obtain ⟨m, rfl⟩ := Int.eq_ofNat_of_zero_le (by omega : 0 ≤ k)
    rw [Int.toNat_natCast] at hn'
    clear hn hb1
    obtain ⟨n, hn0⟩ : ∃ n, n = be (l.take m) := ⟨_, rfl⟩
    rw [← hn0] at hn'
    have HN := Lib.hid hn0
    clear hn0
    go_enter Try.func35, Try.ntmps35
    go_wp2_with fail
    refine (num_c m _ H.out hS ⟨by omega, by omega⟩ (by omega)).mono ?_
    rintro e w1 ⟨rfl, hr, hg⟩
    rw [← HN.out]
    have HR := Lib.hid hr
    clear hr
    go_wp2_with fail
    refine (next_no n _ HR.out (.inr (by rw [List.length_drop]; omega))).mono ?_
    rintro e w2 ⟨rfl, hr2, hg2⟩
    go_wp2_with fail
    refine (clone_nil _).mono ?_
    rintro e w' ⟨rfl, rfl⟩
    go_wp2_with fail
    go_ret
    exact ⟨rfl, hr2, grown_tr hg hg2⟩
set_option maxHeartbeats 400000 in
theorem str_nil (k : Int) (w : World) (hk : 1 ≤ k ∧ k ≤ 8) :
    Calls Try.prog 35 #[.pointer none, .int .i64 k] w fun e w' => e = .returned (.slice none 0 0) ∧ w = w' := by
  have HK := Lib.hid hk
  clear hk
  go_enter Try.func35, Try.ntmps35
  go_wp2_with fail
  refine (num_nil k _ HK.out).mono ?_
  rintro e w' ⟨rfl, rfl⟩
  go_wp2_with fail
  refine (rdnext_nil 0 _).mono ?_
  rintro e w' ⟨rfl, rfl⟩
  go_wp2_with fail
  refine (clone_nil _).mono ?_
  rintro e w' ⟨rfl, rfl⟩
  go_wp2_with fail
  go_ret
  exact ⟨rfl, rfl⟩

/-! ## a new reader -/
set_option maxHeartbeats 400000 in
theorem rdnew_c (A : Option Addr) (c : Nat) (l : List UInt8) (S : Nat → TypeId → Prop) (w : World) (h : RB w S A l) (hl : l.length ≤ 140737488355328) :
    Calls Try.prog 15 #[.slice A l.length c] w fun e w' => ∃ g B, e = .returned (.pointer (some ⟨g, 0, none⟩)) ∧ w.heap.size ≤ g ∧
      Rd w' (fun k t => w.heap.size ≤ k ∧ t = 5 ∧ B = some k) g l false ∧ Ext w w' := by
  have H := Lib.hid h
  clear h
  go_enter Try.func15, Try.ntmps15
  go_wp2_with fail
  refine (clone_c A c l S _ H.out hl).mono ?_
  rintro e w1 ⟨B, d, rfl, hB, hx⟩
  go_wp2_with fail
  go_ret
  refine ⟨w1.heap.size, (Value.slice B l.length d).ownBlock, rfl, hx.size, ⟨B, d, new_of _ _, ?_, hB.le.1, hB.le.2⟩, hx.tr (Ext.alloc _ _)⟩
  exact (hB.rb.ext (Ext.alloc _ _)).more (fun k t ⟨h1, h2, h3⟩ => ⟨h1, h2, h3⟩)

/-! ## a number is written -/
/-- the number x in k bytes, the highest first -/
def nb : Nat → Nat → List UInt8
  | 0, _ => []
  | k + 1, x => nb k (x / 256) ++ [UInt8.ofNat (x % 256)]
theorem nb_length (k : Nat) : ∀ x, (nb k x).length = k := by
  induction k with
  | zero => intro x; rfl
  | succ k ih => intro x; rw [nb, List.length_append, ih]; rfl
theorem be_nb (k : Nat) : ∀ x, x < 256 ^ k → be (nb k x) = x := by
  induction k with
  | zero => intro x h; simp at h; subst h; rfl
  | succ k ih =>
    intro x h
    rw [Nat.pow_succ] at h
    rw [nb, be_snoc, ih _ (by omega)]
    have : (UInt8.ofNat (x % 256)).toNat = x % 256 := by rw [UInt8.toNat_ofNat']; omega
    omega
/-- byte j of the number, from the lowest -/
theorem nb_get (k : Nat) : ∀ x j, j < k → (nb k x)[k - 1 - j]? = some (UInt8.ofNat (x / 256 ^ j % 256)) := by
  induction k with
  | zero => intro x j h; omega
  | succ k ih =>
    intro x j h
    rw [nb, List.getElem?_append]
    rw [nb_length]
    rcases j with _ | j
    · rw [if_neg (by omega)]
      simp
    · rw [if_pos (by omega)]
      have e : k + 1 - 1 - (j + 1) = k - 1 - j := by omega
      rw [e, ih (x / 256) j (by omega), Nat.pow_succ, Nat.mul_comm, Nat.div_div_eq_div_mul]

/-- what the row holds when j bytes are written, the lowest first -/
def fil (k x j : Nat) : List UInt8 := List.replicate (k - j) 0 ++ (nb k x).drop (k - j)
theorem fil_length (k x j : Nat) (h : j ≤ k) : (fil k x j).length = k := by
  rw [fil, List.length_append, List.length_replicate, List.length_drop, nb_length]; omega
theorem fil_zero (k x : Nat) : fil k x 0 = List.replicate k 0 := by
  rw [fil, Nat.sub_zero, List.drop_of_length_le (by rw [nb_length]; omega), List.append_nil]
theorem fil_all (k x : Nat) : fil k x k = nb k x := by rw [fil, Nat.sub_self]; rfl
theorem fil_step (k x j : Nat) (h : j < k) : (fil k x j).set (k - 1 - j) (UInt8.ofNat (x / 256 ^ j % 256)) = fil k x (j + 1) := by
  have hg := nb_get k x j h
  have e1 : k - (j + 1) = k - 1 - j := by omega
  have e2 : k - j = (k - 1 - j) + 1 := by omega
  rw [fil, fil, e1, e2]
  have hl : k - 1 - j < (nb k x).length := by rw [nb_length]; omega
  rw [List.getElem?_eq_getElem hl] at hg
  injection hg with hg
  rw [List.drop_eq_getElem_cons hl, hg, List.replicate_succ', List.append_assoc, List.set_append]
  simp

theorem two_pow8 (j : Nat) : (2 : Int) ^ (8 * j) = ((256 ^ j : Nat) : Int) := by
  rw [show (256 : Nat) = 2 ^ 8 from rfl, ← Nat.pow_mul]
  norm_cast
theorem shr_byte (x j : Nat) : IntKind.u8.wrap ((x : Int) / 2 ^ (8 * j)) = ((UInt8.ofNat (x / 256 ^ j % 256)).toNat : Int) := by
  have e : (UInt8.ofNat (x / 256 ^ j % 256)).toNat = x / 256 ^ j % 256 := by rw [UInt8.toNat_ofNat']; omega
  rw [e, IntKind.wrap_u8', two_pow8, Int.natCast_emod, Int.natCast_ediv]
  rfl
theorem shr_zero (x k : Nat) (h : x < 256 ^ k) : ((x : Int) / 2 ^ (8 * k) != 0) = false := by
  apply bne_f
  rw [two_pow8]
  have h0 : x / 256 ^ k = 0 := Nat.div_eq_of_lt h
  have : ((x : Int) / ((256 ^ k : Nat) : Int)) = ((x / 256 ^ k : Nat) : Int) := (Int.natCast_ediv _ _).symm
  rw [this, h0]
  rfl
theorem shr_more (x k : Nat) (h : 256 ^ k ≤ x) : ((x : Int) / 2 ^ (8 * k) != 0) = true := by
  apply bne_t
  rw [two_pow8]
  have h1 : 0 < x / 256 ^ k := Nat.div_pos h (Nat.pow_pos (by omega))
  have : ((x : Int) / ((256 ^ k : Nat) : Int)) = ((x / 256 ^ k : Nat) : Int) := (Int.natCast_ediv _ _).symm
  rw [this]
  omega

set_option maxHeartbeats 400000 in
theorem put_c (k x : Nat) (w : World) (hk : 1 ≤ k ∧ k ≤ 8) (hx : x < 256 ^ k) (hx64 : x < 18446744073709551616) :
    Calls Try.prog 27 #[.int .i64 k, .int .u64 x] w fun e w' => ∃ A c, e = .returned (.tuple #[.slice A (nb k x).length c, .bool true]) ∧ OwnB w' 5 w.heap.size A c (nb k x) ∧ Ext w w' := by
  obtain ⟨i0, hi0, hz0, hz1, hz2⟩ := info_parts info_u8
  obtain ⟨h1, h2⟩ := hk
  have ht := shr_zero x k hx
  have hb := fun j => Lib.hid (shr_byte x j)
  have HX64 := Lib.hid hx64
  clear hx hx64
  go_enter Try.func27, Try.ntmps27
  go_wp2_with (first | (go_at_call 47; refine (isWidth_t _ _ ⟨by omega, by omega⟩).mono ?_; rintro e w' ⟨rfl, rfl⟩) | (at_make; refine wpList_make_full _ rfl _ _ 28 rfl w.heap.size 5 i0 (.int .u8 0) 1 Try.underlying28 hi0 hz0 hz1 .i64 .i64 _ _ k rfl rfl rfl rfl (by rw [hz2]; omega) (by unfold maxLen; omega) (Nat.le_refl _) ?_; intro w1 ho1 hg1))
  have hx1 : Ext w w1 := grown_ext hg1
  have ho : OwnB w1 5 w.heap.size (some ⟨w.heap.size, 0, none⟩) k (fil k x 0) := by
    unfold OwnB
    rw [fil_length _ _ _ (by omega), fil_zero, ← made_bytes]
    exact ho1
  clear ho1 hg1
  go_loopw [7, 22] (fun _ i wr => ∃ j : Nat, j ≤ k ∧ i = .int .i64 j ∧ OwnB wr 5 w.heap.size (some ⟨w.heap.size, 0, none⟩) k (fil k x j) ∧ Ext w wr) (fun _ i _ => k - (intOf i).toNat)
  case atStart => exact ⟨0, Nat.zero_le _, rfl, ho, hx1⟩
  case round =>
    obtain ⟨j, hj, rfl, hor, hxr⟩ := hrel
    by_cases hlt : j < k
    · obtain ⟨v0, hc⟩ : ∃ v, wr.cell? ⟨w.heap.size, k - 1 - j, none⟩ = some v := ⟨_, hor.cellAt (j := k - 1 - j) (by rw [fil_length _ _ _ hj]; omega)⟩
      have hf := hor.freeAt (k - 1 - j)
      have hst := hor.set_ (k - 1 - j) (UInt8.ofNat (x / 256 ^ j % 256))
      rw [fil_step k x j hlt, ← shr_byte] at hst
      have HST := Lib.hid hst
      have hxn := hxr.setCell (p := ⟨w.heap.size, k - 1 - j, none⟩) (Nat.le_refl _) (.int .u8 (IntKind.u8.wrap ((x : Int) / 2 ^ (8 * j))))
      clear hor hst
      go_wp2_with fail
      go_roundw
      case rel => exact ⟨j + 1, by omega, by go_num, HST.out, hxn⟩
      case measure => simp [intOf]; omega
    · obtain rfl : j = k := by omega
      rw [fil_all] at hor
      have HOR := Lib.hid hor
      clear hor
      go_wp2_with fail
      go_ret2
      exact ⟨some ⟨w.heap.size, 0, none⟩, j, by rw [nb_length]; rfl, HOR.out, hxr⟩

theorem isWidth_any (k : Int) (w : World) : Calls Try.prog 47 #[.int .i64 k] w fun e w' => e = .returned (.bool (decide (1 ≤ k ∧ k ≤ 8))) ∧ w = w' :=
  (isWidth_c k w).mono fun _ _ ⟨he, hw⟩ => ⟨by rw [he]; congr 2; simp, hw⟩

set_option maxHeartbeats 400000 in
theorem put_no (k : Int) (x : Nat) (w : World) (hb : -9223372036854775808 ≤ k ∧ k ≤ 9223372036854775807) (h : ¬ (1 ≤ k ∧ k ≤ 8) ∨ 256 ^ k.toNat ≤ x) :
    Calls Try.prog 27 #[.int .i64 k, .int .u64 x] w fun e w' => e = .returned (.tuple #[.slice none 0 0, .bool false]) ∧ w = w' := by
  obtain ⟨hb1, hb2⟩ := hb
  by_cases hk : 1 ≤ k ∧ k ≤ 8
  · have hx : 256 ^ k.toNat ≤ x := by rcases h with h | h; exact absurd hk h; exact h
    clear h
    have hw := fun W => Lib.hid (isWidth_t k W hk)
    obtain ⟨h1, h2⟩ := hk
    obtain ⟨m, rfl⟩ := Int.eq_ofNat_of_zero_le (by omega : 0 ≤ k)
    rw [Int.toNat_natCast] at hx
    have ht := shr_more x m hx
    clear hx
    go_enter Try.func27, Try.ntmps27
    go_wp2_with (go_at_call 47; refine (hw _).out.mono ?_; rintro e w' ⟨rfl, rfl⟩)
    go_ret2
    exact ⟨rfl, rfl⟩
  · have hw := fun W => Lib.hid (isWidth_f k W hk)
    clear h hk
    go_enter Try.func27, Try.ntmps27
    go_wp2_with (go_at_call 47; refine (hw _).out.mono ?_; rintro e w' ⟨rfl, rfl⟩)
    go_ret2
    exact ⟨rfl, rfl⟩


/-! ## a string is written -/
set_option maxHeartbeats 400000 in
theorem puts_c (k : Nat) (A : Option Addr) (c : Nat) (l : List UInt8) (S : Nat → TypeId → Prop) (w : World) (h : RB w S A l) (hk : 1 ≤ k ∧ k ≤ 8) (hx : l.length < 256 ^ k) (hl : l.length ≤ 140737488000000) :
    Calls Try.prog 48 #[.int .i64 k, .slice A l.length c] w fun e w' => ∃ A' c', e = .returned (.tuple #[.slice A' (nb k l.length ++ l).length c', .bool true]) ∧ OwnB w' 5 w.heap.size A' c' (nb k l.length ++ l) ∧ Ext w w' := by
  have H := Lib.hid h
  have HX := Lib.hid hx
  have HK := Lib.hid hk
  clear h hx hk
  go_enter Try.func48, Try.ntmps48
  go_wp2_with fail
  refine (put_c k l.length _ HK.out HX.out (by omega)).mono ?_
  rintro e w1 ⟨B, d, rfl, hB, hx1⟩
  have HB := Lib.hid hB
  have hbl := nb_length k l.length
  rw [hbl]
  have HBL := Lib.hid hbl
  clear hB hbl
  go_wp2_with fail
  have hr : RBs (w1.alloc (.cells #[.slice B k d, .slice A l.length c] 28)) (fun _ _ => True) (fun _ _ => True) (some ⟨w1.heap.size, 0, none⟩) [nb k l.length, l] := by
    intro _
    refine ⟨_, 0, _, _, _, rfl, new_of _ _, trivial, fun j m hj => ?_⟩
    match j, hj with
    | 0, hj =>
      injection hj with hj
      subst hj
      exact ⟨B, d, by rw [HBL.out]; rfl, ((HB.out.rb).ext (Ext.alloc _ _)).more (fun _ _ _ => trivial)⟩
    | 1, hj =>
      injection hj with hj
      subst hj
      exact ⟨A, c, rfl, ((H.out.ext hx1).ext (Ext.alloc _ _)).more (fun _ _ _ => trivial)⟩
  refine (join_c _ 2 [nb k l.length, l] _ _ _ hr (by simp [HBL.out]; have := HK.out.2; omega) (by simp)).mono ?_
  rintro e w2 ⟨A', c', rfl, ho, hx2⟩
  have HO := Lib.hid ho
  clear ho
  go_wp2_with fail
  go_ret2
  have e1 : [nb k l.length, l].flatten = nb k l.length ++ l := by simp
  have ho2 := HO.out
  rw [e1] at ho2
  exact ⟨A', c', by rw [List.length_append]; rfl, ho2.less (Nat.le_trans hx1.size (by simp)), (hx1.tr (Ext.alloc _ _)).tr hx2⟩
set_option maxHeartbeats 400000 in
theorem puts_no (k : Int) (A : Option Addr) (c : Nat) (l : List UInt8) (w : World) (hb : -9223372036854775808 ≤ k ∧ k ≤ 9223372036854775807) (h : ¬ (1 ≤ k ∧ k ≤ 8) ∨ 256 ^ k.toNat ≤ l.length) (hl : l.length ≤ 140737488355328) :
    Calls Try.prog 48 #[.int .i64 k, .slice A l.length c] w fun e w' => e = .returned (.tuple #[.slice none 0 0, .bool false]) ∧ w = w' := by
  have H := Lib.hid h
  have HB := Lib.hid hb
  clear h hb
  go_enter Try.func48, Try.ntmps48
  go_wp2_with fail
  refine (put_no k l.length _ HB.out H.out).mono ?_
  rintro e w1 ⟨rfl, rfl⟩
  go_wp2_with fail
  go_ret2
  exact ⟨rfl, rfl⟩

end Go.Proofs.Ytgbdckiojjmncaa
