/-
  Tickets in plain lists of bytes: what is read is there; a ticket's bytes, the reference's reading of them.
  Tickets as values: a ticket's cells, in one block; the reference's Few, Valid.
  Tickets in plain lists of bytes: the package's reading of them, which is the reference's.
  Tickets: Valid and Same of the package, Same of the reference.
  What a slot of a region holds, told so that no later operation unmakes it; five rows; a ticket's key as bytes; a name's bytes are few.
  The reference's numbers of eight bytes.
  The bytes of a ticket, by the package and by the reference.
  Tickets in memory: whole tickets read, written, built; what a call hands back.
-/
import Derived.Test.YtagegigffohcbaaGreatDoorNC
import Derived.Test.YtagegigffohcbaaGreatDoorMA
import Derived.IntWalk
import Derived.Test.YtagegigffohcbaaGreatDoorNA
import Derived.Test.YtagegigffohcbaaGreatDoorMB
import Derived.Test.YtagegigffohcbaaGreatDoorNB
import Derived.Test.YtagegigffohcbaaGreatDoorMF
import Derived.Test.YtagegigffohcbaaGreatDoorMI
import Derived.Laws.Rows
import Derived.Laws.Tables
set_option linter.unusedVariables false
set_option linter.unusedSimpArgs false
namespace Go.Proofs.YtagegigffohcbaaGreatDoor
open Go.RowKit

theorem nb_be : ∀ (k : Nat) (l : List UInt8), l.length = k → nb k (be l) = l := by
  intro k
  induction k with
  | zero => intro l h; rw [List.eq_nil_of_length_eq_zero h]; rfl
  | succ k ih =>
    intro l h
    have hne : l ≠ [] := by rintro rfl; simp at h
    have e := List.dropLast_concat_getLast hne
    have hl : l.dropLast.length = k := by rw [List.length_dropLast]; omega
    have hb : be l = be l.dropLast * 256 + (l.getLast hne).toNat := by conv => lhs; rw [← e, be_snoc]
    have h256 := (l.getLast hne).toNat_lt
    rw [nb, hb, show (be l.dropLast * 256 + (l.getLast hne).toNat) / 256 = be l.dropLast by omega, show (be l.dropLast * 256 + (l.getLast hne).toNat) % 256 = (l.getLast hne).toNat by omega, ih _ hl, UInt8.ofNat_toNat]
    exact e

/-! ## what is read is there -/
theorem st_sound {l : List UInt8} {bad : Bool} (h : (st 1 l bad).bad = false) : bad = false ∧ l = fl (st 1 l bad).got ++ (st 1 l bad).left := by
  unfold st at h ⊢
  split
  · rename_i hc
    rw [if_pos hc] at h
    cases h
  · rename_i hc
    simp only [not_or, Classical.not_not, Bool.not_eq_true] at hc
    obtain ⟨h1, _, h3, h4⟩ := hc
    refine ⟨h1, ?_⟩
    have e1 : ((1 : Int).toNat) = 1 := rfl
    rw [e1] at h4 ⊢
    have hlen : ((l.drop 1).take (be (l.take 1))).length = be (l.take 1) := by rw [List.length_take, List.length_drop]; omega
    simp only [fl]
    rw [hlen, nb_be 1 (l.take 1) (by rw [List.length_take]; omega), List.append_assoc, List.take_append_drop, List.take_append_drop]
theorem nm_sound {l : List UInt8} {bad : Bool} (h : (nm 1 l bad).bad = false) : bad = false ∧ l = nb 1 (nm 1 l bad).num ++ (nm 1 l bad).left := by
  unfold nm at h ⊢
  split
  · rename_i hc
    rw [if_pos hc] at h
    cases h
  · rename_i hc
    simp only [not_or, Classical.not_not, Bool.not_eq_true] at hc
    obtain ⟨h1, _, h3⟩ := hc
    refine ⟨h1, ?_⟩
    have e1 : ((1 : Int).toNat) = 1 := rfl
    rw [e1]
    simp only
    rw [nb_be 1 (l.take 1) (by rw [List.length_take]; omega), List.take_append_drop]
theorem rdn_sound {l : List UInt8} {bad : Bool} : ∀ k, (rdn l bad k).2.2 = false → bad = false ∧ l = (rdn l bad k).1.flatMap fl ++ (rdn l bad k).2.1 := by
  intro k
  induction k with
  | zero => intro h; exact ⟨h, by simp [rdn_zero]⟩
  | succ k ih =>
    intro h
    rw [rdn_succ] at h ⊢
    simp only at h ⊢
    obtain ⟨h1, h2⟩ := st_sound h
    obtain ⟨h3, h4⟩ := ih h1
    refine ⟨h3, ?_⟩
    rw [List.flatMap_append, List.append_assoc]
    conv => lhs; rw [h4]
    congr 1
    conv => lhs; rw [h2]
    simp
/-- a name that is read is there, and the rest is what is left -/
theorem rnm_sound {l : List UInt8} {bad : Bool} {r : List UInt8} {ps : List (List UInt8)} (h : rnm l bad = some (r, ps)) : bad = false ∧ vl r ps = true ∧ l = nbs r ps ++ (rp l bad).2.1 ∧ (rp l bad).2.2 = false := by
  unfold rnm at h
  by_cases hv : vl (rrl l bad).got (rp l bad).1 = true
  · rw [if_pos hv] at h
    simp only [Option.some.injEq, Prod.mk.injEq] at h
    obtain ⟨rfl, rfl⟩ := h
    have hb : (rp l bad).2.2 = false := rdn_bad _ hv
    have hl : (rp l bad).1.length = (rn l bad).num := (rdn_len _ _ _).2
    obtain ⟨k1, k2⟩ := rdn_sound _ hb
    obtain ⟨k3, k4⟩ := nm_sound (l := (rrl l bad).left) (bad := (rrl l bad).bad) k1
    obtain ⟨k5, k6⟩ := st_sound k3
    refine ⟨k5, hv, ?_, hb⟩
    unfold nbs
    rw [hl, List.append_assoc, List.append_assoc]
    conv => lhs; rw [k6]
    show fl (rrl l bad).got ++ _ = _
    congr 1
    conv => lhs; rw [show (st 1 l bad).left = (rrl l bad).left from rfl, k4]
    show nb 1 (rn l bad).num ++ _ = _
    congr 1
  · rw [if_neg hv] at h
    cases h

/-! ## tickets -/
/-- a ticket -/
def tkv (r : List UInt8) (ps : List (List UInt8)) (a e : Nat) : Bool := vl r ps && decide (a ≤ e) && decide (e ≤ 1099511627776)
/-- a ticket's bytes -/
def tkb (r : List UInt8) (ps : List (List UInt8)) (a e : Nat) (key : List UInt8) : List UInt8 := 1 :: (nbs r ps ++ (nb 8 a ++ (nb 8 e ++ key)))
/-- the ticket with these bytes, as the reference reads it -/
def tkr (l : List UInt8) : Option (List UInt8 × List (List UInt8) × Nat × Nat × List UInt8) :=
  if l.length < 33 ∨ l[0]? ≠ some 1 then none else
  match rnm ((l.take (l.length - 32)).drop 1) false with
  | none => none
  | some (r, ps) =>
    if 0 < (rp ((l.take (l.length - 32)).drop 1) false).2.1.length then none else
    if be ((l.drop (l.length - 24)).take 8) < be ((l.drop (l.length - 32)).take 8) ∨ 1099511627776 < be ((l.drop (l.length - 24)).take 8) then none else
    some (r, ps, be ((l.drop (l.length - 32)).take 8), be ((l.drop (l.length - 24)).take 8), l.drop (l.length - 16))

theorem tkv_parts {r : List UInt8} {ps : List (List UInt8)} {a e : Nat} (h : tkv r ps a e = true) : vl r ps = true ∧ a ≤ e ∧ e ≤ 1099511627776 := by
  simp only [tkv, Bool.and_eq_true, decide_eq_true_eq] at h
  exact ⟨h.1.1, h.1.2, h.2⟩
theorem tkr_sound {l r key : List UInt8} {ps : List (List UInt8)} {a e : Nat} (h : tkr l = some (r, ps, a, e, key)) : tkv r ps a e = true ∧ key.length = 16 ∧ l = tkb r ps a e key := by
  unfold tkr at h
  split at h
  · cases h
  · rename_i h1
    simp only [not_or, Classical.not_not] at h1
    obtain ⟨h33, h0⟩ := h1
    split at h
    · cases h
    · rename_i r' ps' hr
      split at h
      · cases h
      · rename_i hz
        split at h
        · cases h
        · rename_i hn
          simp only [Option.some.injEq, Prod.mk.injEq] at h
          obtain ⟨rfl, rfl, rfl, rfl, rfl⟩ := h
          obtain ⟨_, hv, hl, _⟩ := rnm_sound hr
          simp only [not_or, Nat.not_lt] at hn
          refine ⟨by simp only [tkv, Bool.and_eq_true, decide_eq_true_eq]; exact ⟨⟨hv, hn.1⟩, hn.2⟩, by rw [List.length_drop]; omega, ?_⟩
          rw [List.eq_nil_of_length_eq_zero (by omega : (rp ((l.take (l.length - 32)).drop 1) false).2.1.length = 0), List.append_nil] at hl
          unfold tkb
          rw [← hl, nb_be 8 _ (by rw [List.length_take, List.length_drop]; omega), nb_be 8 _ (by rw [List.length_take, List.length_drop]; omega)]
          have e1 : (l.drop (l.length - 24)).take 8 ++ l.drop (l.length - 16) = l.drop (l.length - 24) := by
            conv => rhs; rw [← List.take_append_drop 8 (l.drop (l.length - 24)), List.drop_drop]
            rw [show l.length - 24 + 8 = l.length - 16 by omega]
          have e2 : (l.drop (l.length - 32)).take 8 ++ l.drop (l.length - 24) = l.drop (l.length - 32) := by
            conv => rhs; rw [← List.take_append_drop 8 (l.drop (l.length - 32)), List.drop_drop]
            rw [show l.length - 32 + 8 = l.length - 24 by omega]
          rw [e1, e2]
          have e3 : (1 : UInt8) :: (l.take (l.length - 32)).drop 1 = l.take (l.length - 32) := by
            cases l with
            | nil => simp at h33
            | cons c l =>
              simp only [List.getElem?_cons_zero, Option.some.injEq] at h0
              subst h0
              rw [List.length_cons, show l.length + 1 - 32 = (l.length - 32) + 1 by simp at h33; omega, List.take_succ_cons, List.drop_succ_cons, List.drop_zero]
          rw [← List.cons_append, e3, List.take_append_drop]
theorem tkr_full {r key : List UInt8} {ps : List (List UInt8)} {a e : Nat} (h : tkv r ps a e = true) (hk : key.length = 16) : tkr (tkb r ps a e key) = some (r, ps, a, e, key) := by
  obtain ⟨hv, h1, h2⟩ := tkv_parts h
  have la := nb_length 8 a
  have le := nb_length 8 e
  obtain ⟨l, hl⟩ : ∃ l, l = tkb r ps a e key := ⟨_, rfl⟩
  obtain ⟨x, hx⟩ : ∃ x, x = nbs r ps := ⟨_, rfl⟩
  have hlx : l = (1 :: x) ++ (nb 8 a ++ (nb 8 e ++ key)) := by rw [hl, hx]; rfl
  have hn : l.length = x.length + 33 := by rw [hlx]; simp only [List.length_append, List.length_cons]; omega
  have e32 : l.take (l.length - 32) = 1 :: x := by rw [hn, hlx, show x.length + 33 - 32 = (1 :: x).length by simp, List.take_left]
  have d32 : l.drop (l.length - 32) = nb 8 a ++ (nb 8 e ++ key) := by rw [hn, hlx, show x.length + 33 - 32 = (1 :: x).length by simp, List.drop_left]
  have d24 : l.drop (l.length - 24) = nb 8 e ++ key := by
    rw [show l.length - 24 = (l.length - 32) + 8 by omega, ← List.drop_drop, d32, List.drop_left' la]
  have d16 : l.drop (l.length - 16) = key := by
    rw [show l.length - 16 = (l.length - 24) + 8 by omega, ← List.drop_drop, d24, List.drop_left' le]
  have t32 : (l.drop (l.length - 32)).take 8 = nb 8 a := by
    rw [d32, List.take_left' la]
  have t24 : (l.drop (l.length - 24)).take 8 = nb 8 e := by
    rw [d24, List.take_left' le]
  have r1 := rnm_nbs hv []
  rw [List.append_nil, ← hx] at r1
  rw [← hl]
  unfold tkr
  rw [if_neg (by rw [hn, hlx]; simp), e32, List.drop_succ_cons, List.drop_zero, r1.1, r1.2, t32, t24, d16, be_nb 8 a (by omega), be_nb 8 e (by omega)]
  simp only
  rw [if_neg (by simp), if_neg (by omega)]
end Go.Proofs.YtagegigffohcbaaGreatDoor

namespace Go.Proofs.YtagegigffohcbaaGreatDoor
open Go.RowKit
set_option linter.unusedVariables false

/-- a ticket's cells -/
def tkc (s : ByteArray) (A : Option Addr) (n c : Nat) (a e : Int) (key : Nat → Nat) : Array Value := #[.string s, .slice A n c, .int .i64 a, .int .i64 e] ++ tabV .u8 16 key
theorem tkc_size (s : ByteArray) (A : Option Addr) (n c : Nat) (a e : Int) (key : Nat → Nat) : (tkc s A n c a e key).size = 20 := by simp [tkc, tabV_size]
theorem tkc_four (s : ByteArray) (A : Option Addr) (n c : Nat) (a e : Int) (key : Nat → Nat) : (tkc s A n c a e key)[0]? = some (.string s) ∧ (tkc s A n c a e key)[1]? = some (.slice A n c) ∧ (tkc s A n c a e key)[2]? = some (.int .i64 a) ∧ (tkc s A n c a e key)[3]? = some (.int .i64 e) := by
  unfold tkc
  refine ⟨?_, ?_, ?_, ?_⟩ <;> rw [Array.getElem?_append_left (by simp)] <;> rfl

/-- what a call knows of a ticket that it boxed -/
structure TkAt (w : World) (g : Nat) (T : Array Value) (s : ByteArray) (A : Option Addr) (n c : Nat) (a e : Int) : Prop where
  get : w.heap[g]? = some (.cells T 28 (0, 0))
  c0 : w.cell? ⟨g, 0, none⟩ = some (.string s)
  c1 : w.cell? ⟨g, 1, none⟩ = some (.slice A n c)
  c2 : w.cell? ⟨g, 2, none⟩ = some (.int .i64 a)
  c3 : w.cell? ⟨g, 3, none⟩ = some (.int .i64 e)
theorem TkAt.of {w : World} {g : Nat} {s : ByteArray} {A : Option Addr} {n c : Nat} {a e : Int} {key : Nat → Nat} (h : w.heap[g]? = some (.cells (tkc s A n c a e key) 28 (0, 0))) : TkAt w g (tkc s A n c a e key) s A n c a e :=
  have k := tkc_four s A n c a e key
  ⟨h, (cells_of h 0).trans k.1, (cells_of h 1).trans k.2.1, (cells_of h 2).trans k.2.2.1, (cells_of h 3).trans k.2.2.2⟩
theorem TkAt.ext {w w' : World} {g : Nat} {T : Array Value} {s : ByteArray} {A : Option Addr} {n c : Nat} {a e : Int} (h : TkAt w g T s A n c a e) (hx : Ext w w') : TkAt w' g T s A n c a e := by
  have hg := hx.get h.get
  have k : ∀ i, T[i]? = w.cell? ⟨g, i, none⟩ := fun i => (cells_of h.get i).symm
  exact ⟨hg, (cells_of hg 0).trans ((k 0).trans h.c0), (cells_of hg 1).trans ((k 1).trans h.c1), (cells_of hg 2).trans ((k 2).trans h.c2), (cells_of hg 3).trans ((k 3).trans h.c3)⟩
/-- a ticket is valid, its times being whole numbers -/
def tkvI (s : ByteArray) (ss : List ByteArray) (a e : Int) : Bool := vl (bl s) (bls ss) && (decide (0 ≤ a) && (decide (a ≤ e) && decide (e ≤ 1099511627776)))

set_option maxRecDepth 100000 in
set_option maxHeartbeats 1000000 in
theorem tfew_c (s : ByteArray) (A : Option Addr) (c : Nat) (ss : List ByteArray) (a e : Int) (key : Nat → Nat) (S : Nat → TypeId → Prop) (w : World) (h : SR w S A ss) (hn : ss.length ≤ 9223372036854775807) :
    Calls Tryz.prog 6 #[.agg (tkc s A ss.length c a e key)] w fun e' w' => e' = .returned (.bool (few s ss)) ∧ Ext w w' := by
  have hk := TkAt.of (new_of w (.cells (tkc s A ss.length c a e key) 28))
  obtain ⟨T, hT⟩ : ∃ T, T = tkc s A ss.length c a e key := ⟨_, rfl⟩
  rw [← hT] at hk ⊢
  have hf := few_c s A c ss S (w.alloc (.cells T 28)) (h.ext (Ext.alloc _ _)) hn
  have c0 := hk.c0
  have c1 := hk.c1
  have HF := Lib.hid hf
  clear hf hT hk
  go_enter Tryz.func6, Tryz.ntmps6
  go_wp2_with fail
  refine HF.out.mono ?_
  rintro e' w1 ⟨rfl, hx1⟩
  go_wp2_with fail
  go_ret
  exact ⟨rfl, (Ext.alloc _ _).tr hx1⟩

set_option maxRecDepth 100000 in
set_option maxHeartbeats 2000000 in
theorem rtvalid_c (s : ByteArray) (A : Option Addr) (c : Nat) (ss : List ByteArray) (a e : Int) (key : Nat → Nat) (S : Nat → TypeId → Prop) (w : World) (h : SR w S A ss) (hs : s.size ≤ 9223372036854775807) (hz : ∀ t ∈ ss, t.size ≤ 9223372036854775807) (hn : ss.length ≤ 9223372036854775807) :
    Calls Tryz.prog 8 #[.agg (tkc s A ss.length c a e key)] w fun e' w' => e' = .returned (.bool (tkvI s ss a e)) ∧ Ext w w' := by
  have hk := TkAt.of (new_of w (.cells (tkc s A ss.length c a e key) 28))
  obtain ⟨T, hT⟩ : ∃ T, T = tkc s A ss.length c a e key := ⟨_, rfl⟩
  rw [← hT] at hk ⊢
  have hf := rvalid_c s A c ss S (w.alloc (.cells T 28)) (h.ext (Ext.alloc _ _)) hs hz hn
  unfold tkvI
  obtain ⟨v, hv⟩ : ∃ v, v = vl (bl s) (bls ss) := ⟨_, rfl⟩
  rw [← hv] at hf ⊢
  have c0 := hk.c0
  have c1 := hk.c1
  have HF := Lib.hid hf
  have HK := Lib.hid hk
  clear hf hT hk hv
  go_enter Tryz.func8, Tryz.ntmps8
  go_wp2_with fail
  refine HF.out.mono ?_
  rintro e' w1 ⟨rfl, hx1⟩
  have hk1 := HK.out.ext hx1
  have d2 := hk1.c2
  have d3 := hk1.c3
  have HX := Lib.hid ((Ext.alloc _ _).tr hx1)
  clear hx1 hk1 c0 c1
  cases v with
  | false =>
    go_wp2_with fail
    go_ret
    exact ⟨rfl, HX.out⟩
  | true =>
    by_cases h1 : 0 ≤ a
    · by_cases h2 : a ≤ e
      · by_cases h3 : e ≤ 1099511627776
        · have t1 := decide_eq_true h1
          have t2 := decide_eq_true h2
          have t3 := decide_eq_true h3
          go_wp2_with fail
          go_ret
          exact ⟨by simp [h1, h2, h3], HX.out⟩
        · have t1 := decide_eq_true h1
          have t2 := decide_eq_true h2
          have t3 := decide_eq_false h3
          go_wp2_with fail
          go_ret
          exact ⟨by simp [h1, h2, h3], HX.out⟩
      · have t1 := decide_eq_true h1
        have t2 := decide_eq_false h2
        go_wp2_with fail
        go_ret
        exact ⟨by simp [h1]; omega, HX.out⟩
    · have t1 := decide_eq_false h1
      go_wp2_with fail
      go_ret
      exact ⟨by simp; omega, HX.out⟩
end Go.Proofs.YtagegigffohcbaaGreatDoor

namespace Go.Proofs.YtagegigffohcbaaGreatDoor
open Go.RowKit

theorem nmk_sound {k : Nat} (hk : k ≤ 8) {l : List UInt8} {bad : Bool} (h : (nm k l bad).bad = false) : bad = false ∧ l = nb k (nm k l bad).num ++ (nm k l bad).left := by
  unfold nm at h ⊢
  split
  · rename_i hc
    rw [if_pos hc] at h
    cases h
  · rename_i hc
    simp only [not_or, Classical.not_not, Bool.not_eq_true] at hc
    obtain ⟨h1, _, h3⟩ := hc
    refine ⟨h1, ?_⟩
    have e1 : ((k : Int).toNat) = k := by omega
    rw [e1]
    simp only
    rw [nb_be k (l.take k) (by rw [List.length_take]; omega), List.take_append_drop]
theorem nmk_nb {k x : Nat} (h1 : 1 ≤ k) (hk : k ≤ 8) (hx : x < 256 ^ k) (z : List UInt8) : nm k (nb k x ++ z) false = ⟨[], x, z, false⟩ := by
  have hl := nb_length k x
  unfold nm
  rw [if_neg (by rw [List.length_append]; simp; omega)]
  have e1 : ((k : Int).toNat) = k := by omega
  rw [e1, List.take_left' hl, List.drop_left' hl, be_nb k x hx]
theorem tk_sound {n : Nat} {l : List UInt8} {bad : Bool} (h : (tk n l bad).bad = false) : bad = false ∧ l = (tk n l bad).got ++ (tk n l bad).left ∧ (tk n l bad).got.length = n := by
  unfold tk at h ⊢
  split
  · rename_i hc
    rw [if_pos hc] at h
    cases h
  · rename_i hc
    simp only [not_or, Bool.not_eq_true] at hc
    obtain ⟨h1, _, h3⟩ := hc
    have e1 : ((n : Int).toNat) = n := by omega
    rw [e1]
    exact ⟨h1, (List.take_append_drop _ _).symm, by simp only [List.length_take]; omega⟩
theorem tk_all {n : Nat} {l : List UInt8} (h : l.length = n) : tk n l false = ⟨l, 0, [], false⟩ := by
  unfold tk
  rw [if_neg (by simp; omega)]
  have e1 : ((n : Int).toNat) = n := by omega
  rw [e1, List.take_of_length_le (by omega), List.drop_of_length_le (by omega)]

/-- the first byte; the first time; the last; the key, with the reader behind them -/
def tk0 (l : List UInt8) : Tk := nm 1 l false
def tks (l : List UInt8) : Tk := nm 8 (rp (tk0 l).left (tk0 l).bad).2.1 (rp (tk0 l).left (tk0 l).bad).2.2
def tke (l : List UInt8) : Tk := nm 8 (tks l).left (tks l).bad
def tkk (l : List UInt8) : Tk := tk 16 (tke l).left (tke l).bad
/-- the ticket that the package reads -/
def tkp (l : List UInt8) : Option (List UInt8 × List (List UInt8) × Nat × Nat × List UInt8) :=
  match rnm (tk0 l).left (tk0 l).bad with
  | none => none
  | some (r, ps) => if (tk0 l).num = 1 ∧ (tkk l).bad = false ∧ (tkk l).left = [] ∧ (tks l).num ≤ (tke l).num ∧ (tke l).num ≤ 1099511627776 then some (r, ps, (tks l).num, (tke l).num, (tkk l).got) else none
theorem tkp_sound {l r key : List UInt8} {ps : List (List UInt8)} {a e : Nat} (h : tkp l = some (r, ps, a, e, key)) : tkv r ps a e = true ∧ key.length = 16 ∧ l = tkb r ps a e key := by
  unfold tkp at h
  split at h
  · cases h
  · rename_i r' ps' hr
    split at h
    · rename_i hc
      obtain ⟨h1, h2, h3, h4, h5⟩ := hc
      simp only [Option.some.injEq, Prod.mk.injEq] at h
      obtain ⟨rfl, rfl, rfl, rfl, rfl⟩ := h
      obtain ⟨b1, l1, k1⟩ := tk_sound (n := 16) (l := (tke l).left) (bad := (tke l).bad) h2
      obtain ⟨b2, l2⟩ := nmk_sound (k := 8) (by omega) (l := (tks l).left) (bad := (tks l).bad) b1
      obtain ⟨b3, l3⟩ := nmk_sound (k := 8) (by omega) (l := (rp (tk0 l).left (tk0 l).bad).2.1) (bad := (rp (tk0 l).left (tk0 l).bad).2.2) b2
      obtain ⟨b4, hv, l4, _⟩ := rnm_sound hr
      obtain ⟨_, l5⟩ := nmk_sound (k := 1) (by omega) (l := l) (bad := false) b4
      refine ⟨by simp only [tkv, Bool.and_eq_true, decide_eq_true_eq]; exact ⟨⟨hv, h4⟩, h5⟩, k1, ?_⟩
      have e1 : (tke l).left = (tkk l).got := by
        have h3' : (tk (16 : Nat) (tke l).left (tke l).bad).left = [] := h3
        rw [h3', List.append_nil] at l1
        exact l1
      have e2 : (tks l).left = nb 8 (tke l).num ++ (tkk l).got := by rw [← e1]; exact l2
      have e3 : (rp (tk0 l).left (tk0 l).bad).2.1 = nb 8 (tks l).num ++ (nb 8 (tke l).num ++ (tkk l).got) := by rw [← e2]; exact l3
      unfold tkb
      rw [← e3, ← l4]
      conv => lhs; rw [l5]
      rw [show (nm (1 : Nat) l false).num = 1 from h1]
      rfl
    · cases h
theorem tkp_full {r key : List UInt8} {ps : List (List UInt8)} {a e : Nat} (h : tkv r ps a e = true) (hk : key.length = 16) : tkp (tkb r ps a e key) = some (r, ps, a, e, key) := by
  obtain ⟨hv, h1, h2⟩ := tkv_parts h
  have h0 : tk0 (tkb r ps a e key) = ⟨[], 1, nbs r ps ++ (nb 8 a ++ (nb 8 e ++ key)), false⟩ := nmk_nb (k := 1) (x := 1) (by omega) (by omega) (by omega) _
  obtain ⟨r1, r2⟩ := rnm_nbs hv (nb 8 a ++ (nb 8 e ++ key))
  have hs : tks (tkb r ps a e key) = ⟨[], a, nb 8 e ++ key, false⟩ := by
    unfold tks
    rw [h0]
    simp only
    rw [r2]
    exact nmk_nb (k := 8) (by omega) (by omega) (by omega) _
  have he : tke (tkb r ps a e key) = ⟨[], e, key, false⟩ := by
    unfold tke
    rw [hs]
    exact nmk_nb (k := 8) (by omega) (by omega) (by omega) _
  have hkk : tkk (tkb r ps a e key) = ⟨key, 0, [], false⟩ := by
    unfold tkk
    rw [he]
    exact tk_all hk
  unfold tkp
  rw [h0, hs, he, hkk]
  simp only
  rw [r1]
  simp only
  rw [if_pos (by simp [h1, h2])]
theorem tkp_tkr (l : List UInt8) : tkp l = tkr l := by
  cases hp : tkp l with
  | some x =>
    obtain ⟨r, ps, a, e, key⟩ := x
    obtain ⟨h1, h2, h3⟩ := tkp_sound hp
    rw [h3, tkr_full h1 h2]
  | none =>
    cases hr : tkr l with
    | none => rfl
    | some x =>
      obtain ⟨r, ps, a, e, key⟩ := x
      obtain ⟨h1, h2, h3⟩ := tkr_sound hr
      rw [h3, tkp_full h1 h2] at hp
      cases hp
/-- the times as whole numbers of 64 bits -/
theorem tkvI_wrap (s : ByteArray) (ss : List ByteArray) (a e : Nat) (ha : a < 18446744073709551616) (he : e < 18446744073709551616) : tkvI s ss (IntKind.i64.wrap (a : Int)) (IntKind.i64.wrap (e : Int)) = tkv (bl s) (bls ss) a e := by
  have w : ∀ x : Nat, x < 18446744073709551616 → IntKind.i64.wrap (x : Int) = if x < 9223372036854775808 then (x : Int) else (x : Int) - 18446744073709551616 := by
    intro x hx
    by_cases h : x < 9223372036854775808
    · rw [if_pos h]
      exact IntWalk.i64_in _ (by omega)
    · rw [if_neg h]
      simp [IntKind.wrap, IntKind.signed, IntKind.bits]
      omega
  rw [w a ha, w e he]
  unfold tkvI tkv
  rw [Bool.and_assoc]
  congr 1
  rw [Bool.eq_iff_iff]
  simp only [Bool.and_eq_true, decide_eq_true_eq]
  split <;> split <;> omega
theorem tkvI_nat (s : ByteArray) (ss : List ByteArray) (a e : Nat) : tkvI s ss (a : Int) (e : Int) = tkv (bl s) (bls ss) a e := by
  unfold tkvI tkv
  rw [Bool.and_assoc]
  congr 1
  rw [Bool.eq_iff_iff]
  simp only [Bool.and_eq_true, decide_eq_true_eq]
  omega
theorem tkb_len (r : List UInt8) (ps : List (List UInt8)) (a e : Nat) (key : List UInt8) : (tkb r ps a e key).length = (nbs r ps).length + 17 + key.length := by
  simp only [tkb, List.length_cons, List.length_append, nb_length]
  omega
theorem vl_nil (r : List UInt8) : vl r [] = false := rfl
/-- what the package reads, decided -/
theorem tkp_dec {l : List UInt8} {f s q k : Tk} {o : Option (List UInt8 × List (List UInt8))} {p : List (List UInt8) × List UInt8 × Bool} (hf : f = tk0 l) (ho : o = rnm f.left f.bad) (hp : p = rp f.left f.bad) (hs : s = nm 8 p.2.1 p.2.2) (hq : q = nm 8 s.left s.bad) (hk : k = tk 16 q.left q.bad) :
    tkp l = if f.num = 1 ∧ (!k.bad && k.left.isEmpty) = true ∧ tkv (o.getD ([], [])).1 (o.getD ([], [])).2 s.num q.num = true then some ((o.getD ([], [])).1, (o.getD ([], [])).2, s.num, q.num, k.got) else none := by
  have e1 : s = tks l := by rw [hs, hp, hf]; rfl
  have e2 : q = tke l := by rw [hq, e1]; rfl
  have e3 : k = tkk l := by rw [hk, e2]; rfl
  unfold tkp
  rw [← hf, ← ho, ← e1, ← e2, ← e3]
  cases o with
  | none =>
    simp only [Option.getD_none]
    rw [if_neg]
    intro h
    have h3 := h.2.2
    simp only [tkv, vl_nil, Bool.false_and] at h3
    cases h3
  | some x =>
    obtain ⟨r, ps⟩ := x
    have hv : vl r ps = true := (rnm_sound ho.symm).2.1
    simp only [Option.getD_some, tkv, hv, Bool.true_and, Bool.and_eq_true, decide_eq_true_eq, Bool.not_eq_true', List.isEmpty_iff]
    by_cases hc : f.num = 1 ∧ k.bad = false ∧ k.left = [] ∧ s.num ≤ q.num ∧ q.num ≤ 1099511627776
    · rw [if_pos hc, if_pos ⟨hc.1, ⟨hc.2.1, hc.2.2.1⟩, hc.2.2.2⟩]
    · rw [if_neg hc, if_neg (fun h => hc ⟨h.1, h.2.1.1, h.2.1.2, h.2.2⟩)]
theorem nm8_num {m : List UInt8} (h : 8 ≤ m.length) : (nm 8 m false).num = be (m.take 8) := by
  unfold nm
  rw [if_neg (by simp; omega)]
  rfl
/-- the reference's reading of a ticket, step by step -/
theorem tkr_long {l : List UInt8} (h : 33 ≤ l.length) (h0 : l[0]? = some 1) {m : List UInt8} (hm : m = (l.take (l.length - 32)).drop 1) {s q : Nat} (hs : s = (nm 8 (l.drop (l.length - 32)) false).num) (hq : q = (nm 8 (l.drop (l.length - 24)) false).num) :
    tkr l = match rrnm m false with
      | none => none
      | some (r, ps) => if 0 < (rq m false).2.1.length then none else if q < s ∨ 1099511627776 < q then none else some (r, ps, s, q, l.drop (l.length - 16)) := by
  obtain ⟨e1, e2⟩ := rnm_rrnm m false
  rw [nm8_num (by rw [List.length_drop]; omega)] at hs hq
  unfold tkr
  rw [if_neg (by rw [h0]; simp; omega), ← hm, ← hs, ← hq, e1]
  cases hr : rnm m false with
  | none => rfl
  | some x =>
    simp only
    rw [e2 (by rw [hr]; rfl)]
end Go.Proofs.YtagegigffohcbaaGreatDoor

namespace Go.Proofs.YtagegigffohcbaaGreatDoor
open Go.RowKit
set_option linter.unusedVariables false
set_option linter.unusedSimpArgs false

theorem size_tk : (Tryz.prog.info? 28).map (·.size) = some 20 := by kernel_rfl
/-- the key lies behind the four cells -/
theorem tkc_key {w : World} {g : Nat} {s : ByteArray} {A : Option Addr} {n c : Nat} {a e : Int} {key : Nat → Nat} {t : TypeId} {fr : Nat × Nat} (h : w.heap[g]? = some (.cells (tkc s A n c a e key) t fr)) : w.rangeAt g 4 (tabV .u8 16 key).toList := by
  intro j v hj
  rw [Array.getElem?_toList] at hj
  rw [cells_of h]
  unfold tkc
  rw [Array.getElem?_append_right (by simp), show 4 + j - (#[Value.string s, .slice A n c, .int .i64 a, .int .i64 e]).size = j by simp]
  exact hj
theorem wpList_load_rng' {P : Program} {w : World} {ops : Array Oper} {rest : List Oper} {o : Oper} {a : Act} {Q : Exit → Act → World → Prop} (hw : Region.wanted o (yielded ops a.tmps) = true) (ty : TypeId) (x : Operand) (ho : o.op = .load ty x)
    (g off : Nat) (hx : a.eval x = .pointer (some ⟨g, off, none⟩)) (k : IntKind) (n : Nat) (f : Nat → Nat) (e : TypeId) (hr : w.rangeAt g off (tabV k n f).toList) (hu : P.underlying ty = some (.array n e)) (hz : (P.info? ty).map (·.size) = some n)
    (h : wpList P ops Q rest (a.put o.dst (.agg (tabV k n f))) w) : wpList P ops Q (o :: rest) a w := by
  unfold wpList
  rw [if_pos hw]
  refine .inl (wp_load_mid ty x ho g off hx (tabV k n f).toList _ hr hu rfl (by rw [Array.length_toList, tabV_size]; exact hz) ?_)
  rw [Array.toArray_toList]
  exact h
theorem wpList_eql_dec' {P : Program} {w : World} {ops : Array Oper} {rest : List Oper} {o : Oper} {a : Act} {Q : Exit → Act → World → Prop} (hw : Region.wanted o (yielded ops a.tmps) = true) (t yt : TypeId) (x y : Operand) (ho : o.op = .binOp .eql t x y yt) (k : IntKind) (n : Nat) (f f' : Nat → Nat) (hx : a.eval x = .agg (tabV k n f)) (hy : a.eval y = .agg (tabV k n f'))
    (e : TypeId) (hu : P.underlying t = some (.array n e)) (he : P.underlying e = some (.int k)) (hs : (P.info? e).map (·.size) = some 1) (hc : P.cellsOf e = 1) (hm : P.eqGuardType P.depth t = false)
    (h : wpList P ops Q rest (a.put o.dst (.bool (eqb n f f'))) w) : wpList P ops Q (o :: rest) a w := by
  unfold wpList
  rw [if_pos hw]
  exact .inl (wp_eql_dec t yt x y ho k n f f' hx hy e hu he hs hc hm h)
/-- two tickets are the same -/
def tsm (s : ByteArray) (ss : List ByteArray) (a e : Int) (key : Nat → Nat) (s' : ByteArray) (ss' : List ByteArray) (a' e' : Int) (key' : Nat → Nat) : Bool := sm s ss s' ss' && (decide (a = a') && (decide (e = e') && eqb 16 key key'))

set_option maxRecDepth 100000 in
set_option maxHeartbeats 2000000 in
theorem tvalid_c (s : ByteArray) (A : Option Addr) (c : Nat) (ss : List ByteArray) (a e : Int) (key : Nat → Nat) (S : Nat → TypeId → Prop) (w : World) (h : SR w S A ss) (hs : s.size ≤ 9223372036854775807) (hz : ∀ t ∈ ss, t.size ≤ 9223372036854775807) (hn : ss.length ≤ 9223372036854775807) :
    Calls Tryz.prog 19 #[.agg (tkc s A ss.length c a e key)] w fun e' w' => e' = .returned (.bool (tkvI s ss a e)) ∧ Ext w w' := by
  have hk := TkAt.of (new_of w (.cells (tkc s A ss.length c a e key) 28))
  obtain ⟨T, hT⟩ : ∃ T, T = tkc s A ss.length c a e key := ⟨_, rfl⟩
  rw [← hT] at hk ⊢
  have hf := valid_c s A c ss S (w.alloc (.cells T 28)) (h.ext (Ext.alloc _ _)) hs hz hn
  unfold tkvI
  obtain ⟨v, hv⟩ : ∃ v, v = vl (bl s) (bls ss) := ⟨_, rfl⟩
  rw [← hv] at hf ⊢
  have c0 := hk.c0
  have c1 := hk.c1
  have d2 := hk.c2
  have d3 := hk.c3
  have HF := Lib.hid hf
  have HX := Lib.hid (Ext.alloc w (.cells T 28))
  clear hf hT hk hv
  by_cases h1 : 0 ≤ a
  · have t1 := decide_eq_true h1
    by_cases h2 : a ≤ e
    · have t2 := decide_eq_true h2
      by_cases h3 : e ≤ 1099511627776
      · have t3 := decide_eq_true h3
        go_enter Tryz.func19, Tryz.ntmps19
        go_wp2_with fail
        refine HF.out.mono ?_
        rintro e' w1 ⟨rfl, hx1⟩
        go_wp2_with fail
        go_ret
        exact ⟨by simp [h1, h2, h3], HX.out.tr hx1⟩
      · have t3 := decide_eq_false h3
        go_enter Tryz.func19, Tryz.ntmps19
        go_wp2_with fail
        go_ret
        exact ⟨by simp [h3], HX.out⟩
    · have t2 := decide_eq_false h2
      go_enter Tryz.func19, Tryz.ntmps19
      go_wp2_with fail
      go_ret
      exact ⟨by simp [h2], HX.out⟩
  · have t1 := decide_eq_false h1
    go_enter Tryz.func19, Tryz.ntmps19
    go_wp2_with fail
    go_ret
    exact ⟨by simp [h1], HX.out⟩

set_option maxRecDepth 100000 in
set_option maxHeartbeats 4000000 in
theorem tsame_c (s s' : ByteArray) (A A' : Option Addr) (c c' : Nat) (ss ss' : List ByteArray) (a e a' e' : Int) (key key' : Nat → Nat) (S S' : Nat → TypeId → Prop) (w : World) (h : SR w S A ss) (h' : SR w S' A' ss') (hn : ss.length ≤ 9223372036854775807) (hn' : ss'.length ≤ 9223372036854775807) :
    Calls Tryz.prog 18 #[.agg (tkc s A ss.length c a e key), .agg (tkc s' A' ss'.length c' a' e' key')] w fun x w' => x = .returned (.bool (tsm s ss a e key s' ss' a' e' key')) ∧ Ext w w' := by
  obtain ⟨n1, n2⟩ := two_new w (.cells (tkc s A ss.length c a e key) 28) (.cells (tkc s' A' ss'.length c' a' e' key') 28)
  have hk := TkAt.of n1
  have hk' := TkAt.of n2
  have hx := (Ext.alloc w (.cells (tkc s A ss.length c a e key) 28)).tr (Ext.alloc _ (.cells (tkc s' A' ss'.length c' a' e' key') 28))
  have HR := Lib.hid (fun (W : World) (hx : Ext ((w.alloc (.cells (tkc s A ss.length c a e key) 28)).alloc (.cells (tkc s' A' ss'.length c' a' e' key') 28)) W) => tkc_key (hx.get n1))
  have HR' := Lib.hid (fun (W : World) (hx : Ext ((w.alloc (.cells (tkc s A ss.length c a e key) 28)).alloc (.cells (tkc s' A' ss'.length c' a' e' key') 28)) W) => tkc_key (hx.get n2))
  have hf := nsame_c s s' A A' c c' ss ss' S S' _ (h.ext hx) (h'.ext hx) hn hn'
  clear n1 n2
  obtain ⟨T, hT⟩ : ∃ T, T = tkc s A ss.length c a e key := ⟨_, rfl⟩
  obtain ⟨U, hU⟩ : ∃ U, U = tkc s' A' ss'.length c' a' e' key' := ⟨_, rfl⟩
  rw [← hT, ← hU] at hk hk' hf HR HR' hx ⊢
  unfold tsm
  obtain ⟨v, hv⟩ : ∃ v, v = sm s ss s' ss' := ⟨_, rfl⟩
  rw [← hv] at hf ⊢
  have c0 := hk.c0
  have c1 := hk.c1
  have d0 := hk'.c0
  have d1 := hk'.c1
  have HF := Lib.hid hf
  have HK := Lib.hid hk
  have HK' := Lib.hid hk'
  have HX := Lib.hid hx
  clear hf hT hU hk hk' hv hx
  go_enter Tryz.func18, Tryz.ntmps18
  go_wp2_with fail
  refine HF.out.mono ?_
  rintro x w1 ⟨rfl, hx1⟩
  have hk1 := HK.out.ext hx1
  have hk1' := HK'.out.ext hx1
  have a2 := hk1.c2
  have a3 := hk1.c3
  have b2 := hk1'.c2
  have b3 := hk1'.c3
  have HX1 := Lib.hid (HX.out.tr hx1)
  have R1 := Lib.hid (HR.out w1 hx1)
  have R1' := Lib.hid (HR'.out w1 hx1)
  clear hx1 hk1 hk1' c0 c1 d0 d1
  cases v with
  | false =>
    go_wp2_with fail
    go_ret
    exact ⟨rfl, HX1.out⟩
  | true =>
    by_cases h1 : a = a'
    · have t1 := beq_t h1
      by_cases h2 : e = e'
      · have t2 := beq_t h2
        go_wp2_with (first
          | refine wpList_load_rng' rfl 22 (.tmp 25) rfl w.heap.size 4 rfl .u8 16 key _ R1.out Tryz.underlying22 size_bk ?_
          | refine wpList_load_rng' rfl 22 (.tmp 27) rfl (w.heap.size + 1) 4 rfl .u8 16 key' _ R1'.out Tryz.underlying22 size_bk ?_
          | refine wpList_eql_dec' rfl 22 22 (.tmp 26) (.tmp 28) rfl .u8 16 key key' rfl rfl 5 Tryz.underlying22 Tryz.underlying5 size_u8 cells_u8 noGuard_bk ?_)
        go_ret
        exact ⟨by rw [decide_eq_true h1, decide_eq_true h2]; rfl, HX1.out⟩
      · have t2 := beq_f h2
        go_wp2_with fail
        go_ret
        exact ⟨by rw [decide_eq_true h1, decide_eq_false h2]; rfl, HX1.out⟩
    · have t1 := beq_f h1
      go_wp2_with fail
      go_ret
      exact ⟨by rw [decide_eq_false h1]; rfl, HX1.out⟩

set_option maxRecDepth 100000 in
set_option maxHeartbeats 4000000 in
theorem rtsame_c (s s' : ByteArray) (A A' : Option Addr) (c c' : Nat) (ss ss' : List ByteArray) (a e a' e' : Int) (key key' : Nat → Nat) (S S' : Nat → TypeId → Prop) (w : World) (h : SR w S A ss) (h' : SR w S' A' ss') (hn : ss.length ≤ 9223372036854775807) (hn' : ss'.length ≤ 9223372036854775807) :
    Calls Tryz.prog 13 #[.agg (tkc s A ss.length c a e key), .agg (tkc s' A' ss'.length c' a' e' key')] w fun x w' => x = .returned (.bool (tsm s ss a e key s' ss' a' e' key')) ∧ Ext w w' := by
  obtain ⟨n1, n2⟩ := two_new w (.cells (tkc s A ss.length c a e key) 28) (.cells (tkc s' A' ss'.length c' a' e' key') 28)
  have hk := TkAt.of n1
  have hk' := TkAt.of n2
  have hx := (Ext.alloc w (.cells (tkc s A ss.length c a e key) 28)).tr (Ext.alloc _ (.cells (tkc s' A' ss'.length c' a' e' key') 28))
  have HR := Lib.hid (fun (W : World) (hx : Ext ((w.alloc (.cells (tkc s A ss.length c a e key) 28)).alloc (.cells (tkc s' A' ss'.length c' a' e' key') 28)) W) => tkc_key (hx.get n1))
  have HR' := Lib.hid (fun (W : World) (hx : Ext ((w.alloc (.cells (tkc s A ss.length c a e key) 28)).alloc (.cells (tkc s' A' ss'.length c' a' e' key') 28)) W) => tkc_key (hx.get n2))
  have hf := rnsame_c s s' A A' c c' ss ss' S S' _ (h.ext hx) (h'.ext hx) hn hn'
  clear n1 n2
  obtain ⟨T, hT⟩ : ∃ T, T = tkc s A ss.length c a e key := ⟨_, rfl⟩
  obtain ⟨U, hU⟩ : ∃ U, U = tkc s' A' ss'.length c' a' e' key' := ⟨_, rfl⟩
  rw [← hT, ← hU] at hk hk' hf HR HR' hx ⊢
  unfold tsm
  obtain ⟨v, hv⟩ : ∃ v, v = sm s ss s' ss' := ⟨_, rfl⟩
  rw [← hv] at hf ⊢
  have c0 := hk.c0
  have c1 := hk.c1
  have d0 := hk'.c0
  have d1 := hk'.c1
  have HF := Lib.hid hf
  have HK := Lib.hid hk
  have HK' := Lib.hid hk'
  have HX := Lib.hid hx
  clear hf hT hU hk hk' hv hx
  go_enter Tryz.func13, Tryz.ntmps13
  go_wp2_with fail
  refine HF.out.mono ?_
  rintro x w1 ⟨rfl, hx1⟩
  have hk1 := HK.out.ext hx1
  have hk1' := HK'.out.ext hx1
  have a2 := hk1.c2
  have a3 := hk1.c3
  have b2 := hk1'.c2
  have b3 := hk1'.c3
  have HX1 := Lib.hid (HX.out.tr hx1)
  have R1 := Lib.hid (HR.out w1 hx1)
  have R1' := Lib.hid (HR'.out w1 hx1)
  clear hx1 hk1 hk1' c0 c1 d0 d1
  cases v with
  | false =>
    go_wp2_with fail
    go_ret
    exact ⟨rfl, HX1.out⟩
  | true =>
    by_cases h1 : a = a'
    · have t1 := beq_t h1
      by_cases h2 : e = e'
      · have t2 := beq_t h2
        go_wp2_with (first
          | refine wpList_load_rng' rfl 22 (.tmp 25) rfl w.heap.size 4 rfl .u8 16 key _ R1.out Tryz.underlying22 size_bk ?_
          | refine wpList_load_rng' rfl 22 (.tmp 27) rfl (w.heap.size + 1) 4 rfl .u8 16 key' _ R1'.out Tryz.underlying22 size_bk ?_
          | refine wpList_eql_dec' rfl 22 22 (.tmp 26) (.tmp 28) rfl .u8 16 key key' rfl rfl 5 Tryz.underlying22 Tryz.underlying5 size_u8 cells_u8 noGuard_bk ?_)
        go_ret
        exact ⟨by rw [decide_eq_true h1, decide_eq_true h2]; rfl, HX1.out⟩
      · have t2 := beq_f h2
        go_wp2_with fail
        go_ret
        exact ⟨by rw [decide_eq_true h1, decide_eq_false h2]; rfl, HX1.out⟩
    · have t1 := beq_f h1
      go_wp2_with fail
      go_ret
      exact ⟨by rw [decide_eq_false h1]; rfl, HX1.out⟩
end Go.Proofs.YtagegigffohcbaaGreatDoor

namespace Go.Proofs.YtagegigffohcbaaGreatDoor
open Go.RowKit
set_option linter.unusedVariables false

/-- what a slot holds -/
inductive Sl where
  | any
  | val (x : Value)
  | byo (l : List UInt8)
  | rows (ls : List (List UInt8))
def Sl.holds : Sl → Value → World → Prop
  | .any, _, _ => True
  | .val x, v, _ => v = x
  | .byo l, v, W => ∃ A c, v = .slice A l.length c ∧ RB W (fun _ _ => True) A l ∧ l.length ≤ c ∧ c ≤ 9223372036854775807
  | .rows ls, v, W => ∃ A c, v = .slice A ls.length c ∧ RBs W (fun _ _ => True) (fun _ _ => True) A ls
def Sl.at_ (sp : List Sl) (d : Nat) (v : Value) (W : World) : Prop := (sp.getD d .any).holds v W
theorem Sl.mono (sp : List Sl) : ∀ d v W W', Sl.at_ sp d v W → Ext W W' → Sl.at_ sp d v W' := by
  intro d v W W' h hx
  unfold Sl.at_ at *
  generalize sp.getD d .any = x at *
  cases x with
  | any => trivial
  | val x => exact h
  | byo l =>
    obtain ⟨A, c, h1, h2, h3⟩ := h
    exact ⟨A, c, h1, h2.ext hx, h3⟩
  | rows ls =>
    obtain ⟨A, c, h1, h2⟩ := h
    exact ⟨A, c, h1, h2.ext hx⟩
theorem wants {ops : Array Oper} {o : Oper} {tmps : Array Value} {j d : Nat} {b : Bool} (hg : o.guard = some (j, b)) (hd : dstOf ops j = some d) (hv : tmps.getD d undef = .bool b) : Region.wanted o (yielded ops tmps) = true := by
  have hy : yielded ops tmps j = some b := by
    unfold yielded
    unfold dstOf at hd
    rw [hd]
    have : tmps[d]? = some (.bool b) := by
      rw [Array.getD_eq_getD_getElem?] at hv
      cases h : tmps[d]? with
      | none => rw [h] at hv; cases hv
      | some v => rw [h] at hv; rw [← hv]; rfl
    simp [this]
  unfold Region.wanted
  rw [hg]
  simp [hy]
theorem wants_not {ops : Array Oper} {o : Oper} {tmps : Array Value} {j d : Nat} {b b' : Bool} (hg : o.guard = some (j, b)) (hd : dstOf ops j = some d) (hv : tmps.getD d undef = .bool b') (hne : b' ≠ b) : Region.wanted o (yielded ops tmps) = false := by
  have hy : yielded ops tmps j = some b' := by
    unfold yielded
    unfold dstOf at hd
    rw [hd]
    have : tmps[d]? = some (.bool b') := by
      rw [Array.getD_eq_getD_getElem?] at hv
      cases h : tmps[d]? with
      | none => rw [h] at hv; cases hv
      | some v => rw [h] at hv; rw [← hv]; rfl
    simp [this]
  unfold Region.wanted
  rw [hg]
  simp [hy, hne]
theorem wants_undef {ops : Array Oper} {o : Oper} {tmps : Array Value} {j d : Nat} {b : Bool} (hg : o.guard = some (j, b)) (hd : dstOf ops j = some d) (hv : tmps.getD d undef = undef) : Region.wanted o (yielded ops tmps) = false := by
  have hy : yielded ops tmps j = none := by
    unfold yielded
    unfold dstOf at hd
    rw [hd]
    rw [Array.getD_eq_getD_getElem?] at hv
    cases h : tmps[d]? with
    | none => simp [h]
    | some v =>
      rw [h] at hv
      change v = undef at hv
      subst hv
      simp [h]
      rfl
  unfold Region.wanted
  rw [hg]
  simp [hy]
theorem eval_of {a : Act} {d : Nat} {v : Value} (h : a.tmps.getD d undef = v) : a.eval (.tmp d) = v := h
theorem slot_of {a : Act} {d : Nat} {v : Value} (h : a.tmps.getD d undef = v) : a.tmps[d]?.getD undef = v := by rw [← h, Array.getD_eq_getD_getElem?]
theorem cell_of {a : Act} {d : Nat} {v : Value} (h : a.tmps.getD d undef = v) : ∀ hd : d < a.tmps.size, a.tmps[d] = v := fun hd => by rw [← h, Array.getD_eq_getD_getElem?, Array.getElem?_eq_getElem hd]; rfl
theorem rbs_five {w : World} {g : Nat} {T : Nat → TypeId → Prop} {A1 A2 A3 A4 A5 : Option Addr} {c1 c2 c3 c4 c5 n : Nat} {l1 l2 l3 l4 l5 : List UInt8} {t : TypeId} {fr : Nat × Nat} (hg : w.heap[g]? = some (.cells #[.slice A1 l1.length c1, .slice A2 l2.length c2, .slice A3 l3.length c3, .slice A4 l4.length c4, .slice A5 n c5] t fr))
    (hn : l5.length = n) (h1 : RB w T A1 l1) (h2 : RB w T A2 l2) (h3 : RB w T A3 l3) (h4 : RB w T A4 l4) (h5 : RB w T A5 l5) : RBs w (fun _ _ => True) T (some ⟨g, 0, none⟩) [l1, l2, l3, l4, l5] := by
  intro _
  refine ⟨g, 0, _, _, _, rfl, hg, trivial, fun j l hj => ?_⟩
  match j, hj with
  | 0, hj => simp at hj; subst hj; exact ⟨A1, c1, rfl, h1⟩
  | 1, hj => simp at hj; subst hj; exact ⟨A2, c2, rfl, h2⟩
  | 2, hj => simp at hj; subst hj; exact ⟨A3, c3, rfl, h3⟩
  | 3, hj => simp at hj; subst hj; exact ⟨A4, c4, rfl, h4⟩
  | 4, hj => simp at hj; subst hj; exact ⟨A5, c5, by rw [hn]; rfl, h5⟩
/-- a ticket's key, as bytes where it lies -/
theorem tkc_rb {w : World} {g : Nat} {s : ByteArray} {A : Option Addr} {n c : Nat} {a e : Int} {key : Nat → Nat} {t : TypeId} {fr : Nat × Nat} (h : w.heap[g]? = some (.cells (tkc s A n c a e key) t fr)) (hk : Byt key) : RB w (fun g' t' => g' = g ∧ t' = t) (some ⟨g, 4, none⟩) (btl 16 key) := by
  have hr := tkc_key h
  obtain ⟨T, hT⟩ : ∃ T, T = tkc s A n c a e key := ⟨_, rfl⟩
  rw [← hT] at h
  clear hT
  intro _
  refine ⟨g, 4, T, t, fr, rfl, h, ⟨rfl, rfl⟩, fun j b hj => ?_⟩
  have hj' : j < 16 := by have := (List.getElem?_eq_some_iff.1 hj).1; rw [btl_len] at this; exact this
  have hb := byt_some hj
  rw [btl_byt hk hj'] at hb
  have hq := hr j (.int .u8 (key j : Nat)) (by rw [Array.getElem?_toList, tabV_get hj'])
  rw [cells_of h] at hq
  rw [hq, u8, hb]
theorem nbs_few {r : List UInt8} {ps : List (List UInt8)} (h : vl r ps = true) : (nbs r ps).length ≤ 1000 := by
  obtain ⟨h1, h2, h3, h4⟩ := vl_parts h
  have k1 := flatMap_take_len ps (fun p hp => (wd_len (h3 p hp)).2)
  have k2 := (wd_len h4).2
  unfold nbs
  rw [List.length_append, List.length_append, nb_length]
  unfold fl at k1 ⊢
  rw [List.length_append, nb_length]
  omega
/-- a ticket is valid, told in a later world -/
theorem tvalid_c0 (s : ByteArray) (A : Option Addr) (c : Nat) (ss : List ByteArray) (a e : Nat) (key : Nat → Nat) (S : Nat → TypeId → Prop) (w : World) (h : SR w S A ss) (hs : s.size ≤ 9223372036854775807) (hz : ∀ t ∈ ss, t.size ≤ 9223372036854775807) (hn : ss.length ≤ 9223372036854775807) (hv : tkv (bl s) (bls ss) a e = true) (W : World) (hx : Ext w W) :
    Calls Tryz.prog 19 #[.agg (tkc s A ss.length c a e key)] W fun e' w' => e' = .returned (.bool true) ∧ Ext W w' := by
  have h1 := tvalid_c s A c ss a e key S W (h.ext hx) hs hz hn
  rw [tkvI_nat, hv] at h1
  exact h1
end Go.Proofs.YtagegigffohcbaaGreatDoor

namespace Go.Proofs.YtagegigffohcbaaGreatDoor
open Go.RowKit

set_option maxRecDepth 100000 in
set_option maxHeartbeats 1000000 in
theorem rtnum_c (a : Nat) (ha : a ≤ 1099511627776) (w : World) :
    Calls Tryz.prog 29 #[.int .i64 a] w fun e w' => ∃ B c, e = .returned (.slice B (nb 8 a).length c) ∧ OwnB w' 5 w.heap.size B c (nb 8 a) ∧ Ext w w' := by
  have t1 : IntKind.u64.wrap (a : Int) = (a : Int) := by
    simp [IntKind.wrap, IntKind.signed, IntKind.bits]
    omega
  have hp := rput_c 8 a w ⟨by omega, by omega⟩ (by omega) (by omega)
  have HP := Lib.hid hp
  clear hp
  go_enter Tryz.func29, Tryz.ntmps29
  go_wp2_with fail
  refine HP.out.mono ?_
  rintro e w1 ⟨B, c, rfl, ho, hx⟩
  have HO := Lib.hid ho
  clear ho
  go_wp2_with fail
  go_ret
  exact ⟨B, c, rfl, HO.out, hx⟩
end Go.Proofs.YtagegigffohcbaaGreatDoor

namespace Go.Proofs.YtagegigffohcbaaGreatDoor
open Go.RowKit
set_option linter.unusedVariables false
set_option linter.unusedSimpArgs false

set_option maxRecDepth 100000 in
set_option maxHeartbeats 1000000 in
theorem tfield_c (a : Nat) (ha : a ≤ 1099511627776) (w : World) :
    Calls Tryz.prog 35 #[.int .i64 a] w fun e w' => ∃ B c, e = .returned (.slice B (nb 8 a).length c) ∧ OwnB w' 5 w.heap.size B c (nb 8 a) ∧ Ext w w' := by
  have t1 : IntKind.u64.wrap (a : Int) = (a : Int) := by
    simp [IntKind.wrap, IntKind.signed, IntKind.bits]
    omega
  have hp := put_c 8 a w ⟨by omega, by omega⟩ (by omega) (by omega)
  have HP := Lib.hid hp
  clear hp
  go_enter Tryz.func35, Tryz.ntmps35
  go_wp2_with fail
  refine HP.out.mono ?_
  rintro e w1 ⟨B, c, rfl, ho, hx⟩
  have HO := Lib.hid ho
  clear ho
  go_wp2_with fail
  go_ret
  exact ⟨B, c, rfl, HO.out, hx⟩
theorem join_five (A : Option Addr) (c : Nat) (x y z k t : List UInt8) (W : World) (h : [[1], x, y, z, k].flatten = t) (hl : t.length ≤ 140737488355328) (hr : RBs W (fun _ _ => True) (fun _ _ => True) A [[1], x, y, z, k]) :
    Calls Tryz.prog 34 #[.slice A 5 c] W fun e w' => ∃ A' c', e = .returned (.slice A' t.length c') ∧ OwnB w' 5 W.heap.size A' c' t ∧ Ext W w' := by
  have h1 := join_c A c [[1], x, y, z, k] _ _ W hr (by rw [h]; exact hl) (by show 5 ≤ 140737488355328; decide)
  rw [h] at h1
  exact h1
theorem rjoin_five (A : Option Addr) (c : Nat) (x y z k t : List UInt8) (W : World) (h : [[1], x, y, z, k].flatten = t) (hl : t.length ≤ 140737488355328) (hr : RBs W (fun _ _ => True) (fun _ _ => True) A [[1], x, y, z, k]) :
    Calls Tryz.prog 27 #[.slice A 5 c] W fun e w' => ∃ A' c', e = .returned (.slice A' t.length c') ∧ OwnB w' 5 W.heap.size A' c' t ∧ Ext W w' := by
  have e : fla [[1], x, y, z, k] = t := by rw [← h]; rfl
  have h1 := rjoin_c A c [[1], x, y, z, k] _ _ W hr (by rw [e]; exact hl) (by show 5 ≤ 140737488355328; decide)
  rw [e] at h1
  exact h1
theorem tkb_flat (x : List UInt8) (y z k : List UInt8) : [[1], x, y, z, k].flatten = 1 :: (x ++ (y ++ (z ++ k))) := by simp

/-- behind the package's region -/
def PB (w : World) (t : List UInt8) (e : Exit) (a : Act) (W : World) : Prop := e = .normal ∧ (∃ B d, a.tmps.getD 2 undef = .slice B t.length d ∧ RB W (fun _ _ => True) B t ∧ t.length ≤ d ∧ d ≤ 9223372036854775807) ∧ a.tmps.getD 3 undef = .bool true ∧ a.defers = [] ∧ Ext w W
def spPB (x y z k t : List UInt8) (s : ByteArray) (A : Option Addr) (ss : List ByteArray) (c : Nat) (a e : Nat) (g : Nat) : List Sl := [.any, .any, .byo (t), .val (.bool true), .any, .any, .any, .any, .any, .any, .any, .any, .any, .any, .any, .byo ([1]), .byo (x), .val (.pointer (some ⟨g, 2, none⟩)), .val (.int .i64 a), .byo (y), .val (.pointer (some ⟨g, 3, none⟩)), .val (.int .i64 e), .byo (z), .val (.pointer (some ⟨g, 4, none⟩)), .val (.slice (some ⟨g, 4, none⟩) 16 16), .rows ([[1], x, y, z, k]), .byo (t)]
set_option maxRecDepth 100000 in
set_option maxHeartbeats 8000000 in
theorem tbytes_c (s : ByteArray) (A : Option Addr) (c : Nat) (ss : List ByteArray) (a e : Nat) (key : Nat → Nat) (hkb : Byt key) (S : Nat → TypeId → Prop) (w : World) (h : SR w S A ss) (hs : s.size ≤ 9223372036854775807) (hz : ∀ t ∈ ss, t.size ≤ 9223372036854775807) (hn : ss.length ≤ 9223372036854775807) (hv : tkv (bl s) (bls ss) a e = true) :
    Calls Tryz.prog 16 #[.agg (tkc s A ss.length c a e key)] w fun x w' => ∃ B d, x = .returned (.tuple #[.slice B (tkb (bl s) (bls ss) a e (btl 16 key)).length d, .bool true]) ∧ RB w' (fun _ _ => True) B (tkb (bl s) (bls ss) a e (btl 16 key)) ∧ (tkb (bl s) (bls ss) a e (btl 16 key)).length ≤ d ∧ d ≤ 9223372036854775807 ∧ Ext w w' := by
  obtain ⟨hvl, hae, hem⟩ := tkv_parts hv
  have hg := new_of w (.cells (tkc s A ss.length c a e key) 28)
  have hx0 := Ext.alloc w (.cells (tkc s A ss.length c a e key) 28)
  have hk := TkAt.of hg
  have hkr := tkc_rb hg hkb
  have hsr := h.ext hx0
  have hvd := tvalid_c0 s A c ss a e key S w h hs hz hn hv
  obtain ⟨T, hT⟩ : ∃ T, T = tkc s A ss.length c a e key := ⟨_, rfl⟩
  rw [← hT] at hk hkr hx0 hsr hvd ⊢
  obtain ⟨w0, hw0⟩ : ∃ w0, w0 = w.alloc (.cells T 28) := ⟨_, rfl⟩
  rw [← hw0] at hk hkr hx0 hsr
  obtain ⟨k, hke⟩ : ∃ k, k = btl 16 key := ⟨_, rfl⟩
  have HKL := Lib.hid (show k.length = 16 by rw [hke]; exact btl_len _ _)
  rw [← hke] at hkr ⊢
  obtain ⟨y, hy⟩ : ∃ y, y = nb 8 a := ⟨_, rfl⟩
  obtain ⟨z, hzz⟩ : ∃ z, z = nb 8 e := ⟨_, rfl⟩
  obtain ⟨x, hx⟩ : ∃ x, x = nbs (bl s) (bls ss) := ⟨_, rfl⟩
  obtain ⟨t, ht⟩ : ∃ t, t = tkb (bl s) (bls ss) a e k := ⟨_, rfl⟩
  have HFL := Lib.hid (show [[1], x, y, z, k].flatten = t by rw [tkb_flat, ht, hx, hy, hzz]; rfl)
  have HLL := Lib.hid (show t.length ≤ 140737488355328 by have h1 := nbs_few hvl; rw [ht, tkb_len, HKL.out]; omega)
  have HA := Lib.hid (fun W => tfield_c a (by omega) W)
  have HE := Lib.hid (fun W => tfield_c e (by omega) W)
  have HJ := Lib.hid (fun (W : World) (A : Option Addr) (c : Nat) (hr : RBs W (fun _ _ => True) (fun _ _ => True) A [[1], x, y, z, k]) => join_five A c x y z k t W HFL.out HLL.out hr)
  rw [← hy] at HA
  rw [← hzz] at HE
  rw [← ht]
  have HK := Lib.hid (fun (W : World) (hx : Ext w0 W) => hk.ext hx)
  have HKR := Lib.hid (fun (W : World) (hx : Ext w0 W) => (hkr.ext hx).more (S' := fun _ _ => True) (fun _ _ _ => trivial))
  have HNB := Lib.hid (fun (W : World) (hx : Ext w0 W) => nbytes_c s A c ss _ W (hsr.ext hx) hs hz hn hvl)
  rw [← hx] at HNB
  have HX0 := Lib.hid hx0
  have HVD := Lib.hid (hvd w0 hx0)
  have HW := Lib.hid hw0
  obtain ⟨g, hgg⟩ : ∃ g, g = w.heap.size := ⟨_, rfl⟩
  rw [← hgg] at HK HKR
  have hp0 := (HK.out w0 (Ext.refl _)).get
  have HT20 := Lib.hid (show T.size = 20 by rw [hT]; exact tkc_size _ _ _ _ _ _ _)
  clear hvl hae hem hg hx0 hk hkr hsr hvd hT hke hy hzz hx ht h hs hz hn hv
  go_enter Tryz.func16, Tryz.ntmps16
  go_wp2_with (refine wpList_load_row rfl 28 (.tmp 1) rfl g (by rw [hgg]; rfl) 28 T (0, 0) _ (by rw [← hw0]; exact hp0) Tryz.underlying28 rfl (by rw [HT20.out]; exact size_tk) ?_)
  rw [← HW.out, ← hgg]
  clear hgg hw0 hp0
  refine HVD.out.mono ?_
  rintro x1 w1 ⟨rfl, hx1⟩
  have q0 := (HK.out w1 hx1).c0
  have q1 := (HK.out w1 hx1).c1
  have HX1 := Lib.hid hx1
  clear hx1
  go_wp2_with fail
  refine (HNB.out w1 HX1.out).mono ?_
  rintro x2 w2 ⟨C, cc, rfl, hob, hx2⟩
  have HX2 := Lib.hid (HX1.out.tr hx2)
  have HC := Lib.hid (fun (W : World) (hx : Ext w2 W) => And.intro ((hob.ext hx).rb.more (S' := fun _ _ => True) (fun _ _ _ => trivial)) (hob.ext hx).le)
  clear hx2 hob q0 q1 HVD HNB HX1
  go_wp2_with fail
  refine Code.wp_mono (P := Tryz.prog) (Q := PB w2 t) ?_ ?_
  · rintro x ⟨tmps, defers⟩ W ⟨rfl, ⟨B, d, h0, hr, hl, hm⟩, h3, hd, hx⟩
    dsimp only at h0 h3 hd
    subst hd
    go_wp2_with fail
    go_ret2
    exact ⟨B, d, by rw [← h0, ← h3], hr, hl, hm, HX0.out.tr (HX2.out.tr hx)⟩
  replace HK := Lib.hid (fun (W : World) (hx : Ext w2 W) => HK.out W (HX2.out.tr hx))
  replace HKR := Lib.hid (fun (W : World) (hx : Ext w2 W) => HKR.out W (HX2.out.tr hx))
  refine region_free (Ext w2) (Sl.at_ (spPB x y z k t s A ss c a e g)) Ext (by kernel_rfl) (by kernel_rfl) (by kernel_rfl) (Sl.mono _) Ext.refl (Ext.drew _) ?_ ?_
  · refine Steps.cons (fun ac W hS hsz hU hD => ?_) ?_
    · refine .inl ⟨rfl, fun K hK => ?_⟩
      go_simp
      exact hK _ _ (hS.tr (Ext.alloc _ _)) (Ext.alloc _ _) (fun d hd => by cases hd; exact ⟨_, _, rfl, (RB.lit W [1] #[.int .u8 1] 5 rfl).more (fun _ _ _ => trivial), by decide, by decide⟩)
    refine Steps.cons (fun ac W hS hsz hU hD => ?_) ?_
    · have e4 : ac.tmps.getD 4 undef = (.slice C x.length cc) := hU 4 (by kernel_rfl)
      have v4 := eval_of e4
      have y4 := slot_of e4
      have z4 := cell_of e4
      refine .inl ⟨rfl, fun K hK => ?_⟩
      go_simp
      exact hK _ _ hS (Ext.refl _) (fun d hd => by cases hd; exact ⟨C, cc, rfl, (HC.out W hS).1, (HC.out W hS).2⟩)
    refine Steps.cons (fun ac W hS hsz hU hD => ?_) ?_
    · have e1 : ac.tmps.getD 1 undef = (.pointer (some ⟨g, 0, none⟩)) := hU 1 (by kernel_rfl)
      have v1 := eval_of e1
      have y1 := slot_of e1
      have z1 := cell_of e1
      refine .inl ⟨rfl, fun K hK => ?_⟩
      go_simp
      exact hK _ _ hS (Ext.refl _) (fun d hd => by cases hd; rfl)
    refine Steps.cons (fun ac W hS hsz hU hD => ?_) ?_
    · have e17 : ac.tmps.getD 17 undef = (.pointer (some ⟨g, 2, none⟩)) := hD 17 (by kernel_rfl)
      have v17 := eval_of e17
      have y17 := slot_of e17
      have z17 := cell_of e17
      refine .inl ⟨rfl, fun K hK => ?_⟩
      have q2 := (HK.out W hS).c2
      go_simp
      exact hK _ _ hS (Ext.refl _) (fun d hd => by cases hd; rfl)
    refine Steps.cons (fun ac W hS hsz hU hD => ?_) ?_
    · have e18 : ac.tmps.getD 18 undef = (.int .i64 a) := hD 18 (by kernel_rfl)
      have v18 := eval_of e18
      have y18 := slot_of e18
      have z18 := cell_of e18
      refine .inl ⟨rfl, fun K hK => ?_⟩
      go_simp
      refine (HA.out W).mono ?_
      rintro x W1 ⟨A, c, rfl, ho, hx⟩
      exact hK _ _ (hS.tr hx) hx (fun d hd => by cases hd; exact ⟨A, c, rfl, ho.rb.more (fun _ _ _ => trivial), ho.le.1, ho.le.2⟩)
    refine Steps.cons (fun ac W hS hsz hU hD => ?_) ?_
    · have e1 : ac.tmps.getD 1 undef = (.pointer (some ⟨g, 0, none⟩)) := hU 1 (by kernel_rfl)
      have v1 := eval_of e1
      have y1 := slot_of e1
      have z1 := cell_of e1
      refine .inl ⟨rfl, fun K hK => ?_⟩
      go_simp
      exact hK _ _ hS (Ext.refl _) (fun d hd => by cases hd; rfl)
    refine Steps.cons (fun ac W hS hsz hU hD => ?_) ?_
    · have e20 : ac.tmps.getD 20 undef = (.pointer (some ⟨g, 3, none⟩)) := hD 20 (by kernel_rfl)
      have v20 := eval_of e20
      have y20 := slot_of e20
      have z20 := cell_of e20
      refine .inl ⟨rfl, fun K hK => ?_⟩
      have q2 := (HK.out W hS).c3
      go_simp
      exact hK _ _ hS (Ext.refl _) (fun d hd => by cases hd; rfl)
    refine Steps.cons (fun ac W hS hsz hU hD => ?_) ?_
    · have e21 : ac.tmps.getD 21 undef = (.int .i64 e) := hD 21 (by kernel_rfl)
      have v21 := eval_of e21
      have y21 := slot_of e21
      have z21 := cell_of e21
      refine .inl ⟨rfl, fun K hK => ?_⟩
      go_simp
      refine (HE.out W).mono ?_
      rintro x W1 ⟨A, c, rfl, ho, hx⟩
      exact hK _ _ (hS.tr hx) hx (fun d hd => by cases hd; exact ⟨A, c, rfl, ho.rb.more (fun _ _ _ => trivial), ho.le.1, ho.le.2⟩)
    refine Steps.cons (fun ac W hS hsz hU hD => ?_) ?_
    · have e1 : ac.tmps.getD 1 undef = (.pointer (some ⟨g, 0, none⟩)) := hU 1 (by kernel_rfl)
      have v1 := eval_of e1
      have y1 := slot_of e1
      have z1 := cell_of e1
      refine .inl ⟨rfl, fun K hK => ?_⟩
      go_simp
      exact hK _ _ hS (Ext.refl _) (fun d hd => by cases hd; rfl)
    refine Steps.cons (fun ac W hS hsz hU hD => ?_) ?_
    · have e23 : ac.tmps.getD 23 undef = (.pointer (some ⟨g, 4, none⟩)) := hD 23 (by kernel_rfl)
      have v23 := eval_of e23
      have y23 := slot_of e23
      have z23 := cell_of e23
      refine .inl ⟨rfl, fun K hK => ?_⟩
      go_simp
      exact hK _ _ hS (Ext.refl _) (fun d hd => by cases hd; rfl)
    refine Steps.cons (fun ac W hS hsz hU hD => ?_) ?_
    · obtain ⟨A15, c15, e15, r15, l15, m15⟩ : Sl.holds (.byo ([1])) (ac.tmps.getD 15 undef) W := hD 15 (by kernel_rfl)
      have v15 := eval_of e15
      have y15 := slot_of e15
      have z15 := cell_of e15
      obtain ⟨A16, c16, e16, r16, l16, m16⟩ : Sl.holds (.byo (x)) (ac.tmps.getD 16 undef) W := hD 16 (by kernel_rfl)
      have v16 := eval_of e16
      have y16 := slot_of e16
      have z16 := cell_of e16
      obtain ⟨A19, c19, e19, r19, l19, m19⟩ : Sl.holds (.byo (y)) (ac.tmps.getD 19 undef) W := hD 19 (by kernel_rfl)
      have v19 := eval_of e19
      have y19 := slot_of e19
      have z19 := cell_of e19
      obtain ⟨A22, c22, e22, r22, l22, m22⟩ : Sl.holds (.byo (z)) (ac.tmps.getD 22 undef) W := hD 22 (by kernel_rfl)
      have v22 := eval_of e22
      have y22 := slot_of e22
      have z22 := cell_of e22
      have e24 : ac.tmps.getD 24 undef = (.slice (some ⟨g, 4, none⟩) 16 16) := hD 24 (by kernel_rfl)
      have v24 := eval_of e24
      have y24 := slot_of e24
      have z24 := cell_of e24
      refine .inl ⟨rfl, fun K hK => ?_⟩
      go_simp
      exact hK _ _ (hS.tr (Ext.alloc _ _)) (Ext.alloc _ _) (fun d hd => by cases hd; exact ⟨_, 5, rfl, rbs_five (c5 := 16) (n := 16) (new_of W _) HKL.out (r15.ext (Ext.alloc _ _)) (r16.ext (Ext.alloc _ _)) (r19.ext (Ext.alloc _ _)) (r22.ext (Ext.alloc _ _)) ((HKR.out W hS).ext (Ext.alloc _ _))⟩)
    refine Steps.cons (fun ac W hS hsz hU hD => ?_) ?_
    · obtain ⟨A25, c25, e25, r25⟩ : Sl.holds (.rows ([[1], x, y, z, k])) (ac.tmps.getD 25 undef) W := hD 25 (by kernel_rfl)
      have v25 := eval_of e25
      have y25 := slot_of e25
      have z25 := cell_of e25
      refine .inl ⟨rfl, fun K hK => ?_⟩
      go_simp
      refine (HJ.out W A25 c25 r25).mono ?_
      rintro x W1 ⟨A, c, rfl, ho, hx⟩
      exact hK _ _ (hS.tr hx) hx (fun d hd => by cases hd; exact ⟨A, c, rfl, ho.rb.more (fun _ _ _ => trivial), ho.le.1, ho.le.2⟩)
    refine Steps.cons (fun ac W hS hsz hU hD => ?_) ?_
    · obtain ⟨A26, c26, e26, r26, l26, m26⟩ : Sl.holds (.byo (t)) (ac.tmps.getD 26 undef) W := hD 26 (by kernel_rfl)
      have v26 := eval_of e26
      have y26 := slot_of e26
      have z26 := cell_of e26
      refine .inl ⟨rfl, fun K hK => ?_⟩
      go_simp
      exact hK _ _ hS (Ext.refl _) (fun d hd => by cases hd; exact ⟨A26, c26, rfl, r26, l26, m26⟩)
    refine Steps.cons (fun ac W hS hsz hU hD => ?_) ?_
    · refine .inl ⟨rfl, fun K hK => ?_⟩
      go_simp
      exact hK _ _ hS (Ext.refl _) (fun d hd => by cases hd; rfl)
    exact Steps.nil
  · intro ac W hS hsz hdef hold hnew
    obtain ⟨B, d, h1, h2, h3, h4⟩ : Sl.holds (.byo t) (ac.tmps.getD 2 undef) W := hnew 12 2 (by kernel_rfl)
    have h5 : ac.tmps.getD 3 undef = .bool true := hnew 13 3 (by kernel_rfl)
    exact ⟨rfl, ⟨B, d, h1, h2, h3, h4⟩, h5, hdef, hS⟩
set_option maxRecDepth 100000 in
set_option maxHeartbeats 4000000 in
theorem tbytes_no (s : ByteArray) (A : Option Addr) (c : Nat) (ss : List ByteArray) (a e : Int) (key : Nat → Nat) (S : Nat → TypeId → Prop) (w : World) (h : SR w S A ss) (hs : s.size ≤ 9223372036854775807) (hz : ∀ t ∈ ss, t.size ≤ 9223372036854775807) (hn : ss.length ≤ 9223372036854775807) (hv : tkvI s ss a e = false) :
    Calls Tryz.prog 16 #[.agg (tkc s A ss.length c a e key)] w fun x w' => x = .returned (.tuple #[.slice none 0 0, .bool false]) ∧ Ext w w' := by
  have hg := new_of w (.cells (tkc s A ss.length c a e key) 28)
  have hx0 := Ext.alloc w (.cells (tkc s A ss.length c a e key) 28)
  have hvd := tvalid_c s A c ss a e key S _ (h.ext hx0) hs hz hn
  rw [hv] at hvd
  obtain ⟨T, hT⟩ : ∃ T, T = tkc s A ss.length c a e key := ⟨_, rfl⟩
  rw [← hT] at hg hx0 hvd ⊢
  have HT20 := Lib.hid (show T.size = 20 by rw [hT]; exact tkc_size _ _ _ _ _ _ _)
  have HVD := Lib.hid hvd
  have HX0 := Lib.hid hx0
  clear hT h hvd hx0
  go_enter Tryz.func16, Tryz.ntmps16
  go_wp2_with (refine wpList_load_row rfl 28 (.tmp 1) rfl w.heap.size rfl 28 T (0, 0) _ hg Tryz.underlying28 rfl (by rw [HT20.out]; exact size_tk) ?_)
  refine HVD.out.mono ?_
  rintro x w1 ⟨rfl, hx1⟩
  go_wp2_with fail
  go_ret2
  exact ⟨rfl, HX0.out.tr hx1⟩
/-- behind the reference's region -/
def PR (w : World) (t : List UInt8) (e : Exit) (a : Act) (W : World) : Prop := e = .normal ∧ (∃ B d, a.tmps.getD 2 undef = .slice B t.length d ∧ RB W (fun _ _ => True) B t ∧ t.length ≤ d ∧ d ≤ 9223372036854775807) ∧ a.defers = [] ∧ Ext w W
def spPR (x y z k t : List UInt8) (s : ByteArray) (A : Option Addr) (ss : List ByteArray) (c : Nat) (a e : Nat) (g : Nat) : List Sl := [.any, .any, .byo (t), .byo ([1]), .val (.pointer (some ⟨g, 0, none⟩)), .val (.agg #[.string s, .slice A ss.length c]), .byo (x), .val (.pointer (some ⟨g, 2, none⟩)), .val (.int .i64 a), .byo (y), .val (.pointer (some ⟨g, 3, none⟩)), .val (.int .i64 e), .byo (z), .val (.pointer (some ⟨g, 4, none⟩)), .val (.slice (some ⟨g, 4, none⟩) 16 16), .rows ([[1], x, y, z, k]), .byo (t)]
set_option maxRecDepth 100000 in
set_option maxHeartbeats 8000000 in
theorem rtbytes_c (s : ByteArray) (A : Option Addr) (c : Nat) (ss : List ByteArray) (a e : Nat) (key : Nat → Nat) (hkb : Byt key) (S : Nat → TypeId → Prop) (w : World) (h : SR w S A ss) (hs : s.size ≤ 9223372036854775807) (hz : ∀ t ∈ ss, t.size ≤ 9223372036854775807) (hn : ss.length ≤ 9223372036854775807) (hv : tkv (bl s) (bls ss) a e = true) :
    Calls Tryz.prog 12 #[.agg (tkc s A ss.length c a e key)] w fun x w' => ∃ B d, x = .returned (.slice B (tkb (bl s) (bls ss) a e (btl 16 key)).length d) ∧ RB w' (fun _ _ => True) B (tkb (bl s) (bls ss) a e (btl 16 key)) ∧ (tkb (bl s) (bls ss) a e (btl 16 key)).length ≤ d ∧ d ≤ 9223372036854775807 ∧ Ext w w' := by
  obtain ⟨hvl, hae, hem⟩ := tkv_parts hv
  have hg := new_of w (.cells (tkc s A ss.length c a e key) 28)
  have hx0 := Ext.alloc w (.cells (tkc s A ss.length c a e key) 28)
  have hk := TkAt.of hg
  have hkr := tkc_rb hg hkb
  have hsr := h.ext hx0
  have hvd := tvalid_c0 s A c ss a e key S w h hs hz hn hv
  obtain ⟨T, hT⟩ : ∃ T, T = tkc s A ss.length c a e key := ⟨_, rfl⟩
  rw [← hT] at hk hkr hx0 hsr hvd ⊢
  obtain ⟨w0, hw0⟩ : ∃ w0, w0 = w.alloc (.cells T 28) := ⟨_, rfl⟩
  rw [← hw0] at hk hkr hx0 hsr
  obtain ⟨k, hke⟩ : ∃ k, k = btl 16 key := ⟨_, rfl⟩
  have HKL := Lib.hid (show k.length = 16 by rw [hke]; exact btl_len _ _)
  rw [← hke] at hkr ⊢
  obtain ⟨y, hy⟩ : ∃ y, y = nb 8 a := ⟨_, rfl⟩
  obtain ⟨z, hzz⟩ : ∃ z, z = nb 8 e := ⟨_, rfl⟩
  obtain ⟨x, hx⟩ : ∃ x, x = nbs (bl s) (bls ss) := ⟨_, rfl⟩
  obtain ⟨t, ht⟩ : ∃ t, t = tkb (bl s) (bls ss) a e k := ⟨_, rfl⟩
  have HFL := Lib.hid (show [[1], x, y, z, k].flatten = t by rw [tkb_flat, ht, hx, hy, hzz]; rfl)
  have HLL := Lib.hid (show t.length ≤ 140737488355328 by have h1 := nbs_few hvl; rw [ht, tkb_len, HKL.out]; omega)
  have HA := Lib.hid (fun W => rtnum_c a (by omega) W)
  have HE := Lib.hid (fun W => rtnum_c e (by omega) W)
  have HJ := Lib.hid (fun (W : World) (A : Option Addr) (c : Nat) (hr : RBs W (fun _ _ => True) (fun _ _ => True) A [[1], x, y, z, k]) => rjoin_five A c x y z k t W HFL.out HLL.out hr)
  rw [← hy] at HA
  rw [← hzz] at HE
  rw [← ht]
  have HK := Lib.hid (fun (W : World) (hx : Ext w0 W) => hk.ext hx)
  have HKR := Lib.hid (fun (W : World) (hx : Ext w0 W) => (hkr.ext hx).more (S' := fun _ _ => True) (fun _ _ _ => trivial))
  have HN := Lib.hid (fun (W : World) (hx : Ext w0 W) => rbytes_c s A c ss _ W (hsr.ext hx) hvl)
  rw [← hx] at HN
  have HX0 := Lib.hid hx0
  have HW := Lib.hid hw0
  obtain ⟨g, hgg⟩ : ∃ g, g = w.heap.size := ⟨_, rfl⟩
  rw [← hgg] at HK HKR
  clear hvl hae hem hg hx0 hk hkr hsr hvd hT hw0 hke hy hzz hx ht h hs hz hn hv
  go_enter Tryz.func12, Tryz.ntmps12
  go_wp2_with fail
  rw [← HW.out, ← hgg]
  clear hgg
  refine Code.wp_mono (P := Tryz.prog) (Q := PR w0 t) ?_ ?_
  · rintro x ⟨tmps, defers⟩ W ⟨rfl, ⟨B, d, h0, hr, hl, hm⟩, hd, hx⟩
    dsimp only at h0 hd
    subst hd
    go_wp2_with fail
    go_ret
    exact ⟨B, d, by rw [← h0], hr, hl, hm, HX0.out.tr hx⟩
  refine region_free (Ext w0) (Sl.at_ (spPR x y z k t s A ss c a e g)) Ext (by kernel_rfl) (by kernel_rfl) (by kernel_rfl) (Sl.mono _) Ext.refl (Ext.drew _) ?_ ?_
  · refine Steps.cons (fun ac W hS hsz hU hD => ?_) ?_
    · refine .inl ⟨rfl, fun K hK => ?_⟩
      go_simp
      exact hK _ _ (hS.tr (Ext.alloc _ _)) (Ext.alloc _ _) (fun d hd => by cases hd; exact ⟨_, _, rfl, (RB.lit W [1] #[.int .u8 1] 5 rfl).more (fun _ _ _ => trivial), by decide, by decide⟩)
    refine Steps.cons (fun ac W hS hsz hU hD => ?_) ?_
    · have e1 : ac.tmps.getD 1 undef = (.pointer (some ⟨g, 0, none⟩)) := hU 1 (by kernel_rfl)
      have v1 := eval_of e1
      have y1 := slot_of e1
      have z1 := cell_of e1
      refine .inl ⟨rfl, fun K hK => ?_⟩
      go_simp
      exact hK _ _ hS (Ext.refl _) (fun d hd => by cases hd; rfl)
    refine Steps.cons (fun ac W hS hsz hU hD => ?_) ?_
    · have e4 : ac.tmps.getD 4 undef = (.pointer (some ⟨g, 0, none⟩)) := hD 4 (by kernel_rfl)
      have v4 := eval_of e4
      have y4 := slot_of e4
      have z4 := cell_of e4
      refine .inl ⟨rfl, fun K hK => ?_⟩
      have q0 := (HK.out W hS).c0
      have q1 := (HK.out W hS).c1
      go_simp
      exact hK _ _ hS (Ext.refl _) (fun d hd => by cases hd; rfl)
    refine Steps.cons (fun ac W hS hsz hU hD => ?_) ?_
    · have e5 : ac.tmps.getD 5 undef = (.agg #[.string s, .slice A ss.length c]) := hD 5 (by kernel_rfl)
      have v5 := eval_of e5
      have y5 := slot_of e5
      have z5 := cell_of e5
      refine .inl ⟨rfl, fun K hK => ?_⟩
      go_simp
      refine (HN.out W hS).mono ?_
      rintro x W1 ⟨A, c, rfl, ho, hx⟩
      exact hK _ _ (hS.tr hx) hx (fun d hd => by cases hd; exact ⟨A, c, rfl, ho.rb.more (fun _ _ _ => trivial), ho.le.1, ho.le.2⟩)
    refine Steps.cons (fun ac W hS hsz hU hD => ?_) ?_
    · have e1 : ac.tmps.getD 1 undef = (.pointer (some ⟨g, 0, none⟩)) := hU 1 (by kernel_rfl)
      have v1 := eval_of e1
      have y1 := slot_of e1
      have z1 := cell_of e1
      refine .inl ⟨rfl, fun K hK => ?_⟩
      go_simp
      exact hK _ _ hS (Ext.refl _) (fun d hd => by cases hd; rfl)
    refine Steps.cons (fun ac W hS hsz hU hD => ?_) ?_
    · have e7 : ac.tmps.getD 7 undef = (.pointer (some ⟨g, 2, none⟩)) := hD 7 (by kernel_rfl)
      have v7 := eval_of e7
      have y7 := slot_of e7
      have z7 := cell_of e7
      refine .inl ⟨rfl, fun K hK => ?_⟩
      have q2 := (HK.out W hS).c2
      go_simp
      exact hK _ _ hS (Ext.refl _) (fun d hd => by cases hd; rfl)
    refine Steps.cons (fun ac W hS hsz hU hD => ?_) ?_
    · have e8 : ac.tmps.getD 8 undef = (.int .i64 a) := hD 8 (by kernel_rfl)
      have v8 := eval_of e8
      have y8 := slot_of e8
      have z8 := cell_of e8
      refine .inl ⟨rfl, fun K hK => ?_⟩
      go_simp
      refine (HA.out W).mono ?_
      rintro x W1 ⟨A, c, rfl, ho, hx⟩
      exact hK _ _ (hS.tr hx) hx (fun d hd => by cases hd; exact ⟨A, c, rfl, ho.rb.more (fun _ _ _ => trivial), ho.le.1, ho.le.2⟩)
    refine Steps.cons (fun ac W hS hsz hU hD => ?_) ?_
    · have e1 : ac.tmps.getD 1 undef = (.pointer (some ⟨g, 0, none⟩)) := hU 1 (by kernel_rfl)
      have v1 := eval_of e1
      have y1 := slot_of e1
      have z1 := cell_of e1
      refine .inl ⟨rfl, fun K hK => ?_⟩
      go_simp
      exact hK _ _ hS (Ext.refl _) (fun d hd => by cases hd; rfl)
    refine Steps.cons (fun ac W hS hsz hU hD => ?_) ?_
    · have e10 : ac.tmps.getD 10 undef = (.pointer (some ⟨g, 3, none⟩)) := hD 10 (by kernel_rfl)
      have v10 := eval_of e10
      have y10 := slot_of e10
      have z10 := cell_of e10
      refine .inl ⟨rfl, fun K hK => ?_⟩
      have q2 := (HK.out W hS).c3
      go_simp
      exact hK _ _ hS (Ext.refl _) (fun d hd => by cases hd; rfl)
    refine Steps.cons (fun ac W hS hsz hU hD => ?_) ?_
    · have e11 : ac.tmps.getD 11 undef = (.int .i64 e) := hD 11 (by kernel_rfl)
      have v11 := eval_of e11
      have y11 := slot_of e11
      have z11 := cell_of e11
      refine .inl ⟨rfl, fun K hK => ?_⟩
      go_simp
      refine (HE.out W).mono ?_
      rintro x W1 ⟨A, c, rfl, ho, hx⟩
      exact hK _ _ (hS.tr hx) hx (fun d hd => by cases hd; exact ⟨A, c, rfl, ho.rb.more (fun _ _ _ => trivial), ho.le.1, ho.le.2⟩)
    refine Steps.cons (fun ac W hS hsz hU hD => ?_) ?_
    · have e1 : ac.tmps.getD 1 undef = (.pointer (some ⟨g, 0, none⟩)) := hU 1 (by kernel_rfl)
      have v1 := eval_of e1
      have y1 := slot_of e1
      have z1 := cell_of e1
      refine .inl ⟨rfl, fun K hK => ?_⟩
      go_simp
      exact hK _ _ hS (Ext.refl _) (fun d hd => by cases hd; rfl)
    refine Steps.cons (fun ac W hS hsz hU hD => ?_) ?_
    · have e13 : ac.tmps.getD 13 undef = (.pointer (some ⟨g, 4, none⟩)) := hD 13 (by kernel_rfl)
      have v13 := eval_of e13
      have y13 := slot_of e13
      have z13 := cell_of e13
      refine .inl ⟨rfl, fun K hK => ?_⟩
      go_simp
      exact hK _ _ hS (Ext.refl _) (fun d hd => by cases hd; rfl)
    refine Steps.cons (fun ac W hS hsz hU hD => ?_) ?_
    · obtain ⟨A3, c3, e3, r3, l3, m3⟩ : Sl.holds (.byo ([1])) (ac.tmps.getD 3 undef) W := hD 3 (by kernel_rfl)
      have v3 := eval_of e3
      have y3 := slot_of e3
      have z3 := cell_of e3
      obtain ⟨A6, c6, e6, r6, l6, m6⟩ : Sl.holds (.byo (x)) (ac.tmps.getD 6 undef) W := hD 6 (by kernel_rfl)
      have v6 := eval_of e6
      have y6 := slot_of e6
      have z6 := cell_of e6
      obtain ⟨A9, c9, e9, r9, l9, m9⟩ : Sl.holds (.byo (y)) (ac.tmps.getD 9 undef) W := hD 9 (by kernel_rfl)
      have v9 := eval_of e9
      have y9 := slot_of e9
      have z9 := cell_of e9
      obtain ⟨A12, c12, e12, r12, l12, m12⟩ : Sl.holds (.byo (z)) (ac.tmps.getD 12 undef) W := hD 12 (by kernel_rfl)
      have v12 := eval_of e12
      have y12 := slot_of e12
      have z12 := cell_of e12
      have e14 : ac.tmps.getD 14 undef = (.slice (some ⟨g, 4, none⟩) 16 16) := hD 14 (by kernel_rfl)
      have v14 := eval_of e14
      have y14 := slot_of e14
      have z14 := cell_of e14
      refine .inl ⟨rfl, fun K hK => ?_⟩
      go_simp
      exact hK _ _ (hS.tr (Ext.alloc _ _)) (Ext.alloc _ _) (fun d hd => by cases hd; exact ⟨_, 5, rfl, rbs_five (c5 := 16) (n := 16) (new_of W _) HKL.out (r3.ext (Ext.alloc _ _)) (r6.ext (Ext.alloc _ _)) (r9.ext (Ext.alloc _ _)) (r12.ext (Ext.alloc _ _)) ((HKR.out W hS).ext (Ext.alloc _ _))⟩)
    refine Steps.cons (fun ac W hS hsz hU hD => ?_) ?_
    · obtain ⟨A15, c15, e15, r15⟩ : Sl.holds (.rows ([[1], x, y, z, k])) (ac.tmps.getD 15 undef) W := hD 15 (by kernel_rfl)
      have v15 := eval_of e15
      have y15 := slot_of e15
      have z15 := cell_of e15
      refine .inl ⟨rfl, fun K hK => ?_⟩
      go_simp
      refine (HJ.out W A15 c15 r15).mono ?_
      rintro x W1 ⟨A, c, rfl, ho, hx⟩
      exact hK _ _ (hS.tr hx) hx (fun d hd => by cases hd; exact ⟨A, c, rfl, ho.rb.more (fun _ _ _ => trivial), ho.le.1, ho.le.2⟩)
    refine Steps.cons (fun ac W hS hsz hU hD => ?_) ?_
    · obtain ⟨A16, c16, e16, r16, l16, m16⟩ : Sl.holds (.byo (t)) (ac.tmps.getD 16 undef) W := hD 16 (by kernel_rfl)
      have v16 := eval_of e16
      have y16 := slot_of e16
      have z16 := cell_of e16
      refine .inl ⟨rfl, fun K hK => ?_⟩
      go_simp
      exact hK _ _ hS (Ext.refl _) (fun d hd => by cases hd; exact ⟨A16, c16, rfl, r16, l16, m16⟩)
    exact Steps.nil
  · intro ac W hS hsz hdef hold hnew
    obtain ⟨B, d, h1, h2, h3, h4⟩ : Sl.holds (.byo t) (ac.tmps.getD 2 undef) W := hnew 14 2 (by kernel_rfl)
    exact ⟨rfl, ⟨B, d, h1, h2, h3, h4⟩, hdef, hS⟩
end Go.Proofs.YtagegigffohcbaaGreatDoor

namespace Go.Proofs.YtagegigffohcbaaGreatDoor
open Go.RowKit
set_option linter.unusedVariables false
set_option linter.unusedSimpArgs false

theorem tkc_one (s : ByteArray) (A : Option Addr) (n c : Nat) (a e : Int) (key : Nat → Nat) : (tkc s A n c a e key).all (·.oneCell') = true := by
  unfold tkc
  rw [Array.all_append, tabV_one]
  simp [Value.oneCell']
/-- the zero ticket -/
def tkz : Array Value := tkc ⟨#[]⟩ none 0 0 0 0 (fun _ => 0)
theorem built_tk0 : Tryz.prog.built 28 [] = some tkz := by kernel_rfl
theorem built_tk3 (s : ByteArray) (A : Option Addr) (n c : Nat) (a e : Int) : Tryz.prog.built 28 [(0, .agg #[.string s, .slice A n c]), (1, .int .i64 a), (2, .int .i64 e)] = some (tkc s A n c a e (fun _ => 0)) := by kernel_rfl
theorem built_tk4 (s : ByteArray) (A : Option Addr) (n c : Nat) (a e : Int) (key : Nat → Nat) : Tryz.prog.built 28 [(0, .agg #[.string s, .slice A n c]), (1, .int .i64 a), (2, .int .i64 e), (3, .agg (tabV .u8 16 key))] = some (tkc s A n c a e key) := by kernel_rfl
section
variable {P : Program} {ops : Array Oper} {rest : List Oper} {o : Oper} {a : Act} {w : World} {Q : Exit → Act → World → Prop}
theorem wpList_build_none (hg : o.guard = none) (t : TypeId) (ho : o.op = .build t #[]) (cs : Array Value) (hf : P.built t [] = some cs) (h : wpList P ops Q rest (a.put o.dst (.agg cs)) w) : wpList P ops Q (o :: rest) a w := by
  have e : P.built t ((#[] : Array (Nat × Operand)).map fun (i, z) => (i, a.eval z)).toList = some cs := by
    simp only [List.map_toArray, List.map_nil]
    exact hf
  exact wpList_build hg t _ ho (by rw [e]; rfl) (by rw [e]; exact h)
theorem wpList_build_three (hg : o.guard = none) (t : TypeId) (x y z : Operand) (ho : o.op = .build t #[(0, x), (1, y), (2, z)]) (u v r : Value) (hx : a.eval x = u) (hy : a.eval y = v) (hz : a.eval z = r) (cs : Array Value)
    (hf : P.built t [(0, u), (1, v), (2, r)] = some cs) (h : wpList P ops Q rest (a.put o.dst (.agg cs)) w) : wpList P ops Q (o :: rest) a w := by
  have e : P.built t ((#[(0, x), (1, y), (2, z)] : Array (Nat × Operand)).map fun (i, z) => (i, a.eval z)).toList = some cs := by
    simp only [List.map_toArray, List.map_cons, List.map_nil, hx, hy, hz]
    exact hf
  exact wpList_build hg t _ ho (by rw [e]; rfl) (by rw [e]; exact h)
theorem wpList_build_four (hg : o.guard = none) (t : TypeId) (x y z k : Operand) (ho : o.op = .build t #[(0, x), (1, y), (2, z), (3, k)]) (u v r s : Value) (hx : a.eval x = u) (hy : a.eval y = v) (hz : a.eval z = r) (hk : a.eval k = s) (cs : Array Value)
    (hf : P.built t [(0, u), (1, v), (2, r), (3, s)] = some cs) (h : wpList P ops Q rest (a.put o.dst (.agg cs)) w) : wpList P ops Q (o :: rest) a w := by
  have e : P.built t ((#[(0, x), (1, y), (2, z), (3, k)] : Array (Nat × Operand)).map fun (i, z) => (i, a.eval z)).toList = some cs := by
    simp only [List.map_toArray, List.map_cons, List.map_nil, hx, hy, hz, hk]
    exact hf
  exact wpList_build hg t _ ho (by rw [e]; rfl) (by rw [e]; exact h)
/-- a whole row is read, under a guard too -/
theorem wpList_load_row' (hw : Region.wanted o (yielded ops a.tmps) = true) (ty : TypeId) (x : Operand) (ho : o.op = .load ty x)
    (g : Nat) (hx : a.eval x = .pointer (some ⟨g, 0, none⟩)) (t : TypeId) (cs : Array Value) (fr : Nat × Nat) (d : TypeDesc) (hg : w.heap[g]? = some (.cells cs t fr))
    (hu : P.underlying ty = some d) (hd : (match d with | .struct _ | .array _ _ => true | _ => false) = true) (hi : (P.info? ty).map (·.size) = some cs.size)
    (h : wpList P ops Q rest (a.put o.dst (.agg cs)) w) : wpList P ops Q (o :: rest) a w := by
  unfold wpList
  rw [if_pos hw]
  exact .inl (wp_load_row ty x ho g hx t cs fr d hg hu hd hi h)
/-- a whole row is written into a block that is known -/
theorem wpList_store_row' (hgd : o.guard = none) (hdst : o.dst = none) (ty : TypeId) (x y : Operand) (ho : o.op = .store ty x y) (g : Nat) (cells : Array Value) (hx : a.eval x = .pointer (some ⟨g, 0, none⟩)) (hy : a.eval y = .agg cells)
    (t : TypeId) (old : Array Value) (hg : w.heap[g]? = some (.cells old t (0, 0))) (hi : (P.info? ty).map (·.size) = some cells.size) (hold : old.size = cells.size) (h1 : cells.all (·.oneCell') = true)
    (h : ∀ w', w'.heap[g]? = some (.cells cells t (0, 0)) → w.grownBy w' (some g) → wpList P ops Q rest a w') : wpList P ops Q (o :: rest) a w :=
  wpList_store_row hgd ty x y ho g cells hx hy t old hg hi hold h1 (by rw [hdst]; exact h _ (setRow_heap w g old _ t _ hg) (grown_setRow g _))
end
/-- a ticket is written into a block of twenty cells -/
theorem wpList_store_tk {ops : Array Oper} {rest : List Oper} {o : Oper} {b : Act} {w : World} {Q : Exit → Act → World → Prop} (hgd : o.guard = none) (hdst : o.dst = none) (x y : Operand) (ho : o.op = .store 28 x y) (g : Nat) (T : Array Value) (hx : b.eval x = .pointer (some ⟨g, 0, none⟩)) (hy : b.eval y = .agg T)
    (hT : T.size = 20 ∧ T.all (·.oneCell') = true) (old : Array Value) (hg : w.heap[g]? = some (.cells old 28 (0, 0))) (hold : old.size = 20)
    (h : ∀ w', w'.heap[g]? = some (.cells T 28 (0, 0)) → w.grownBy w' (some g) → wpList Tryz.prog ops Q rest b w') : wpList Tryz.prog ops Q (o :: rest) b w :=
  wpList_store_row' hgd hdst _ x y ho g T hx hy _ old hg (by rw [hT.1]; exact size_tk) (by rw [hold, hT.1]) hT.2 h
/-- a ticket is read -/
theorem wpList_load_tk {ops : Array Oper} {rest : List Oper} {o : Oper} {b : Act} {w : World} {Q : Exit → Act → World → Prop} (hw : Region.wanted o (yielded ops b.tmps) = true) (x : Operand) (ho : o.op = .load 28 x) (g : Nat) (hx : b.eval x = .pointer (some ⟨g, 0, none⟩)) (T : Array Value) (hT : T.size = 20) (hg : w.heap[g]? = some (.cells T 28 (0, 0)))
    (h : wpList Tryz.prog ops Q rest (b.put o.dst (.agg T)) w) : wpList Tryz.prog ops Q (o :: rest) b w :=
  wpList_load_row' hw _ x ho g hx _ T _ _ hg Tryz.underlying28 rfl (by rw [hT]; exact size_tk) h
/-- a ticket and a value are handed back -/
theorem results_tk {fn : Func} {p u : Tmp} (h : fn.results = #[.cell p 28, .tmp u]) (tmps : Array Value) (w : World) (g : Nat) (T : Array Value) (hT : T.size = 20)
    (hp : tmps.getD p undef = .pointer (some ⟨g, 0, none⟩)) (hg : w.heap[g]? = some (.cells T 28 (0, 0))) (v : Value) (hv : tmps.getD u undef = v) : (results fn tmps).run Tryz.prog w = .ok (.tuple #[.agg T, v]) w :=
  results_cell_slot h tmps w g _ T _ _ hp hg Tryz.underlying28 rfl (by rw [hT]; exact size_tk) v hv
/-- a ticket, as a call hands it back: with these parts, or the zero one -/
def TkR (w : World) (T : Array Value) : Option (List UInt8 × List (List UInt8) × Nat × Nat × List UInt8) → Prop
  | none => T = tkz
  | some (r, ps, a, e, key) => ∃ (s : ByteArray) (A : Option Addr) (c : Nat) (ss : List ByteArray), T = tkc s A ss.length c a e (byt key) ∧ SR w (fun _ t => t = 9) A ss ∧ ss.length ≤ c ∧ c ≤ maxLen ∧ bl s = r ∧ bls ss = ps
theorem TkR.size {w : World} {T : Array Value} {o : Option (List UInt8 × List (List UInt8) × Nat × Nat × List UInt8)} (h : TkR w T o) : T.size = 20 ∧ T.all (·.oneCell') = true := by
  match o, h with
  | none, h => rw [show T = tkz from h]; exact ⟨tkc_size _ _ _ _ _ _ _, tkc_one _ _ _ _ _ _ _⟩
  | some (r, ps, a, e, key), ⟨s, A, c, ss, h, _⟩ => rw [h]; exact ⟨tkc_size _ _ _ _ _ _ _, tkc_one _ _ _ _ _ _ _⟩
theorem TkR.ext {w w' : World} {T : Array Value} {o : Option (List UInt8 × List (List UInt8) × Nat × Nat × List UInt8)} (h : TkR w T o) (hx : Ext w w') : TkR w' T o := by
  match o, h with
  | none, h => exact h
  | some (r, ps, a, e, key), ⟨s, A, c, ss, h1, h2, h3⟩ => exact ⟨s, A, c, ss, h1, h2.ext hx, h3⟩
theorem TkR.far {w w' : World} {T : Array Value} {o : Option (List UInt8 × List (List UInt8) × Nat × Nat × List UInt8)} (h : TkR w T o) {g : Nat} {cs : Array Value} {t : TypeId} {fr : Nat × Nat} (hb : w.grownBy w' (some g)) (hg : w.heap[g]? = some (.cells cs t fr)) (ht : t ≠ 9) : TkR w' T o := by
  match o, h with
  | none, h => exact h
  | some (r, ps, a, e, key), ⟨s, A, c, ss, h1, h2, h3⟩ => exact ⟨s, A, c, ss, h1, h2.far hb hg (fun _ h => ht h), h3⟩
/-- the key is copied into a ticket of the call's own -/
theorem tkc_copy (s : ByteArray) (A : Option Addr) (n c : Nat) (a e : Int) (l : List UInt8) (hl : l.length = 16) : ((tkc s A n c a e (fun _ => 0)).toList.take 4 ++ (l.map u8 ++ (tkc s A n c a e (fun _ => 0)).toList.drop (4 + (l.map u8).length))).toArray = tkc s A n c a e (byt l) := by
  unfold tkc
  rw [Array.toList_append, List.length_map, hl]
  apply Array.ext_getElem?
  intro i
  rw [List.getElem?_toArray, List.take_left' (by rfl), List.drop_of_length_le (by rw [List.length_append, Array.length_toList, Array.length_toList, tabV_size]; exact Nat.le_refl _), List.append_nil]
  by_cases hi : i < 4
  · rw [List.getElem?_append_left (by exact hi), Array.getElem?_append_left (by exact hi), Array.getElem?_toList]
  · rw [List.getElem?_append_right (by show 4 ≤ i; omega), Array.getElem?_append_right (by show 4 ≤ i; omega), List.getElem?_map, tabV_get']
    show (l[i - 4]?).map u8 = if i - 4 < 16 then _ else _
    by_cases h2 : i - 4 < 16
    · rw [if_pos h2, List.getElem?_eq_getElem (by omega)]
      show some (u8 _) = _
      unfold u8
      rw [byt_getElem]
      rfl
    · rw [if_neg h2, List.getElem?_eq_none (by omega)]
      rfl
theorem wp_copy_key1 {o : Oper} {b : Act} {w : World} {K : Act → World → Prop} {Q : Exit → Act → World → Prop} (d x : Operand) (dT sT : TypeId)
    (ho : o.op = .call { callee := .builtin .copy, args := #[d, x], argTypes := #[dT, sT] }) (elem : TypeId) (hu : Tryz.prog.underlying dT = some (.slice elem)) (hsz : (Tryz.prog.info? elem).map (·.size) = some 1)
    (g : Nat) (hd : b.eval d = .slice (some ⟨g, 4, none⟩) 16 16) (B : Option Addr) (cc : Nat) (l : List UInt8) (hs : b.eval x = .slice B l.length cc) (s : ByteArray) (A : Option Addr) (n c : Nat) (a e : Int)
    (hg : w.heap[g]? = some (.cells (tkc s A n c a e (fun _ => 0)) 28 (0, 0))) (S : Nat → TypeId → Prop) (hr : RB w S B l) (hl : l.length = 16 ∨ l.length = 0)
    (h : ∀ v w', w'.heap[g]? = some (.cells (tkc s A n c a e (byt l)) 28 (0, 0)) → w.grownBy w' (some g) → K (b.put o.dst v) w') : Oper.wp Tryz.prog o b w K Q := by
  rcases hl with hl | hl
  · obtain ⟨g', off', cs', t', fr', rfl, hh', _, hc'⟩ := hr (by omega)
    have hlen : (l.map u8).length = 16 := by rw [List.length_map]; exact hl
    have hrun := run_copy_row (P := Tryz.prog) w dT sT o.type elem g 4 16 16 ⟨g', off', none⟩ l.length cc (tkc s A n c a e (fun _ => 0)) _ (l.map u8) hu hsz hg (by rw [hlen, hl]; rfl) (fun j v hj => by
      rw [List.getElem?_map] at hj
      obtain ⟨y, hy, rfl⟩ := Option.map_eq_some_iff.1 hj
      rw [(addr_add _ _).2 rfl, cells_of hh']
      exact hc' j y hy) (by rw [hlen, tkc_size]; decide) (u8s_one _)
    rw [List.append_assoc, tkc_copy _ _ _ _ _ _ _ hl] at hrun
    unfold Oper.wp
    simp [execOp, ho, resolve, invoke, builtin, hd, hs, hrun, Result.andThen]
    exact h _ _ (setRow_heap w g _ _ _ _ hg) (grown_setRow g _)
  · have h0 : l = [] := List.eq_nil_of_length_eq_zero hl
    subst h0
    have hrun := run_copy_none (P := Tryz.prog) w dT sT o.type elem (some ⟨g, 4, none⟩) B 16 16 0 cc hu hsz (by rfl)
    unfold Oper.wp
    simp [execOp, ho, resolve, invoke, builtin, hd, hs, hrun, Result.andThen]
    exact h _ _ (by rw [hg]; rfl) (World.grownBy.refl _ _)
theorem wp_copy_key {ops : Array Oper} {rest : List Oper} {o : Oper} {b : Act} {w : World} {Q : Exit → Act → World → Prop} (hgd : o.guard = none) (d x : Operand) (dT sT : TypeId)
    (ho : o.op = .call { callee := .builtin .copy, args := #[d, x], argTypes := #[dT, sT] }) (elem : TypeId) (hu : Tryz.prog.underlying dT = some (.slice elem)) (hsz : (Tryz.prog.info? elem).map (·.size) = some 1)
    (g : Nat) (hd : b.eval d = .slice (some ⟨g, 4, none⟩) 16 16) (B : Option Addr) (cc : Nat) (l : List UInt8) (hs : b.eval x = .slice B l.length cc) (s : ByteArray) (A : Option Addr) (n c : Nat) (a e : Int)
    (hg : w.heap[g]? = some (.cells (tkc s A n c a e (fun _ => 0)) 28 (0, 0))) (S : Nat → TypeId → Prop) (hr : RB w S B l) (hl : l.length = 16 ∨ l.length = 0)
    (h : ∀ w', w'.heap[g]? = some (.cells (tkc s A n c a e (byt l)) 28 (0, 0)) → w.grownBy w' (some g) → wpList Tryz.prog ops Q rest (b.put o.dst (.int .i64 l.length)) w') : wpList Tryz.prog ops Q (o :: rest) b w := by
  rcases hl with hl | hl
  · obtain ⟨g', off', cs', t', fr', rfl, hh', _, hc'⟩ := hr (by omega)
    have hlen : (l.map u8).length = 16 := by rw [List.length_map]; exact hl
    refine wpList_copy_own hgd d x dT sT ho elem hu hsz g 4 16 16 ⟨g', off', none⟩ l.length cc hd hs (tkc s A n c a e (fun _ => 0)) _ hg (l.map u8) (by rw [hlen, hl]; rfl) (fun j v hj => ?_) (by rw [hlen, tkc_size]; decide) (u8s_one _) ?_
    · rw [List.getElem?_map] at hj
      obtain ⟨y, hy, rfl⟩ := Option.map_eq_some_iff.1 hj
      rw [(addr_add _ _).2 rfl, cells_of hh']
      exact hc' j y hy
    · rw [tkc_copy _ _ _ _ _ _ _ hl, hlen, ← hl]
      exact h _ (setRow_heap w g _ _ _ _ hg) (grown_setRow g _)
  · have h0 : l = [] := List.eq_nil_of_length_eq_zero hl
    subst h0
    refine wpList_copy_nothing hgd d x dT sT ho elem hu hsz _ B 16 16 _ cc hd hs (by simp) (h w ?_ (World.grownBy.refl _ _))
    rw [hg]
    rfl
/-- the end of a slice -/
theorem run_slice_lo {P : Program} {t e : TypeId} (hu : P.underlying t = some (.slice e)) (hs : (P.info? e).map (·.size) = some 1) (g off len cap lo : Nat) (h1 : lo ≤ len) (h2 : lo < cap) (i : Int) (hi : i = lo) (W : World) :
    (Instr.sliceAt t (.slice (some ⟨g, off, none⟩) len cap) (some (.int .i64 i)) none none).run P W = .ok (.slice (some ⟨g, off + lo, none⟩) (len - lo) (cap - lo)) W := by
  subst hi
  cases hq : P.info? e with
  | none => simp [hq] at hs
  | some ie =>
    have hsz : ie.size = 1 := by simpa [hq] using hs
    have a1 : ¬ cap = lo := by omega
    have a3 : (lo : Int) ≤ (len : Int) := by omega
    have a4 : (⟨g, off, none⟩ : Addr).add lo = ⟨g, off + lo, none⟩ := (addr_add _ _).2 rfl
    rw [show (Instr.sliceAt t (.slice (some ⟨g, off, none⟩) len cap) (some (.int .i64 (lo : Int))) none none).run P W = (Instr.slice t (.slice (some ⟨g, off, none⟩) len cap) (some (.int .i64 (lo : Int))) none none).run P W by simp [Instr.sliceAt, run_underlying hu]]
    simp only [Instr.slice, Sem.run_bind, run_underlying hu, Result.andThen_ok, Instr.sliceBounds, Sem.run_pure]
    simp [run_sliceBound W .i64 (lo : Int) len _ (Int.natCast_nonneg _) a3, sizeOf, typeInfo, hq, hsz, a1, a4]
theorem rb_end {w : World} {S : Nat → TypeId → Prop} {g off : Nat} {l : List UInt8} (h : RB w S (some ⟨g, off, none⟩) l) (k : Nat) : RB w S (some ⟨g, off + k, none⟩) (l.drop k) := by
  have := h.drop (k := k) (cap := l.length + k + 1) (by omega)
  rw [if_neg (by omega)] at this
  have e : (some ⟨g, off, none⟩ : Option Addr).map (·.add k) = some ⟨g, off + k, none⟩ := by rw [Option.map_some, (addr_add _ _).2 rfl]
  rw [e] at this
  exact this
theorem wp_load_rng1 {P : Program} {w : World} {o : Oper} {a : Act} {K : Act → World → Prop} {Q : Exit → Act → World → Prop} (ty : TypeId) (x : Operand) (ho : o.op = .load ty x) (g off : Nat) (hx : a.eval x = .pointer (some ⟨g, off, none⟩)) (k : IntKind) (n : Nat) (f : Nat → Nat) (e : TypeId)
    (hr : w.rangeAt g off (tabV k n f).toList) (hu : P.underlying ty = some (.array n e)) (hz : (P.info? ty).map (·.size) = some n) (h : K (a.put o.dst (.agg (tabV k n f))) w) : o.wp P a w K Q := by
  refine wp_load_mid ty x ho g off hx (tabV k n f).toList _ hr hu rfl (by rw [Array.length_toList, tabV_size]; exact hz) ?_
  rw [Array.toArray_toList]
  exact h
theorem wp_build_four1 {P : Program} {w : World} {o : Oper} {a : Act} {K : Act → World → Prop} {Q : Exit → Act → World → Prop} (t : TypeId) (x y z k : Operand) (ho : o.op = .build t #[(0, x), (1, y), (2, z), (3, k)]) (u v r s : Value) (hx : a.eval x = u) (hy : a.eval y = v) (hz : a.eval z = r) (hk : a.eval k = s) (cs : Array Value)
    (hf : P.built t [(0, u), (1, v), (2, r), (3, s)] = some cs) (h : K (a.put o.dst (.agg cs)) w) : o.wp P a w K Q := by
  have e : P.built t ((#[(0, x), (1, y), (2, z), (3, k)] : Array (Nat × Operand)).map fun (i, z) => (i, a.eval z)).toList = some cs := by
    simp only [List.map_toArray, List.map_cons, List.map_nil, hx, hy, hz, hk]
    exact hf
  exact wp_build t _ ho (by rw [e]; rfl) (by rw [e]; exact h)
end Go.Proofs.YtagegigffohcbaaGreatDoor
