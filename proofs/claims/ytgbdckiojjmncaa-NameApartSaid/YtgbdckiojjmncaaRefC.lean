/-
  Package tollref01 (the reference), reading: Take, Number, String.
-/
import Derived.Test.YtgbdckiojjmncaaWireC
import Derived.Test.YtgbdckiojjmncaaBytC
import Derived.Deep.RegionHeld3
namespace Go.Proofs.Ytgbdckiojjmncaa
open Go.RowKit

set_option maxHeartbeats 400000 in
theorem rfail_c (w : World) : Calls Try.prog 51 #[] w fun e w' => e = .returned (.agg #[.slice none 0 0, .bool true]) ∧ Ext w w' := by
  go_enter Try.func51, Try.ntmps51
  go_wp2
  exact bodyPost_ret (v := .agg #[.slice none 0 0, .bool true]) (by simp [results, Try.results51, go_sem]) rfl ⟨rfl, Ext.alloc _ _⟩

set_option maxHeartbeats 1000000 in
theorem rtake_no (A : Option Addr) (c : Nat) (l : List UInt8) (bad : Bool) (n : Int) (w : World) (hb : -9223372036854775808 ≤ n ∧ n ≤ 9223372036854775807) (_hl : l.length ≤ 140737488355328) (hn : bad = true ∨ n < 0 ∨ (l.length : Int) < n) :
    Calls Try.prog 52 #[.agg #[.slice A l.length c, .bool bad], .int .i64 n] w fun e w' => e = .returned (.tuple #[.agg #[.slice none 0 0, .bool true], .slice none 0 0]) ∧ Ext w w' := by
  obtain ⟨hb1, hb2⟩ := hb
  have h' : bad = true ∨ (bad = false ∧ n < 0) ∨ (bad = false ∧ 0 ≤ n ∧ (l.length : Int) < n) := by cases bad <;> simp_all <;> omega
  clear hn
  rcases h' with rfl | ⟨rfl, h1⟩ | ⟨rfl, h1, h2⟩
  all_goals
    go_enter Try.func52, Try.ntmps52
    go_wp2_with fail
    refine (rfail_c _).mono ?_
    rintro e w1 ⟨rfl, hx⟩
    have hd := hx.get (two_new _ _ _).2
    have c0 : w1.cell? ⟨w.heap.size + 1, 0, none⟩ = some (.slice none 0 0) := cells_of hd 0
    have c1 : w1.cell? ⟨w.heap.size + 1, 1, none⟩ = some (.bool false) := cells_of hd 1
    have f0 : w1.frozen? ⟨w.heap.size + 1, 0, none⟩ = false := free_of hd 0
    have f1 : w1.frozen? ⟨w.heap.size + 1, 1, none⟩ = false := free_of hd 1
    have hx0 : Ext w w1 := ((Ext.alloc _ _).tr (Ext.alloc _ _)).tr hx
    have HX := Lib.hid hx0
    have HD := Lib.hid hd
    clear hx hx0 hd
    go_wp2_with fail
    have q1 := set_of HD.out 0 (.slice none 0 0)
    have q2 := set_of q1 1 (.bool true)
    have e1 := cells_of q2 0
    have e2 := cells_of q2 1
    simp at e1 e2
    refine bodyPost_ret (v := .tuple #[.agg #[.slice none 0 0, .bool true], .slice none 0 0]) (by simp [results, Try.results52, go_sem, e1, e2]) rfl ⟨rfl, ?_⟩
    repeat (first | exact HX.out | refine Below.setCell ?_ (by simp) _)

set_option maxHeartbeats 1000000 in
theorem rtake_c (A : Option Addr) (c : Nat) (l : List UInt8) (S : Nat → TypeId → Prop) (n : Nat) (w : World) (h : RB w S A l) (hc : l.length ≤ c) (hm : c ≤ maxLen) (hl : l.length ≤ 140737488355328) (hn : n ≤ l.length) :
    Calls Try.prog 52 #[.agg #[.slice A l.length c, .bool false], .int .i64 n] w fun e w' => ∃ A1 c1 A2 c2, e = .returned (.tuple #[.agg #[.slice A1 (l.drop n).length c1, .bool false], .slice A2 (l.take n).length c2]) ∧
      RB w' S A1 (l.drop n) ∧ (l.drop n).length ≤ c1 ∧ c1 ≤ maxLen ∧ OwnB w' 5 w.heap.size A2 c2 (l.take n) ∧ Ext w w' := by
  obtain ⟨i0, hi0, hz0, hz1, hz2⟩ := info_parts info_u8
  unfold maxLen at hm
  have H := Lib.hid h
  clear h
  go_enter Try.func52, Try.ntmps52
  go_wp2_with fail
  obtain ⟨W, hW⟩ : ∃ W, W = (w.alloc (.cells #[.slice A l.length c, .bool false] 41)).alloc (.cells #[.slice none 0 0, .bool false] 41) := ⟨_, rfl⟩
  obtain ⟨d0, d1⟩ := two_new w (.cells #[.slice A l.length c, .bool false] 41) (.cells #[.slice none 0 0, .bool false] 41)
  have hx0 : Ext w W := by rw [hW]; exact (Ext.alloc _ _).tr (Ext.alloc _ _)
  rw [← hW] at d0 d1 ⊢
  have a0 : W.cell? ⟨w.heap.size, 0, none⟩ = some (.slice A l.length c) := cells_of d0 0
  have b0 : W.cell? ⟨w.heap.size + 1, 0, none⟩ = some (.slice none 0 0) := cells_of d1 0
  have b1 : W.cell? ⟨w.heap.size + 1, 1, none⟩ = some (.bool false) := cells_of d1 1
  have f0 : W.frozen? ⟨w.heap.size + 1, 0, none⟩ = false := free_of d1 0
  have f1 : W.frozen? ⟨w.heap.size + 1, 1, none⟩ = false := free_of d1 1
  have hlt := lt_of_some d1
  have HX := Lib.hid hx0
  have D0 := Lib.hid d0
  have D1 := Lib.hid d1
  clear hW d0 d1 hx0
  have n0 : (0 : Int) ≤ (n : Int) := Int.natCast_nonneg _
  have n1 : (n : Int) ≤ (l.length : Int) := by omega
  have n2 : (l.length : Int) ≤ (c : Int) := by omega
  have n3 : (n : Int) ≤ (c : Int) := by omega
  have hown : OwnB (W.alloc (.cells #[] 5)).drew 5 w.heap.size (some ⟨W.heap.size, 0, none⟩) 0 [] :=
    (OwnB.lit (w := W) (E := 5) (base := w.heap.size) [] #[] rfl HX.out.size (by simp [maxLen])).ext (Ext.drew _)
  have hln : (l.take n).length = n := by rw [List.length_take]; omega
  have hsrc : RB (W.alloc (.cells #[] 5)).drew S A (l.take n) := (((H.out.ext HX.out).ext (Ext.alloc _ _)).ext (Ext.drew _)).take n
  have hbound : ([] : List UInt8).length + n ≤ 140737488355328 := by simp; omega
  have hsz : w.heap.size ≤ (W.alloc (.cells #[] 5)).drew.heap.size := ((HX.out.tr (Ext.alloc _ _)).tr (Ext.drew _)).size
  by_cases hcn : c = n
  · obtain rfl : c = n := hcn
    go_region_held3 (fun V => V.cell? ⟨w.heap.size, 0, none⟩ = some (.slice A l.length c)) (first | (exact g0) | go_keep)
      (first
        | (refine step_append_bytes _ (by rfl) _ _ _ (by rfl) w.heap.size 5 i0 Try.underlying28 hi0 hz0 hz1 hz2 (some ⟨W.heap.size, 0, none⟩) 0 [] (by rfl) hown S A c c (l.take c) (by rfl) hln hsrc hbound hsz ?_
           intro A' c' w2 ho2 hg2 hb2
           have x2 : Ext W w2 := grown_new ((Ext.alloc W (.cells #[] 5)).tr (Ext.drew _)) hg2 (fun g hg => by simp [Value.ownBlock] at hg; omega)
           have g0 : w2.cell? ⟨w.heap.size, 0, none⟩ = some (.slice A l.length c) := cells_of (x2.get D0.out) 0
           have g1 : w2.cell? ⟨w.heap.size + 1, 0, none⟩ = some (.slice none 0 0) := cells_of (x2.get D1.out) 0
           have g2 : w2.cell? ⟨w.heap.size + 1, 1, none⟩ = some (.bool false) := cells_of (x2.get D1.out) 1
           have g3 : w2.frozen? ⟨w.heap.size + 1, 0, none⟩ = false := free_of (x2.get D1.out) 0
           have g4 : w2.frozen? ⟨w.heap.size + 1, 1, none⟩ = false := free_of (x2.get D1.out) 1))
    go_wp2_with fail
    have hd := H.out.drop (k := c) hc
    rw [if_pos rfl] at hd
    have D2 := x2.get D1.out
    have q1 := set_of D2 0 (.slice A 0 0)
    have q2 := set_of q1 1 (.bool false)
    have e1 := cells_of q2 0
    have e2 := cells_of q2 1
    simp at e1 e2
    have hg3 : w2.grownBy ((w2.setCell ⟨w.heap.size + 1, 0, none⟩ (.slice A 0 0)).setCell ⟨w.heap.size + 1, 1, none⟩ (.bool false)) (some (w.heap.size + 1)) := grown_tr (grown_set _ rfl _) (grown_set _ rfl _)
    have x3 := grown_new (HX.out.tr x2) hg3 (fun g hg => by simp at hg; omega)
    have hln2 : (l.drop c).length = 0 := by rw [List.length_drop]; omega
    refine bodyPost_ret (v := .tuple #[.agg #[.slice A 0 0, .bool false], .slice A' c c']) (by simp [results, Try.results52, go_sem, e1, e2]) rfl ⟨A, 0, A', c', by rw [hln2, hln], hd.ext x3, by omega, by unfold maxLen; omega, ho2.far hg3 D2 (by decide), x3⟩
  · go_region_held3 (fun V => V.cell? ⟨w.heap.size, 0, none⟩ = some (.slice A l.length c)) (first | (exact g0) | go_keep)
      (first
        | (refine step_append_bytes _ (by rfl) _ _ _ (by rfl) w.heap.size 5 i0 Try.underlying28 hi0 hz0 hz1 hz2 (some ⟨W.heap.size, 0, none⟩) 0 [] (by rfl) hown S A n c (l.take n) (by rfl) hln hsrc hbound hsz ?_
           intro A' c' w2 ho2 hg2 hb2
           have x2 : Ext W w2 := grown_new ((Ext.alloc W (.cells #[] 5)).tr (Ext.drew _)) hg2 (fun g hg => by simp [Value.ownBlock] at hg; omega)
           have g0 : w2.cell? ⟨w.heap.size, 0, none⟩ = some (.slice A l.length c) := cells_of (x2.get D0.out) 0
           have g1 : w2.cell? ⟨w.heap.size + 1, 0, none⟩ = some (.slice none 0 0) := cells_of (x2.get D1.out) 0
           have g2 : w2.cell? ⟨w.heap.size + 1, 1, none⟩ = some (.bool false) := cells_of (x2.get D1.out) 1
           have g3 : w2.frozen? ⟨w.heap.size + 1, 0, none⟩ = false := free_of (x2.get D1.out) 0
           have g4 : w2.frozen? ⟨w.heap.size + 1, 1, none⟩ = false := free_of (x2.get D1.out) 1))
    go_wp2_with fail
    have hd := H.out.drop (k := n) hc
    rw [if_neg hcn] at hd
    obtain ⟨A3, hA3⟩ : ∃ A3, A3 = A.map (·.add n) := ⟨_, rfl⟩
    rw [← hA3] at hd ⊢
    have D2 := x2.get D1.out
    have q1 := set_of D2 0 (.slice A3 (l.length - n) (c - n))
    have q2 := set_of q1 1 (.bool false)
    have e1 := cells_of q2 0
    have e2 := cells_of q2 1
    simp at e1 e2
    have hg3 : w2.grownBy ((w2.setCell ⟨w.heap.size + 1, 0, none⟩ (.slice A3 (l.length - n) (c - n))).setCell ⟨w.heap.size + 1, 1, none⟩ (.bool false)) (some (w.heap.size + 1)) := grown_tr (grown_set _ rfl _) (grown_set _ rfl _)
    have x3 := grown_new (HX.out.tr x2) hg3 (fun g hg => by simp at hg; omega)
    have hln2 : (l.drop n).length = l.length - n := by rw [List.length_drop]
    refine bodyPost_ret (v := .tuple #[.agg #[.slice A3 (l.length - n) (c - n), .bool false], .slice A' n c']) (by simp [results, Try.results52, go_sem, e1, e2]) rfl ⟨A3, c - n, A', c', by rw [hln2, hln], hd.ext x3, by omega, by unfold maxLen; omega, ho2.far hg3 D2 (by decide), x3⟩

end Go.Proofs.Ytgbdckiojjmncaa
