/-
  NameApart: the walk.
-/
import Derived.Test.YtgbdckiojjmncaaNamV
import Derived.Test.YtgbdckiojjmncaaNamO
namespace Go.Proofs.Ytgbdckiojjmncaa
open Go.RowKit
set_option linter.unusedVariables false

theorem nbs_len {r : List UInt8} {ps : List (List UInt8)} (h : vl r ps = true) : (nbs r ps).length ≤ 10000 := by
  obtain ⟨h1, h2, h3, h4⟩ := vl_parts h
  have k1 := flatMap_take_len ps (fun p hp => (wd_len (h3 p hp)).2)
  have k2 := (wd_len h4).2
  unfold nbs
  rw [List.length_append, List.length_append, nb_length]
  unfold fl at k1 ⊢
  rw [List.length_append, nb_length]
  omega
theorem sm_nbs {s t : ByteArray} {ss tt : List ByteArray} (h1 : vl (bl s) (bls ss) = true) (h2 : vl (bl t) (bls tt) = true) : decide (nbs (bl s) (bls ss) = nbs (bl t) (bls tt)) = sm s ss t tt ∧
    ∀ n, n = min (nbs (bl s) (bls ss)).length (nbs (bl t) (bls tt)).length → decide ((nbs (bl s) (bls ss)).take n = (nbs (bl t) (bls tt)).take n) = sm s ss t tt := by
  cases h : sm s ss t tt with
  | true =>
    obtain ⟨rfl, rfl⟩ := sm_eq h
    exact ⟨by simp, fun n _ => by simp⟩
  | false =>
    have no : ∀ n, n = min (nbs (bl s) (bls ss)).length (nbs (bl t) (bls tt)).length → ¬ (nbs (bl s) (bls ss)).take n = (nbs (bl t) (bls tt)).take n := by
      intro n hn e
      obtain ⟨e1, e2⟩ := nbs_apart h1 h2 hn e
      rw [sm_t e1 e2] at h
      cases h
    exact ⟨decide_eq_false (fun e => no _ rfl (by rw [e])), fun n hn => decide_eq_false (no n hn)⟩

set_option maxRecDepth 100000 in
set_option maxHeartbeats 4000000 in
theorem nameApart_walk (va : Value) (s : ByteArray) (A : Option Addr) (c : Nat) (ss : List ByteArray) (vb : Value) (t : ByteArray) (B : Option Addr) (d : Nat) (tt : List ByteArray) (w : World) (ha : IsName w va s A c ss) (hb : IsName w vb t B d tt) :
    Calls Try.prog 6 #[va, vb] w fun e w' => e = .returned (.bool true) ∧ Ext w w' := by
  obtain ⟨rfl, hsr, hlc, hcm, hss, hst⟩ := ha
  obtain ⟨rfl, hsr', hlc', hcm', hss', hst'⟩ := hb
  unfold maxLen at hcm hss hst hcm' hss' hst'
  have hn1 : ss.length ≤ 9223372036854775807 := by omega
  have hn2 : tt.length ≤ 9223372036854775807 := by omega
  obtain ⟨w1, hw1⟩ : ∃ w1 : World, w1 = (w.alloc (.cells #[.string s, .slice A ss.length c] 24)).alloc (.cells #[.string t, .slice B tt.length d] 24) := ⟨_, rfl⟩
  have X0 := Lib.hid (show Ext w w1 by rw [hw1]; exact (Ext.alloc _ _).tr (Ext.alloc _ _))
  have D1 := Lib.hid (show w1.heap[w.heap.size]? = some (.cells #[.string s, .slice A ss.length c] 24 (0, 0)) by rw [hw1]; exact (two_new _ _ _).1)
  have D2 := Lib.hid (show w1.heap[w.heap.size + 1]? = some (.cells #[.string t, .slice B tt.length d] 24 (0, 0)) by rw [hw1]; exact (two_new _ _ _).2)
  have S1 := Lib.hid (hsr.ext X0.out)
  have S2 := Lib.hid (hsr'.ext X0.out)
  have W1 := Lib.hid hw1
  have hf1 := fun W (hx : Ext w1 W) => few_c s A c ss _ W (S1.out.ext hx) hn1
  have hf2 := fun W (hx : Ext w1 W) => few_c t B d tt _ W (S2.out.ext hx) hn2
  have hv1 := fun W (hx : Ext w1 W) => rvalid_c s A c ss _ W (S1.out.ext hx) hss hst hn1
  have hv2 := fun W (hx : Ext w1 W) => rvalid_c t B d tt _ W (S2.out.ext hx) hss' hst' hn2
  have hb1 := fun W (hx : Ext w1 W) => nbytes_c s A c ss _ W (S1.out.ext hx) hss hst hn1
  have hb2 := fun W (hx : Ext w1 W) => nbytes_c t B d tt _ W (S2.out.ext hx) hss' hst' hn2
  have hsa := fun W (hx : Ext w1 W) => rnsame_c s t A B c d ss tt _ _ W (S1.out.ext hx) (S2.out.ext hx) hn1 hn2
  have hnn := sm_nbs (s := s) (t := t) (ss := ss) (tt := tt)
  obtain ⟨fa, hfa⟩ : ∃ fa, fa = few s ss := ⟨_, rfl⟩
  obtain ⟨fb, hfb⟩ : ∃ fb, fb = few t tt := ⟨_, rfl⟩
  obtain ⟨va, hva⟩ : ∃ va, va = vl (bl s) (bls ss) := ⟨_, rfl⟩
  obtain ⟨vb, hvb⟩ : ∃ vb, vb = vl (bl t) (bls tt) := ⟨_, rfl⟩
  obtain ⟨β, hβ⟩ : ∃ β, β = sm s ss t tt := ⟨_, rfl⟩
  obtain ⟨x, hx⟩ : ∃ x, x = nbs (bl s) (bls ss) := ⟨_, rfl⟩
  obtain ⟨y, hy⟩ : ∃ y, y = nbs (bl t) (bls tt) := ⟨_, rfl⟩
  rw [← hfa] at hf1
  rw [← hfb] at hf2
  rw [← hva] at hv1 hb1
  rw [← hvb] at hv2 hb2
  rw [← hx] at hb1
  rw [← hy] at hb2
  rw [← hβ] at hsa
  rw [← hx, ← hy, ← hβ, ← hva, ← hvb] at hnn
  have F1 := Lib.hid hf1
  have F2 := Lib.hid hf2
  have V1 := Lib.hid hv1
  have V2 := Lib.hid hv2
  have B1 := Lib.hid hb1
  have B2 := Lib.hid hb2
  have SA := Lib.hid hsa
  have NN := Lib.hid hnn
  have L1 := Lib.hid (show x.length ≤ 10000 ∨ va = false by
    cases h : va with
    | false => exact .inr rfl
    | true => exact .inl (by rw [hx]; exact nbs_len (by rw [← hva]; exact h)))
  have L2 := Lib.hid (show y.length ≤ 10000 ∨ vb = false by
    cases h : vb with
    | false => exact .inr rfl
    | true => exact .inl (by rw [hy]; exact nbs_len (by rw [← hvb]; exact h)))
  clear hsr hsr' hw1 hf1 hf2 hv1 hv2 hb1 hb2 hsa hnn hfa hfb hva hvb hβ hx hy hlc hlc' hcm hcm' hss hss' hst hst' hn1 hn2
  go_enter Try.func6, Try.ntmps6
  go_wp2_with fail
  rw [← W1.out]
  refine (awake_c w1).mono ?_
  rintro e w2 ⟨rfl, hx2⟩
  have X2 := Lib.hid hx2
  have a0 : w2.cell? ⟨w.heap.size, 0, none⟩ = some (.string s) := cells_of ((X2.out).get D1.out) 0
  have a1 : w2.cell? ⟨w.heap.size, 1, none⟩ = some (.slice A ss.length c) := cells_of ((X2.out).get D1.out) 1
  have a2 : w2.cell? ⟨w.heap.size + 1, 0, none⟩ = some (.string t) := cells_of ((X2.out).get D2.out) 0
  have a3 : w2.cell? ⟨w.heap.size + 1, 1, none⟩ = some (.slice B tt.length d) := cells_of ((X2.out).get D2.out) 1
  clear hx2
  go_wp2_with fail
  refine (F1.out w2 X2.out).mono ?_
  rintro e w3 ⟨rfl, hx3⟩
  have X3 := Lib.hid (X2.out.tr hx3)
  have b0 : w3.cell? ⟨w.heap.size, 0, none⟩ = some (.string s) := cells_of ((X3.out).get D1.out) 0
  have b1 : w3.cell? ⟨w.heap.size, 1, none⟩ = some (.slice A ss.length c) := cells_of ((X3.out).get D1.out) 1
  have b2 : w3.cell? ⟨w.heap.size + 1, 0, none⟩ = some (.string t) := cells_of ((X3.out).get D2.out) 0
  have b3 : w3.cell? ⟨w.heap.size + 1, 1, none⟩ = some (.slice B tt.length d) := cells_of ((X3.out).get D2.out) 1
  clear hx3 a0 a1 a2 a3
  cases fa with
  | false =>
    go_wp2_with fail
    refine (awake_c _).mono ?_
    rintro e w9 ⟨rfl, hx9⟩
    go_wp2_with fail
    go_ret
    exact ⟨rfl, X0.out.tr (X3.out.tr hx9)⟩
  | true =>
    go_wp2_with fail
    refine (F2.out w3 X3.out).mono ?_
    rintro e w4 ⟨rfl, hx4⟩
    have X4 := Lib.hid (X3.out.tr hx4)
    have a0 : w4.cell? ⟨w.heap.size, 0, none⟩ = some (.string s) := cells_of ((X4.out).get D1.out) 0
    have a1 : w4.cell? ⟨w.heap.size, 1, none⟩ = some (.slice A ss.length c) := cells_of ((X4.out).get D1.out) 1
    have a2 : w4.cell? ⟨w.heap.size + 1, 0, none⟩ = some (.string t) := cells_of ((X4.out).get D2.out) 0
    have a3 : w4.cell? ⟨w.heap.size + 1, 1, none⟩ = some (.slice B tt.length d) := cells_of ((X4.out).get D2.out) 1
    clear hx4 b0 b1 b2 b3
    cases fb with
    | false =>
      go_wp2_with fail
      refine (awake_c _).mono ?_
      rintro e w9 ⟨rfl, hx9⟩
      go_wp2_with fail
      go_ret
      exact ⟨rfl, X0.out.tr (X4.out.tr hx9)⟩
    | true =>
      go_wp2_with fail
      refine (V1.out w4 X4.out).mono ?_
      rintro e w5 ⟨rfl, hx5⟩
      have X5 := Lib.hid (X4.out.tr hx5)
      have b0 : w5.cell? ⟨w.heap.size, 0, none⟩ = some (.string s) := cells_of ((X5.out).get D1.out) 0
      have b1 : w5.cell? ⟨w.heap.size, 1, none⟩ = some (.slice A ss.length c) := cells_of ((X5.out).get D1.out) 1
      have b2 : w5.cell? ⟨w.heap.size + 1, 0, none⟩ = some (.string t) := cells_of ((X5.out).get D2.out) 0
      have b3 : w5.cell? ⟨w.heap.size + 1, 1, none⟩ = some (.slice B tt.length d) := cells_of ((X5.out).get D2.out) 1
      clear hx5 a0 a1 a2 a3
      cases va with
      | false =>
        go_wp2_with fail
        refine (awake_c _).mono ?_
        rintro e w9 ⟨rfl, hx9⟩
        go_wp2_with fail
        go_ret
        exact ⟨rfl, X0.out.tr (X5.out.tr hx9)⟩
      | true =>
        go_wp2_with fail
        refine (V2.out w5 X5.out).mono ?_
        rintro e w6 ⟨rfl, hx6⟩
        have X6 := Lib.hid (X5.out.tr hx6)
        have a0 : w6.cell? ⟨w.heap.size, 0, none⟩ = some (.string s) := cells_of ((X6.out).get D1.out) 0
        have a1 : w6.cell? ⟨w.heap.size, 1, none⟩ = some (.slice A ss.length c) := cells_of ((X6.out).get D1.out) 1
        have a2 : w6.cell? ⟨w.heap.size + 1, 0, none⟩ = some (.string t) := cells_of ((X6.out).get D2.out) 0
        have a3 : w6.cell? ⟨w.heap.size + 1, 1, none⟩ = some (.slice B tt.length d) := cells_of ((X6.out).get D2.out) 1
        clear hx6 b0 b1 b2 b3
        cases vb with
        | false =>
          go_wp2_with fail
          refine (awake_c _).mono ?_
          rintro e w9 ⟨rfl, hx9⟩
          go_wp2_with fail
          go_ret
          exact ⟨rfl, X0.out.tr (X6.out.tr hx9)⟩
        | true =>
          have hnn := NN.out trivial rfl
          have hl1 : x.length ≤ 10000 := by rcases L1.out with h | h; exact h; cases h
          have hl2 : y.length ≤ 10000 := by rcases L2.out with h | h; exact h; cases h
          have NB := Lib.hid hnn
          clear hnn F1 F2 V1 V2 NN L1 L2
          go_wp2_with fail
          refine (B1.out w6 X6.out trivial).mono ?_
          rintro e w7 ⟨P, p, rfl, hob, hx7⟩
          have X7 := Lib.hid (X6.out.tr hx7)
          have O7 := Lib.hid hob
          have hp := hob.le
          have b0 : w7.cell? ⟨w.heap.size, 0, none⟩ = some (.string s) := cells_of ((X7.out).get D1.out) 0
          have b1 : w7.cell? ⟨w.heap.size, 1, none⟩ = some (.slice A ss.length c) := cells_of ((X7.out).get D1.out) 1
          have b2 : w7.cell? ⟨w.heap.size + 1, 0, none⟩ = some (.string t) := cells_of ((X7.out).get D2.out) 0
          have b3 : w7.cell? ⟨w.heap.size + 1, 1, none⟩ = some (.slice B tt.length d) := cells_of ((X7.out).get D2.out) 1
          clear hx7 hob a0 a1 a2 a3
          go_wp2_with fail
          refine (B2.out w7 X7.out trivial).mono ?_
          rintro e w8 ⟨Q, q, rfl, hob, hx8⟩
          have X8 := Lib.hid (X7.out.tr hx8)
          have O8 := Lib.hid (O7.out.ext hx8)
          have Q8 := Lib.hid hob
          have hq := hob.le
          have a0 : w8.cell? ⟨w.heap.size, 0, none⟩ = some (.string s) := cells_of ((X8.out).get D1.out) 0
          have a1 : w8.cell? ⟨w.heap.size, 1, none⟩ = some (.slice A ss.length c) := cells_of ((X8.out).get D1.out) 1
          have a2 : w8.cell? ⟨w.heap.size + 1, 0, none⟩ = some (.string t) := cells_of ((X8.out).get D2.out) 0
          have a3 : w8.cell? ⟨w.heap.size + 1, 1, none⟩ = some (.slice B tt.length d) := cells_of ((X8.out).get D2.out) 1
          clear hx8 hob b0 b1 b2 b3 O7 B1 B2
          unfold maxLen at hp hq
          obtain ⟨n, hn⟩ : ∃ n : Nat, n = min x.length y.length := ⟨_, rfl⟩
          have hn1 : n ≤ x.length := by rw [hn]; exact Nat.min_le_left _ _
          have hn2 : n ≤ y.length := by rw [hn]; exact Nat.min_le_right _ _
          have hmin : min (x.length : Int) (y.length : Int) = (n : Int) := by omega
          have q1 : (n : Int) ≤ (p : Int) := by omega
          have q2 : (n : Int) ≤ (q : Int) := by omega
          have hta : (x.take n).length = n := by rw [List.length_take]; omega
          have htb : (y.take n).length = n := by rw [List.length_take]; omega
          have hs1 := fun W (hx : Ext w8 W) => same_c P Q x y p q _ _ W (O8.out.rb.ext hx) (Q8.out.rb.ext hx) (by omega)
          have hs2 := fun W (hx : Ext w8 W) => same_c P Q (x.take n) (y.take n) p q _ _ W ((O8.out.rb.ext hx).take n) ((Q8.out.rb.ext hx).take n) (by omega)
          have hs3 := fun W (hx : Ext w8 W) => SA.out W (X8.out.tr hx)
          rw [NB.out.1] at hs1
          rw [NB.out.2 n hn, hta, htb] at hs2
          have Q1 := Lib.hid hs1
          have Q2 := Lib.hid hs2
          have Q3 := Lib.hid hs3
          clear hs1 hs2 hs3 hta htb hn NB O8 Q8 SA
          have x0 := Ext.drew w8
          have K0 := Lib.hid (show w8.drew.cell? ⟨w.heap.size, 0, none⟩ = some (.string s) ∧ w8.drew.cell? ⟨w.heap.size, 1, none⟩ = some (.slice A ss.length c) ∧ w8.drew.cell? ⟨w.heap.size + 1, 0, none⟩ = some (.string t) ∧ w8.drew.cell? ⟨w.heap.size + 1, 1, none⟩ = some (.slice B tt.length d) from ⟨cells_of ((X8.out.tr (Ext.drew w8)).get D1.out) 0, cells_of ((X8.out.tr (Ext.drew w8)).get D1.out) 1, cells_of ((X8.out.tr (Ext.drew w8)).get D2.out) 0, cells_of ((X8.out.tr (Ext.drew w8)).get D2.out) 1⟩)
          go_wp2_with fail
          go_region_held3 (fun W => W.cell? ⟨w.heap.size, 0, none⟩ = some (.string s) ∧ W.cell? ⟨w.heap.size, 1, none⟩ = some (.slice A ss.length c) ∧ W.cell? ⟨w.heap.size + 1, 0, none⟩ = some (.string t) ∧ W.cell? ⟨w.heap.size + 1, 1, none⟩ = some (.slice B tt.length d)) (first | exact K5.out | exact K4.out | exact K3.out | exact K2.out | exact K0.out)
            (first
              | (go_at_call 17
                 with_reducible refine (Q1.out _ x0).mono ?_
                 rintro e y2 ⟨rfl, hh2⟩
                 have x2 : Ext w8 y2 := by obtain ⟨nn, hnn⟩ := hh2; rw [hnn]; exact x0.tr (Ext.drewN _ _)
                 have K2 := Lib.hid (show y2.cell? ⟨w.heap.size, 0, none⟩ = some (.string s) ∧ y2.cell? ⟨w.heap.size, 1, none⟩ = some (.slice A ss.length c) ∧ y2.cell? ⟨w.heap.size + 1, 0, none⟩ = some (.string t) ∧ y2.cell? ⟨w.heap.size + 1, 1, none⟩ = some (.slice B tt.length d) from ⟨cells_of ((X8.out.tr x2).get D1.out) 0, cells_of ((X8.out.tr x2).get D1.out) 1, cells_of ((X8.out.tr x2).get D2.out) 0, cells_of ((X8.out.tr x2).get D2.out) 1⟩)
                 clear hh2)
              | (go_at_call 19
                 with_reducible refine (Q3.out _ x2).mono ?_
                 rintro e y3 ⟨rfl, h3⟩
                 have x3 := x2.tr h3
                 have K3 := Lib.hid (show y3.cell? ⟨w.heap.size, 0, none⟩ = some (.string s) ∧ y3.cell? ⟨w.heap.size, 1, none⟩ = some (.slice A ss.length c) ∧ y3.cell? ⟨w.heap.size + 1, 0, none⟩ = some (.string t) ∧ y3.cell? ⟨w.heap.size + 1, 1, none⟩ = some (.slice B tt.length d) from ⟨cells_of ((X8.out.tr x3).get D1.out) 0, cells_of ((X8.out.tr x3).get D1.out) 1, cells_of ((X8.out.tr x3).get D2.out) 0, cells_of ((X8.out.tr x3).get D2.out) 1⟩)
                 clear h3)
              | (go_at_call 17
                 with_reducible refine (Q2.out _ x3).mono ?_
                 rintro e y4 ⟨rfl, hh4⟩
                 have x4 : Ext w8 y4 := by obtain ⟨nn, hnn⟩ := hh4; rw [hnn]; exact x3.tr (Ext.drewN _ _)
                 have K4 := Lib.hid (show y4.cell? ⟨w.heap.size, 0, none⟩ = some (.string s) ∧ y4.cell? ⟨w.heap.size, 1, none⟩ = some (.slice A ss.length c) ∧ y4.cell? ⟨w.heap.size + 1, 0, none⟩ = some (.string t) ∧ y4.cell? ⟨w.heap.size + 1, 1, none⟩ = some (.slice B tt.length d) from ⟨cells_of ((X8.out.tr x4).get D1.out) 0, cells_of ((X8.out.tr x4).get D1.out) 1, cells_of ((X8.out.tr x4).get D2.out) 0, cells_of ((X8.out.tr x4).get D2.out) 1⟩)
                 clear hh4)
              | (go_at_call 19
                 with_reducible refine (Q3.out _ x4).mono ?_
                 rintro e y5 ⟨rfl, h5⟩
                 have x5 := x4.tr h5
                 have K5 := Lib.hid (show y5.cell? ⟨w.heap.size, 0, none⟩ = some (.string s) ∧ y5.cell? ⟨w.heap.size, 1, none⟩ = some (.slice A ss.length c) ∧ y5.cell? ⟨w.heap.size + 1, 0, none⟩ = some (.string t) ∧ y5.cell? ⟨w.heap.size + 1, 1, none⟩ = some (.slice B tt.length d) from ⟨cells_of ((X8.out.tr x5).get D1.out) 0, cells_of ((X8.out.tr x5).get D1.out) 1, cells_of ((X8.out.tr x5).get D2.out) 0, cells_of ((X8.out.tr x5).get D2.out) 1⟩)
                 clear h5))
          all_goals go_wp2_with fail
          all_goals go_ret
          all_goals exact ⟨by simp, X0.out.tr (X8.out.tr x5)⟩
end Go.Proofs.Ytgbdckiojjmncaa
