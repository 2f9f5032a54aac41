/-
  NameMatchesReference: the walk.
-/
import Derived.Test.YtgbdckiojjmncaaNamV
import Derived.Test.YtgbdckiojjmncaaNamY
namespace Go.Proofs.Ytgbdckiojjmncaa
open Go.RowKit
set_option linter.unusedVariables false

theorem txt_len (r : List UInt8) (ps : List (List UInt8)) : (txt r ps).length ≤ 1808 := by
  cases h : vl r ps with
  | true => rw [txt, if_pos h]; exact tx0_len h
  | false => rw [txt_no h]; simp
set_option maxRecDepth 100000 in
set_option maxHeartbeats 4000000 in
theorem nameMatchesReference_walk (va : Value) (s : ByteArray) (A : Option Addr) (c : Nat) (ss : List ByteArray) (w : World) (ha : IsName w va s A c ss) :
    Calls Try.prog 3 #[va] w fun e w' => e = .returned (.bool true) ∧ Ext w w' := by
  obtain ⟨rfl, hsr, hlc, hcm, hss, hst⟩ := ha
  unfold maxLen at hcm hss hst
  have hn1 : ss.length ≤ 9223372036854775807 := by omega
  obtain ⟨w1, hw1⟩ : ∃ w1 : World, w1 = w.alloc (.cells #[.string s, .slice A ss.length c] 24) := ⟨_, rfl⟩
  have X0 := Lib.hid (show Ext w w1 by rw [hw1]; exact Ext.alloc _ _)
  have D1 := Lib.hid (show w1.heap[w.heap.size]? = some (.cells #[.string s, .slice A ss.length c] 24 (0, 0)) by rw [hw1]; exact new_of _ _)
  have S1 := Lib.hid (hsr.ext X0.out)
  have W1 := Lib.hid hw1
  have hf1 := fun W (hx : Ext w1 W) => few_c s A c ss _ W (S1.out.ext hx) hn1
  obtain ⟨fa, hfa⟩ : ∃ fa, fa = few s ss := ⟨_, rfl⟩
  rw [← hfa] at hf1
  have F1 := Lib.hid hf1
  have HSS := Lib.hid hss
  have HST := Lib.hid hst
  have HN := Lib.hid hn1
  have hwl : w.heap.size < w1.heap.size := lt_of_some D1.out
  clear hsr hw1 hf1 hfa hlc hcm hss hst hn1
  go_enter Try.func3, Try.ntmps3
  go_wp2_with fail
  rw [← W1.out]
  refine (awake_c w1).mono ?_
  rintro e w2 ⟨rfl, hx2⟩
  have X2 := Lib.hid hx2
  have a0 : w2.cell? ⟨w.heap.size, 0, none⟩ = some (.string s) := cells_of ((X2.out).get D1.out) 0
  have a1 : w2.cell? ⟨w.heap.size, 1, none⟩ = some (.slice A ss.length c) := cells_of ((X2.out).get D1.out) 1
  clear hx2
  go_wp2_with fail
  refine (F1.out w2 X2.out).mono ?_
  rintro e w3 ⟨rfl, hx3⟩
  have X3 := Lib.hid (X2.out.tr hx3)
  have b0 : w3.cell? ⟨w.heap.size, 0, none⟩ = some (.string s) := cells_of ((X3.out).get D1.out) 0
  have b1 : w3.cell? ⟨w.heap.size, 1, none⟩ = some (.slice A ss.length c) := cells_of ((X3.out).get D1.out) 1
  clear hx3 a0 a1 F1
  cases fa with
  | false =>
    go_wp2_with fail
    refine (awake_c _).mono ?_
    rintro e w9 ⟨rfl, hx9⟩
    go_wp2_with fail
    go_ret
    exact ⟨rfl, X0.out.tr (X3.out.tr hx9)⟩
  | true =>
    go_wp2_with fail
    refine (text_c s A c ss _ w3 (S1.out.ext X3.out) HSS.out HST.out HN.out).mono ?_
    rintro e w4 ⟨u, rfl, hu, hx4⟩
    have X4 := Lib.hid (X3.out.tr hx4)
    have hul : u.size ≤ 1808 := by
      rw [← bl_len, hu]
      exact txt_len _ _
    have U := Lib.hid hu
    have a0 : w4.cell? ⟨w.heap.size, 0, none⟩ = some (.string s) := cells_of ((X4.out).get D1.out) 0
    have a1 : w4.cell? ⟨w.heap.size, 1, none⟩ = some (.slice A ss.length c) := cells_of ((X4.out).get D1.out) 1
    clear hx4 hu b0 b1
    cases hv : vl (bl s) (bls ss) with
    | false =>
      have HV := Lib.hid hv
      clear hv
      go_wp2_with fail
      refine (nbytes_no s A c ss _ w4 (S1.out.ext X4.out) HSS.out HST.out HN.out HV.out).mono ?_
      rintro e w5 ⟨rfl, hx5⟩
      have X5 := Lib.hid (X4.out.tr hx5)
      have b0 : w5.cell? ⟨w.heap.size, 0, none⟩ = some (.string s) := cells_of ((X5.out).get D1.out) 0
      have b1 : w5.cell? ⟨w.heap.size, 1, none⟩ = some (.slice A ss.length c) := cells_of ((X5.out).get D1.out) 1
      have hV := fun W (hx : Ext w5 W) => valid_c s A c ss _ W (S1.out.ext (X5.out.tr hx)) HSS.out HST.out HN.out
      have hR := fun W (hx : Ext w5 W) => rvalid_c s A c ss _ W (S1.out.ext (X5.out.tr hx)) HSS.out HST.out HN.out
      rw [HV.out] at hV hR
      have hT : ∀ W, Ext w5 W → Calls Try.prog 13 #[.agg #[.string s, .slice A ss.length c]] W fun e w' => e = .returned (.string u) ∧ Ext W w' := fun W hx =>
        (rtext_c s A c ss _ W (S1.out.ext (X5.out.tr hx)) HSS.out HST.out HN.out).mono fun _ _ ⟨t, h1, h2, h3⟩ => ⟨by rw [h1, bl_ext (h2.trans U.out.symm)], h3⟩
      have VV := Lib.hid hV
      have RV := Lib.hid hR
      have TT := Lib.hid hT
      have x0 := Ext.drew w5
      have k0 := (show w5.drew.cell? ⟨w.heap.size, 0, none⟩ = some (.string s) ∧ w5.drew.cell? ⟨w.heap.size, 1, none⟩ = some (.slice A ss.length c) from ⟨cells_of ((X5.out.tr (Ext.drew w5)).get D1.out) 0, cells_of ((X5.out.tr (Ext.drew w5)).get D1.out) 1⟩)
      have K0 := Lib.hid k0
      clear hx5 a0 a1 hV hR hT k0
      go_wp2_with fail
      go_region_held3 (fun W => W.cell? ⟨w.heap.size, 0, none⟩ = some (.string s) ∧ W.cell? ⟨w.heap.size, 1, none⟩ = some (.slice A ss.length c)) (first | exact K5.out | exact K4.out | exact K3.out | exact K2.out | exact K0.out)
        (first
          | (go_at_call 11
             with_reducible refine (VV.out _ x0).mono ?_
             rintro e y2 ⟨rfl, h2⟩
             have x2 := x0.tr h2
             have K2 := Lib.hid (show y2.cell? ⟨w.heap.size, 0, none⟩ = some (.string s) ∧ y2.cell? ⟨w.heap.size, 1, none⟩ = some (.slice A ss.length c) from ⟨cells_of ((X5.out.tr x2).get D1.out) 0, cells_of ((X5.out.tr x2).get D1.out) 1⟩)
             clear h2)
          | (go_at_call 12
             with_reducible refine (RV.out _ x2).mono ?_
             rintro e y3 ⟨rfl, h3⟩
             have x3 := x2.tr h3
             have K3 := Lib.hid (show y3.cell? ⟨w.heap.size, 0, none⟩ = some (.string s) ∧ y3.cell? ⟨w.heap.size, 1, none⟩ = some (.slice A ss.length c) from ⟨cells_of ((X5.out.tr x3).get D1.out) 0, cells_of ((X5.out.tr x3).get D1.out) 1⟩)
             clear h3)
          | (go_at_call 13
             with_reducible refine (TT.out _ x3).mono ?_
             rintro e y4 ⟨rfl, h4⟩
             have x4 := x3.tr h4
             have K4 := Lib.hid (show y4.cell? ⟨w.heap.size, 0, none⟩ = some (.string s) ∧ y4.cell? ⟨w.heap.size, 1, none⟩ = some (.slice A ss.length c) from ⟨cells_of ((X5.out.tr x4).get D1.out) 0, cells_of ((X5.out.tr x4).get D1.out) 1⟩)
             clear h4)
          | (go_at_call 12
             with_reducible refine (RV.out _ x4).mono ?_
             rintro e y5 ⟨rfl, h5⟩
             have x5 := x4.tr h5
             have K5 := Lib.hid (show y5.cell? ⟨w.heap.size, 0, none⟩ = some (.string s) ∧ y5.cell? ⟨w.heap.size, 1, none⟩ = some (.slice A ss.length c) from ⟨cells_of ((X5.out.tr x5).get D1.out) 0, cells_of ((X5.out.tr x5).get D1.out) 1⟩)
             clear h5))
      all_goals
        have X6 := Lib.hid (X5.out.tr x5)
        have hpa := parse_c u y5 (by omega)
        rw [U.out, txt_no HV.out, prs_nil] at hpa
        have PA := Lib.hid hpa
        have e5 := K5.out
        clear K0 K2 K3 K4 K5 x0 x2 x3 x4 x5 VV RV TT hpa b0 b1
        go_wp2_with fail
        refine PA.out.mono ?_
        rintro e w7 ⟨v7, rfl, ⟨t7, C7, c7, ss7, rfl, hsr7, _, hm7, hbt, hbu⟩, hx7⟩
        have hxa := hx7.tr (Ext.alloc w7 (.cells #[.string t7, .slice C7 ss7.length c7] 24))
        have X7 := Lib.hid (X6.out.tr hxa)
        have D7 := Lib.hid (new_of w7 (.cells #[.string t7, .slice C7 ss7.length c7] 24))
        have R7 := Lib.hid (hsr7.ext (Ext.alloc w7 (.cells #[.string t7, .slice C7 ss7.length c7] 24))).inside
        have B7 := Lib.hid hbt
        have E7 := Lib.hid hbu
        unfold maxLen at hm7
        have hl7 : ss7.length ≤ 9223372036854775807 := by omega
        clear hx7 hxa hsr7 hbt hbu PA e5
        go_wp2_with fail
        refine (rdnew_c none 0 [] (fun _ _ => True) _ (RB.nil _ _ _) (by simp)).mono ?_
        rintro e w8 ⟨g, G, rfl, hg, hrd, hx8⟩
        have hrc := read_c w8 hrd (by rintro k ⟨_, h, _⟩; exact absurd h (by decide)) (by first | omega | simp)
        rw [rnm_nil] at hrc
        have RC := Lib.hid hrc
        have X8 := Lib.hid (X7.out.tr hx8)
        have D8 := Lib.hid (hx8.get D7.out)
        have R8 := Lib.hid (R7.out.ext hx8)
        have hsz8 := X7.out.size
        have hd7 := lt_of_some D7.out
        clear hrc hrd hx8
        go_wp2_with fail
        refine RC.out.mono ?_
        rintro e w9 ⟨v9, rfl, ⟨t9, C9, c9, ss9, rfl, hsr9, _, hm9, hbt, hbu⟩, hrd, hgr⟩
        have hxa := Ext.alloc w9 (.cells #[.string t9, .slice C9 ss9.length c9] 24)
        have X9 := Lib.hid ((grown_new X8.out hgr (fun q h => by injection h with h; omega)).tr hxa)
        clear hbt hbu hrd hgr
        go_wp2_with fail
        go_ret
        exact ⟨rfl, X0.out.tr X9.out⟩
    | true =>
      have HV := Lib.hid hv
      clear hv
      go_wp2_with fail
      obtain ⟨bs, hbs⟩ : ∃ bs, bs = nbs (bl s) (bls ss) := ⟨_, rfl⟩
      have hnb := nbytes_c s A c ss _ w4 (S1.out.ext X4.out) HSS.out HST.out HN.out HV.out
      rw [← hbs] at hnb
      have HB := Lib.hid hbs
      clear hbs
      refine hnb.mono ?_
      rintro e w5 ⟨P, p, rfl, hob, hx5⟩
      have OB := Lib.hid hob.rb
      have hp := hob.le
      unfold maxLen at hp
      have hbl : bs.length ≤ 10000 := by rw [HB.out]; exact nbs_len HV.out
      clear hob hnb
      have X5 := Lib.hid (X4.out.tr hx5)
      have b0 : w5.cell? ⟨w.heap.size, 0, none⟩ = some (.string s) := cells_of ((X5.out).get D1.out) 0
      have b1 : w5.cell? ⟨w.heap.size, 1, none⟩ = some (.slice A ss.length c) := cells_of ((X5.out).get D1.out) 1
      have OB5 := OB.out
      clear OB5
      have hV := fun W (hx : Ext w5 W) => valid_c s A c ss _ W (S1.out.ext (X5.out.tr hx)) HSS.out HST.out HN.out
      have hR := fun W (hx : Ext w5 W) => rvalid_c s A c ss _ W (S1.out.ext (X5.out.tr hx)) HSS.out HST.out HN.out
      rw [HV.out] at hV hR
      have hT : ∀ W, Ext w5 W → Calls Try.prog 13 #[.agg #[.string s, .slice A ss.length c]] W fun e w' => e = .returned (.string u) ∧ Ext W w' := fun W hx =>
        (rtext_c s A c ss _ W (S1.out.ext (X5.out.tr hx)) HSS.out HST.out HN.out).mono fun _ _ ⟨t, h1, h2, h3⟩ => ⟨by rw [h1, bl_ext (h2.trans U.out.symm)], h3⟩
      have VV := Lib.hid hV
      have RV := Lib.hid hR
      have TT := Lib.hid hT
      have x0 := Ext.drew w5
      have k0 := (show w5.drew.cell? ⟨w.heap.size, 0, none⟩ = some (.string s) ∧ w5.drew.cell? ⟨w.heap.size, 1, none⟩ = some (.slice A ss.length c) from ⟨cells_of ((X5.out.tr (Ext.drew w5)).get D1.out) 0, cells_of ((X5.out.tr (Ext.drew w5)).get D1.out) 1⟩)
      have K0 := Lib.hid k0
      clear hx5 a0 a1 hV hR hT k0
      go_wp2_with fail
      go_region_held3 (fun W => W.cell? ⟨w.heap.size, 0, none⟩ = some (.string s) ∧ W.cell? ⟨w.heap.size, 1, none⟩ = some (.slice A ss.length c)) (first | exact K5.out | exact K4.out | exact K3.out | exact K2.out | exact K0.out)
        (first
          | (go_at_call 11
             with_reducible refine (VV.out _ x0).mono ?_
             rintro e y2 ⟨rfl, h2⟩
             have x2 := x0.tr h2
             have K2 := Lib.hid (show y2.cell? ⟨w.heap.size, 0, none⟩ = some (.string s) ∧ y2.cell? ⟨w.heap.size, 1, none⟩ = some (.slice A ss.length c) from ⟨cells_of ((X5.out.tr x2).get D1.out) 0, cells_of ((X5.out.tr x2).get D1.out) 1⟩)
             clear h2)
          | (go_at_call 12
             with_reducible refine (RV.out _ x2).mono ?_
             rintro e y3 ⟨rfl, h3⟩
             have x3 := x2.tr h3
             have K3 := Lib.hid (show y3.cell? ⟨w.heap.size, 0, none⟩ = some (.string s) ∧ y3.cell? ⟨w.heap.size, 1, none⟩ = some (.slice A ss.length c) from ⟨cells_of ((X5.out.tr x3).get D1.out) 0, cells_of ((X5.out.tr x3).get D1.out) 1⟩)
             clear h3)
          | (go_at_call 13
             with_reducible refine (TT.out _ x3).mono ?_
             rintro e y4 ⟨rfl, h4⟩
             have x4 := x3.tr h4
             have K4 := Lib.hid (show y4.cell? ⟨w.heap.size, 0, none⟩ = some (.string s) ∧ y4.cell? ⟨w.heap.size, 1, none⟩ = some (.slice A ss.length c) from ⟨cells_of ((X5.out.tr x4).get D1.out) 0, cells_of ((X5.out.tr x4).get D1.out) 1⟩)
             clear h4)
          | (go_at_call 12
             with_reducible refine (RV.out _ x4).mono ?_
             rintro e y5 ⟨rfl, h5⟩
             have x5 := x4.tr h5
             have K5 := Lib.hid (show y5.cell? ⟨w.heap.size, 0, none⟩ = some (.string s) ∧ y5.cell? ⟨w.heap.size, 1, none⟩ = some (.slice A ss.length c) from ⟨cells_of ((X5.out.tr x5).get D1.out) 0, cells_of ((X5.out.tr x5).get D1.out) 1⟩)
             clear h5))
      all_goals
        have X6 := Lib.hid (X5.out.tr x5)
        have OB6 := Lib.hid (OB.out.ext x5)
        have hpa := parse_c u y5 (by omega)
        rw [U.out, txt_vl HV.out] at hpa
        have PA := Lib.hid hpa
        have e5 := K5.out
        clear K0 K2 K3 K4 K5 x0 x2 x3 x4 x5 VV RV TT hpa b0 b1
        go_wp2_with fail
        refine PA.out.mono ?_
        rintro e w7 ⟨v7, rfl, ⟨t7, C7, c7, ss7, rfl, hsr7, _, hm7, hbt, hbu⟩, hx7⟩
        have hxa := hx7.tr (Ext.alloc w7 (.cells #[.string t7, .slice C7 ss7.length c7] 24))
        have X7 := Lib.hid (X6.out.tr hxa)
        have D7 := Lib.hid (new_of w7 (.cells #[.string t7, .slice C7 ss7.length c7] 24))
        have R7 := Lib.hid (hsr7.ext (Ext.alloc w7 (.cells #[.string t7, .slice C7 ss7.length c7] 24))).inside
        have B7 := Lib.hid hbt
        have E7 := Lib.hid hbu
        have OB7 := Lib.hid (OB6.out.ext hxa).inside
        unfold maxLen at hm7
        have hl7 : ss7.length ≤ 9223372036854775807 := by omega
        clear hx7 hxa hsr7 hbt hbu PA e5
        go_wp2_with fail
        refine (rdnew_c P p bs _ _ OB7.out (by omega)).mono ?_
        rintro e w8 ⟨g, G, rfl, hg, hrd, hx8⟩
        have hrc := read_c w8 hrd (by rintro k ⟨_, h, _⟩; exact absurd h (by decide)) (by first | omega | simp)
        have hb0 := rnm_nbs HV.out []
        rw [List.append_nil, ← HB.out] at hb0
        rw [hb0.1, hb0.2] at hrc
        clear hb0
        have RC := Lib.hid hrc
        have X8 := Lib.hid (X7.out.tr hx8)
        have D8 := Lib.hid (hx8.get D7.out)
        have R8 := Lib.hid (R7.out.ext hx8)
        have hsz8 := X7.out.size
        have hd7 := lt_of_some D7.out
        have OB8 := Lib.hid (OB7.out.ext hx8)
        clear hrc hrd hx8
        go_wp2_with fail
        refine RC.out.mono ?_
        rintro e w9 ⟨v9, rfl, ⟨t9, C9, c9, ss9, rfl, hsr9, _, hm9, hbt, hbu⟩, hrd, hgr⟩
        have hxa := Ext.alloc w9 (.cells #[.string t9, .slice C9 ss9.length c9] 24)
        have X9 := Lib.hid ((grown_new X8.out hgr (fun q h => by injection h with h; omega)).tr hxa)
        have D9 := Lib.hid (hxa.get (grown_get hgr D8.out (fun h => by injection h with h; omega)))
        have R9 := Lib.hid ((R8.out.grown hgr (fun q _ hq h => by have hq2 := hq.2; injection h with h; omega)).ext hxa)
        have N9 := Lib.hid (new_of w9 (.cells #[.string t9, .slice C9 ss9.length c9] 24))
        have Q9 := Lib.hid (hsr9.ext hxa)
        have RD9 := Lib.hid (hrd.ext hxa)
        have OB9 := Lib.hid ((OB8.out.grown hgr (fun q _ hq h => by have hq2 := hq.2; injection h with h; omega)).ext hxa)
        have m7 : sm t7 ss7 s ss = true := sm_t B7.out E7.out
        have m9 : sm t9 ss9 s ss = true := sm_t hbt hbu
        have M7 := Lib.hid m7
        have M9 := Lib.hid m9
        unfold maxLen at hm9
        have hl9 : ss9.length ≤ 9223372036854775807 := by omega
        have a0 : (w9.alloc (.cells #[.string t9, .slice C9 ss9.length c9] 24)).cell? ⟨w.heap.size, 0, none⟩ = some (.string s) := cells_of ((X9.out).get D1.out) 0
        have a1 : (w9.alloc (.cells #[.string t9, .slice C9 ss9.length c9] 24)).cell? ⟨w.heap.size, 1, none⟩ = some (.slice A ss.length c) := cells_of ((X9.out).get D1.out) 1
        clear hbt hbu hrd hgr hsr9 hxa m7 m9 X8 D8 R8 OB8 RC B7 E7 hm7 hm9
        go_wp2_with fail
        refine (rbytes_c s A c ss _ _ (S1.out.ext X9.out) HV.out).mono ?_
        rintro e w10 ⟨Z, z, rfl, hoz, hx10⟩
        have hoz' := hoz.rb
        have hZl := HB.out
        rw [← HB.out] at hoz' ⊢
        have X10 := Lib.hid (X9.out.tr hx10)
        have H10 := Lib.hid hx10
        have OZ := Lib.hid hoz'
        clear hoz hoz' hx10 a0 a1 hZl
        go_wp2_with fail
        refine (same_x P Z bs bs p z _ _ w10 (OB9.out.ext H10.out) OZ.out (by omega) rfl).mono ?_
        rintro e w11 ⟨rfl, hx11⟩
        have H11 := Lib.hid (H10.out.tr hx11)
        have b0 : w11.cell? ⟨w.heap.size, 0, none⟩ = some (.string s) := cells_of ((X9.out.tr H11.out).get D1.out) 0
        have b1 : w11.cell? ⟨w.heap.size, 1, none⟩ = some (.slice A ss.length c) := cells_of ((X9.out.tr H11.out).get D1.out) 1
        have c0 : w11.cell? ⟨w7.heap.size, 0, none⟩ = some (.string t7) := cells_of (H11.out.get D9.out) 0
        have c1 : w11.cell? ⟨w7.heap.size, 1, none⟩ = some (.slice C7 ss7.length c7) := cells_of (H11.out.get D9.out) 1
        clear hx11
        go_wp2_with fail
        refine (rnsame_c t7 s C7 A c7 c ss7 ss _ _ w11 (R9.out.ext H11.out) (S1.out.ext (X9.out.tr H11.out)) hl7 HN.out).mono ?_
        rintro e w12 ⟨rfl, hx12⟩
        rw [M7.out]
        have H12 := Lib.hid (H11.out.tr hx12)
        have a0 : w12.cell? ⟨w.heap.size, 0, none⟩ = some (.string s) := cells_of ((X9.out.tr H12.out).get D1.out) 0
        have a1 : w12.cell? ⟨w.heap.size, 1, none⟩ = some (.slice A ss.length c) := cells_of ((X9.out.tr H12.out).get D1.out) 1
        have d0 : w12.cell? ⟨w9.heap.size, 0, none⟩ = some (.string t9) := cells_of (H12.out.get N9.out) 0
        have d1 : w12.cell? ⟨w9.heap.size, 1, none⟩ = some (.slice C9 ss9.length c9) := cells_of (H12.out.get N9.out) 1
        clear hx12 b0 b1 c0 c1
        go_wp2_with fail
        refine (rnsame_c t9 s C9 A c9 c ss9 ss _ _ w12 (Q9.out.ext H12.out) (S1.out.ext (X9.out.tr H12.out)) hl9 HN.out).mono ?_
        rintro e w13 ⟨rfl, hx13⟩
        rw [M9.out]
        have H13 := Lib.hid (H12.out.tr hx13)
        clear hx13 a0 a1 d0 d1
        go_wp2_with fail
        refine (done_c w13 (RD9.out.ext H13.out)).mono ?_
        rintro e w14 ⟨rfl, rfl⟩
        go_wp2_with fail
        go_ret
        exact ⟨rfl, X0.out.tr (X9.out.tr H13.out)⟩
end Go.Proofs.Ytgbdckiojjmncaa
