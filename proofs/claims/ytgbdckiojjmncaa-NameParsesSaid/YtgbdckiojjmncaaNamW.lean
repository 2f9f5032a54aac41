/-
  NameParses: the walk.
-/
import Derived.Test.YtgbdckiojjmncaaNamV
namespace Go.Proofs.Ytgbdckiojjmncaa
open Go.RowKit

theorem nm_small {t : ByteArray} {ss : List ByteArray} (h : vl (bl t) (bls ss) = true) : t.size ≤ 9223372036854775807 ∧ (∀ u ∈ ss, u.size ≤ 9223372036854775807) ∧ ss.length ≤ 9223372036854775807 := by
  obtain ⟨_, h2, h3, h4⟩ := vl_parts h
  rw [bls_len] at h2
  have h5 := (wd_len h4).2
  rw [bl_len] at h5
  refine ⟨by omega, fun u hu => ?_, by omega⟩
  have h6 := (wd_len (h3 (bl u) (List.mem_map.2 ⟨u, hu, rfl⟩))).2
  rw [bl_len] at h6
  omega

set_option maxRecDepth 100000 in
set_option maxHeartbeats 4000000 in
theorem nameParses_walk (s : ByteArray) (w : World) (_h : s.size ≤ maxLen) :
    Calls Try.prog 4 #[.string s] w fun e w' => e = .returned (.bool true) ∧ Ext w w' := by
  by_cases h2 : 500 < s.size
  · have t2 : decide ((500 : Int) < (s.size : Int)) = true := decide_eq_true (by omega)
    go_enter Try.func4, Try.ntmps4
    go_wp2_with fail
    refine (awake_c _).mono ?_
    rintro e w1 ⟨rfl, hx1⟩
    have HX1 := Lib.hid hx1
    clear hx1
    go_wp2_with fail
    refine (awake_c _).mono ?_
    rintro e w2 ⟨rfl, hx2⟩
    go_wp2_with fail
    go_ret
    exact ⟨rfl, HX1.out.tr hx2⟩
  · have t2 : decide ((500 : Int) < (s.size : Int)) = false := decide_eq_false (by omega)
    have hp := fun W => parse_c s W (by omega)
    have hr := fun W => rparse_c s W (by omega)
    rw [← prs_rprs] at hr
    obtain ⟨o, ho⟩ : ∃ o, o = prs (bl s) := ⟨_, rfl⟩
    rw [← ho] at hp hr
    have HO := Lib.hid ho
    have HP := Lib.hid hp
    have HR := Lib.hid hr
    clear hp hr ho
    go_enter Try.func4, Try.ntmps4
    go_wp2_with fail
    refine (awake_c _).mono ?_
    rintro e w1 ⟨rfl, hx1⟩
    have HX1 := Lib.hid hx1
    clear hx1
    go_wp2_with fail
    refine (HP.out _).mono ?_
    rintro e w2 ⟨v2, rfl, hnm2, hx2⟩
    obtain ⟨t, A, c, ss, rfl, hsr, _, hm, hbt, hbs⟩ := hnm2
    have hxa := hx2.tr (Ext.alloc w2 (.cells #[.string t, .slice A ss.length c] 24))
    have X2 := Lib.hid (HX1.out.tr hxa)
    have D2 := Lib.hid (new_of w2 (.cells #[.string t, .slice A ss.length c] 24))
    have S2 := Lib.hid (hsr.ext (Ext.alloc w2 (.cells #[.string t, .slice A ss.length c] 24)))
    have BT := Lib.hid hbt
    have BS := Lib.hid hbs
    clear HP hx2 hsr hbt hbs hxa
    go_wp2_with fail
    refine (HR.out _).mono ?_
    rintro e w3 ⟨v3, rfl, hnm3, hx3⟩
    obtain ⟨t', A', c', ss', rfl, hsr', _, hm', hbt', hbs'⟩ := hnm3
    have hsm : sm t ss t' ss' = true := sm_t (BT.out.trans hbt'.symm) (BS.out.trans hbs'.symm)
    have hxb := hx3.tr (Ext.alloc w3 (.cells #[.string t', .slice A' ss'.length c'] 24))
    have X3 := Lib.hid (X2.out.tr hxb)
    have D3 := Lib.hid (hxb.get D2.out)
    have S3 := Lib.hid (S2.out.ext hxb)
    have R3 := Lib.hid (hsr'.ext (Ext.alloc w3 (.cells #[.string t', .slice A' ss'.length c'] 24)))
    have a0 : (w3.alloc (.cells #[.string t', .slice A' ss'.length c'] 24)).cell? ⟨w2.heap.size, 0, none⟩ = some (.string t) := cells_of D3.out 0
    have a1 : (w3.alloc (.cells #[.string t', .slice A' ss'.length c'] 24)).cell? ⟨w2.heap.size, 1, none⟩ = some (.slice A ss.length c) := cells_of D3.out 1
    have hln : ss.length ≤ 9223372036854775807 ∧ ss'.length ≤ 9223372036854775807 := by unfold maxLen at hm hm'; omega
    have SM := Lib.hid hsm
    clear HR hx3 hsr' hbt' hbs' hxb hsm D2 S2 X2
    go_wp2_with fail
    refine (rnsame_c t t' A A' c c' ss ss' _ _ _ S3.out R3.out hln.1 hln.2).mono ?_
    rintro e w4 ⟨rfl, hx4⟩
    rw [SM.out]
    have b0 : w4.cell? ⟨w2.heap.size, 0, none⟩ = some (.string t) := cells_of (hx4.get D3.out) 0
    have b1 : w4.cell? ⟨w2.heap.size, 1, none⟩ = some (.slice A ss.length c) := cells_of (hx4.get D3.out) 1
    have X4 := Lib.hid (X3.out.tr hx4)
    have S4 := Lib.hid (S3.out.ext hx4)
    clear hx4 a0 a1 D3 S3 R3 X3
    obtain _ | ⟨r, ps⟩ := o
    · go_wp2_with fail
      go_ret
      exact ⟨rfl, X4.out⟩
    · have hpp := prs_sound HO.out.symm
      have hbt : bl t = r := BT.out
      have hbs : bls ss = ps := BS.out
      subst hbt hbs
      have hsmall := nm_small hpp.1
      have hte : txt (bl t) (bls ss) = bl s := by rw [txt, if_pos hpp.1, ← hpp.2]
      have htx := text_c t A c ss _ w4 S4.out hsmall.1 hsmall.2.1 hsmall.2.2
      rw [hte] at htx
      have TX := Lib.hid htx
      clear hpp hsmall hte htx HO BT BS
      go_wp2_with fail
      refine TX.out.mono ?_
      rintro e w5 ⟨u, rfl, hu, hx5⟩
      obtain rfl : u = s := bl_ext hu
      go_wp2_with fail
      go_ret
      exact ⟨rfl, X4.out.tr hx5⟩
end Go.Proofs.Ytgbdckiojjmncaa
