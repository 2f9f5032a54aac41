/-
  CrcChanges: the walk.
-/
import Derived.Test.YtpfognoabboheaaDoorCrcV
namespace Go.Proofs.YtpfognoabboheaaDoor
open Go.RowKit

theorem bit_and (ch q : Nat) (h : ch < 4294967296) : bits .and .u32 ((ch : Int) / 2 ^ q) 1 = ((ch / 2 ^ q % 2 : Nat) : Int) := by
  have h1 : ch / 2 ^ q ≤ ch := Nat.div_le_self _ _
  have := u32_and_nat (ch / 2 ^ q) 1 (by omega) (by omega)
  rw [Nat.and_one_is_mod] at this
  rw [shr_int]
  exact this

theorem bit_at (ch q : Nat) : ch.testBit q = decide (ch / 2 ^ q % 2 = 1) := Nat.testBit_eq_decide_div_mod_eq
theorem bit_one (ch q i : Nat) (h : ch / 2 ^ q % 2 = 1) : 2 ^ i * (ch % 2 ^ (q + 1)) = (2 ^ i * (ch % 2 ^ q)) ^^^ 2 ^ (i + q) := by
  have hb : ch.testBit q = true := by rw [bit_at, decide_eq_true h]
  apply Nat.eq_of_testBit_eq
  intro j
  rw [Nat.testBit_xor, Nat.testBit_two_pow_mul, Nat.testBit_two_pow_mul, Nat.testBit_mod_two_pow, Nat.testBit_mod_two_pow, Nat.testBit_two_pow]
  by_cases e : i + q = j
  · subst e
    have e1 : i + q - i = q := by omega
    rw [e1, hb, decide_eq_true (show q < q + 1 by omega), decide_eq_false (show ¬ q < q by omega), decide_eq_true (show i + q ≥ i by omega)]
    simp
  · rw [decide_eq_false e, Bool.xor_false]
    by_cases hij : j ≥ i
    · by_cases h1 : j - i < q
      · rw [decide_eq_true h1, decide_eq_true (show j - i < q + 1 by omega)]
      · rw [decide_eq_false h1, decide_eq_false (show ¬ j - i < q + 1 by omega)]
    · rw [decide_eq_false hij, Bool.false_and, Bool.false_and]
theorem bit_no (ch q : Nat) (h : ch / 2 ^ q % 2 = 0) : ch % 2 ^ (q + 1) = ch % 2 ^ q := by
  rw [Nat.mod_pow_succ, h, Nat.mul_zero, Nat.add_zero]
theorem xor8 (v : UInt8) (e : Nat) (he : e < 8) : bits .xor .u8 (v.toNat : Int) ((2 : Int) ^ e % 256) = ((v.toNat ^^^ 2 ^ e : Nat) : Int) := by
  have h1 : 2 ^ e < 2 ^ 8 := Nat.pow_lt_pow_right (by omega) he
  have h2 : (2 : Int) ^ e % 256 = ((2 ^ e : Nat) : Int) := by
    rw [Int.natCast_pow]
    have h3 : ((2 ^ e : Nat) : Int) < 256 := by omega
    rw [Int.natCast_pow] at h3
    exact Int.emod_eq_of_lt (Int.pow_nonneg (by decide)) h3
  rw [h2]
  exact u8_xor_nat v.toNat (2 ^ e) (UInt8.toNat_lt v) h1

set_option maxRecDepth 100000 in
set_option maxHeartbeats 4000000 in
theorem crcChanges_walk (A : Option Addr) (len cap : Nat) (z : List Int) (at_ change : Int) (w : World) (h : IsRow .u8 w A len cap z) (hat : (Lit.int .u16 at_).wf = true) (hch : (Lit.int .u32 change).wf = true) :
    Calls Tryd.prog 5 #[.slice A len cap, .int .u16 at_, .int .u32 change] w fun e w' => e = .returned (.bool true) ∧ Ext w w' := by
  obtain ⟨l, rfl, hl1, hl2, hr⟩ := row_bytes h
  have HR := Lib.hid hr
  clear h hr
  unfold maxLen at hl2
  have ha : 0 ≤ at_ ∧ at_ ≤ 65535 := by simpa [Lit.wf, IntKind.min, IntKind.max, IntKind.signed, IntKind.bits] using hat
  have hc : 0 ≤ change ∧ change ≤ 4294967295 := by simpa [Lit.wf, IntKind.min, IntKind.max, IntKind.signed, IntKind.bits] using hch
  obtain ⟨m, rfl⟩ := Int.eq_ofNat_of_zero_le ha.1
  obtain ⟨ch, rfl⟩ := Int.eq_ofNat_of_zero_le hc.1
  have ha2 : m ≤ 65535 := by omega
  have hc2 : ch ≤ 4294967295 := by omega
  clear hat hch ha hc
  by_cases h2 : 500 < l.length
  · have t2 : decide ((500 : Int) < (l.length : Int)) = true := decide_eq_true (by omega)
    go_enter Tryd.func5, Tryd.ntmps5
    go_wp2_with fail
    refine (awake_c _).mono ?_
    rintro e w1 ⟨rfl, hx1⟩
    have HX1 := Lib.hid hx1
    clear hx1
    go_wp2_with fail
    refine (awake_c _).mono ?_
    rintro e w2 ⟨rfl, hx2⟩
    go_wp2_with fail
    go_ret
    exact ⟨rfl, HX1.out.tr hx2⟩
  · have t2 : decide ((500 : Int) < (l.length : Int)) = false := decide_eq_false (by omega)
    by_cases h0 : ch = 0
    · subst h0
      have t0 := beq_t (a := ((0 : Nat) : Int)) (b := 0) rfl
      go_enter Tryd.func5, Tryd.ntmps5
      go_wp2_with fail
      refine (awake_c _).mono ?_
      rintro e w1 ⟨rfl, hx1⟩
      have HX1 := Lib.hid hx1
      clear hx1
      go_wp2_with fail
      refine (awake_c _).mono ?_
      rintro e w2 ⟨rfl, hx2⟩
      go_wp2_with fail
      go_ret
      exact ⟨rfl, HX1.out.tr hx2⟩
    · have t0 := beq_f (a := (ch : Int)) (b := 0) (by omega)
      by_cases hl0 : l.length = 0
      · have t1 := beq_t (a := (l.length : Int)) (b := 0) (by omega)
        go_enter Tryd.func5, Tryd.ntmps5
        go_wp2_with fail
        refine (awake_c _).mono ?_
        rintro e w1 ⟨rfl, hx1⟩
        have HX1 := Lib.hid hx1
        clear hx1
        go_wp2_with fail
        refine (awake_c _).mono ?_
        rintro e w2 ⟨rfl, hx2⟩
        go_wp2_with fail
        go_ret
        exact ⟨rfl, HX1.out.tr hx2⟩
      · have t1 := beq_f (a := (l.length : Int)) (b := 0) (by omega)
        have hn0 : 0 < l.length := by omega
        clear hl0
        have hra := fun W (hx : Ext w W) => rappend_c A cap l _ W (HR.out.ext hx) (by omega)
        have HRA := Lib.hid hra
        clear hra
        go_enter Tryd.func5, Tryd.ntmps5
        go_wp2_with fail
        refine (awake_c _).mono ?_
        rintro e w1 ⟨rfl, hx1⟩
        have HX1 := Lib.hid hx1
        clear hx1
        go_wp2_with fail
        refine (HRA.out _ HX1.out).mono ?_
        rintro e w2 ⟨B, b, rfl, ho2, hx2⟩
        rw [apd_len]
        obtain ⟨g, cs0, rfl, hge, hgg⟩ : ∃ g cs, B = some ⟨g, 0, none⟩ ∧ w1.heap.size ≤ g ∧ w2.heap[g]? = some (.cells cs 5 (0, 0)) := by
          rcases ho2.block with ⟨_, _, h⟩ | ⟨g, cs, h1, h2, h3, _⟩
          · have := congrArg List.length h
            rw [apd_len] at this
            simp at this
          · exact ⟨g, cs, h1, h2, h3⟩
        have hbb := ho2.le.1
        have hbm := ho2.le.2
        rw [apd_len] at hbb
        unfold maxLen at hbm
        have HX2 := Lib.hid (HX1.out.tr hx2)
        have HO2 := Lib.hid ho2
        have hsz := HX1.out.size
        obtain ⟨i, hi⟩ : ∃ i, i = m % (8 * l.length) := ⟨_, rfl⟩
        have hi1 : i < 8 * l.length := by rw [hi]; exact Nat.mod_lt _ (by omega)
        have ei : (m : Int) % (8 * (l.length : Int)) = (i : Int) := by rw [hi, Int.natCast_emod, Int.natCast_mul]; rfl
        have ei2 : Int.tmod (m : Int) (8 * (l.length : Int)) = (i : Int) := by rw [Int.tmod_eq_emod_of_nonneg (by omega)]; exact ei
        clear hx2 ho2 hgg hi
        go_wp2_with fail
        go_loopw [9] (fun k wr => ∃ (q : Nat) (l2 : List UInt8), q ≤ 32 ∧ i + q ≤ 8 * l.length ∧ k = .int .i64 q ∧ l2.length = l.length ∧ nm l2 = nm l ^^^ (2 ^ i * (ch % 2 ^ q)) ∧ OwnB wr 5 w1.heap.size (some ⟨g, 0, none⟩) b (l2 ++ nb 4 (cs l)) ∧ Ext w wr) (fun k _ => 32 - (intOf k).toNat)
        case atStart => exact ⟨0, l, by omega, by omega, rfl, rfl, by rw [Nat.pow_zero, Nat.mod_one, Nat.mul_zero, Nat.xor_zero], HO2.out, HX2.out⟩
        case round =>
          obtain ⟨q, l2, hq, hiq, rfl, hl2l, hnm, hor, hx⟩ := hrel
          have HNM := Lib.hid hnm
          have HX := Lib.hid hx
          clear hnm hx
          by_cases hq32 : q < 32
          · by_cases hin : i + q < 8 * l.length
            · by_cases hbit : ch / 2 ^ q % 2 = 1
              · have ho := bit_and ch q (by omega)
                rw [hbit] at ho
                have hj : (i + q) / 8 < (l2 ++ nb 4 (cs l)).length := by rw [List.length_append]; omega
                have hc := hor.cellAt hj
                have hfz := hor.freeAt ((i + q) / 8)
                have hj2 : (i + q) / 8 < l2.length := by omega
                rw [List.getElem_append_left hj2] at hc
                obtain ⟨v, hv⟩ : ∃ v, v = l2[(i + q) / 8] := ⟨_, rfl⟩
                rw [← hv] at hc
                have HOR := Lib.hid hor
                have HV := Lib.hid hv
                clear hor hv
                go_wp2_with fail
                go_roundw
                case rel =>
                  have hv2 : v = l2[(i + q) / 8] := HV.out
                  obtain ⟨y, hy⟩ : ∃ y, y = 2 ^ ((i + q) % 8) := ⟨_, rfl⟩
                  have hy256 : y < 256 := by
                    rw [hy]
                    have : 2 ^ ((i + q) % 8) < 2 ^ 8 := Nat.pow_lt_pow_right (by omega) (by omega)
                    exact this
                  have hst := HOR.out.set_ ((i + q) / 8) (UInt8.ofNat (v.toNat ^^^ y))
                  rw [List.set_append_left _ _ hj2] at hst
                  have hcv : (UInt8.ofNat (v.toNat ^^^ y)).toNat = v.toNat ^^^ y := by
                    rw [UInt8.toNat_ofNat']
                    exact Nat.mod_eq_of_lt (Nat.xor_lt_two_pow (n := 8) (UInt8.toNat_lt v) hy256)
                  rw [xor8 v ((i + q) % 8) (by omega), ← hy]
                  refine ⟨q + 1, l2.set ((i + q) / 8) (UInt8.ofNat (v.toNat ^^^ y)), by omega, by omega, by go_num, by rw [List.length_set]; exact hl2l, ?_, ?_, HX.out.setCell (by show w.heap.size ≤ g; omega) _⟩
                  · rw [nm_set l2 ((i + q) / 8) y _ hj2 hy256 (by rw [hcv, hv2]), HNM.out, bit_one ch q i hbit, hy, ← Nat.pow_add, Nat.div_add_mod, Nat.xor_assoc]
                  · rw [hcv] at hst
                    exact hst
                case measure => simp [intOf]; omega
              · have ho := bit_and ch q (by omega)
                have hb0 : ch / 2 ^ q % 2 = 0 := by omega
                rw [hb0] at ho
                have HOR := Lib.hid hor
                have HB := Lib.hid hb0
                clear hor hbit hb0
                go_wp2_with fail
                go_roundw
                case rel => exact ⟨q + 1, l2, by omega, by omega, by go_num, hl2l, by rw [HNM.out, bit_no ch q HB.out], HOR.out, HX.out⟩
                case measure => simp [intOf]; omega
            · obtain ⟨W, hW1, hW2, hW3⟩ : ∃ W, W < 4294967296 ∧ nm l2 = nm l ^^^ (2 ^ i * W) ∧ i ≤ 8 * l.length := ⟨ch % 2 ^ q, Nat.lt_of_le_of_lt (Nat.mod_le _ _) (by omega), HNM.out, by omega⟩
              have hlen2 : (l2 ++ nb 4 (cs l)).length = l.length + 4 := by rw [List.length_append, nb_length, hl2l]
              have hrw : OwnB wr 5 w1.heap.size (some ⟨g, 0, none⟩) b (l2 ++ nb 4 (cs l)) := hor
              have hra2 := fun W (hx : Ext w W) => rappend_c A cap l _ W (HR.out.ext hx) (by omega)
              rw [apd_len] at hra2
              have hsame : (l2 ++ nb 4 (cs l) = apd l) ↔ l2 = l := by
                constructor
                · intro e
                  exact (List.append_inj e hl2l).1
                · intro e
                  rw [e, apd]
              have hchk : chk (l2 ++ nb 4 (cs l)) = decide (l2 ++ nb 4 (cs l) = apd l) := by
                have e1 : l.length + 4 - 4 = l2.length := by omega
                unfold chk
                rw [hlen2, e1, List.drop_left, List.take_left, be_nb 4 _ (by have := cs_lt l; omega)]
                have e2 : (cs l = cs l2) ↔ l2 = l := ⟨fun e => burst_cs hl2l hW3 hW1 hW2 e.symm, fun e => by rw [e]⟩
                rw [decide_eq_decide.2 (e2.trans hsame.symm), decide_eq_true (show 4 ≤ l.length + 4 by omega), Bool.true_and]
              obtain ⟨m2, hm2⟩ : ∃ m2, m2 = l2 ++ nb 4 (cs l) := ⟨_, rfl⟩
              rw [← hm2] at hlen2 hrw hchk
              have HRW := Lib.hid hrw
              have HRA2 := Lib.hid hra2
              have HLEN := Lib.hid hlen2
              clear hor hrw hra2 hm2 hsame hW2 hl2l HNM HRA HO2
              by_cases hm : m2 = apd l
              · rw [decide_eq_true hm] at hchk
                have hy := check_yes (some ⟨g, 0, none⟩) b m2 _ wr HRW.out.rb (by omega) hchk
                rw [hlen2] at hy
                have HY := Lib.hid hy
                have HM := Lib.hid hm
                clear hy hchk hlen2 hm
                go_wp2_with fail
                refine HY.out.mono ?_
                rintro e w3 ⟨D, d, rfl, hd, hx3⟩
                have HX3 := Lib.hid (HX.out.tr hx3)
                have HO3 := Lib.hid (HRW.out.ext hx3)
                clear hx3 HY hd
                go_wp2_with fail
                refine (HRA2.out _ HX3.out).mono ?_
                rintro e w4 ⟨F, f, rfl, hf, hx4⟩
                have hsm := same_c (some ⟨g, 0, none⟩) F m2 (apd l) b f _ _ w4 (HO3.out.ext hx4).rb hf.rb (by rw [HLEN.out]; omega)
                rw [apd_len, HLEN.out, decide_eq_true HM.out] at hsm
                have HSM := Lib.hid hsm
                have HX4 := Lib.hid (HX3.out.tr hx4)
                clear hx4 hf hsm HRA2
                go_wp2_with fail
                refine HSM.out.mono ?_
                rintro e w5 ⟨rfl, nn, rfl⟩
                go_wp2_with fail
                go_ret
                exact ⟨rfl, HX4.out.tr (Ext.drewN _ _)⟩
              · rw [decide_eq_false hm] at hchk
                have hy := check_no (some ⟨g, 0, none⟩) b m2 _ wr HRW.out.rb (by omega) hchk
                rw [hlen2] at hy
                have HY := Lib.hid hy
                have HM := Lib.hid hm
                clear hy hchk hlen2 hm
                go_wp2_with fail
                refine HY.out.mono ?_
                rintro e w3 ⟨rfl, hx3⟩
                have HX3 := Lib.hid (HX.out.tr hx3)
                have HO3 := Lib.hid (HRW.out.ext hx3)
                clear hx3 HY
                go_wp2_with fail
                refine (HRA2.out _ HX3.out).mono ?_
                rintro e w4 ⟨F, f, rfl, hf, hx4⟩
                have hsm := same_c (some ⟨g, 0, none⟩) F m2 (apd l) b f _ _ w4 (HO3.out.ext hx4).rb hf.rb (by rw [HLEN.out]; omega)
                rw [apd_len, HLEN.out, decide_eq_false HM.out] at hsm
                have HSM := Lib.hid hsm
                have HX4 := Lib.hid (HX3.out.tr hx4)
                clear hx4 hf hsm HRA2
                go_wp2_with fail
                refine HSM.out.mono ?_
                rintro e w5 ⟨rfl, nn, rfl⟩
                go_wp2_with fail
                go_ret
                exact ⟨rfl, HX4.out.tr (Ext.drewN _ _)⟩
          · obtain ⟨W, hW1, hW2, hW3⟩ : ∃ W, W < 4294967296 ∧ nm l2 = nm l ^^^ (2 ^ i * W) ∧ i ≤ 8 * l.length := ⟨ch % 2 ^ q, Nat.lt_of_le_of_lt (Nat.mod_le _ _) (by omega), HNM.out, by omega⟩
            have hlen2 : (l2 ++ nb 4 (cs l)).length = l.length + 4 := by rw [List.length_append, nb_length, hl2l]
            have hrw : OwnB wr 5 w1.heap.size (some ⟨g, 0, none⟩) b (l2 ++ nb 4 (cs l)) := hor
            have hra2 := fun W (hx : Ext w W) => rappend_c A cap l _ W (HR.out.ext hx) (by omega)
            rw [apd_len] at hra2
            have hsame : (l2 ++ nb 4 (cs l) = apd l) ↔ l2 = l := by
              constructor
              · intro e
                exact (List.append_inj e hl2l).1
              · intro e
                rw [e, apd]
            have hchk : chk (l2 ++ nb 4 (cs l)) = decide (l2 ++ nb 4 (cs l) = apd l) := by
              have e1 : l.length + 4 - 4 = l2.length := by omega
              unfold chk
              rw [hlen2, e1, List.drop_left, List.take_left, be_nb 4 _ (by have := cs_lt l; omega)]
              have e2 : (cs l = cs l2) ↔ l2 = l := ⟨fun e => burst_cs hl2l hW3 hW1 hW2 e.symm, fun e => by rw [e]⟩
              rw [decide_eq_decide.2 (e2.trans hsame.symm), decide_eq_true (show 4 ≤ l.length + 4 by omega), Bool.true_and]
            obtain ⟨m2, hm2⟩ : ∃ m2, m2 = l2 ++ nb 4 (cs l) := ⟨_, rfl⟩
            rw [← hm2] at hlen2 hrw hchk
            have HRW := Lib.hid hrw
            have HRA2 := Lib.hid hra2
            have HLEN := Lib.hid hlen2
            clear hor hrw hra2 hm2 hsame hW2 hl2l HNM HRA HO2
            by_cases hm : m2 = apd l
            · rw [decide_eq_true hm] at hchk
              have hy := check_yes (some ⟨g, 0, none⟩) b m2 _ wr HRW.out.rb (by omega) hchk
              rw [hlen2] at hy
              have HY := Lib.hid hy
              have HM := Lib.hid hm
              clear hy hchk hlen2 hm
              go_wp2_with fail
              refine HY.out.mono ?_
              rintro e w3 ⟨D, d, rfl, hd, hx3⟩
              have HX3 := Lib.hid (HX.out.tr hx3)
              have HO3 := Lib.hid (HRW.out.ext hx3)
              clear hx3 HY hd
              go_wp2_with fail
              refine (HRA2.out _ HX3.out).mono ?_
              rintro e w4 ⟨F, f, rfl, hf, hx4⟩
              have hsm := same_c (some ⟨g, 0, none⟩) F m2 (apd l) b f _ _ w4 (HO3.out.ext hx4).rb hf.rb (by rw [HLEN.out]; omega)
              rw [apd_len, HLEN.out, decide_eq_true HM.out] at hsm
              have HSM := Lib.hid hsm
              have HX4 := Lib.hid (HX3.out.tr hx4)
              clear hx4 hf hsm HRA2
              go_wp2_with fail
              refine HSM.out.mono ?_
              rintro e w5 ⟨rfl, nn, rfl⟩
              go_wp2_with fail
              go_ret
              exact ⟨rfl, HX4.out.tr (Ext.drewN _ _)⟩
            · rw [decide_eq_false hm] at hchk
              have hy := check_no (some ⟨g, 0, none⟩) b m2 _ wr HRW.out.rb (by omega) hchk
              rw [hlen2] at hy
              have HY := Lib.hid hy
              have HM := Lib.hid hm
              clear hy hchk hlen2 hm
              go_wp2_with fail
              refine HY.out.mono ?_
              rintro e w3 ⟨rfl, hx3⟩
              have HX3 := Lib.hid (HX.out.tr hx3)
              have HO3 := Lib.hid (HRW.out.ext hx3)
              clear hx3 HY
              go_wp2_with fail
              refine (HRA2.out _ HX3.out).mono ?_
              rintro e w4 ⟨F, f, rfl, hf, hx4⟩
              have hsm := same_c (some ⟨g, 0, none⟩) F m2 (apd l) b f _ _ w4 (HO3.out.ext hx4).rb hf.rb (by rw [HLEN.out]; omega)
              rw [apd_len, HLEN.out, decide_eq_false HM.out] at hsm
              have HSM := Lib.hid hsm
              have HX4 := Lib.hid (HX3.out.tr hx4)
              clear hx4 hf hsm HRA2
              go_wp2_with fail
              refine HSM.out.mono ?_
              rintro e w5 ⟨rfl, nn, rfl⟩
              go_wp2_with fail
              go_ret
              exact ⟨rfl, HX4.out.tr (Ext.drewN _ _)⟩
end Go.Proofs.YtpfognoabboheaaDoor
