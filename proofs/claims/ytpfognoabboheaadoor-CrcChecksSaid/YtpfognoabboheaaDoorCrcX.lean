/-
  CrcChecks: the walk.
-/
import Derived.Test.YtpfognoabboheaaDoorCrcV
namespace Go.Proofs.YtpfognoabboheaaDoor
open Go.RowKit

set_option maxRecDepth 100000 in
set_option maxHeartbeats 4000000 in
theorem crcChecks_walk (A : Option Addr) (len cap : Nat) (z : List Int) (w : World) (h : IsRow .u8 w A len cap z) :
    Calls Tryd.prog 4 #[.slice A len cap] w fun e w' => e = .returned (.bool true) ∧ Ext w w' := by
  obtain ⟨l, rfl, hl1, hl2, hr⟩ := row_bytes h
  have HR := Lib.hid hr
  clear h hr
  unfold maxLen at hl2
  by_cases h2 : 1000 < l.length
  · have t2 : decide ((1000 : Int) < (l.length : Int)) = true := decide_eq_true (by omega)
    go_enter Tryd.func4, Tryd.ntmps4
    go_wp2_with fail
    refine (awake_c _).mono ?_
    rintro e w1 ⟨rfl, hx1⟩
    have HX1 := Lib.hid hx1
    clear hx1
    go_wp2_with fail
    refine (awake_c _).mono ?_
    rintro e w2 ⟨rfl, hx2⟩
    go_wp2_with fail
    go_ret
    exact ⟨rfl, HX1.out.tr hx2⟩
  · have t2 : decide ((1000 : Int) < (l.length : Int)) = false := decide_eq_false (by omega)
    by_cases hck : chk l = true
    · have h4 : 4 ≤ l.length := by
        unfold chk at hck
        simp at hck
        exact hck.1
      have en : (l.length : Int) - 4 = ((l.length - 4 : Nat) : Int) := by omega
      obtain ⟨n, hn⟩ : ∃ n, n = l.length - 4 := ⟨_, rfl⟩
      rw [← hn] at en
      have hln : (l.take n).length = n := by rw [List.length_take]; omega
      have hn1 : n ≤ l.length := by omega
      have hch := fun W (hx : Ext w W) => check_yes A cap l _ W (HR.out.ext hx) (by omega) hck
      have hrc := fun W (hx : Ext w W) => rcheck_c A cap l _ W (HR.out.ext hx) hl1 (by omega) (by omega)
      have hsm := fun W (hx : Ext w W) (B : Option Addr) (b : Nat) (S : Nat → TypeId → Prop) (hb : RB W S B (l.take n)) => same_x B A (l.take n) (l.take n) b cap S _ W hb ((HR.out.ext hx).take n) (by rw [hln]; omega) rfl
      rw [← hn, hln] at hch
      rw [hck] at hrc
      rw [hln] at hsm
      have HCH := Lib.hid hch
      have HRC := Lib.hid hrc
      have HSN := Lib.hid hsm
      have HN := Lib.hid hn
      clear hck hch hrc hsm hln hn
      go_enter Tryd.func4, Tryd.ntmps4
      go_wp2_with fail
      refine (awake_c _).mono ?_
      rintro e w0 ⟨rfl, hx0⟩
      have HX0 := Lib.hid hx0
      clear hx0
      go_wp2_with fail
      refine (HCH.out _ HX0.out).mono ?_
      rintro e w1 ⟨X, x, rfl, hxx, hx1⟩
      have HXX := Lib.hid hxx
      have HX1 := Lib.hid (HX0.out.tr hx1)
      clear hx1 hxx HCH
      go_wp2_with fail
      refine (HRC.out _ HX1.out).mono ?_
      rintro e w1' ⟨rfl, rfl⟩
      go_wp2_with fail
      refine (HSN.out _ HX1.out X x _ HXX.out.rb).mono ?_
      rintro e w2 ⟨rfl, hx2⟩
      have HX2 := Lib.hid (HX1.out.tr hx2)
      clear hx2 HRC HSN HXX
      go_wp2_with fail
      have hl4 : l.length ≤ 1000 := by omega
      refine (append_c A cap l _ _ (HR.out.ext HX2.out) (by omega)).mono ?_
      rintro e w3 ⟨B, b, rfl, ho3, hx3⟩
      rw [apd_len]
      obtain ⟨g, cs0, rfl, hge, hgg⟩ : ∃ g cs, B = some ⟨g, 0, none⟩ ∧ w2.heap.size ≤ g ∧ w3.heap[g]? = some (.cells cs 5 (0, 0)) := by
        rcases ho3.block with ⟨_, _, h⟩ | ⟨g, cs, h1, h2, h3, _⟩
        · have := congrArg List.length h
          rw [apd_len] at this
          simp at this
        · exact ⟨g, cs, h1, h2, h3⟩
      have hglt := lt_of_some hgg
      have HX3 := Lib.hid (HX2.out.tr hx3)
      have HO3 := Lib.hid ho3
      have hy := check_yes (some ⟨g, 0, none⟩) b (apd l) _ w3 ho3.rb (by rw [apd_len]; omega) (chk_apd _)
      rw [take_apd, apd_len] at hy
      have hbb := ho3.le.1
      have hbm := ho3.le.2
      rw [apd_len] at hbb
      unfold maxLen at hbm
      have HY := Lib.hid hy
      clear hx3 ho3 hy hgg
      go_wp2_with fail
      refine HY.out.mono ?_
      rintro e w4 ⟨D, d, rfl, hd, hx4⟩
      have HX4 := Lib.hid (HX3.out.tr hx4)
      have HO4 := Lib.hid (HO3.out.ext hx4)
      have HD4 := Lib.hid hd
      clear hx4 hd HY
      have hra := rappend_c A cap l _ w4 (HR.out.ext HX4.out) (by omega)
      rw [apd_len] at hra
      have HRA := Lib.hid hra
      clear hra
      go_wp2_with fail
      refine HRA.out.mono ?_
      rintro e w5 ⟨F, f, rfl, hf, hx5⟩
      have hsm := same_x (some ⟨g, 0, none⟩) F (apd l) (apd l) b f _ _ w5 (HO4.out.ext hx5).rb hf.rb (by rw [apd_len]; omega) rfl
      rw [apd_len] at hsm
      have HSM := Lib.hid hsm
      have HX5 := Lib.hid (HX4.out.tr hx5)
      have HO5 := Lib.hid (HO4.out.ext hx5)
      have HD5 := Lib.hid (HD4.out.ext hx5)
      clear hx5 hf hsm HRA
      go_wp2_with fail
      refine HSM.out.mono ?_
      rintro e w6 ⟨rfl, hx6⟩
      have HX6 := Lib.hid (HX5.out.tr hx6)
      have HO6 := Lib.hid (HO5.out.ext hx6)
      have HD6 := Lib.hid (HD5.out.ext hx6)
      clear hx6 HSM
      go_wp2_with fail
      refine (same_x D A l l d cap _ _ _ HD6.out.rb (HR.out.ext HX6.out) (by omega) rfl).mono ?_
      rintro e w7 ⟨rfl, hx7⟩
      have HX7 := Lib.hid (HX6.out.tr hx7)
      have HO7 := Lib.hid (HO6.out.ext hx7)
      have HD7 := Lib.hid (HD6.out.ext hx7)
      clear hx7
      have hsz := HX2.out.size
      go_wp2_with fail
      go_loopw [8] (fun i wr => ∃ (k : Nat) (m : List UInt8), k ≤ l.length + 4 ∧ i = .int .i64 k ∧ m.length = l.length + 4 ∧ OwnB wr 5 w2.heap.size (some ⟨g, 0, none⟩) b m ∧ w7.grownBy wr (some g)) (fun i _ => l.length + 4 - (intOf i).toNat)
      case atStart => exact ⟨0, apd l, Nat.zero_le _, rfl, apd_len l, HO7.out, World.grownBy.refl _ _⟩
      case round =>
        obtain ⟨k, m, hk, rfl, hm, hor, hg⟩ := hrel
        by_cases hlt : k < l.length + 4
        · have hlt' : k < m.length := by omega
          have hc := hor.cellAt hlt'
          have hfz := hor.freeAt k
          have hst := hor.set_ k (m[k] + 1)
          have e1 : ((m[k] + 1).toNat : Int) = ((m[k]).toNat + 1) % 256 := by rw [UInt8.toNat_add]; rfl
          rw [e1] at hst
          have hm2 : (m.set k (m[k] + 1)).length = l.length + 4 := by rw [List.length_set]; exact hm
          obtain ⟨m2, hm2'⟩ : ∃ m2, m2 = m.set k (m[k] + 1) := ⟨_, rfl⟩
          rw [← hm2'] at hst hm2
          have HST := Lib.hid hst
          have HG := Lib.hid hg
          have HM := Lib.hid hm2
          clear hor hst hg hm2 hm2' e1 hm
          go_wp2_with fail
          go_roundw
          case rel => exact ⟨k + 1, m2, by omega, by go_num, HM.out, HST.out, grown_tr HG.out (grown_set _ rfl _)⟩
          case measure => simp [intOf]; omega
        · have HG := Lib.hid hg
          clear hg hor
          have hra := (HR.out.ext HX7.out).grown HG.out (fun g' t h e => by injection e with e; have := h; omega)
          have hrd := HD7.out.rb.grown HG.out (fun g' t h e => by injection e with e; have := h.1; omega)
          have HRA := Lib.hid hra
          have HRD := Lib.hid hrd
          clear hra hrd
          go_wp2_with fail
          refine (same_x D A l l d cap _ _ _ HRD.out HRA.out (by omega) rfl).mono ?_
          rintro e w8 ⟨rfl, hx8⟩
          have HX8 := Lib.hid hx8
          clear hx8
          go_wp2_with fail
          go_ret
          exact ⟨rfl, (grown_new HX7.out HG.out (fun g' hg' => by simp at hg'; omega)).tr HX8.out⟩
    · have hckf : chk l = false := by simpa using hck
      have hch := fun W (hx : Ext w W) => check_no A cap l _ W (HR.out.ext hx) (by omega) hckf
      have hrc := fun W (hx : Ext w W) => rcheck_c A cap l _ W (HR.out.ext hx) hl1 (by omega) (by omega)
      rw [hckf] at hrc
      have HCH := Lib.hid hch
      have HRC := Lib.hid hrc
      clear hck hch hrc hckf
      go_enter Tryd.func4, Tryd.ntmps4
      go_wp2_with fail
      refine (awake_c _).mono ?_
      rintro e w0 ⟨rfl, hx0⟩
      have HX0 := Lib.hid hx0
      clear hx0
      go_wp2_with fail
      refine (HCH.out _ HX0.out).mono ?_
      rintro e w2 ⟨rfl, hx2⟩
      have HX2 := Lib.hid (HX0.out.tr hx2)
      clear hx2 HCH
      go_wp2_with fail
      refine (HRC.out _ HX2.out).mono ?_
      rintro e w1' ⟨rfl, rfl⟩
      clear HRC
      go_wp2_with fail
      have hl4 : l.length ≤ 1000 := by omega
      refine (append_c A cap l _ _ (HR.out.ext HX2.out) (by omega)).mono ?_
      rintro e w3 ⟨B, b, rfl, ho3, hx3⟩
      rw [apd_len]
      obtain ⟨g, cs0, rfl, hge, hgg⟩ : ∃ g cs, B = some ⟨g, 0, none⟩ ∧ w2.heap.size ≤ g ∧ w3.heap[g]? = some (.cells cs 5 (0, 0)) := by
        rcases ho3.block with ⟨_, _, h⟩ | ⟨g, cs, h1, h2, h3, _⟩
        · have := congrArg List.length h
          rw [apd_len] at this
          simp at this
        · exact ⟨g, cs, h1, h2, h3⟩
      have hglt := lt_of_some hgg
      have HX3 := Lib.hid (HX2.out.tr hx3)
      have HO3 := Lib.hid ho3
      have hy := check_yes (some ⟨g, 0, none⟩) b (apd l) _ w3 ho3.rb (by rw [apd_len]; omega) (chk_apd _)
      rw [take_apd, apd_len] at hy
      have hbb := ho3.le.1
      have hbm := ho3.le.2
      rw [apd_len] at hbb
      unfold maxLen at hbm
      have HY := Lib.hid hy
      clear hx3 ho3 hy hgg
      go_wp2_with fail
      refine HY.out.mono ?_
      rintro e w4 ⟨D, d, rfl, hd, hx4⟩
      have HX4 := Lib.hid (HX3.out.tr hx4)
      have HO4 := Lib.hid (HO3.out.ext hx4)
      have HD4 := Lib.hid hd
      clear hx4 hd HY
      have hra := rappend_c A cap l _ w4 (HR.out.ext HX4.out) (by omega)
      rw [apd_len] at hra
      have HRA := Lib.hid hra
      clear hra
      go_wp2_with fail
      refine HRA.out.mono ?_
      rintro e w5 ⟨F, f, rfl, hf, hx5⟩
      have hsm := same_x (some ⟨g, 0, none⟩) F (apd l) (apd l) b f _ _ w5 (HO4.out.ext hx5).rb hf.rb (by rw [apd_len]; omega) rfl
      rw [apd_len] at hsm
      have HSM := Lib.hid hsm
      have HX5 := Lib.hid (HX4.out.tr hx5)
      have HO5 := Lib.hid (HO4.out.ext hx5)
      have HD5 := Lib.hid (HD4.out.ext hx5)
      clear hx5 hf hsm HRA
      go_wp2_with fail
      refine HSM.out.mono ?_
      rintro e w6 ⟨rfl, hx6⟩
      have HX6 := Lib.hid (HX5.out.tr hx6)
      have HO6 := Lib.hid (HO5.out.ext hx6)
      have HD6 := Lib.hid (HD5.out.ext hx6)
      clear hx6 HSM
      go_wp2_with fail
      refine (same_x D A l l d cap _ _ _ HD6.out.rb (HR.out.ext HX6.out) (by omega) rfl).mono ?_
      rintro e w7 ⟨rfl, hx7⟩
      have HX7 := Lib.hid (HX6.out.tr hx7)
      have HO7 := Lib.hid (HO6.out.ext hx7)
      have HD7 := Lib.hid (HD6.out.ext hx7)
      clear hx7
      have hsz := HX2.out.size
      go_wp2_with fail
      go_loopw [8] (fun i wr => ∃ (k : Nat) (m : List UInt8), k ≤ l.length + 4 ∧ i = .int .i64 k ∧ m.length = l.length + 4 ∧ OwnB wr 5 w2.heap.size (some ⟨g, 0, none⟩) b m ∧ w7.grownBy wr (some g)) (fun i _ => l.length + 4 - (intOf i).toNat)
      case atStart => exact ⟨0, apd l, Nat.zero_le _, rfl, apd_len l, HO7.out, World.grownBy.refl _ _⟩
      case round =>
        obtain ⟨k, m, hk, rfl, hm, hor, hg⟩ := hrel
        by_cases hlt : k < l.length + 4
        · have hlt' : k < m.length := by omega
          have hc := hor.cellAt hlt'
          have hfz := hor.freeAt k
          have hst := hor.set_ k (m[k] + 1)
          have e1 : ((m[k] + 1).toNat : Int) = ((m[k]).toNat + 1) % 256 := by rw [UInt8.toNat_add]; rfl
          rw [e1] at hst
          have hm2 : (m.set k (m[k] + 1)).length = l.length + 4 := by rw [List.length_set]; exact hm
          obtain ⟨m2, hm2'⟩ : ∃ m2, m2 = m.set k (m[k] + 1) := ⟨_, rfl⟩
          rw [← hm2'] at hst hm2
          have HST := Lib.hid hst
          have HG := Lib.hid hg
          have HM := Lib.hid hm2
          clear hor hst hg hm2 hm2' e1 hm
          go_wp2_with fail
          go_roundw
          case rel => exact ⟨k + 1, m2, by omega, by go_num, HM.out, HST.out, grown_tr HG.out (grown_set _ rfl _)⟩
          case measure => simp [intOf]; omega
        · have HG := Lib.hid hg
          clear hg hor
          have hra := (HR.out.ext HX7.out).grown HG.out (fun g' t h e => by injection e with e; have := h; omega)
          have hrd := HD7.out.rb.grown HG.out (fun g' t h e => by injection e with e; have := h.1; omega)
          have HRA := Lib.hid hra
          have HRD := Lib.hid hrd
          clear hra hrd
          go_wp2_with fail
          refine (same_x D A l l d cap _ _ _ HRD.out HRA.out (by omega) rfl).mono ?_
          rintro e w8 ⟨rfl, hx8⟩
          have HX8 := Lib.hid hx8
          clear hx8
          go_wp2_with fail
          go_ret
          exact ⟨rfl, (grown_new HX7.out HG.out (fun g' hg' => by simp at hg'; omega)).tr HX8.out⟩
end Go.Proofs.YtpfognoabboheaaDoor
