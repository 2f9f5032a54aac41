/-
  MacMatchesReference.
-/
import Derived.Test.YtdbmkkjpdhnllaaDoorMacV
import Derived.Test.YtdbmkkjpdhnllaaDoorBulkR
namespace Go.Proofs.YtdbmkkjpdhnllaaDoor
open Go.RowKit

set_option maxRecDepth 100000 in
set_option maxHeartbeats 2000000 in
theorem macMatchesReference_walk (K : Option Addr) (kl ck : Nat) (zk : List Int) (A : Option Addr) (len cap : Nat) (ls : List (List UInt8)) (w : World) (hk : IsRow .u8 w K kl ck zk) (h : IsRowsC w A len cap ls) (hb : (fla ls).length ≤ 1048576) (ht : Tab w) :
    Calls Tryd.prog 3 #[.slice K kl ck, .slice A len cap] w fun e w' => e = .returned (.bool true) ∧ Ext w w' := by
  obtain ⟨key, rfl, hk1, hk2, hkr⟩ := row_bytes hk
  obtain ⟨rfl, hl, hmx, hr⟩ := h
  have HK := Lib.hid hkr
  have HR := Lib.hid hr
  have HT := Lib.hid ht
  have HB := Lib.hid hb
  have HK1 := Lib.hid hk1
  clear hk hkr hr ht hb hk1
  unfold maxLen at hk2 hmx
  by_cases h1 : 300 < key.length
  · have t1 : decide ((300 : Int) < (key.length : Int)) = true := decide_eq_true (by omega)
    go_enter Tryd.func3, Tryd.ntmps3
    go_wp2_with fail
    refine (awake_c _ HT.out).mono ?_
    rintro e w1 ⟨rfl, hx1⟩
    go_wp2_with fail
    refine (awake_c _ (HT.out.ext hx1)).mono ?_
    rintro e w2 ⟨rfl, hx2⟩
    go_wp2_with fail
    go_ret
    exact ⟨rfl, hx1.tr hx2⟩
  · have t1 : decide ((300 : Int) < (key.length : Int)) = false := decide_eq_false (by omega)
    by_cases h2 : 20 < ls.length
    · have t2 : decide ((20 : Int) < (ls.length : Int)) = true := decide_eq_true (by omega)
      go_enter Tryd.func3, Tryd.ntmps3
      go_wp2_with fail
      refine (awake_c _ HT.out).mono ?_
      rintro e w1 ⟨rfl, hx1⟩
      go_wp2_with fail
      refine (awake_c _ (HT.out.ext hx1)).mono ?_
      rintro e w2 ⟨rfl, hx2⟩
      go_wp2_with fail
      go_ret
      exact ⟨rfl, hx1.tr hx2⟩
    · have t2 : decide ((20 : Int) < (ls.length : Int)) = false := decide_eq_false (by omega)
      go_enter Tryd.func3, Tryd.ntmps3
      go_wp2_with fail
      refine (awake_c _ HT.out).mono ?_
      rintro e w1 ⟨rfl, hx1⟩
      have HX1 := Lib.hid hx1
      clear hx1
      go_wp2_with fail
      refine (rjoin_c A cap ls _ _ _ (HR.out.ext HX1.out).rbs (by have := HB.out; omega) (by omega)).mono ?_
      rintro e w2 ⟨A2, c2, rfl, ho2, hx2⟩
      have HO2 := Lib.hid ho2
      have HX2 := Lib.hid (HX1.out.tr hx2)
      clear ho2 hx2
      obtain ⟨n, hn⟩ : ∃ n, n = (fla ls).length := ⟨_, rfl⟩
      by_cases hbig : 1000 < n
      · rw [← hn]
        have t3 : (1000 : Int) < (n : Int) := by omega
        clear hn
        go_wp2_with fail
        go_ret
        exact ⟨rfl, HX2.out⟩
      · have t3 : (n : Int) ≤ 1000 := by omega
        rw [← hn]
        have HN := Lib.hid hn
        have hs := macSum_c K ck key _ A cap ls _ _ w2 (HT.out.ext HX2.out) (HK.out.ext HX2.out) (by omega) HK1.out (by omega) (HR.out.ext HX2.out) (by have := HB.out; omega) (by omega)
        have hq := fun W (hx : Ext w2 W) => rmac_c K ck key _ A2 c2 (fla ls) _ W (HK.out.ext (HX2.out.tr hx)) (by omega) (HO2.out.ext hx).rb (by have := HB.out; omega)
        rw [← hn] at hq
        obtain ⟨C, hC⟩ : ∃ C, C = hm key (fla ls) := ⟨_, rfl⟩
        rw [← hC] at hs hq
        have HS := Lib.hid hs
        have HQ := Lib.hid hq
        clear hn hs hq hC
        go_wp2_with fail
        refine HS.out.mono ?_
        rintro e w3 ⟨rfl, hx3⟩
        have HX3 := Lib.hid hx3
        clear hx3
        go_wp2_with fail
        refine (HQ.out _ HX3.out).mono ?_
        rintro e w4 ⟨rfl, hx4⟩
        have HX4 := Lib.hid ((HX2.out.tr HX3.out).tr hx4)
        clear hx4
        go_wp2_with (refine wpList_eql_tab rfl 26 26 (.tmp 26) (.tmp 29) rfl .u8 32 C C rfl rfl 5 Tryd.underlying26 Tryd.underlying5 size_u8 cells_u8 noGuard_dig (fun _ _ => rfl) ?_)
        go_ret
        exact ⟨rfl, HX4.out⟩
end Go.Proofs.YtdbmkkjpdhnllaaDoor
