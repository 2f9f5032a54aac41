/-
  MacEqual.
-/
import Derived.Test.YtdbmkkjpdhnllaaDoorMacV
import Derived.Test.YtdbmkkjpdhnllaaDoorBytC
namespace Go.Proofs.YtdbmkkjpdhnllaaDoor
open Go.RowKit

set_option maxRecDepth 100000 in
set_option maxHeartbeats 2000000 in
theorem macEqual_walk (A : Option Addr) (la ca : Nat) (za : List Int) (B : Option Addr) (lb cb : Nat) (zb : List Int) (w : World) (ha : IsRow .u8 w A la ca za) (hb : IsRow .u8 w B lb cb zb) (ht : Tab w) :
    Calls Tryd.prog 6 #[.slice A la ca, .slice B lb cb] w fun e w' => e = .returned (.bool true) ∧ Ext w w' := by
  obtain ⟨a, rfl, ha1, ha2, har⟩ := row_bytes ha
  obtain ⟨b, rfl, hb1, hb2, hbr⟩ := row_bytes hb
  have HA := Lib.hid har
  have HB := Lib.hid hbr
  have HT := Lib.hid ht
  clear ha hb har hbr ht
  unfold maxLen at ha2 hb2
  by_cases h1 : 500 < a.length
  · have t1 : decide ((500 : Int) < (a.length : Int)) = true := decide_eq_true (by omega)
    go_enter Tryd.func6, Tryd.ntmps6
    go_wp2_with fail
    refine (awake_c _ HT.out).mono ?_
    rintro e w1 ⟨rfl, hx1⟩
    go_wp2_with fail
    refine (awake_c _ (HT.out.ext hx1)).mono ?_
    rintro e w2 ⟨rfl, hx2⟩
    go_wp2_with fail
    go_ret
    exact ⟨rfl, hx1.tr hx2⟩
  · have t1 : decide ((500 : Int) < (a.length : Int)) = false := decide_eq_false (by omega)
    by_cases h2 : 500 < b.length
    · have t2 : decide ((500 : Int) < (b.length : Int)) = true := decide_eq_true (by omega)
      go_enter Tryd.func6, Tryd.ntmps6
      go_wp2_with fail
      refine (awake_c _ HT.out).mono ?_
      rintro e w1 ⟨rfl, hx1⟩
      go_wp2_with fail
      refine (awake_c _ (HT.out.ext hx1)).mono ?_
      rintro e w2 ⟨rfl, hx2⟩
      go_wp2_with fail
      go_ret
      exact ⟨rfl, hx1.tr hx2⟩
    · have t2 : decide ((500 : Int) < (b.length : Int)) = false := decide_eq_false (by omega)
      obtain ⟨r, hr⟩ : ∃ r, r = decide (a = b) := ⟨_, rfl⟩
      have hre : (r == r) = true := by simp
      have H1 := Lib.hid (fun W (hx : Ext w W) => (equal_c A B a b ca cb _ _ W (HA.out.ext hx) (HB.out.ext hx) (by omega)))
      have H2 := Lib.hid (fun W (hx : Ext w W) => (same_c A B a b ca cb _ _ W (HA.out.ext hx) (HB.out.ext hx) (by omega)))
      have H3 : Hid (∀ W, Ext w W → Calls Tryd.prog 17 #[.slice A a.length ca, .slice A a.length ca] W fun e w' => e = .returned (.bool true) ∧ W = w') := Lib.hid (fun W hx => by
        have h := equal_c A A a a ca ca _ _ W (HA.out.ext hx) (HA.out.ext hx) (by omega)
        rw [decide_eq_true rfl] at h
        exact h)
      rw [← hr] at H1 H2
      clear hr
      go_enter Tryd.func6, Tryd.ntmps6
      go_wp2_with fail
      refine (awake_c _ HT.out).mono ?_
      rintro e w1 ⟨rfl, hx1⟩
      have HX1 := Lib.hid hx1
      clear hx1
      go_wp2_with fail
      refine (H1.out _ HX1.out).mono ?_
      rintro e w2 ⟨rfl, rfl⟩
      go_wp2_with fail
      refine (H2.out _ HX1.out).mono ?_
      rintro e w2 ⟨rfl, n, rfl⟩
      have HX2 := Lib.hid (HX1.out.tr (Ext.drewN _ n))
      go_wp2_with fail
      refine (H3.out _ HX2.out).mono ?_
      rintro e w3 ⟨rfl, rfl⟩
      go_wp2_with fail
      go_ret
      exact ⟨rfl, HX2.out⟩
end Go.Proofs.YtdbmkkjpdhnllaaDoor
