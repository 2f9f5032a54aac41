/-
  SealOpens.
-/
import Derived.Test.YtdaahkijmleioaaDoorQSealX
import Derived.Deep.CutBlock

namespace Go.Proofs.YtdaahkijmleioaaDoor
open Go.RowKit
set_option linter.unusedVariables false
set_option linter.unusedSimpArgs false

theorem nonce_long (d : Nat) (B : Option Addr) (s : List UInt8) (S : Nat → TypeId → Prop) (w : World) (hb : s.length ≤ 1048576) (hd : s.length ≤ d) (hl : 24 ≤ s.length) (hr : RB w S B s) :
    Calls Tryd.prog 13 #[.slice B s.length d] w fun e w' => e = .returned (.tuple #[.agg (tabV .u8 8 (byt s)), .bool true]) ∧ Ext w w' := by
  have h := nonce_c d B s S w hb hd hr
  rw [if_pos hl, decide_eq_true hl] at h
  exact h
theorem nonce_short (d : Nat) (B : Option Addr) (s : List UInt8) (S : Nat → TypeId → Prop) (w : World) (hb : s.length ≤ 1048576) (hd : s.length ≤ d) (hl : ¬ 24 ≤ s.length) (hr : RB w S B s) :
    Calls Tryd.prog 13 #[.slice B s.length d] w fun e w' => e = .returned (.tuple #[.agg (tabV .u8 8 (fun _ => 0)), .bool false]) ∧ Ext w w' := by
  have h := nonce_c d B s S w hb hd hr
  rw [if_neg hl, decide_eq_false hl] at h
  exact h
theorem open_of (d : Nat) (key : Nat → Nat) (hk : Byt key) (u : UInt8) (B : Option Addr) (s : List UInt8) (S : Nat → TypeId → Prop) (w : World) (ht : Tab w) (hb : s.length ≤ 1048576) (hd : s.length ≤ d) (hm : d ≤ 9223372036854775807) (hr : RB w S B s) (x : List UInt8) (q : Bool) (hx : oans (btl 16 key) u s = x) (hq : (opn (btl 16 key) u s).isSome = q) :
    Calls Tryd.prog 12 #[.agg (tabV .u8 16 key), .int .u8 (u.toNat : Int), .slice B s.length d] w fun e w' =>
      ∃ A c, e = .returned (.tuple #[.slice A x.length c, .bool q]) ∧ RB w' (fun _ _ => True) A x ∧ x.length ≤ c ∧ c ≤ 9223372036854775807 ∧ Ext w w' := by
  subst hx hq
  exact open_c d key hk u B s S w ht hb hd hm hr
theorem ropen_of (d : Nat) (key : Nat → Nat) (hk : Byt key) (u : UInt8) (B : Option Addr) (s : List UInt8) (S : Nat → TypeId → Prop) (w : World) (hb : s.length ≤ 1048576) (hd : s.length ≤ d) (hr : RB w S B s) (x : List UInt8) (q : Bool) (hx : oans (btl 16 key) u s = x) (hq : (opn (btl 16 key) u s).isSome = q) :
    Calls Tryd.prog 14 #[.agg (tabV .u8 16 key), .int .u8 (u.toNat : Int), .slice B s.length d] w fun e w' =>
      ∃ A c, e = .returned (.tuple #[.slice A x.length c, .bool q]) ∧ RB w' (fun _ _ => True) A x ∧ Ext w w' := by
  subst hx hq
  exact ropen_c d key hk u B s S w hb hd hr
set_option maxRecDepth 100000 in
set_option maxHeartbeats 8000000 in
theorem sealOpens_walk (key : Nat → Nat) (ui : Int) (B : Option Addr) (len cap : Nat) (z : List Int) (w : World) (hk' : ∀ i, i < 16 → (Lit.int .u8 (key i : Nat)).wf = true) (hu' : (Lit.int .u8 ui).wf = true) (hz : IsRow .u8 w B len cap z) (ht : Tab w) :
    Calls Tryd.prog 4 #[.agg (tabV .u8 16 key), .int .u8 ui, .slice B len cap] w fun e w' => e = .returned (.bool true) ∧ Ext w w' := by
  obtain ⟨u, rfl⟩ := u8_of hu'
  have HKB := Lib.hid (wf_byt hk')
  obtain ⟨s, rfl, hs1, hs2, hsr⟩ := row_bytes hz
  unfold maxLen at hs2
  have h0 : Arr (w.alloc (.cells (tabV .u8 16 key) 22)) w.heap.size 22 .u8 16 key := new_of w _
  have hx0 := Ext.alloc w (.cells (tabV .u8 16 key) 22)
  obtain ⟨W0, hW0⟩ : ∃ W, W = w.alloc (.cells (tabV .u8 16 key) 22) := ⟨_, rfl⟩
  rw [← hW0] at h0 hx0
  have HK := Lib.hid (fun (V : World) (hx : Ext W0 V) => h0.ext hx)
  have HT := Lib.hid (fun (V : World) (hx : Ext W0 V) => (ht.ext hx0).ext hx)
  have HS := Lib.hid (fun (V : World) (hx : Ext W0 V) => (hsr.ext hx0).ext hx)
  have HX0 := Lib.hid hx0
  have HS1 := Lib.hid hs1
  have HS2 := Lib.hid (show cap ≤ 9223372036854775807 by omega)
  have HW0 := Lib.hid hW0
  clear h0 ht hsr hx0 hk' hu' hz hs1 hs2 hW0
  by_cases hlt : 1000 < s.length
  · have t1 : decide ((1000 : Int) < (s.length : Int)) = true := decide_eq_true (by omega)
    clear hlt
    go_enter Tryd.func4, Tryd.ntmps4
    go_wp2_with fail
    rw [← HW0.out]
    refine (awake_c _ (HT.out _ (Ext.refl _))).mono ?_
    rintro e w1 ⟨rfl, hx1⟩
    go_wp2_with fail
    refine (awake_c _ (HT.out _ hx1)).mono ?_
    rintro e w2 ⟨rfl, hx2⟩
    go_wp2_with fail
    go_ret
    exact ⟨rfl, HX0.out.tr (hx1.tr hx2)⟩
  have t1 : decide ((1000 : Int) < (s.length : Int)) = false := decide_eq_false (by omega)
  have HLE := Lib.hid (show s.length ≤ 1000 by omega)
  clear hlt
  cases ho : opn (btl 16 key) u s with
  | none =>
    have HO := Lib.hid (show oans (btl 16 key) u s = [] by unfold oans; rw [ho]; rfl)
    have HQ := Lib.hid (show (opn (btl 16 key) u s).isSome = false by rw [ho]; rfl)
    clear ho
    go_enter Tryd.func4, Tryd.ntmps4
    go_wp2_with fail
    rw [← HW0.out]
    refine (awake_c _ (HT.out _ (Ext.refl _))).mono ?_
    rintro e w1 ⟨rfl, hx1⟩
    have HX1 := Lib.hid hx1
    clear hx1
    go_wp2_with (refine wpList_load_arr rfl 22 (.tmp 3) rfl w.heap.size rfl 22 .u8 16 key _ (HK.out _ HX1.out) Tryd.underlying22 size_bk ?_)
    refine (open_of cap key HKB.out u B s _ w1 (HT.out _ HX1.out) (by have := HLE.out; omega) HS1.out HS2.out (HS.out _ HX1.out) [] false HO.out HQ.out).mono ?_
    rintro e w2 ⟨A1, c1, rfl, hr, _, _, hx⟩
    have HX2 := Lib.hid (HX1.out.tr hx)
    clear hr hx
    go_wp2_with (refine wpList_load_arr rfl 22 (.tmp 3) rfl w.heap.size rfl 22 .u8 16 key _ (HK.out _ HX2.out) Tryd.underlying22 size_bk ?_)
    refine (ropen_of cap key HKB.out u B s _ w2 (by have := HLE.out; omega) HS1.out (HS.out _ HX2.out) [] false HO.out HQ.out).mono ?_
    rintro e w3 ⟨A2, c2, rfl, hr, hx⟩
    have HX3 := Lib.hid (HX2.out.tr hx)
    clear hr hx
    go_wp2_with fail
    refine (same_self A1 A2 [] c1 c2 (fun _ _ => True) (fun _ _ => True) w3 (RB.nil _ _ _) (RB.nil _ _ _) (by decide)).mono ?_
    rintro e w4 ⟨rfl, hx⟩
    have HX4 := Lib.hid (HX3.out.tr hx)
    clear hx
    go_wp2_with fail
    by_cases hl : 24 ≤ s.length
    · have t2 : decide ((24 : Int) ≤ (s.length : Int)) = true := decide_eq_true (by omega)
      refine (nonce_long cap B s _ w4 (by have := HLE.out; omega) HS1.out hl (HS.out _ HX4.out)).mono ?_
      rintro e w5 ⟨rfl, hx⟩
      have HX5 := Lib.hid (HX4.out.tr hx)
      clear hx hl
      go_upto_region 8 with (first
        | (refine wpList_store_arr' rfl rfl 23 (.tmp 11) (.tmp 47) rfl w5.heap.size .u8 8 (byt s) rfl rfl 23 _ (new_of w5 (.cells (tabV .u8 8 (fun _ => 0)) 23)) size_nc tabV_size ?_
           intro w6 hA hG
           have HX6 := Lib.hid (HX5.out.tr (grown_new (Ext.alloc _ _) hG (fun g hg => by simp at hg; omega)))
           clear hA hG))
      go_wp2_with fail
      go_ret
      exact ⟨rfl, HX0.out.tr HX6.out⟩
    · have t2 : decide ((24 : Int) ≤ (s.length : Int)) = false := decide_eq_false (by omega)
      refine (nonce_short cap B s _ w4 (by have := HLE.out; omega) HS1.out hl (HS.out _ HX4.out)).mono ?_
      rintro e w5 ⟨rfl, hx⟩
      have HX5 := Lib.hid (HX4.out.tr hx)
      clear hx hl
      go_upto_region 8 with (first
        | (refine wpList_store_arr' rfl rfl 23 (.tmp 11) (.tmp 47) rfl w5.heap.size .u8 8 (fun _ => 0) rfl rfl 23 _ (new_of w5 (.cells (tabV .u8 8 (fun _ => 0)) 23)) size_nc tabV_size ?_
           intro w6 hA hG
           have HX6 := Lib.hid (HX5.out.tr (grown_new (Ext.alloc _ _) hG (fun g hg => by simp at hg; omega)))
           clear hA hG))
      go_wp2_with fail
      go_ret
      exact ⟨rfl, HX0.out.tr HX6.out⟩
  | some x =>
    obtain ⟨hl, hsx⟩ := opn_some ho
    have hxl : x.length + 24 = s.length := by rw [← sld_len (btl 16 key) u (byt s) x, hsx]
    have t2 : decide ((24 : Int) ≤ (s.length : Int)) = true := decide_eq_true (by omega)
    have HO := Lib.hid (show oans (btl 16 key) u s = x by unfold oans; rw [ho]; rfl)
    have HQ := Lib.hid (show (opn (btl 16 key) u s).isSome = true by rw [ho]; rfl)
    have HL := Lib.hid hl
    have HSX := Lib.hid hsx
    have HXL := Lib.hid hxl
    clear ho hl hsx hxl
    go_enter Tryd.func4, Tryd.ntmps4
    go_wp2_with fail
    rw [← HW0.out]
    refine (awake_c _ (HT.out _ (Ext.refl _))).mono ?_
    rintro e w1 ⟨rfl, hx1⟩
    have HX1 := Lib.hid hx1
    clear hx1
    go_wp2_with (refine wpList_load_arr rfl 22 (.tmp 3) rfl w.heap.size rfl 22 .u8 16 key _ (HK.out _ HX1.out) Tryd.underlying22 size_bk ?_)
    refine (open_of cap key HKB.out u B s _ w1 (HT.out _ HX1.out) (by have := HLE.out; omega) HS1.out HS2.out (HS.out _ HX1.out) x true HO.out HQ.out).mono ?_
    rintro e w2 ⟨A1, c1, rfl, hr, hc1, _, hx⟩
    have HX2 := Lib.hid (HX1.out.tr hx)
    have HR2 := Lib.hid hr
    have HC1 := Lib.hid hc1
    clear hr hx hc1
    go_wp2_with (refine wpList_load_arr rfl 22 (.tmp 3) rfl w.heap.size rfl 22 .u8 16 key _ (HK.out _ HX2.out) Tryd.underlying22 size_bk ?_)
    refine (ropen_of cap key HKB.out u B s _ w2 (by have := HLE.out; omega) HS1.out (HS.out _ HX2.out) x true HO.out HQ.out).mono ?_
    rintro e w3 ⟨A2, c2, rfl, hr, hx⟩
    have HX3 := Lib.hid (HX2.out.tr hx)
    have HR3 := Lib.hid (HR2.out.ext hx)
    have HP3 := Lib.hid hr
    clear hr hx HR2
    go_wp2_with fail
    refine (same_self A1 A2 x c1 c2 _ _ w3 HR3.out HP3.out (by have := HXL.out; have := HLE.out; omega)).mono ?_
    rintro e w4 ⟨rfl, hx⟩
    have HX4 := Lib.hid (HX3.out.tr hx)
    have HR4 := Lib.hid (HR3.out.ext hx)
    clear hx HR3 HP3
    go_wp2_with fail
    refine (nonce_long cap B s _ w4 (by have := HLE.out; omega) HS1.out HL.out (HS.out _ HX4.out)).mono ?_
    rintro e w5 ⟨rfl, hx⟩
    have HX5 := Lib.hid (HX4.out.tr hx)
    have HR5 := Lib.hid (HR4.out.ext hx)
    clear hx HR4
    go_wp2_with (first
      | (refine wpList_store_arr rfl 23 (.tmp 11) (.tmp 47) rfl w5.heap.size .u8 8 (byt s) rfl rfl 23 _ (new_of _ _) size_nc rfl ?_
         intro w6 hA hG
         have hx : Ext w5 w6 := grown_new (Ext.alloc _ _) hG (fun g hg => by simp at hg; omega)
         have HX6 := Lib.hid (HX5.out.tr hx)
         have HR6 := Lib.hid (HR5.out.ext hx)
         have HA6 := Lib.hid (show Arr w6 w5.heap.size _ _ _ _ from hA)
         clear hA hG hx HR5)
      | refine wpList_load_arrg (by kernel_rfl) 22 (.tmp 3) rfl w.heap.size rfl 22 .u8 16 key _ (HK.out _ HX6.out) Tryd.underlying22 size_bk ?_
      | refine wpList_load_arrg (by kernel_rfl) 23 (.tmp 11) rfl w5.heap.size rfl 23 .u8 8 (byt s) _ HA6.out Tryd.underlying23 size_nc ?_)
    refine (seal_c c1 key (byt s) HKB.out (fun i _ => byt_lt _ _) u A1 x _ w6 (HT.out _ HX6.out) (by have := HXL.out; have := HLE.out; omega) HC1.out HR6.out).mono ?_
    rintro e w7 ⟨A7, c7, rfl, ho, hx⟩
    have HX7 := Lib.hid (HX6.out.tr hx)
    have hrb := ho.rb
    rw [HSX.out] at hrb
    rw [HXL.out]
    have HP7 := Lib.hid hrb
    clear ho hx hrb HR6 HA6
    go_wp2_with fail
    refine (same_self A7 B s c7 cap _ _ w7 HP7.out (HS.out _ HX7.out) (by have := HLE.out; omega)).mono ?_
    rintro e w8 ⟨rfl, hx⟩
    have HX8 := Lib.hid (HX7.out.tr hx)
    clear hx HP7
    go_wp2_with fail
    go_ret
    exact ⟨rfl, HX0.out.tr HX8.out⟩
end Go.Proofs.YtdaahkijmleioaaDoor
