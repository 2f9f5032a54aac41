/-
  SealMatchesReference.
-/
import Derived.Test.YtdaahkijmleioaaDoorQSealN

namespace Go.Proofs.YtdaahkijmleioaaDoor
open Go.RowKit
set_option linter.unusedVariables false
set_option linter.unusedSimpArgs false

theorem u8_of {a : Int} (h : (Lit.int .u8 a).wf = true) : ∃ x : UInt8, a = (x.toNat : Int) := by
  obtain ⟨h0, h1⟩ := bd_u8 h
  refine ⟨UInt8.ofNat a.toNat, ?_⟩
  rw [UInt8.toNat_ofNat', Nat.mod_eq_of_lt (by omega)]
  omega
theorem nonce_sld (d : Nat) (k : List UInt8) (n : Nat → Nat) (hn : Byt8 n) (u : UInt8) (b : List UInt8) (A : Option Addr) (S : Nat → TypeId → Prop) (w : World) (hb : b.length ≤ 1048000) (hd : b.length + 24 ≤ d) (hr : RB w S A (sld k u n b)) :
    Calls Tryd.prog 13 #[.slice A (b.length + 24) d] w fun e w' => e = .returned (.tuple #[.agg (tabV .u8 8 n), .bool true]) ∧ Ext w w' := by
  have hl := sld_len k u n b
  have h := nonce_c d A (sld k u n b) S w (by rw [hl]; omega) (by rw [hl]; exact hd) hr
  rw [if_pos (by rw [hl]; omega), decide_eq_true (by rw [hl]; omega : 24 ≤ (sld k u n b).length), hl, tabV_congr (f' := n) (fun i hi => sld_byt hn hi)] at h
  exact h
set_option maxRecDepth 100000 in
set_option maxHeartbeats 4000000 in
theorem sealMatchesReference_walk (key : Nat → Nat) (ui : Int) (n : Nat → Nat) (B : Option Addr) (len cap : Nat) (z : List Int) (w : World) (hk' : ∀ i, i < 16 → (Lit.int .u8 (key i : Nat)).wf = true) (hu' : (Lit.int .u8 ui).wf = true) (hn' : ∀ i, i < 8 → (Lit.int .u8 (n i : Nat)).wf = true) (hz : IsRow .u8 w B len cap z) (ht : Tab w) :
    Calls Tryd.prog 3 #[.agg (tabV .u8 16 key), .int .u8 ui, .agg (tabV .u8 8 n), .slice B len cap] w fun e w' => e = .returned (.bool true) ∧ Ext w w' := by
  obtain ⟨i0, hi0, hz0, hz1, hz2⟩ := info_parts info_u8
  obtain ⟨u, rfl⟩ := u8_of hu'
  have HKB := Lib.hid (wf_byt hk')
  have HNB := Lib.hid (wf_byt hn')
  obtain ⟨s, rfl, hs1, hs2, hsr⟩ := row_bytes hz
  unfold maxLen at hs2
  obtain ⟨h0, h1⟩ := two_new w (.cells (tabV .u8 16 key) 22) (.cells (tabV .u8 8 n) 23)
  have hx0 := (Ext.alloc w (.cells (tabV .u8 16 key) 22)).tr (Ext.alloc _ (.cells (tabV .u8 8 n) 23))
  obtain ⟨W0, hW0⟩ : ∃ W, W = (w.alloc (.cells (tabV .u8 16 key) 22)).alloc (.cells (tabV .u8 8 n) 23) := ⟨_, rfl⟩
  rw [← hW0] at h0 h1 hx0
  have HK := Lib.hid (fun (V : World) (hx : Ext W0 V) => (show Arr W0 w.heap.size 22 .u8 16 key from h0).ext hx)
  have HN := Lib.hid (fun (V : World) (hx : Ext W0 V) => (show Arr W0 (w.heap.size + 1) 23 .u8 8 n from h1).ext hx)
  have HT := Lib.hid (fun (V : World) (hx : Ext W0 V) => (ht.ext hx0).ext hx)
  have HS := Lib.hid (fun (V : World) (hx : Ext W0 V) => (hsr.ext hx0).ext hx)
  have HX0 := Lib.hid hx0
  have HS1 := Lib.hid hs1
  have HW0 := Lib.hid hW0
  clear h0 h1 ht hsr hx0 hk' hu' hn' hz hs1 hW0
  by_cases hlt : 1000 < s.length
  · have t1 : decide ((1000 : Int) < (s.length : Int)) = true := decide_eq_true (by omega)
    clear hlt
    go_enter Tryd.func3, Tryd.ntmps3
    go_wp2_with fail
    rw [← HW0.out]
    refine (awake_c _ (HT.out _ (Ext.refl _))).mono ?_
    rintro e w1 ⟨rfl, hx1⟩
    go_wp2_with fail
    refine (awake_c _ (HT.out _ hx1)).mono ?_
    rintro e w2 ⟨rfl, hx2⟩
    go_wp2_with fail
    go_ret
    exact ⟨rfl, HX0.out.tr (hx1.tr hx2)⟩
  have t1 : decide ((1000 : Int) < (s.length : Int)) = false := decide_eq_false (by omega)
  have hadd : IntKind.i64.wrap ((s.length : Int) + 24) = (s.length : Int) + 24 := IntWalk.i64_in _ (by omega)
  have HLE := Lib.hid (show s.length ≤ 1000 by omega)
  clear hlt
  go_enter Tryd.func3, Tryd.ntmps3
  go_wp2_with fail
  rw [← HW0.out]
  refine (awake_c _ (HT.out _ (Ext.refl _))).mono ?_
  rintro e w1 ⟨rfl, hx1⟩
  have HX1 := Lib.hid hx1
  clear hx1
  go_wp2_with (first
    | (at_builtin
       refine wpList_append_bytes _ rfl (.tmp 23) (.tmp 24) 24 rfl w1.heap.size 5 i0 Tryd.underlying24 hi0 hz0 hz1 hz2 (some ⟨w1.heap.size, 0, none⟩) 0 [] rfl (OwnB.lit [] #[] rfl (Nat.le_refl _) (by simp [maxLen])) _ B cap s rfl (HS.out _ (HX1.out.tr (Ext.alloc _ _))) (by have := HLE.out; simp; omega) (by simp) ?_
       intro A1 c1 w2 ho hg _
       have hx : Ext w1 w2 := grown_new (Ext.alloc _ _) hg (fun g hg => by simp [Value.ownBlock] at hg; omega)
       rw [List.nil_append] at ho ⊢
       have HX2 := Lib.hid (HX1.out.tr hx)
       have HO2 := Lib.hid ho
       clear hx ho hg)
    | refine wpList_load_arr rfl 22 (.tmp 4) rfl w.heap.size rfl 22 .u8 16 key _ (HK.out _ HX2.out) Tryd.underlying22 size_bk ?_
    | refine wpList_load_arr rfl 23 (.tmp 6) rfl (w.heap.size + 1) rfl 23 .u8 8 n _ (HN.out _ HX2.out) Tryd.underlying23 size_nc ?_)
  refine (seal_c c1 key n HKB.out HNB.out u A1 s _ w2 (HT.out _ HX2.out) (by have := HLE.out; omega) HO2.out.le.1 HO2.out.rb).mono ?_
  rintro e w3 ⟨A2, c2, rfl, ho, hx⟩
  have HX3 := Lib.hid (HX2.out.tr hx)
  have HO3 := Lib.hid (HO2.out.ext hx)
  have HP3 := Lib.hid ho
  have HC2 := Lib.hid (show s.length + 24 ≤ c2 ∧ c2 ≤ 9223372036854775807 by have := ho.le; rw [sld_len] at this; unfold maxLen at this; omega)
  clear ho hx HO2
  go_wp2_with (first
    | refine wpList_load_arr rfl 22 (.tmp 4) rfl w.heap.size rfl 22 .u8 16 key _ (HK.out _ HX3.out) Tryd.underlying22 size_bk ?_
    | refine wpList_load_arr rfl 23 (.tmp 6) rfl (w.heap.size + 1) rfl 23 .u8 8 n _ (HN.out _ HX3.out) Tryd.underlying23 size_nc ?_)
  refine (rseal_c cap key n HKB.out HNB.out u B s _ w3 (by have := HLE.out; omega) (HS.out _ HX3.out)).mono ?_
  rintro e w4 ⟨A3, c3, rfl, ho, hx⟩
  have HX4 := Lib.hid (HX3.out.tr hx)
  have HO4 := Lib.hid (HO3.out.ext hx)
  have HP4 := Lib.hid (HP3.out.ext hx)
  have HQ4 := Lib.hid ho
  clear ho hx HO3 HP3
  go_wp2_with fail
  have hsm := same_self A2 A3 (sld (btl 16 key) u n s) c2 c3 _ _ w4 HP4.out.rb HQ4.out.rb (by rw [sld_len]; have := HLE.out; omega)
  rw [sld_len] at hsm
  refine hsm.mono ?_
  rintro e w5 ⟨rfl, hx⟩
  have HX5 := Lib.hid (HX4.out.tr hx)
  have HO5 := Lib.hid (HO4.out.ext hx)
  have HP5 := Lib.hid (HP4.out.ext hx)
  clear hx HO4 HP4 HQ4 hsm
  go_wp2_with fail
  refine (same_self A1 B s c1 cap _ _ w5 HO5.out.rb (HS.out _ HX5.out) (by have := HLE.out; omega)).mono ?_
  rintro e w6 ⟨rfl, hx⟩
  have HX6 := Lib.hid (HX5.out.tr hx)
  have HP6 := Lib.hid (HP5.out.ext hx)
  clear hx HO5 HP5
  go_wp2_with (refine wpList_load_arr rfl 22 (.tmp 4) rfl w.heap.size rfl 22 .u8 16 key _ (HK.out _ HX6.out) Tryd.underlying22 size_bk ?_)
  refine (open_sld c2 key n HKB.out HNB.out u s A2 _ w6 (HT.out _ HX6.out) (by have := HLE.out; omega) HC2.out.1 HC2.out.2 HP6.out.rb).mono ?_
  rintro e w7 ⟨A4, c4, rfl, hp, hx⟩
  have HX7 := Lib.hid (HX6.out.tr hx)
  have HP7 := Lib.hid (HP6.out.ext hx)
  have HR7 := Lib.hid hp
  clear hx hp HP6
  go_wp2_with fail
  refine (nonce_sld c2 (btl 16 key) n HNB.out u s A2 _ w7 (by have := HLE.out; omega) HC2.out.1 HP7.out.rb).mono ?_
  rintro e w8 ⟨rfl, hx⟩
  have HX8 := Lib.hid (HX7.out.tr hx)
  have HR8 := Lib.hid (HR7.out.ext hx)
  clear hx HR7 HP7
  go_wp2_with (refine wpList_store_arr rfl 23 (.tmp 13) (.tmp 63) rfl w8.heap.size .u8 8 n rfl rfl 23 _ (new_of _ _) size_nc rfl ?_
               intro w9 hA hG
               have hx : Ext w8 w9 := grown_new (Ext.alloc _ _) hG (fun g hg => by simp at hg; omega)
               have HX9 := Lib.hid (HX8.out.tr hx)
               have HR9 := Lib.hid (HR8.out.ext hx)
               have HA9 := Lib.hid (show Arr w9 w8.heap.size _ _ _ _ from hA)
               clear hA hG hx HR8)
  refine (same_self A4 B s c4 cap _ _ w9 HR9.out (HS.out _ HX9.out) (by have := HLE.out; omega)).mono ?_
  rintro e w10 ⟨rfl, hx⟩
  have HX10 := Lib.hid (HX9.out.tr hx)
  have HA10 := Lib.hid (HA9.out.ext hx)
  have HEQ := Lib.hid (show eqb 8 n n = true from eqb_true.2 (fun _ _ => rfl))
  clear hx HR9 HA9
  go_wp2_with (first
    | refine wpList_load_arrg (by kernel_rfl) 23 (.tmp 13) rfl w8.heap.size rfl 23 .u8 8 n _ HA10.out Tryd.underlying23 size_nc ?_
    | refine wpList_load_arrg (by kernel_rfl) 23 (.tmp 6) rfl (w.heap.size + 1) rfl 23 .u8 8 n _ (HN.out _ HX10.out) Tryd.underlying23 size_nc ?_
    | (refine wpList_eqlg (by kernel_rfl) 23 23 (.tmp 75) (.tmp 76) rfl .u8 8 n n rfl rfl 5 Tryd.underlying23 Tryd.underlying5 size_u8 cells_u8 (by kernel_rfl) ?_; rw [HEQ.out]))
  go_ret
  exact ⟨rfl, HX0.out.tr HX10.out⟩
end Go.Proofs.YtdaahkijmleioaaDoor
