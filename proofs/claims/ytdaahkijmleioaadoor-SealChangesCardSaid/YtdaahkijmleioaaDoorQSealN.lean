/-
  SealNonces.
-/
import Derived.Test.YtdaahkijmleioaaDoorMI
import Derived.Test.YtdaahkijmleioaaDoorMA

namespace Go.Proofs.YtdaahkijmleioaaDoor
open Go.RowKit
set_option linter.unusedVariables false
set_option linter.unusedSimpArgs false

theorem wf_byt {n : Nat} {f : Nat → Nat} (h : ∀ i, i < n → (Lit.int .u8 (f i : Nat)).wf = true) : ∀ i, i < n → f i < 256 := fun i hi => by have := (bd_u8 (h i hi)).2; omega
/-- what was sealed is opened: for a string of the caller -/
theorem open_sld (d : Nat) (key n : Nat → Nat) (hk : Byt key) (hn : Byt8 n) (u : UInt8) (b : List UInt8) (A : Option Addr) (S : Nat → TypeId → Prop) (w : World) (ht : Tab w) (hb : b.length ≤ 1048000) (hd : b.length + 24 ≤ d) (hm : d ≤ 9223372036854775807) (hr : RB w S A (sld (btl 16 key) u n b)) :
    Calls Tryd.prog 12 #[.agg (tabV .u8 16 key), .int .u8 (u.toNat : Int), .slice A (b.length + 24) d] w fun e w' =>
      ∃ A c, e = .returned (.tuple #[.slice A b.length c, .bool true]) ∧ RB w' (fun _ _ => True) A b ∧ Ext w w' := by
  have hl := sld_len (btl 16 key) u n b
  have h := open_c d key hk u A (sld (btl 16 key) u n b) S w ht (by rw [hl]; omega) (by rw [hl]; exact hd) hm hr
  have ho : opn (btl 16 key) u (sld (btl 16 key) u n b) = some b := opn_sld hn _ _ _
  have ho2 : oans (btl 16 key) u (sld (btl 16 key) u n b) = b := by unfold oans; rw [ho]; rfl
  rw [ho, ho2, hl] at h
  exact h.mono fun e w' ⟨A, c, h1, h2, _, _, h3⟩ => ⟨A, c, h1, h2, h3⟩
theorem same_len (A B : Option Addr) (a b : List UInt8) (n m ca cb : Nat) (S T : Nat → TypeId → Prop) (w : World) (ha : RB w S A a) (hb : RB w T B b) (hn : a.length = n) (hm : b.length = m) (hla : n ≤ 9223372036854775807) :
    Calls Tryd.prog 10 #[.slice A n ca, .slice B m cb] w fun e w' => e = .returned (.bool (decide (a = b))) ∧ Ext w w' := by
  subst hn hm
  exact (same_c A B a b ca cb S T w ha hb hla).mono fun _ _ ⟨he, n, hw⟩ => ⟨he, by rw [hw]; exact Ext.drewN _ _⟩
theorem same_self (A B : Option Addr) (a : List UInt8) (ca cb : Nat) (S T : Nat → TypeId → Prop) (w : World) (ha : RB w S A a) (hb : RB w T B a) (hla : a.length ≤ 9223372036854775807) :
    Calls Tryd.prog 10 #[.slice A a.length ca, .slice B a.length cb] w fun e w' => e = .returned (.bool true) ∧ Ext w w' :=
  (same_len A B a a a.length a.length ca cb S T w ha hb rfl rfl hla).mono fun _ _ ⟨he, hx⟩ => ⟨by rw [he, decide_eq_true rfl], hx⟩
set_option maxRecDepth 100000 in
set_option maxHeartbeats 4000000 in
theorem sealNonces_walk (key a b : Nat → Nat) (B : Option Addr) (len cap : Nat) (z : List Int) (w : World) (hk' : ∀ i, i < 16 → (Lit.int .u8 (key i : Nat)).wf = true) (ha' : ∀ i, i < 8 → (Lit.int .u8 (a i : Nat)).wf = true) (hb' : ∀ i, i < 8 → (Lit.int .u8 (b i : Nat)).wf = true) (hz : IsRow .u8 w B len cap z) (ht : Tab w) :
    Calls Tryd.prog 7 #[.agg (tabV .u8 16 key), .agg (tabV .u8 8 a), .agg (tabV .u8 8 b), .slice B len cap] w fun e w' => e = .returned (.bool true) ∧ Ext w w' := by
  have HKB := Lib.hid (wf_byt hk')
  have HAB := Lib.hid (wf_byt ha')
  have HBB := Lib.hid (wf_byt hb')
  obtain ⟨s, rfl, hs1, hs2, hsr⟩ := row_bytes hz
  unfold maxLen at hs2
  obtain ⟨h0, h1, h2⟩ := new3 w (.cells (tabV .u8 16 key) 22) (.cells (tabV .u8 8 a) 23) (.cells (tabV .u8 8 b) 23)
  have hx0 := ((Ext.alloc w (.cells (tabV .u8 16 key) 22)).tr (Ext.alloc _ (.cells (tabV .u8 8 a) 23))).tr (Ext.alloc _ (.cells (tabV .u8 8 b) 23))
  obtain ⟨W0, hW0⟩ : ∃ W, W = ((w.alloc (.cells (tabV .u8 16 key) 22)).alloc (.cells (tabV .u8 8 a) 23)).alloc (.cells (tabV .u8 8 b) 23) := ⟨_, rfl⟩
  rw [← hW0] at h0 h1 h2 hx0
  have HK := Lib.hid (fun (V : World) (hx : Ext W0 V) => (show Arr W0 w.heap.size 22 .u8 16 key from h0).ext hx)
  have HA := Lib.hid (fun (V : World) (hx : Ext W0 V) => (show Arr W0 (w.heap.size + 1) 23 .u8 8 a from h1).ext hx)
  have HB := Lib.hid (fun (V : World) (hx : Ext W0 V) => (show Arr W0 (w.heap.size + 1 + 1) 23 .u8 8 b from h2).ext hx)
  have HT := Lib.hid (fun (V : World) (hx : Ext W0 V) => (ht.ext hx0).ext hx)
  have HS := Lib.hid (fun (V : World) (hx : Ext W0 V) => (hsr.ext hx0).ext hx)
  have HX0 := Lib.hid hx0
  have HS1 := Lib.hid hs1
  have HW0 := Lib.hid hW0
  clear h0 h1 h2 ht hsr hx0 hk' ha' hb' hz hs1 hW0
  by_cases hlt : 500 < s.length
  · have t1 : decide ((500 : Int) < (s.length : Int)) = true := decide_eq_true (by omega)
    clear hlt
    go_enter Tryd.func7, Tryd.ntmps7
    go_wp2_with fail
    rw [← HW0.out]
    refine (awake_c _ (HT.out _ (Ext.refl _))).mono ?_
    rintro e w1 ⟨rfl, hx1⟩
    go_wp2_with fail
    refine (awake_c _ (HT.out _ hx1)).mono ?_
    rintro e w2 ⟨rfl, hx2⟩
    go_wp2_with fail
    go_ret
    exact ⟨rfl, HX0.out.tr (hx1.tr hx2)⟩
  have t1 : decide ((500 : Int) < (s.length : Int)) = false := decide_eq_false (by omega)
  have HLE := Lib.hid (show s.length ≤ 500 by omega)
  clear hlt
  go_enter Tryd.func7, Tryd.ntmps7
  go_wp2_with fail
  rw [← HW0.out]
  refine (awake_c _ (HT.out _ (Ext.refl _))).mono ?_
  rintro e w1 ⟨rfl, hx1⟩
  have HX1 := Lib.hid hx1
  clear hx1
  go_wp2_with (first
    | refine wpList_load_arr rfl 22 (.tmp 4) rfl w.heap.size rfl 22 .u8 16 key _ (HK.out _ HX1.out) Tryd.underlying22 size_bk ?_
    | refine wpList_load_arr rfl 23 (.tmp 5) rfl (w.heap.size + 1) rfl 23 .u8 8 a _ (HA.out _ HX1.out) Tryd.underlying23 size_nc ?_)
  refine (seal_c cap key a HKB.out HAB.out 1 B s _ w1 (HT.out _ HX1.out) (by have := HLE.out; omega) HS1.out (HS.out _ HX1.out)).mono ?_
  rintro e w2 ⟨A1, c1, rfl, ho, hx⟩
  have HX2 := Lib.hid (HX1.out.tr hx)
  have HO2 := Lib.hid ho
  have HC1 := Lib.hid (show s.length + 24 ≤ c1 ∧ c1 ≤ 9223372036854775807 by have := ho.le; rw [sld_len] at this; unfold maxLen at this; omega)
  clear ho hx
  go_wp2_with (first
    | refine wpList_load_arr rfl 22 (.tmp 4) rfl w.heap.size rfl 22 .u8 16 key _ (HK.out _ HX2.out) Tryd.underlying22 size_bk ?_
    | refine wpList_load_arr rfl 23 (.tmp 6) rfl (w.heap.size + 1 + 1) rfl 23 .u8 8 b _ (HB.out _ HX2.out) Tryd.underlying23 size_nc ?_)
  refine (seal_c cap key b HKB.out HBB.out 1 B s _ w2 (HT.out _ HX2.out) (by have := HLE.out; omega) HS1.out (HS.out _ HX2.out)).mono ?_
  rintro e w3 ⟨A2, c2, rfl, ho, hx⟩
  have HX3 := Lib.hid (HX2.out.tr hx)
  have HO3 := Lib.hid (HO2.out.ext hx)
  have HP3 := Lib.hid ho
  have HC2 := Lib.hid (show s.length + 24 ≤ c2 ∧ c2 ≤ 9223372036854775807 by have := ho.le; rw [sld_len] at this; unfold maxLen at this; omega)
  clear ho hx HO2
  go_wp2_with (refine wpList_load_arr rfl 22 (.tmp 4) rfl w.heap.size rfl 22 .u8 16 key _ (HK.out _ HX3.out) Tryd.underlying22 size_bk ?_)
  refine (open_sld c1 key a HKB.out HAB.out 1 s A1 _ w3 (HT.out _ HX3.out) (by have := HLE.out; omega) HC1.out.1 HC1.out.2 HO3.out.rb).mono ?_
  rintro e w4 ⟨A3, c3, rfl, hp, hx⟩
  have HX4 := Lib.hid (HX3.out.tr hx)
  have HO4 := Lib.hid (HO3.out.ext hx)
  have HP4 := Lib.hid (HP3.out.ext hx)
  have HR4 := Lib.hid hp
  clear hp hx HO3 HP3
  go_wp2_with (refine wpList_load_arr rfl 22 (.tmp 4) rfl w.heap.size rfl 22 .u8 16 key _ (HK.out _ HX4.out) Tryd.underlying22 size_bk ?_)
  refine (open_sld c2 key b HKB.out HBB.out 1 s A2 _ w4 (HT.out _ HX4.out) (by have := HLE.out; omega) HC2.out.1 HC2.out.2 HP4.out.rb).mono ?_
  rintro e w5 ⟨A4, c4, rfl, hp, hx⟩
  have HX5 := Lib.hid (HX4.out.tr hx)
  have HO5 := Lib.hid (HO4.out.ext hx)
  have HP5 := Lib.hid (HP4.out.ext hx)
  have HR5 := Lib.hid (HR4.out.ext hx)
  have HQ5 := Lib.hid hp
  clear hp hx HO4 HP4 HR4
  obtain ⟨bb, hbb⟩ : ∃ bb, bb = eqb 8 a b := ⟨_, rfl⟩
  have E1 : decide (sld (btl 16 key) 1 a s = sld (btl 16 key) 1 b s) = bb := by
    have hi := sld_nonce HAB.out HBB.out (btl 16 key) 1 s
    by_cases hab : ∀ i, i < 8 → a i = b i
    · rw [hbb, eqb_true.2 hab, decide_eq_true (hi.2 hab)]
    · rw [hbb, eqb_false hab, decide_eq_false (fun h => hab (hi.1 h))]
  have HBQ := Lib.hid hbb
  have HE1 := Lib.hid E1
  clear E1 hbb
  have bq : (bb == bb) = true := beq_self_eq_true bb
  go_wp2_with fail
  obtain ⟨wd, hwd⟩ : ∃ wd, wd = w5.drew := ⟨_, rfl⟩
  have xd : Ext w5 wd := by rw [hwd]; exact Ext.drew _
  have HXD := Lib.hid (HX5.out.tr xd)
  have HO6 := Lib.hid (HO5.out.ext xd)
  have HP6 := Lib.hid (HP5.out.ext xd)
  have HR6 := Lib.hid (HR5.out.ext xd)
  have HQ6 := Lib.hid (HQ5.out.ext xd)
  have HWD := Lib.hid hwd
  clear xd hwd HX5 HO5 HP5 HR5 HQ5
  refine wp_region_ord 23 (fun W => Ext wd W) (by kernel_rfl) (by kernel_rfl) (by decide) (by kernel_rfl) (by rw [HWD.out]; exact Ext.refl _) ?_
  simp only [List.take_succ_cons, List.take_zero, List.drop_succ_cons, List.drop_zero]
  repeat (refine wpTxt_step ?_ (fun W K hS hK => ?_) rfl ?_; rotate_left; (simp only [Act.put, List.setIfInBounds_toArray, List.set_cons_zero, List.set_cons_succ] at hK; go_simp; exact hK _ hS); simp only [Act.put, List.setIfInBounds_toArray, List.set_cons_zero, List.set_cons_succ])
  refine wpTxt_step ?_ (fun W K hS hK => ?_) rfl ?_
  rotate_left
  · simp only [Act.put, List.setIfInBounds_toArray, List.set_cons_zero, List.set_cons_succ] at hK
    go_simp
    refine (same_len A1 A2 (sld (btl 16 key) 1 a s) (sld (btl 16 key) 1 b s) (s.length + 24) (s.length + 24) c1 c2 _ _ W (HO6.out.ext hS).rb (HP6.out.ext hS).rb (sld_len _ _ _ _) (sld_len _ _ _ _) (by have := HLE.out; omega)).mono ?_
    rintro e W' ⟨rfl, hx'⟩
    rw [HE1.out]
    exact hK _ (hS.tr hx')
  simp only [Act.put, List.setIfInBounds_toArray, List.set_cons_zero, List.set_cons_succ]
  refine wpTxt_step (.agg (tabV .u8 8 a)) (fun W K hS hK => wp_load_arr 23 (.tmp 5) rfl (w.heap.size + 1) rfl .u8 8 a _ _ (HA.out _ (HXD.out.tr hS)) Tryd.underlying23 size_nc (hK _ hS)) rfl ?_
  simp only [Act.put, List.setIfInBounds_toArray, List.set_cons_zero, List.set_cons_succ]
  refine wpTxt_step (.agg (tabV .u8 8 b)) (fun W K hS hK => wp_load_arr 23 (.tmp 6) rfl (w.heap.size + 1 + 1) rfl .u8 8 b _ _ (HB.out _ (HXD.out.tr hS)) Tryd.underlying23 size_nc (hK _ hS)) rfl ?_
  simp only [Act.put, List.setIfInBounds_toArray, List.set_cons_zero, List.set_cons_succ]
  refine wpTxt_step (.bool bb) (fun W K hS hK => wp_eql_dec 23 23 (.tmp 46) (.tmp 47) rfl .u8 8 a b rfl rfl 5 Tryd.underlying23 Tryd.underlying5 size_u8 cells_u8 (by kernel_rfl) (by rw [← HBQ.out]; exact hK _ hS)) rfl ?_
  simp only [Act.put, List.setIfInBounds_toArray, List.set_cons_zero, List.set_cons_succ]
  repeat (refine wpTxt_step ?_ (fun W K hS hK => ?_) rfl ?_; rotate_left; (simp only [Act.put, List.setIfInBounds_toArray, List.set_cons_zero, List.set_cons_succ] at hK; go_simp; exact hK _ hS); simp only [Act.put, List.setIfInBounds_toArray, List.set_cons_zero, List.set_cons_succ])
  refine wpTxt_step ?_ (fun W K hS hK => ?_) rfl ?_
  rotate_left
  · simp only [Act.put, List.setIfInBounds_toArray, List.set_cons_zero, List.set_cons_succ] at hK
    go_simp
    refine (same_self A3 B s c3 cap _ _ W (HR6.out.ext hS) (HS.out _ (HXD.out.tr hS)) (by have := HLE.out; omega)).mono ?_
    rintro e W' ⟨rfl, hx'⟩
    exact hK _ (hS.tr hx')
  simp only [Act.put, List.setIfInBounds_toArray, List.set_cons_zero, List.set_cons_succ]
  repeat (refine wpTxt_step ?_ (fun W K hS hK => ?_) rfl ?_; rotate_left; (simp only [Act.put, List.setIfInBounds_toArray, List.set_cons_zero, List.set_cons_succ] at hK; go_simp; exact hK _ hS); simp only [Act.put, List.setIfInBounds_toArray, List.set_cons_zero, List.set_cons_succ])
  refine wpTxt_step ?_ (fun W K hS hK => ?_) rfl ?_
  rotate_left
  · simp only [Act.put, List.setIfInBounds_toArray, List.set_cons_zero, List.set_cons_succ] at hK
    go_simp
    refine (same_self A4 B s c4 cap _ _ W (HQ6.out.ext hS) (HS.out _ (HXD.out.tr hS)) (by have := HLE.out; omega)).mono ?_
    rintro e W' ⟨rfl, hx'⟩
    exact hK _ (hS.tr hx')
  simp only [Act.put, List.setIfInBounds_toArray, List.set_cons_zero, List.set_cons_succ]
  repeat (refine wpTxt_step ?_ (fun W K hS hK => ?_) rfl ?_; rotate_left; (simp only [Act.put, List.setIfInBounds_toArray, List.set_cons_zero, List.set_cons_succ] at hK; go_simp; exact hK _ hS); simp only [Act.put, List.setIfInBounds_toArray, List.set_cons_zero, List.set_cons_succ])
  refine wpTxt_nil ?_
  rintro W hW
  have HX8 := Lib.hid (HXD.out.tr hW)
  clear hW
  go_wp2_with fail
  go_ret
  exact ⟨rfl, HX0.out.tr HX8.out⟩
end Go.Proofs.YtdaahkijmleioaaDoor
