/-
  MacDerives.
-/
import Derived.Test.YtdbmkkjpdhnllaaDoorMacV
import Derived.Test.YtdbmkkjpdhnllaaDoorMacH
import Derived.Test.YtdbmkkjpdhnllaaDoorBytC
import Derived.Deep.RegionHeld3
namespace Go.Proofs.YtdbmkkjpdhnllaaDoor
open Go.RowKit
set_option linter.unusedVariables false
set_option linter.unusedSimpArgs false

theorem same_n (A B : Option Addr) (a b : List UInt8) (n ca cb : Nat) (S T : Nat → TypeId → Prop) (w : World) (ha : RB w S A a) (hb : RB w T B b) (hn : a.length = n) (hn' : n ≤ 1000000) (h : a = b) :
    Calls Tryd.prog 13 #[.slice A n ca, .slice B n cb] w fun e w' => e = .returned (.bool true) ∧ Ext w w' := by
  subst h
  have := same_x A B a a ca cb S T w ha hb (by omega) rfl
  rw [hn] at this
  exact this
/-- the beginning of any slice -/
theorem run_slice_any {P : Program} {t e : TypeId} (hu : P.underlying t = some (.slice e)) (hs : (P.info? e).map (·.size) = some 1) (A : Option Addr) (len cap k : Nat) (h : k ≤ cap) (j : Int) (hj : j = (k : Int)) (W : World) :
    (Instr.sliceAt t (.slice A len cap) none (some (.int .i64 j)) none).run P W = .ok (.slice A k cap) W := by
  subst hj
  cases hq : P.info? e with
  | none => simp [hq] at hs
  | some ie =>
    have hsz : ie.size = 1 := by simpa [hq] using hs
    have a2 : (k : Int) ≤ (cap : Int) := by omega
    have a4 : ∀ a : Addr, a.add 0 = a := fun a => by unfold Addr.add; split <;> simp_all
    have a5 : A.map (·.add 0) = A := by cases A <;> simp [a4]
    rw [show (Instr.sliceAt t (.slice A len cap) none (some (.int .i64 (k : Int))) none).run P W = (Instr.slice t (.slice A len cap) none (some (.int .i64 (k : Int))) none).run P W by simp [Instr.sliceAt, run_underlying hu]]
    simp [Instr.slice, Sem.run_bind, run_underlying hu, Instr.sliceBounds, run_sliceBound, sizeOf, typeInfo, hq, hsz, a2, a5]

set_option maxRecDepth 100000 in
set_option maxHeartbeats 8000000 in
theorem derives_main (K : Option Addr) (ck : Nat) (key : List UInt8) (s : ByteArray) (lab : List UInt8) (hlab : s.data.toList = lab) (hsz : s.size ≤ 100) (N : Nat) (hN : N ≤ 500) (q : Nat) (hq : q ≤ 255) (w : World) (ht : Tab w)
    (hk : RB w (fun g _ => g < w.heap.size) K key) (hkl : key.length ≤ 200) (hkc : key.length ≤ ck) (hkm : ck ≤ 9223372036854775807) :
    Calls Tryd.prog 4 #[.slice K key.length ck, .string s, .int .i64 N, .int .u8 q] w fun e w' => e = .returned (.bool true) ∧ Ext w w' := by
  have HT := Lib.hid ht
  have HK := Lib.hid hk
  have hll : lab.length ≤ 100000 := by
    have : s.data.toList.length = s.size := Array.length_toList
    rw [hlab] at this
    omega
  have t1 : decide ((200 : Int) < (key.length : Int)) = false := decide_eq_false (by omega)
  have t2 : decide ((100 : Int) < (s.size : Int)) = false := decide_eq_false (by omega)
  have t3 : decide ((500 : Int) < (N : Int)) = false := decide_eq_false (by omega)
  obtain ⟨D, hD⟩ : ∃ D : Nat → List UInt8, ∀ n, drv (byt (kb key)) lab n = D n := ⟨_, fun _ => rfl⟩
  have hDl : ∀ n, (D n).length = n := fun n => by rw [← hD]; exact drv_len _ _ _
  have HDER : Hid (∀ (n : Nat) (W : World), n ≤ 4000 → Ext w W → Calls Tryd.prog 12 #[.slice K key.length ck, .string s, .int .i64 n] W fun e w' => ∃ A c, e = .returned (.slice A n c) ∧ OwnB w' 5 W.heap.size A c (D n) ∧ Ext W w') := Lib.hid (fun n W hn hx => by
    have h := derive_c K ck key _ s lab hlab n hn W (ht.ext hx) (hk.ext hx) (by omega) hkc hkm hll
    rw [hD] at h
    exact h)
  have HREF : Hid (∀ (n : Nat) (W : World), n ≤ 4000 → Ext w W → Calls Tryd.prog 14 #[.slice K key.length ck, .string s, .int .i64 n] W fun e w' => ∃ A c, e = .returned (.slice A n c) ∧ RB w' (fun _ _ => True) A (D n) ∧ Ext W w') := Lib.hid (fun n W hn hx => by
    have h := rderive_c K ck key _ s lab hlab n hn W (hk.ext hx) (by omega) hll
    rw [hD] at h
    exact h)
  have HKEY : Hid (∀ W, Ext w W → Calls Tryd.prog 15 #[.slice K key.length ck, .string s] W fun e w' => e = .returned (.agg (tabV .u8 16 (byt (D 16)))) ∧ Ext W w') := Lib.hid (fun W hx => by
    have h := key_c K ck key _ s lab hlab W (ht.ext hx) (hk.ext hx) (by omega) hkc hkm hll
    rw [hD] at h
    exact h)
  have HTAKE : Hid (∀ k n, k ≤ n → (D n).take k = D k) := Lib.hid (fun k n h => by rw [← hD, ← hD]; exact drv_take _ _ h)
  have HDL := Lib.hid hDl
  have hw1 : Value.int .i64 (wrap64 (q : Int)) = Value.int .i64 (q : Int) := by rw [IntWalk.wrap64_in _ (by omega)]
  obtain ⟨k, hk0⟩ : ∃ k, k = N - q := ⟨_, rfl⟩
  obtain ⟨Z, hZ⟩ : ∃ Z : Int, Z = (N : Int) - (q : Int) := ⟨_, rfl⟩
  have e1 : IntKind.i64.wrap ((N : Int) - (q : Int)) = Z := by rw [hZ]; exact IntWalk.i64_in _ (by omega)
  have e2 : (if Z < 0 then 0 else Z) = (k : Int) := by split <;> omega
  have hkN : k ≤ N := by omega
  have HQ := Lib.hid (And.intro hq hN)
  clear ht hk hkc hlab hll hD hDl hZ hk0 hsz hkl hq
  go_enter Tryd.func4, Tryd.ntmps4
  go_wp2_with fail
  refine (awake_c _ HT.out).mono ?_
  rintro e w1 ⟨rfl, hx1⟩
  have HX1 := Lib.hid hx1
  clear hx1
  go_wp2_with fail
  refine (HDER.out N _ (by omega) HX1.out).mono ?_
  rintro e w2 ⟨A1, c1, rfl, ho, hx2⟩
  have hc1 := ho.le
  rw [HDL.out] at hc1
  have HA := Lib.hid ho.rb.inside
  have HC1 := Lib.hid hc1
  have HX2 := Lib.hid (HX1.out.tr hx2)
  clear ho hx2 hc1
  go_wp2_with fail
  refine (HREF.out N _ (by omega) HX2.out).mono ?_
  rintro e w3 ⟨A2, c2, rfl, hr3, hx3⟩
  have HX3 := Lib.hid (HX2.out.tr hx3)
  have HA3 := Lib.hid (HA.out.ext hx3)
  have HR3 := Lib.hid hr3
  clear hr3 hx3
  go_wp2_with fail
  refine (same_n A1 A2 (D N) (D N) N c1 c2 _ _ _ HA3.out HR3.out (HDL.out N) (by omega) rfl).mono ?_
  rintro e w4 ⟨rfl, hx4⟩
  have HX4 := Lib.hid (HX3.out.tr hx4)
  have HA4 := Lib.hid (HA3.out.ext hx4).inside
  clear hx4 HR3 HA3
  go_wp2_with fail
  refine (HDER.out k _ (by omega) HX4.out).mono ?_
  rintro e w5 ⟨A3, c3, rfl, ho5, hx5⟩
  have HX5 := Lib.hid (HX4.out.tr hx5)
  have HX45 := Lib.hid hx5
  have HA5 := Lib.hid (HA4.out.ext hx5)
  have HO5 := Lib.hid ho5
  have hsl := fun W => run_slice_any (P := Tryd.prog) (t := 22) Tryd.underlying22 size_u8 A1 N c1 k (by have := HC1.out.1; omega) (k : Int) rfl W
  clear ho5 hx5
  go_wp2_with fail
  refine (same_n A3 A1 (D k) ((D N).take k) k c3 c1 _ _ _ HO5.out.rb (HA5.out.take k) (HDL.out k) (by omega) (HTAKE.out k N hkN).symm).mono ?_
  rintro e w6 ⟨rfl, hx6⟩
  have HX46 := Lib.hid (HX45.out.tr hx6)
  have HO6 := Lib.hid (HO5.out.ext hx6)
  clear hx6 hsl HO5 HX45 HA5
  go_wp2_with fail
  go_loopw [12] (fun v wr => ∃ (i : Nat) (l : List UInt8), i ≤ k ∧ v = .int .i64 i ∧ l.length = k ∧ OwnB wr 5 w4.heap.size A3 c3 l ∧ Ext w4 wr) (fun v _ => k - (intOf v).toNat)
  case atStart => exact ⟨0, D k, by omega, rfl, HDL.out k, HO6.out, HX46.out⟩
  case round =>
    obtain ⟨i, l, hi, rfl, hl, ho, hx⟩ := hrel
    by_cases hlt : i < k
    · obtain ⟨g, hg⟩ : ∃ g, A3 = some ⟨g, 0, none⟩ := by
        rcases ho.block with ⟨_, _, h⟩ | ⟨g, _, h, _⟩
        · rw [h] at hl; simp at hl; omega
        · exact ⟨g, h⟩
      subst hg
      have hc := ho.cellAt (j := i) (by omega)
      have hf := ho.freeAt i
      obtain ⟨x, hx0⟩ : ∃ x, x = l[i]'(by omega) := ⟨_, rfl⟩
      rw [← hx0] at hc
      have e3 : IntKind.u8.wrap ((x.toNat : Int) + 1) = ((x + 1).toNat : Int) := by rw [IntKind.wrap_u8', UInt8.toNat_add]; rfl
      have ho2 := ho.set_ i (x + 1)
      have hge := ho.at_.1
      have HO2 := Lib.hid ho2
      have HXR := Lib.hid hx
      have HL := Lib.hid hl
      clear hx0 ho ho2 hx hl
      go_wp2_with fail
      go_roundw
      case rel => exact ⟨i + 1, l.set i (x + 1), by omega, by go_num, by rw [List.length_set]; exact HL.out, HO2.out, ext_setCell HXR.out hge _⟩
      case measure => simp [intOf]; omega
    · have HXR := Lib.hid hx
      have HAR := Lib.hid (HA4.out.ext hx)
      clear ho hx hl
      go_wp2_with fail
      refine (HKEY.out _ (HX4.out.tr HXR.out)).mono ?_
      rintro e w7 ⟨rfl, hx7⟩
      have HX7 := Lib.hid ((HX4.out.tr HXR.out).tr hx7)
      have HA7 := Lib.hid (HAR.out.ext hx7)
      clear hx7
      go_wp2_with (refine wpList_store_arr rfl 32 (.tmp 13) (.tmp 72) rfl w7.heap.size .u8 16 (byt (D 16)) rfl rfl 32 _ (new_of _ _) size_k16 rfl ?_
                   intro w8 hA8 hG8
                   have hx8 : Ext w7 w8 := grown_new (Ext.alloc _ _) hG8 (fun g hg => by simp at hg; omega)
                   have HX8 := Lib.hid (HX7.out.tr hx8)
                   have HA8 := Lib.hid (HA7.out.ext hx8)
                   have HXK := Lib.hid (hA8.rb (fun i _ => byt_lt _ _))
                   clear hA8 hG8 hx8)
      have hb16 : btl 16 (byt (D 16)) = D 16 := byt_inj (by rw [btl_len, HDL.out]) (fun i hi => by rw [btl_len] at hi; exact btl_byt (fun i _ => byt_lt _ _) hi)
      rw [hb16] at HXK
      clear hb16
      refine wp_region_held_drew (S := fun V => Ext w8 V) (by kernel_rfl) (Ext.drew _) (fun x0 => ?_)
      refine wpAnyH_take_move 0 rfl (by kernel_rfl) (by kernel_rfl) (by kernel_rfl) (fun _ _ _ _ h => h) (by kernel_rfl) (.tmp 0) rfl (.slice K key.length ck) rfl x0 ?_
      refine wpAnyH_take_move 1 rfl (by kernel_rfl) (by kernel_rfl) (by kernel_rfl) (fun _ _ _ _ h => h) (by kernel_rfl) (.tmp 1) rfl (.string s) rfl x0 ?_
      refine wpAnyH_take_move 2 rfl (by kernel_rfl) (by kernel_rfl) (by kernel_rfl) (fun _ _ _ _ h => h) (by kernel_rfl) (.tmp 2) rfl (.int .i64 N) rfl x0 ?_
      refine wpAnyH_take_move 4 rfl (by kernel_rfl) (by kernel_rfl) (by kernel_rfl) (fun _ _ _ _ h => h) (by kernel_rfl) (.tmp 9) rfl (.slice A1 N c1) rfl x0 ?_
      try simp only [Act.put, List.setIfInBounds_toArray, List.set_cons_zero, List.set_cons_succ]
      refine wpAnyH_ready (rs := [3]) (by kernel_rfl) (by simp) ?_
      refine AllReadyH.cons rfl (fun K hK => ?_) AllReadyH.nil
      go_simp
      refine (HDER.out N _ (by omega) (HX8.out.tr x0)).mono ?_
      rintro e v1 ⟨A6, c6, rfl, ho6, hx6⟩
      have x1 := x0.tr hx6
      refine hK.out _ _ x1 (fun _ => ?_)
      clear hK K
      try simp only [Act.put, List.setIfInBounds_toArray, List.set_cons_zero, List.set_cons_succ]
      refine wpAnyH_ready (rs := [5]) (by kernel_rfl) (by simp) ?_
      refine AllReadyH.cons rfl (fun K hK => ?_) AllReadyH.nil
      go_simp
      refine (same_n A6 A1 (D N) (D N) N c6 c1 _ _ _ ho6.rb (HA8.out.ext x1) (HDL.out N) (by omega) rfl).mono ?_
      rintro e v2 ⟨rfl, hx7⟩
      have x2 := x1.tr hx7
      refine hK.out _ _ x2 (fun _ => ?_)
      clear hK K
      try simp only [Act.put, List.setIfInBounds_toArray, List.set_cons_zero, List.set_cons_succ]
      refine wpAnyH_take_move 6 rfl (by kernel_rfl) (by kernel_rfl) (by kernel_rfl) (fun _ _ _ _ h => h) (by kernel_rfl) (.tmp 78) rfl (.bool true) rfl x2 ?_
      try simp only [Act.put, List.setIfInBounds_toArray, List.set_cons_zero, List.set_cons_succ]
      refine wpAnyH_take_move 8 rfl (by kernel_rfl) (by kernel_rfl) (by kernel_rfl) (fun _ _ _ _ h => h) (by kernel_rfl) (.tmp 0) rfl (.slice K key.length ck) rfl x2 ?_
      refine wpAnyH_take_move 9 rfl (by kernel_rfl) (by kernel_rfl) (by kernel_rfl) (fun _ _ _ _ h => h) (by kernel_rfl) (.tmp 1) rfl (.string s) rfl x2 ?_
      try simp only [Act.put, List.setIfInBounds_toArray, List.set_cons_zero, List.set_cons_succ]
      refine wpAnyH_take (i := 7) (v := .slice (some ⟨w7.heap.size, 0, none⟩) 16 16) rfl (by kernel_rfl) (by kernel_rfl) (by kernel_rfl) (fun _ _ _ h => h) (Or.inl ⟨by kernel_rfl, ?_⟩) x2 ?_
      · intro W hW
        go_simp
      try simp only [Act.put, List.setIfInBounds_toArray, List.set_cons_zero, List.set_cons_succ]
      refine wpAnyH_ready (rs := [10]) (by kernel_rfl) (by simp) ?_
      refine AllReadyH.cons rfl (fun K hK => ?_) AllReadyH.nil
      go_simp
      refine (HREF.out 16 _ (by decide) (HX8.out.tr x2)).mono ?_
      rintro e v3 ⟨A7, c7, rfl, hr7, hx8⟩
      have x3 := x2.tr hx8
      refine hK.out _ _ x3 (fun _ => ?_)
      clear hK K
      try simp only [Act.put, List.setIfInBounds_toArray, List.set_cons_zero, List.set_cons_succ]
      refine wpAnyH_ready (rs := [11]) (by kernel_rfl) (by simp) ?_
      refine AllReadyH.cons rfl (fun K hK => ?_) AllReadyH.nil
      go_simp
      refine (same_n (some ⟨w7.heap.size, 0, none⟩) A7 (D 16) (D 16) 16 16 c7 _ _ _ (HXK.out.ext x3) hr7 (HDL.out 16) (by decide) rfl).mono ?_
      rintro e v4 ⟨rfl, hx9⟩
      have x4 := x3.tr hx9
      refine hK.out _ _ x4 (fun _ => ?_)
      clear hK K
      try simp only [Act.put, List.setIfInBounds_toArray, List.set_cons_zero, List.set_cons_succ]
      refine wpAnyH_ready (rs := [12]) (by kernel_rfl) (by simp) ?_
      refine AllReadyH.cons rfl (fun K hK => ?_) AllReadyH.nil
      go_simp
      refine hK.out _ _ x4 (fun _ => ?_)
      clear hK K
      try simp only [Act.put, List.setIfInBounds_toArray, List.set_cons_zero, List.set_cons_succ]
      refine wpAnyH_ready (rs := [13]) (by kernel_rfl) (by simp) ?_
      refine AllReadyH.cons rfl (fun K hK => ?_) AllReadyH.nil
      go_simp
      refine hK.out _ _ x4 (fun _ => ?_)
      clear hK K
      try simp only [Act.put, List.setIfInBounds_toArray, List.set_cons_zero, List.set_cons_succ]
      refine wpAnyH_done (by kernel_rfl) ?_ _
      go_wp2_with fail
      go_ret
      exact ⟨rfl, HX8.out.tr x4⟩

set_option maxRecDepth 100000 in
set_option maxHeartbeats 4000000 in
theorem derives_neg (K : Option Addr) (ck : Nat) (key : List UInt8) (s : ByteArray) (lab : List UInt8) (hlab : s.data.toList = lab) (hsz : s.size ≤ 100) (N : Int) (hN : N < 0) (q : Nat) (hq : q ≤ 255) (w : World) (ht : Tab w)
    (hk : RB w (fun g _ => g < w.heap.size) K key) (hkl : key.length ≤ 200) (hkc : key.length ≤ ck) (hkm : ck ≤ 9223372036854775807) :
    Calls Tryd.prog 4 #[.slice K key.length ck, .string s, .int .i64 N, .int .u8 q] w fun e w' => e = .returned (.bool true) ∧ Ext w w' := by
  have HT := Lib.hid ht
  have HK := Lib.hid hk
  have hll : lab.length ≤ 100000 := by
    have : s.data.toList.length = s.size := Array.length_toList
    rw [hlab] at this
    omega
  have t1 : decide ((200 : Int) < (key.length : Int)) = false := decide_eq_false (by omega)
  have t2 : decide ((100 : Int) < (s.size : Int)) = false := decide_eq_false (by omega)
  have t3 : decide ((500 : Int) < N) = false := decide_eq_false (by omega)
  have t4 : decide (N < 0) = true := decide_eq_true hN
  obtain ⟨D, hD⟩ : ∃ D : Nat → List UInt8, ∀ n, drv (byt (kb key)) lab n = D n := ⟨_, fun _ => rfl⟩
  have hDl : ∀ n, (D n).length = n := fun n => by rw [← hD]; exact drv_len _ _ _
  have HDER : Hid (∀ (n : Nat) (W : World), n ≤ 4000 → Ext w W → Calls Tryd.prog 12 #[.slice K key.length ck, .string s, .int .i64 n] W fun e w' => ∃ A c, e = .returned (.slice A n c) ∧ OwnB w' 5 W.heap.size A c (D n) ∧ Ext W w') := Lib.hid (fun n W hn hx => by
    have h := derive_c K ck key _ s lab hlab n hn W (ht.ext hx) (hk.ext hx) (by omega) hkc hkm hll
    rw [hD] at h
    exact h)
  have HREF : Hid (∀ (n : Nat) (W : World), n ≤ 4000 → Ext w W → Calls Tryd.prog 14 #[.slice K key.length ck, .string s, .int .i64 n] W fun e w' => ∃ A c, e = .returned (.slice A n c) ∧ RB w' (fun _ _ => True) A (D n) ∧ Ext W w') := Lib.hid (fun n W hn hx => by
    have h := rderive_c K ck key _ s lab hlab n hn W (hk.ext hx) (by omega) hll
    rw [hD] at h
    exact h)
  have HKEY : Hid (∀ W, Ext w W → Calls Tryd.prog 15 #[.slice K key.length ck, .string s] W fun e w' => e = .returned (.agg (tabV .u8 16 (byt (D 16)))) ∧ Ext W w') := Lib.hid (fun W hx => by
    have h := key_c K ck key _ s lab hlab W (ht.ext hx) (hk.ext hx) (by omega) hkc hkm hll
    rw [hD] at h
    exact h)
  have HTAKE : Hid (∀ k n, k ≤ n → (D n).take k = D k) := Lib.hid (fun k n h => by rw [← hD, ← hD]; exact drv_take _ _ h)
  have HDL := Lib.hid hDl
  have hw1 : Value.int .i64 (wrap64 (q : Int)) = Value.int .i64 (q : Int) := by rw [IntWalk.wrap64_in _ (by omega)]
  obtain ⟨Z, hZ⟩ : ∃ Z : Int, Z = -(q : Int) := ⟨_, rfl⟩
  have e1 : IntKind.i64.wrap (-(q : Int)) = Z := by rw [hZ]; exact IntWalk.i64_in _ (by omega)
  have e2 : (if Z < 0 then 0 else Z) = 0 := by split <;> omega
  have hD0 : D 0 = [] := List.eq_nil_of_length_eq_zero (hDl 0)
  have HD0 := Lib.hid hD0
  have HNEG : Hid (∀ W, Calls Tryd.prog 12 #[.slice K key.length ck, .string s, .int .i64 N] W fun e w' => e = .returned (.slice none 0 0) ∧ W = w') := Lib.hid (fun W => derive_neg K ck key.length s N hN W)
  have HRNEG : Hid (∀ W, Calls Tryd.prog 14 #[.slice K key.length ck, .string s, .int .i64 N] W fun e w' => e = .returned (.slice none 0 0) ∧ W = w') := Lib.hid (fun W => rderive_neg K ck key.length s N hN W)
  have HNIL : Hid (∀ W, Calls Tryd.prog 13 #[.slice none 0 0, .slice none 0 0] W fun e w' => e = .returned (.bool true) ∧ Ext W w') := Lib.hid (fun W => same_n none none [] [] 0 0 0 (fun _ _ => True) (fun _ _ => True) W (RB.nil _ _ _) (RB.nil _ _ _) rfl (by decide) rfl)
  clear ht hk hkc hlab hll hD hDl hZ hsz hkl hq hD0
  go_enter Tryd.func4, Tryd.ntmps4
  go_wp2_with fail
  refine (awake_c _ HT.out).mono ?_
  rintro e w1 ⟨rfl, hx1⟩
  have HX1 := Lib.hid hx1
  clear hx1
  go_wp2_with fail
  refine (HNEG.out _).mono ?_
  rintro e w2 ⟨rfl, rfl⟩
  go_wp2_with fail
  refine (HRNEG.out _).mono ?_
  rintro e w2 ⟨rfl, rfl⟩
  go_wp2_with fail
  refine (HNIL.out _).mono ?_
  rintro e w4 ⟨rfl, hx4⟩
  have HX4 := Lib.hid (HX1.out.tr hx4)
  clear hx4
  go_wp2_with fail
  refine (HDER.out 0 _ (by omega) HX4.out).mono ?_
  rintro e w5 ⟨A3, c3, rfl, ho5, hx5⟩
  have HX5 := Lib.hid (HX4.out.tr hx5)
  have HX45 := Lib.hid hx5
  have HO5 := Lib.hid ho5
  have hsl := fun W => run_slice_any (P := Tryd.prog) (t := 22) Tryd.underlying22 size_u8 none 0 0 0 (by omega) 0 rfl W
  clear ho5 hx5
  go_wp2_with fail
  refine (same_n A3 none (D 0) [] 0 c3 0 _ (fun _ _ => True) _ HO5.out.rb (RB.nil _ _ _) (HDL.out 0) (by omega) HD0.out).mono ?_
  rintro e w6 ⟨rfl, hx6⟩
  have HX46 := Lib.hid (HX45.out.tr hx6)
  have HO6 := Lib.hid (HO5.out.ext hx6)
  clear hx6 hsl HO5 HX45
  go_wp2_with fail
  go_loopw [12] (fun v wr => v = .int .i64 0 ∧ Ext w4 wr) (fun v _ => 0)
  case atStart => exact ⟨rfl, HX46.out⟩
  case round =>
    obtain ⟨rfl, hx⟩ := hrel
    have HXR := Lib.hid hx
    clear hx
    go_wp2_with fail
    refine (HKEY.out _ (HX4.out.tr HXR.out)).mono ?_
    rintro e w7 ⟨rfl, hx7⟩
    have HX7 := Lib.hid ((HX4.out.tr HXR.out).tr hx7)
    clear hx7
    go_wp2_with (refine wpList_store_arr rfl 32 (.tmp 13) (.tmp 72) rfl w7.heap.size .u8 16 (byt (D 16)) rfl rfl 32 _ (new_of _ _) size_k16 rfl ?_
                 intro w8 hA8 hG8
                 have hx8 : Ext w7 w8 := grown_new (Ext.alloc _ _) hG8 (fun g hg => by simp at hg; omega)
                 have HX8 := Lib.hid (HX7.out.tr hx8)
                 have HXK := Lib.hid (hA8.rb (fun i _ => byt_lt _ _))
                 clear hA8 hG8 hx8)
    have hb16 : btl 16 (byt (D 16)) = D 16 := byt_inj (by rw [btl_len, HDL.out]) (fun i hi => by rw [btl_len] at hi; exact btl_byt (fun i _ => byt_lt _ _) hi)
    rw [hb16] at HXK
    clear hb16
    refine wp_region_held_drew (S := fun V => Ext w8 V) (by kernel_rfl) (Ext.drew _) (fun x0 => ?_)
    refine wpAnyH_take_move 0 rfl (by kernel_rfl) (by kernel_rfl) (by kernel_rfl) (fun _ _ _ _ h => h) (by kernel_rfl) (.tmp 0) rfl (.slice K key.length ck) rfl x0 ?_
    refine wpAnyH_take_move 1 rfl (by kernel_rfl) (by kernel_rfl) (by kernel_rfl) (fun _ _ _ _ h => h) (by kernel_rfl) (.tmp 1) rfl (.string s) rfl x0 ?_
    refine wpAnyH_take_move 2 rfl (by kernel_rfl) (by kernel_rfl) (by kernel_rfl) (fun _ _ _ _ h => h) (by kernel_rfl) (.tmp 2) rfl (.int .i64 N) rfl x0 ?_
    refine wpAnyH_take_move 4 rfl (by kernel_rfl) (by kernel_rfl) (by kernel_rfl) (fun _ _ _ _ h => h) (by kernel_rfl) (.tmp 9) rfl (.slice none 0 0) rfl x0 ?_
    try simp only [Act.put, List.setIfInBounds_toArray, List.set_cons_zero, List.set_cons_succ]
    refine wpAnyH_ready (rs := [3]) (by kernel_rfl) (by simp) ?_
    refine AllReadyH.cons rfl (fun K hK => ?_) AllReadyH.nil
    go_simp
    refine (HNEG.out _).mono ?_
    rintro e v1 ⟨rfl, rfl⟩
    have x1 := x0
    refine hK.out _ _ x1 (fun _ => ?_)
    clear hK K
    try simp only [Act.put, List.setIfInBounds_toArray, List.set_cons_zero, List.set_cons_succ]
    refine wpAnyH_ready (rs := [5]) (by kernel_rfl) (by simp) ?_
    refine AllReadyH.cons rfl (fun K hK => ?_) AllReadyH.nil
    go_simp
    refine (HNIL.out _).mono ?_
    rintro e v2 ⟨rfl, hx7⟩
    have x2 := x1.tr hx7
    refine hK.out _ _ x2 (fun _ => ?_)
    clear hK K
    try simp only [Act.put, List.setIfInBounds_toArray, List.set_cons_zero, List.set_cons_succ]
    refine wpAnyH_take_move 6 rfl (by kernel_rfl) (by kernel_rfl) (by kernel_rfl) (fun _ _ _ _ h => h) (by kernel_rfl) (.tmp 78) rfl (.bool true) rfl x2 ?_
    try simp only [Act.put, List.setIfInBounds_toArray, List.set_cons_zero, List.set_cons_succ]
    refine wpAnyH_take_move 8 rfl (by kernel_rfl) (by kernel_rfl) (by kernel_rfl) (fun _ _ _ _ h => h) (by kernel_rfl) (.tmp 0) rfl (.slice K key.length ck) rfl x2 ?_
    refine wpAnyH_take_move 9 rfl (by kernel_rfl) (by kernel_rfl) (by kernel_rfl) (fun _ _ _ _ h => h) (by kernel_rfl) (.tmp 1) rfl (.string s) rfl x2 ?_
    try simp only [Act.put, List.setIfInBounds_toArray, List.set_cons_zero, List.set_cons_succ]
    refine wpAnyH_take (i := 7) (v := .slice (some ⟨w7.heap.size, 0, none⟩) 16 16) rfl (by kernel_rfl) (by kernel_rfl) (by kernel_rfl) (fun _ _ _ h => h) (Or.inl ⟨by kernel_rfl, ?_⟩) x2 ?_
    · intro W hW
      go_simp
    try simp only [Act.put, List.setIfInBounds_toArray, List.set_cons_zero, List.set_cons_succ]
    refine wpAnyH_ready (rs := [10]) (by kernel_rfl) (by simp) ?_
    refine AllReadyH.cons rfl (fun K hK => ?_) AllReadyH.nil
    go_simp
    refine (HREF.out 16 _ (by decide) (HX8.out.tr x2)).mono ?_
    rintro e v3 ⟨A7, c7, rfl, hr7, hx8⟩
    have x3 := x2.tr hx8
    refine hK.out _ _ x3 (fun _ => ?_)
    clear hK K
    try simp only [Act.put, List.setIfInBounds_toArray, List.set_cons_zero, List.set_cons_succ]
    refine wpAnyH_ready (rs := [11]) (by kernel_rfl) (by simp) ?_
    refine AllReadyH.cons rfl (fun K hK => ?_) AllReadyH.nil
    go_simp
    refine (same_n (some ⟨w7.heap.size, 0, none⟩) A7 (D 16) (D 16) 16 16 c7 _ _ _ (HXK.out.ext x3) hr7 (HDL.out 16) (by decide) rfl).mono ?_
    rintro e v4 ⟨rfl, hx9⟩
    have x4 := x3.tr hx9
    refine hK.out _ _ x4 (fun _ => ?_)
    clear hK K
    try simp only [Act.put, List.setIfInBounds_toArray, List.set_cons_zero, List.set_cons_succ]
    refine wpAnyH_ready (rs := [12]) (by kernel_rfl) (by simp) ?_
    refine AllReadyH.cons rfl (fun K hK => ?_) AllReadyH.nil
    go_simp
    refine hK.out _ _ x4 (fun _ => ?_)
    clear hK K
    try simp only [Act.put, List.setIfInBounds_toArray, List.set_cons_zero, List.set_cons_succ]
    refine wpAnyH_ready (rs := [13]) (by kernel_rfl) (by simp) ?_
    refine AllReadyH.cons rfl (fun K hK => ?_) AllReadyH.nil
    go_simp
    refine hK.out _ _ x4 (fun _ => ?_)
    clear hK K
    try simp only [Act.put, List.setIfInBounds_toArray, List.set_cons_zero, List.set_cons_succ]
    refine wpAnyH_done (by kernel_rfl) ?_ _
    go_wp2_with fail
    go_ret
    exact ⟨rfl, HX8.out.tr x4⟩
theorem macDerives_walk (K : Option Addr) (kl ck : Nat) (zk : List Int) (s : ByteArray) (n : Int) (q : Int) (w : World) (hk : IsRow .u8 w K kl ck zk) (hs : s.size ≤ maxLen) (hn : (Lit.int .i64 n).wf = true) (hq : (Lit.int .u8 q).wf = true) (ht : Tab w) :
    Calls Tryd.prog 4 #[.slice K kl ck, .string s, .int .i64 n, .int .u8 q] w fun e w' => e = .returned (.bool true) ∧ Ext w w' := by
  obtain ⟨key, rfl, hk1, hk2, hkr⟩ := row_bytes hk
  obtain ⟨n0, n1⟩ := bd_i64 hn
  obtain ⟨q0, q1⟩ := bd_u8 hq
  obtain ⟨q, rfl⟩ := Int.eq_ofNat_of_zero_le q0
  unfold maxLen at hk2
  by_cases h1 : 200 < key.length
  · have t1 : decide ((200 : Int) < (key.length : Int)) = true := decide_eq_true (by omega)
    have HT := Lib.hid ht
    clear ht hk hkr hn hq hs
    go_enter Tryd.func4, Tryd.ntmps4
    go_wp2_with fail
    refine (awake_c _ HT.out).mono ?_
    rintro e w1 ⟨rfl, hx1⟩
    go_wp2_with fail
    refine (awake_c _ (HT.out.ext hx1)).mono ?_
    rintro e w2 ⟨rfl, hx2⟩
    go_wp2_with fail
    go_ret
    exact ⟨rfl, hx1.tr hx2⟩
  have t1 : decide ((200 : Int) < (key.length : Int)) = false := decide_eq_false (by omega)
  by_cases h2 : 100 < s.size
  · have t2 : decide ((100 : Int) < (s.size : Int)) = true := decide_eq_true (by omega)
    have HT := Lib.hid ht
    clear ht hk hkr hn hq hs
    go_enter Tryd.func4, Tryd.ntmps4
    go_wp2_with fail
    refine (awake_c _ HT.out).mono ?_
    rintro e w1 ⟨rfl, hx1⟩
    go_wp2_with fail
    refine (awake_c _ (HT.out.ext hx1)).mono ?_
    rintro e w2 ⟨rfl, hx2⟩
    go_wp2_with fail
    go_ret
    exact ⟨rfl, hx1.tr hx2⟩
  have t2 : decide ((100 : Int) < (s.size : Int)) = false := decide_eq_false (by omega)
  by_cases h3 : 500 < n
  · have t3 : decide ((500 : Int) < n) = true := decide_eq_true h3
    have HT := Lib.hid ht
    clear ht hk hkr hn hq hs
    go_enter Tryd.func4, Tryd.ntmps4
    go_wp2_with fail
    refine (awake_c _ HT.out).mono ?_
    rintro e w1 ⟨rfl, hx1⟩
    go_wp2_with fail
    refine (awake_c _ (HT.out.ext hx1)).mono ?_
    rintro e w2 ⟨rfl, hx2⟩
    go_wp2_with fail
    go_ret
    exact ⟨rfl, hx1.tr hx2⟩
  by_cases h4 : n < 0
  · exact derives_neg K ck key s _ rfl (by omega) n h4 q (by omega) w ht hkr (by omega) hk1 (by omega)
  · obtain ⟨N, rfl⟩ := Int.eq_ofNat_of_zero_le (by omega : 0 ≤ n)
    exact derives_main K ck key s _ rfl (by omega) N (by omega) q (by omega) w ht hkr (by omega) hk1 (by omega)
end Go.Proofs.YtdbmkkjpdhnllaaDoor
