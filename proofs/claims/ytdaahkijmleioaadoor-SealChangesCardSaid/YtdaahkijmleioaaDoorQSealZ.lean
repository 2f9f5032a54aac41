/-
  SealChanges.
-/
import Derived.Test.YtdaahkijmleioaaDoorQSealO

namespace Go.Proofs.YtdaahkijmleioaaDoor
open Go.RowKit
set_option linter.unusedVariables false
set_option linter.unusedSimpArgs false

theorem bd_u16 {n : Int} (h : (Lit.int .u16 n).wf = true) : 0 ≤ n ∧ n ≤ 65535 := by simpa [Lit.wf, IntKind.min, IntKind.max, IntKind.signed, IntKind.bits] using h
theorem tm_nat (a b : Nat) : (a : Int).tmod (b : Int) = ((a % b : Nat) : Int) := (Int.ofNat_tmod a b).symm
theorem oans_len (k : List UInt8) (u : UInt8) (s : List UInt8) : (oans k u s).length ≤ s.length := by
  unfold oans opn
  split
  · show (ecr k (byt s) (mid s)).length ≤ s.length
    rw [ecr_len, mid_len]
    omega
  · simp
theorem of_an (an : Nat) : (#[.int .u8 ((an : Int) % 256)] : Array Value).toList = [UInt8.ofNat an].map u8 := by
  show [Value.int .u8 ((an : Int) % 256)] = [Value.int .u8 ((UInt8.ofNat an).toNat : Int)]
  rw [UInt8.toNat_ofNat']
  rfl
set_option maxRecDepth 100000 in
set_option maxHeartbeats 16000000 in
theorem sealChanges_walk (key : Nat → Nat) (ui : Int) (nonce : Nat → Nat) (B : Option Addr) (len cap : Nat) (z : List Int) (ati ki : Int) (w : World) (hk' : ∀ i, i < 16 → (Lit.int .u8 (key i : Nat)).wf = true) (hu' : (Lit.int .u8 ui).wf = true) (hn' : ∀ i, i < 8 → (Lit.int .u8 (nonce i : Nat)).wf = true) (hz : IsRow .u8 w B len cap z)
    (ha' : (Lit.int .u16 ati).wf = true) (hki' : (Lit.int .u8 ki).wf = true) (ht : Tab w) :
    Calls Tryd.prog 5 #[.agg (tabV .u8 16 key), .int .u8 ui, .agg (tabV .u8 8 nonce), .slice B len cap, .int .u16 ati, .int .u8 ki] w fun e w' => e = .returned (.bool true) ∧ Ext w w' := by
  obtain ⟨i0, hi0, hz0, hz1, hz2⟩ := info_parts info_u8
  obtain ⟨u, rfl⟩ := u8_of hu'
  have HKB := Lib.hid (wf_byt hk')
  have HNB := Lib.hid (show Byt8 nonce from wf_byt hn')
  obtain ⟨kn, rfl, hkn⟩ : ∃ kn : Nat, ki = (kn : Int) ∧ kn < 256 := by
    have := bd_u8 hki'
    exact ⟨ki.toNat, by omega, by omega⟩
  obtain ⟨an, rfl, han⟩ : ∃ an : Nat, ati = (an : Int) ∧ an < 65536 := by
    have := bd_u16 ha'
    exact ⟨ati.toNat, by omega, by omega⟩
  obtain ⟨b, rfl, hb1, hb2, hbr⟩ := row_bytes hz
  unfold maxLen at hb2
  obtain ⟨h0, h1⟩ := two_new w (.cells (tabV .u8 16 key) 22) (.cells (tabV .u8 8 nonce) 23)
  have hx0 := (Ext.alloc w (.cells (tabV .u8 16 key) 22)).tr (Ext.alloc _ (.cells (tabV .u8 8 nonce) 23))
  obtain ⟨W0, hW0⟩ : ∃ W, W = (w.alloc (.cells (tabV .u8 16 key) 22)).alloc (.cells (tabV .u8 8 nonce) 23) := ⟨_, rfl⟩
  rw [← hW0] at h0 h1 hx0
  have HK0 := Lib.hid (show Arr W0 w.heap.size 22 .u8 16 key from h0)
  have HN0 := Lib.hid (show Arr W0 (w.heap.size + 1) 23 .u8 8 nonce from h1)
  have HT := Lib.hid ht
  have HR := Lib.hid hbr
  have HX0 := Lib.hid hx0
  have HW0 := Lib.hid hW0
  have HKN := Lib.hid hkn
  have HAN := Lib.hid han
  clear h0 h1 ht hbr hx0 hk' hu' hn' hz ha' hki' hb1 hb2 hW0 hkn han
  by_cases hlt : 500 < b.length
  · have t1 : decide ((500 : Int) < (b.length : Int)) = true := decide_eq_true (by omega)
    clear hlt
    go_enter Tryd.func5, Tryd.ntmps5
    go_wp2_with fail
    rw [← HW0.out]
    refine (awake_c _ (HT.out.ext HX0.out)).mono ?_
    rintro e w1 ⟨rfl, hx1⟩
    go_wp2_with fail
    refine (awake_c _ (HT.out.ext (HX0.out.tr hx1))).mono ?_
    rintro e w2 ⟨rfl, hx2⟩
    go_wp2_with fail
    go_ret
    exact ⟨rfl, HX0.out.tr (hx1.tr hx2)⟩
  have t1 : decide ((500 : Int) < (b.length : Int)) = false := decide_eq_false (by omega)
  have HLE := Lib.hid (show b.length ≤ 500 by omega)
  clear hlt
  obtain ⟨r, hr5⟩ : ∃ r, r = kn % 5 := ⟨_, rfl⟩
  have hrk : (kn : Int).tmod 5 = (r : Int) := by rw [hr5]; exact tm_nat kn 5
  have hr4 : r < 5 := by omega
  have HRK := Lib.hid hrk
  have HR4 := Lib.hid hr4
  clear hr5 hrk hr4
  go_enter Tryd.func5, Tryd.ntmps5
  go_wp2_with fail
  rw [← HW0.out]
  refine (awake_c _ (HT.out.ext HX0.out)).mono ?_
  rintro e w1 ⟨rfl, hx1⟩
  have HX1 := Lib.hid (HX0.out.tr hx1)
  have HK1 := Lib.hid (HK0.out.ext hx1)
  have HN1 := Lib.hid (HN0.out.ext hx1)
  clear hx1 HX0 HK0 HN0 HW0
  go_wp2_with (first
    | (refine wpList_load_arr rfl 22 (.tmp 6) rfl w.heap.size rfl 22 .u8 16 key _ HK1.out Tryd.underlying22 size_bk ?_)
    | (refine wpList_load_arr rfl 23 (.tmp 8) rfl (w.heap.size + 1) rfl 23 .u8 8 nonce _ HN1.out Tryd.underlying23 size_nc ?_))
  refine (rseal_c cap key nonce HKB.out HNB.out u B b _ w1 (by have := HLE.out; omega) (HR.out.ext HX1.out)).mono ?_
  rintro e w2 ⟨A, c, rfl, ho, hx2⟩
  have HX2 := Lib.hid (HX1.out.tr hx2)
  have HK2 := Lib.hid (HK1.out.ext hx2)
  obtain ⟨k, hke⟩ : ∃ k, k = btl 16 key := ⟨_, rfl⟩
  rw [← hke] at ho
  have hsl := sld_len k u nonce b
  have hso : tag k u (hd_ (sld k u nonce b)) = tl_ (sld k u nonce b) := by rw [sld_hd, sld_tl]
  obtain ⟨s, hs⟩ : ∃ s, s = sld k u nonce b := ⟨_, rfl⟩
  rw [← hs] at ho hsl hso
  obtain ⟨L, hL⟩ : ∃ L, L = b.length + 24 := ⟨_, rfl⟩
  rw [← hL] at hsl ⊢
  have hle := ho.le
  rw [hsl] at hle
  unfold maxLen at hle
  obtain ⟨g, rfl⟩ : ∃ g, A = some ⟨g, 0, none⟩ := by
    rcases ho.block with ⟨_, _, h⟩ | ⟨g, _, h, _⟩
    · rw [h] at hsl; simp at hsl; omega
    · exact ⟨g, h⟩
  have hLb : 24 ≤ L ∧ L ≤ 524 := by have := HLE.out; omega
  obtain ⟨i, hi⟩ : ∃ i, i = an % L := ⟨_, rfl⟩
  have hiL : i < L := by rw [hi]; exact Nat.mod_lt _ (by omega)
  have hmi : (an : Int).tmod (L : Int) = (i : Int) := by rw [hi]; exact tm_nat an L
  have hwa : IntKind.i64.wrap (an : Int) = (an : Int) := IntWalk.i64_in _ (by have := HAN.out; omega)
  have hwi : IntKind.i64.wrap (i : Int) = (i : Int) := IntWalk.i64_in _ (by omega)
  have hL0 : ((L : Int) = 0) = False := by simp; omega
  have hL0' : ¬ L = 0 := by omega
  have HO2 := Lib.hid ho
  have HSL := Lib.hid hsl
  have HSO := Lib.hid hso
  have HC := Lib.hid hle
  have HL := Lib.hid hLb
  have HI := Lib.hid hiL
  have HKE := Lib.hid hke
  have HLB := Lib.hid hL
  have hgw := ho.at_
  have hkw := HK2.out.lt
  have HGW := Lib.hid (And.intro hgw.1 hgw.2)
  have HWW := Lib.hid (show w.heap.size < w1.heap.size from HK1.out.lt)
  have HKG := Lib.hid (show w.heap.size ≠ g by have h1 := HK1.out.lt; have := hgw.1; omega)
  clear ho hsl hso hle hLb hiL hi hke hs hL hx2 HX1 HK1 HN1 HR hgw hkw
  by_cases hr0 : r = 0
  · have h5 : (kn : Int).tmod 5 = 0 := by rw [HRK.out, hr0]; rfl
    clear hr0
    obtain ⟨x, hx⟩ : ∃ x, x = s[i]'(by rw [HSL.out]; exact HI.out) := ⟨_, rfl⟩
    have hcx := HO2.out.cellAt (j := i) (by rw [HSL.out]; exact HI.out)
    rw [← hx] at hcx
    have HXX := Lib.hid hx
    clear hx
    have hfx := HO2.out.freeAt i
    have h255 : (an : Int).tmod 255 = ((an % 255 : Nat) : Int) := tm_nat an 255
    go_upto_region 15 with fail
    obtain ⟨y, hy⟩ : ∃ y, y = UInt8.ofNat (1 + an % 255) := ⟨_, rfl⟩
    have hyn : y.toNat = 1 + an % 255 := by rw [hy, UInt8.toNat_ofNat']; omega
    have q1 : bits .xor .u8 (x.toNat : Int) (1 + (an : Int) % 255) = ((x ^^^ y).toNat : Int) := by
      rw [show (1 + (an : Int) % 255) = ((y.toNat : Nat) : Int) by rw [hyn]; omega, u8_xor_nat _ _ (UInt8.toNat_lt x) (UInt8.toNat_lt y), UInt8.toNat_xor]
    rw [q1]
    have hne : s.set i (x ^^^ y) ≠ s := by
      intro h
      have h1 : (s.set i (x ^^^ y))[i]? = s[i]? := by rw [h]
      rw [List.getElem?_set_self (by rw [HSL.out]; exact HI.out), List.getElem?_eq_getElem (by rw [HSL.out]; exact HI.out), ← HXX.out] at h1
      have h2 := Option.some.inj h1
      have h3 : x ^^^ (x ^^^ y) = x ^^^ x := by rw [h2]
      rw [← UInt8.xor_assoc, UInt8.xor_self, UInt8.zero_xor] at h3
      rw [h3] at hyn
      have h4 : (0 : UInt8).toNat = 0 := rfl
      omega
    have hoset := HO2.out.set_ i (x ^^^ y)
    have hxset : Ext w (w2.setCell ⟨g, i, none⟩ (.int .u8 ((x ^^^ y).toNat : Int))) := ext_setCell HX2.out (show w.heap.size ≤ g by have h1 := HGW.out.1; have h2 := HWW.out; omega) _
    have hkset := HK2.out.other (g' := g) HKG.out i (.int .u8 ((x ^^^ y).toNat : Int))
    obtain ⟨w3, hw3⟩ : ∃ v, v = w2.setCell ⟨g, i, none⟩ (.int .u8 ((x ^^^ y).toNat : Int)) := ⟨_, rfl⟩
    rw [← hw3] at hoset hxset hkset ⊢
    obtain ⟨t, htt⟩ : ∃ t, t = s.set i (x ^^^ y) := ⟨_, rfl⟩
    have htl : t.length = L := by rw [htt, List.length_set, HSL.out]
    rw [← htt] at hoset hne
    have HX3 := Lib.hid hxset
    have HK3 := Lib.hid hkset
    have HRR := Lib.hid hoset.rb
    have HSS := Lib.hid htl
    have HTT := Lib.hid htt
    have HNE := Lib.hid hne
    have HCC := Lib.hid (show L ≤ c ∧ c ≤ 9223372036854775807 by have := HC.out; omega)
    have HNN := Lib.hid (show L ≤ 1000 by have := HL.out; omega)
    have hw16 : IntKind.i64.wrap ((L : Int) - 16) = ((L - 16 : Nat) : Int) := by
      rw [show (L : Int) - 16 = ((L - 16 : Nat) : Int) by have := HL.out; omega]
      exact IntWalk.i64_in _ (by have := HL.out; omega)
    clear hy hyn q1 hne hoset hxset hkset hw3 htt htl hcx hfx h255
    obtain ⟨X, hX⟩ : ∃ X, X = oans (btl 16 key) u t := ⟨_, rfl⟩
    have HOX := Lib.hid hX.symm
    have HXL := Lib.hid (show X.length ≤ 9223372036854775807 by rw [hX]; have h1 := oans_len (btl 16 key) u t; rw [HSS.out] at h1; have := HNN.out; omega)

    by_cases hcode : L ≤ i + 16
    · have hnone : opn (btl 16 key) u t = none := by
        rw [← HKE.out]
        refine opn_code (s := s) (by rw [HSS.out, HSL.out]) ?_ HNE.out HSO.out
        unfold hd_
        rw [HSS.out, HSL.out, HTT.out, List.take_set_of_le (by omega)]
      have HQX := Lib.hid (show (opn (btl 16 key) u t).isSome = false by rw [hnone]; rfl)
      clear hX hnone
      go_wp2_with (refine wpList_load_arr rfl 22 (.tmp 6) rfl w.heap.size rfl 22 .u8 16 key _ HK3.out Tryd.underlying22 size_bk ?_)
      have hop := open_of c key HKB.out u (some ⟨g, 0, none⟩) t _ w3 (HT.out.ext HX3.out) (by rw [HSS.out]; have := HNN.out; omega) (by rw [HSS.out]; exact HCC.out.1) HCC.out.2 HRR.out X false HOX.out HQX.out
      rw [HSS.out] at hop
      refine hop.mono ?_
      rintro e w4 ⟨A1, c1, rfl, hr4, _, _, hx4⟩
      have HX4 := Lib.hid (HX3.out.tr hx4)
      have HK4 := Lib.hid (HK3.out.ext hx4)
      have HR4' := Lib.hid (HRR.out.ext hx4)
      have HA4 := Lib.hid hr4
      clear hx4 hr4 hop
      go_wp2_with (refine wpList_load_arr rfl 22 (.tmp 6) rfl w.heap.size rfl 22 .u8 16 key _ HK4.out Tryd.underlying22 size_bk ?_)
      have hop := ropen_of c key HKB.out u (some ⟨g, 0, none⟩) t _ w4 (by rw [HSS.out]; have := HNN.out; omega) (by rw [HSS.out]; exact HCC.out.1) HR4'.out X false HOX.out HQX.out
      rw [HSS.out] at hop
      refine hop.mono ?_
      rintro e w5 ⟨A2, c2, rfl, hr5, hx5⟩
      have HX5 := Lib.hid (HX4.out.tr hx5)
      have HA5 := Lib.hid (HA4.out.ext hx5)
      have HB5 := Lib.hid hr5
      clear hx5 hr5 hop HK4 HR4' HA4 HX4
      go_wp2_with fail
      refine (same_self A1 A2 X c1 c2 _ _ w5 HA5.out HB5.out HXL.out).mono ?_
      rintro e w6 ⟨rfl, hx6⟩
      have HX6 := Lib.hid (HX5.out.tr hx6)
      clear hx6 HX5 HA5 HB5
      go_wp2_with fail
      go_ret
      exact ⟨rfl, HX6.out⟩
    · skip
      obtain ⟨q, hq⟩ : ∃ q, q = (opn (btl 16 key) u t).isSome := ⟨_, rfl⟩
      have HQX := Lib.hid hq.symm
      clear hX hq
      go_wp2_with (refine wpList_load_arr rfl 22 (.tmp 6) rfl w.heap.size rfl 22 .u8 16 key _ HK3.out Tryd.underlying22 size_bk ?_)
      have hop := open_of c key HKB.out u (some ⟨g, 0, none⟩) t _ w3 (HT.out.ext HX3.out) (by rw [HSS.out]; have := HNN.out; omega) (by rw [HSS.out]; exact HCC.out.1) HCC.out.2 HRR.out X q HOX.out HQX.out
      rw [HSS.out] at hop
      refine hop.mono ?_
      rintro e w4 ⟨A1, c1, rfl, hr4, _, _, hx4⟩
      have HX4 := Lib.hid (HX3.out.tr hx4)
      have HK4 := Lib.hid (HK3.out.ext hx4)
      have HR4' := Lib.hid (HRR.out.ext hx4)
      have HA4 := Lib.hid hr4
      clear hx4 hr4 hop
      go_wp2_with (refine wpList_load_arr rfl 22 (.tmp 6) rfl w.heap.size rfl 22 .u8 16 key _ HK4.out Tryd.underlying22 size_bk ?_)
      have hop := ropen_of c key HKB.out u (some ⟨g, 0, none⟩) t _ w4 (by rw [HSS.out]; have := HNN.out; omega) (by rw [HSS.out]; exact HCC.out.1) HR4'.out X q HOX.out HQX.out
      rw [HSS.out] at hop
      refine hop.mono ?_
      rintro e w5 ⟨A2, c2, rfl, hr5, hx5⟩
      have HX5 := Lib.hid (HX4.out.tr hx5)
      have HA5 := Lib.hid (HA4.out.ext hx5)
      have HB5 := Lib.hid hr5
      clear hx5 hr5 hop HK4 HR4' HA4 HX4
      go_wp2_with fail
      refine (same_self A1 A2 X c1 c2 _ _ w5 HA5.out HB5.out HXL.out).mono ?_
      rintro e w6 ⟨rfl, hx6⟩
      have HX6 := Lib.hid (HX5.out.tr hx6)
      clear hx6 HX5 HA5 HB5
      go_wp2_with fail
      go_ret
      exact ⟨rfl, HX6.out⟩
  by_cases hr1 : r = 1
  · have h5 : (kn : Int).tmod 5 = 1 := by rw [HRK.out, hr1]; rfl
    clear hr1
    have hw1 : IntKind.i64.wrap ((L : Int) - 1) = ((L - 1 : Nat) : Int) := by
      rw [show (L : Int) - 1 = ((L - 1 : Nat) : Int) by have := HL.out; omega]
      exact IntWalk.i64_in _ (by have := HL.out; omega)
    have hs1 := fun W => run_slice_hi0 (P := Tryd.prog) Tryd.underlying24 size_u8 g 0 L c (L - 1) (by have := HC.out.1; omega) (by have := HC.out.1; have := HL.out; omega) ((L - 1 : Nat) : Int) rfl W
    go_upto_region 15 with fail
    have HX3 := HX2
    have HK3 := HK2
    have HRR := Lib.hid (HO2.out.rb.take (L - 1))
    have HSS := Lib.hid (show (s.take (L - 1)).length = L - 1 by rw [List.length_take, HSL.out]; omega)
    have HCC := Lib.hid (show L - 1 ≤ c ∧ c ≤ 9223372036854775807 by have := HC.out; omega)
    have HNN := Lib.hid (show L - 1 ≤ 1000 by have := HL.out; omega)
    clear hw1 hs1
    obtain ⟨X, hX⟩ : ∃ X, X = oans (btl 16 key) u (s.take (L - 1)) := ⟨_, rfl⟩
    have HOX := Lib.hid hX.symm
    have HXL := Lib.hid (show X.length ≤ 9223372036854775807 by rw [hX]; have h1 := oans_len (btl 16 key) u (s.take (L - 1)); rw [HSS.out] at h1; have := HNN.out; omega)
    obtain ⟨q, hq⟩ : ∃ q, q = (opn (btl 16 key) u (s.take (L - 1))).isSome := ⟨_, rfl⟩
    have HQX := Lib.hid hq.symm
    clear hX hq
    go_wp2_with (refine wpList_load_arr rfl 22 (.tmp 6) rfl w.heap.size rfl 22 .u8 16 key _ HK3.out Tryd.underlying22 size_bk ?_)
    have hop := open_of c key HKB.out u (some ⟨g, 0, none⟩) (s.take (L - 1)) _ w2 (HT.out.ext HX3.out) (by rw [HSS.out]; have := HNN.out; omega) (by rw [HSS.out]; exact HCC.out.1) HCC.out.2 HRR.out X q HOX.out HQX.out
    rw [HSS.out] at hop
    refine hop.mono ?_
    rintro e w4 ⟨A1, c1, rfl, hr4, _, _, hx4⟩
    have HX4 := Lib.hid (HX3.out.tr hx4)
    have HK4 := Lib.hid (HK3.out.ext hx4)
    have HR4' := Lib.hid (HRR.out.ext hx4)
    have HA4 := Lib.hid hr4
    clear hx4 hr4 hop
    go_wp2_with (refine wpList_load_arr rfl 22 (.tmp 6) rfl w.heap.size rfl 22 .u8 16 key _ HK4.out Tryd.underlying22 size_bk ?_)
    have hop := ropen_of c key HKB.out u (some ⟨g, 0, none⟩) (s.take (L - 1)) _ w4 (by rw [HSS.out]; have := HNN.out; omega) (by rw [HSS.out]; exact HCC.out.1) HR4'.out X q HOX.out HQX.out
    rw [HSS.out] at hop
    refine hop.mono ?_
    rintro e w5 ⟨A2, c2, rfl, hr5, hx5⟩
    have HX5 := Lib.hid (HX4.out.tr hx5)
    have HA5 := Lib.hid (HA4.out.ext hx5)
    have HB5 := Lib.hid hr5
    clear hx5 hr5 hop HK4 HR4' HA4 HX4
    go_wp2_with fail
    refine (same_self A1 A2 X c1 c2 _ _ w5 HA5.out HB5.out HXL.out).mono ?_
    rintro e w6 ⟨rfl, hx6⟩
    have HX6 := Lib.hid (HX5.out.tr hx6)
    clear hx6 HX5 HA5 HB5
    go_wp2_with fail
    go_ret
    exact ⟨rfl, HX6.out⟩
  by_cases hr2 : r = 2
  · have h5 : (kn : Int).tmod 5 = 2 := by rw [HRK.out, hr2]; rfl
    clear hr2
    go_upto_region 15 with (first
      | (at_builtin
         refine wpList_append_bytes _ rfl (.tmp 65) (.tmp 68) 24 rfl w1.heap.size 5 i0 Tryd.underlying24 hi0 hz0 hz1 hz2 (some ⟨g, 0, none⟩) c s (by rw [HSL.out]; rfl) (HO2.out.ext (Ext.alloc _ _)) _ (some ⟨w2.heap.size, 0, none⟩) 1 [UInt8.ofNat an] rfl (OwnB.lit (base := w2.heap.size) [UInt8.ofNat an] #[.int .u8 ((an : Int) % 256)] (by rw [of_an]) (Nat.le_refl _) (by simp [maxLen])).rb (by rw [HSL.out]; have := HL.out; simp; omega) (by have := HGW.out; simp; omega) ?_
         intro A' c' w3 F hG _))
    rw [HSL.out]
    have hrow : ∀ j, (Value.slice (some ⟨g, 0, none⟩) s.length c).ownBlock = some j → w1.heap.size ≤ j := HO2.out.ge
    have hxa : Ext w2 (w2.alloc (.cells #[.int .u8 ((an : Int) % 256)] 5)) := Ext.alloc _ _
    have HX3 := Lib.hid (grown_new (HX2.out.tr hxa) hG (fun j hj => by have := hrow j hj; have := HWW.out; omega))
    have HK3 := Lib.hid (show Arr w3 w.heap.size 22 .u8 16 key from (hG.block w.heap.size (HK2.out.ext hxa).lt (fun h => by have := hrow _ h.symm; have := HWW.out; omega)).trans (HK2.out.ext hxa))
    have HRR := Lib.hid F.rb
    have hfl : (s ++ [UInt8.ofNat an]).length = L + 1 := by rw [List.length_append, HSL.out]; rfl
    have hfc := F.le
    rw [hfl] at hfc
    unfold maxLen at hfc
    have HSS := Lib.hid hfl
    have HCC := Lib.hid (show L + 1 ≤ c' ∧ c' ≤ 9223372036854775807 by omega)
    have HNN := Lib.hid (show L + 1 ≤ 1000 by have := HL.out; omega)
    clear hrow hxa hG F hfl hfc
    obtain ⟨X, hX⟩ : ∃ X, X = oans (btl 16 key) u (s ++ [UInt8.ofNat an]) := ⟨_, rfl⟩
    have HOX := Lib.hid hX.symm
    have HXL := Lib.hid (show X.length ≤ 9223372036854775807 by rw [hX]; have h1 := oans_len (btl 16 key) u (s ++ [UInt8.ofNat an]); rw [HSS.out] at h1; have := HNN.out; omega)
    obtain ⟨q, hq⟩ : ∃ q, q = (opn (btl 16 key) u (s ++ [UInt8.ofNat an])).isSome := ⟨_, rfl⟩
    have HQX := Lib.hid hq.symm
    clear hX hq
    go_wp2_with (refine wpList_load_arr rfl 22 (.tmp 6) rfl w.heap.size rfl 22 .u8 16 key _ HK3.out Tryd.underlying22 size_bk ?_)
    have hop := open_of c' key HKB.out u A' (s ++ [UInt8.ofNat an]) _ w3 (HT.out.ext HX3.out) (by rw [HSS.out]; have := HNN.out; omega) (by rw [HSS.out]; exact HCC.out.1) HCC.out.2 HRR.out X q HOX.out HQX.out
    rw [HSS.out] at hop
    refine hop.mono ?_
    rintro e w4 ⟨A1, c1, rfl, hr4, _, _, hx4⟩
    have HX4 := Lib.hid (HX3.out.tr hx4)
    have HK4 := Lib.hid (HK3.out.ext hx4)
    have HR4' := Lib.hid (HRR.out.ext hx4)
    have HA4 := Lib.hid hr4
    clear hx4 hr4 hop
    go_wp2_with (refine wpList_load_arr rfl 22 (.tmp 6) rfl w.heap.size rfl 22 .u8 16 key _ HK4.out Tryd.underlying22 size_bk ?_)
    have hop := ropen_of c' key HKB.out u A' (s ++ [UInt8.ofNat an]) _ w4 (by rw [HSS.out]; have := HNN.out; omega) (by rw [HSS.out]; exact HCC.out.1) HR4'.out X q HOX.out HQX.out
    rw [HSS.out] at hop
    refine hop.mono ?_
    rintro e w5 ⟨A2, c2, rfl, hr5, hx5⟩
    have HX5 := Lib.hid (HX4.out.tr hx5)
    have HA5 := Lib.hid (HA4.out.ext hx5)
    have HB5 := Lib.hid hr5
    clear hx5 hr5 hop HK4 HR4' HA4 HX4
    go_wp2_with fail
    refine (same_self A1 A2 X c1 c2 _ _ w5 HA5.out HB5.out HXL.out).mono ?_
    rintro e w6 ⟨rfl, hx6⟩
    have HX6 := Lib.hid (HX5.out.tr hx6)
    clear hx6 HX5 HA5 HB5
    go_wp2_with fail
    go_ret
    exact ⟨rfl, HX6.out⟩
  by_cases hr3 : r = 3
  · have h5 : (kn : Int).tmod 5 = 3 := by rw [HRK.out, hr3]; rfl
    clear hr3
    have hm16 : (i : Int).tmod 16 = ((i % 16 : Nat) : Int) := tm_nat i 16
    have hcx := HK2.out.cell (i := i % 16) (Nat.mod_lt _ (by decide))
    have hfx := HK2.out.free (i % 16)
    have hlt : i % 16 < 16 := Nat.mod_lt _ (by decide)
    go_upto_region 15 with fail
    obtain ⟨kk, hkk⟩ : ∃ kk : Nat → Nat, kk = fun j => if j = i % 16 then (key j + 1) % 256 else key j := ⟨_, rfl⟩
    have hkset : Arr (w2.setCell ⟨w.heap.size, i % 16, none⟩ (.int .u8 (((key (i % 16) : Nat) + 1) % 256))) w.heap.size 22 .u8 16 kk := HK2.out.to hlt (by rw [hkk]; simp) (fun j _ hj => by rw [hkk]; simp [hj])
    have HKKB := Lib.hid (show Byt kk from fun j hj => by
      rw [hkk]
      show (if j = i % 16 then (key j + 1) % 256 else key j) < 256
      split
      · omega
      · exact HKB.out j hj)
    have hoset := HO2.out.far (grown_set (g := w.heap.size) ⟨w.heap.size, i % 16, none⟩ rfl (.int .u8 (((key (i % 16) : Nat) + 1) % 256))) HK2.out (by decide)
    have hxset : Ext w (w2.setCell ⟨w.heap.size, i % 16, none⟩ (.int .u8 (((key (i % 16) : Nat) + 1) % 256))) := ext_setCell HX2.out (Nat.le_refl _) _
    obtain ⟨w3, hw3⟩ : ∃ v, v = w2.setCell ⟨w.heap.size, i % 16, none⟩ (.int .u8 (((key (i % 16) : Nat) + 1) % 256)) := ⟨_, rfl⟩
    rw [← hw3] at hoset hxset hkset ⊢
    have HX3 := Lib.hid hxset
    have HK3 := Lib.hid hkset
    have HRR := Lib.hid hoset.rb
    have HSS := HSL
    have HCC := Lib.hid (show L ≤ c ∧ c ≤ 9223372036854775807 by have := HC.out; omega)
    have HNN := Lib.hid (show L ≤ 1000 by have := HL.out; omega)
    clear hkk hkset hoset hxset hw3 hm16 hcx hfx hlt
    obtain ⟨X, hX⟩ : ∃ X, X = oans (btl 16 kk) u s := ⟨_, rfl⟩
    have HOX := Lib.hid hX.symm
    have HXL := Lib.hid (show X.length ≤ 9223372036854775807 by rw [hX]; have h1 := oans_len (btl 16 kk) u s; rw [HSS.out] at h1; have := HNN.out; omega)
    obtain ⟨q, hq⟩ : ∃ q, q = (opn (btl 16 kk) u s).isSome := ⟨_, rfl⟩
    have HQX := Lib.hid hq.symm
    clear hX hq
    go_wp2_with (refine wpList_load_arr rfl 22 (.tmp 6) rfl w.heap.size rfl 22 .u8 16 kk _ HK3.out Tryd.underlying22 size_bk ?_)
    have hop := open_of c kk HKKB.out u (some ⟨g, 0, none⟩) s _ w3 (HT.out.ext HX3.out) (by rw [HSS.out]; have := HNN.out; omega) (by rw [HSS.out]; exact HCC.out.1) HCC.out.2 HRR.out X q HOX.out HQX.out
    rw [HSS.out] at hop
    refine hop.mono ?_
    rintro e w4 ⟨A1, c1, rfl, hr4, _, _, hx4⟩
    have HX4 := Lib.hid (HX3.out.tr hx4)
    have HK4 := Lib.hid (HK3.out.ext hx4)
    have HR4' := Lib.hid (HRR.out.ext hx4)
    have HA4 := Lib.hid hr4
    clear hx4 hr4 hop
    go_wp2_with (refine wpList_load_arr rfl 22 (.tmp 6) rfl w.heap.size rfl 22 .u8 16 kk _ HK4.out Tryd.underlying22 size_bk ?_)
    have hop := ropen_of c kk HKKB.out u (some ⟨g, 0, none⟩) s _ w4 (by rw [HSS.out]; have := HNN.out; omega) (by rw [HSS.out]; exact HCC.out.1) HR4'.out X q HOX.out HQX.out
    rw [HSS.out] at hop
    refine hop.mono ?_
    rintro e w5 ⟨A2, c2, rfl, hr5, hx5⟩
    have HX5 := Lib.hid (HX4.out.tr hx5)
    have HA5 := Lib.hid (HA4.out.ext hx5)
    have HB5 := Lib.hid hr5
    clear hx5 hr5 hop HK4 HR4' HA4 HX4
    go_wp2_with fail
    refine (same_self A1 A2 X c1 c2 _ _ w5 HA5.out HB5.out HXL.out).mono ?_
    rintro e w6 ⟨rfl, hx6⟩
    have HX6 := Lib.hid (HX5.out.tr hx6)
    clear hx6 HX5 HA5 HB5
    go_wp2_with fail
    go_ret
    exact ⟨rfl, HX6.out⟩
  by_cases hr4 : r = 4
  · have h5 : (kn : Int).tmod 5 = 4 := by rw [HRK.out, hr4]; rfl
    clear hr4
    go_upto_region 15 with fail
    rw [show ((u.toNat : Int) + 1) % 256 = ((u + 1).toNat : Int) by rw [UInt8.toNat_add]; rfl]
    obtain ⟨uu, huu⟩ : ∃ v, v = u + 1 := ⟨_, rfl⟩
    rw [← huu]
    have HX3 := HX2
    have HK3 := HK2
    have HRR := Lib.hid HO2.out.rb
    have HSS := HSL
    have HCC := Lib.hid (show L ≤ c ∧ c ≤ 9223372036854775807 by have := HC.out; omega)
    have HNN := Lib.hid (show L ≤ 1000 by have := HL.out; omega)
    clear huu
    obtain ⟨X, hX⟩ : ∃ X, X = oans (btl 16 key) uu s := ⟨_, rfl⟩
    have HOX := Lib.hid hX.symm
    have HXL := Lib.hid (show X.length ≤ 9223372036854775807 by rw [hX]; have h1 := oans_len (btl 16 key) uu s; rw [HSS.out] at h1; have := HNN.out; omega)
    obtain ⟨q, hq⟩ : ∃ q, q = (opn (btl 16 key) uu s).isSome := ⟨_, rfl⟩
    have HQX := Lib.hid hq.symm
    clear hX hq
    go_wp2_with (refine wpList_load_arr rfl 22 (.tmp 6) rfl w.heap.size rfl 22 .u8 16 key _ HK3.out Tryd.underlying22 size_bk ?_)
    have hop := open_of c key HKB.out uu (some ⟨g, 0, none⟩) s _ w2 (HT.out.ext HX3.out) (by rw [HSS.out]; have := HNN.out; omega) (by rw [HSS.out]; exact HCC.out.1) HCC.out.2 HRR.out X q HOX.out HQX.out
    rw [HSS.out] at hop
    refine hop.mono ?_
    rintro e w4 ⟨A1, c1, rfl, hr4, _, _, hx4⟩
    have HX4 := Lib.hid (HX3.out.tr hx4)
    have HK4 := Lib.hid (HK3.out.ext hx4)
    have HR4' := Lib.hid (HRR.out.ext hx4)
    have HA4 := Lib.hid hr4
    clear hx4 hr4 hop
    go_wp2_with (refine wpList_load_arr rfl 22 (.tmp 6) rfl w.heap.size rfl 22 .u8 16 key _ HK4.out Tryd.underlying22 size_bk ?_)
    have hop := ropen_of c key HKB.out uu (some ⟨g, 0, none⟩) s _ w4 (by rw [HSS.out]; have := HNN.out; omega) (by rw [HSS.out]; exact HCC.out.1) HR4'.out X q HOX.out HQX.out
    rw [HSS.out] at hop
    refine hop.mono ?_
    rintro e w5 ⟨A2, c2, rfl, hr5, hx5⟩
    have HX5 := Lib.hid (HX4.out.tr hx5)
    have HA5 := Lib.hid (HA4.out.ext hx5)
    have HB5 := Lib.hid hr5
    clear hx5 hr5 hop HK4 HR4' HA4 HX4
    go_wp2_with fail
    refine (same_self A1 A2 X c1 c2 _ _ w5 HA5.out HB5.out HXL.out).mono ?_
    rintro e w6 ⟨rfl, hx6⟩
    have HX6 := Lib.hid (HX5.out.tr hx6)
    clear hx6 HX5 HA5 HB5
    go_wp2_with fail
    go_ret
    exact ⟨rfl, HX6.out⟩
  exact absurd HR4.out (by omega)
end Go.Proofs.YtdaahkijmleioaaDoor
