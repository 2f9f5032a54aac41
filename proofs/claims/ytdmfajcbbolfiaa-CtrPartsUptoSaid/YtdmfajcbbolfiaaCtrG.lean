/-
  Package tollref08 (the reference): Block, Stream, Crypt.
-/
import Derived.Test.YtdmfajcbbolfiaaCtrF
import Derived.Test.YtdmfajcbbolfiaaRefE
namespace Go.Proofs.Ytdmfajcbbolfiaa
open Go.RowKit
set_option linter.unusedVariables false
set_option linter.unusedSimpArgs false

/-- the block with k bytes of the nonce and of the number -/
def cinq (nonce : Nat → Nat) (i k : Nat) : Bk := fun j => if j < 8 then (if j < k then nonce j else 0) else if 15 - j < k then i / 256 ^ (15 - j) % 256 else 0
/-- the same with one byte of the nonce more -/
def cinr (nonce : Nat → Nat) (i k : Nat) : Bk := fun j => if j < 8 then (if j < k + 1 then nonce j else 0) else if 15 - j < k then i / 256 ^ (15 - j) % 256 else 0
theorem cinq_zero (nonce : Nat → Nat) (i : Nat) : ∀ j, j < 16 → 0 = cinq nonce i 0 j := fun j _ => by
  unfold cinq
  split
  · rw [if_neg (by omega)]
  · rw [if_neg (by omega)]
theorem cinq_all (nonce : Nat → Nat) (i : Nat) : ∀ j, j < 16 → cinq nonce i 8 j = cin nonce i j := fun j hj => by
  unfold cinq cin
  by_cases h : j < 8
  · rw [if_pos h, if_pos h, if_pos h]
  · rw [if_neg h, if_neg h, if_pos (by omega)]
theorem cinr_at (nonce : Nat → Nat) (i : Nat) {k : Nat} (hk : k < 8) : (nonce k : Int) = ((cinr nonce i k k : Nat) : Int) := by unfold cinr; rw [if_pos hk, if_pos (by omega)]
theorem cinr_other (nonce : Nat → Nat) (i : Nat) {k : Nat} {j : Nat} (hne : j ≠ k) : cinq nonce i k j = cinr nonce i k j := by
  unfold cinq cinr
  split
  · by_cases h : j < k
    · rw [if_pos h, if_pos (by omega)]
    · rw [if_neg h, if_neg (by omega)]
  · rfl
theorem cinq_at (nonce : Nat → Nat) (i : Nat) {k : Nat} (hk : k < 8) : ((i / 256 ^ k : Nat) : Int) % 256 = ((cinq nonce i (k + 1) (15 - k) : Nat) : Int) := by
  unfold cinq
  rw [if_neg (by omega), if_pos (by omega), show 15 - (15 - k) = k by omega, Int.natCast_emod]
  rfl
theorem cinq_other (nonce : Nat → Nat) (i : Nat) {k : Nat} (hk : k < 8) {j : Nat} (hj : j < 16) (hne : j ≠ 15 - k) : cinr nonce i k j = cinq nonce i (k + 1) j := by
  unfold cinq cinr
  split
  · rfl
  · by_cases h : 15 - j < k
    · rw [if_pos h, if_pos (by omega)]
    · rw [if_neg h, if_neg (by omega)]

set_option maxRecDepth 100000 in
set_option maxHeartbeats 2000000 in
theorem rblock_c (key nonce : Nat → Nat) (i : Nat) (hk : Byt key) (hn : Byt8 nonce) (hi : i < 18446744073709551616) (w : World) :
    Calls Try.prog 19 #[.agg (tabV .u8 16 key), .agg (tabV .u8 8 nonce), .int .u64 (i : Nat), .agg (tabV .u8 256 sb)] w fun e w' => e = .returned (.agg (tabV .u8 16 (cblk key nonce i))) ∧ Ext w w' := by
  have HK := Lib.hid hk
  have HN := Lib.hid hn
  obtain ⟨h0, h1, h2, h3, h4⟩ := new5 w (.cells (tabV .u8 16 key) 22) (.cells (tabV .u8 8 nonce) 23) (.cells (tabV .u8 256 sb) 42) (.cells (tabV .u8 16 (fun _ => 0)) 22) (.cells (tabV .u8 16 (fun _ => 0)) 22)
  have HX := Lib.hid (((((Ext.alloc w (.cells (tabV .u8 16 key) 22)).tr (Ext.alloc _ (.cells (tabV .u8 8 nonce) 23))).tr (Ext.alloc _ (.cells (tabV .u8 256 sb) 42))).tr (Ext.alloc _ (.cells (tabV .u8 16 (fun _ => 0)) 22))).tr (Ext.alloc _ (.cells (tabV .u8 16 (fun _ => 0)) 22)))
  have H0 := Lib.hid (show Arr _ w.heap.size 22 .u8 16 key from h0)
  have H1 := Lib.hid (show Arr _ (w.heap.size + 1) 23 .u8 8 nonce from h1)
  have H2 := Lib.hid (show Arr _ (w.heap.size + 1 + 1) 42 .u8 256 sb from h2)
  have H3 := Lib.hid (show Arr _ (w.heap.size + 1 + 1 + 1) 22 .u8 16 (fun _ => 0) from h3)
  have H4 := Lib.hid (show Arr _ (w.heap.size + 1 + 1 + 1 + 1) 22 .u8 16 (fun _ => 0) from h4)
  clear hk hn h0 h1 h2 h3 h4
  go_enter Try.func19, Try.ntmps19
  go_wp2_with fail
  go_loopw [2, 10] (fun x v wr => ∃ k : Nat, k ≤ 8 ∧ v = .int .i64 k ∧ x = .int .u64 (i / 256 ^ k : Nat) ∧ Arr wr (w.heap.size + 1 + 1 + 1 + 1) 22 .u8 16 (cinq nonce i k) ∧ Arr wr w.heap.size 22 .u8 16 key ∧ Arr wr (w.heap.size + 1) 23 .u8 8 nonce ∧
    Arr wr (w.heap.size + 1 + 1) 42 .u8 256 sb ∧ Arr wr (w.heap.size + 1 + 1 + 1) 22 .u8 16 (fun _ => 0) ∧ Ext w wr) (fun _ v _ => 8 - (intOf v).toNat)
  case atStart => exact ⟨0, by omega, rfl, by simp, H4.out.congr (cinq_zero nonce i), H0.out, H1.out, H2.out, H3.out, HX.out⟩
  case round =>
    obtain ⟨k, hk, rfl, rfl, hA, hKy, hNo, hBx, hR, hx⟩ := hrel
    by_cases hlt : k < 8
    · have i1 : (k : Int) < 8 := by omega
      have q1 : IntKind.i64.wrap (15 - (k : Int)) = ((15 - k : Nat) : Int) := by rw [IntWalk.i64_in _ (by omega)]; omega
      have i2 : ((15 - k : Nat) : Int) < 16 := by omega
      have i3 : (k : Int) < 16 := by omega
      have hcn := hNo.cell (i := k) hlt
      have hck := hA.cell (i := k) (by omega)
      have hfk := hA.free k
      have hA2 := hA.to (i := k) (by omega) (cinr_at nonce i hlt) (fun j _ hne => cinr_other nonce i hne)
      have hcj := hA2.cell (i := 15 - k) (by omega)
      have hfj := hA2.free (15 - k)
      obtain ⟨y, hy⟩ : ∃ y, y = i / 256 ^ k := ⟨_, rfl⟩
      have hyb : ((y : Nat) : Int) % 256 = ((cinq nonce i (k + 1) (15 - k) : Nat) : Int) := by rw [hy]; exact cinq_at nonce i hlt
      have hyn : y / 256 = i / 256 ^ (k + 1) := by rw [hy, Nat.div_div_eq_div_mul, Nat.pow_succ]
      rw [← hy]
      have HYB := Lib.hid hyb
      have HYN := Lib.hid hyn
      have HYD := Lib.hid hy
      have HA := Lib.hid (hA2.to (i := 15 - k) (by omega) hyb (fun j hj hne => cinq_other nonce i hlt hj hne))
      have HKY := Lib.hid hKy
      have HNO := Lib.hid hNo
      have HBX := Lib.hid hBx
      have HR := Lib.hid hR
      have HXX := Lib.hid hx
      clear hA hA2 hKy hNo hBx hR hx hyb hyn hy
      have hyl : y < 18446744073709551616 := by rw [HYD.out]; exact Nat.lt_of_le_of_lt (Nat.div_le_self _ _) hi
      have q4 : IntKind.u64.wrap ((y : Int) / 256) = ((y / 256 : Nat) : Int) := by rw [IntKind.wrap_u64]; omega
      go_wp2_with fail
      refine ⟨⟨k + 1, by omega, by go_num, by rw [← HYN.out]; congr 1, HA.out, (HKY.out.other (by omega) _ _).other (by omega) _ _, (HNO.out.other (by omega) _ _).other (by omega) _ _, (HBX.out.other (by omega) _ _).other (by omega) _ _, (HR.out.other (by omega) _ _).other (by omega) _ _, ext_setCell (ext_setCell HXX.out (by simp; omega) _) (by simp; omega) _⟩, ?_⟩
      simp only [intOf]
      omega
    · have e8 : k = 8 := by omega
      subst e8
      have HA := Lib.hid (hA.congr (f' := cin nonce i) (cinq_all nonce i))
      have HKY := Lib.hid hKy
      have HBX := Lib.hid hBx
      have HR := Lib.hid hR
      have HXX := Lib.hid hx
      clear hA hKy hNo hBx hR hx
      go_wp2_with (first
        | refine wpList_load_arr rfl 22 (.tmp 4) rfl w.heap.size rfl 22 .u8 16 key _ HKY.out Try.underlying22 size_bk ?_
        | refine wpList_load_arr rfl 22 (.tmp 9) rfl (w.heap.size + 1 + 1 + 1 + 1) rfl 22 .u8 16 (cin nonce i) _ HA.out Try.underlying22 size_bk ?_
        | refine wpList_load_arr rfl 42 (.tmp 7) rfl (w.heap.size + 1 + 1) rfl 42 .u8 256 sb _ HBX.out Try.underlying42 size_box ?_)
      refine (rencrypt_c key (cin nonce i) HK.out (cin_byt HN.out i) _).mono ?_
      rintro e w4 ⟨rfl, hx4⟩
      have HR4 := Lib.hid (HR.out.ext hx4)
      have HX4 := Lib.hid (HXX.out.tr hx4)
      clear hx4
      go_wp2_with (refine wpList_store_arr' rfl rfl 22 (.tmp 8) (.tmp 31) rfl (w.heap.size + 1 + 1 + 1) .u8 16 (enc key (cin nonce i)) rfl rfl 22 _ HR4.out size_bk tabV_size ?_; intro w5 hA5 hG5)
      refine bodyPost_ret (v := .agg (tabV .u8 16 (enc key (cin nonce i)))) ?_ rfl ⟨rfl, grown_new HX4.out hG5 (fun g hg => by simp at hg; omega)⟩
      exact results_cell_row rfl _ _ _ _ _ _ _ rfl hA5 Try.underlying22 rfl (by rw [tabV_size]; exact size_bk)

theorem OwnB.keepG {w w' : World} {E : TypeId} {base c g n : Nat} {A : Option Addr} {l : List UInt8} {k : IntKind} {t : TypeId} {f : Nat → Nat} (h : OwnB w E base A c l) (hb : w.grownBy w' (some g)) (hg : Arr w g t k n f) (hne : t ≠ E) : OwnB w' E base A c l := h.far hb hg hne
theorem rblock_d (key nonce : Nat → Nat) (nx : Nat) (hk : Byt key) (hn : Byt8 nonce) (h : nx < 4611686018427387904) (w : World) :
    Calls Try.prog 19 #[.agg (tabV .u8 16 key), .agg (tabV .u8 8 nonce), .int .u64 ((nx : Int) / 16), .agg (tabV .u8 256 sb)] w fun e w' => e = .returned (.agg (tabV .u8 16 (cblk key nonce (nx / 16)))) ∧ Ext w w' := by
  have := rblock_c key nonce (nx / 16) hk hn (by omega) w
  rwa [show ((nx / 16 : Nat) : Int) = (nx : Int) / 16 by omega] at this
set_option maxRecDepth 100000 in
set_option maxHeartbeats 4000000 in
theorem rstream_none (key nonce : Nat → Nat) (at_ n : Int) (h : at_ < 0 ∨ 1099511627776 < at_ ∨ n < 0 ∨ 1048576 < n) (w : World) :
    Calls Try.prog 11 #[.agg (tabV .u8 16 key), .agg (tabV .u8 8 nonce), .int .i64 at_, .int .i64 n] w fun e w' => e = .returned (.slice none 0 0) ∧ Ext w w' := by
  have zb := zero_box
  have HX := Lib.hid ((Ext.alloc w (.cells (tabV .u8 16 key) 22)).tr (Ext.alloc _ (.cells (tabV .u8 8 nonce) 23)))
  by_cases t1 : at_ < 0
  rotate_left
  by_cases t2 : 1099511627776 < at_
  rotate_left
  by_cases t3 : n < 0
  rotate_left
  have t4 : 1048576 < n := by rcases h with h | h | h | h <;> first | exact absurd h t1 | exact absurd h t2 | exact absurd h t3 | exact h
  all_goals
    clear h
    go_enter Try.func11, Try.ntmps11
    go_wp2_with fail
    refine (box_c _).mono ?_
    rintro e w2 ⟨rfl, hx2⟩
    have HX2 := Lib.hid (HX.out.tr hx2)
    clear hx2
    go_wp2_with (refine wpList_store_arr' rfl rfl 42 (.tmp 10) (.tmp 13) rfl w2.heap.size .u8 256 sb rfl rfl 42 _ (Arr.new w2 42 .u8 256 (fun _ => 0)) size_box tabV_size ?_; intro w3 hA3 hG3; have HX3 := Lib.hid (HX2.out.tr (grown_new (Ext.alloc _ _) hG3 (fun g hg => by simp at hg; omega))); clear hA3 hG3)
    go_ret
    exact ⟨rfl, HX3.out⟩

set_option maxRecDepth 100000 in
set_option maxHeartbeats 4000000 in
theorem rstream_c (key nonce : Nat → Nat) (hk : Byt key) (hn : Byt8 nonce) (at_ n : Nat) (ha : at_ ≤ 1099511627776) (hm : n ≤ 1048576) (w : World) :
    Calls Try.prog 11 #[.agg (tabV .u8 16 key), .agg (tabV .u8 8 nonce), .int .i64 (at_ : Nat), .int .i64 (n : Nat)] w fun e w' =>
      ∃ A c, e = .returned (.slice A n c) ∧ OwnB w' 5 w.heap.size A c (strm key nonce at_ n) ∧ Ext w w' := by
  have zb := zero_box
  obtain ⟨i0, hi0, hz0, hz1, hz2⟩ := info_parts info_u8
  have t1 : ¬ (at_ : Int) < 0 := by omega
  have t2 : ¬ (1099511627776 : Int) < (at_ : Int) := by omega
  have t3 : ¬ (n : Int) < 0 := by omega
  have t4 : ¬ (1048576 : Int) < (n : Int) := by omega
  obtain ⟨h0, h1⟩ := two_new w (.cells (tabV .u8 16 key) 22) (.cells (tabV .u8 8 nonce) 23)
  have HX := Lib.hid ((Ext.alloc w (.cells (tabV .u8 16 key) 22)).tr (Ext.alloc _ (.cells (tabV .u8 8 nonce) 23)))
  have H0 := Lib.hid (show Arr _ w.heap.size 22 .u8 16 key from h0)
  have H1 := Lib.hid (show Arr _ (w.heap.size + 1) 23 .u8 8 nonce from h1)
  clear h0 h1
  go_enter Try.func11, Try.ntmps11
  go_wp2_with fail
  refine (box_c _).mono ?_
  rintro e w2 ⟨rfl, hx2⟩
  have HX2 := Lib.hid (HX.out.tr hx2)
  have HK2 := Lib.hid (H0.out.ext hx2)
  have HN2 := Lib.hid (H1.out.ext hx2)
  clear hx2 HX H0 H1
  go_wp2_with (first
    | (refine wpList_store_arr' rfl rfl 42 (.tmp 10) (.tmp 13) rfl w2.heap.size .u8 256 sb rfl rfl 42 _ (Arr.new w2 42 .u8 256 (fun _ => 0)) size_box tabV_size ?_
       intro w3 hA3 hG3
       have hx3 : Ext w2 w3 := grown_new (Ext.alloc _ _) hG3 (fun g hg => by simp at hg; omega)
       have HB3 := Lib.hid hA3
       have HX3 := Lib.hid (HX2.out.tr hx3)
       have HK3 := Lib.hid (HK2.out.ext hx3)
       have HN3 := Lib.hid (HN2.out.ext hx3)
       clear hA3 hG3 hx3)
    | refine wpList_load_arr rfl 22 (.tmp 4) rfl w.heap.size rfl 22 .u8 16 key _ HK3.out Try.underlying22 size_bk ?_
    | refine wpList_load_arr rfl 23 (.tmp 5) rfl (w.heap.size + 1) rfl 23 .u8 8 nonce _ HN3.out Try.underlying23 size_nc ?_
    | refine wpList_load_arr rfl 42 (.tmp 10) rfl w2.heap.size rfl 42 .u8 256 sb _ HB3.out Try.underlying42 size_box ?_)
  refine (rblock_d key nonce at_ hk hn (by omega) _).mono ?_
  rintro e w4 ⟨rfl, hx4⟩
  obtain ⟨gb, hgb⟩ : ∃ gb, gb = w2.heap.size := ⟨_, rfl⟩
  rw [← hgb] at HB3 ⊢
  have HX4 := Lib.hid (HX3.out.tr hx4)
  have HB4 := Lib.hid (HB3.out.ext hx4)
  have HK4 := Lib.hid (HK3.out.ext hx4)
  have HN4 := Lib.hid (HN3.out.ext hx4)
  clear hx4 hgb HX3 HB3 HK3 HN3 HX2 HK2 HN2
  have HNW := Lib.hid (Arr.new w4 22 .u8 16 (fun _ => 0))
  go_wp2_with (refine wpList_store_arr' rfl rfl 22 (.tmp 11) (.tmp 34) rfl w4.heap.size .u8 16 (cblk key nonce (at_ / 16)) rfl rfl 22 _ HNW.out size_bk tabV_size ?_
               intro w5 hA5 hG5
               have hx5 : Ext w4 w5 := grown_new (Ext.alloc _ _) hG5 (fun g hg => by simp at hg; omega)
               have HA5 := Lib.hid hA5
               have HX5 := Lib.hid (HX4.out.tr hx5)
               have HB5 := Lib.hid (HB4.out.ext hx5)
               have HK5 := Lib.hid (HK4.out.ext hx5)
               have HN5 := Lib.hid (HN4.out.ext hx5)
               clear hA5 hG5 hx5)
  obtain ⟨g4, hg4⟩ : ∃ g4, g4 = w4.heap.size := ⟨_, rfl⟩
  have hge4 : w.heap.size ≤ g4 := by rw [hg4]; exact HX4.out.size
  have hne4 : g4 ≠ gb ∧ g4 ≠ w.heap.size ∧ g4 ≠ w.heap.size + 1 := by
    have h1 := HB4.out.lt
    have h2 := HK4.out.lt
    have h3 := HN4.out.lt
    omega
  rw [← hg4] at HA5 ⊢
  clear HX4 HB4 HK4 HN4 HNW hg4
  go_loopw [9, 12] (fun o v wr => ∃ (i k q : Nat) (B : Option Addr) (d : Nat), k ≤ n ∧ i = at_ + k ∧ v = .int .i64 i ∧ o = .slice B k d ∧ OwnB wr 5 w.heap.size B d (strm key nonce at_ k) ∧ Arr wr g4 22 .u8 16 (cblk key nonce q) ∧ (i % 16 = 0 ∨ q = i / 16) ∧
    Arr wr gb 42 .u8 256 sb ∧ Arr wr w.heap.size 22 .u8 16 key ∧ Arr wr (w.heap.size + 1) 23 .u8 8 nonce ∧ Ext w wr) (fun _ v _ => at_ + n - (intOf v).toNat)
  case atStart => exact ⟨at_, 0, at_ / 16, none, 0, Nat.zero_le _, rfl, rfl, rfl, OwnB.nil _ _ _, HA5.out, .inr rfl, HB5.out, HK5.out, HN5.out, HX5.out⟩
  case round =>
    obtain ⟨i, k, q, B, d, hkn, hi, rfl, rfl, hO, hA, hq, hB, hKy, hNo, hx⟩ := hrel
    clear HA5 HB5 HK5 HN5 HX5
    have q1 : IntKind.i64.wrap ((at_ : Int) + (n : Int)) = (at_ : Int) + (n : Int) := IntWalk.i64_in _ (by omega)
    by_cases hlt : k < n
    · have i1 : (i : Int) < (at_ : Int) + (n : Int) := by omega
      obtain ⟨r, hr⟩ : ∃ r, r = i % 16 := ⟨_, rfl⟩
      have er : (i : Int) % 16 = (r : Int) := by omega
      have er16 : (r : Int) < 16 := by omega
      obtain ⟨y, hy⟩ : ∃ y, y = cblk key nonce (i / 16) r := ⟨_, rfl⟩
      obtain ⟨b, hb⟩ : ∃ b : UInt8, b = UInt8.ofNat y := ⟨_, rfl⟩
      have hstep : strm key nonce at_ (k + 1) = strm key nonce at_ k ++ [b] := by rw [strm_succ, ← hi, hb, hy, hr]; rfl
      have qw : IntKind.i64.wrap ((i : Int) + 1) = (i : Int) + 1 := IntWalk.i64_in _ (by omega)
      have hbb : ((y : Nat) : Int) = (b.toNat : Int) := by
        rw [hb, UInt8.toNat_ofNat', Nat.mod_eq_of_lt (by rw [hy]; exact cblk_byt hk hn _ r (by omega))]
      have hil : i < 2199023255552 := by omega
      have HI := Lib.hid hi
      have HST := Lib.hid hstep
      have HBB := Lib.hid hbb
      have HR := Lib.hid hr
      have HY := Lib.hid hy
      clear hi hstep hbb hr hb hy
      by_cases hm0 : i % 16 = 0
      · have em : (i : Int) % 16 = 0 := by omega
        have r0 : r = 0 := by have := HR.out; omega
        subst r0
        clear er er16
        have HO := Lib.hid hO
        have HA := Lib.hid hA
        have HB := Lib.hid hB
        have HKY := Lib.hid hKy
        have HNO := Lib.hid hNo
        have HX := Lib.hid hx
        clear hO hA hB hKy hNo hx
        go_wp2_with (first
          | refine wpList_load_arr rfl 22 (.tmp 4) rfl w.heap.size rfl 22 .u8 16 key _ HKY.out Try.underlying22 size_bk ?_
          | refine wpList_load_arr rfl 23 (.tmp 5) rfl (w.heap.size + 1) rfl 23 .u8 8 nonce _ HNO.out Try.underlying23 size_nc ?_
          | refine wpList_load_arr rfl 42 (.tmp 10) rfl gb rfl 42 .u8 256 sb _ HB.out Try.underlying42 size_box ?_)
        refine (rblock_d key nonce i hk hn (by omega) _).mono ?_
        rintro e w4 ⟨rfl, hx4⟩
        have HO4 := Lib.hid (HO.out.ext hx4)
        have HA4 := Lib.hid (HA.out.ext hx4)
        have HB4 := Lib.hid (HB.out.ext hx4)
        have HKY4 := Lib.hid (HKY.out.ext hx4)
        have HNO4 := Lib.hid (HNO.out.ext hx4)
        have HX4 := Lib.hid (HX.out.tr hx4)
        clear hx4 HO HA HB HKY HNO HX
        go_wp2_with (first
          | (refine wpList_store_arr' rfl rfl 22 (.tmp 11) (.tmp 52) rfl g4 .u8 16 (cblk key nonce (i / 16)) rfl rfl 22 _ HA4.out size_bk tabV_size ?_
             intro w6 hA6 hG6
             have HA6 := Lib.hid hA6
             have hx6 : Ext w w6 := grown_new HX4.out hG6 (fun g hg => by simp at hg; omega)
             have ho6 := HO4.out.keepG hG6 HA4.out (by decide)
             have HB6 := Lib.hid (show Arr w6 gb 42 .u8 256 sb from grown_get hG6 HB4.out (by simp; omega))
             have HKY6 := Lib.hid (show Arr w6 w.heap.size 22 .u8 16 key from grown_get hG6 HKY4.out (by simp; omega))
             have HNO6 := Lib.hid (show Arr w6 (w.heap.size + 1) 23 .u8 8 nonce from grown_get hG6 HNO4.out (by simp; omega))
             have HOL := Lib.hid (ho6.ext (Ext.alloc w6 (.cells #[.int .u8 (y : Nat)] 5)))
             have HXX := Lib.hid hx6
             have HLT := Lib.hid (RB.lit w6 [b] #[.int .u8 (y : Nat)] 5 (by rw [HBB.out]; rfl))
             have HAP := Lib.hid (fun (g : Nat) (cs : Array Value) (t : TypeId) (hh : w6.heap[g]? = some (.cells cs t (0, 0))) (hne : t ≠ 5) => OwnB.apart ho6 hh hne)
             have HGE := Lib.hid (OwnB.ge ho6)
             have HL1 := Lib.hid (show (strm key nonce at_ k).length + ([b] : List UInt8).length ≤ 140737488355328 by rw [strm_len, List.length_singleton]; omega)
             have HL2 := Lib.hid (show w.heap.size ≤ (w6.alloc (.cells #[.int .u8 (y : Nat)] 5)).heap.size from Nat.le_trans HXX.out.size (Ext.alloc _ _).size)
             have hcc := hA6.cell (i := 0) (by omega)
             rw [← HY.out] at hcc
             clear hA6 hG6 ho6 hx6)
          | (at_builtin
             refine wpList_append_bytes _ rfl (.tmp 53) (.tmp 58) 27 rfl w.heap.size 5 i0 Try.underlying27 hi0 hz0 hz1 hz2 B d (strm key nonce at_ k) (by rw [strm_len]; rfl) HOL.out _ (some ⟨w6.heap.size, 0, none⟩) 1 [b] rfl HLT.out HL1.out HL2.out ?_
             intro A' c' w7 ho7 hg7 hb7
             have HO7 := Lib.hid ho7
             have HG7 := Lib.hid hg7
             clear ho7 hg7 hb7))
        have hg6 := grown_tr ((Ext.alloc w6 (.cells #[.int .u8 (y : Nat)] 5)).grown _) HG7.out
        have hap := HAP.out
        rw [strm_len] at hg6 hap
        refine ⟨⟨i + 1, k + 1, i / 16, A', c', by omega, by rw [HI.out, Nat.add_assoc], by go_num, by rw [strm_len], by rw [HST.out]; exact HO7.out, grown_get hg6 HA6.out (hap _ _ _ HA6.out (by decide)), ?_, grown_get hg6 HB6.out (hap _ _ _ HB6.out (by decide)), grown_get hg6 HKY6.out (hap _ _ _ HKY6.out (by decide)), grown_get hg6 HNO6.out (hap _ _ _ HNO6.out (by decide)), grown_new HXX.out hg6 (by have := HGE.out; rw [strm_len] at this; exact this)⟩, ?_⟩
        · by_cases h15 : (i + 1) % 16 = 0
          · exact .inl h15
          · exact .inr (by omega)
        · simp only [intOf]
          have := HI.out
          omega
      · have em : ¬ (r : Int) = 0 := by have := HR.out; omega
        have hqe : q = i / 16 := hq.resolve_left hm0
        subst hqe
        have HO6' := Lib.hid hO
        have HA6 := Lib.hid hA
        have HB6 := Lib.hid hB
        have HKY6 := Lib.hid hKy
        have HNO6 := Lib.hid hNo
        have HQ := Lib.hid hm0
        clear hm0
        have HOL := Lib.hid (hO.ext (Ext.alloc wr (.cells #[.int .u8 (y : Nat)] 5)))
        have HXX := Lib.hid hx
        have HLT := Lib.hid (RB.lit wr [b] #[.int .u8 (y : Nat)] 5 (by rw [HBB.out]; rfl))
        have HAP := Lib.hid (fun (g : Nat) (cs : Array Value) (t : TypeId) (hh : wr.heap[g]? = some (.cells cs t (0, 0))) (hne : t ≠ 5) => OwnB.apart hO hh hne)
        have HGE := Lib.hid (OwnB.ge hO)
        have HL1 := Lib.hid (show (strm key nonce at_ k).length + ([b] : List UInt8).length ≤ 140737488355328 by rw [strm_len, List.length_singleton]; omega)
        have HL2 := Lib.hid (show w.heap.size ≤ (wr.alloc (.cells #[.int .u8 (y : Nat)] 5)).heap.size from Nat.le_trans HXX.out.size (Ext.alloc _ _).size)
        have hcc := hA.cell (i := r) (by have := HR.out; omega)
        rw [← HY.out] at hcc
        clear hO hA hB hKy hNo hx hq
        go_wp2_with (at_builtin
                     refine wpList_append_bytes _ rfl (.tmp 53) (.tmp 58) 27 rfl w.heap.size 5 i0 Try.underlying27 hi0 hz0 hz1 hz2 B d (strm key nonce at_ k) (by rw [strm_len]; rfl) HOL.out _ (some ⟨wr.heap.size, 0, none⟩) 1 [b] rfl HLT.out HL1.out HL2.out ?_
                     intro A' c' w7 ho7 hg7 hb7
                     have HO7 := Lib.hid ho7
                     have HG7 := Lib.hid hg7
                     clear ho7 hg7 hb7)
        have hg6 := grown_tr ((Ext.alloc wr (.cells #[.int .u8 (y : Nat)] 5)).grown _) HG7.out
        have hap := HAP.out
        rw [strm_len] at hg6 hap
        refine ⟨⟨i + 1, k + 1, i / 16, A', c', by omega, by rw [HI.out, Nat.add_assoc], by go_num, by rw [strm_len], by rw [HST.out]; exact HO7.out, grown_get hg6 HA6.out (hap _ _ _ HA6.out (by decide)), ?_, grown_get hg6 HB6.out (hap _ _ _ HB6.out (by decide)), grown_get hg6 HKY6.out (hap _ _ _ HKY6.out (by decide)), grown_get hg6 HNO6.out (hap _ _ _ HNO6.out (by decide)), grown_new HXX.out hg6 (by have := HGE.out; rw [strm_len] at this; exact this)⟩, ?_⟩
        · by_cases h15 : (i + 1) % 16 = 0
          · exact .inl h15
          · exact .inr (by omega)
        · simp only [intOf]
          have := HI.out
          omega
    · have e : k = n := by omega
      subst e
      have i1 : ¬ (i : Int) < (at_ : Int) + (k : Int) := by omega
      have HO := Lib.hid hO
      have HX := Lib.hid hx
      clear hO hA hq hB hKy hNo hx hi
      go_wp2_with fail
      go_ret
      exact ⟨B, d, rfl, HO.out, HX.out⟩

set_option maxRecDepth 100000 in
set_option maxHeartbeats 4000000 in
theorem rcrypt_c (d : Nat) (key nonce : Nat → Nat) (hk : Byt key) (hn : Byt8 nonce) (B : Option Addr) (b : List UInt8) (S : Nat → TypeId → Prop) (w : World) (hb : b.length ≤ 1048576) (hr : RB w S B b) :
    Calls Try.prog 13 #[.agg (tabV .u8 16 key), .agg (tabV .u8 8 nonce), .slice B b.length d] w fun e w' =>
      ∃ A c, e = .returned (.slice A b.length c) ∧ OwnB w' 5 w.heap.size A c (xl (strm key nonce 0 b.length) b) ∧ Ext w w' := by
  obtain ⟨h0, h1⟩ := two_new w (.cells (tabV .u8 16 key) 22) (.cells (tabV .u8 8 nonce) 23)
  have HX := Lib.hid ((Ext.alloc w (.cells (tabV .u8 16 key) 22)).tr (Ext.alloc _ (.cells (tabV .u8 8 nonce) 23)))
  have H0 := Lib.hid (show Arr _ w.heap.size 22 .u8 16 key from h0)
  have H1 := Lib.hid (show Arr _ (w.heap.size + 1) 23 .u8 8 nonce from h1)
  have HR := Lib.hid (hr.inside)
  clear h0 h1 hr
  go_enter Try.func13, Try.ntmps13
  go_wp2_with (first
    | refine wpList_load_arr rfl 22 (.tmp 3) rfl w.heap.size rfl 22 .u8 16 key _ H0.out Try.underlying22 size_bk ?_
    | refine wpList_load_arr rfl 23 (.tmp 4) rfl (w.heap.size + 1) rfl 23 .u8 8 nonce _ H1.out Try.underlying23 size_nc ?_)
  obtain ⟨s, hs⟩ : ∃ s, s = strm key nonce 0 b.length := ⟨_, rfl⟩
  have hsl : s.length = b.length := by rw [hs, strm_len]
  have hst := rstream_c key nonce hk hn 0 b.length (by omega) hb ((w.alloc (.cells (tabV .u8 16 key) 22)).alloc (.cells (tabV .u8 8 nonce) 23))
  rw [← hs] at hst
  refine hst.mono ?_
  rintro e w2 ⟨A, c, rfl, ho, hx⟩
  have HO := Lib.hid (ho.less (base' := w.heap.size) (by simp; omega))
  have HX2 := Lib.hid (HX.out.tr hx)
  have HR2 := Lib.hid (HR.out.ext HX2.out)
  have HS := Lib.hid hs
  have HSL := Lib.hid hsl
  clear ho hx hst hs hsl HX H0 H1
  go_wp2_with fail
  go_loopw [8] (fun v wr => ∃ i : Nat, i ≤ b.length ∧ v = .int .i64 i ∧ OwnB wr 5 w.heap.size A c (xlp s b i) ∧ RB wr (fun g' t => S g' t ∧ g' < w.heap.size) B b ∧ Ext w wr) (fun v _ => b.length - (intOf v).toNat)
  case atStart => exact ⟨0, Nat.zero_le _, rfl, by rw [xlp_zero]; exact HO.out, HR2.out, HX2.out⟩
  case round =>
    obtain ⟨i, hi, rfl, hO, hR, hG⟩ := hrel
    clear HO HR2 HX2
    by_cases hlt : i < b.length
    · have hls := xlp_len HSL.out i
      obtain ⟨gb, off, rfl, hcb⟩ := hR.cell hlt
      obtain ⟨ga, rfl⟩ : ∃ ga, A = some ⟨ga, 0, none⟩ := by
        rcases hO.block with ⟨_, _, h⟩ | ⟨ga, cs, h, _⟩
        · rw [h] at hls; simp at hls; omega
        · exact ⟨ga, h⟩
      have hgab := hO.at_
      have hca := hO.cellAt (j := i) (by omega)
      have hfa := hO.freeAt i
      have hset := (hO.ext (Ext.drew wr)).set_ i (s[i]'(by have := HSL.out; omega) ^^^ b[i])
      rw [xlp_set HSL.out hlt (by have := HSL.out; omega)] at hset
      have hxi : (xlp s b i)[i]'(by omega) = s[i]'(by have := HSL.out; omega) := by
        have h1 := xlp_at HSL.out hlt
        rw [List.getElem?_eq_getElem (by omega), List.getElem?_eq_getElem (by have := HSL.out; omega)] at h1
        exact Option.some.inj h1
      rw [hxi] at hca
      obtain ⟨x, hx⟩ : ∃ x, x = s[i]'(by have := HSL.out; omega) := ⟨_, rfl⟩
      obtain ⟨y, hy⟩ : ∃ y, y = b[i] := ⟨_, rfl⟩
      rw [← hx] at hca hset
      rw [← hy] at hcb hset
      have q1 : bits .xor .u8 (x.toNat : Int) (y.toNat : Int) = ((x ^^^ y).toNat : Int) := by rw [u8_xor_nat _ _ (UInt8.toNat_lt x) (UInt8.toNat_lt y), UInt8.toNat_xor]
      have i1 : (i : Int) < (b.length : Int) := by omega
      have HSET := Lib.hid hset
      have HR := Lib.hid (hR.ext (Ext.drew wr))
      have HG := Lib.hid (hG.tr (Ext.drew wr))
      obtain ⟨wd, hwd⟩ : ∃ wd, wd = wr.drew := ⟨_, rfl⟩
      have hca' : wd.cell? ⟨ga, i, none⟩ = some (.int .u8 (x.toNat : Int)) := by rw [hwd]; exact hca
      have hcb' : wd.cell? ⟨gb, off + i, none⟩ = some (.int .u8 (y.toNat : Int)) := by rw [hwd]; exact hcb
      have hfa' : wd.frozen? ⟨ga, i, none⟩ = false := by rw [hwd]; exact hfa
      rw [← hwd] at HSET HR HG
      have HWD := Lib.hid hwd
      clear hset hR hG hO hls hxi hx hy hca hcb hfa hwd
      go_wp2_with fail
      refine wp_region_ord 11 (fun W => W = wd) (by kernel_rfl) (by kernel_rfl) (by decide) (by kernel_rfl) HWD.out.symm ?_
      simp only [List.take_succ_cons, List.take_zero, List.drop_succ_cons, List.drop_zero]
      repeat (refine wpTxt_stay ?_ (fun K hK => ?_) rfl ?_; rotate_left; (simp only [Act.put, List.setIfInBounds_toArray, List.set_cons_zero, List.set_cons_succ] at hK; go_simp; exact hK); simp only [Act.put, List.setIfInBounds_toArray, List.set_cons_zero, List.set_cons_succ])
      refine wpTxt_nil ?_
      rintro W hW
      have HW := Lib.hid hW
      clear hW
      rw [← HW.out] at HSET HR HG hca' hcb' hfa'
      go_wp2_with fail
      refine ⟨⟨i + 1, by omega, by go_num, HSET.out, HR.out.grown (grown_set ⟨ga, i, none⟩ rfl _) (fun g' t hs => by rintro e; injection e with e; have e1 : ga = g' := e; have := hs.2; omega), ext_setCell HG.out (by simp; omega) _⟩, by simp only [intOf]; omega⟩
    · have e : i = b.length := by omega
      subst e
      rw [xlp_all HSL.out] at hO
      have HO := Lib.hid hO
      have HG := Lib.hid hG
      clear hO hR hG
      go_wp2_with fail
      go_ret
      exact ⟨A, c, rfl, by rw [← HS.out]; exact HO.out, HG.out⟩
end Go.Proofs.Ytdmfajcbbolfiaa
