/-
  Package tollref10 (the reference): Update, Sum, Append, Check.
-/
import Derived.Test.YtpfognoabboheaaDoorCrcB
import Derived.Test.YtpfognoabboheaaDoorBytC
namespace Go.Proofs.YtpfognoabboheaaDoor
open Go.RowKit

theorem shr_int (c k : Nat) : (c : Int) / 2 ^ k = ((c / 2 ^ k : Nat) : Int) := by rw [Int.natCast_ediv, Int.natCast_pow]; rfl
theorem out_int (r c k : Nat) : bits .xor .u32 (((rb r c k : Nat) : Int) % 2) ((c : Int) / 2 ^ k % 2) = ((rout r c k : Nat) : Int) := by
  rw [shr_int, show ((rb r c k : Nat) : Int) % 2 = ((rb r c k % 2 : Nat) : Int) by omega, show ((c / 2 ^ k : Nat) : Int) % 2 = ((c / 2 ^ k % 2 : Nat) : Int) by omega, u32_xor_nat _ _ (by omega) (by omega)]
  rfl
theorem half_int (r c k : Nat) (h : rb r c k < 4294967296) : bits .xor .u32 (((rb r c k : Nat) : Int) / 2) 2197175160 = (((rb r c k / 2) ^^^ 2197175160 : Nat) : Int) := by
  rw [show ((rb r c k : Nat) : Int) / 2 = ((rb r c k / 2 : Nat) : Int) by omega]
  exact u32_xor_nat _ 2197175160 (by omega) (by omega)

set_option maxHeartbeats 1000000 in
theorem rupdate_c (s : Nat) (hs : s < 4294967296) (A : Option Addr) (c : Nat) (l : List UInt8) (S : Nat → TypeId → Prop) (w : World) (h : RB w S A l) (hl : l.length ≤ 140737488355328) :
    Calls Tryd.prog 18 #[.int .u32 s, .slice A l.length c] w fun e w' => e = .returned (.int .u32 (up s l)) ∧ w = w' := by
  have e0 : 4294967295 - (s : Int) = ((4294967295 - s : Nat) : Int) := by omega
  obtain ⟨x, hx⟩ : ∃ x, x = 4294967295 - s := ⟨_, rfl⟩
  have hx32 : x < 4294967296 := by omega
  rw [← hx] at e0
  have HX := Lib.hid hx
  have H := Lib.hid h
  clear h hx
  go_enter Tryd.func18, Tryd.ntmps18
  go_wp2_with fail
  go_loop [5, 6] (fun y i => ∃ j : Nat, j ≤ l.length ∧ i = .int .i64 j ∧ y = .int .u32 (ad x (l.take j))) (fun _ i => l.length - (intOf i).toNat)
  case atStart => exact ⟨0, Nat.zero_le _, rfl, rfl⟩
  case round =>
    obtain ⟨j, hj, rfl, rfl⟩ := hrel
    obtain ⟨y, hy⟩ : ∃ y, y = ad x (l.take j) := ⟨_, rfl⟩
    have hy32 : y < 4294967296 := hy ▸ ad_lt _ hx32
    rw [← hy]
    have HY := Lib.hid hy
    clear hy
    by_cases hlt : j < l.length
    · obtain ⟨g', off', rfl, hc'⟩ := H.out.cell hlt
      have hs : sn 8 (y ^^^ (l[j]).toNat) = ad x (l.take (j + 1)) := by rw [HY.out, ad_take hlt]
      obtain ⟨d, hd⟩ : ∃ d, d = (l[j]).toNat := ⟨_, rfl⟩
      have hd256 : d < 256 := by rw [hd]; exact UInt8.toNat_lt _
      rw [← hd] at hs hc'
      rw [← rb_eight y d hd256] at hs
      have HS := Lib.hid hs
      clear hs hd
      go_wp2_with fail
      go_loop [5, 7] (fun r k => ∃ q : Nat, q ≤ 8 ∧ k = .int .i64 q ∧ r = .int .u32 (rb y d q)) (fun _ k => 8 - (intOf k).toNat)
      case atStart => exact ⟨0, Nat.zero_le _, rfl, by rw [rb_zero]⟩
      case round =>
        obtain ⟨q, hq, rfl, rfl⟩ := hrel
        have hr32 := rb_lt hy32 hd256 q
        have e1 := out_int y d q
        have e2 := half_int y d q hr32
        have n1 := fun h => rb_one (r := y) (c := d) (k := q) h
        have n2 := fun h => rb_no (r := y) (c := d) (k := q) h
        obtain ⟨r, hr⟩ : ∃ r, r = rb y d q := ⟨_, rfl⟩
        obtain ⟨o, ho⟩ : ∃ o, o = rout y d q := ⟨_, rfl⟩
        rw [← hr] at hr32 e1 e2 n1 n2 ⊢
        rw [← ho] at e1 n1 n2
        have HR := Lib.hid hr
        have N1 := Lib.hid n1
        have N2 := Lib.hid n2
        clear hr ho n1 n2
        by_cases hq8 : q < 8
        · by_cases ho1 : o = 1
          · subst ho1
            have N := Lib.hid (N1.out rfl)
            obtain ⟨z, hz⟩ : ∃ z, z = (r / 2) ^^^ 2197175160 := ⟨_, rfl⟩
            rw [← hz] at N e2
            clear hz N1 N2
            go_wp2_with fail
            go_round
            case rel => exact ⟨q + 1, by omega, by go_num, by rw [N.out]⟩
            case measure => simp [intOf]; omega
          · have N := Lib.hid (N2.out ho1)
            have ho2 := beq_f (a := (o : Int)) (b := 1) (by omega)
            clear N1 N2
            go_wp2_with fail
            go_round
            case rel => exact ⟨q + 1, by omega, by go_num, by rw [N.out]; go_num⟩
            case measure => simp [intOf]; omega
        · have eq : q = 8 := by omega
          go_wp2_with fail
          go_round
          case rel => exact ⟨j + 1, by omega, by go_num, by rw [← HS.out, HR.out, eq]⟩
          case measure => simp [intOf]; omega
    · have ej : l.take j = l := List.take_of_length_le (by omega)
      have e3 : 4294967295 - (y : Int) = ((4294967295 - y : Nat) : Int) := by omega
      have HE := Lib.hid ej
      clear ej
      go_wp2_with fail
      go_ret
      refine ⟨?_, rfl⟩
      unfold up
      rw [← HX.out, ← HE.out, ← HY.out]
      rfl
set_option maxHeartbeats 400000 in
theorem rcs_c (A : Option Addr) (c : Nat) (l : List UInt8) (S : Nat → TypeId → Prop) (w : World) (h : RB w S A l) (hl : l.length ≤ 140737488355328) :
    Calls Tryd.prog 10 #[.slice A l.length c] w fun e w' => e = .returned (.int .u32 (cs l)) ∧ w = w' := by
  have H := Lib.hid h
  clear h
  go_enter Tryd.func10, Tryd.ntmps10
  go_wp2_with fail
  refine (rupdate_c 0 (by omega) A c l S _ H.out hl).mono ?_
  rintro e w' ⟨rfl, rfl⟩
  go_wp2_with fail
  go_ret
  exact ⟨rfl, rfl⟩

theorem nb4 (x : Nat) : ∃ b0 b1 b2 b3 : UInt8, nb 4 x = [b0, b1, b2, b3] ∧ (x : Int) / 16777216 % 256 = (b0.toNat : Int) ∧ (x : Int) / 65536 % 256 = (b1.toNat : Int) ∧ (x : Int) / 256 % 256 = (b2.toNat : Int) ∧ (x : Int) % 256 = (b3.toNat : Int) := by
  refine ⟨UInt8.ofNat (x / 256 / 256 / 256 % 256), UInt8.ofNat (x / 256 / 256 % 256), UInt8.ofNat (x / 256 % 256), UInt8.ofNat (x % 256), rfl, ?_, ?_, ?_, ?_⟩
  all_goals
    rw [UInt8.toNat_ofNat']
    omega
theorem be4 (b0 b1 b2 b3 : UInt8) : be [b0, b1, b2, b3] = ((b0.toNat * 256 + b1.toNat) * 256 + b2.toNat) * 256 + b3.toNat := by simp [be]

set_option maxHeartbeats 1000000 in
theorem rappend_c (A : Option Addr) (c : Nat) (l : List UInt8) (S : Nat → TypeId → Prop) (w : World) (h : RB w S A l) (hl : l.length ≤ 140737488000000) :
    Calls Tryd.prog 15 #[.slice A l.length c] w fun e w' => ∃ A' c', e = .returned (.slice A' (apd l).length c') ∧ OwnB w' 5 w.heap.size A' c' (apd l) ∧ Ext w w' := by
  obtain ⟨i0, hi0, hz0, hz1, hz2⟩ := info_parts info_u8
  have hs := rcs_c A c l S w h (by omega)
  have hcs := cs_lt l
  have h0 : OwnB (w.alloc (.cells #[] 5)) 5 w.heap.size (some ⟨w.heap.size, 0, none⟩) 0 [] := by
    refine ⟨by simp, .inr ⟨w.heap.size, 0, #[], rfl, Nat.le_refl _, new_of _ _, by simp, by simp [maxLen], by simp, by simp⟩⟩
  have h1 : RB (w.alloc (.cells #[] 5)) S A l := h.ext (Ext.alloc _ _)
  have hapd : apd l = l ++ nb 4 (cs l) := rfl
  obtain ⟨x, hx⟩ : ∃ x, x = cs l := ⟨_, rfl⟩
  rw [← hx] at hs hcs hapd
  obtain ⟨b0, b1, b2, b3, hb, e0, e1, e2, e3⟩ := nb4 x
  rw [hb] at hapd
  have e0' : (x : Int) / 16777216 = (b0.toNat : Int) := by omega
  have HA := Lib.hid hapd
  have HS := Lib.hid hs
  have H0 := Lib.hid h0
  have H1 := Lib.hid h1
  clear h hs hb hx hapd h0 h1
  go_enter Tryd.func15, Tryd.ntmps15
  go_wp2_with fail
  refine HS.out.mono ?_
  rintro e w' ⟨rfl, rfl⟩
  go_wp2_with (at_builtin; first
    | (refine wpList_append_bytes _ rfl _ _ 24 rfl w.heap.size 5 i0 Tryd.underlying24 hi0 hz0 hz1 hz2 (some ⟨w.heap.size, 0, none⟩) 0 [] rfl H0.out S A c l rfl H1.out (by simp; omega) (by simp) ?_; intro A' c' w1 ho1 hg1 hb1
       have hx1 := grown_new (Ext.alloc w (.cells #[] 5)) hg1 (fun g hg => by simp [Value.ownBlock] at hg; omega)
       have hlit := RB.lit w1 [b0, b1, b2, b3] #[.int .u8 (b0.toNat : Int), .int .u8 (b1.toNat : Int), .int .u8 (b2.toNat : Int), .int .u8 (b3.toNat : Int)] 5 rfl
       have hor := ho1.ext (Ext.alloc w1 (.cells #[.int .u8 (b0.toNat : Int), .int .u8 (b1.toNat : Int), .int .u8 (b2.toNat : Int), .int .u8 (b3.toNat : Int)] 5))
       rw [List.nil_append] at hor
       have HX := Lib.hid hx1
       have HO := Lib.hid hor
       have HL := Lib.hid hlit
       have hsz := hx1.size
       clear hx1 hor hlit ho1 hg1 hb1)
    | (refine wpList_append_bytes _ rfl _ _ 24 rfl w.heap.size 5 i0 Tryd.underlying24 hi0 hz0 hz1 hz2 A' c' l rfl HO.out _ (some ⟨w1.heap.size, 0, none⟩) 4 [b0, b1, b2, b3] rfl HL.out (by simp; omega) (by simp; omega) ?_; intro A2 c2 w2 ho2 hg2 hb2; rw [← HA.out]; rw [← HA.out] at ho2))
  go_ret
  exact ⟨A2, c2, rfl, ho2, (grown_new (HX.out.tr (Ext.alloc _ _)) hg2 HO.out.ge)⟩
end Go.Proofs.YtpfognoabboheaaDoor
