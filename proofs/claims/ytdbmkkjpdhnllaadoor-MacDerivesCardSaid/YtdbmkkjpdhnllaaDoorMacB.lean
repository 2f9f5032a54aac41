/-
  Package mac: the code of parts under a padded key; Sum.
-/
import Derived.Test.YtdbmkkjpdhnllaaDoorMacA
namespace Go.Proofs.YtdbmkkjpdhnllaaDoor
open Go.RowKit

set_option maxRecDepth 100000 in
set_option maxHeartbeats 2000000 in
theorem code1_c (mask : Nat) (hm : mask < 256) (gk : Nat) (f : Nat → Nat) (hf : ∀ i, f i < 256) (A : Option Addr) (c : Nat) (ls : List (List UInt8)) (S T : Nat → TypeId → Prop) (w : World) (ht : Tab w)
    (hk : Arr w gk 41 .u8 64 f) (h : RBC w S T A ls) (hl : (fla ls).length ≤ 140737488355200) (hn : ls.length ≤ 100000) :
    Calls Tryd.prog 22 #[.int .u8 mask, .slice A ls.length c, .pointer (some ⟨gk, 0, none⟩)] w fun e w' => e = .returned (.agg (tabV .u8 32 (sum kc (xk f mask ++ fla ls)))) ∧ Ext w w' := by
  obtain ⟨i0, hi0, hz0, hz1, hz2⟩ := info_parts info_row
  have HT := Lib.hid ht
  have HR := Lib.hid h
  have HL := Lib.hid hl
  have ha0 : Arr (w.alloc (.cells (tabV .u8 32 (fun _ => 0)) 26)) w.heap.size 26 .u8 32 (fun _ => 0) := new_of w _
  have HA0 := Lib.hid ha0
  have HK := Lib.hid (hk.ext (Ext.alloc w (.cells (tabV .u8 32 (fun _ => 0)) 26)))
  clear ht h hl ha0 hk
  go_enter Tryd.func22, Tryd.ntmps22
  go_wp2_with (first
    | (refine wpList_load_arr rfl 41 (.tmp 2) rfl gk rfl 41 .u8 64 f _ HK.out Tryd.underlying41 size_key ?_)
    | (refine wpList_store_arr rfl 41 (.tmp 6) (.tmp 8) rfl (w.heap.size + 1) .u8 64 f rfl rfl 41 _ (two_new _ _ _).2 size_key rfl ?_
       intro w1 hA1 hG1
       have hx1 : Ext (w.alloc (.cells (tabV .u8 32 (fun _ => 0)) 26)) w1 := grown_new (Ext.alloc _ _) hG1 (fun g hg => by simp at hg ⊢; omega)
       have HX1 := Lib.hid ((Ext.alloc _ _).tr hx1)
       have HB1 := Lib.hid (HA0.out.ext hx1)
       have HA1 := Lib.hid hA1
       clear hA1 hG1 hx1))
  go_loopw [9] (fun v wr => ∃ n : Nat, n ≤ 64 ∧ v = .int .i64 n ∧ Arr wr (w.heap.size + 1) 41 .u8 64 (fun i => if i < n then f i ^^^ mask else f i) ∧ Arr wr w.heap.size 26 .u8 32 (fun _ => 0) ∧ Ext w wr) (fun v _ => 64 - (intOf v).toNat)
  case atStart => exact ⟨0, by omega, rfl, HA1.out.congr (fun i _ => by rw [if_neg (by omega)]), HB1.out, HX1.out⟩
  case round =>
    obtain ⟨n, hn', rfl, hA, hB, hx⟩ := hrel
    by_cases hlt : n < 64
    · have hc := hA.cell (i := n) hlt
      rw [if_neg (by omega)] at hc
      have hfr := hA.free n
      obtain ⟨x, hx0⟩ : ∃ x, x = f n := ⟨_, rfl⟩
      have hxl : x < 256 := by rw [hx0]; exact hf n
      rw [← hx0] at hc
      have b1 := u8_xor_nat x mask hxl hm
      have HX0 := Lib.hid hx0
      have HA := Lib.hid hA
      have HB := Lib.hid hB
      have HX := Lib.hid hx
      clear hx0 hA hB hx
      go_wp2_with fail
      go_roundw
      case rel =>
        refine ⟨n + 1, by omega, by go_num, ?_, HB.out.other (by omega) _ _, Below.setCell HX.out (by simp) _⟩
        refine Arr.to (f := fun i => if i < n then f i ^^^ mask else f i) HA.out hlt ?_ (fun i _ hne => ?_)
        · rw [if_pos (by omega), ← HX0.out]
        · by_cases hi : i < n
          · rw [if_pos hi, if_pos (by omega)]
          · rw [if_neg hi, if_neg (by omega)]
      case measure => simp [intOf]; omega
    · have hA2 : Arr wr (w.heap.size + 1) 41 .u8 64 (fun i => f i ^^^ mask) := hA.congr (fun i hi => by rw [if_pos (by omega)])
      have hrb := hA2.rb (fun i _ => xor256 (hf i) hm)
      have hlt2 := hA2.lt
      have hv : AsC (wr.alloc (.cells #[.slice (some ⟨w.heap.size + 1, 0, none⟩) 64 64] 22)) (fun g _ => g < wr.heap.size) [.slice (some ⟨w.heap.size + 1, 0, none⟩) (xk f mask).length 64] [xk f mask] :=
        AsC.single ((hrb.ext (Ext.alloc _ _)).more (fun g t hg => by rw [hg.1]; exact hlt2)) (by rw [xk_len]; exact Nat.le_refl _) (by decide)
      rw [xk_len] at hv
      have hr2 := (HR.out.ext hx).inside.ext (Ext.alloc wr (.cells #[.slice (some ⟨w.heap.size + 1, 0, none⟩) 64 64] 22))
      have hown : OwnV (wr.alloc (.cells #[.slice (some ⟨w.heap.size + 1, 0, none⟩) 64 64] 22)) 22 wr.heap.size (some ⟨wr.heap.size, 0, none⟩) 1 [.slice (some ⟨w.heap.size + 1, 0, none⟩) 64 64] := OwnV.lit (vs := [.slice (some ⟨w.heap.size + 1, 0, none⟩) 64 64]) (Nat.le_refl _) (by simp [maxLen])
      have HV := Lib.hid hv
      have HR2 := Lib.hid hr2
      have HO := Lib.hid hown
      have HB := Lib.hid hB
      have HX := Lib.hid hx
      clear hA hA2 hrb hv hr2 hown hB hx
      go_wp2_with (at_builtin; refine wpList_append_rows _ rfl (.tmp 20) (.tmp 21) 23 rfl wr.heap.size 22 i0 _ Tryd.underlying23 hi0 hz0 hz1 hz2 rfl _ 1 1 _ rfl rfl HO.out _ _ A ls.length c [xk f mask] ls rfl rfl HR2.out HV.out (fun _ _ h => h) (by omega) (by simp) ?_
                   intro A2 c2 w2 hr3 hg3)
      have hx2 : Ext wr w2 := grown_new (Ext.alloc _ _) hg3 (fun g hg => by simp [Value.ownBlock] at hg; omega)
      have hsum := sum_c A2 c2 ([xk f mask] ++ ls) _ _ w2 (HT.out.ext (HX.out.tr hx2)) hr3 (by rw [fla_cons, List.length_append, xk_len]; have := HL.out; omega) (by simp; omega)
      rw [fla_cons] at hsum
      have HB2 := Lib.hid (HB.out.ext hx2)
      have HX2 := Lib.hid (HX.out.tr hx2)
      clear hr3 hg3 hx2
      refine hsum.mono ?_
      rintro e w3 ⟨rfl, hx3⟩
      have HB3 := Lib.hid (HB2.out.ext hx3)
      have HX3 := Lib.hid (HX2.out.tr hx3)
      clear hx3 hsum
      go_wp2_with (refine wpList_store_arr' rfl rfl 26 (.tmp 5) (.tmp 23) rfl w.heap.size .u8 32 (sum kc (xk f mask ++ fla ls)) rfl rfl 26 _ HB3.out size_dig tabV_size ?_; intro w5 hA5 hG5)
      refine bodyPost_ret (v := .agg (tabV .u8 32 (sum kc (xk f mask ++ fla ls)))) ?_ rfl ⟨rfl, grown_new HX3.out hG5 (fun g hg => by simp at hg; omega)⟩
      exact results_cell_row rfl _ _ _ _ _ _ _ rfl hA5 Tryd.underlying26 rfl (by rw [tabV_size]; exact size_dig)

set_option maxRecDepth 100000 in
set_option maxHeartbeats 2000000 in
theorem code_c (f : Nat → Nat) (hf : ∀ i, f i < 256) (A : Option Addr) (c : Nat) (ls : List (List UInt8)) (S T : Nat → TypeId → Prop) (w : World) (ht : Tab w)
    (h : RBC w S T A ls) (hl : (fla ls).length ≤ 140737488355200) (hn : ls.length ≤ 100000) :
    Calls Tryd.prog 19 #[.agg (tabV .u8 64 f), .slice A ls.length c] w fun e w' => e = .returned (.agg (tabV .u8 32 (cd f (fla ls)))) ∧ Ext w w' := by
  have hmf : ∀ (fn : Fn) (first cap : Array Value) (w : World), (Instr.makeFunc fn first cap).run Tryd.prog w = .ok (.func fn first cap) w := fun _ _ _ _ => rfl
  have hx0 := (Ext.alloc w (.cells (tabV .u8 64 f) 41)).tr (Ext.alloc _ (.cells (tabV .u8 32 (fun _ => 0)) 26))
  have hk0 : Arr ((w.alloc (.cells (tabV .u8 64 f) 41)).alloc (.cells (tabV .u8 32 (fun _ => 0)) 26)) w.heap.size 41 .u8 64 f := (two_new _ _ _).1
  have hb0 : Arr ((w.alloc (.cells (tabV .u8 64 f) 41)).alloc (.cells (tabV .u8 32 (fun _ => 0)) 26)) (w.heap.size + 1) 26 .u8 32 (fun _ => 0) := (two_new _ _ _).2
  have hcall := code1_c 54 (by decide) w.heap.size f hf A c ls S T _ (ht.ext hx0) hk0 (h.ext hx0) hl hn
  have HC1 := Lib.hid hcall
  have HT := Lib.hid ht
  have HK0 := Lib.hid hk0
  have HB0 := Lib.hid hb0
  have HX0 := Lib.hid hx0
  clear ht h hk0 hb0 hx0 hcall
  go_enter Tryd.func19, Tryd.ntmps19
  go_wp2_with fail
  refine HC1.out.mono ?_
  rintro e w1 ⟨rfl, hx1⟩
  have HK1 := Lib.hid (HK0.out.ext hx1)
  have HB1 := Lib.hid (HB0.out.ext hx1)
  have HX1 := Lib.hid (HX0.out.tr hx1)
  clear hx1 HC1 HK0 HB0 HX0
  go_wp2_with (refine wpList_store_arr rfl 26 (.tmp 6) (.tmp 10) rfl w1.heap.size .u8 32 (sum kc (xk f 54 ++ fla ls)) rfl rfl 26 _ (new_of _ _) size_dig rfl ?_
               intro w2 hA2 hG2)
  have hx2 : Ext w1 w2 := grown_new (Ext.alloc _ _) hG2 (fun g hg => by simp at hg; omega)
  have hrb : RB w2 _ (some ⟨w1.heap.size, 0, none⟩) (ihash f (fla ls)) := hA2.rb (fun i _ => sum_lt _ i)
  have hil : (ihash f (fla ls)).length = 32 := dg_len _
  have hrc := rbc_one (c := 32) (new_of w2 (.cells #[.slice (some ⟨w1.heap.size, 0, none⟩) (ihash f (fla ls)).length 32] 22)) rfl (hrb.ext (Ext.alloc _ _)) (by omega) (by decide)
  rw [hil] at hrc
  have hx3 := hx2.tr (Ext.alloc w2 (.cells #[.slice (some ⟨w1.heap.size, 0, none⟩) 32 32] 22))
  have hcall := code1_c 92 (by decide) w.heap.size f hf (some ⟨w2.heap.size, 0, none⟩) 1 [ihash f (fla ls)] _ _ _ (HT.out.ext (HX1.out.tr hx3)) (HK1.out.ext hx3) hrc (by rw [fla_one, hil]; decide) (by simp)
  rw [fla_one] at hcall
  have HC2 := Lib.hid hcall
  have HB2 := Lib.hid (HB1.out.ext hx3)
  have HX2 := Lib.hid (HX1.out.tr hx3)
  clear hA2 hG2 hx2 hrb hil hrc hx3 hcall HB1 HX1 HK1
  refine HC2.out.mono ?_
  rintro e w3 ⟨rfl, hx3⟩
  have HB3 := Lib.hid (HB2.out.ext hx3)
  have HX3 := Lib.hid (HX2.out.tr hx3)
  clear hx3 HC2 HB2 HX2
  go_wp2_with (refine wpList_store_arr' rfl rfl 26 (.tmp 4) (.tmp 14) rfl (w.heap.size + 1) .u8 32 (cd f (fla ls)) rfl rfl 26 _ HB3.out size_dig tabV_size ?_; intro w5 hA5 hG5)
  refine bodyPost_ret (v := .agg (tabV .u8 32 (cd f (fla ls)))) ?_ rfl ⟨rfl, grown_new HX3.out hG5 (fun g hg => by simp at hg; omega)⟩
  exact results_cell_row rfl _ _ _ _ _ _ _ rfl hA5 Tryd.underlying26 rfl (by rw [tabV_size]; exact size_dig)

set_option maxRecDepth 100000 in
set_option maxHeartbeats 2000000 in
theorem macSum_c (K : Option Addr) (ck : Nat) (key : List UInt8) (SK : Nat → TypeId → Prop) (A : Option Addr) (c : Nat) (ls : List (List UInt8)) (S T : Nat → TypeId → Prop) (w : World) (ht : Tab w)
    (hk : RB w SK K key) (hkl : key.length ≤ 140737488355200) (hkc : key.length ≤ ck) (hkm : ck ≤ 9223372036854775807) (h : RBC w S T A ls) (hl : (fla ls).length ≤ 140737488355200) (hn : ls.length ≤ 100000) :
    Calls Tryd.prog 10 #[.slice K key.length ck, .slice A ls.length c] w fun e w' => e = .returned (.agg (tabV .u8 32 (hm key (fla ls)))) ∧ Ext w w' := by
  have hx0 := Ext.alloc w (.cells (tabV .u8 32 (fun _ => 0)) 26)
  have hb0 : Arr (w.alloc (.cells (tabV .u8 32 (fun _ => 0)) 26)) w.heap.size 26 .u8 32 (fun _ => 0) := new_of w _
  have HC1 := Lib.hid (padded_c K ck key SK _ (ht.ext hx0) (hk.ext hx0) hkl hkc hkm)
  have HT := Lib.hid (ht.ext hx0)
  have HR := Lib.hid (h.ext hx0)
  have HB0 := Lib.hid hb0
  have HX0 := Lib.hid hx0
  have HL := Lib.hid hl
  clear ht hk hkl hkc h hb0 hx0 hl
  go_enter Tryd.func10, Tryd.ntmps10
  go_wp2_with fail
  refine HC1.out.mono ?_
  rintro e w1 ⟨rfl, hx1⟩
  have hcall := code_c (byt (kb key)) (byt_lt _) A c ls S T w1 (HT.out.ext hx1) (HR.out.ext hx1) HL.out hn
  have HC2 := Lib.hid hcall
  have HB1 := Lib.hid (HB0.out.ext hx1)
  have HX1 := Lib.hid (HX0.out.tr hx1)
  clear hx1 HC1 HB0 HX0 hcall
  go_wp2_with fail
  refine HC2.out.mono ?_
  rintro e w3 ⟨rfl, hx3⟩
  have HB3 := Lib.hid (HB1.out.ext hx3)
  have HX3 := Lib.hid (HX1.out.tr hx3)
  clear hx3 HC2
  go_wp2_with (refine wpList_store_arr' rfl rfl 26 (.tmp 4) (.tmp 8) rfl w.heap.size .u8 32 (cd (byt (kb key)) (fla ls)) rfl rfl 26 _ HB3.out size_dig tabV_size ?_; intro w5 hA5 hG5)
  refine bodyPost_ret (v := .agg (tabV .u8 32 (cd (byt (kb key)) (fla ls)))) ?_ rfl ⟨rfl, grown_new HX3.out hG5 (fun g hg => by simp at hg; omega)⟩
  exact results_cell_row rfl _ _ _ _ _ _ _ rfl hA5 Tryd.underlying26 rfl (by rw [tabV_size]; exact size_dig)
end Go.Proofs.YtdbmkkjpdhnllaaDoor
