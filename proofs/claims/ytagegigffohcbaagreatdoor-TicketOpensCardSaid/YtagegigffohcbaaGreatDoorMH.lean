/-
  Package mac: what Derive sets up: the padded key, the label's bytes, room for the result.
  The reference's derived strings; package mac: Key.
-/
import Derived.Test.YtagegigffohcbaaGreatDoorMF
import Derived.Test.YtagegigffohcbaaGreatDoorMG
import Derived.Test.YtagegigffohcbaaGreatDoorMA
import Derived.Lib.AppendStr
set_option linter.unusedVariables false
set_option linter.unusedSimpArgs false
namespace Go.Proofs.YtagegigffohcbaaGreatDoor
open Go.RowKit
set_option linter.unusedVariables false
set_option linter.unusedSimpArgs false

theorem rbc_two {w : World} {T : Nat → TypeId → Prop} {g : Nat} {A B : Option Addr} {l m : List UInt8} {c d : Nat} {cs : Array Value} {t : TypeId} {fr : Nat × Nat} (hh : w.heap[g]? = some (.cells cs t fr)) (h0 : cs[0]? = some (.slice A l.length c)) (h1 : cs[1]? = some (.slice B m.length d))
    (hr : RB w T A l) (hc : l.length ≤ c) (hm : c ≤ 9223372036854775807) (hr' : RB w T B m) (hc' : m.length ≤ d) (hm' : d ≤ 9223372036854775807) : RBC w (fun _ _ => True) T (some ⟨g, 0, none⟩) [l, m] := by
  intro _
  refine ⟨g, 0, cs, t, fr, rfl, hh, trivial, fun j x hj => ?_⟩
  rcases j with _ | _ | j
  · simp at hj
    subst hj
    exact ⟨A, c, h0, hr, hc, hm⟩
  · simp at hj
    subst hj
    exact ⟨B, d, h1, hr', hc', hm'⟩
  · simp at hj
theorem fla_two (l m : List UInt8) : fla [l, m] = l ++ m := by simp [fla]
/-- what Derive has made before its loop -/
def Set3 (w : World) (key lab : List UInt8) (n : Nat) (gk gt ct gs : Nat) (W : World) : Prop :=
  Arr W gk 98 .u8 64 (byt (kb key)) ∧ RB W (fun g' t => g' = gt ∧ t = 5) (some ⟨gt, 0, none⟩) lab ∧ lab.length ≤ ct ∧ ct ≤ maxLen ∧ OwnB W 5 w.heap.size (some ⟨gs, 0, none⟩) n [] ∧ gs ≠ gt ∧ w.heap.size ≤ gk ∧ w.heap.size ≤ gt ∧ gt < W.heap.size ∧ Ext w W
def PD (w : World) (ka : Option Addr) (ck : Nat) (key : List UInt8) (s : ByteArray) (lab : List UInt8) (n : Nat) (e : Exit) (a : Act) (W : World) : Prop :=
  e = .normal ∧ ∃ gk gt ct gs u12 u13 u14 u15 u16 u17, a = { tmps := #[.slice ka key.length ck, .string s, .int .i64 n, undef, undef, undef, .slice none 0 0, .pointer (some ⟨gk, 0, none⟩), .slice (some ⟨gt, 0, none⟩) lab.length ct, .slice (some ⟨gs, 0, none⟩) 0 n, undef, undef, u12, u13, u14, u15, u16, u17, .slice ka key.length ck, .agg (tabV .u8 64 (byt (kb key))), .string s, .slice (some ⟨gt, 0, none⟩) lab.length ct, .int .i64 n, .slice (some ⟨gs, 0, none⟩) 0 n, undef, undef, undef, undef, undef, undef, undef, undef, undef, undef, undef, undef, undef, undef, undef, undef, undef, undef, undef, undef, undef], defers := [] } ∧ Set3 w key lab n gk gt ct gs W
theorem PD.calm {w : World} {ka : Option Addr} {ck : Nat} {key : List UInt8} {s : ByteArray} {lab : List UInt8} {n : Nat} {c : _} {a a' : Act} {W : World} (h : PD w ka ck key s lab n (.panic c) a W) : PD w ka ck key s lab n (.panic c) a' W := by
  cases h.1
theorem PD.mk {w : World} {ka : Option Addr} {ck : Nat} {key : List UInt8} {s : ByteArray} {lab : List UInt8} {n gk gt ct gs : Nat} {u12 u13 u14 u15 u16 u17 : Value} {W : World}
    (h1 : Arr W gk 98 .u8 64 (byt (kb key))) (h2 : RB W (fun g' t => g' = gt ∧ t = 5) (some ⟨gt, 0, none⟩) lab) (h3 : lab.length ≤ ct) (h4 : ct ≤ maxLen) (h5 : OwnB W 5 w.heap.size (some ⟨gs, 0, none⟩) n []) (h6 : gs ≠ gt) (h7 : w.heap.size ≤ gk) (h8 : w.heap.size ≤ gt) (h9 : gt < W.heap.size) (h10 : Ext w W) :
    PD w ka ck key s lab n .normal { tmps := #[.slice ka key.length ck, .string s, .int .i64 n, undef, undef, undef, .slice none 0 0, .pointer (some ⟨gk, 0, none⟩), .slice (some ⟨gt, 0, none⟩) lab.length ct, .slice (some ⟨gs, 0, none⟩) 0 n, undef, undef, u12, u13, u14, u15, u16, u17, .slice ka key.length ck, .agg (tabV .u8 64 (byt (kb key))), .string s, .slice (some ⟨gt, 0, none⟩) lab.length ct, .int .i64 n, .slice (some ⟨gs, 0, none⟩) 0 n, undef, undef, undef, undef, undef, undef, undef, undef, undef, undef, undef, undef, undef, undef, undef, undef, undef, undef, undef, undef, undef], defers := [] } W :=
  ⟨rfl, gk, gt, ct, gs, _, _, _, _, _, _, rfl, h1, h2, h3, h4, h5, h6, h7, h8, h9, h10⟩

set_option maxRecDepth 100000 in
set_option maxHeartbeats 8000000 in
theorem derive_c (ka : Option Addr) (ck : Nat) (key : List UInt8) (SK : Nat → TypeId → Prop) (s : ByteArray) (lab : List UInt8) (hlab : s.data.toList = lab) (n : Nat) (hn : n ≤ 4000) (w : World) (ht : Tab w)
    (hk : RB w SK ka key) (hkl : key.length ≤ 140737488355000) (hkc : key.length ≤ ck) (hkm : ck ≤ 9223372036854775807) (hll : lab.length ≤ 100000) :
    Calls Tryz.prog 66 #[.slice ka key.length ck, .string s, .int .i64 n] w fun e w' => ∃ A c, e = .returned (.slice A n c) ∧ OwnB w' 5 w.heap.size A c (drv (byt (kb key)) lab n) ∧ Ext w w' := by
  obtain ⟨i0, hi0, hz0, hz1, hz2⟩ := info_parts info_u8
  have HT := Lib.hid ht
  have HK := Lib.hid hk
  have HKL := Lib.hid (show key.length ≤ 140737488355200 by omega)
  have HKC := Lib.hid hkc
  have HLL := Lib.hid hll
  have HLAB := Lib.hid hlab
  have t1 : decide ((n : Int) < 0) = false := decide_eq_false (by omega)
  have t2 : decide ((8160 : Int) < (n : Int)) = false := decide_eq_false (by omega)
  clear ht hk hkl hkc hll hlab
  go_enter Tryz.func66, Tryz.ntmps66
  go_wp2_with fail
  refine Code.wp_mono (P := Tryz.prog) (Q := PD w ka ck key s lab n) ?_ ?_
  · rintro e a W ⟨rfl, gk, gt, ct, gs, u12, u13, u14, u15, u16, u17, rfl, hset⟩
    obtain ⟨FK, FT, FTc, FTm, FS, hne, hgk, hgt, hgt2, FE⟩ := hset
    have hf := byt_lt (kb key)
    have HFK := Lib.hid FK
    have HFT := Lib.hid FT
    have HFC := Lib.hid (And.intro FTc FTm)
    have HNE := Lib.hid hne
    have HFE := Lib.hid FE
    have HGT := Lib.hid hgt2
    obtain ⟨F, hF⟩ : ∃ F, F = byt (kb key) := ⟨_, rfl⟩
    rw [← hF] at HFK hf ⊢
    have HF := Lib.hid hF
    have hd0 : (dv F lab 0).take n = [] := by rw [dv]; exact List.take_nil
    clear FK FT FTc FTm hne FE hF hgt2
    go_wp2_with fail
    go_loopw [9, 10] (fun v i wr => ∃ (m : Nat) (A : Option Addr) (c l : Nat), 32 * m ≤ n + 31 ∧ i = .int .u8 ((m + 1 : Nat) : Int) ∧ l = min n (32 * m) ∧ v = .slice A l c ∧ OwnB wr 5 w.heap.size A c ((dv F lab m).take n) ∧ Arr wr gk 98 .u8 64 F ∧ RB wr (fun g' t => g' = gt ∧ t = 5) (some ⟨gt, 0, none⟩) lab ∧ (Value.slice A l c).ownBlock ≠ some gt ∧ gt < wr.heap.size ∧ Ext w wr) (fun v _ _ => n - lenOf v)
    case atStart =>
      exact ⟨0, some ⟨gs, 0, none⟩, n, 0, by omega, rfl, by omega, rfl, by rw [hd0]; exact FS, HFK.out, HFT.out, by simp [Value.ownBlock]; exact HNE.out, HGT.out, HFE.out⟩
    case round =>
      obtain ⟨m, A, c, l, hm, rfl, hl, rfl, ho, hK, hT, hap, hgw, hx⟩ := hrel
      have hle := hx.size
      by_cases hlt : l < n
      · have hl2 : l = 32 * m := by omega
        obtain ⟨b, hb1, hb2⟩ := byte_of (x := m + 1) (by omega)
        obtain ⟨r, hr⟩ : ∃ r, r = n - l := ⟨_, rfl⟩
        obtain ⟨q, hq⟩ : ∃ q, q = min 32 r := ⟨_, rfl⟩
        have e1 : IntKind.u8.wrap ((b.toNat : Int) + 1) = ((m + 1 + 1 : Nat) : Int) := by rw [IntKind.wrap_u8', hb1]; omega
        have e2 : IntKind.i64.wrap ((n : Int) - (l : Int)) = (r : Int) := by rw [IntWalk.i64_in _ (by omega)]; omega
        have t3 : decide ((l : Int) < (n : Int)) = true := decide_eq_true (by omega)
        rw [← hb1]
        have hlen := dv_take_len F lab m n
        rw [← hl] at hlen
        have hstep := dv_part F lab (m := m) (n := n) (by omega)
        rw [← hb2, ← hl2, ← hr, ← hq] at hstep
        obtain ⟨p, hp⟩ : ∃ p, p = (dv F lab m).take n := ⟨_, rfl⟩
        rw [← hp] at ho hlen hstep
        obtain ⟨C, hC⟩ : ∃ C, C = cd F (b :: lab) := ⟨_, rfl⟩
        have hcdl : cdl F (b :: lab) = btl 32 C := by rw [cdl, hC]
        have hClt : ∀ i, i < 32 → C i < 256 := fun i _ => by rw [hC]; exact cd_lt _ _ _
        rw [hcdl] at hstep
        have hx1 := (Ext.alloc wr (.cells #[.int .u8 (b.toNat : Int)] 5)).tr (Ext.alloc _ (.cells #[.slice (some ⟨wr.heap.size, 0, none⟩) 1 1, .slice (some ⟨gt, 0, none⟩) lab.length ct] 31))
        have hrb := ((RB.lit wr [b] #[.int .u8 (b.toNat : Int)] 5 rfl).ext (Ext.alloc _ (.cells #[.slice (some ⟨wr.heap.size, 0, none⟩) 1 1, .slice (some ⟨gt, 0, none⟩) lab.length ct] 31))).more (S' := fun _ _ => True) (fun _ _ _ => trivial)
        have hrc := rbc_two (two_new wr (.cells #[.int .u8 (b.toNat : Int)] 5) (.cells #[.slice (some ⟨wr.heap.size, 0, none⟩) 1 1, .slice (some ⟨gt, 0, none⟩) lab.length ct] 31)).2 (l := [b]) (c := 1) rfl rfl hrb (by simp) (by decide) ((hT.ext hx1).more (S' := fun _ _ => True) (fun _ _ _ => trivial)) HFC.out.1 (by have := HFC.out.2; unfold maxLen at this; omega)
        have hcode := code_c F hf (some ⟨wr.heap.size + 1, 0, none⟩) 2 [[b], lab] _ _ _ (HT.out.ext (hx.tr hx1)) hrc (by rw [fla_two]; have := HLL.out; simp; omega) (by simp)
        rw [fla_two, show [b] ++ lab = b :: lab from rfl, ← hC] at hcode
        have HCODE := Lib.hid hcode
        have HC := Lib.hid hClt
        have HSTEP := Lib.hid hstep
        have HLEN := Lib.hid hlen
        have HO := Lib.hid (ho.ext hx1)
        have HK2 := Lib.hid (hK.ext hx1)
        have HK0 := Lib.hid hK
        have HT2 := Lib.hid (hT.ext hx1)
        have HX := Lib.hid (hx.tr hx1)
        have HAP := Lib.hid hap
        have HGW := Lib.hid (Nat.lt_of_lt_of_le hgw hx1.size)
        have hqq : q ≤ 32 := by omega
        have HQR := Lib.hid hr
        have HQ := Lib.hid hq
        have HL2 := Lib.hid hl2
        clear hr hl hl2 ho hK hT hap hgw hx hx1 hrb hrc hcode hClt hstep hlen hcdl hC hp hb2 hb1 hq
        have hbl := btl_len 32 C
        by_cases h32 : 32 ≤ r
        · have h32a : (32 : Int) ≤ (r : Int) := by omega
          have h32b : ¬ (r : Int) < 32 := by omega
          have eq32 : q = 32 := by have := HQ.out; omega
          rw [eq32] at HSTEP
          have htl : ((btl 32 C).take 32).length = 32 := by rw [List.length_take, hbl]; omega
          have HTL := Lib.hid htl
          have hge32 : n - l ≥ 32 := by have := HQR.out; omega
          clear hbl htl HQ eq32 hqq h32 hge32
          go_wp2_with (refine wpList_load_arr rfl 98 (.tmp 7) rfl gk rfl 98 .u8 64 F _ HK0.out Tryz.underlying98 size_key ?_)
          refine HCODE.out.mono ?_
          rintro e w2 ⟨rfl, hx2⟩
          have HO3 := Lib.hid (HO.out.ext hx2)
          have HK3 := Lib.hid (HK2.out.ext hx2)
          have HT3 := Lib.hid (HT2.out.ext hx2)
          have HX3 := Lib.hid (HX.out.tr hx2)
          have HG3 := Lib.hid (Nat.lt_of_lt_of_le HGW.out hx2.size)
          clear hx2 HCODE HO HK2 HK0 HT2 HX HGW
          go_wp2_with (first
            | (refine wpList_store_arr rfl 53 (.tmp 11) (.tmp 35) rfl w2.heap.size .u8 32 C rfl rfl 53 _ (new_of _ _) size_dig rfl ?_
               intro w3 hA3 hG3'
               have hx3 : Ext w2 w3 := grown_new (Ext.alloc _ _) hG3' (fun g hg => by simp at hg; omega)
               have HO4 := Lib.hid (HO3.out.ext hx3)
               have HK4 := Lib.hid (HK3.out.ext hx3)
               have HT4 := Lib.hid (HT3.out.ext hx3)
               have HX4 := Lib.hid (HX3.out.tr hx3)
               have HG4 := Lib.hid (Nat.lt_of_lt_of_le HG3.out hx3.size)
               have HC4 := Lib.hid (hA3.rb HC.out)
               have hle4 := HX4.out.size
               clear hx3 hA3 hG3')
            | (at_builtin; refine wpList_append_bytes _ rfl (.tmp 36) (.tmp 42) 31 rfl w.heap.size 5 i0 Tryz.underlying31 hi0 hz0 hz1 hz2 A c p (by rw [HLEN.out]; rfl) HO4.out _ (some ⟨w2.heap.size, 0, none⟩) 32 ((btl 32 C).take 32) (by rw [HTL.out]; rfl) (HC4.out.take 32) (by rw [HLEN.out, HTL.out]; omega) hle4 ?_
               intro A5 c5 w5 ho5 hg5 hb5))
          rw [HLEN.out] at hg5 hb5
          have hT5 := HT4.out.grown hg5 (fun g t hgt e => HAP.out (by rw [e, hgt.1]))
          have hK5 : Arr w5 gk 98 .u8 64 F := grown_get hg5 HK4.out (by have := HO4.out.notAt HK4.out (by decide); rw [HLEN.out] at this; exact this)
          have hx5 : Ext w w5 := grown_new HX4.out hg5 (by have := HO4.out.ge; rw [HLEN.out] at this; exact this)
          have hap5 : (Value.slice A5 (p ++ (btl 32 C).take 32).length c5).ownBlock ≠ some gt := by
            rcases hb5 with hb5 | hb5
            · rw [hb5]; exact HAP.out
            · rw [hb5]
              intro e
              injection e with e
              have := HG4.out
              omega
          have hg6 : gt < w5.heap.size := Nat.lt_of_lt_of_le HG4.out hg5.size
          have hl5 : (p ++ (btl 32 C).take 32).length = l + 32 := by rw [List.length_append, HLEN.out, HTL.out]
          rw [hl5] at hap5
          rw [HSTEP.out] at ho5
          clear hg5 hb5
          go_roundw
          case rel => exact ⟨m + 1, A5, c5, l + 32, by have := HL2.out; omega, rfl, by have := HL2.out; have := HQR.out; omega, by rw [btl_len, Nat.min_eq_left (by omega), HLEN.out], ho5, hK5, hT5, hap5, hg6, hx5⟩
          case measure => simp [lenOf, btl_len, HLEN.out]; omega
        · have h32a : ¬ (32 : Int) ≤ (r : Int) := by omega
          have h32b : (r : Int) < 32 := by omega
          have eq32 : q = r := by have := HQ.out; omega
          rw [eq32] at HSTEP
          have htl : ((btl 32 C).take r).length = r := by rw [List.length_take, hbl]; omega
          have HTL := Lib.hid htl
          have hr0 : 0 < r := by have := HQR.out; omega
          have hr32 : r ≤ 32 := by omega
          clear hbl htl HQ eq32 hqq h32
          go_wp2_with (refine wpList_load_arr rfl 98 (.tmp 7) rfl gk rfl 98 .u8 64 F _ HK0.out Tryz.underlying98 size_key ?_)
          refine HCODE.out.mono ?_
          rintro e w2 ⟨rfl, hx2⟩
          have hsl := fun W => run_slice_arr_hi (P := Tryz.prog) (t := 53) Tryz.underlying53 size_u8 w2.heap.size r hr32 (by decide) (r : Int) rfl W
          have HO3 := Lib.hid (HO.out.ext hx2)
          have HK3 := Lib.hid (HK2.out.ext hx2)
          have HT3 := Lib.hid (HT2.out.ext hx2)
          have HX3 := Lib.hid (HX.out.tr hx2)
          have HG3 := Lib.hid (Nat.lt_of_lt_of_le HGW.out hx2.size)
          clear hx2 HCODE HO HK2 HK0 HT2 HX HGW
          go_wp2_with (first
            | (refine wpList_store_arr rfl 53 (.tmp 11) (.tmp 35) rfl w2.heap.size .u8 32 C rfl rfl 53 _ (new_of _ _) size_dig rfl ?_
               intro w3 hA3 hG3'
               have hx3 : Ext w2 w3 := grown_new (Ext.alloc _ _) hG3' (fun g hg => by simp at hg; omega)
               have HO4 := Lib.hid (HO3.out.ext hx3)
               have HK4 := Lib.hid (HK3.out.ext hx3)
               have HT4 := Lib.hid (HT3.out.ext hx3)
               have HX4 := Lib.hid (HX3.out.tr hx3)
               have HG4 := Lib.hid (Nat.lt_of_lt_of_le HG3.out hx3.size)
               have HC4 := Lib.hid (hA3.rb HC.out)
               have hle4 := HX4.out.size
               clear hx3 hA3 hG3')
            | (at_builtin; refine wpList_append_bytes _ rfl (.tmp 36) (.tmp 42) 31 rfl w.heap.size 5 i0 Tryz.underlying31 hi0 hz0 hz1 hz2 A c p (by rw [HLEN.out]; rfl) HO4.out _ (some ⟨w2.heap.size, 0, none⟩) 32 ((btl 32 C).take r) (by rw [HTL.out]; rfl) (HC4.out.take r) (by rw [HLEN.out, HTL.out]; omega) hle4 ?_
               intro A5 c5 w5 ho5 hg5 hb5))
          rw [HLEN.out] at hg5 hb5
          have hT5 := HT4.out.grown hg5 (fun g t hgt e => HAP.out (by rw [e, hgt.1]))
          have hK5 : Arr w5 gk 98 .u8 64 F := grown_get hg5 HK4.out (by have := HO4.out.notAt HK4.out (by decide); rw [HLEN.out] at this; exact this)
          have hx5 : Ext w w5 := grown_new HX4.out hg5 (by have := HO4.out.ge; rw [HLEN.out] at this; exact this)
          have hap5 : (Value.slice A5 (p ++ (btl 32 C).take r).length c5).ownBlock ≠ some gt := by
            rcases hb5 with hb5 | hb5
            · rw [hb5]; exact HAP.out
            · rw [hb5]
              intro e
              injection e with e
              have := HG4.out
              omega
          have hg6 : gt < w5.heap.size := Nat.lt_of_lt_of_le HG4.out hg5.size
          have hl5 : (p ++ (btl 32 C).take r).length = l + r := by rw [List.length_append, HLEN.out, HTL.out]
          rw [hl5] at hap5
          rw [HSTEP.out] at ho5
          clear hg5 hb5
          go_roundw
          case rel => exact ⟨m + 1, A5, c5, l + r, by have := HL2.out; omega, rfl, by have := HL2.out; have := HQR.out; omega, by rw [btl_len, Nat.min_eq_left (by omega), HLEN.out], ho5, hK5, hT5, hap5, hg6, hx5⟩
          case measure => simp [lenOf, btl_len, HLEN.out]; omega
      · have hl2 : l = n := by omega
        have t3 : decide ((l : Int) < (n : Int)) = false := decide_eq_false (by omega)
        have hdr := drv_at F lab n m (by omega)
        have hln := dv_take_len F lab m n
        rw [hdr] at ho
        have HO := Lib.hid ho
        have HX := Lib.hid hx
        have HL2 := Lib.hid hl2
        clear hl hl2 ho hx hdr hln hK hT hap hgw
        go_wp2_with fail
        go_ret
        exact ⟨A, c, by rw [← HL2.out]; rfl, by rw [← HF.out]; exact HO.out, HX.out⟩

  obtain ⟨v0, hv0⟩ : ∃ x, x = w.drew := ⟨_, rfl⟩
  have FE : Ext w v0 := by rw [hv0]; exact Ext.drew _
  refine wp_region_held_drew (S := fun _ => True) (by kernel_rfl) trivial (fun _ => ?_)
  rw [← hv0]
  clear hv0
  refine wpAnyH_take_move 0 rfl (by kernel_rfl) (by kernel_rfl) (by kernel_rfl) (fun _ _ _ _ h => PD.calm h) (by kernel_rfl) (.tmp 0) rfl (.slice ka key.length ck) rfl trivial ?_
  refine wpAnyH_take_move 2 rfl (by kernel_rfl) (by kernel_rfl) (by kernel_rfl) (fun _ _ _ _ h => PD.calm h) (by kernel_rfl) (.tmp 1) rfl (.string s) rfl trivial ?_
  refine wpAnyH_take_move 4 rfl (by kernel_rfl) (by kernel_rfl) (by kernel_rfl) (fun _ _ _ _ h => PD.calm h) (by kernel_rfl) (.tmp 2) rfl (.int .i64 n) rfl trivial ?_
  try simp only [Act.put, List.setIfInBounds_toArray, List.set_cons_zero, List.set_cons_succ]
  refine wpAnyH_ready (rs := [1, 3, 5, 6]) (by kernel_rfl) (by simp) ?_
  refine AllReadyH.cons rfl (fun K hK => ?_) (AllReadyH.cons rfl (fun K hK => ?_) (AllReadyH.cons rfl (fun K hK => ?_) (AllReadyH.cons rfl (fun K hK => ?_) AllReadyH.nil)))
  · skip
    go_simp
    refine (padded_c ka ck key SK _ (HT.out.ext FE) (HK.out.ext FE) HKL.out HKC.out hkm).mono ?_
    rintro e v1 ⟨rfl, hE⟩
    (try replace FT := FT.ext hE)
    (try replace FT2 := Nat.lt_of_lt_of_le FT2 hE.size)
    (try replace FS := FS.ext hE)
    (try replace FK := FK.ext hE)
    replace FE := FE.tr hE
    clear hE
    refine hK.out _ _ trivial (fun _ => ?_)
    clear hK K
    try simp only [Act.put, List.setIfInBounds_toArray, List.set_cons_zero, List.set_cons_succ]
    refine wpAnyH_ready (rs := [3, 5, 6]) (by kernel_rfl) (by simp) ?_
    refine AllReadyH.cons rfl (fun K hK => ?_) (AllReadyH.cons rfl (fun K hK => ?_) (AllReadyH.cons rfl (fun K hK => ?_) AllReadyH.nil))
    · skip
      refine step_convert_str _ rfl 9 31 (.tmp 20) rfl 5 Tryz.underlying9 Tryz.underlying31 Tryz.underlying5 s lab.length rfl (by rw [HLAB.out]) (by have := HLL.out; unfold maxLen; omega) ?_
      intro gt ct v2 FT FTc FTm hge FT2 hE
      rw [HLAB.out] at FT
      have hgt : w.heap.size ≤ gt := Nat.le_trans FE.size hge
      clear hge
      (try replace FS := FS.ext hE)
      (try replace FK := FK.ext hE)
      replace FE := FE.tr hE
      clear hE
      refine hK.out _ _ trivial (fun _ => ?_)
      clear hK K
      try simp only [Act.put, List.setIfInBounds_toArray, List.set_cons_zero, List.set_cons_succ]
      refine wpAnyH_ready (rs := [5, 6]) (by kernel_rfl) (by simp) ?_
      refine AllReadyH.cons rfl (fun K hK => ?_) (AllReadyH.cons rfl (fun K hK => ?_) AllReadyH.nil)
      · skip
        refine step_make0 _ rfl (.const (.int .i64 0)) (.tmp 22) 31 rfl 5 i0 Tryz.underlying31 hi0 hz0 hz1 hz2 .i64 .i64 n rfl rfl (by omega) w.heap.size FE.size ?_
        intro gs v3 FS hge hE
        have hne : gs ≠ gt := by omega
        clear hge
        (try replace FT := FT.ext hE)
        (try replace FT2 := Nat.lt_of_lt_of_le FT2 hE.size)
        (try replace FK := FK.ext hE)
        replace FE := FE.tr hE
        clear hE
        refine hK.out _ _ trivial (fun _ => ?_)
        clear hK K
        try simp only [Act.put, List.setIfInBounds_toArray, List.set_cons_zero, List.set_cons_succ]
        refine wpAnyH_ready (rs := [6]) (by kernel_rfl) (by simp) ?_
        refine AllReadyH.cons rfl (fun K hK => ?_) AllReadyH.nil
        go_simp
        change K _ (World.alloc v3 (.cells (tabV .u8 64 (fun _ => 0)) 98))
        have hE : Ext v3 (World.alloc v3 (.cells (tabV .u8 64 (fun _ => 0)) 98)) := Ext.alloc _ _
        have FK : Arr (World.alloc v3 (.cells (tabV .u8 64 (fun _ => 0)) 98)) v3.heap.size 98 .u8 64 (fun _ => 0) := new_of _ _
        have hgk := FE.size
        obtain ⟨gk, hgk0⟩ : ∃ g, g = v3.heap.size := ⟨_, rfl⟩
        rw [← hgk0] at FK hgk ⊢
        obtain ⟨v4, hv⟩ : ∃ x, x = World.alloc v3 (.cells (tabV .u8 64 (fun _ => 0)) 98) := ⟨_, rfl⟩
        rw [← hv] at FK hE ⊢
        clear hv hgk0
        (try replace FT := FT.ext hE)
        (try replace FT2 := Nat.lt_of_lt_of_le FT2 hE.size)
        (try replace FS := FS.ext hE)
        replace FE := FE.tr hE
        clear hE
        refine hK.out _ _ trivial (fun _ => ?_)
        clear hK K
        try simp only [Act.put, List.setIfInBounds_toArray, List.set_cons_zero, List.set_cons_succ]
        refine wpAnyH_ready (rs := [7]) (by kernel_rfl) (by simp) ?_
        refine AllReadyH.cons rfl (fun K hK => ?_) AllReadyH.nil
        refine step_store_arr _ rfl 98 (.tmp 7) (.tmp 19) rfl gk .u8 64 (byt (kb key)) _ rfl rfl 98 FK size_key ?_
        intro v5 FK2 hG
        (try replace FT := FT.far hG FK (fun g' h => absurd h.2 (by decide)))
        (try replace FT2 := Nat.lt_of_lt_of_le FT2 hG.size)
        (try replace FS := FS.far hG FK (by decide))
        replace FE := grown_new FE hG (fun g hg => by simp at hg; omega)
        replace FK := FK2
        clear FK2 hG
        refine hK.out _ _ trivial (fun _ => ?_)
        clear hK K
        try simp only [Act.put, List.setIfInBounds_toArray, List.set_cons_zero, List.set_cons_succ]
        refine wpAnyH_ready (rs := [8]) (by kernel_rfl) (by simp) ?_
        refine AllReadyH.cons rfl (fun K hK => ?_) AllReadyH.nil
        go_simp
        refine hK.out _ _ trivial (fun _ => ?_)
        clear hK K
        try simp only [Act.put, List.setIfInBounds_toArray, List.set_cons_zero, List.set_cons_succ]
        refine wpAnyH_ready (rs := [9]) (by kernel_rfl) (by simp) ?_
        refine AllReadyH.cons rfl (fun K hK => ?_) AllReadyH.nil
        go_simp
        refine hK.out _ _ trivial (fun _ => ?_)
        clear hK K
        try simp only [Act.put, List.setIfInBounds_toArray, List.set_cons_zero, List.set_cons_succ]
        refine wpAnyH_done (by kernel_rfl) ?_ _
        exact PD.mk FK FT FTc FTm FS hne hgk hgt FT2 FE
      · skip
        go_simp
        change K _ (World.alloc v2 (.cells (tabV .u8 64 (fun _ => 0)) 98))
        have hE : Ext v2 (World.alloc v2 (.cells (tabV .u8 64 (fun _ => 0)) 98)) := Ext.alloc _ _
        have FK : Arr (World.alloc v2 (.cells (tabV .u8 64 (fun _ => 0)) 98)) v2.heap.size 98 .u8 64 (fun _ => 0) := new_of _ _
        have hgk := FE.size
        obtain ⟨gk, hgk0⟩ : ∃ g, g = v2.heap.size := ⟨_, rfl⟩
        rw [← hgk0] at FK hgk ⊢
        obtain ⟨v3, hv⟩ : ∃ x, x = World.alloc v2 (.cells (tabV .u8 64 (fun _ => 0)) 98) := ⟨_, rfl⟩
        rw [← hv] at FK hE ⊢
        clear hv hgk0
        (try replace FT := FT.ext hE)
        (try replace FT2 := Nat.lt_of_lt_of_le FT2 hE.size)
        (try replace FS := FS.ext hE)
        replace FE := FE.tr hE
        clear hE
        refine hK.out _ _ trivial (fun _ => ?_)
        clear hK K
        try simp only [Act.put, List.setIfInBounds_toArray, List.set_cons_zero, List.set_cons_succ]
        refine wpAnyH_ready (rs := [5, 7]) (by kernel_rfl) (by simp) ?_
        refine AllReadyH.cons rfl (fun K hK => ?_) (AllReadyH.cons rfl (fun K hK => ?_) AllReadyH.nil)
        · skip
          refine step_make0 _ rfl (.const (.int .i64 0)) (.tmp 22) 31 rfl 5 i0 Tryz.underlying31 hi0 hz0 hz1 hz2 .i64 .i64 n rfl rfl (by omega) w.heap.size FE.size ?_
          intro gs v4 FS hge hE
          have hne : gs ≠ gt := by omega
          clear hge
          (try replace FT := FT.ext hE)
          (try replace FT2 := Nat.lt_of_lt_of_le FT2 hE.size)
          (try replace FK := FK.ext hE)
          replace FE := FE.tr hE
          clear hE
          refine hK.out _ _ trivial (fun _ => ?_)
          clear hK K
          try simp only [Act.put, List.setIfInBounds_toArray, List.set_cons_zero, List.set_cons_succ]
          refine wpAnyH_ready (rs := [7]) (by kernel_rfl) (by simp) ?_
          refine AllReadyH.cons rfl (fun K hK => ?_) AllReadyH.nil
          refine step_store_arr _ rfl 98 (.tmp 7) (.tmp 19) rfl gk .u8 64 (byt (kb key)) _ rfl rfl 98 FK size_key ?_
          intro v5 FK2 hG
          (try replace FT := FT.far hG FK (fun g' h => absurd h.2 (by decide)))
          (try replace FT2 := Nat.lt_of_lt_of_le FT2 hG.size)
          (try replace FS := FS.far hG FK (by decide))
          replace FE := grown_new FE hG (fun g hg => by simp at hg; omega)
          replace FK := FK2
          clear FK2 hG
          refine hK.out _ _ trivial (fun _ => ?_)
          clear hK K
          try simp only [Act.put, List.setIfInBounds_toArray, List.set_cons_zero, List.set_cons_succ]
          refine wpAnyH_ready (rs := [8]) (by kernel_rfl) (by simp) ?_
          refine AllReadyH.cons rfl (fun K hK => ?_) AllReadyH.nil
          go_simp
          refine hK.out _ _ trivial (fun _ => ?_)
          clear hK K
          try simp only [Act.put, List.setIfInBounds_toArray, List.set_cons_zero, List.set_cons_succ]
          refine wpAnyH_ready (rs := [9]) (by kernel_rfl) (by simp) ?_
          refine AllReadyH.cons rfl (fun K hK => ?_) AllReadyH.nil
          go_simp
          refine hK.out _ _ trivial (fun _ => ?_)
          clear hK K
          try simp only [Act.put, List.setIfInBounds_toArray, List.set_cons_zero, List.set_cons_succ]
          refine wpAnyH_done (by kernel_rfl) ?_ _
          exact PD.mk FK FT FTc FTm FS hne hgk hgt FT2 FE
        · skip
          refine step_store_arr _ rfl 98 (.tmp 7) (.tmp 19) rfl gk .u8 64 (byt (kb key)) _ rfl rfl 98 FK size_key ?_
          intro v4 FK2 hG
          (try replace FT := FT.far hG FK (fun g' h => absurd h.2 (by decide)))
          (try replace FT2 := Nat.lt_of_lt_of_le FT2 hG.size)
          (try replace FS := FS.far hG FK (by decide))
          replace FE := grown_new FE hG (fun g hg => by simp at hg; omega)
          replace FK := FK2
          clear FK2 hG
          refine hK.out _ _ trivial (fun _ => ?_)
          clear hK K
          try simp only [Act.put, List.setIfInBounds_toArray, List.set_cons_zero, List.set_cons_succ]
          refine wpAnyH_take_asg 8 rfl (by kernel_rfl) (by kernel_rfl) (by kernel_rfl) (fun _ _ _ _ h => PD.calm h) (by kernel_rfl) (.tmp 21) rfl (.slice (some ⟨gt, 0, none⟩) lab.length ct) rfl trivial ?_
          try simp only [Act.put, List.setIfInBounds_toArray, List.set_cons_zero, List.set_cons_succ]
          refine wpAnyH_ready (rs := [5]) (by kernel_rfl) (by simp) ?_
          refine AllReadyH.cons rfl (fun K hK => ?_) AllReadyH.nil
          refine step_make0 _ rfl (.const (.int .i64 0)) (.tmp 22) 31 rfl 5 i0 Tryz.underlying31 hi0 hz0 hz1 hz2 .i64 .i64 n rfl rfl (by omega) w.heap.size FE.size ?_
          intro gs v6 FS hge hE
          have hne : gs ≠ gt := by omega
          clear hge
          (try replace FT := FT.ext hE)
          (try replace FT2 := Nat.lt_of_lt_of_le FT2 hE.size)
          (try replace FK := FK.ext hE)
          replace FE := FE.tr hE
          clear hE
          refine hK.out _ _ trivial (fun _ => ?_)
          clear hK K
          try simp only [Act.put, List.setIfInBounds_toArray, List.set_cons_zero, List.set_cons_succ]
          refine wpAnyH_ready (rs := [9]) (by kernel_rfl) (by simp) ?_
          refine AllReadyH.cons rfl (fun K hK => ?_) AllReadyH.nil
          go_simp
          refine hK.out _ _ trivial (fun _ => ?_)
          clear hK K
          try simp only [Act.put, List.setIfInBounds_toArray, List.set_cons_zero, List.set_cons_succ]
          refine wpAnyH_done (by kernel_rfl) ?_ _
          exact PD.mk FK FT FTc FTm FS hne hgk hgt FT2 FE
    · skip
      refine step_make0 _ rfl (.const (.int .i64 0)) (.tmp 22) 31 rfl 5 i0 Tryz.underlying31 hi0 hz0 hz1 hz2 .i64 .i64 n rfl rfl (by omega) w.heap.size FE.size ?_
      intro gs v2 FS hge hE
      clear hge
      (try replace FT := FT.ext hE)
      (try replace FT2 := Nat.lt_of_lt_of_le FT2 hE.size)
      (try replace FK := FK.ext hE)
      replace FE := FE.tr hE
      clear hE
      refine hK.out _ _ trivial (fun _ => ?_)
      clear hK K
      try simp only [Act.put, List.setIfInBounds_toArray, List.set_cons_zero, List.set_cons_succ]
      refine wpAnyH_ready (rs := [3, 6]) (by kernel_rfl) (by simp) ?_
      refine AllReadyH.cons rfl (fun K hK => ?_) (AllReadyH.cons rfl (fun K hK => ?_) AllReadyH.nil)
      · skip
        refine step_convert_str _ rfl 9 31 (.tmp 20) rfl 5 Tryz.underlying9 Tryz.underlying31 Tryz.underlying5 s lab.length rfl (by rw [HLAB.out]) (by have := HLL.out; unfold maxLen; omega) ?_
        intro gt ct v3 FT FTc FTm hge FT2 hE
        rw [HLAB.out] at FT
        have hne : gs ≠ gt := by have := FS.at_.2; omega
        have hgt : w.heap.size ≤ gt := Nat.le_trans FE.size hge
        clear hge
        (try replace FS := FS.ext hE)
        (try replace FK := FK.ext hE)
        replace FE := FE.tr hE
        clear hE
        refine hK.out _ _ trivial (fun _ => ?_)
        clear hK K
        try simp only [Act.put, List.setIfInBounds_toArray, List.set_cons_zero, List.set_cons_succ]
        refine wpAnyH_ready (rs := [6]) (by kernel_rfl) (by simp) ?_
        refine AllReadyH.cons rfl (fun K hK => ?_) AllReadyH.nil
        go_simp
        change K _ (World.alloc v3 (.cells (tabV .u8 64 (fun _ => 0)) 98))
        have hE : Ext v3 (World.alloc v3 (.cells (tabV .u8 64 (fun _ => 0)) 98)) := Ext.alloc _ _
        have FK : Arr (World.alloc v3 (.cells (tabV .u8 64 (fun _ => 0)) 98)) v3.heap.size 98 .u8 64 (fun _ => 0) := new_of _ _
        have hgk := FE.size
        obtain ⟨gk, hgk0⟩ : ∃ g, g = v3.heap.size := ⟨_, rfl⟩
        rw [← hgk0] at FK hgk ⊢
        obtain ⟨v4, hv⟩ : ∃ x, x = World.alloc v3 (.cells (tabV .u8 64 (fun _ => 0)) 98) := ⟨_, rfl⟩
        rw [← hv] at FK hE ⊢
        clear hv hgk0
        (try replace FT := FT.ext hE)
        (try replace FT2 := Nat.lt_of_lt_of_le FT2 hE.size)
        (try replace FS := FS.ext hE)
        replace FE := FE.tr hE
        clear hE
        refine hK.out _ _ trivial (fun _ => ?_)
        clear hK K
        try simp only [Act.put, List.setIfInBounds_toArray, List.set_cons_zero, List.set_cons_succ]
        refine wpAnyH_ready (rs := [7]) (by kernel_rfl) (by simp) ?_
        refine AllReadyH.cons rfl (fun K hK => ?_) AllReadyH.nil
        refine step_store_arr _ rfl 98 (.tmp 7) (.tmp 19) rfl gk .u8 64 (byt (kb key)) _ rfl rfl 98 FK size_key ?_
        intro v5 FK2 hG
        (try replace FT := FT.far hG FK (fun g' h => absurd h.2 (by decide)))
        (try replace FT2 := Nat.lt_of_lt_of_le FT2 hG.size)
        (try replace FS := FS.far hG FK (by decide))
        replace FE := grown_new FE hG (fun g hg => by simp at hg; omega)
        replace FK := FK2
        clear FK2 hG
        refine hK.out _ _ trivial (fun _ => ?_)
        clear hK K
        try simp only [Act.put, List.setIfInBounds_toArray, List.set_cons_zero, List.set_cons_succ]
        refine wpAnyH_ready (rs := [8]) (by kernel_rfl) (by simp) ?_
        refine AllReadyH.cons rfl (fun K hK => ?_) AllReadyH.nil
        go_simp
        refine hK.out _ _ trivial (fun _ => ?_)
        clear hK K
        try simp only [Act.put, List.setIfInBounds_toArray, List.set_cons_zero, List.set_cons_succ]
        refine wpAnyH_ready (rs := [9]) (by kernel_rfl) (by simp) ?_
        refine AllReadyH.cons rfl (fun K hK => ?_) AllReadyH.nil
        go_simp
        refine hK.out _ _ trivial (fun _ => ?_)
        clear hK K
        try simp only [Act.put, List.setIfInBounds_toArray, List.set_cons_zero, List.set_cons_succ]
        refine wpAnyH_done (by kernel_rfl) ?_ _
        exact PD.mk FK FT FTc FTm FS hne hgk hgt FT2 FE
      · skip
        go_simp
        change K _ (World.alloc v2 (.cells (tabV .u8 64 (fun _ => 0)) 98))
        have hE : Ext v2 (World.alloc v2 (.cells (tabV .u8 64 (fun _ => 0)) 98)) := Ext.alloc _ _
        have FK : Arr (World.alloc v2 (.cells (tabV .u8 64 (fun _ => 0)) 98)) v2.heap.size 98 .u8 64 (fun _ => 0) := new_of _ _
        have hgk := FE.size
        obtain ⟨gk, hgk0⟩ : ∃ g, g = v2.heap.size := ⟨_, rfl⟩
        rw [← hgk0] at FK hgk ⊢
        obtain ⟨v3, hv⟩ : ∃ x, x = World.alloc v2 (.cells (tabV .u8 64 (fun _ => 0)) 98) := ⟨_, rfl⟩
        rw [← hv] at FK hE ⊢
        clear hv hgk0
        (try replace FT := FT.ext hE)
        (try replace FT2 := Nat.lt_of_lt_of_le FT2 hE.size)
        (try replace FS := FS.ext hE)
        replace FE := FE.tr hE
        clear hE
        refine hK.out _ _ trivial (fun _ => ?_)
        clear hK K
        try simp only [Act.put, List.setIfInBounds_toArray, List.set_cons_zero, List.set_cons_succ]
        refine wpAnyH_ready (rs := [3, 7]) (by kernel_rfl) (by simp) ?_
        refine AllReadyH.cons rfl (fun K hK => ?_) (AllReadyH.cons rfl (fun K hK => ?_) AllReadyH.nil)
        · skip
          refine step_convert_str _ rfl 9 31 (.tmp 20) rfl 5 Tryz.underlying9 Tryz.underlying31 Tryz.underlying5 s lab.length rfl (by rw [HLAB.out]) (by have := HLL.out; unfold maxLen; omega) ?_
          intro gt ct v4 FT FTc FTm hge FT2 hE
          rw [HLAB.out] at FT
          have hne : gs ≠ gt := by have := FS.at_.2; omega
          have hgt : w.heap.size ≤ gt := Nat.le_trans FE.size hge
          clear hge
          (try replace FS := FS.ext hE)
          (try replace FK := FK.ext hE)
          replace FE := FE.tr hE
          clear hE
          refine hK.out _ _ trivial (fun _ => ?_)
          clear hK K
          try simp only [Act.put, List.setIfInBounds_toArray, List.set_cons_zero, List.set_cons_succ]
          refine wpAnyH_ready (rs := [7]) (by kernel_rfl) (by simp) ?_
          refine AllReadyH.cons rfl (fun K hK => ?_) AllReadyH.nil
          refine step_store_arr _ rfl 98 (.tmp 7) (.tmp 19) rfl gk .u8 64 (byt (kb key)) _ rfl rfl 98 FK size_key ?_
          intro v5 FK2 hG
          (try replace FT := FT.far hG FK (fun g' h => absurd h.2 (by decide)))
          (try replace FT2 := Nat.lt_of_lt_of_le FT2 hG.size)
          (try replace FS := FS.far hG FK (by decide))
          replace FE := grown_new FE hG (fun g hg => by simp at hg; omega)
          replace FK := FK2
          clear FK2 hG
          refine hK.out _ _ trivial (fun _ => ?_)
          clear hK K
          try simp only [Act.put, List.setIfInBounds_toArray, List.set_cons_zero, List.set_cons_succ]
          refine wpAnyH_ready (rs := [8]) (by kernel_rfl) (by simp) ?_
          refine AllReadyH.cons rfl (fun K hK => ?_) AllReadyH.nil
          go_simp
          refine hK.out _ _ trivial (fun _ => ?_)
          clear hK K
          try simp only [Act.put, List.setIfInBounds_toArray, List.set_cons_zero, List.set_cons_succ]
          refine wpAnyH_ready (rs := [9]) (by kernel_rfl) (by simp) ?_
          refine AllReadyH.cons rfl (fun K hK => ?_) AllReadyH.nil
          go_simp
          refine hK.out _ _ trivial (fun _ => ?_)
          clear hK K
          try simp only [Act.put, List.setIfInBounds_toArray, List.set_cons_zero, List.set_cons_succ]
          refine wpAnyH_done (by kernel_rfl) ?_ _
          exact PD.mk FK FT FTc FTm FS hne hgk hgt FT2 FE
        · skip
          refine step_store_arr _ rfl 98 (.tmp 7) (.tmp 19) rfl gk .u8 64 (byt (kb key)) _ rfl rfl 98 FK size_key ?_
          intro v4 FK2 hG
          (try replace FT := FT.far hG FK (fun g' h => absurd h.2 (by decide)))
          (try replace FT2 := Nat.lt_of_lt_of_le FT2 hG.size)
          (try replace FS := FS.far hG FK (by decide))
          replace FE := grown_new FE hG (fun g hg => by simp at hg; omega)
          replace FK := FK2
          clear FK2 hG
          refine hK.out _ _ trivial (fun _ => ?_)
          clear hK K
          try simp only [Act.put, List.setIfInBounds_toArray, List.set_cons_zero, List.set_cons_succ]
          refine wpAnyH_ready (rs := [3]) (by kernel_rfl) (by simp) ?_
          refine AllReadyH.cons rfl (fun K hK => ?_) AllReadyH.nil
          refine step_convert_str _ rfl 9 31 (.tmp 20) rfl 5 Tryz.underlying9 Tryz.underlying31 Tryz.underlying5 s lab.length rfl (by rw [HLAB.out]) (by have := HLL.out; unfold maxLen; omega) ?_
          intro gt ct v5 FT FTc FTm hge FT2 hE
          rw [HLAB.out] at FT
          have hne : gs ≠ gt := by have := FS.at_.2; omega
          have hgt : w.heap.size ≤ gt := Nat.le_trans FE.size hge
          clear hge
          (try replace FS := FS.ext hE)
          (try replace FK := FK.ext hE)
          replace FE := FE.tr hE
          clear hE
          refine hK.out _ _ trivial (fun _ => ?_)
          clear hK K
          try simp only [Act.put, List.setIfInBounds_toArray, List.set_cons_zero, List.set_cons_succ]
          refine wpAnyH_ready (rs := [8]) (by kernel_rfl) (by simp) ?_
          refine AllReadyH.cons rfl (fun K hK => ?_) AllReadyH.nil
          go_simp
          refine hK.out _ _ trivial (fun _ => ?_)
          clear hK K
          try simp only [Act.put, List.setIfInBounds_toArray, List.set_cons_zero, List.set_cons_succ]
          refine wpAnyH_ready (rs := [9]) (by kernel_rfl) (by simp) ?_
          refine AllReadyH.cons rfl (fun K hK => ?_) AllReadyH.nil
          go_simp
          refine hK.out _ _ trivial (fun _ => ?_)
          clear hK K
          try simp only [Act.put, List.setIfInBounds_toArray, List.set_cons_zero, List.set_cons_succ]
          refine wpAnyH_done (by kernel_rfl) ?_ _
          exact PD.mk FK FT FTc FTm FS hne hgk hgt FT2 FE
    · skip
      go_simp
      change K _ (World.alloc v1 (.cells (tabV .u8 64 (fun _ => 0)) 98))
      have hE : Ext v1 (World.alloc v1 (.cells (tabV .u8 64 (fun _ => 0)) 98)) := Ext.alloc _ _
      have FK : Arr (World.alloc v1 (.cells (tabV .u8 64 (fun _ => 0)) 98)) v1.heap.size 98 .u8 64 (fun _ => 0) := new_of _ _
      have hgk := FE.size
      obtain ⟨gk, hgk0⟩ : ∃ g, g = v1.heap.size := ⟨_, rfl⟩
      rw [← hgk0] at FK hgk ⊢
      obtain ⟨v2, hv⟩ : ∃ x, x = World.alloc v1 (.cells (tabV .u8 64 (fun _ => 0)) 98) := ⟨_, rfl⟩
      rw [← hv] at FK hE ⊢
      clear hv hgk0
      (try replace FT := FT.ext hE)
      (try replace FT2 := Nat.lt_of_lt_of_le FT2 hE.size)
      (try replace FS := FS.ext hE)
      replace FE := FE.tr hE
      clear hE
      refine hK.out _ _ trivial (fun _ => ?_)
      clear hK K
      try simp only [Act.put, List.setIfInBounds_toArray, List.set_cons_zero, List.set_cons_succ]
      refine wpAnyH_ready (rs := [3, 5, 7]) (by kernel_rfl) (by simp) ?_
      refine AllReadyH.cons rfl (fun K hK => ?_) (AllReadyH.cons rfl (fun K hK => ?_) (AllReadyH.cons rfl (fun K hK => ?_) AllReadyH.nil))
      · skip
        refine step_convert_str _ rfl 9 31 (.tmp 20) rfl 5 Tryz.underlying9 Tryz.underlying31 Tryz.underlying5 s lab.length rfl (by rw [HLAB.out]) (by have := HLL.out; unfold maxLen; omega) ?_
        intro gt ct v3 FT FTc FTm hge FT2 hE
        rw [HLAB.out] at FT
        have hgt : w.heap.size ≤ gt := Nat.le_trans FE.size hge
        clear hge
        (try replace FS := FS.ext hE)
        (try replace FK := FK.ext hE)
        replace FE := FE.tr hE
        clear hE
        refine hK.out _ _ trivial (fun _ => ?_)
        clear hK K
        try simp only [Act.put, List.setIfInBounds_toArray, List.set_cons_zero, List.set_cons_succ]
        refine wpAnyH_ready (rs := [5, 7]) (by kernel_rfl) (by simp) ?_
        refine AllReadyH.cons rfl (fun K hK => ?_) (AllReadyH.cons rfl (fun K hK => ?_) AllReadyH.nil)
        · skip
          refine step_make0 _ rfl (.const (.int .i64 0)) (.tmp 22) 31 rfl 5 i0 Tryz.underlying31 hi0 hz0 hz1 hz2 .i64 .i64 n rfl rfl (by omega) w.heap.size FE.size ?_
          intro gs v4 FS hge hE
          have hne : gs ≠ gt := by omega
          clear hge
          (try replace FT := FT.ext hE)
          (try replace FT2 := Nat.lt_of_lt_of_le FT2 hE.size)
          (try replace FK := FK.ext hE)
          replace FE := FE.tr hE
          clear hE
          refine hK.out _ _ trivial (fun _ => ?_)
          clear hK K
          try simp only [Act.put, List.setIfInBounds_toArray, List.set_cons_zero, List.set_cons_succ]
          refine wpAnyH_ready (rs := [7]) (by kernel_rfl) (by simp) ?_
          refine AllReadyH.cons rfl (fun K hK => ?_) AllReadyH.nil
          refine step_store_arr _ rfl 98 (.tmp 7) (.tmp 19) rfl gk .u8 64 (byt (kb key)) _ rfl rfl 98 FK size_key ?_
          intro v5 FK2 hG
          (try replace FT := FT.far hG FK (fun g' h => absurd h.2 (by decide)))
          (try replace FT2 := Nat.lt_of_lt_of_le FT2 hG.size)
          (try replace FS := FS.far hG FK (by decide))
          replace FE := grown_new FE hG (fun g hg => by simp at hg; omega)
          replace FK := FK2
          clear FK2 hG
          refine hK.out _ _ trivial (fun _ => ?_)
          clear hK K
          try simp only [Act.put, List.setIfInBounds_toArray, List.set_cons_zero, List.set_cons_succ]
          refine wpAnyH_ready (rs := [8]) (by kernel_rfl) (by simp) ?_
          refine AllReadyH.cons rfl (fun K hK => ?_) AllReadyH.nil
          go_simp
          refine hK.out _ _ trivial (fun _ => ?_)
          clear hK K
          try simp only [Act.put, List.setIfInBounds_toArray, List.set_cons_zero, List.set_cons_succ]
          refine wpAnyH_ready (rs := [9]) (by kernel_rfl) (by simp) ?_
          refine AllReadyH.cons rfl (fun K hK => ?_) AllReadyH.nil
          go_simp
          refine hK.out _ _ trivial (fun _ => ?_)
          clear hK K
          try simp only [Act.put, List.setIfInBounds_toArray, List.set_cons_zero, List.set_cons_succ]
          refine wpAnyH_done (by kernel_rfl) ?_ _
          exact PD.mk FK FT FTc FTm FS hne hgk hgt FT2 FE
        · skip
          refine step_store_arr _ rfl 98 (.tmp 7) (.tmp 19) rfl gk .u8 64 (byt (kb key)) _ rfl rfl 98 FK size_key ?_
          intro v4 FK2 hG
          (try replace FT := FT.far hG FK (fun g' h => absurd h.2 (by decide)))
          (try replace FT2 := Nat.lt_of_lt_of_le FT2 hG.size)
          (try replace FS := FS.far hG FK (by decide))
          replace FE := grown_new FE hG (fun g hg => by simp at hg; omega)
          replace FK := FK2
          clear FK2 hG
          refine hK.out _ _ trivial (fun _ => ?_)
          clear hK K
          try simp only [Act.put, List.setIfInBounds_toArray, List.set_cons_zero, List.set_cons_succ]
          refine wpAnyH_take_asg 8 rfl (by kernel_rfl) (by kernel_rfl) (by kernel_rfl) (fun _ _ _ _ h => PD.calm h) (by kernel_rfl) (.tmp 21) rfl (.slice (some ⟨gt, 0, none⟩) lab.length ct) rfl trivial ?_
          try simp only [Act.put, List.setIfInBounds_toArray, List.set_cons_zero, List.set_cons_succ]
          refine wpAnyH_ready (rs := [5]) (by kernel_rfl) (by simp) ?_
          refine AllReadyH.cons rfl (fun K hK => ?_) AllReadyH.nil
          refine step_make0 _ rfl (.const (.int .i64 0)) (.tmp 22) 31 rfl 5 i0 Tryz.underlying31 hi0 hz0 hz1 hz2 .i64 .i64 n rfl rfl (by omega) w.heap.size FE.size ?_
          intro gs v6 FS hge hE
          have hne : gs ≠ gt := by omega
          clear hge
          (try replace FT := FT.ext hE)
          (try replace FT2 := Nat.lt_of_lt_of_le FT2 hE.size)
          (try replace FK := FK.ext hE)
          replace FE := FE.tr hE
          clear hE
          refine hK.out _ _ trivial (fun _ => ?_)
          clear hK K
          try simp only [Act.put, List.setIfInBounds_toArray, List.set_cons_zero, List.set_cons_succ]
          refine wpAnyH_ready (rs := [9]) (by kernel_rfl) (by simp) ?_
          refine AllReadyH.cons rfl (fun K hK => ?_) AllReadyH.nil
          go_simp
          refine hK.out _ _ trivial (fun _ => ?_)
          clear hK K
          try simp only [Act.put, List.setIfInBounds_toArray, List.set_cons_zero, List.set_cons_succ]
          refine wpAnyH_done (by kernel_rfl) ?_ _
          exact PD.mk FK FT FTc FTm FS hne hgk hgt FT2 FE
      · skip
        refine step_make0 _ rfl (.const (.int .i64 0)) (.tmp 22) 31 rfl 5 i0 Tryz.underlying31 hi0 hz0 hz1 hz2 .i64 .i64 n rfl rfl (by omega) w.heap.size FE.size ?_
        intro gs v3 FS hge hE
        clear hge
        (try replace FT := FT.ext hE)
        (try replace FT2 := Nat.lt_of_lt_of_le FT2 hE.size)
        (try replace FK := FK.ext hE)
        replace FE := FE.tr hE
        clear hE
        refine hK.out _ _ trivial (fun _ => ?_)
        clear hK K
        try simp only [Act.put, List.setIfInBounds_toArray, List.set_cons_zero, List.set_cons_succ]
        refine wpAnyH_ready (rs := [3, 7]) (by kernel_rfl) (by simp) ?_
        refine AllReadyH.cons rfl (fun K hK => ?_) (AllReadyH.cons rfl (fun K hK => ?_) AllReadyH.nil)
        · skip
          refine step_convert_str _ rfl 9 31 (.tmp 20) rfl 5 Tryz.underlying9 Tryz.underlying31 Tryz.underlying5 s lab.length rfl (by rw [HLAB.out]) (by have := HLL.out; unfold maxLen; omega) ?_
          intro gt ct v4 FT FTc FTm hge FT2 hE
          rw [HLAB.out] at FT
          have hne : gs ≠ gt := by have := FS.at_.2; omega
          have hgt : w.heap.size ≤ gt := Nat.le_trans FE.size hge
          clear hge
          (try replace FS := FS.ext hE)
          (try replace FK := FK.ext hE)
          replace FE := FE.tr hE
          clear hE
          refine hK.out _ _ trivial (fun _ => ?_)
          clear hK K
          try simp only [Act.put, List.setIfInBounds_toArray, List.set_cons_zero, List.set_cons_succ]
          refine wpAnyH_ready (rs := [7]) (by kernel_rfl) (by simp) ?_
          refine AllReadyH.cons rfl (fun K hK => ?_) AllReadyH.nil
          refine step_store_arr _ rfl 98 (.tmp 7) (.tmp 19) rfl gk .u8 64 (byt (kb key)) _ rfl rfl 98 FK size_key ?_
          intro v5 FK2 hG
          (try replace FT := FT.far hG FK (fun g' h => absurd h.2 (by decide)))
          (try replace FT2 := Nat.lt_of_lt_of_le FT2 hG.size)
          (try replace FS := FS.far hG FK (by decide))
          replace FE := grown_new FE hG (fun g hg => by simp at hg; omega)
          replace FK := FK2
          clear FK2 hG
          refine hK.out _ _ trivial (fun _ => ?_)
          clear hK K
          try simp only [Act.put, List.setIfInBounds_toArray, List.set_cons_zero, List.set_cons_succ]
          refine wpAnyH_ready (rs := [8]) (by kernel_rfl) (by simp) ?_
          refine AllReadyH.cons rfl (fun K hK => ?_) AllReadyH.nil
          go_simp
          refine hK.out _ _ trivial (fun _ => ?_)
          clear hK K
          try simp only [Act.put, List.setIfInBounds_toArray, List.set_cons_zero, List.set_cons_succ]
          refine wpAnyH_ready (rs := [9]) (by kernel_rfl) (by simp) ?_
          refine AllReadyH.cons rfl (fun K hK => ?_) AllReadyH.nil
          go_simp
          refine hK.out _ _ trivial (fun _ => ?_)
          clear hK K
          try simp only [Act.put, List.setIfInBounds_toArray, List.set_cons_zero, List.set_cons_succ]
          refine wpAnyH_done (by kernel_rfl) ?_ _
          exact PD.mk FK FT FTc FTm FS hne hgk hgt FT2 FE
        · skip
          refine step_store_arr _ rfl 98 (.tmp 7) (.tmp 19) rfl gk .u8 64 (byt (kb key)) _ rfl rfl 98 FK size_key ?_
          intro v4 FK2 hG
          (try replace FT := FT.far hG FK (fun g' h => absurd h.2 (by decide)))
          (try replace FT2 := Nat.lt_of_lt_of_le FT2 hG.size)
          (try replace FS := FS.far hG FK (by decide))
          replace FE := grown_new FE hG (fun g hg => by simp at hg; omega)
          replace FK := FK2
          clear FK2 hG
          refine hK.out _ _ trivial (fun _ => ?_)
          clear hK K
          try simp only [Act.put, List.setIfInBounds_toArray, List.set_cons_zero, List.set_cons_succ]
          refine wpAnyH_ready (rs := [3]) (by kernel_rfl) (by simp) ?_
          refine AllReadyH.cons rfl (fun K hK => ?_) AllReadyH.nil
          refine step_convert_str _ rfl 9 31 (.tmp 20) rfl 5 Tryz.underlying9 Tryz.underlying31 Tryz.underlying5 s lab.length rfl (by rw [HLAB.out]) (by have := HLL.out; unfold maxLen; omega) ?_
          intro gt ct v5 FT FTc FTm hge FT2 hE
          rw [HLAB.out] at FT
          have hne : gs ≠ gt := by have := FS.at_.2; omega
          have hgt : w.heap.size ≤ gt := Nat.le_trans FE.size hge
          clear hge
          (try replace FS := FS.ext hE)
          (try replace FK := FK.ext hE)
          replace FE := FE.tr hE
          clear hE
          refine hK.out _ _ trivial (fun _ => ?_)
          clear hK K
          try simp only [Act.put, List.setIfInBounds_toArray, List.set_cons_zero, List.set_cons_succ]
          refine wpAnyH_ready (rs := [8]) (by kernel_rfl) (by simp) ?_
          refine AllReadyH.cons rfl (fun K hK => ?_) AllReadyH.nil
          go_simp
          refine hK.out _ _ trivial (fun _ => ?_)
          clear hK K
          try simp only [Act.put, List.setIfInBounds_toArray, List.set_cons_zero, List.set_cons_succ]
          refine wpAnyH_ready (rs := [9]) (by kernel_rfl) (by simp) ?_
          refine AllReadyH.cons rfl (fun K hK => ?_) AllReadyH.nil
          go_simp
          refine hK.out _ _ trivial (fun _ => ?_)
          clear hK K
          try simp only [Act.put, List.setIfInBounds_toArray, List.set_cons_zero, List.set_cons_succ]
          refine wpAnyH_done (by kernel_rfl) ?_ _
          exact PD.mk FK FT FTc FTm FS hne hgk hgt FT2 FE
      · skip
        refine step_store_arr _ rfl 98 (.tmp 7) (.tmp 19) rfl gk .u8 64 (byt (kb key)) _ rfl rfl 98 FK size_key ?_
        intro v3 FK2 hG
        (try replace FT := FT.far hG FK (fun g' h => absurd h.2 (by decide)))
        (try replace FT2 := Nat.lt_of_lt_of_le FT2 hG.size)
        (try replace FS := FS.far hG FK (by decide))
        replace FE := grown_new FE hG (fun g hg => by simp at hg; omega)
        replace FK := FK2
        clear FK2 hG
        refine hK.out _ _ trivial (fun _ => ?_)
        clear hK K
        try simp only [Act.put, List.setIfInBounds_toArray, List.set_cons_zero, List.set_cons_succ]
        refine wpAnyH_ready (rs := [3, 5]) (by kernel_rfl) (by simp) ?_
        refine AllReadyH.cons rfl (fun K hK => ?_) (AllReadyH.cons rfl (fun K hK => ?_) AllReadyH.nil)
        · skip
          refine step_convert_str _ rfl 9 31 (.tmp 20) rfl 5 Tryz.underlying9 Tryz.underlying31 Tryz.underlying5 s lab.length rfl (by rw [HLAB.out]) (by have := HLL.out; unfold maxLen; omega) ?_
          intro gt ct v4 FT FTc FTm hge FT2 hE
          rw [HLAB.out] at FT
          have hgt : w.heap.size ≤ gt := Nat.le_trans FE.size hge
          clear hge
          (try replace FS := FS.ext hE)
          (try replace FK := FK.ext hE)
          replace FE := FE.tr hE
          clear hE
          refine hK.out _ _ trivial (fun _ => ?_)
          clear hK K
          try simp only [Act.put, List.setIfInBounds_toArray, List.set_cons_zero, List.set_cons_succ]
          refine wpAnyH_take_asg 8 rfl (by kernel_rfl) (by kernel_rfl) (by kernel_rfl) (fun _ _ _ _ h => PD.calm h) (by kernel_rfl) (.tmp 21) rfl (.slice (some ⟨gt, 0, none⟩) lab.length ct) rfl trivial ?_
          try simp only [Act.put, List.setIfInBounds_toArray, List.set_cons_zero, List.set_cons_succ]
          refine wpAnyH_ready (rs := [5]) (by kernel_rfl) (by simp) ?_
          refine AllReadyH.cons rfl (fun K hK => ?_) AllReadyH.nil
          refine step_make0 _ rfl (.const (.int .i64 0)) (.tmp 22) 31 rfl 5 i0 Tryz.underlying31 hi0 hz0 hz1 hz2 .i64 .i64 n rfl rfl (by omega) w.heap.size FE.size ?_
          intro gs v6 FS hge hE
          have hne : gs ≠ gt := by omega
          clear hge
          (try replace FT := FT.ext hE)
          (try replace FT2 := Nat.lt_of_lt_of_le FT2 hE.size)
          (try replace FK := FK.ext hE)
          replace FE := FE.tr hE
          clear hE
          refine hK.out _ _ trivial (fun _ => ?_)
          clear hK K
          try simp only [Act.put, List.setIfInBounds_toArray, List.set_cons_zero, List.set_cons_succ]
          refine wpAnyH_ready (rs := [9]) (by kernel_rfl) (by simp) ?_
          refine AllReadyH.cons rfl (fun K hK => ?_) AllReadyH.nil
          go_simp
          refine hK.out _ _ trivial (fun _ => ?_)
          clear hK K
          try simp only [Act.put, List.setIfInBounds_toArray, List.set_cons_zero, List.set_cons_succ]
          refine wpAnyH_done (by kernel_rfl) ?_ _
          exact PD.mk FK FT FTc FTm FS hne hgk hgt FT2 FE
        · skip
          refine step_make0 _ rfl (.const (.int .i64 0)) (.tmp 22) 31 rfl 5 i0 Tryz.underlying31 hi0 hz0 hz1 hz2 .i64 .i64 n rfl rfl (by omega) w.heap.size FE.size ?_
          intro gs v4 FS hge hE
          clear hge
          (try replace FT := FT.ext hE)
          (try replace FT2 := Nat.lt_of_lt_of_le FT2 hE.size)
          (try replace FK := FK.ext hE)
          replace FE := FE.tr hE
          clear hE
          refine hK.out _ _ trivial (fun _ => ?_)
          clear hK K
          try simp only [Act.put, List.setIfInBounds_toArray, List.set_cons_zero, List.set_cons_succ]
          refine wpAnyH_ready (rs := [3]) (by kernel_rfl) (by simp) ?_
          refine AllReadyH.cons rfl (fun K hK => ?_) AllReadyH.nil
          refine step_convert_str _ rfl 9 31 (.tmp 20) rfl 5 Tryz.underlying9 Tryz.underlying31 Tryz.underlying5 s lab.length rfl (by rw [HLAB.out]) (by have := HLL.out; unfold maxLen; omega) ?_
          intro gt ct v5 FT FTc FTm hge FT2 hE
          rw [HLAB.out] at FT
          have hne : gs ≠ gt := by have := FS.at_.2; omega
          have hgt : w.heap.size ≤ gt := Nat.le_trans FE.size hge
          clear hge
          (try replace FS := FS.ext hE)
          (try replace FK := FK.ext hE)
          replace FE := FE.tr hE
          clear hE
          refine hK.out _ _ trivial (fun _ => ?_)
          clear hK K
          try simp only [Act.put, List.setIfInBounds_toArray, List.set_cons_zero, List.set_cons_succ]
          refine wpAnyH_ready (rs := [8]) (by kernel_rfl) (by simp) ?_
          refine AllReadyH.cons rfl (fun K hK => ?_) AllReadyH.nil
          go_simp
          refine hK.out _ _ trivial (fun _ => ?_)
          clear hK K
          try simp only [Act.put, List.setIfInBounds_toArray, List.set_cons_zero, List.set_cons_succ]
          refine wpAnyH_ready (rs := [9]) (by kernel_rfl) (by simp) ?_
          refine AllReadyH.cons rfl (fun K hK => ?_) AllReadyH.nil
          go_simp
          refine hK.out _ _ trivial (fun _ => ?_)
          clear hK K
          try simp only [Act.put, List.setIfInBounds_toArray, List.set_cons_zero, List.set_cons_succ]
          refine wpAnyH_done (by kernel_rfl) ?_ _
          exact PD.mk FK FT FTc FTm FS hne hgk hgt FT2 FE
  · skip
    refine step_convert_str _ rfl 9 31 (.tmp 20) rfl 5 Tryz.underlying9 Tryz.underlying31 Tryz.underlying5 s lab.length rfl (by rw [HLAB.out]) (by have := HLL.out; unfold maxLen; omega) ?_
    intro gt ct v1 FT FTc FTm hge FT2 hE
    rw [HLAB.out] at FT
    have hgt : w.heap.size ≤ gt := Nat.le_trans FE.size hge
    clear hge
    (try replace FS := FS.ext hE)
    (try replace FK := FK.ext hE)
    replace FE := FE.tr hE
    clear hE
    refine hK.out _ _ trivial (fun _ => ?_)
    clear hK K
    try simp only [Act.put, List.setIfInBounds_toArray, List.set_cons_zero, List.set_cons_succ]
    refine wpAnyH_ready (rs := [1, 5, 6]) (by kernel_rfl) (by simp) ?_
    refine AllReadyH.cons rfl (fun K hK => ?_) (AllReadyH.cons rfl (fun K hK => ?_) (AllReadyH.cons rfl (fun K hK => ?_) AllReadyH.nil))
    · skip
      go_simp
      refine (padded_c ka ck key SK _ (HT.out.ext FE) (HK.out.ext FE) HKL.out HKC.out hkm).mono ?_
      rintro e v2 ⟨rfl, hE⟩
      (try replace FT := FT.ext hE)
      (try replace FT2 := Nat.lt_of_lt_of_le FT2 hE.size)
      (try replace FS := FS.ext hE)
      (try replace FK := FK.ext hE)
      replace FE := FE.tr hE
      clear hE
      refine hK.out _ _ trivial (fun _ => ?_)
      clear hK K
      try simp only [Act.put, List.setIfInBounds_toArray, List.set_cons_zero, List.set_cons_succ]
      refine wpAnyH_ready (rs := [5, 6]) (by kernel_rfl) (by simp) ?_
      refine AllReadyH.cons rfl (fun K hK => ?_) (AllReadyH.cons rfl (fun K hK => ?_) AllReadyH.nil)
      · skip
        refine step_make0 _ rfl (.const (.int .i64 0)) (.tmp 22) 31 rfl 5 i0 Tryz.underlying31 hi0 hz0 hz1 hz2 .i64 .i64 n rfl rfl (by omega) w.heap.size FE.size ?_
        intro gs v3 FS hge hE
        have hne : gs ≠ gt := by omega
        clear hge
        (try replace FT := FT.ext hE)
        (try replace FT2 := Nat.lt_of_lt_of_le FT2 hE.size)
        (try replace FK := FK.ext hE)
        replace FE := FE.tr hE
        clear hE
        refine hK.out _ _ trivial (fun _ => ?_)
        clear hK K
        try simp only [Act.put, List.setIfInBounds_toArray, List.set_cons_zero, List.set_cons_succ]
        refine wpAnyH_ready (rs := [6]) (by kernel_rfl) (by simp) ?_
        refine AllReadyH.cons rfl (fun K hK => ?_) AllReadyH.nil
        go_simp
        change K _ (World.alloc v3 (.cells (tabV .u8 64 (fun _ => 0)) 98))
        have hE : Ext v3 (World.alloc v3 (.cells (tabV .u8 64 (fun _ => 0)) 98)) := Ext.alloc _ _
        have FK : Arr (World.alloc v3 (.cells (tabV .u8 64 (fun _ => 0)) 98)) v3.heap.size 98 .u8 64 (fun _ => 0) := new_of _ _
        have hgk := FE.size
        obtain ⟨gk, hgk0⟩ : ∃ g, g = v3.heap.size := ⟨_, rfl⟩
        rw [← hgk0] at FK hgk ⊢
        obtain ⟨v4, hv⟩ : ∃ x, x = World.alloc v3 (.cells (tabV .u8 64 (fun _ => 0)) 98) := ⟨_, rfl⟩
        rw [← hv] at FK hE ⊢
        clear hv hgk0
        (try replace FT := FT.ext hE)
        (try replace FT2 := Nat.lt_of_lt_of_le FT2 hE.size)
        (try replace FS := FS.ext hE)
        replace FE := FE.tr hE
        clear hE
        refine hK.out _ _ trivial (fun _ => ?_)
        clear hK K
        try simp only [Act.put, List.setIfInBounds_toArray, List.set_cons_zero, List.set_cons_succ]
        refine wpAnyH_ready (rs := [7]) (by kernel_rfl) (by simp) ?_
        refine AllReadyH.cons rfl (fun K hK => ?_) AllReadyH.nil
        refine step_store_arr _ rfl 98 (.tmp 7) (.tmp 19) rfl gk .u8 64 (byt (kb key)) _ rfl rfl 98 FK size_key ?_
        intro v5 FK2 hG
        (try replace FT := FT.far hG FK (fun g' h => absurd h.2 (by decide)))
        (try replace FT2 := Nat.lt_of_lt_of_le FT2 hG.size)
        (try replace FS := FS.far hG FK (by decide))
        replace FE := grown_new FE hG (fun g hg => by simp at hg; omega)
        replace FK := FK2
        clear FK2 hG
        refine hK.out _ _ trivial (fun _ => ?_)
        clear hK K
        try simp only [Act.put, List.setIfInBounds_toArray, List.set_cons_zero, List.set_cons_succ]
        refine wpAnyH_ready (rs := [8]) (by kernel_rfl) (by simp) ?_
        refine AllReadyH.cons rfl (fun K hK => ?_) AllReadyH.nil
        go_simp
        refine hK.out _ _ trivial (fun _ => ?_)
        clear hK K
        try simp only [Act.put, List.setIfInBounds_toArray, List.set_cons_zero, List.set_cons_succ]
        refine wpAnyH_ready (rs := [9]) (by kernel_rfl) (by simp) ?_
        refine AllReadyH.cons rfl (fun K hK => ?_) AllReadyH.nil
        go_simp
        refine hK.out _ _ trivial (fun _ => ?_)
        clear hK K
        try simp only [Act.put, List.setIfInBounds_toArray, List.set_cons_zero, List.set_cons_succ]
        refine wpAnyH_done (by kernel_rfl) ?_ _
        exact PD.mk FK FT FTc FTm FS hne hgk hgt FT2 FE
      · skip
        go_simp
        change K _ (World.alloc v2 (.cells (tabV .u8 64 (fun _ => 0)) 98))
        have hE : Ext v2 (World.alloc v2 (.cells (tabV .u8 64 (fun _ => 0)) 98)) := Ext.alloc _ _
        have FK : Arr (World.alloc v2 (.cells (tabV .u8 64 (fun _ => 0)) 98)) v2.heap.size 98 .u8 64 (fun _ => 0) := new_of _ _
        have hgk := FE.size
        obtain ⟨gk, hgk0⟩ : ∃ g, g = v2.heap.size := ⟨_, rfl⟩
        rw [← hgk0] at FK hgk ⊢
        obtain ⟨v3, hv⟩ : ∃ x, x = World.alloc v2 (.cells (tabV .u8 64 (fun _ => 0)) 98) := ⟨_, rfl⟩
        rw [← hv] at FK hE ⊢
        clear hv hgk0
        (try replace FT := FT.ext hE)
        (try replace FT2 := Nat.lt_of_lt_of_le FT2 hE.size)
        (try replace FS := FS.ext hE)
        replace FE := FE.tr hE
        clear hE
        refine hK.out _ _ trivial (fun _ => ?_)
        clear hK K
        try simp only [Act.put, List.setIfInBounds_toArray, List.set_cons_zero, List.set_cons_succ]
        refine wpAnyH_ready (rs := [5, 7]) (by kernel_rfl) (by simp) ?_
        refine AllReadyH.cons rfl (fun K hK => ?_) (AllReadyH.cons rfl (fun K hK => ?_) AllReadyH.nil)
        · skip
          refine step_make0 _ rfl (.const (.int .i64 0)) (.tmp 22) 31 rfl 5 i0 Tryz.underlying31 hi0 hz0 hz1 hz2 .i64 .i64 n rfl rfl (by omega) w.heap.size FE.size ?_
          intro gs v4 FS hge hE
          have hne : gs ≠ gt := by omega
          clear hge
          (try replace FT := FT.ext hE)
          (try replace FT2 := Nat.lt_of_lt_of_le FT2 hE.size)
          (try replace FK := FK.ext hE)
          replace FE := FE.tr hE
          clear hE
          refine hK.out _ _ trivial (fun _ => ?_)
          clear hK K
          try simp only [Act.put, List.setIfInBounds_toArray, List.set_cons_zero, List.set_cons_succ]
          refine wpAnyH_ready (rs := [7]) (by kernel_rfl) (by simp) ?_
          refine AllReadyH.cons rfl (fun K hK => ?_) AllReadyH.nil
          refine step_store_arr _ rfl 98 (.tmp 7) (.tmp 19) rfl gk .u8 64 (byt (kb key)) _ rfl rfl 98 FK size_key ?_
          intro v5 FK2 hG
          (try replace FT := FT.far hG FK (fun g' h => absurd h.2 (by decide)))
          (try replace FT2 := Nat.lt_of_lt_of_le FT2 hG.size)
          (try replace FS := FS.far hG FK (by decide))
          replace FE := grown_new FE hG (fun g hg => by simp at hg; omega)
          replace FK := FK2
          clear FK2 hG
          refine hK.out _ _ trivial (fun _ => ?_)
          clear hK K
          try simp only [Act.put, List.setIfInBounds_toArray, List.set_cons_zero, List.set_cons_succ]
          refine wpAnyH_ready (rs := [8]) (by kernel_rfl) (by simp) ?_
          refine AllReadyH.cons rfl (fun K hK => ?_) AllReadyH.nil
          go_simp
          refine hK.out _ _ trivial (fun _ => ?_)
          clear hK K
          try simp only [Act.put, List.setIfInBounds_toArray, List.set_cons_zero, List.set_cons_succ]
          refine wpAnyH_ready (rs := [9]) (by kernel_rfl) (by simp) ?_
          refine AllReadyH.cons rfl (fun K hK => ?_) AllReadyH.nil
          go_simp
          refine hK.out _ _ trivial (fun _ => ?_)
          clear hK K
          try simp only [Act.put, List.setIfInBounds_toArray, List.set_cons_zero, List.set_cons_succ]
          refine wpAnyH_done (by kernel_rfl) ?_ _
          exact PD.mk FK FT FTc FTm FS hne hgk hgt FT2 FE
        · skip
          refine step_store_arr _ rfl 98 (.tmp 7) (.tmp 19) rfl gk .u8 64 (byt (kb key)) _ rfl rfl 98 FK size_key ?_
          intro v4 FK2 hG
          (try replace FT := FT.far hG FK (fun g' h => absurd h.2 (by decide)))
          (try replace FT2 := Nat.lt_of_lt_of_le FT2 hG.size)
          (try replace FS := FS.far hG FK (by decide))
          replace FE := grown_new FE hG (fun g hg => by simp at hg; omega)
          replace FK := FK2
          clear FK2 hG
          refine hK.out _ _ trivial (fun _ => ?_)
          clear hK K
          try simp only [Act.put, List.setIfInBounds_toArray, List.set_cons_zero, List.set_cons_succ]
          refine wpAnyH_take_asg 8 rfl (by kernel_rfl) (by kernel_rfl) (by kernel_rfl) (fun _ _ _ _ h => PD.calm h) (by kernel_rfl) (.tmp 21) rfl (.slice (some ⟨gt, 0, none⟩) lab.length ct) rfl trivial ?_
          try simp only [Act.put, List.setIfInBounds_toArray, List.set_cons_zero, List.set_cons_succ]
          refine wpAnyH_ready (rs := [5]) (by kernel_rfl) (by simp) ?_
          refine AllReadyH.cons rfl (fun K hK => ?_) AllReadyH.nil
          refine step_make0 _ rfl (.const (.int .i64 0)) (.tmp 22) 31 rfl 5 i0 Tryz.underlying31 hi0 hz0 hz1 hz2 .i64 .i64 n rfl rfl (by omega) w.heap.size FE.size ?_
          intro gs v6 FS hge hE
          have hne : gs ≠ gt := by omega
          clear hge
          (try replace FT := FT.ext hE)
          (try replace FT2 := Nat.lt_of_lt_of_le FT2 hE.size)
          (try replace FK := FK.ext hE)
          replace FE := FE.tr hE
          clear hE
          refine hK.out _ _ trivial (fun _ => ?_)
          clear hK K
          try simp only [Act.put, List.setIfInBounds_toArray, List.set_cons_zero, List.set_cons_succ]
          refine wpAnyH_ready (rs := [9]) (by kernel_rfl) (by simp) ?_
          refine AllReadyH.cons rfl (fun K hK => ?_) AllReadyH.nil
          go_simp
          refine hK.out _ _ trivial (fun _ => ?_)
          clear hK K
          try simp only [Act.put, List.setIfInBounds_toArray, List.set_cons_zero, List.set_cons_succ]
          refine wpAnyH_done (by kernel_rfl) ?_ _
          exact PD.mk FK FT FTc FTm FS hne hgk hgt FT2 FE
    · skip
      refine step_make0 _ rfl (.const (.int .i64 0)) (.tmp 22) 31 rfl 5 i0 Tryz.underlying31 hi0 hz0 hz1 hz2 .i64 .i64 n rfl rfl (by omega) w.heap.size FE.size ?_
      intro gs v2 FS hge hE
      have hne : gs ≠ gt := by omega
      clear hge
      (try replace FT := FT.ext hE)
      (try replace FT2 := Nat.lt_of_lt_of_le FT2 hE.size)
      (try replace FK := FK.ext hE)
      replace FE := FE.tr hE
      clear hE
      refine hK.out _ _ trivial (fun _ => ?_)
      clear hK K
      try simp only [Act.put, List.setIfInBounds_toArray, List.set_cons_zero, List.set_cons_succ]
      refine wpAnyH_ready (rs := [1, 6]) (by kernel_rfl) (by simp) ?_
      refine AllReadyH.cons rfl (fun K hK => ?_) (AllReadyH.cons rfl (fun K hK => ?_) AllReadyH.nil)
      · skip
        go_simp
        refine (padded_c ka ck key SK _ (HT.out.ext FE) (HK.out.ext FE) HKL.out HKC.out hkm).mono ?_
        rintro e v3 ⟨rfl, hE⟩
        (try replace FT := FT.ext hE)
        (try replace FT2 := Nat.lt_of_lt_of_le FT2 hE.size)
        (try replace FS := FS.ext hE)
        (try replace FK := FK.ext hE)
        replace FE := FE.tr hE
        clear hE
        refine hK.out _ _ trivial (fun _ => ?_)
        clear hK K
        try simp only [Act.put, List.setIfInBounds_toArray, List.set_cons_zero, List.set_cons_succ]
        refine wpAnyH_ready (rs := [6]) (by kernel_rfl) (by simp) ?_
        refine AllReadyH.cons rfl (fun K hK => ?_) AllReadyH.nil
        go_simp
        change K _ (World.alloc v3 (.cells (tabV .u8 64 (fun _ => 0)) 98))
        have hE : Ext v3 (World.alloc v3 (.cells (tabV .u8 64 (fun _ => 0)) 98)) := Ext.alloc _ _
        have FK : Arr (World.alloc v3 (.cells (tabV .u8 64 (fun _ => 0)) 98)) v3.heap.size 98 .u8 64 (fun _ => 0) := new_of _ _
        have hgk := FE.size
        obtain ⟨gk, hgk0⟩ : ∃ g, g = v3.heap.size := ⟨_, rfl⟩
        rw [← hgk0] at FK hgk ⊢
        obtain ⟨v4, hv⟩ : ∃ x, x = World.alloc v3 (.cells (tabV .u8 64 (fun _ => 0)) 98) := ⟨_, rfl⟩
        rw [← hv] at FK hE ⊢
        clear hv hgk0
        (try replace FT := FT.ext hE)
        (try replace FT2 := Nat.lt_of_lt_of_le FT2 hE.size)
        (try replace FS := FS.ext hE)
        replace FE := FE.tr hE
        clear hE
        refine hK.out _ _ trivial (fun _ => ?_)
        clear hK K
        try simp only [Act.put, List.setIfInBounds_toArray, List.set_cons_zero, List.set_cons_succ]
        refine wpAnyH_ready (rs := [7]) (by kernel_rfl) (by simp) ?_
        refine AllReadyH.cons rfl (fun K hK => ?_) AllReadyH.nil
        refine step_store_arr _ rfl 98 (.tmp 7) (.tmp 19) rfl gk .u8 64 (byt (kb key)) _ rfl rfl 98 FK size_key ?_
        intro v5 FK2 hG
        (try replace FT := FT.far hG FK (fun g' h => absurd h.2 (by decide)))
        (try replace FT2 := Nat.lt_of_lt_of_le FT2 hG.size)
        (try replace FS := FS.far hG FK (by decide))
        replace FE := grown_new FE hG (fun g hg => by simp at hg; omega)
        replace FK := FK2
        clear FK2 hG
        refine hK.out _ _ trivial (fun _ => ?_)
        clear hK K
        try simp only [Act.put, List.setIfInBounds_toArray, List.set_cons_zero, List.set_cons_succ]
        refine wpAnyH_ready (rs := [8]) (by kernel_rfl) (by simp) ?_
        refine AllReadyH.cons rfl (fun K hK => ?_) AllReadyH.nil
        go_simp
        refine hK.out _ _ trivial (fun _ => ?_)
        clear hK K
        try simp only [Act.put, List.setIfInBounds_toArray, List.set_cons_zero, List.set_cons_succ]
        refine wpAnyH_ready (rs := [9]) (by kernel_rfl) (by simp) ?_
        refine AllReadyH.cons rfl (fun K hK => ?_) AllReadyH.nil
        go_simp
        refine hK.out _ _ trivial (fun _ => ?_)
        clear hK K
        try simp only [Act.put, List.setIfInBounds_toArray, List.set_cons_zero, List.set_cons_succ]
        refine wpAnyH_done (by kernel_rfl) ?_ _
        exact PD.mk FK FT FTc FTm FS hne hgk hgt FT2 FE
      · skip
        go_simp
        change K _ (World.alloc v2 (.cells (tabV .u8 64 (fun _ => 0)) 98))
        have hE : Ext v2 (World.alloc v2 (.cells (tabV .u8 64 (fun _ => 0)) 98)) := Ext.alloc _ _
        have FK : Arr (World.alloc v2 (.cells (tabV .u8 64 (fun _ => 0)) 98)) v2.heap.size 98 .u8 64 (fun _ => 0) := new_of _ _
        have hgk := FE.size
        obtain ⟨gk, hgk0⟩ : ∃ g, g = v2.heap.size := ⟨_, rfl⟩
        rw [← hgk0] at FK hgk ⊢
        obtain ⟨v3, hv⟩ : ∃ x, x = World.alloc v2 (.cells (tabV .u8 64 (fun _ => 0)) 98) := ⟨_, rfl⟩
        rw [← hv] at FK hE ⊢
        clear hv hgk0
        (try replace FT := FT.ext hE)
        (try replace FT2 := Nat.lt_of_lt_of_le FT2 hE.size)
        (try replace FS := FS.ext hE)
        replace FE := FE.tr hE
        clear hE
        refine hK.out _ _ trivial (fun _ => ?_)
        clear hK K
        try simp only [Act.put, List.setIfInBounds_toArray, List.set_cons_zero, List.set_cons_succ]
        refine wpAnyH_ready (rs := [1]) (by kernel_rfl) (by simp) ?_
        refine AllReadyH.cons rfl (fun K hK => ?_) AllReadyH.nil
        go_simp
        refine (padded_c ka ck key SK _ (HT.out.ext FE) (HK.out.ext FE) HKL.out HKC.out hkm).mono ?_
        rintro e v4 ⟨rfl, hE⟩
        (try replace FT := FT.ext hE)
        (try replace FT2 := Nat.lt_of_lt_of_le FT2 hE.size)
        (try replace FS := FS.ext hE)
        (try replace FK := FK.ext hE)
        replace FE := FE.tr hE
        clear hE
        refine hK.out _ _ trivial (fun _ => ?_)
        clear hK K
        try simp only [Act.put, List.setIfInBounds_toArray, List.set_cons_zero, List.set_cons_succ]
        refine wpAnyH_ready (rs := [7]) (by kernel_rfl) (by simp) ?_
        refine AllReadyH.cons rfl (fun K hK => ?_) AllReadyH.nil
        refine step_store_arr _ rfl 98 (.tmp 7) (.tmp 19) rfl gk .u8 64 (byt (kb key)) _ rfl rfl 98 FK size_key ?_
        intro v5 FK2 hG
        (try replace FT := FT.far hG FK (fun g' h => absurd h.2 (by decide)))
        (try replace FT2 := Nat.lt_of_lt_of_le FT2 hG.size)
        (try replace FS := FS.far hG FK (by decide))
        replace FE := grown_new FE hG (fun g hg => by simp at hg; omega)
        replace FK := FK2
        clear FK2 hG
        refine hK.out _ _ trivial (fun _ => ?_)
        clear hK K
        try simp only [Act.put, List.setIfInBounds_toArray, List.set_cons_zero, List.set_cons_succ]
        refine wpAnyH_ready (rs := [8]) (by kernel_rfl) (by simp) ?_
        refine AllReadyH.cons rfl (fun K hK => ?_) AllReadyH.nil
        go_simp
        refine hK.out _ _ trivial (fun _ => ?_)
        clear hK K
        try simp only [Act.put, List.setIfInBounds_toArray, List.set_cons_zero, List.set_cons_succ]
        refine wpAnyH_ready (rs := [9]) (by kernel_rfl) (by simp) ?_
        refine AllReadyH.cons rfl (fun K hK => ?_) AllReadyH.nil
        go_simp
        refine hK.out _ _ trivial (fun _ => ?_)
        clear hK K
        try simp only [Act.put, List.setIfInBounds_toArray, List.set_cons_zero, List.set_cons_succ]
        refine wpAnyH_done (by kernel_rfl) ?_ _
        exact PD.mk FK FT FTc FTm FS hne hgk hgt FT2 FE
    · skip
      go_simp
      change K _ (World.alloc v1 (.cells (tabV .u8 64 (fun _ => 0)) 98))
      have hE : Ext v1 (World.alloc v1 (.cells (tabV .u8 64 (fun _ => 0)) 98)) := Ext.alloc _ _
      have FK : Arr (World.alloc v1 (.cells (tabV .u8 64 (fun _ => 0)) 98)) v1.heap.size 98 .u8 64 (fun _ => 0) := new_of _ _
      have hgk := FE.size
      obtain ⟨gk, hgk0⟩ : ∃ g, g = v1.heap.size := ⟨_, rfl⟩
      rw [← hgk0] at FK hgk ⊢
      obtain ⟨v2, hv⟩ : ∃ x, x = World.alloc v1 (.cells (tabV .u8 64 (fun _ => 0)) 98) := ⟨_, rfl⟩
      rw [← hv] at FK hE ⊢
      clear hv hgk0
      (try replace FT := FT.ext hE)
      (try replace FT2 := Nat.lt_of_lt_of_le FT2 hE.size)
      (try replace FS := FS.ext hE)
      replace FE := FE.tr hE
      clear hE
      refine hK.out _ _ trivial (fun _ => ?_)
      clear hK K
      try simp only [Act.put, List.setIfInBounds_toArray, List.set_cons_zero, List.set_cons_succ]
      refine wpAnyH_ready (rs := [1, 5]) (by kernel_rfl) (by simp) ?_
      refine AllReadyH.cons rfl (fun K hK => ?_) (AllReadyH.cons rfl (fun K hK => ?_) AllReadyH.nil)
      · skip
        go_simp
        refine (padded_c ka ck key SK _ (HT.out.ext FE) (HK.out.ext FE) HKL.out HKC.out hkm).mono ?_
        rintro e v3 ⟨rfl, hE⟩
        (try replace FT := FT.ext hE)
        (try replace FT2 := Nat.lt_of_lt_of_le FT2 hE.size)
        (try replace FS := FS.ext hE)
        (try replace FK := FK.ext hE)
        replace FE := FE.tr hE
        clear hE
        refine hK.out _ _ trivial (fun _ => ?_)
        clear hK K
        try simp only [Act.put, List.setIfInBounds_toArray, List.set_cons_zero, List.set_cons_succ]
        refine wpAnyH_ready (rs := [5, 7]) (by kernel_rfl) (by simp) ?_
        refine AllReadyH.cons rfl (fun K hK => ?_) (AllReadyH.cons rfl (fun K hK => ?_) AllReadyH.nil)
        · skip
          refine step_make0 _ rfl (.const (.int .i64 0)) (.tmp 22) 31 rfl 5 i0 Tryz.underlying31 hi0 hz0 hz1 hz2 .i64 .i64 n rfl rfl (by omega) w.heap.size FE.size ?_
          intro gs v4 FS hge hE
          have hne : gs ≠ gt := by omega
          clear hge
          (try replace FT := FT.ext hE)
          (try replace FT2 := Nat.lt_of_lt_of_le FT2 hE.size)
          (try replace FK := FK.ext hE)
          replace FE := FE.tr hE
          clear hE
          refine hK.out _ _ trivial (fun _ => ?_)
          clear hK K
          try simp only [Act.put, List.setIfInBounds_toArray, List.set_cons_zero, List.set_cons_succ]
          refine wpAnyH_ready (rs := [7]) (by kernel_rfl) (by simp) ?_
          refine AllReadyH.cons rfl (fun K hK => ?_) AllReadyH.nil
          refine step_store_arr _ rfl 98 (.tmp 7) (.tmp 19) rfl gk .u8 64 (byt (kb key)) _ rfl rfl 98 FK size_key ?_
          intro v5 FK2 hG
          (try replace FT := FT.far hG FK (fun g' h => absurd h.2 (by decide)))
          (try replace FT2 := Nat.lt_of_lt_of_le FT2 hG.size)
          (try replace FS := FS.far hG FK (by decide))
          replace FE := grown_new FE hG (fun g hg => by simp at hg; omega)
          replace FK := FK2
          clear FK2 hG
          refine hK.out _ _ trivial (fun _ => ?_)
          clear hK K
          try simp only [Act.put, List.setIfInBounds_toArray, List.set_cons_zero, List.set_cons_succ]
          refine wpAnyH_ready (rs := [8]) (by kernel_rfl) (by simp) ?_
          refine AllReadyH.cons rfl (fun K hK => ?_) AllReadyH.nil
          go_simp
          refine hK.out _ _ trivial (fun _ => ?_)
          clear hK K
          try simp only [Act.put, List.setIfInBounds_toArray, List.set_cons_zero, List.set_cons_succ]
          refine wpAnyH_ready (rs := [9]) (by kernel_rfl) (by simp) ?_
          refine AllReadyH.cons rfl (fun K hK => ?_) AllReadyH.nil
          go_simp
          refine hK.out _ _ trivial (fun _ => ?_)
          clear hK K
          try simp only [Act.put, List.setIfInBounds_toArray, List.set_cons_zero, List.set_cons_succ]
          refine wpAnyH_done (by kernel_rfl) ?_ _
          exact PD.mk FK FT FTc FTm FS hne hgk hgt FT2 FE
        · skip
          refine step_store_arr _ rfl 98 (.tmp 7) (.tmp 19) rfl gk .u8 64 (byt (kb key)) _ rfl rfl 98 FK size_key ?_
          intro v4 FK2 hG
          (try replace FT := FT.far hG FK (fun g' h => absurd h.2 (by decide)))
          (try replace FT2 := Nat.lt_of_lt_of_le FT2 hG.size)
          (try replace FS := FS.far hG FK (by decide))
          replace FE := grown_new FE hG (fun g hg => by simp at hg; omega)
          replace FK := FK2
          clear FK2 hG
          refine hK.out _ _ trivial (fun _ => ?_)
          clear hK K
          try simp only [Act.put, List.setIfInBounds_toArray, List.set_cons_zero, List.set_cons_succ]
          refine wpAnyH_take_asg 8 rfl (by kernel_rfl) (by kernel_rfl) (by kernel_rfl) (fun _ _ _ _ h => PD.calm h) (by kernel_rfl) (.tmp 21) rfl (.slice (some ⟨gt, 0, none⟩) lab.length ct) rfl trivial ?_
          try simp only [Act.put, List.setIfInBounds_toArray, List.set_cons_zero, List.set_cons_succ]
          refine wpAnyH_ready (rs := [5]) (by kernel_rfl) (by simp) ?_
          refine AllReadyH.cons rfl (fun K hK => ?_) AllReadyH.nil
          refine step_make0 _ rfl (.const (.int .i64 0)) (.tmp 22) 31 rfl 5 i0 Tryz.underlying31 hi0 hz0 hz1 hz2 .i64 .i64 n rfl rfl (by omega) w.heap.size FE.size ?_
          intro gs v6 FS hge hE
          have hne : gs ≠ gt := by omega
          clear hge
          (try replace FT := FT.ext hE)
          (try replace FT2 := Nat.lt_of_lt_of_le FT2 hE.size)
          (try replace FK := FK.ext hE)
          replace FE := FE.tr hE
          clear hE
          refine hK.out _ _ trivial (fun _ => ?_)
          clear hK K
          try simp only [Act.put, List.setIfInBounds_toArray, List.set_cons_zero, List.set_cons_succ]
          refine wpAnyH_ready (rs := [9]) (by kernel_rfl) (by simp) ?_
          refine AllReadyH.cons rfl (fun K hK => ?_) AllReadyH.nil
          go_simp
          refine hK.out _ _ trivial (fun _ => ?_)
          clear hK K
          try simp only [Act.put, List.setIfInBounds_toArray, List.set_cons_zero, List.set_cons_succ]
          refine wpAnyH_done (by kernel_rfl) ?_ _
          exact PD.mk FK FT FTc FTm FS hne hgk hgt FT2 FE
      · skip
        refine step_make0 _ rfl (.const (.int .i64 0)) (.tmp 22) 31 rfl 5 i0 Tryz.underlying31 hi0 hz0 hz1 hz2 .i64 .i64 n rfl rfl (by omega) w.heap.size FE.size ?_
        intro gs v3 FS hge hE
        have hne : gs ≠ gt := by omega
        clear hge
        (try replace FT := FT.ext hE)
        (try replace FT2 := Nat.lt_of_lt_of_le FT2 hE.size)
        (try replace FK := FK.ext hE)
        replace FE := FE.tr hE
        clear hE
        refine hK.out _ _ trivial (fun _ => ?_)
        clear hK K
        try simp only [Act.put, List.setIfInBounds_toArray, List.set_cons_zero, List.set_cons_succ]
        refine wpAnyH_ready (rs := [1]) (by kernel_rfl) (by simp) ?_
        refine AllReadyH.cons rfl (fun K hK => ?_) AllReadyH.nil
        go_simp
        refine (padded_c ka ck key SK _ (HT.out.ext FE) (HK.out.ext FE) HKL.out HKC.out hkm).mono ?_
        rintro e v4 ⟨rfl, hE⟩
        (try replace FT := FT.ext hE)
        (try replace FT2 := Nat.lt_of_lt_of_le FT2 hE.size)
        (try replace FS := FS.ext hE)
        (try replace FK := FK.ext hE)
        replace FE := FE.tr hE
        clear hE
        refine hK.out _ _ trivial (fun _ => ?_)
        clear hK K
        try simp only [Act.put, List.setIfInBounds_toArray, List.set_cons_zero, List.set_cons_succ]
        refine wpAnyH_ready (rs := [7]) (by kernel_rfl) (by simp) ?_
        refine AllReadyH.cons rfl (fun K hK => ?_) AllReadyH.nil
        refine step_store_arr _ rfl 98 (.tmp 7) (.tmp 19) rfl gk .u8 64 (byt (kb key)) _ rfl rfl 98 FK size_key ?_
        intro v5 FK2 hG
        (try replace FT := FT.far hG FK (fun g' h => absurd h.2 (by decide)))
        (try replace FT2 := Nat.lt_of_lt_of_le FT2 hG.size)
        (try replace FS := FS.far hG FK (by decide))
        replace FE := grown_new FE hG (fun g hg => by simp at hg; omega)
        replace FK := FK2
        clear FK2 hG
        refine hK.out _ _ trivial (fun _ => ?_)
        clear hK K
        try simp only [Act.put, List.setIfInBounds_toArray, List.set_cons_zero, List.set_cons_succ]
        refine wpAnyH_ready (rs := [8]) (by kernel_rfl) (by simp) ?_
        refine AllReadyH.cons rfl (fun K hK => ?_) AllReadyH.nil
        go_simp
        refine hK.out _ _ trivial (fun _ => ?_)
        clear hK K
        try simp only [Act.put, List.setIfInBounds_toArray, List.set_cons_zero, List.set_cons_succ]
        refine wpAnyH_ready (rs := [9]) (by kernel_rfl) (by simp) ?_
        refine AllReadyH.cons rfl (fun K hK => ?_) AllReadyH.nil
        go_simp
        refine hK.out _ _ trivial (fun _ => ?_)
        clear hK K
        try simp only [Act.put, List.setIfInBounds_toArray, List.set_cons_zero, List.set_cons_succ]
        refine wpAnyH_done (by kernel_rfl) ?_ _
        exact PD.mk FK FT FTc FTm FS hne hgk hgt FT2 FE
  · skip
    refine step_make0 _ rfl (.const (.int .i64 0)) (.tmp 22) 31 rfl 5 i0 Tryz.underlying31 hi0 hz0 hz1 hz2 .i64 .i64 n rfl rfl (by omega) w.heap.size FE.size ?_
    intro gs v1 FS hge hE
    clear hge
    (try replace FT := FT.ext hE)
    (try replace FT2 := Nat.lt_of_lt_of_le FT2 hE.size)
    (try replace FK := FK.ext hE)
    replace FE := FE.tr hE
    clear hE
    refine hK.out _ _ trivial (fun _ => ?_)
    clear hK K
    try simp only [Act.put, List.setIfInBounds_toArray, List.set_cons_zero, List.set_cons_succ]
    refine wpAnyH_ready (rs := [1, 3, 6]) (by kernel_rfl) (by simp) ?_
    refine AllReadyH.cons rfl (fun K hK => ?_) (AllReadyH.cons rfl (fun K hK => ?_) (AllReadyH.cons rfl (fun K hK => ?_) AllReadyH.nil))
    · skip
      go_simp
      refine (padded_c ka ck key SK _ (HT.out.ext FE) (HK.out.ext FE) HKL.out HKC.out hkm).mono ?_
      rintro e v2 ⟨rfl, hE⟩
      (try replace FT := FT.ext hE)
      (try replace FT2 := Nat.lt_of_lt_of_le FT2 hE.size)
      (try replace FS := FS.ext hE)
      (try replace FK := FK.ext hE)
      replace FE := FE.tr hE
      clear hE
      refine hK.out _ _ trivial (fun _ => ?_)
      clear hK K
      try simp only [Act.put, List.setIfInBounds_toArray, List.set_cons_zero, List.set_cons_succ]
      refine wpAnyH_ready (rs := [3, 6]) (by kernel_rfl) (by simp) ?_
      refine AllReadyH.cons rfl (fun K hK => ?_) (AllReadyH.cons rfl (fun K hK => ?_) AllReadyH.nil)
      · skip
        refine step_convert_str _ rfl 9 31 (.tmp 20) rfl 5 Tryz.underlying9 Tryz.underlying31 Tryz.underlying5 s lab.length rfl (by rw [HLAB.out]) (by have := HLL.out; unfold maxLen; omega) ?_
        intro gt ct v3 FT FTc FTm hge FT2 hE
        rw [HLAB.out] at FT
        have hne : gs ≠ gt := by have := FS.at_.2; omega
        have hgt : w.heap.size ≤ gt := Nat.le_trans FE.size hge
        clear hge
        (try replace FS := FS.ext hE)
        (try replace FK := FK.ext hE)
        replace FE := FE.tr hE
        clear hE
        refine hK.out _ _ trivial (fun _ => ?_)
        clear hK K
        try simp only [Act.put, List.setIfInBounds_toArray, List.set_cons_zero, List.set_cons_succ]
        refine wpAnyH_ready (rs := [6]) (by kernel_rfl) (by simp) ?_
        refine AllReadyH.cons rfl (fun K hK => ?_) AllReadyH.nil
        go_simp
        change K _ (World.alloc v3 (.cells (tabV .u8 64 (fun _ => 0)) 98))
        have hE : Ext v3 (World.alloc v3 (.cells (tabV .u8 64 (fun _ => 0)) 98)) := Ext.alloc _ _
        have FK : Arr (World.alloc v3 (.cells (tabV .u8 64 (fun _ => 0)) 98)) v3.heap.size 98 .u8 64 (fun _ => 0) := new_of _ _
        have hgk := FE.size
        obtain ⟨gk, hgk0⟩ : ∃ g, g = v3.heap.size := ⟨_, rfl⟩
        rw [← hgk0] at FK hgk ⊢
        obtain ⟨v4, hv⟩ : ∃ x, x = World.alloc v3 (.cells (tabV .u8 64 (fun _ => 0)) 98) := ⟨_, rfl⟩
        rw [← hv] at FK hE ⊢
        clear hv hgk0
        (try replace FT := FT.ext hE)
        (try replace FT2 := Nat.lt_of_lt_of_le FT2 hE.size)
        (try replace FS := FS.ext hE)
        replace FE := FE.tr hE
        clear hE
        refine hK.out _ _ trivial (fun _ => ?_)
        clear hK K
        try simp only [Act.put, List.setIfInBounds_toArray, List.set_cons_zero, List.set_cons_succ]
        refine wpAnyH_ready (rs := [7]) (by kernel_rfl) (by simp) ?_
        refine AllReadyH.cons rfl (fun K hK => ?_) AllReadyH.nil
        refine step_store_arr _ rfl 98 (.tmp 7) (.tmp 19) rfl gk .u8 64 (byt (kb key)) _ rfl rfl 98 FK size_key ?_
        intro v5 FK2 hG
        (try replace FT := FT.far hG FK (fun g' h => absurd h.2 (by decide)))
        (try replace FT2 := Nat.lt_of_lt_of_le FT2 hG.size)
        (try replace FS := FS.far hG FK (by decide))
        replace FE := grown_new FE hG (fun g hg => by simp at hg; omega)
        replace FK := FK2
        clear FK2 hG
        refine hK.out _ _ trivial (fun _ => ?_)
        clear hK K
        try simp only [Act.put, List.setIfInBounds_toArray, List.set_cons_zero, List.set_cons_succ]
        refine wpAnyH_ready (rs := [8]) (by kernel_rfl) (by simp) ?_
        refine AllReadyH.cons rfl (fun K hK => ?_) AllReadyH.nil
        go_simp
        refine hK.out _ _ trivial (fun _ => ?_)
        clear hK K
        try simp only [Act.put, List.setIfInBounds_toArray, List.set_cons_zero, List.set_cons_succ]
        refine wpAnyH_ready (rs := [9]) (by kernel_rfl) (by simp) ?_
        refine AllReadyH.cons rfl (fun K hK => ?_) AllReadyH.nil
        go_simp
        refine hK.out _ _ trivial (fun _ => ?_)
        clear hK K
        try simp only [Act.put, List.setIfInBounds_toArray, List.set_cons_zero, List.set_cons_succ]
        refine wpAnyH_done (by kernel_rfl) ?_ _
        exact PD.mk FK FT FTc FTm FS hne hgk hgt FT2 FE
      · skip
        go_simp
        change K _ (World.alloc v2 (.cells (tabV .u8 64 (fun _ => 0)) 98))
        have hE : Ext v2 (World.alloc v2 (.cells (tabV .u8 64 (fun _ => 0)) 98)) := Ext.alloc _ _
        have FK : Arr (World.alloc v2 (.cells (tabV .u8 64 (fun _ => 0)) 98)) v2.heap.size 98 .u8 64 (fun _ => 0) := new_of _ _
        have hgk := FE.size
        obtain ⟨gk, hgk0⟩ : ∃ g, g = v2.heap.size := ⟨_, rfl⟩
        rw [← hgk0] at FK hgk ⊢
        obtain ⟨v3, hv⟩ : ∃ x, x = World.alloc v2 (.cells (tabV .u8 64 (fun _ => 0)) 98) := ⟨_, rfl⟩
        rw [← hv] at FK hE ⊢
        clear hv hgk0
        (try replace FT := FT.ext hE)
        (try replace FT2 := Nat.lt_of_lt_of_le FT2 hE.size)
        (try replace FS := FS.ext hE)
        replace FE := FE.tr hE
        clear hE
        refine hK.out _ _ trivial (fun _ => ?_)
        clear hK K
        try simp only [Act.put, List.setIfInBounds_toArray, List.set_cons_zero, List.set_cons_succ]
        refine wpAnyH_ready (rs := [3, 7]) (by kernel_rfl) (by simp) ?_
        refine AllReadyH.cons rfl (fun K hK => ?_) (AllReadyH.cons rfl (fun K hK => ?_) AllReadyH.nil)
        · skip
          refine step_convert_str _ rfl 9 31 (.tmp 20) rfl 5 Tryz.underlying9 Tryz.underlying31 Tryz.underlying5 s lab.length rfl (by rw [HLAB.out]) (by have := HLL.out; unfold maxLen; omega) ?_
          intro gt ct v4 FT FTc FTm hge FT2 hE
          rw [HLAB.out] at FT
          have hne : gs ≠ gt := by have := FS.at_.2; omega
          have hgt : w.heap.size ≤ gt := Nat.le_trans FE.size hge
          clear hge
          (try replace FS := FS.ext hE)
          (try replace FK := FK.ext hE)
          replace FE := FE.tr hE
          clear hE
          refine hK.out _ _ trivial (fun _ => ?_)
          clear hK K
          try simp only [Act.put, List.setIfInBounds_toArray, List.set_cons_zero, List.set_cons_succ]
          refine wpAnyH_ready (rs := [7]) (by kernel_rfl) (by simp) ?_
          refine AllReadyH.cons rfl (fun K hK => ?_) AllReadyH.nil
          refine step_store_arr _ rfl 98 (.tmp 7) (.tmp 19) rfl gk .u8 64 (byt (kb key)) _ rfl rfl 98 FK size_key ?_
          intro v5 FK2 hG
          (try replace FT := FT.far hG FK (fun g' h => absurd h.2 (by decide)))
          (try replace FT2 := Nat.lt_of_lt_of_le FT2 hG.size)
          (try replace FS := FS.far hG FK (by decide))
          replace FE := grown_new FE hG (fun g hg => by simp at hg; omega)
          replace FK := FK2
          clear FK2 hG
          refine hK.out _ _ trivial (fun _ => ?_)
          clear hK K
          try simp only [Act.put, List.setIfInBounds_toArray, List.set_cons_zero, List.set_cons_succ]
          refine wpAnyH_ready (rs := [8]) (by kernel_rfl) (by simp) ?_
          refine AllReadyH.cons rfl (fun K hK => ?_) AllReadyH.nil
          go_simp
          refine hK.out _ _ trivial (fun _ => ?_)
          clear hK K
          try simp only [Act.put, List.setIfInBounds_toArray, List.set_cons_zero, List.set_cons_succ]
          refine wpAnyH_ready (rs := [9]) (by kernel_rfl) (by simp) ?_
          refine AllReadyH.cons rfl (fun K hK => ?_) AllReadyH.nil
          go_simp
          refine hK.out _ _ trivial (fun _ => ?_)
          clear hK K
          try simp only [Act.put, List.setIfInBounds_toArray, List.set_cons_zero, List.set_cons_succ]
          refine wpAnyH_done (by kernel_rfl) ?_ _
          exact PD.mk FK FT FTc FTm FS hne hgk hgt FT2 FE
        · skip
          refine step_store_arr _ rfl 98 (.tmp 7) (.tmp 19) rfl gk .u8 64 (byt (kb key)) _ rfl rfl 98 FK size_key ?_
          intro v4 FK2 hG
          (try replace FT := FT.far hG FK (fun g' h => absurd h.2 (by decide)))
          (try replace FT2 := Nat.lt_of_lt_of_le FT2 hG.size)
          (try replace FS := FS.far hG FK (by decide))
          replace FE := grown_new FE hG (fun g hg => by simp at hg; omega)
          replace FK := FK2
          clear FK2 hG
          refine hK.out _ _ trivial (fun _ => ?_)
          clear hK K
          try simp only [Act.put, List.setIfInBounds_toArray, List.set_cons_zero, List.set_cons_succ]
          refine wpAnyH_ready (rs := [3]) (by kernel_rfl) (by simp) ?_
          refine AllReadyH.cons rfl (fun K hK => ?_) AllReadyH.nil
          refine step_convert_str _ rfl 9 31 (.tmp 20) rfl 5 Tryz.underlying9 Tryz.underlying31 Tryz.underlying5 s lab.length rfl (by rw [HLAB.out]) (by have := HLL.out; unfold maxLen; omega) ?_
          intro gt ct v5 FT FTc FTm hge FT2 hE
          rw [HLAB.out] at FT
          have hne : gs ≠ gt := by have := FS.at_.2; omega
          have hgt : w.heap.size ≤ gt := Nat.le_trans FE.size hge
          clear hge
          (try replace FS := FS.ext hE)
          (try replace FK := FK.ext hE)
          replace FE := FE.tr hE
          clear hE
          refine hK.out _ _ trivial (fun _ => ?_)
          clear hK K
          try simp only [Act.put, List.setIfInBounds_toArray, List.set_cons_zero, List.set_cons_succ]
          refine wpAnyH_ready (rs := [8]) (by kernel_rfl) (by simp) ?_
          refine AllReadyH.cons rfl (fun K hK => ?_) AllReadyH.nil
          go_simp
          refine hK.out _ _ trivial (fun _ => ?_)
          clear hK K
          try simp only [Act.put, List.setIfInBounds_toArray, List.set_cons_zero, List.set_cons_succ]
          refine wpAnyH_ready (rs := [9]) (by kernel_rfl) (by simp) ?_
          refine AllReadyH.cons rfl (fun K hK => ?_) AllReadyH.nil
          go_simp
          refine hK.out _ _ trivial (fun _ => ?_)
          clear hK K
          try simp only [Act.put, List.setIfInBounds_toArray, List.set_cons_zero, List.set_cons_succ]
          refine wpAnyH_done (by kernel_rfl) ?_ _
          exact PD.mk FK FT FTc FTm FS hne hgk hgt FT2 FE
    · skip
      refine step_convert_str _ rfl 9 31 (.tmp 20) rfl 5 Tryz.underlying9 Tryz.underlying31 Tryz.underlying5 s lab.length rfl (by rw [HLAB.out]) (by have := HLL.out; unfold maxLen; omega) ?_
      intro gt ct v2 FT FTc FTm hge FT2 hE
      rw [HLAB.out] at FT
      have hne : gs ≠ gt := by have := FS.at_.2; omega
      have hgt : w.heap.size ≤ gt := Nat.le_trans FE.size hge
      clear hge
      (try replace FS := FS.ext hE)
      (try replace FK := FK.ext hE)
      replace FE := FE.tr hE
      clear hE
      refine hK.out _ _ trivial (fun _ => ?_)
      clear hK K
      try simp only [Act.put, List.setIfInBounds_toArray, List.set_cons_zero, List.set_cons_succ]
      refine wpAnyH_ready (rs := [1, 6]) (by kernel_rfl) (by simp) ?_
      refine AllReadyH.cons rfl (fun K hK => ?_) (AllReadyH.cons rfl (fun K hK => ?_) AllReadyH.nil)
      · skip
        go_simp
        refine (padded_c ka ck key SK _ (HT.out.ext FE) (HK.out.ext FE) HKL.out HKC.out hkm).mono ?_
        rintro e v3 ⟨rfl, hE⟩
        (try replace FT := FT.ext hE)
        (try replace FT2 := Nat.lt_of_lt_of_le FT2 hE.size)
        (try replace FS := FS.ext hE)
        (try replace FK := FK.ext hE)
        replace FE := FE.tr hE
        clear hE
        refine hK.out _ _ trivial (fun _ => ?_)
        clear hK K
        try simp only [Act.put, List.setIfInBounds_toArray, List.set_cons_zero, List.set_cons_succ]
        refine wpAnyH_ready (rs := [6]) (by kernel_rfl) (by simp) ?_
        refine AllReadyH.cons rfl (fun K hK => ?_) AllReadyH.nil
        go_simp
        change K _ (World.alloc v3 (.cells (tabV .u8 64 (fun _ => 0)) 98))
        have hE : Ext v3 (World.alloc v3 (.cells (tabV .u8 64 (fun _ => 0)) 98)) := Ext.alloc _ _
        have FK : Arr (World.alloc v3 (.cells (tabV .u8 64 (fun _ => 0)) 98)) v3.heap.size 98 .u8 64 (fun _ => 0) := new_of _ _
        have hgk := FE.size
        obtain ⟨gk, hgk0⟩ : ∃ g, g = v3.heap.size := ⟨_, rfl⟩
        rw [← hgk0] at FK hgk ⊢
        obtain ⟨v4, hv⟩ : ∃ x, x = World.alloc v3 (.cells (tabV .u8 64 (fun _ => 0)) 98) := ⟨_, rfl⟩
        rw [← hv] at FK hE ⊢
        clear hv hgk0
        (try replace FT := FT.ext hE)
        (try replace FT2 := Nat.lt_of_lt_of_le FT2 hE.size)
        (try replace FS := FS.ext hE)
        replace FE := FE.tr hE
        clear hE
        refine hK.out _ _ trivial (fun _ => ?_)
        clear hK K
        try simp only [Act.put, List.setIfInBounds_toArray, List.set_cons_zero, List.set_cons_succ]
        refine wpAnyH_ready (rs := [7]) (by kernel_rfl) (by simp) ?_
        refine AllReadyH.cons rfl (fun K hK => ?_) AllReadyH.nil
        refine step_store_arr _ rfl 98 (.tmp 7) (.tmp 19) rfl gk .u8 64 (byt (kb key)) _ rfl rfl 98 FK size_key ?_
        intro v5 FK2 hG
        (try replace FT := FT.far hG FK (fun g' h => absurd h.2 (by decide)))
        (try replace FT2 := Nat.lt_of_lt_of_le FT2 hG.size)
        (try replace FS := FS.far hG FK (by decide))
        replace FE := grown_new FE hG (fun g hg => by simp at hg; omega)
        replace FK := FK2
        clear FK2 hG
        refine hK.out _ _ trivial (fun _ => ?_)
        clear hK K
        try simp only [Act.put, List.setIfInBounds_toArray, List.set_cons_zero, List.set_cons_succ]
        refine wpAnyH_ready (rs := [8]) (by kernel_rfl) (by simp) ?_
        refine AllReadyH.cons rfl (fun K hK => ?_) AllReadyH.nil
        go_simp
        refine hK.out _ _ trivial (fun _ => ?_)
        clear hK K
        try simp only [Act.put, List.setIfInBounds_toArray, List.set_cons_zero, List.set_cons_succ]
        refine wpAnyH_ready (rs := [9]) (by kernel_rfl) (by simp) ?_
        refine AllReadyH.cons rfl (fun K hK => ?_) AllReadyH.nil
        go_simp
        refine hK.out _ _ trivial (fun _ => ?_)
        clear hK K
        try simp only [Act.put, List.setIfInBounds_toArray, List.set_cons_zero, List.set_cons_succ]
        refine wpAnyH_done (by kernel_rfl) ?_ _
        exact PD.mk FK FT FTc FTm FS hne hgk hgt FT2 FE
      · skip
        go_simp
        change K _ (World.alloc v2 (.cells (tabV .u8 64 (fun _ => 0)) 98))
        have hE : Ext v2 (World.alloc v2 (.cells (tabV .u8 64 (fun _ => 0)) 98)) := Ext.alloc _ _
        have FK : Arr (World.alloc v2 (.cells (tabV .u8 64 (fun _ => 0)) 98)) v2.heap.size 98 .u8 64 (fun _ => 0) := new_of _ _
        have hgk := FE.size
        obtain ⟨gk, hgk0⟩ : ∃ g, g = v2.heap.size := ⟨_, rfl⟩
        rw [← hgk0] at FK hgk ⊢
        obtain ⟨v3, hv⟩ : ∃ x, x = World.alloc v2 (.cells (tabV .u8 64 (fun _ => 0)) 98) := ⟨_, rfl⟩
        rw [← hv] at FK hE ⊢
        clear hv hgk0
        (try replace FT := FT.ext hE)
        (try replace FT2 := Nat.lt_of_lt_of_le FT2 hE.size)
        (try replace FS := FS.ext hE)
        replace FE := FE.tr hE
        clear hE
        refine hK.out _ _ trivial (fun _ => ?_)
        clear hK K
        try simp only [Act.put, List.setIfInBounds_toArray, List.set_cons_zero, List.set_cons_succ]
        refine wpAnyH_ready (rs := [1]) (by kernel_rfl) (by simp) ?_
        refine AllReadyH.cons rfl (fun K hK => ?_) AllReadyH.nil
        go_simp
        refine (padded_c ka ck key SK _ (HT.out.ext FE) (HK.out.ext FE) HKL.out HKC.out hkm).mono ?_
        rintro e v4 ⟨rfl, hE⟩
        (try replace FT := FT.ext hE)
        (try replace FT2 := Nat.lt_of_lt_of_le FT2 hE.size)
        (try replace FS := FS.ext hE)
        (try replace FK := FK.ext hE)
        replace FE := FE.tr hE
        clear hE
        refine hK.out _ _ trivial (fun _ => ?_)
        clear hK K
        try simp only [Act.put, List.setIfInBounds_toArray, List.set_cons_zero, List.set_cons_succ]
        refine wpAnyH_ready (rs := [7]) (by kernel_rfl) (by simp) ?_
        refine AllReadyH.cons rfl (fun K hK => ?_) AllReadyH.nil
        refine step_store_arr _ rfl 98 (.tmp 7) (.tmp 19) rfl gk .u8 64 (byt (kb key)) _ rfl rfl 98 FK size_key ?_
        intro v5 FK2 hG
        (try replace FT := FT.far hG FK (fun g' h => absurd h.2 (by decide)))
        (try replace FT2 := Nat.lt_of_lt_of_le FT2 hG.size)
        (try replace FS := FS.far hG FK (by decide))
        replace FE := grown_new FE hG (fun g hg => by simp at hg; omega)
        replace FK := FK2
        clear FK2 hG
        refine hK.out _ _ trivial (fun _ => ?_)
        clear hK K
        try simp only [Act.put, List.setIfInBounds_toArray, List.set_cons_zero, List.set_cons_succ]
        refine wpAnyH_ready (rs := [8]) (by kernel_rfl) (by simp) ?_
        refine AllReadyH.cons rfl (fun K hK => ?_) AllReadyH.nil
        go_simp
        refine hK.out _ _ trivial (fun _ => ?_)
        clear hK K
        try simp only [Act.put, List.setIfInBounds_toArray, List.set_cons_zero, List.set_cons_succ]
        refine wpAnyH_ready (rs := [9]) (by kernel_rfl) (by simp) ?_
        refine AllReadyH.cons rfl (fun K hK => ?_) AllReadyH.nil
        go_simp
        refine hK.out _ _ trivial (fun _ => ?_)
        clear hK K
        try simp only [Act.put, List.setIfInBounds_toArray, List.set_cons_zero, List.set_cons_succ]
        refine wpAnyH_done (by kernel_rfl) ?_ _
        exact PD.mk FK FT FTc FTm FS hne hgk hgt FT2 FE
    · skip
      go_simp
      change K _ (World.alloc v1 (.cells (tabV .u8 64 (fun _ => 0)) 98))
      have hE : Ext v1 (World.alloc v1 (.cells (tabV .u8 64 (fun _ => 0)) 98)) := Ext.alloc _ _
      have FK : Arr (World.alloc v1 (.cells (tabV .u8 64 (fun _ => 0)) 98)) v1.heap.size 98 .u8 64 (fun _ => 0) := new_of _ _
      have hgk := FE.size
      obtain ⟨gk, hgk0⟩ : ∃ g, g = v1.heap.size := ⟨_, rfl⟩
      rw [← hgk0] at FK hgk ⊢
      obtain ⟨v2, hv⟩ : ∃ x, x = World.alloc v1 (.cells (tabV .u8 64 (fun _ => 0)) 98) := ⟨_, rfl⟩
      rw [← hv] at FK hE ⊢
      clear hv hgk0
      (try replace FT := FT.ext hE)
      (try replace FT2 := Nat.lt_of_lt_of_le FT2 hE.size)
      (try replace FS := FS.ext hE)
      replace FE := FE.tr hE
      clear hE
      refine hK.out _ _ trivial (fun _ => ?_)
      clear hK K
      try simp only [Act.put, List.setIfInBounds_toArray, List.set_cons_zero, List.set_cons_succ]
      refine wpAnyH_ready (rs := [1, 3]) (by kernel_rfl) (by simp) ?_
      refine AllReadyH.cons rfl (fun K hK => ?_) (AllReadyH.cons rfl (fun K hK => ?_) AllReadyH.nil)
      · skip
        go_simp
        refine (padded_c ka ck key SK _ (HT.out.ext FE) (HK.out.ext FE) HKL.out HKC.out hkm).mono ?_
        rintro e v3 ⟨rfl, hE⟩
        (try replace FT := FT.ext hE)
        (try replace FT2 := Nat.lt_of_lt_of_le FT2 hE.size)
        (try replace FS := FS.ext hE)
        (try replace FK := FK.ext hE)
        replace FE := FE.tr hE
        clear hE
        refine hK.out _ _ trivial (fun _ => ?_)
        clear hK K
        try simp only [Act.put, List.setIfInBounds_toArray, List.set_cons_zero, List.set_cons_succ]
        refine wpAnyH_ready (rs := [3, 7]) (by kernel_rfl) (by simp) ?_
        refine AllReadyH.cons rfl (fun K hK => ?_) (AllReadyH.cons rfl (fun K hK => ?_) AllReadyH.nil)
        · skip
          refine step_convert_str _ rfl 9 31 (.tmp 20) rfl 5 Tryz.underlying9 Tryz.underlying31 Tryz.underlying5 s lab.length rfl (by rw [HLAB.out]) (by have := HLL.out; unfold maxLen; omega) ?_
          intro gt ct v4 FT FTc FTm hge FT2 hE
          rw [HLAB.out] at FT
          have hne : gs ≠ gt := by have := FS.at_.2; omega
          have hgt : w.heap.size ≤ gt := Nat.le_trans FE.size hge
          clear hge
          (try replace FS := FS.ext hE)
          (try replace FK := FK.ext hE)
          replace FE := FE.tr hE
          clear hE
          refine hK.out _ _ trivial (fun _ => ?_)
          clear hK K
          try simp only [Act.put, List.setIfInBounds_toArray, List.set_cons_zero, List.set_cons_succ]
          refine wpAnyH_ready (rs := [7]) (by kernel_rfl) (by simp) ?_
          refine AllReadyH.cons rfl (fun K hK => ?_) AllReadyH.nil
          refine step_store_arr _ rfl 98 (.tmp 7) (.tmp 19) rfl gk .u8 64 (byt (kb key)) _ rfl rfl 98 FK size_key ?_
          intro v5 FK2 hG
          (try replace FT := FT.far hG FK (fun g' h => absurd h.2 (by decide)))
          (try replace FT2 := Nat.lt_of_lt_of_le FT2 hG.size)
          (try replace FS := FS.far hG FK (by decide))
          replace FE := grown_new FE hG (fun g hg => by simp at hg; omega)
          replace FK := FK2
          clear FK2 hG
          refine hK.out _ _ trivial (fun _ => ?_)
          clear hK K
          try simp only [Act.put, List.setIfInBounds_toArray, List.set_cons_zero, List.set_cons_succ]
          refine wpAnyH_ready (rs := [8]) (by kernel_rfl) (by simp) ?_
          refine AllReadyH.cons rfl (fun K hK => ?_) AllReadyH.nil
          go_simp
          refine hK.out _ _ trivial (fun _ => ?_)
          clear hK K
          try simp only [Act.put, List.setIfInBounds_toArray, List.set_cons_zero, List.set_cons_succ]
          refine wpAnyH_ready (rs := [9]) (by kernel_rfl) (by simp) ?_
          refine AllReadyH.cons rfl (fun K hK => ?_) AllReadyH.nil
          go_simp
          refine hK.out _ _ trivial (fun _ => ?_)
          clear hK K
          try simp only [Act.put, List.setIfInBounds_toArray, List.set_cons_zero, List.set_cons_succ]
          refine wpAnyH_done (by kernel_rfl) ?_ _
          exact PD.mk FK FT FTc FTm FS hne hgk hgt FT2 FE
        · skip
          refine step_store_arr _ rfl 98 (.tmp 7) (.tmp 19) rfl gk .u8 64 (byt (kb key)) _ rfl rfl 98 FK size_key ?_
          intro v4 FK2 hG
          (try replace FT := FT.far hG FK (fun g' h => absurd h.2 (by decide)))
          (try replace FT2 := Nat.lt_of_lt_of_le FT2 hG.size)
          (try replace FS := FS.far hG FK (by decide))
          replace FE := grown_new FE hG (fun g hg => by simp at hg; omega)
          replace FK := FK2
          clear FK2 hG
          refine hK.out _ _ trivial (fun _ => ?_)
          clear hK K
          try simp only [Act.put, List.setIfInBounds_toArray, List.set_cons_zero, List.set_cons_succ]
          refine wpAnyH_ready (rs := [3]) (by kernel_rfl) (by simp) ?_
          refine AllReadyH.cons rfl (fun K hK => ?_) AllReadyH.nil
          refine step_convert_str _ rfl 9 31 (.tmp 20) rfl 5 Tryz.underlying9 Tryz.underlying31 Tryz.underlying5 s lab.length rfl (by rw [HLAB.out]) (by have := HLL.out; unfold maxLen; omega) ?_
          intro gt ct v5 FT FTc FTm hge FT2 hE
          rw [HLAB.out] at FT
          have hne : gs ≠ gt := by have := FS.at_.2; omega
          have hgt : w.heap.size ≤ gt := Nat.le_trans FE.size hge
          clear hge
          (try replace FS := FS.ext hE)
          (try replace FK := FK.ext hE)
          replace FE := FE.tr hE
          clear hE
          refine hK.out _ _ trivial (fun _ => ?_)
          clear hK K
          try simp only [Act.put, List.setIfInBounds_toArray, List.set_cons_zero, List.set_cons_succ]
          refine wpAnyH_ready (rs := [8]) (by kernel_rfl) (by simp) ?_
          refine AllReadyH.cons rfl (fun K hK => ?_) AllReadyH.nil
          go_simp
          refine hK.out _ _ trivial (fun _ => ?_)
          clear hK K
          try simp only [Act.put, List.setIfInBounds_toArray, List.set_cons_zero, List.set_cons_succ]
          refine wpAnyH_ready (rs := [9]) (by kernel_rfl) (by simp) ?_
          refine AllReadyH.cons rfl (fun K hK => ?_) AllReadyH.nil
          go_simp
          refine hK.out _ _ trivial (fun _ => ?_)
          clear hK K
          try simp only [Act.put, List.setIfInBounds_toArray, List.set_cons_zero, List.set_cons_succ]
          refine wpAnyH_done (by kernel_rfl) ?_ _
          exact PD.mk FK FT FTc FTm FS hne hgk hgt FT2 FE
      · skip
        refine step_convert_str _ rfl 9 31 (.tmp 20) rfl 5 Tryz.underlying9 Tryz.underlying31 Tryz.underlying5 s lab.length rfl (by rw [HLAB.out]) (by have := HLL.out; unfold maxLen; omega) ?_
        intro gt ct v3 FT FTc FTm hge FT2 hE
        rw [HLAB.out] at FT
        have hne : gs ≠ gt := by have := FS.at_.2; omega
        have hgt : w.heap.size ≤ gt := Nat.le_trans FE.size hge
        clear hge
        (try replace FS := FS.ext hE)
        (try replace FK := FK.ext hE)
        replace FE := FE.tr hE
        clear hE
        refine hK.out _ _ trivial (fun _ => ?_)
        clear hK K
        try simp only [Act.put, List.setIfInBounds_toArray, List.set_cons_zero, List.set_cons_succ]
        refine wpAnyH_ready (rs := [1]) (by kernel_rfl) (by simp) ?_
        refine AllReadyH.cons rfl (fun K hK => ?_) AllReadyH.nil
        go_simp
        refine (padded_c ka ck key SK _ (HT.out.ext FE) (HK.out.ext FE) HKL.out HKC.out hkm).mono ?_
        rintro e v4 ⟨rfl, hE⟩
        (try replace FT := FT.ext hE)
        (try replace FT2 := Nat.lt_of_lt_of_le FT2 hE.size)
        (try replace FS := FS.ext hE)
        (try replace FK := FK.ext hE)
        replace FE := FE.tr hE
        clear hE
        refine hK.out _ _ trivial (fun _ => ?_)
        clear hK K
        try simp only [Act.put, List.setIfInBounds_toArray, List.set_cons_zero, List.set_cons_succ]
        refine wpAnyH_ready (rs := [7]) (by kernel_rfl) (by simp) ?_
        refine AllReadyH.cons rfl (fun K hK => ?_) AllReadyH.nil
        refine step_store_arr _ rfl 98 (.tmp 7) (.tmp 19) rfl gk .u8 64 (byt (kb key)) _ rfl rfl 98 FK size_key ?_
        intro v5 FK2 hG
        (try replace FT := FT.far hG FK (fun g' h => absurd h.2 (by decide)))
        (try replace FT2 := Nat.lt_of_lt_of_le FT2 hG.size)
        (try replace FS := FS.far hG FK (by decide))
        replace FE := grown_new FE hG (fun g hg => by simp at hg; omega)
        replace FK := FK2
        clear FK2 hG
        refine hK.out _ _ trivial (fun _ => ?_)
        clear hK K
        try simp only [Act.put, List.setIfInBounds_toArray, List.set_cons_zero, List.set_cons_succ]
        refine wpAnyH_ready (rs := [8]) (by kernel_rfl) (by simp) ?_
        refine AllReadyH.cons rfl (fun K hK => ?_) AllReadyH.nil
        go_simp
        refine hK.out _ _ trivial (fun _ => ?_)
        clear hK K
        try simp only [Act.put, List.setIfInBounds_toArray, List.set_cons_zero, List.set_cons_succ]
        refine wpAnyH_ready (rs := [9]) (by kernel_rfl) (by simp) ?_
        refine AllReadyH.cons rfl (fun K hK => ?_) AllReadyH.nil
        go_simp
        refine hK.out _ _ trivial (fun _ => ?_)
        clear hK K
        try simp only [Act.put, List.setIfInBounds_toArray, List.set_cons_zero, List.set_cons_succ]
        refine wpAnyH_done (by kernel_rfl) ?_ _
        exact PD.mk FK FT FTc FTm FS hne hgk hgt FT2 FE
  · skip
    go_simp
    change K _ (World.alloc v0 (.cells (tabV .u8 64 (fun _ => 0)) 98))
    have hE : Ext v0 (World.alloc v0 (.cells (tabV .u8 64 (fun _ => 0)) 98)) := Ext.alloc _ _
    have FK : Arr (World.alloc v0 (.cells (tabV .u8 64 (fun _ => 0)) 98)) v0.heap.size 98 .u8 64 (fun _ => 0) := new_of _ _
    have hgk := FE.size
    obtain ⟨gk, hgk0⟩ : ∃ g, g = v0.heap.size := ⟨_, rfl⟩
    rw [← hgk0] at FK hgk ⊢
    obtain ⟨v1, hv⟩ : ∃ x, x = World.alloc v0 (.cells (tabV .u8 64 (fun _ => 0)) 98) := ⟨_, rfl⟩
    rw [← hv] at FK hE ⊢
    clear hv hgk0
    (try replace FT := FT.ext hE)
    (try replace FT2 := Nat.lt_of_lt_of_le FT2 hE.size)
    (try replace FS := FS.ext hE)
    replace FE := FE.tr hE
    clear hE
    refine hK.out _ _ trivial (fun _ => ?_)
    clear hK K
    try simp only [Act.put, List.setIfInBounds_toArray, List.set_cons_zero, List.set_cons_succ]
    refine wpAnyH_ready (rs := [1, 3, 5]) (by kernel_rfl) (by simp) ?_
    refine AllReadyH.cons rfl (fun K hK => ?_) (AllReadyH.cons rfl (fun K hK => ?_) (AllReadyH.cons rfl (fun K hK => ?_) AllReadyH.nil))
    · skip
      go_simp
      refine (padded_c ka ck key SK _ (HT.out.ext FE) (HK.out.ext FE) HKL.out HKC.out hkm).mono ?_
      rintro e v2 ⟨rfl, hE⟩
      (try replace FT := FT.ext hE)
      (try replace FT2 := Nat.lt_of_lt_of_le FT2 hE.size)
      (try replace FS := FS.ext hE)
      (try replace FK := FK.ext hE)
      replace FE := FE.tr hE
      clear hE
      refine hK.out _ _ trivial (fun _ => ?_)
      clear hK K
      try simp only [Act.put, List.setIfInBounds_toArray, List.set_cons_zero, List.set_cons_succ]
      refine wpAnyH_ready (rs := [3, 5, 7]) (by kernel_rfl) (by simp) ?_
      refine AllReadyH.cons rfl (fun K hK => ?_) (AllReadyH.cons rfl (fun K hK => ?_) (AllReadyH.cons rfl (fun K hK => ?_) AllReadyH.nil))
      · skip
        refine step_convert_str _ rfl 9 31 (.tmp 20) rfl 5 Tryz.underlying9 Tryz.underlying31 Tryz.underlying5 s lab.length rfl (by rw [HLAB.out]) (by have := HLL.out; unfold maxLen; omega) ?_
        intro gt ct v3 FT FTc FTm hge FT2 hE
        rw [HLAB.out] at FT
        have hgt : w.heap.size ≤ gt := Nat.le_trans FE.size hge
        clear hge
        (try replace FS := FS.ext hE)
        (try replace FK := FK.ext hE)
        replace FE := FE.tr hE
        clear hE
        refine hK.out _ _ trivial (fun _ => ?_)
        clear hK K
        try simp only [Act.put, List.setIfInBounds_toArray, List.set_cons_zero, List.set_cons_succ]
        refine wpAnyH_ready (rs := [5, 7]) (by kernel_rfl) (by simp) ?_
        refine AllReadyH.cons rfl (fun K hK => ?_) (AllReadyH.cons rfl (fun K hK => ?_) AllReadyH.nil)
        · skip
          refine step_make0 _ rfl (.const (.int .i64 0)) (.tmp 22) 31 rfl 5 i0 Tryz.underlying31 hi0 hz0 hz1 hz2 .i64 .i64 n rfl rfl (by omega) w.heap.size FE.size ?_
          intro gs v4 FS hge hE
          have hne : gs ≠ gt := by omega
          clear hge
          (try replace FT := FT.ext hE)
          (try replace FT2 := Nat.lt_of_lt_of_le FT2 hE.size)
          (try replace FK := FK.ext hE)
          replace FE := FE.tr hE
          clear hE
          refine hK.out _ _ trivial (fun _ => ?_)
          clear hK K
          try simp only [Act.put, List.setIfInBounds_toArray, List.set_cons_zero, List.set_cons_succ]
          refine wpAnyH_ready (rs := [7]) (by kernel_rfl) (by simp) ?_
          refine AllReadyH.cons rfl (fun K hK => ?_) AllReadyH.nil
          refine step_store_arr _ rfl 98 (.tmp 7) (.tmp 19) rfl gk .u8 64 (byt (kb key)) _ rfl rfl 98 FK size_key ?_
          intro v5 FK2 hG
          (try replace FT := FT.far hG FK (fun g' h => absurd h.2 (by decide)))
          (try replace FT2 := Nat.lt_of_lt_of_le FT2 hG.size)
          (try replace FS := FS.far hG FK (by decide))
          replace FE := grown_new FE hG (fun g hg => by simp at hg; omega)
          replace FK := FK2
          clear FK2 hG
          refine hK.out _ _ trivial (fun _ => ?_)
          clear hK K
          try simp only [Act.put, List.setIfInBounds_toArray, List.set_cons_zero, List.set_cons_succ]
          refine wpAnyH_ready (rs := [8]) (by kernel_rfl) (by simp) ?_
          refine AllReadyH.cons rfl (fun K hK => ?_) AllReadyH.nil
          go_simp
          refine hK.out _ _ trivial (fun _ => ?_)
          clear hK K
          try simp only [Act.put, List.setIfInBounds_toArray, List.set_cons_zero, List.set_cons_succ]
          refine wpAnyH_ready (rs := [9]) (by kernel_rfl) (by simp) ?_
          refine AllReadyH.cons rfl (fun K hK => ?_) AllReadyH.nil
          go_simp
          refine hK.out _ _ trivial (fun _ => ?_)
          clear hK K
          try simp only [Act.put, List.setIfInBounds_toArray, List.set_cons_zero, List.set_cons_succ]
          refine wpAnyH_done (by kernel_rfl) ?_ _
          exact PD.mk FK FT FTc FTm FS hne hgk hgt FT2 FE
        · skip
          refine step_store_arr _ rfl 98 (.tmp 7) (.tmp 19) rfl gk .u8 64 (byt (kb key)) _ rfl rfl 98 FK size_key ?_
          intro v4 FK2 hG
          (try replace FT := FT.far hG FK (fun g' h => absurd h.2 (by decide)))
          (try replace FT2 := Nat.lt_of_lt_of_le FT2 hG.size)
          (try replace FS := FS.far hG FK (by decide))
          replace FE := grown_new FE hG (fun g hg => by simp at hg; omega)
          replace FK := FK2
          clear FK2 hG
          refine hK.out _ _ trivial (fun _ => ?_)
          clear hK K
          try simp only [Act.put, List.setIfInBounds_toArray, List.set_cons_zero, List.set_cons_succ]
          refine wpAnyH_take_asg 8 rfl (by kernel_rfl) (by kernel_rfl) (by kernel_rfl) (fun _ _ _ _ h => PD.calm h) (by kernel_rfl) (.tmp 21) rfl (.slice (some ⟨gt, 0, none⟩) lab.length ct) rfl trivial ?_
          try simp only [Act.put, List.setIfInBounds_toArray, List.set_cons_zero, List.set_cons_succ]
          refine wpAnyH_ready (rs := [5]) (by kernel_rfl) (by simp) ?_
          refine AllReadyH.cons rfl (fun K hK => ?_) AllReadyH.nil
          refine step_make0 _ rfl (.const (.int .i64 0)) (.tmp 22) 31 rfl 5 i0 Tryz.underlying31 hi0 hz0 hz1 hz2 .i64 .i64 n rfl rfl (by omega) w.heap.size FE.size ?_
          intro gs v6 FS hge hE
          have hne : gs ≠ gt := by omega
          clear hge
          (try replace FT := FT.ext hE)
          (try replace FT2 := Nat.lt_of_lt_of_le FT2 hE.size)
          (try replace FK := FK.ext hE)
          replace FE := FE.tr hE
          clear hE
          refine hK.out _ _ trivial (fun _ => ?_)
          clear hK K
          try simp only [Act.put, List.setIfInBounds_toArray, List.set_cons_zero, List.set_cons_succ]
          refine wpAnyH_ready (rs := [9]) (by kernel_rfl) (by simp) ?_
          refine AllReadyH.cons rfl (fun K hK => ?_) AllReadyH.nil
          go_simp
          refine hK.out _ _ trivial (fun _ => ?_)
          clear hK K
          try simp only [Act.put, List.setIfInBounds_toArray, List.set_cons_zero, List.set_cons_succ]
          refine wpAnyH_done (by kernel_rfl) ?_ _
          exact PD.mk FK FT FTc FTm FS hne hgk hgt FT2 FE
      · skip
        refine step_make0 _ rfl (.const (.int .i64 0)) (.tmp 22) 31 rfl 5 i0 Tryz.underlying31 hi0 hz0 hz1 hz2 .i64 .i64 n rfl rfl (by omega) w.heap.size FE.size ?_
        intro gs v3 FS hge hE
        clear hge
        (try replace FT := FT.ext hE)
        (try replace FT2 := Nat.lt_of_lt_of_le FT2 hE.size)
        (try replace FK := FK.ext hE)
        replace FE := FE.tr hE
        clear hE
        refine hK.out _ _ trivial (fun _ => ?_)
        clear hK K
        try simp only [Act.put, List.setIfInBounds_toArray, List.set_cons_zero, List.set_cons_succ]
        refine wpAnyH_ready (rs := [3, 7]) (by kernel_rfl) (by simp) ?_
        refine AllReadyH.cons rfl (fun K hK => ?_) (AllReadyH.cons rfl (fun K hK => ?_) AllReadyH.nil)
        · skip
          refine step_convert_str _ rfl 9 31 (.tmp 20) rfl 5 Tryz.underlying9 Tryz.underlying31 Tryz.underlying5 s lab.length rfl (by rw [HLAB.out]) (by have := HLL.out; unfold maxLen; omega) ?_
          intro gt ct v4 FT FTc FTm hge FT2 hE
          rw [HLAB.out] at FT
          have hne : gs ≠ gt := by have := FS.at_.2; omega
          have hgt : w.heap.size ≤ gt := Nat.le_trans FE.size hge
          clear hge
          (try replace FS := FS.ext hE)
          (try replace FK := FK.ext hE)
          replace FE := FE.tr hE
          clear hE
          refine hK.out _ _ trivial (fun _ => ?_)
          clear hK K
          try simp only [Act.put, List.setIfInBounds_toArray, List.set_cons_zero, List.set_cons_succ]
          refine wpAnyH_ready (rs := [7]) (by kernel_rfl) (by simp) ?_
          refine AllReadyH.cons rfl (fun K hK => ?_) AllReadyH.nil
          refine step_store_arr _ rfl 98 (.tmp 7) (.tmp 19) rfl gk .u8 64 (byt (kb key)) _ rfl rfl 98 FK size_key ?_
          intro v5 FK2 hG
          (try replace FT := FT.far hG FK (fun g' h => absurd h.2 (by decide)))
          (try replace FT2 := Nat.lt_of_lt_of_le FT2 hG.size)
          (try replace FS := FS.far hG FK (by decide))
          replace FE := grown_new FE hG (fun g hg => by simp at hg; omega)
          replace FK := FK2
          clear FK2 hG
          refine hK.out _ _ trivial (fun _ => ?_)
          clear hK K
          try simp only [Act.put, List.setIfInBounds_toArray, List.set_cons_zero, List.set_cons_succ]
          refine wpAnyH_ready (rs := [8]) (by kernel_rfl) (by simp) ?_
          refine AllReadyH.cons rfl (fun K hK => ?_) AllReadyH.nil
          go_simp
          refine hK.out _ _ trivial (fun _ => ?_)
          clear hK K
          try simp only [Act.put, List.setIfInBounds_toArray, List.set_cons_zero, List.set_cons_succ]
          refine wpAnyH_ready (rs := [9]) (by kernel_rfl) (by simp) ?_
          refine AllReadyH.cons rfl (fun K hK => ?_) AllReadyH.nil
          go_simp
          refine hK.out _ _ trivial (fun _ => ?_)
          clear hK K
          try simp only [Act.put, List.setIfInBounds_toArray, List.set_cons_zero, List.set_cons_succ]
          refine wpAnyH_done (by kernel_rfl) ?_ _
          exact PD.mk FK FT FTc FTm FS hne hgk hgt FT2 FE
        · skip
          refine step_store_arr _ rfl 98 (.tmp 7) (.tmp 19) rfl gk .u8 64 (byt (kb key)) _ rfl rfl 98 FK size_key ?_
          intro v4 FK2 hG
          (try replace FT := FT.far hG FK (fun g' h => absurd h.2 (by decide)))
          (try replace FT2 := Nat.lt_of_lt_of_le FT2 hG.size)
          (try replace FS := FS.far hG FK (by decide))
          replace FE := grown_new FE hG (fun g hg => by simp at hg; omega)
          replace FK := FK2
          clear FK2 hG
          refine hK.out _ _ trivial (fun _ => ?_)
          clear hK K
          try simp only [Act.put, List.setIfInBounds_toArray, List.set_cons_zero, List.set_cons_succ]
          refine wpAnyH_ready (rs := [3]) (by kernel_rfl) (by simp) ?_
          refine AllReadyH.cons rfl (fun K hK => ?_) AllReadyH.nil
          refine step_convert_str _ rfl 9 31 (.tmp 20) rfl 5 Tryz.underlying9 Tryz.underlying31 Tryz.underlying5 s lab.length rfl (by rw [HLAB.out]) (by have := HLL.out; unfold maxLen; omega) ?_
          intro gt ct v5 FT FTc FTm hge FT2 hE
          rw [HLAB.out] at FT
          have hne : gs ≠ gt := by have := FS.at_.2; omega
          have hgt : w.heap.size ≤ gt := Nat.le_trans FE.size hge
          clear hge
          (try replace FS := FS.ext hE)
          (try replace FK := FK.ext hE)
          replace FE := FE.tr hE
          clear hE
          refine hK.out _ _ trivial (fun _ => ?_)
          clear hK K
          try simp only [Act.put, List.setIfInBounds_toArray, List.set_cons_zero, List.set_cons_succ]
          refine wpAnyH_ready (rs := [8]) (by kernel_rfl) (by simp) ?_
          refine AllReadyH.cons rfl (fun K hK => ?_) AllReadyH.nil
          go_simp
          refine hK.out _ _ trivial (fun _ => ?_)
          clear hK K
          try simp only [Act.put, List.setIfInBounds_toArray, List.set_cons_zero, List.set_cons_succ]
          refine wpAnyH_ready (rs := [9]) (by kernel_rfl) (by simp) ?_
          refine AllReadyH.cons rfl (fun K hK => ?_) AllReadyH.nil
          go_simp
          refine hK.out _ _ trivial (fun _ => ?_)
          clear hK K
          try simp only [Act.put, List.setIfInBounds_toArray, List.set_cons_zero, List.set_cons_succ]
          refine wpAnyH_done (by kernel_rfl) ?_ _
          exact PD.mk FK FT FTc FTm FS hne hgk hgt FT2 FE
      · skip
        refine step_store_arr _ rfl 98 (.tmp 7) (.tmp 19) rfl gk .u8 64 (byt (kb key)) _ rfl rfl 98 FK size_key ?_
        intro v3 FK2 hG
        (try replace FT := FT.far hG FK (fun g' h => absurd h.2 (by decide)))
        (try replace FT2 := Nat.lt_of_lt_of_le FT2 hG.size)
        (try replace FS := FS.far hG FK (by decide))
        replace FE := grown_new FE hG (fun g hg => by simp at hg; omega)
        replace FK := FK2
        clear FK2 hG
        refine hK.out _ _ trivial (fun _ => ?_)
        clear hK K
        try simp only [Act.put, List.setIfInBounds_toArray, List.set_cons_zero, List.set_cons_succ]
        refine wpAnyH_ready (rs := [3, 5]) (by kernel_rfl) (by simp) ?_
        refine AllReadyH.cons rfl (fun K hK => ?_) (AllReadyH.cons rfl (fun K hK => ?_) AllReadyH.nil)
        · skip
          refine step_convert_str _ rfl 9 31 (.tmp 20) rfl 5 Tryz.underlying9 Tryz.underlying31 Tryz.underlying5 s lab.length rfl (by rw [HLAB.out]) (by have := HLL.out; unfold maxLen; omega) ?_
          intro gt ct v4 FT FTc FTm hge FT2 hE
          rw [HLAB.out] at FT
          have hgt : w.heap.size ≤ gt := Nat.le_trans FE.size hge
          clear hge
          (try replace FS := FS.ext hE)
          (try replace FK := FK.ext hE)
          replace FE := FE.tr hE
          clear hE
          refine hK.out _ _ trivial (fun _ => ?_)
          clear hK K
          try simp only [Act.put, List.setIfInBounds_toArray, List.set_cons_zero, List.set_cons_succ]
          refine wpAnyH_take_asg 8 rfl (by kernel_rfl) (by kernel_rfl) (by kernel_rfl) (fun _ _ _ _ h => PD.calm h) (by kernel_rfl) (.tmp 21) rfl (.slice (some ⟨gt, 0, none⟩) lab.length ct) rfl trivial ?_
          try simp only [Act.put, List.setIfInBounds_toArray, List.set_cons_zero, List.set_cons_succ]
          refine wpAnyH_ready (rs := [5]) (by kernel_rfl) (by simp) ?_
          refine AllReadyH.cons rfl (fun K hK => ?_) AllReadyH.nil
          refine step_make0 _ rfl (.const (.int .i64 0)) (.tmp 22) 31 rfl 5 i0 Tryz.underlying31 hi0 hz0 hz1 hz2 .i64 .i64 n rfl rfl (by omega) w.heap.size FE.size ?_
          intro gs v6 FS hge hE
          have hne : gs ≠ gt := by omega
          clear hge
          (try replace FT := FT.ext hE)
          (try replace FT2 := Nat.lt_of_lt_of_le FT2 hE.size)
          (try replace FK := FK.ext hE)
          replace FE := FE.tr hE
          clear hE
          refine hK.out _ _ trivial (fun _ => ?_)
          clear hK K
          try simp only [Act.put, List.setIfInBounds_toArray, List.set_cons_zero, List.set_cons_succ]
          refine wpAnyH_ready (rs := [9]) (by kernel_rfl) (by simp) ?_
          refine AllReadyH.cons rfl (fun K hK => ?_) AllReadyH.nil
          go_simp
          refine hK.out _ _ trivial (fun _ => ?_)
          clear hK K
          try simp only [Act.put, List.setIfInBounds_toArray, List.set_cons_zero, List.set_cons_succ]
          refine wpAnyH_done (by kernel_rfl) ?_ _
          exact PD.mk FK FT FTc FTm FS hne hgk hgt FT2 FE
        · skip
          refine step_make0 _ rfl (.const (.int .i64 0)) (.tmp 22) 31 rfl 5 i0 Tryz.underlying31 hi0 hz0 hz1 hz2 .i64 .i64 n rfl rfl (by omega) w.heap.size FE.size ?_
          intro gs v4 FS hge hE
          clear hge
          (try replace FT := FT.ext hE)
          (try replace FT2 := Nat.lt_of_lt_of_le FT2 hE.size)
          (try replace FK := FK.ext hE)
          replace FE := FE.tr hE
          clear hE
          refine hK.out _ _ trivial (fun _ => ?_)
          clear hK K
          try simp only [Act.put, List.setIfInBounds_toArray, List.set_cons_zero, List.set_cons_succ]
          refine wpAnyH_ready (rs := [3]) (by kernel_rfl) (by simp) ?_
          refine AllReadyH.cons rfl (fun K hK => ?_) AllReadyH.nil
          refine step_convert_str _ rfl 9 31 (.tmp 20) rfl 5 Tryz.underlying9 Tryz.underlying31 Tryz.underlying5 s lab.length rfl (by rw [HLAB.out]) (by have := HLL.out; unfold maxLen; omega) ?_
          intro gt ct v5 FT FTc FTm hge FT2 hE
          rw [HLAB.out] at FT
          have hne : gs ≠ gt := by have := FS.at_.2; omega
          have hgt : w.heap.size ≤ gt := Nat.le_trans FE.size hge
          clear hge
          (try replace FS := FS.ext hE)
          (try replace FK := FK.ext hE)
          replace FE := FE.tr hE
          clear hE
          refine hK.out _ _ trivial (fun _ => ?_)
          clear hK K
          try simp only [Act.put, List.setIfInBounds_toArray, List.set_cons_zero, List.set_cons_succ]
          refine wpAnyH_ready (rs := [8]) (by kernel_rfl) (by simp) ?_
          refine AllReadyH.cons rfl (fun K hK => ?_) AllReadyH.nil
          go_simp
          refine hK.out _ _ trivial (fun _ => ?_)
          clear hK K
          try simp only [Act.put, List.setIfInBounds_toArray, List.set_cons_zero, List.set_cons_succ]
          refine wpAnyH_ready (rs := [9]) (by kernel_rfl) (by simp) ?_
          refine AllReadyH.cons rfl (fun K hK => ?_) AllReadyH.nil
          go_simp
          refine hK.out _ _ trivial (fun _ => ?_)
          clear hK K
          try simp only [Act.put, List.setIfInBounds_toArray, List.set_cons_zero, List.set_cons_succ]
          refine wpAnyH_done (by kernel_rfl) ?_ _
          exact PD.mk FK FT FTc FTm FS hne hgk hgt FT2 FE
    · skip
      refine step_convert_str _ rfl 9 31 (.tmp 20) rfl 5 Tryz.underlying9 Tryz.underlying31 Tryz.underlying5 s lab.length rfl (by rw [HLAB.out]) (by have := HLL.out; unfold maxLen; omega) ?_
      intro gt ct v2 FT FTc FTm hge FT2 hE
      rw [HLAB.out] at FT
      have hgt : w.heap.size ≤ gt := Nat.le_trans FE.size hge
      clear hge
      (try replace FS := FS.ext hE)
      (try replace FK := FK.ext hE)
      replace FE := FE.tr hE
      clear hE
      refine hK.out _ _ trivial (fun _ => ?_)
      clear hK K
      try simp only [Act.put, List.setIfInBounds_toArray, List.set_cons_zero, List.set_cons_succ]
      refine wpAnyH_ready (rs := [1, 5]) (by kernel_rfl) (by simp) ?_
      refine AllReadyH.cons rfl (fun K hK => ?_) (AllReadyH.cons rfl (fun K hK => ?_) AllReadyH.nil)
      · skip
        go_simp
        refine (padded_c ka ck key SK _ (HT.out.ext FE) (HK.out.ext FE) HKL.out HKC.out hkm).mono ?_
        rintro e v3 ⟨rfl, hE⟩
        (try replace FT := FT.ext hE)
        (try replace FT2 := Nat.lt_of_lt_of_le FT2 hE.size)
        (try replace FS := FS.ext hE)
        (try replace FK := FK.ext hE)
        replace FE := FE.tr hE
        clear hE
        refine hK.out _ _ trivial (fun _ => ?_)
        clear hK K
        try simp only [Act.put, List.setIfInBounds_toArray, List.set_cons_zero, List.set_cons_succ]
        refine wpAnyH_ready (rs := [5, 7]) (by kernel_rfl) (by simp) ?_
        refine AllReadyH.cons rfl (fun K hK => ?_) (AllReadyH.cons rfl (fun K hK => ?_) AllReadyH.nil)
        · skip
          refine step_make0 _ rfl (.const (.int .i64 0)) (.tmp 22) 31 rfl 5 i0 Tryz.underlying31 hi0 hz0 hz1 hz2 .i64 .i64 n rfl rfl (by omega) w.heap.size FE.size ?_
          intro gs v4 FS hge hE
          have hne : gs ≠ gt := by omega
          clear hge
          (try replace FT := FT.ext hE)
          (try replace FT2 := Nat.lt_of_lt_of_le FT2 hE.size)
          (try replace FK := FK.ext hE)
          replace FE := FE.tr hE
          clear hE
          refine hK.out _ _ trivial (fun _ => ?_)
          clear hK K
          try simp only [Act.put, List.setIfInBounds_toArray, List.set_cons_zero, List.set_cons_succ]
          refine wpAnyH_ready (rs := [7]) (by kernel_rfl) (by simp) ?_
          refine AllReadyH.cons rfl (fun K hK => ?_) AllReadyH.nil
          refine step_store_arr _ rfl 98 (.tmp 7) (.tmp 19) rfl gk .u8 64 (byt (kb key)) _ rfl rfl 98 FK size_key ?_
          intro v5 FK2 hG
          (try replace FT := FT.far hG FK (fun g' h => absurd h.2 (by decide)))
          (try replace FT2 := Nat.lt_of_lt_of_le FT2 hG.size)
          (try replace FS := FS.far hG FK (by decide))
          replace FE := grown_new FE hG (fun g hg => by simp at hg; omega)
          replace FK := FK2
          clear FK2 hG
          refine hK.out _ _ trivial (fun _ => ?_)
          clear hK K
          try simp only [Act.put, List.setIfInBounds_toArray, List.set_cons_zero, List.set_cons_succ]
          refine wpAnyH_ready (rs := [8]) (by kernel_rfl) (by simp) ?_
          refine AllReadyH.cons rfl (fun K hK => ?_) AllReadyH.nil
          go_simp
          refine hK.out _ _ trivial (fun _ => ?_)
          clear hK K
          try simp only [Act.put, List.setIfInBounds_toArray, List.set_cons_zero, List.set_cons_succ]
          refine wpAnyH_ready (rs := [9]) (by kernel_rfl) (by simp) ?_
          refine AllReadyH.cons rfl (fun K hK => ?_) AllReadyH.nil
          go_simp
          refine hK.out _ _ trivial (fun _ => ?_)
          clear hK K
          try simp only [Act.put, List.setIfInBounds_toArray, List.set_cons_zero, List.set_cons_succ]
          refine wpAnyH_done (by kernel_rfl) ?_ _
          exact PD.mk FK FT FTc FTm FS hne hgk hgt FT2 FE
        · skip
          refine step_store_arr _ rfl 98 (.tmp 7) (.tmp 19) rfl gk .u8 64 (byt (kb key)) _ rfl rfl 98 FK size_key ?_
          intro v4 FK2 hG
          (try replace FT := FT.far hG FK (fun g' h => absurd h.2 (by decide)))
          (try replace FT2 := Nat.lt_of_lt_of_le FT2 hG.size)
          (try replace FS := FS.far hG FK (by decide))
          replace FE := grown_new FE hG (fun g hg => by simp at hg; omega)
          replace FK := FK2
          clear FK2 hG
          refine hK.out _ _ trivial (fun _ => ?_)
          clear hK K
          try simp only [Act.put, List.setIfInBounds_toArray, List.set_cons_zero, List.set_cons_succ]
          refine wpAnyH_take_asg 8 rfl (by kernel_rfl) (by kernel_rfl) (by kernel_rfl) (fun _ _ _ _ h => PD.calm h) (by kernel_rfl) (.tmp 21) rfl (.slice (some ⟨gt, 0, none⟩) lab.length ct) rfl trivial ?_
          try simp only [Act.put, List.setIfInBounds_toArray, List.set_cons_zero, List.set_cons_succ]
          refine wpAnyH_ready (rs := [5]) (by kernel_rfl) (by simp) ?_
          refine AllReadyH.cons rfl (fun K hK => ?_) AllReadyH.nil
          refine step_make0 _ rfl (.const (.int .i64 0)) (.tmp 22) 31 rfl 5 i0 Tryz.underlying31 hi0 hz0 hz1 hz2 .i64 .i64 n rfl rfl (by omega) w.heap.size FE.size ?_
          intro gs v6 FS hge hE
          have hne : gs ≠ gt := by omega
          clear hge
          (try replace FT := FT.ext hE)
          (try replace FT2 := Nat.lt_of_lt_of_le FT2 hE.size)
          (try replace FK := FK.ext hE)
          replace FE := FE.tr hE
          clear hE
          refine hK.out _ _ trivial (fun _ => ?_)
          clear hK K
          try simp only [Act.put, List.setIfInBounds_toArray, List.set_cons_zero, List.set_cons_succ]
          refine wpAnyH_ready (rs := [9]) (by kernel_rfl) (by simp) ?_
          refine AllReadyH.cons rfl (fun K hK => ?_) AllReadyH.nil
          go_simp
          refine hK.out _ _ trivial (fun _ => ?_)
          clear hK K
          try simp only [Act.put, List.setIfInBounds_toArray, List.set_cons_zero, List.set_cons_succ]
          refine wpAnyH_done (by kernel_rfl) ?_ _
          exact PD.mk FK FT FTc FTm FS hne hgk hgt FT2 FE
      · skip
        refine step_make0 _ rfl (.const (.int .i64 0)) (.tmp 22) 31 rfl 5 i0 Tryz.underlying31 hi0 hz0 hz1 hz2 .i64 .i64 n rfl rfl (by omega) w.heap.size FE.size ?_
        intro gs v3 FS hge hE
        have hne : gs ≠ gt := by omega
        clear hge
        (try replace FT := FT.ext hE)
        (try replace FT2 := Nat.lt_of_lt_of_le FT2 hE.size)
        (try replace FK := FK.ext hE)
        replace FE := FE.tr hE
        clear hE
        refine hK.out _ _ trivial (fun _ => ?_)
        clear hK K
        try simp only [Act.put, List.setIfInBounds_toArray, List.set_cons_zero, List.set_cons_succ]
        refine wpAnyH_ready (rs := [1]) (by kernel_rfl) (by simp) ?_
        refine AllReadyH.cons rfl (fun K hK => ?_) AllReadyH.nil
        go_simp
        refine (padded_c ka ck key SK _ (HT.out.ext FE) (HK.out.ext FE) HKL.out HKC.out hkm).mono ?_
        rintro e v4 ⟨rfl, hE⟩
        (try replace FT := FT.ext hE)
        (try replace FT2 := Nat.lt_of_lt_of_le FT2 hE.size)
        (try replace FS := FS.ext hE)
        (try replace FK := FK.ext hE)
        replace FE := FE.tr hE
        clear hE
        refine hK.out _ _ trivial (fun _ => ?_)
        clear hK K
        try simp only [Act.put, List.setIfInBounds_toArray, List.set_cons_zero, List.set_cons_succ]
        refine wpAnyH_ready (rs := [7]) (by kernel_rfl) (by simp) ?_
        refine AllReadyH.cons rfl (fun K hK => ?_) AllReadyH.nil
        refine step_store_arr _ rfl 98 (.tmp 7) (.tmp 19) rfl gk .u8 64 (byt (kb key)) _ rfl rfl 98 FK size_key ?_
        intro v5 FK2 hG
        (try replace FT := FT.far hG FK (fun g' h => absurd h.2 (by decide)))
        (try replace FT2 := Nat.lt_of_lt_of_le FT2 hG.size)
        (try replace FS := FS.far hG FK (by decide))
        replace FE := grown_new FE hG (fun g hg => by simp at hg; omega)
        replace FK := FK2
        clear FK2 hG
        refine hK.out _ _ trivial (fun _ => ?_)
        clear hK K
        try simp only [Act.put, List.setIfInBounds_toArray, List.set_cons_zero, List.set_cons_succ]
        refine wpAnyH_ready (rs := [8]) (by kernel_rfl) (by simp) ?_
        refine AllReadyH.cons rfl (fun K hK => ?_) AllReadyH.nil
        go_simp
        refine hK.out _ _ trivial (fun _ => ?_)
        clear hK K
        try simp only [Act.put, List.setIfInBounds_toArray, List.set_cons_zero, List.set_cons_succ]
        refine wpAnyH_ready (rs := [9]) (by kernel_rfl) (by simp) ?_
        refine AllReadyH.cons rfl (fun K hK => ?_) AllReadyH.nil
        go_simp
        refine hK.out _ _ trivial (fun _ => ?_)
        clear hK K
        try simp only [Act.put, List.setIfInBounds_toArray, List.set_cons_zero, List.set_cons_succ]
        refine wpAnyH_done (by kernel_rfl) ?_ _
        exact PD.mk FK FT FTc FTm FS hne hgk hgt FT2 FE
    · skip
      refine step_make0 _ rfl (.const (.int .i64 0)) (.tmp 22) 31 rfl 5 i0 Tryz.underlying31 hi0 hz0 hz1 hz2 .i64 .i64 n rfl rfl (by omega) w.heap.size FE.size ?_
      intro gs v2 FS hge hE
      clear hge
      (try replace FT := FT.ext hE)
      (try replace FT2 := Nat.lt_of_lt_of_le FT2 hE.size)
      (try replace FK := FK.ext hE)
      replace FE := FE.tr hE
      clear hE
      refine hK.out _ _ trivial (fun _ => ?_)
      clear hK K
      try simp only [Act.put, List.setIfInBounds_toArray, List.set_cons_zero, List.set_cons_succ]
      refine wpAnyH_ready (rs := [1, 3]) (by kernel_rfl) (by simp) ?_
      refine AllReadyH.cons rfl (fun K hK => ?_) (AllReadyH.cons rfl (fun K hK => ?_) AllReadyH.nil)
      · skip
        go_simp
        refine (padded_c ka ck key SK _ (HT.out.ext FE) (HK.out.ext FE) HKL.out HKC.out hkm).mono ?_
        rintro e v3 ⟨rfl, hE⟩
        (try replace FT := FT.ext hE)
        (try replace FT2 := Nat.lt_of_lt_of_le FT2 hE.size)
        (try replace FS := FS.ext hE)
        (try replace FK := FK.ext hE)
        replace FE := FE.tr hE
        clear hE
        refine hK.out _ _ trivial (fun _ => ?_)
        clear hK K
        try simp only [Act.put, List.setIfInBounds_toArray, List.set_cons_zero, List.set_cons_succ]
        refine wpAnyH_ready (rs := [3, 7]) (by kernel_rfl) (by simp) ?_
        refine AllReadyH.cons rfl (fun K hK => ?_) (AllReadyH.cons rfl (fun K hK => ?_) AllReadyH.nil)
        · skip
          refine step_convert_str _ rfl 9 31 (.tmp 20) rfl 5 Tryz.underlying9 Tryz.underlying31 Tryz.underlying5 s lab.length rfl (by rw [HLAB.out]) (by have := HLL.out; unfold maxLen; omega) ?_
          intro gt ct v4 FT FTc FTm hge FT2 hE
          rw [HLAB.out] at FT
          have hne : gs ≠ gt := by have := FS.at_.2; omega
          have hgt : w.heap.size ≤ gt := Nat.le_trans FE.size hge
          clear hge
          (try replace FS := FS.ext hE)
          (try replace FK := FK.ext hE)
          replace FE := FE.tr hE
          clear hE
          refine hK.out _ _ trivial (fun _ => ?_)
          clear hK K
          try simp only [Act.put, List.setIfInBounds_toArray, List.set_cons_zero, List.set_cons_succ]
          refine wpAnyH_ready (rs := [7]) (by kernel_rfl) (by simp) ?_
          refine AllReadyH.cons rfl (fun K hK => ?_) AllReadyH.nil
          refine step_store_arr _ rfl 98 (.tmp 7) (.tmp 19) rfl gk .u8 64 (byt (kb key)) _ rfl rfl 98 FK size_key ?_
          intro v5 FK2 hG
          (try replace FT := FT.far hG FK (fun g' h => absurd h.2 (by decide)))
          (try replace FT2 := Nat.lt_of_lt_of_le FT2 hG.size)
          (try replace FS := FS.far hG FK (by decide))
          replace FE := grown_new FE hG (fun g hg => by simp at hg; omega)
          replace FK := FK2
          clear FK2 hG
          refine hK.out _ _ trivial (fun _ => ?_)
          clear hK K
          try simp only [Act.put, List.setIfInBounds_toArray, List.set_cons_zero, List.set_cons_succ]
          refine wpAnyH_ready (rs := [8]) (by kernel_rfl) (by simp) ?_
          refine AllReadyH.cons rfl (fun K hK => ?_) AllReadyH.nil
          go_simp
          refine hK.out _ _ trivial (fun _ => ?_)
          clear hK K
          try simp only [Act.put, List.setIfInBounds_toArray, List.set_cons_zero, List.set_cons_succ]
          refine wpAnyH_ready (rs := [9]) (by kernel_rfl) (by simp) ?_
          refine AllReadyH.cons rfl (fun K hK => ?_) AllReadyH.nil
          go_simp
          refine hK.out _ _ trivial (fun _ => ?_)
          clear hK K
          try simp only [Act.put, List.setIfInBounds_toArray, List.set_cons_zero, List.set_cons_succ]
          refine wpAnyH_done (by kernel_rfl) ?_ _
          exact PD.mk FK FT FTc FTm FS hne hgk hgt FT2 FE
        · skip
          refine step_store_arr _ rfl 98 (.tmp 7) (.tmp 19) rfl gk .u8 64 (byt (kb key)) _ rfl rfl 98 FK size_key ?_
          intro v4 FK2 hG
          (try replace FT := FT.far hG FK (fun g' h => absurd h.2 (by decide)))
          (try replace FT2 := Nat.lt_of_lt_of_le FT2 hG.size)
          (try replace FS := FS.far hG FK (by decide))
          replace FE := grown_new FE hG (fun g hg => by simp at hg; omega)
          replace FK := FK2
          clear FK2 hG
          refine hK.out _ _ trivial (fun _ => ?_)
          clear hK K
          try simp only [Act.put, List.setIfInBounds_toArray, List.set_cons_zero, List.set_cons_succ]
          refine wpAnyH_ready (rs := [3]) (by kernel_rfl) (by simp) ?_
          refine AllReadyH.cons rfl (fun K hK => ?_) AllReadyH.nil
          refine step_convert_str _ rfl 9 31 (.tmp 20) rfl 5 Tryz.underlying9 Tryz.underlying31 Tryz.underlying5 s lab.length rfl (by rw [HLAB.out]) (by have := HLL.out; unfold maxLen; omega) ?_
          intro gt ct v5 FT FTc FTm hge FT2 hE
          rw [HLAB.out] at FT
          have hne : gs ≠ gt := by have := FS.at_.2; omega
          have hgt : w.heap.size ≤ gt := Nat.le_trans FE.size hge
          clear hge
          (try replace FS := FS.ext hE)
          (try replace FK := FK.ext hE)
          replace FE := FE.tr hE
          clear hE
          refine hK.out _ _ trivial (fun _ => ?_)
          clear hK K
          try simp only [Act.put, List.setIfInBounds_toArray, List.set_cons_zero, List.set_cons_succ]
          refine wpAnyH_ready (rs := [8]) (by kernel_rfl) (by simp) ?_
          refine AllReadyH.cons rfl (fun K hK => ?_) AllReadyH.nil
          go_simp
          refine hK.out _ _ trivial (fun _ => ?_)
          clear hK K
          try simp only [Act.put, List.setIfInBounds_toArray, List.set_cons_zero, List.set_cons_succ]
          refine wpAnyH_ready (rs := [9]) (by kernel_rfl) (by simp) ?_
          refine AllReadyH.cons rfl (fun K hK => ?_) AllReadyH.nil
          go_simp
          refine hK.out _ _ trivial (fun _ => ?_)
          clear hK K
          try simp only [Act.put, List.setIfInBounds_toArray, List.set_cons_zero, List.set_cons_succ]
          refine wpAnyH_done (by kernel_rfl) ?_ _
          exact PD.mk FK FT FTc FTm FS hne hgk hgt FT2 FE
      · skip
        refine step_convert_str _ rfl 9 31 (.tmp 20) rfl 5 Tryz.underlying9 Tryz.underlying31 Tryz.underlying5 s lab.length rfl (by rw [HLAB.out]) (by have := HLL.out; unfold maxLen; omega) ?_
        intro gt ct v3 FT FTc FTm hge FT2 hE
        rw [HLAB.out] at FT
        have hne : gs ≠ gt := by have := FS.at_.2; omega
        have hgt : w.heap.size ≤ gt := Nat.le_trans FE.size hge
        clear hge
        (try replace FS := FS.ext hE)
        (try replace FK := FK.ext hE)
        replace FE := FE.tr hE
        clear hE
        refine hK.out _ _ trivial (fun _ => ?_)
        clear hK K
        try simp only [Act.put, List.setIfInBounds_toArray, List.set_cons_zero, List.set_cons_succ]
        refine wpAnyH_ready (rs := [1]) (by kernel_rfl) (by simp) ?_
        refine AllReadyH.cons rfl (fun K hK => ?_) AllReadyH.nil
        go_simp
        refine (padded_c ka ck key SK _ (HT.out.ext FE) (HK.out.ext FE) HKL.out HKC.out hkm).mono ?_
        rintro e v4 ⟨rfl, hE⟩
        (try replace FT := FT.ext hE)
        (try replace FT2 := Nat.lt_of_lt_of_le FT2 hE.size)
        (try replace FS := FS.ext hE)
        (try replace FK := FK.ext hE)
        replace FE := FE.tr hE
        clear hE
        refine hK.out _ _ trivial (fun _ => ?_)
        clear hK K
        try simp only [Act.put, List.setIfInBounds_toArray, List.set_cons_zero, List.set_cons_succ]
        refine wpAnyH_ready (rs := [7]) (by kernel_rfl) (by simp) ?_
        refine AllReadyH.cons rfl (fun K hK => ?_) AllReadyH.nil
        refine step_store_arr _ rfl 98 (.tmp 7) (.tmp 19) rfl gk .u8 64 (byt (kb key)) _ rfl rfl 98 FK size_key ?_
        intro v5 FK2 hG
        (try replace FT := FT.far hG FK (fun g' h => absurd h.2 (by decide)))
        (try replace FT2 := Nat.lt_of_lt_of_le FT2 hG.size)
        (try replace FS := FS.far hG FK (by decide))
        replace FE := grown_new FE hG (fun g hg => by simp at hg; omega)
        replace FK := FK2
        clear FK2 hG
        refine hK.out _ _ trivial (fun _ => ?_)
        clear hK K
        try simp only [Act.put, List.setIfInBounds_toArray, List.set_cons_zero, List.set_cons_succ]
        refine wpAnyH_ready (rs := [8]) (by kernel_rfl) (by simp) ?_
        refine AllReadyH.cons rfl (fun K hK => ?_) AllReadyH.nil
        go_simp
        refine hK.out _ _ trivial (fun _ => ?_)
        clear hK K
        try simp only [Act.put, List.setIfInBounds_toArray, List.set_cons_zero, List.set_cons_succ]
        refine wpAnyH_ready (rs := [9]) (by kernel_rfl) (by simp) ?_
        refine AllReadyH.cons rfl (fun K hK => ?_) AllReadyH.nil
        go_simp
        refine hK.out _ _ trivial (fun _ => ?_)
        clear hK K
        try simp only [Act.put, List.setIfInBounds_toArray, List.set_cons_zero, List.set_cons_succ]
        refine wpAnyH_done (by kernel_rfl) ?_ _
        exact PD.mk FK FT FTc FTm FS hne hgk hgt FT2 FE
end Go.Proofs.YtagegigffohcbaaGreatDoor

namespace Go.Proofs.YtagegigffohcbaaGreatDoor
open Go.RowKit
set_option linter.unusedVariables false

/-- 'append(bytes, label...)' at a string -/
theorem wpList_append_str {P : Program} (w : World) {ops : Array Oper} {rest : List Oper} {o : Oper} {a : Act} {Q : Exit → Act → World → Prop} (hgd : o.guard = none) (s x : Operand) (t u : TypeId)
    (ho : o.op = .call { callee := .builtin .append, args := #[s, x], argTypes := #[t, u] })
    (base : Nat) (E : TypeId) (i : TypeInfo) (ht : P.underlying t = some (.slice E)) (hu : P.underlying u = some .string) (hi : P.info? E = some i) (hz : i.zero = some (.int .u8 0)) (hsz : i.size = 1) (hy : i.bytes = 1)
    (A : Option Addr) (c : Nat) (l : List UInt8) (n : Nat) (hs : a.eval s = .slice A n c) (hn : l.length = n) (hown : OwnB w E base A c l) (st : ByteArray) (lab : List UInt8) (hx : a.eval x = .string st) (hlab : st.data.toList = lab)
    (hlen : n + lab.length ≤ 140737488355328) (hbase : base ≤ w.heap.size)
    (h : ∀ A' c' w', OwnB w' E base A' c' (l ++ lab) → w.grownBy w' (Value.slice A n c).ownBlock → wpList P ops Q rest (a.put o.dst (.slice A' (n + lab.length) c')) w') : wpList P ops Q (o :: rest) a w := by
  subst hlab hn
  have hsz2 : st.data.toList.length = st.size := Array.length_toList
  refine Lib.wpList_append_own_string w hgd s x t u ho base E i ht hu hi hz hsz hy (.slice A l.length c) l.length (l.map u8) hs hown st hx (by rw [hsz2] at hlen; unfold maxLen; omega) (by rw [hsz2] at hlen; omega) hbase ?_
  intro v' w' h2 h3 _
  have e : l.map u8 ++ Lib.strCells st = (l ++ st.data.toList).map u8 := by rw [List.map_append]; rfl
  rw [e] at h2
  have h' : w'.ownsRow base E 1 v' (l ++ st.data.toList).length ((l ++ st.data.toList).map u8) := by rw [List.length_append, hsz2]; exact h2
  have shape : ∃ A' c', v' = .slice A' (l ++ st.data.toList).length c' := by
    rcases h'.2 with ⟨rfl, hn⟩ | ⟨g, cap, cs, rfl, _⟩
    · exact ⟨none, 0, by rw [hn]⟩
    · exact ⟨_, _, rfl⟩
  obtain ⟨A', c', rfl⟩ := shape
  rw [List.length_append]
  exact h A' c' w' h' h3
theorem wpList_load_range {P : Program} {w : World} {ops : Array Oper} {rest : List Oper} {o : Oper} {a : Act} {Q : Exit → Act → World → Prop} (hgd : o.guard = none) (ty : TypeId) (x : Operand) (ho : o.op = .load ty x) (g off : Nat) (hx : a.eval x = .pointer (some ⟨g, off, none⟩)) (k : IntKind) (n : Nat) (f : Nat → Nat) (e : TypeId)
    (hS : w.rangeAt g off (tabV k n f).toList) (hu : P.underlying ty = some (.array n e)) (hz : (P.info? ty).map (·.size) = some n) (h : wpList P ops Q rest (a.put o.dst (.agg (tabV k n f))) w) : wpList P ops Q (o :: rest) a w := by
  have hl := run_loadVar_mid (P := P) w g off ty (tabV k n f).toList _ hS hu rfl (by rw [Array.length_toList, tabV_size]; exact hz)
  rw [Array.toArray_toList] at hl
  refine wpList_plain hgd fun K hK => ?_
  unfold Oper.wp execOp
  simp only [ho, hx, Instr.loadAt, Instr.sureAddr, Sem.run_bind, Sem.run_pure, Result.andThen_ok, hl]
  exact hK _ _ h
theorem run_slice_hi0 {P : Program} {t e : TypeId} (hu : P.underlying t = some (.slice e)) (hs : (P.info? e).map (·.size) = some 1) (g off len cap n : Nat) (h1 : n ≤ cap) (h2 : 0 < cap) (j : Int) (hj : j = (n : Int)) (W : World) :
    (Instr.sliceAt t (.slice (some ⟨g, off, none⟩) len cap) none (some (.int .i64 j)) none).run P W = .ok (.slice (some ⟨g, off, none⟩) n cap) W := by
  subst hj
  cases hq : P.info? e with
  | none => simp [hq] at hs
  | some ie =>
    have hsz : ie.size = 1 := by simpa [hq] using hs
    have a1 : ¬ cap = 0 := by omega
    have a2 : (n : Int) ≤ (cap : Int) := by omega
    have a4 : (⟨g, off, none⟩ : Addr).add 0 = ⟨g, off, none⟩ := (addr_add _ _).2 rfl
    rw [show (Instr.sliceAt t (.slice (some ⟨g, off, none⟩) len cap) none (some (.int .i64 (n : Int))) none).run P W = (Instr.slice t (.slice (some ⟨g, off, none⟩) len cap) none (some (.int .i64 (n : Int))) none).run P W by simp [Instr.sliceAt, run_underlying hu]]
    simp [Instr.slice, Sem.run_bind, run_underlying hu, Instr.sliceBounds, run_sliceBound, sizeOf, typeInfo, hq, hsz, a1, a2, a4]
theorem run_slice_zero {P : Program} {t e : TypeId} (hu : P.underlying t = some (.slice e)) (hs : (P.info? e).map (·.size) = some 1) (A : Option Addr) (W : World) :
    (Instr.sliceAt t (.slice A 0 0) none (some (.int .i64 0)) none).run P W = .ok (.slice A 0 0) W := by
  cases hq : P.info? e with
  | none => simp [hq] at hs
  | some ie =>
    have hsz : ie.size = 1 := by simpa [hq] using hs
    rw [show (Instr.sliceAt t (.slice A 0 0) none (some (.int .i64 0)) none).run P W = (Instr.slice t (.slice A 0 0) none (some (.int .i64 0)) none).run P W by simp [Instr.sliceAt, run_underlying hu]]
    cases A <;> simp [Instr.slice, Sem.run_bind, run_underlying hu, Instr.sliceBounds, run_sliceBound, sizeOf, typeInfo, hq, hsz]
theorem size_k16 : (Tryz.prog.info? 22).map (·.size) = some 16 := by kernel_rfl

set_option maxRecDepth 100000 in
set_option maxHeartbeats 2000000 in
theorem key_c (ka : Option Addr) (ck : Nat) (key : List UInt8) (SK : Nat → TypeId → Prop) (s : ByteArray) (lab : List UInt8) (hlab : s.data.toList = lab) (w : World) (ht : Tab w)
    (hk : RB w SK ka key) (hkl : key.length ≤ 140737488355000) (hkc : key.length ≤ ck) (hkm : ck ≤ 9223372036854775807) (hll : lab.length ≤ 100000) :
    Calls Tryz.prog 65 #[.slice ka key.length ck, .string s] w fun e w' => e = .returned (.agg (tabV .u8 16 (byt (drv (byt (kb key)) lab 16)))) ∧ Ext w w' := by
  have hx0 := Ext.alloc w (.cells (tabV .u8 16 (fun _ => 0)) 22)
  have hb0 : Arr (w.alloc (.cells (tabV .u8 16 (fun _ => 0)) 22)) w.heap.size 22 .u8 16 (fun _ => 0) := new_of w _
  have hd := derive_c ka ck key SK s lab hlab 16 (by decide) _ (ht.ext hx0) (hk.ext hx0) hkl hkc hkm hll
  have hdl := drv_len (byt (kb key)) lab 16
  obtain ⟨D, hD⟩ : ∃ D, D = drv (byt (kb key)) lab 16 := ⟨_, rfl⟩
  rw [← hD] at hd hdl ⊢
  have HD := Lib.hid hd
  have HDL := Lib.hid hdl
  have HB0 := Lib.hid hb0
  have HX0 := Lib.hid hx0
  have harr := fun (a : Option Addr) (c : Nat) => run_arrayAt (P := Tryz.prog) (t := 22) Tryz.underlying22 a 16 c (by decide)
  clear ht hk hkl hkc hll hx0 hb0 hd hdl hlab hD
  go_enter Tryz.func65, Tryz.ntmps65
  go_wp2_with fail
  refine HD.out.mono ?_
  rintro e w1 ⟨A, c, rfl, ho, hx1⟩
  have hpos : 0 < D.length := by rw [HDL.out]; decide
  obtain ⟨g, rfl⟩ : ∃ g, A = some ⟨g, 0, none⟩ := by
    rcases ho.block with ⟨_, _, h⟩ | ⟨g, _, h, _⟩
    · rw [h] at hpos; simp at hpos
    · exact ⟨g, h⟩
  have hrg := rangeAt_rb ho.rb (n := 16) (by rw [HDL.out]; decide) (byt D) (fun j _ => rfl) (by decide)
  have HRG := Lib.hid hrg
  have HX1 := Lib.hid (HX0.out.tr hx1)
  have HB1 := Lib.hid (HB0.out.ext hx1)
  clear ho hx1 hpos hrg HB0 HX0
  go_wp2_with (first
    | (refine wpList_load_range rfl 22 (.tmp 8) rfl g 0 rfl .u8 16 (byt D) _ HRG.out Tryz.underlying22 size_k16 ?_)
    | (refine wpList_store_arr' rfl rfl 22 (.tmp 4) (.tmp 9) rfl w.heap.size .u8 16 (byt D) rfl rfl 22 _ HB1.out size_k16 tabV_size ?_; intro w5 hA5 hG5))
  refine bodyPost_ret (v := .agg (tabV .u8 16 (byt D))) ?_ rfl ⟨rfl, grown_new HX1.out hG5 (fun g hg => by simp at hg; omega)⟩
  exact results_cell_row rfl _ _ _ _ _ _ _ rfl hA5 Tryz.underlying22 rfl (by rw [tabV_size]; exact size_k16)
theorem rderive_neg (ka : Option Addr) (ck kl : Nat) (s : ByteArray) (i : Int) (hi : i < 0) (w : World) :
    Calls Tryz.prog 24 #[.slice ka kl ck, .string s, .int .i64 i] w fun e w' => e = .returned (.slice none 0 0) ∧ w = w' := by
  have t1 : decide (i < 0) = true := decide_eq_true hi
  go_enter Tryz.func24, Tryz.ntmps24
  go_wp2_with fail
  go_ret
  exact ⟨rfl, rfl⟩
set_option maxRecDepth 100000 in
set_option maxHeartbeats 4000000 in
theorem rderive_c (ka : Option Addr) (ck : Nat) (key : List UInt8) (SK : Nat → TypeId → Prop) (s : ByteArray) (lab : List UInt8) (hlab : s.data.toList = lab) (n : Nat) (hn : n ≤ 4000) (w : World)
    (hk : RB w SK ka key) (hkl : key.length ≤ 140737488355000) (hll : lab.length ≤ 100000) :
    Calls Tryz.prog 24 #[.slice ka key.length ck, .string s, .int .i64 n] w fun e w' => ∃ A c, e = .returned (.slice A n c) ∧ RB w' (fun _ _ => True) A (drv (byt (kb key)) lab n) ∧ Ext w w' := by
  obtain ⟨i0, hi0, hz0, hz1, hz2⟩ := info_parts info_u8
  have HK := Lib.hid hk
  have HKL := Lib.hid hkl
  have HLL := Lib.hid hll
  have HLAB := Lib.hid hlab
  have t1 : decide ((n : Int) < 0) = false := decide_eq_false (by omega)
  have t2 : decide ((8160 : Int) < (n : Int)) = false := decide_eq_false (by omega)
  obtain ⟨F, hF⟩ : ∃ F, F = byt (kb key) := ⟨_, rfl⟩
  rw [← hF]
  have HF := Lib.hid hF
  have hd0 : dv F lab 0 = [] := by rw [dv]
  clear hk hkl hll hlab hF
  go_enter Tryz.func24, Tryz.ntmps24
  go_wp2_with fail
  go_loopw [7, 8] (fun v j wr => ∃ (i : Nat) (A : Option Addr) (c k : Nat), i ≤ n ∧ j = .int .i64 i ∧ k = 32 * ((i + 31) / 32) ∧ v = .slice A k c ∧ OwnB wr 5 w.heap.size A c (dv F lab ((i + 31) / 32)) ∧ Ext w wr) (fun _ j _ => n - (intOf j).toNat)
  case atStart => exact ⟨0, none, 0, 0, by omega, rfl, rfl, rfl, by rw [show (0 + 31) / 32 = 0 from rfl, hd0]; exact OwnB.nil _ _ _, Ext.refl _⟩
  case round =>
    obtain ⟨i, A, c, k, hi, rfl, hk, rfl, ho, hx⟩ := hrel
    have hol := dv_len F lab ((i + 31) / 32)
    rw [← hk] at hol
    by_cases hlt : i < n
    · by_cases h0 : i % 32 = 0
      · obtain ⟨m, hm⟩ : ∃ m, m = i / 32 := ⟨_, rfl⟩
        have em : (i + 31) / 32 = m := by omega
        have em2 : (i + 1 + 31) / 32 = m + 1 := by omega
        have f1 : (i : Int) % 32 = 0 := by omega
        have f2 : (i : Int) / 32 = (m : Int) := by omega
        have hk2 : k = 32 * m := by rw [hk, em]
        rw [em] at ho hol
        have hm125 : m ≤ 125 := by omega
        have HO := Lib.hid ho
        have HX := Lib.hid hx
        have HOL := Lib.hid hol
        have HEM := Lib.hid em2
        have HK2 := Lib.hid hk2
        clear ho hx hol em em2 hk hk2 hm h0
        obtain ⟨b, hb1, hb2⟩ := byte_of (x := m + 1) (by omega)
        have hcs : (#[Value.int .u8 ((m : Int) + 1)] : Array Value).toList = [b].map u8 := by simp [u8, hb1]
        have hlit := OwnB.lit (w := wr) (E := 5) (base := wr.heap.size) [b] #[Value.int .u8 ((m : Int) + 1)] hcs (Nat.le_refl _) (by simp [maxLen])
        have hstep : dv F lab (m + 1) = dv F lab m ++ btl 32 (hm key (b :: lab)) := by rw [dv_succ, ← hb2, cdl, HF.out]; rfl
        obtain ⟨P0, hP0⟩ : ∃ P, P = dv F lab m := ⟨_, rfl⟩
        obtain ⟨C, hC⟩ : ∃ C, C = hm key (b :: lab) := ⟨_, rfl⟩
        have hCl : ∀ i, i < 32 → C i < 256 := fun i _ => by rw [hC]; exact hm_lt _ _ _
        rw [← hP0] at HO HOL hstep
        rw [← hC] at hstep
        have hql := btl_len 32 C
        obtain ⟨Q0, hQ0⟩ : ∃ Q, Q = btl 32 C := ⟨_, rfl⟩
        rw [← hQ0] at hstep hql
        have HLIT := Lib.hid hlit
        have HSTEP := Lib.hid hstep
        have HC := Lib.hid hC
        have HCL := Lib.hid hCl
        have HQL := Lib.hid hql
        have HQ0 := Lib.hid hQ0
        clear hcs hlit hstep hP0 hC hCl hb1 hb2 hql hQ0
        go_wp2_with (at_builtin; refine wpList_append_str _ rfl (.tmp 29) (.tmp 30) 31 9 rfl wr.heap.size 5 i0 Tryz.underlying31 Tryz.underlying9 hi0 hz0 hz1 hz2 (some ⟨wr.heap.size, 0, none⟩) 1 [b] 1 rfl rfl HLIT.out s lab rfl HLAB.out (by have := HLL.out; omega) (by simp) ?_
                     intro A4 c4 w4 ho4 hg4)
        have hx4 : Ext wr w4 := grown_new (Ext.alloc _ _) hg4 (fun g hg => by simp [Value.ownBlock] at hg; omega)
        have hmac := rmac_c ka ck key SK A4 c4 (b :: lab) _ w4 (HK.out.ext (HX.out.tr hx4)) HKL.out ho4.rb (by have := HLL.out; simp; omega)
        rw [List.length_cons, Nat.add_comm lab.length 1, ← HC.out] at hmac
        have HMAC := Lib.hid hmac
        have HX4 := Lib.hid (HX.out.tr hx4)
        have HO4 := Lib.hid (HO.out.ext hx4)
        clear ho4 hg4 hx4 hmac
        refine HMAC.out.mono ?_
        rintro e w5 ⟨rfl, hx5⟩
        have HX5 := Lib.hid (HX4.out.tr hx5)
        have HO5 := Lib.hid (HO4.out.ext hx5)
        clear hx5 HMAC
        go_wp2_with (first
          | (refine wpList_store_arr rfl 53 (.tmp 9) (.tmp 32) rfl w5.heap.size .u8 32 C rfl rfl 53 _ (new_of _ _) size_dig rfl ?_
             intro w6 hA6 hG6
             have hx6 : Ext w5 w6 := grown_new (Ext.alloc _ _) hG6 (fun g hg => by simp at hg; omega)
             have HX6 := Lib.hid (HX5.out.tr hx6)
             have HO6 := Lib.hid (HO5.out.ext hx6)
             have hrb6 : RB w6 (fun g' t' => g' = w5.heap.size ∧ t' = 53) (some ⟨w5.heap.size, 0, none⟩) Q0 := by rw [HQ0.out]; exact hA6.rb HCL.out
             have HRB6 := Lib.hid hrb6
             have hle6 := HX6.out.size
             clear hA6 hG6 hx6 hrb6)
          | (at_builtin; refine wpList_append_bytes _ rfl (.tmp 33) (.tmp 34) 31 rfl w.heap.size 5 i0 Tryz.underlying31 hi0 hz0 hz1 hz2 A c P0 (by rw [HOL.out]; rfl) HO6.out _ (some ⟨w5.heap.size, 0, none⟩) 32 Q0 (by rw [HQL.out]; rfl) HRB6.out (by rw [HOL.out, HQL.out]; have := HK2.out; omega) hle6 ?_
             intro A7 c7 w7 ho7 hg7 hb7))
        have hx7 : Ext w w7 := grown_new HX6.out hg7 HO6.out.ge
        rw [← HSTEP.out] at ho7
        clear hg7 hb7
        go_roundw
        case rel => exact ⟨i + 1, A7, c7, k + 32, by omega, by go_num, by rw [HEM.out]; have := HK2.out; omega, by rw [HOL.out, HQL.out], by rw [HEM.out]; exact ho7, hx7⟩
        case measure => simp [intOf]; omega
      · have em : (i + 1 + 31) / 32 = (i + 31) / 32 := by omega
        obtain ⟨r, hr⟩ : ∃ r, r = i % 32 := ⟨_, rfl⟩
        have f1 : (i : Int) % 32 = (r : Int) := by omega
        have f2 : ((r : Int) == 0) = false := beq_f (by omega)
        have HO := Lib.hid ho
        have HX := Lib.hid hx
        have HEM := Lib.hid em
        have HK2 := Lib.hid hk
        clear ho hx hol em hk hr h0
        go_wp2_with fail
        go_roundw
        case rel => exact ⟨i + 1, A, c, k, by omega, by go_num, by rw [HEM.out]; exact HK2.out, rfl, by rw [HEM.out]; exact HO.out, HX.out⟩
        case measure => simp [intOf]; omega
    · have en : i = n := by omega
      have hcap := ho.le
      rw [hol] at hcap
      have hge : n ≤ 32 * ((i + 31) / 32) := by omega
      have hdr := drv_at F lab n ((i + 31) / 32) hge
      have hrb := (ho.rb.take n).more (S' := fun _ _ => True) (fun _ _ _ => trivial)
      rw [hdr] at hrb
      have HRB := Lib.hid hrb
      have HX := Lib.hid hx
      have HEN := Lib.hid en
      have hnk : n ≤ k := by rw [hk]; exact hge
      have hnc : n ≤ c := by have := hcap.1; omega
      by_cases hc0 : 0 < c
      · obtain ⟨g, hg⟩ : ∃ g, A = some ⟨g, 0, none⟩ := by
          rcases ho.block with ⟨_, h, _⟩ | ⟨g, _, h, _⟩
          · omega
          · exact ⟨g, h⟩
        subst hg
        have hsl := fun W => run_slice_hi0 (P := Tryz.prog) (t := 31) Tryz.underlying31 size_u8 g 0 k c n hnc hc0 (n : Int) rfl W
        clear ho hx hol hk hcap hge hdr hrb
        subst en
        go_wp2_with fail
        go_ret
        exact ⟨_, ⟨c, rfl⟩, HRB.out, HX.out⟩
      · have hc1 : c = 0 := by omega
        have hk1 : k = 0 := by have := hcap.1; omega
        have hn1 : n = 0 := by omega
        have hi1 : i = 0 := by omega
        have hd1 : drv F lab 0 = [] := List.eq_nil_of_length_eq_zero (drv_len F lab 0)
        have hsl := fun W => run_slice_zero (P := Tryz.prog) (t := 31) Tryz.underlying31 size_u8 A W
        clear ho hx hol hk hcap hge hdr hrb en hnk hnc hc0 HRB HEN t1 t2 hd0 hlt
        subst hc1 hk1 hn1 hi1
        have HD1 := Lib.hid hd1
        clear hd1
        go_wp2_with fail
        go_ret
        exact ⟨_, 0, rfl, by rw [HD1.out]; exact RB.nil _ _ _, HX.out⟩
end Go.Proofs.YtagegigffohcbaaGreatDoor
