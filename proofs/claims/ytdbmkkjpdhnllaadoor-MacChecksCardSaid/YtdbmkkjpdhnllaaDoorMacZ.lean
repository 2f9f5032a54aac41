/-
  MacChecks.
-/
import Derived.Test.YtdbmkkjpdhnllaaDoorMacV
import Derived.Test.YtdbmkkjpdhnllaaDoorBytC
namespace Go.Proofs.YtdbmkkjpdhnllaaDoor
open Go.RowKit
set_option linter.unusedVariables false
set_option linter.unusedSimpArgs false

/-- the beginning of a slice -/
theorem run_slice_hi {P : Program} {t e : TypeId} (hu : P.underlying t = some (.slice e)) (hs : (P.info? e).map (·.size) = some 1) (g off len cap n : Nat) (h1 : n ≤ cap) (h2 : 0 < cap) (j : Int) (hj : j = (n : Int)) (W : World) :
    (Instr.sliceAt t (.slice (some ⟨g, off, none⟩) len cap) none (some (.int .i64 j)) none).run P W = .ok (.slice (some ⟨g, off, none⟩) n cap) W := by
  subst hj
  cases hq : P.info? e with
  | none => simp [hq] at hs
  | some ie =>
    have hsz : ie.size = 1 := by simpa [hq] using hs
    have a1 : ¬ cap = 0 := by omega
    have a2 : (n : Int) ≤ (cap : Int) := by omega
    have a4 : (⟨g, off, none⟩ : Addr).add 0 = ⟨g, off, none⟩ := (addr_add _ _).2 rfl
    rw [show (Instr.sliceAt t (.slice (some ⟨g, off, none⟩) len cap) none (some (.int .i64 (n : Int))) none).run P W = (Instr.slice t (.slice (some ⟨g, off, none⟩) len cap) none (some (.int .i64 (n : Int))) none).run P W by simp [Instr.sliceAt, run_underlying hu]]
    simp [Instr.slice, Sem.run_bind, run_underlying hu, Instr.sliceBounds, run_sliceBound, sizeOf, typeInfo, hq, hsz, a1, a2, a4]
theorem own_empty' (w0 w : World) (hb : w0.heap.size ≤ w.heap.size) : OwnB (w.alloc (.cells #[] 5)) 5 w0.heap.size (some ⟨w.heap.size, 0, none⟩) 0 [] :=
  OwnB.lit (w := w) (E := 5) (base := w0.heap.size) [] #[] rfl hb (by simp [maxLen])
theorem OwnB.some_ {w : World} {E : TypeId} {base c : Nat} {A : Option Addr} {l : List UInt8} (h : OwnB w E base A c l) (hl : 0 < l.length) : ∃ g, A = some ⟨g, 0, none⟩ := by
  rcases h.block with ⟨_, _, rfl⟩ | ⟨g, _, rfl, _⟩
  · simp at hl
  · exact ⟨g, rfl⟩
theorem right_part (key b : List UInt8) (C : Nat → Nat) (hC : C = hm key b) (k : Nat) (hk : k ≤ 33) : right key ((btl 32 C ++ [7]).take k) b = decide (16 ≤ k ∧ k ≤ 32) := by
  have hl : ((btl 32 C ++ [7]).take k).length = k := by rw [List.length_take, List.length_append, btl_len]; simp; omega
  unfold right
  rw [hl]
  apply decide_eq_decide.2
  constructor
  · rintro ⟨h1, h2, _⟩; exact ⟨h1, h2⟩
  · rintro ⟨h1, h2⟩
    refine ⟨h1, h2, ?_⟩
    rw [List.take_append_of_le_length (by rw [btl_len]; omega), hC]
    rfl
theorem right_set (key b : List UInt8) (C : Nat → Nat) (hC : C = hm key b) (k i : Nat) (c x : UInt8) (hi : i < k) (hk : k ≤ 33) (hx : (btl 32 C ++ [7])[i]? = some x) : right key (((btl 32 C ++ [7]).take k).set i c) b = decide (16 ≤ k ∧ k ≤ 32 ∧ x = c) := by
  have hl : ((btl 32 C ++ [7]).take k).length = k := by rw [List.length_take, List.length_append, btl_len]; simp; omega
  unfold right
  rw [List.length_set, hl]
  apply decide_eq_decide.2
  constructor
  · rintro ⟨h1, h2, h3⟩
    refine ⟨h1, h2, ?_⟩
    have h4 : (((btl 32 C ++ [7]).take k).set i c)[i]? = some c := List.getElem?_set_self (by rw [hl]; exact hi)
    rw [h3] at h4
    have h5 : (cdl (byt (kb key)) b).take k = (btl 32 C).take k := by rw [hC]; rfl
    rw [h5, List.getElem?_take, if_pos hi] at h4
    rw [List.getElem?_append_left (by rw [btl_len]; omega), h4] at hx
    exact (Option.some.inj hx).symm
  · rintro ⟨h1, h2, rfl⟩
    refine ⟨h1, h2, ?_⟩
    have h5 : (cdl (byt (kb key)) b).take k = (btl 32 C).take k := by rw [hC]; rfl
    rw [h5, List.take_append_of_le_length (by rw [btl_len]; omega)]
    rw [List.getElem?_append_left (by rw [btl_len]; omega)] at hx
    apply List.ext_getElem?
    intro j
    rw [List.getElem?_set]
    split
    · rename_i e
      subst e
      rw [if_pos (by rw [List.length_take, btl_len]; omega), List.getElem?_take, if_pos hi, hx]
    · rfl

set_option maxRecDepth 100000 in
set_option maxHeartbeats 4000000 in
theorem macChecks_walk (K : Option Addr) (kl ck : Nat) (zk : List Int) (B : Option Addr) (bl cb : Nat) (zb : List Int) (n at_ c : Int) (w : World) (hk : IsRow .u8 w K kl ck zk) (hb : IsRow .u8 w B bl cb zb) (hn : (Lit.int .u8 n).wf = true) (hat : (Lit.int .u8 at_).wf = true) (hc : (Lit.int .u8 c).wf = true) (ht : Tab w) :
    Calls Tryd.prog 5 #[.slice K kl ck, .slice B bl cb, .int .u8 n, .int .u8 at_, .int .u8 c] w fun e w' => e = .returned (.bool true) ∧ Ext w w' := by
  obtain ⟨key, rfl, hk1, hk2, hkr⟩ := row_bytes hk
  obtain ⟨b, rfl, hb1, hb2, hbr⟩ := row_bytes hb
  obtain ⟨n0, n1⟩ := bd_u8 hn
  obtain ⟨p0, p1⟩ := bd_u8 hat
  obtain ⟨c0, c1⟩ := bd_u8 hc
  obtain ⟨m, rfl⟩ := Int.eq_ofNat_of_zero_le n0
  obtain ⟨p, rfl⟩ := Int.eq_ofNat_of_zero_le p0
  obtain ⟨q0, rfl⟩ := Int.eq_ofNat_of_zero_le c0
  obtain ⟨q, hq1, hq2⟩ := byte_of (x := q0) (by omega)
  have HK := Lib.hid hkr
  have HB := Lib.hid hbr
  have HT := Lib.hid ht
  have HK1 := Lib.hid hk1
  have HB1 := Lib.hid hb1
  unfold maxLen at hk2 hb2
  clear hk hkr hb hbr ht hk1 hb1 hn hat hc hq2 c0 c1 p0 n0
  rw [← hq1]
  clear hq1
  by_cases h1 : 200 < key.length
  · have t1 : decide ((200 : Int) < (key.length : Int)) = true := decide_eq_true (by omega)
    go_enter Tryd.func5, Tryd.ntmps5
    go_wp2_with fail
    refine (awake_c _ HT.out).mono ?_
    rintro e w1 ⟨rfl, hx1⟩
    go_wp2_with fail
    refine (awake_c _ (HT.out.ext hx1)).mono ?_
    rintro e w2 ⟨rfl, hx2⟩
    go_wp2_with fail
    go_ret
    exact ⟨rfl, hx1.tr hx2⟩
  have t1 : decide ((200 : Int) < (key.length : Int)) = false := decide_eq_false (by omega)
  by_cases h2 : 500 < b.length
  · have t2 : decide ((500 : Int) < (b.length : Int)) = true := decide_eq_true (by omega)
    go_enter Tryd.func5, Tryd.ntmps5
    go_wp2_with fail
    refine (awake_c _ HT.out).mono ?_
    rintro e w1 ⟨rfl, hx1⟩
    go_wp2_with fail
    refine (awake_c _ (HT.out.ext hx1)).mono ?_
    rintro e w2 ⟨rfl, hx2⟩
    go_wp2_with fail
    go_ret
    exact ⟨rfl, hx1.tr hx2⟩
  have t2 : decide ((500 : Int) < (b.length : Int)) = false := decide_eq_false (by omega)
  obtain ⟨i0, hi0, hz0, hz1, hz2⟩ := info_parts info_u8
  obtain ⟨k, hkm⟩ : ∃ k, k = m % 34 := ⟨_, rfl⟩
  have hw1 : Value.int .i64 (wrap64 (m : Int)) = Value.int .i64 (m : Int) := by rw [IntWalk.wrap64_in _ (by omega)]
  have hw2 : Value.int .i64 (wrap64 (p : Int)) = Value.int .i64 (p : Int) := by rw [IntWalk.wrap64_in _ (by omega)]
  have hk34' : (m : Int).tmod 34 = (m : Int) % 34 := Int.tmod_eq_emod_of_nonneg (Int.natCast_nonneg m)
  have hk34'' : (m : Int) % 34 = (k : Int) := by clear hk34'; omega
  have hk34 : Value.int .i64 ((m : Int).tmod 34) = Value.int .i64 (k : Int) := by rw [hk34', hk34'']
  clear hk34' hk34''
  have hk33 : k ≤ 33 := by omega
  obtain ⟨C, hC⟩ : ∃ C, C = hm key b := ⟨_, rfl⟩
  have hCl : ∀ i, i < 32 → C i < 256 := fun i _ => by rw [hC]; exact hm_lt _ _ _
  have hbl := btl_len 32 C
  obtain ⟨L0, hL0⟩ : ∃ L, L = btl 32 C := ⟨_, rfl⟩
  obtain ⟨L, hL⟩ : ∃ L, L = L0 ++ [7] := ⟨_, rfl⟩
  have hll0 : L0.length = 32 := by rw [hL0]; exact hbl
  have hll : L.length = 33 := by rw [hL, List.length_append, hll0]; rfl
  have hrp := right_part key b C hC k hk33
  have hrs := fun i c x h h' => right_set key b C hC k i c x h hk33 h'
  rw [← hL0, ← hL] at hrp hrs
  have htl : (L.take k).length = k := by rw [List.length_take, hll]; omega
  have HQ := Lib.hid (fun W (hx : Ext w W) => rmac_c K ck key _ B cb b _ W (HK.out.ext hx) (by omega) (HB.out.ext hx) (by omega))
  rw [← hC] at HQ
  have HCH : Hid (∀ (D : Option Addr) (cd' : Nat) (code : List UInt8) (SD : Nat → TypeId → Prop) (g : Nat) (W : World), code.length = k → Ext w W → RB W SD D code → RBC W (fun _ _ => True) (fun _ _ => True) (some ⟨g, 0, none⟩) [b] →
      Calls Tryd.prog 16 #[.slice K key.length ck, .slice D k cd', .slice (some ⟨g, 0, none⟩) 1 1] W fun e w' => e = .returned (.bool (right key code b)) ∧ Ext W w') := Lib.hid (fun D cd' code SD g W hlen hx hd hr => by
    have h := check_c K ck key _ D cd' code SD (some ⟨g, 0, none⟩) 1 [b] _ _ W (HT.out.ext hx) (HK.out.ext hx) (by omega) HK1.out (by omega) hd (by omega) hr (by rw [fla_one]; omega) (by simp)
    rw [hlen, fla_one] at h
    exact h)
  have HRC : Hid (∀ W, Ext w W → RBC (W.alloc (.cells #[.slice B b.length cb] 22)) (fun _ _ => True) (fun _ _ => True) (some ⟨W.heap.size, 0, none⟩) [b]) := Lib.hid (fun W hx =>
    rbc_one (new_of _ _) rfl ((HB.out.ext (hx.tr (Ext.alloc _ _))).more (fun _ _ _ => trivial)) HB1.out (by omega))
  have HRP := Lib.hid hrp
  have HRS := Lib.hid hrs
  have HTL := Lib.hid htl
  have HLL := Lib.hid hll
  have HLL0 := Lib.hid hll0
  have HL := Lib.hid hL
  have HL0 := Lib.hid hL0
  have HCL := Lib.hid hCl
  have HP := Lib.hid p1
  clear hkm hC hCl hbl hL0 hL hll0 hll hrp hrs htl p1 n1
  by_cases hk0 : k = 0
  · have e0 : (k : Int) = 0 := by omega
    have u1 : decide ((16 : Int) ≤ (k : Int)) = false := decide_eq_false (by omega)
    have hd : decide (16 ≤ k ∧ k ≤ 32) = false := decide_eq_false (by omega)
    have u3 : ((k : Int) == 0) = true := beq_t e0
    rw [hd] at HRP
    clear hd hk0 e0
    go_enter Tryd.func5, Tryd.ntmps5
    go_wp2_with fail
    refine (awake_c _ HT.out).mono ?_
    rintro e w1 ⟨rfl, hx1⟩
    have HX1 := Lib.hid hx1
    clear hx1
    go_wp2_with fail
    refine (HQ.out _ HX1.out).mono ?_
    rintro e w2 ⟨rfl, hx2⟩
    have HX2 := Lib.hid (HX1.out.tr hx2)
    clear hx2
    go_wp2_with (first
      | (refine wpList_store_arr rfl 26 (.tmp 11) (.tmp 31) rfl w2.heap.size .u8 32 C rfl rfl 26 _ (new_of _ _) size_dig rfl ?_
         intro w3 hA3 hG3
         have hx3 : Ext w2 w3 := grown_new (Ext.alloc _ _) hG3 (fun g hg => by simp at hg; omega)
         have hr3 : RB w3 (fun g' t' => g' = w2.heap.size ∧ t' = 26) (some ⟨w2.heap.size, 0, none⟩) L0 := by rw [HL0.out]; exact hA3.rb HCL.out
         have HX3 := Lib.hid (HX2.out.tr hx3)
         have HR3 := Lib.hid hr3
         have hle3 := HX3.out.size
         clear hA3 hG3 hx3 hr3)
      | (at_builtin; refine wpList_append_bytes _ rfl (.tmp 32) (.tmp 33) 22 rfl w.heap.size 5 i0 Tryd.underlying22 hi0 hz0 hz1 hz2 (some ⟨w3.heap.size, 0, none⟩) 0 [] rfl (own_empty' w w3 hle3) _ (some ⟨w2.heap.size, 0, none⟩) 32 L0 (by rw [HLL0.out]; rfl) (HR3.out.ext (Ext.alloc _ _)) (by rw [HLL0.out]; decide) (by simp; omega) ?_
         intro A4 c4 w4 ho4 hg4 hb4
         rw [List.nil_append] at ho4
         have hx4 : Ext w w4 := grown_new (HX3.out.tr (Ext.alloc _ _)) hg4 (fun g hg => by simp [Value.ownBlock] at hg; omega)
         have HX4 := Lib.hid hx4
         have HO4 := Lib.hid ho4
         have hle4 := hx4.size
         clear hx4 ho4 hg4 hb4
         rw [List.nil_append, HLL0.out])
      | (at_builtin; refine wpList_append_bytes _ rfl (.tmp 34) (.tmp 35) 22 rfl w.heap.size 5 i0 Tryd.underlying22 hi0 hz0 hz1 hz2 A4 c4 L0 (by rw [HLL0.out]; rfl) (HO4.out.ext (Ext.alloc _ _)) _ (some ⟨w4.heap.size, 0, none⟩) 1 [7] rfl (RB.lit w4 [7] #[.int .u8 7] 5 rfl) (by rw [HLL0.out]; decide) (by simp; omega) ?_
         intro A5 c5 w5 ho5 hg5 hb5
         rw [← HL.out] at ho5
         have hx5 : Ext w w5 := grown_new (HX4.out.tr (Ext.alloc _ _)) hg5 HO4.out.ge
         obtain ⟨gB, rfl⟩ := ho5.some_ (by rw [HLL.out]; decide)
         have hle5 := ho5.le
         rw [HLL.out] at hle5
         have hsl := fun W => run_slice_hi (P := Tryd.prog) (t := 22) Tryd.underlying22 size_u8 gB 0 33 c5 k (by omega) (by omega) (k : Int) rfl W
         have HX5 := Lib.hid hx5
         have HO5 := Lib.hid ho5
         clear hx5 ho5 hg5 hb5
         rw [← HL.out, HLL.out]))
    refine (HCH.out _ c5 (L.take k) _ _ _ HTL.out (HX5.out.tr (Ext.alloc _ _)) ((HO5.out.rb.take k).ext (Ext.alloc _ _)) (HRC.out _ HX5.out)).mono ?_
    rintro e w6 ⟨rfl, hx6⟩
    rw [HRP.out]
    have HX6 := Lib.hid ((HX5.out.tr (Ext.alloc _ _)).tr hx6)
    have HO6 := Lib.hid ((HO5.out.ext (Ext.alloc _ _)).ext hx6)
    clear hx6 hsl
    go_wp2_with fail
    go_ret
    exact ⟨rfl, HX6.out⟩
  have hkp : 0 < k := by omega
  have e0 : ¬ (k : Int) = 0 := by omega
  have u3 : ((k : Int) == 0) = false := beq_f e0
  by_cases h16 : 16 ≤ k
  · have u1 : decide ((16 : Int) ≤ (k : Int)) = true := decide_eq_true (by omega)
    by_cases h32 : k ≤ 32
    · have u2 : decide ((k : Int) ≤ (32 : Int)) = true := decide_eq_true (by omega)
      have hd : decide (16 ≤ k ∧ k ≤ 32) = true := decide_eq_true ⟨h16, h32⟩
      rw [hd] at HRP
      clear hd
      go_enter Tryd.func5, Tryd.ntmps5
      go_wp2_with fail
      refine (awake_c _ HT.out).mono ?_
      rintro e w1 ⟨rfl, hx1⟩
      have HX1 := Lib.hid hx1
      clear hx1
      go_wp2_with fail
      refine (HQ.out _ HX1.out).mono ?_
      rintro e w2 ⟨rfl, hx2⟩
      have HX2 := Lib.hid (HX1.out.tr hx2)
      clear hx2
      go_wp2_with (first
        | (refine wpList_store_arr rfl 26 (.tmp 11) (.tmp 31) rfl w2.heap.size .u8 32 C rfl rfl 26 _ (new_of _ _) size_dig rfl ?_
           intro w3 hA3 hG3
           have hx3 : Ext w2 w3 := grown_new (Ext.alloc _ _) hG3 (fun g hg => by simp at hg; omega)
           have hr3 : RB w3 (fun g' t' => g' = w2.heap.size ∧ t' = 26) (some ⟨w2.heap.size, 0, none⟩) L0 := by rw [HL0.out]; exact hA3.rb HCL.out
           have HX3 := Lib.hid (HX2.out.tr hx3)
           have HR3 := Lib.hid hr3
           have hle3 := HX3.out.size
           clear hA3 hG3 hx3 hr3)
        | (at_builtin; refine wpList_append_bytes _ rfl (.tmp 32) (.tmp 33) 22 rfl w.heap.size 5 i0 Tryd.underlying22 hi0 hz0 hz1 hz2 (some ⟨w3.heap.size, 0, none⟩) 0 [] rfl (own_empty' w w3 hle3) _ (some ⟨w2.heap.size, 0, none⟩) 32 L0 (by rw [HLL0.out]; rfl) (HR3.out.ext (Ext.alloc _ _)) (by rw [HLL0.out]; decide) (by simp; omega) ?_
           intro A4 c4 w4 ho4 hg4 hb4
           rw [List.nil_append] at ho4
           have hx4 : Ext w w4 := grown_new (HX3.out.tr (Ext.alloc _ _)) hg4 (fun g hg => by simp [Value.ownBlock] at hg; omega)
           have HX4 := Lib.hid hx4
           have HO4 := Lib.hid ho4
           have hle4 := hx4.size
           clear hx4 ho4 hg4 hb4
           rw [List.nil_append, HLL0.out])
        | (at_builtin; refine wpList_append_bytes _ rfl (.tmp 34) (.tmp 35) 22 rfl w.heap.size 5 i0 Tryd.underlying22 hi0 hz0 hz1 hz2 A4 c4 L0 (by rw [HLL0.out]; rfl) (HO4.out.ext (Ext.alloc _ _)) _ (some ⟨w4.heap.size, 0, none⟩) 1 [7] rfl (RB.lit w4 [7] #[.int .u8 7] 5 rfl) (by rw [HLL0.out]; decide) (by simp; omega) ?_
           intro A5 c5 w5 ho5 hg5 hb5
           rw [← HL.out] at ho5
           have hx5 : Ext w w5 := grown_new (HX4.out.tr (Ext.alloc _ _)) hg5 HO4.out.ge
           obtain ⟨gB, rfl⟩ := ho5.some_ (by rw [HLL.out]; decide)
           have hle5 := ho5.le
           rw [HLL.out] at hle5
           have hsl := fun W => run_slice_hi (P := Tryd.prog) (t := 22) Tryd.underlying22 size_u8 gB 0 33 c5 k (by omega) (by omega) (k : Int) rfl W
           have HX5 := Lib.hid hx5
           have HO5 := Lib.hid ho5
           clear hx5 ho5 hg5 hb5
           rw [← HL.out, HLL.out]))
      refine (HCH.out _ c5 (L.take k) _ _ _ HTL.out (HX5.out.tr (Ext.alloc _ _)) ((HO5.out.rb.take k).ext (Ext.alloc _ _)) (HRC.out _ HX5.out)).mono ?_
      rintro e w6 ⟨rfl, hx6⟩
      rw [HRP.out]
      have HX6 := Lib.hid ((HX5.out.tr (Ext.alloc _ _)).tr hx6)
      have HO6 := Lib.hid ((HO5.out.ext (Ext.alloc _ _)).ext hx6)
      clear hx6 hsl
      obtain ⟨i, hi⟩ : ∃ i, i = p % k := ⟨_, rfl⟩
      have hi2 : i < k := by rw [hi]; exact Nat.mod_lt _ hkp
      have hi1 : Value.int .i64 ((p : Int) % (k : Int)) = Value.int .i64 (i : Int) := by rw [hi, Int.natCast_emod]
      have hil2 : (i : Int) < (k : Int) := by omega
      have hiL : i < L.length := by rw [HLL.out]; exact Nat.lt_of_lt_of_le hi2 hk33
      have hc6 := HO6.out.cellAt (j := i) hiL
      have hf6 := HO6.out.freeAt i
      have hx0 : L[i]? = some (L[i]'hiL) := List.getElem?_eq_getElem hiL
      obtain ⟨x, hx⟩ : ∃ x, x = L[i]'hiL := ⟨_, rfl⟩
      rw [← hx] at hc6 hx0
      have hxq : ((x.toNat : Int) == (q.toNat : Int)) = decide (x = q) := by
        by_cases e : x = q
        · subst e; rw [decide_eq_true rfl, beq_t rfl]
        · rw [decide_eq_false e, beq_f (u8_ne e)]
      obtain ⟨r, hr⟩ : ∃ r, r = decide (x = q) := ⟨_, rfl⟩
      rw [← hr] at hxq
      have hrr : (r == r) = true := by simp
      have hrs := HRS.out i q x hi2 hx0
      rw [show decide (16 ≤ k ∧ k ≤ 32 ∧ x = q) = r by rw [hr]; exact decide_eq_decide.2 ⟨fun h => h.2.2, fun h => ⟨h16, h32, h⟩⟩] at hrs
      have HRS2 := Lib.hid hrs
      have HI := Lib.hid hi
      clear hx0 hx hr hrs hiL hi
      go_wp2_with fail
      have ho7 := HO6.out.set_ i q
      have hx7 : Ext w (w6.setCell ⟨gB, i, none⟩ (.int .u8 (q.toNat : Int))) := ext_setCell HX6.out HO6.out.at_.1 _
      obtain ⟨w7, hw7⟩ : ∃ W, W = w6.setCell ⟨gB, i, none⟩ (.int .u8 (q.toNat : Int)) := ⟨_, rfl⟩
      have hsz7 : (w6.setCell ⟨gB, i, none⟩ (.int .u8 (q.toNat : Int))).heap.size = w6.heap.size := by simp [World.setCell]
      rw [← hw7] at ho7 hx7 hsz7 ⊢
      have hrb7 := ho7.rb.take k
      rw [List.take_set] at hrb7
      have HX7 := Lib.hid hx7
      have HRB7 := Lib.hid hrb7
      have hlen7 : ((L.take k).set i q).length = k := by rw [List.length_set, HTL.out]
      have hrc7 := HRC.out _ HX7.out
      rw [hsz7] at hrc7
      clear ho7 hx7 hw7 hrb7 hc6 hf6 hsz7
      refine (HCH.out _ c5 ((L.take k).set i q) _ _ _ hlen7 (HX7.out.tr (Ext.alloc _ _)) (HRB7.out.ext (Ext.alloc _ _)) hrc7).mono ?_
      rintro e w8 ⟨rfl, hx8⟩
      rw [HRS2.out]
      go_wp2_with fail
      go_ret
      exact ⟨rfl, (HX7.out.tr (Ext.alloc _ _)).tr hx8⟩
    · have u2 : decide ((k : Int) ≤ (32 : Int)) = false := decide_eq_false (by omega)
      have hd : decide (16 ≤ k ∧ k ≤ 32) = false := decide_eq_false (fun h => h32 h.2)
      rw [hd] at HRP
      clear hd
      go_enter Tryd.func5, Tryd.ntmps5
      go_wp2_with fail
      refine (awake_c _ HT.out).mono ?_
      rintro e w1 ⟨rfl, hx1⟩
      have HX1 := Lib.hid hx1
      clear hx1
      go_wp2_with fail
      refine (HQ.out _ HX1.out).mono ?_
      rintro e w2 ⟨rfl, hx2⟩
      have HX2 := Lib.hid (HX1.out.tr hx2)
      clear hx2
      go_wp2_with (first
        | (refine wpList_store_arr rfl 26 (.tmp 11) (.tmp 31) rfl w2.heap.size .u8 32 C rfl rfl 26 _ (new_of _ _) size_dig rfl ?_
           intro w3 hA3 hG3
           have hx3 : Ext w2 w3 := grown_new (Ext.alloc _ _) hG3 (fun g hg => by simp at hg; omega)
           have hr3 : RB w3 (fun g' t' => g' = w2.heap.size ∧ t' = 26) (some ⟨w2.heap.size, 0, none⟩) L0 := by rw [HL0.out]; exact hA3.rb HCL.out
           have HX3 := Lib.hid (HX2.out.tr hx3)
           have HR3 := Lib.hid hr3
           have hle3 := HX3.out.size
           clear hA3 hG3 hx3 hr3)
        | (at_builtin; refine wpList_append_bytes _ rfl (.tmp 32) (.tmp 33) 22 rfl w.heap.size 5 i0 Tryd.underlying22 hi0 hz0 hz1 hz2 (some ⟨w3.heap.size, 0, none⟩) 0 [] rfl (own_empty' w w3 hle3) _ (some ⟨w2.heap.size, 0, none⟩) 32 L0 (by rw [HLL0.out]; rfl) (HR3.out.ext (Ext.alloc _ _)) (by rw [HLL0.out]; decide) (by simp; omega) ?_
           intro A4 c4 w4 ho4 hg4 hb4
           rw [List.nil_append] at ho4
           have hx4 : Ext w w4 := grown_new (HX3.out.tr (Ext.alloc _ _)) hg4 (fun g hg => by simp [Value.ownBlock] at hg; omega)
           have HX4 := Lib.hid hx4
           have HO4 := Lib.hid ho4
           have hle4 := hx4.size
           clear hx4 ho4 hg4 hb4
           rw [List.nil_append, HLL0.out])
        | (at_builtin; refine wpList_append_bytes _ rfl (.tmp 34) (.tmp 35) 22 rfl w.heap.size 5 i0 Tryd.underlying22 hi0 hz0 hz1 hz2 A4 c4 L0 (by rw [HLL0.out]; rfl) (HO4.out.ext (Ext.alloc _ _)) _ (some ⟨w4.heap.size, 0, none⟩) 1 [7] rfl (RB.lit w4 [7] #[.int .u8 7] 5 rfl) (by rw [HLL0.out]; decide) (by simp; omega) ?_
           intro A5 c5 w5 ho5 hg5 hb5
           rw [← HL.out] at ho5
           have hx5 : Ext w w5 := grown_new (HX4.out.tr (Ext.alloc _ _)) hg5 HO4.out.ge
           obtain ⟨gB, rfl⟩ := ho5.some_ (by rw [HLL.out]; decide)
           have hle5 := ho5.le
           rw [HLL.out] at hle5
           have hsl := fun W => run_slice_hi (P := Tryd.prog) (t := 22) Tryd.underlying22 size_u8 gB 0 33 c5 k (by omega) (by omega) (k : Int) rfl W
           have HX5 := Lib.hid hx5
           have HO5 := Lib.hid ho5
           clear hx5 ho5 hg5 hb5
           rw [← HL.out, HLL.out]))
      refine (HCH.out _ c5 (L.take k) _ _ _ HTL.out (HX5.out.tr (Ext.alloc _ _)) ((HO5.out.rb.take k).ext (Ext.alloc _ _)) (HRC.out _ HX5.out)).mono ?_
      rintro e w6 ⟨rfl, hx6⟩
      rw [HRP.out]
      have HX6 := Lib.hid ((HX5.out.tr (Ext.alloc _ _)).tr hx6)
      have HO6 := Lib.hid ((HO5.out.ext (Ext.alloc _ _)).ext hx6)
      clear hx6 hsl
      obtain ⟨i, hi⟩ : ∃ i, i = p % k := ⟨_, rfl⟩
      have hi2 : i < k := by rw [hi]; exact Nat.mod_lt _ hkp
      have hi1 : Value.int .i64 ((p : Int) % (k : Int)) = Value.int .i64 (i : Int) := by rw [hi, Int.natCast_emod]
      have hil2 : (i : Int) < (k : Int) := by omega
      have hiL : i < L.length := by rw [HLL.out]; exact Nat.lt_of_lt_of_le hi2 hk33
      have hc6 := HO6.out.cellAt (j := i) hiL
      have hf6 := HO6.out.freeAt i
      have hx0 : L[i]? = some (L[i]'hiL) := List.getElem?_eq_getElem hiL
      obtain ⟨x, hx⟩ : ∃ x, x = L[i]'hiL := ⟨_, rfl⟩
      rw [← hx] at hc6 hx0
      have hxq : ((x.toNat : Int) == (q.toNat : Int)) = decide (x = q) := by
        by_cases e : x = q
        · subst e; rw [decide_eq_true rfl, beq_t rfl]
        · rw [decide_eq_false e, beq_f (u8_ne e)]
      obtain ⟨r, hr⟩ : ∃ r, r = decide (x = q) := ⟨_, rfl⟩
      rw [← hr] at hxq
      have hrr : (r == r) = true := by simp
      have hrs := HRS.out i q x hi2 hx0
      rw [show decide (16 ≤ k ∧ k ≤ 32 ∧ x = q) = false from decide_eq_false (fun h => h32 h.2.1)] at hrs
      have HRS2 := Lib.hid hrs
      have HI := Lib.hid hi
      clear hx0 hx hr hrs hiL hi
      go_wp2_with fail
      have ho7 := HO6.out.set_ i q
      have hx7 : Ext w (w6.setCell ⟨gB, i, none⟩ (.int .u8 (q.toNat : Int))) := ext_setCell HX6.out HO6.out.at_.1 _
      obtain ⟨w7, hw7⟩ : ∃ W, W = w6.setCell ⟨gB, i, none⟩ (.int .u8 (q.toNat : Int)) := ⟨_, rfl⟩
      have hsz7 : (w6.setCell ⟨gB, i, none⟩ (.int .u8 (q.toNat : Int))).heap.size = w6.heap.size := by simp [World.setCell]
      rw [← hw7] at ho7 hx7 hsz7 ⊢
      have hrb7 := ho7.rb.take k
      rw [List.take_set] at hrb7
      have HX7 := Lib.hid hx7
      have HRB7 := Lib.hid hrb7
      have hlen7 : ((L.take k).set i q).length = k := by rw [List.length_set, HTL.out]
      have hrc7 := HRC.out _ HX7.out
      rw [hsz7] at hrc7
      clear ho7 hx7 hw7 hrb7 hc6 hf6 hsz7
      refine (HCH.out _ c5 ((L.take k).set i q) _ _ _ hlen7 (HX7.out.tr (Ext.alloc _ _)) (HRB7.out.ext (Ext.alloc _ _)) hrc7).mono ?_
      rintro e w8 ⟨rfl, hx8⟩
      rw [HRS2.out]
      go_wp2_with fail
      go_ret
      exact ⟨rfl, (HX7.out.tr (Ext.alloc _ _)).tr hx8⟩
  · have u1 : decide ((16 : Int) ≤ (k : Int)) = false := decide_eq_false (by omega)
    have hd : decide (16 ≤ k ∧ k ≤ 32) = false := decide_eq_false (fun h => h16 h.1)
    rw [hd] at HRP
    clear hd
    go_enter Tryd.func5, Tryd.ntmps5
    go_wp2_with fail
    refine (awake_c _ HT.out).mono ?_
    rintro e w1 ⟨rfl, hx1⟩
    have HX1 := Lib.hid hx1
    clear hx1
    go_wp2_with fail
    refine (HQ.out _ HX1.out).mono ?_
    rintro e w2 ⟨rfl, hx2⟩
    have HX2 := Lib.hid (HX1.out.tr hx2)
    clear hx2
    go_wp2_with (first
      | (refine wpList_store_arr rfl 26 (.tmp 11) (.tmp 31) rfl w2.heap.size .u8 32 C rfl rfl 26 _ (new_of _ _) size_dig rfl ?_
         intro w3 hA3 hG3
         have hx3 : Ext w2 w3 := grown_new (Ext.alloc _ _) hG3 (fun g hg => by simp at hg; omega)
         have hr3 : RB w3 (fun g' t' => g' = w2.heap.size ∧ t' = 26) (some ⟨w2.heap.size, 0, none⟩) L0 := by rw [HL0.out]; exact hA3.rb HCL.out
         have HX3 := Lib.hid (HX2.out.tr hx3)
         have HR3 := Lib.hid hr3
         have hle3 := HX3.out.size
         clear hA3 hG3 hx3 hr3)
      | (at_builtin; refine wpList_append_bytes _ rfl (.tmp 32) (.tmp 33) 22 rfl w.heap.size 5 i0 Tryd.underlying22 hi0 hz0 hz1 hz2 (some ⟨w3.heap.size, 0, none⟩) 0 [] rfl (own_empty' w w3 hle3) _ (some ⟨w2.heap.size, 0, none⟩) 32 L0 (by rw [HLL0.out]; rfl) (HR3.out.ext (Ext.alloc _ _)) (by rw [HLL0.out]; decide) (by simp; omega) ?_
         intro A4 c4 w4 ho4 hg4 hb4
         rw [List.nil_append] at ho4
         have hx4 : Ext w w4 := grown_new (HX3.out.tr (Ext.alloc _ _)) hg4 (fun g hg => by simp [Value.ownBlock] at hg; omega)
         have HX4 := Lib.hid hx4
         have HO4 := Lib.hid ho4
         have hle4 := hx4.size
         clear hx4 ho4 hg4 hb4
         rw [List.nil_append, HLL0.out])
      | (at_builtin; refine wpList_append_bytes _ rfl (.tmp 34) (.tmp 35) 22 rfl w.heap.size 5 i0 Tryd.underlying22 hi0 hz0 hz1 hz2 A4 c4 L0 (by rw [HLL0.out]; rfl) (HO4.out.ext (Ext.alloc _ _)) _ (some ⟨w4.heap.size, 0, none⟩) 1 [7] rfl (RB.lit w4 [7] #[.int .u8 7] 5 rfl) (by rw [HLL0.out]; decide) (by simp; omega) ?_
         intro A5 c5 w5 ho5 hg5 hb5
         rw [← HL.out] at ho5
         have hx5 : Ext w w5 := grown_new (HX4.out.tr (Ext.alloc _ _)) hg5 HO4.out.ge
         obtain ⟨gB, rfl⟩ := ho5.some_ (by rw [HLL.out]; decide)
         have hle5 := ho5.le
         rw [HLL.out] at hle5
         have hsl := fun W => run_slice_hi (P := Tryd.prog) (t := 22) Tryd.underlying22 size_u8 gB 0 33 c5 k (by omega) (by omega) (k : Int) rfl W
         have HX5 := Lib.hid hx5
         have HO5 := Lib.hid ho5
         clear hx5 ho5 hg5 hb5
         rw [← HL.out, HLL.out]))
    refine (HCH.out _ c5 (L.take k) _ _ _ HTL.out (HX5.out.tr (Ext.alloc _ _)) ((HO5.out.rb.take k).ext (Ext.alloc _ _)) (HRC.out _ HX5.out)).mono ?_
    rintro e w6 ⟨rfl, hx6⟩
    rw [HRP.out]
    have HX6 := Lib.hid ((HX5.out.tr (Ext.alloc _ _)).tr hx6)
    have HO6 := Lib.hid ((HO5.out.ext (Ext.alloc _ _)).ext hx6)
    clear hx6 hsl
    obtain ⟨i, hi⟩ : ∃ i, i = p % k := ⟨_, rfl⟩
    have hi2 : i < k := by rw [hi]; exact Nat.mod_lt _ hkp
    have hi1 : Value.int .i64 ((p : Int) % (k : Int)) = Value.int .i64 (i : Int) := by rw [hi, Int.natCast_emod]
    have hil2 : (i : Int) < (k : Int) := by omega
    have hiL : i < L.length := by rw [HLL.out]; exact Nat.lt_of_lt_of_le hi2 hk33
    have hc6 := HO6.out.cellAt (j := i) hiL
    have hf6 := HO6.out.freeAt i
    have hx0 : L[i]? = some (L[i]'hiL) := List.getElem?_eq_getElem hiL
    obtain ⟨x, hx⟩ : ∃ x, x = L[i]'hiL := ⟨_, rfl⟩
    rw [← hx] at hc6 hx0
    have hxq : ((x.toNat : Int) == (q.toNat : Int)) = decide (x = q) := by
      by_cases e : x = q
      · subst e; rw [decide_eq_true rfl, beq_t rfl]
      · rw [decide_eq_false e, beq_f (u8_ne e)]
    obtain ⟨r, hr⟩ : ∃ r, r = decide (x = q) := ⟨_, rfl⟩
    rw [← hr] at hxq
    have hrr : (r == r) = true := by simp
    have hrs := HRS.out i q x hi2 hx0
    rw [show decide (16 ≤ k ∧ k ≤ 32 ∧ x = q) = false from decide_eq_false (fun h => h16 h.1)] at hrs
    have HRS2 := Lib.hid hrs
    have HI := Lib.hid hi
    clear hx0 hx hr hrs hiL hi
    go_wp2_with fail
    have ho7 := HO6.out.set_ i q
    have hx7 : Ext w (w6.setCell ⟨gB, i, none⟩ (.int .u8 (q.toNat : Int))) := ext_setCell HX6.out HO6.out.at_.1 _
    obtain ⟨w7, hw7⟩ : ∃ W, W = w6.setCell ⟨gB, i, none⟩ (.int .u8 (q.toNat : Int)) := ⟨_, rfl⟩
    have hsz7 : (w6.setCell ⟨gB, i, none⟩ (.int .u8 (q.toNat : Int))).heap.size = w6.heap.size := by simp [World.setCell]
    rw [← hw7] at ho7 hx7 hsz7 ⊢
    have hrb7 := ho7.rb.take k
    rw [List.take_set] at hrb7
    have HX7 := Lib.hid hx7
    have HRB7 := Lib.hid hrb7
    have hlen7 : ((L.take k).set i q).length = k := by rw [List.length_set, HTL.out]
    have hrc7 := HRC.out _ HX7.out
    rw [hsz7] at hrc7
    clear ho7 hx7 hw7 hrb7 hc6 hf6 hsz7
    refine (HCH.out _ c5 ((L.take k).set i q) _ _ _ hlen7 (HX7.out.tr (Ext.alloc _ _)) (HRB7.out.ext (Ext.alloc _ _)) hrc7).mono ?_
    rintro e w8 ⟨rfl, hx8⟩
    rw [HRS2.out]
    go_wp2_with fail
    go_ret
    exact ⟨rfl, (HX7.out.tr (Ext.alloc _ _)).tr hx8⟩
end Go.Proofs.YtdbmkkjpdhnllaaDoor
