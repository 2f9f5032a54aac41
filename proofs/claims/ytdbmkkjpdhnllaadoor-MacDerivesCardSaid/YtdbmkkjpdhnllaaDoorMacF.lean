/-
  The reference's code of bytes under a key.
-/
import Derived.Test.YtdbmkkjpdhnllaaDoorMacB
import Derived.Test.YtdbmkkjpdhnllaaDoorShaG
namespace Go.Proofs.YtdbmkkjpdhnllaaDoor
open Go.RowKit

theorem btl_succ (n : Nat) (f : Nat → Nat) : btl (n + 1) f = btl n f ++ [UInt8.ofNat (f n)] := by
  unfold btl
  rw [List.range_succ, List.map_append]
  rfl
/-- two rows of the call's own in blocks of their own -/
def Apart (A B : Value) : Prop := ∀ g, A.ownBlock = some g → B.ownBlock ≠ some g
theorem OwnB.apart {w w' : World} {E : TypeId} {base c : Nat} {A : Option Addr} {l : List UInt8} {V : Value} (h : OwnB w E base A c l) (hg : w.grownBy w' V.ownBlock) (hne : Apart (.slice A l.length c) V) : OwnB w' E base A c l := by
  refine h.keep fun g o hA _ hh => grown_get hg hh (fun e => ?_)
  subst hA
  exact hne g rfl e
theorem OwnB.below {w : World} {E : TypeId} {base c : Nat} {A : Option Addr} {l : List UInt8} (h : OwnB w E base A c l) : ∀ g, (Value.slice A l.length c).ownBlock = some g → g < w.heap.size := by
  rcases h.block with ⟨rfl, _, _⟩ | ⟨g, cs, rfl, _, hh, _⟩
  · intro g hg; simp [Value.ownBlock] at hg
  · intro g' hg'; simp [Value.ownBlock] at hg'; subst hg'; exact lt_of_some hh
theorem byte_of {x : Nat} (h : x < 256) : ∃ b : UInt8, b.toNat = x ∧ b = UInt8.ofNat x := ⟨UInt8.ofNat x, by rw [UInt8.toNat_ofNat']; exact Nat.mod_eq_of_lt h, rfl⟩
theorem OwnB.notAt {w : World} {E : TypeId} {base c : Nat} {A : Option Addr} {l : List UInt8} (h : OwnB w E base A c l) {g : Nat} {cs : Array Value} {t : TypeId} {fr : Nat × Nat} (hg : w.heap[g]? = some (.cells cs t fr)) (hne : t ≠ E) : (Value.slice A l.length c).ownBlock ≠ some g := by
  rcases h.block with ⟨rfl, _, _⟩ | ⟨g', cs', rfl, _, hh, _⟩
  · simp [Value.ownBlock]
  · intro e
    simp [Value.ownBlock] at e
    subst e
    rw [hg] at hh
    injection hh with hh
    injection hh with _ ht _
    exact hne ht

set_option maxRecDepth 100000 in
set_option maxHeartbeats 4000000 in
theorem rmac_c (K : Option Addr) (ck : Nat) (key : List UInt8) (SK : Nat → TypeId → Prop) (B : Option Addr) (cb : Nat) (b : List UInt8) (S : Nat → TypeId → Prop) (w : World)
    (hk : RB w SK K key) (hkl : key.length ≤ 140737488355000) (h : RB w S B b) (hl : b.length ≤ 140737488355000) :
    Calls Tryd.prog 11 #[.slice K key.length ck, .slice B b.length cb] w fun e w' => e = .returned (.agg (tabV .u8 32 (hm key b))) ∧ Ext w w' := by
  obtain ⟨i0, hi0, hz0, hz1, hz2⟩ := info_parts info_u8
  have hb0 : Arr (w.alloc (.cells (tabV .u8 32 (fun _ => 0)) 26)) w.heap.size 26 .u8 32 (fun _ => 0) := new_of w _
  have HB0 := Lib.hid hb0
  have HK := Lib.hid hk
  have HR := Lib.hid h
  have HKL := Lib.hid hkl
  have HL := Lib.hid hl
  clear hk h hb0 hl hkl
  by_cases hlt : 64 < key.length
  · have t0 : decide ((64 : Int) < (key.length : Int)) = true := decide_eq_true (by omega)
    have HLT := Lib.hid hlt
    clear hlt
    go_enter Tryd.func11, Tryd.ntmps11
    go_wp2_with (at_builtin; refine wpList_append_bytes _ rfl (.tmp 12) (.tmp 13) 22 rfl w.heap.size 5 i0 Tryd.underlying22 hi0 hz0 hz1 hz2 (some ⟨w.heap.size + 1, 0, none⟩) 0 [] rfl (own_empty w _) SK K ck key rfl ((HK.out.ext (Ext.alloc _ _)).ext (Ext.alloc _ _)) (by have := HKL.out; simp; omega) (by simp; omega) ?_; intro A1 c1 w1 ho1 hg1 _
                 rw [List.nil_append] at ho1
                 have hx1 : Ext w w1 := grown_new ((Ext.alloc _ _).tr (Ext.alloc _ _)) hg1 (fun g hg => by simp [Value.ownBlock] at hg; omega)
                 have hb1 : Arr w1 w.heap.size 26 .u8 32 (fun _ => 0) := grown_get hg1 ((Ext.alloc _ _).get HB0.out) (by simp [Value.ownBlock])
                 have HX1 := Lib.hid hx1
                 have HB1 := Lib.hid hb1
                 have HO1 := Lib.hid ho1
                 have HC1 := Lib.hid ho1.le
                 clear hx1 hb1 hg1 ho1
                 try rw [List.nil_append])
    have HS0 := Lib.hid (rsum_c A1 c1 key _ w1 HO1.out.rb (by have := HKL.out; omega))
    refine HS0.out.mono ?_
    rintro e w2 ⟨rfl, hx2⟩
    have HX2 := Lib.hid (HX1.out.tr hx2)
    have HB2 := Lib.hid (HB1.out.ext hx2)
    clear hx2 HS0 HO1 HB1 HX1
    go_wp2_with (refine wpList_store_arr rfl 26 (.tmp 6) (.tmp 19) rfl w2.heap.size .u8 32 (sum kc key) rfl rfl 26 _ (new_of _ _) size_dig rfl ?_
                 intro w3 hA3 hG3
                 have hx3 : Ext w2 w3 := grown_new (Ext.alloc _ _) hG3 (fun g hg => by simp at hg; omega)
                 have HX3 := Lib.hid (HX2.out.tr hx3)
                 have HB1 := Lib.hid (HB2.out.ext hx3)
                 have HKK := Lib.hid (hA3.rb (fun i _ => sum_lt key i))
                 clear hA3 hG3 hx3)
    obtain ⟨Ak, hAk⟩ : ∃ Ak : Option Addr, Ak = some ⟨w2.heap.size, 0, none⟩ := ⟨_, rfl⟩
    rw [← hAk] at HKK ⊢
    change Hid (RB w3 _ Ak (dg key)) at HKK
    clear hAk
    have hd32 := dg_len key
    have HD32 := Lib.hid hd32
    clear hd32
    have HX0 := Lib.hid (HX3.out)
    have hbase : w.heap.size < w3.heap.size := HB1.out.lt
    go_loopw [7, 8, 9] (fun v u i wr => ∃ (n : Nat) (B1 : Option Addr) (d1 : Nat) (B2 : Option Addr) (d2 : Nat), n ≤ 64 ∧ i = .int .i64 n ∧ v = .slice B1 n d1 ∧ u = .slice B2 n d2 ∧ OwnB wr 5 w3.heap.size B1 d1 (btl n fun i => byt (dg key) i ^^^ 54) ∧ OwnB wr 5 w3.heap.size B2 d2 (btl n fun i => byt (dg key) i ^^^ 92) ∧ Apart (.slice B1 n d1) (.slice B2 n d2) ∧ Ext w3 wr) (fun _ _ i _ => 64 - (intOf i).toNat)
    case atStart => exact ⟨0, none, 0, none, 0, by omega, rfl, rfl, rfl, OwnB.nil _ _ _, OwnB.nil _ _ _, fun g hg => by simp [Value.ownBlock] at hg, Ext.refl _⟩
    case round =>
      obtain ⟨n, B1, d1, B2, d2, hn, rfl, rfl, rfl, ho1, ho2, hap, hx⟩ := hrel
      by_cases hlt : n < 64
      · have HAP := Lib.hid hap
        have hx256 : byt (dg key) n < 256 := byt_lt _ _
        obtain ⟨x, hx0⟩ : ∃ x, x = byt (dg key) n := ⟨_, rfl⟩
        rw [← hx0] at hx256
        obtain ⟨p, hp1, hp2⟩ := byte_of (xor256 hx256 (by decide : 54 < 256))
        obtain ⟨q, hq1, hq2⟩ := byte_of (xor256 hx256 (by decide : 92 < 256))
        have e1 : bits .xor .u8 (x : Int) 54 = (p.toNat : Int) := by rw [hp1]; exact u8_xor_nat x 54 hx256 (by decide)
        have e2 : bits .xor .u8 (x : Int) 92 = (q.toNat : Int) := by rw [hq1]; exact u8_xor_nat x 92 hx256 (by decide)
        have s1 : btl (n + 1) (fun i => byt (dg key) i ^^^ 54) = btl n (fun i => byt (dg key) i ^^^ 54) ++ [p] := by rw [btl_succ, hp2, hx0]
        have s2 : btl (n + 1) (fun i => byt (dg key) i ^^^ 92) = btl n (fun i => byt (dg key) i ^^^ 92) ++ [q] := by rw [btl_succ, hq2, hx0]
        have l1 := btl_len n (fun i => byt (dg key) i ^^^ 54)
        have l2 := btl_len n (fun i => byt (dg key) i ^^^ 92)
        obtain ⟨m1, hm1⟩ : ∃ m, m = btl n (fun i => byt (dg key) i ^^^ 54) := ⟨_, rfl⟩
        obtain ⟨m2, hm2⟩ : ∃ m, m = btl n (fun i => byt (dg key) i ^^^ 92) := ⟨_, rfl⟩
        rw [← hm1] at ho1 s1 l1
        rw [← hm2] at ho2 s2 l2
        have HL1 := Lib.hid l1
        have HL2 := Lib.hid l2
        have HO1' := Lib.hid ho1
        have HO2' := Lib.hid ho2
        have HX := Lib.hid hx
        have hle := hx.size
        have HS1 := Lib.hid s1
        have HS2 := Lib.hid s2
        have hkc := fun h => (HKK.out.ext hx).cell (k := n) h
        have HP1 := Lib.hid hp1
        have HQ1 := Lib.hid hq1
        have HXE := Lib.hid hx0
        have HXB := Lib.hid hx256
        clear l1 l2 ho1 ho2 hx hm1 hm2 hp1 hp2 hq1 hq2 s1 s2 hap hx0 hx256
        by_cases hlk : n < (dg key).length
        · obtain ⟨g, off, hak, hc⟩ := hkc hlk
          subst hak
          have hc2 : wr.cell? ⟨g, off + n, none⟩ = some (.int .u8 x) := by rw [hc, byt_getElem hlk, HXE.out]
          have t1 : decide ((n : Int) < (32 : Int)) = true := decide_eq_true (by have := HD32.out; omega)
          have HCC := Lib.hid hc
          have hltL : (n : Int) < (32 : Int) := by have := HD32.out; omega
          have hltN : n < 32 := by have := HD32.out; omega
          clear hc hkc
          go_wp2_with (at_builtin; first
            | (refine wpList_append_bytes _ rfl (.tmp 33) (.tmp 36) 22 rfl w3.heap.size 5 i0 Tryd.underlying22 hi0 hz0 hz1 hz2 B1 d1 m1 (by rw [HL1.out]; rfl) (HO1'.out.ext (Ext.alloc _ _)) _ (some ⟨wr.heap.size, 0, none⟩) 1 [p] rfl (RB.lit wr [p] #[.int .u8 (p.toNat : Int)] 5 rfl) (by rw [HL1.out]; simp; omega) (by simp; omega) ?_
               intro A4 c4 w4 ho4 hg4 hb4
               have hx4 : Ext w3 w4 := grown_new (HX.out.tr (Ext.alloc _ _)) hg4 HO1'.out.ge
               have ho24 : OwnB w4 5 w3.heap.size B2 d2 m2 := (HO2'.out.ext (Ext.alloc _ _)).apart hg4 (fun g hg hg' => by rw [HL1.out] at hg'; rw [HL2.out] at hg; exact HAP.out g hg' hg)
               have hap4 : Apart (.slice A4 (m1 ++ [p]).length c4) (.slice B2 m2.length d2) := fun g hg hg' => by
                 have hlt2 := HO2'.out.below g hg'
                 rcases hb4 with hb4 | hb4
                 · rw [hb4, HL1.out] at hg
                   rw [HL2.out] at hg'
                   exact HAP.out g hg hg'
                 · rw [hb4] at hg
                   simp at hg
                   omega
               have HX4 := Lib.hid hx4
               have HO4 := Lib.hid ho4
               have HO24 := Lib.hid ho24
               have HAP4 := Lib.hid hap4
               have hle4 := hx4.size
               clear hx4 ho4 ho24 hap4 hg4 hb4)
            | (refine wpList_append_bytes _ rfl (.tmp 38) (.tmp 41) 22 rfl w3.heap.size 5 i0 Tryd.underlying22 hi0 hz0 hz1 hz2 B2 d2 m2 (by rw [HL2.out]; rfl) (HO24.out.ext (Ext.alloc _ _)) _ (some ⟨w4.heap.size, 0, none⟩) 1 [q] rfl (RB.lit w4 [q] #[.int .u8 (q.toNat : Int)] 5 rfl) (by rw [HL2.out]; simp; omega) (by simp; omega) ?_
               intro A5 c5 w5 ho5 hg5 hb5))
          have hx5 : Ext w3 w5 := grown_new (HX4.out.tr (Ext.alloc _ _)) hg5 HO24.out.ge
          have ho15 : OwnB w5 5 w3.heap.size A4 c4 (m1 ++ [p]) := (HO4.out.ext (Ext.alloc _ _)).apart hg5 (fun g hg hg' => HAP4.out g hg hg')
          have hap5 : Apart (.slice A4 (m1 ++ [p]).length c4) (.slice A5 (m2 ++ [q]).length c5) := fun g hg hg' => by
            have hlt2 := HO4.out.below g hg
            rcases hb5 with hb5 | hb5
            · rw [hb5] at hg'
              exact HAP4.out g hg hg'
            · rw [hb5] at hg'
              simp at hg'
              omega
          have k1 : (m1 ++ [p]).length = n + 1 := by rw [List.length_append, HL1.out]; rfl
          have k2 : (m2 ++ [q]).length = n + 1 := by rw [List.length_append, HL2.out]; rfl
          rw [k1, k2] at hap5
          clear hg5 hb5
          go_roundw
          case rel => exact ⟨n + 1, A4, c4, A5, c5, by omega, by go_num, by first | rw [HL1.out] | rw [k1], by first | rw [HL2.out] | rw [k2], by rw [HS1.out]; exact ho15, by rw [HS2.out]; exact ho5, hap5, hx5⟩
          case measure => simp [intOf]; omega
        · have t1 : decide ((n : Int) < (32 : Int)) = false := decide_eq_false (by have := HD32.out; omega)
          have hx00 : x = 0 := by rw [HXE.out]; exact byt_over (by omega)
          rw [hx00] at e1 e2
          have e3 : bits .xor .u8 0 54 = (p.toNat : Int) := e1
          have e4 : bits .xor .u8 0 92 = (q.toNat : Int) := e2
          clear hkc e1 e2 hx00
          go_wp2_with (at_builtin; first
            | (refine wpList_append_bytes _ rfl (.tmp 33) (.tmp 36) 22 rfl w3.heap.size 5 i0 Tryd.underlying22 hi0 hz0 hz1 hz2 B1 d1 m1 (by rw [HL1.out]; rfl) (HO1'.out.ext (Ext.alloc _ _)) _ (some ⟨wr.heap.size, 0, none⟩) 1 [p] rfl (RB.lit wr [p] #[.int .u8 (p.toNat : Int)] 5 rfl) (by rw [HL1.out]; simp; omega) (by simp; omega) ?_
               intro A4 c4 w4 ho4 hg4 hb4
               have hx4 : Ext w3 w4 := grown_new (HX.out.tr (Ext.alloc _ _)) hg4 HO1'.out.ge
               have ho24 : OwnB w4 5 w3.heap.size B2 d2 m2 := (HO2'.out.ext (Ext.alloc _ _)).apart hg4 (fun g hg hg' => by rw [HL1.out] at hg'; rw [HL2.out] at hg; exact HAP.out g hg' hg)
               have hap4 : Apart (.slice A4 (m1 ++ [p]).length c4) (.slice B2 m2.length d2) := fun g hg hg' => by
                 have hlt2 := HO2'.out.below g hg'
                 rcases hb4 with hb4 | hb4
                 · rw [hb4, HL1.out] at hg
                   rw [HL2.out] at hg'
                   exact HAP.out g hg hg'
                 · rw [hb4] at hg
                   simp at hg
                   omega
               have HX4 := Lib.hid hx4
               have HO4 := Lib.hid ho4
               have HO24 := Lib.hid ho24
               have HAP4 := Lib.hid hap4
               have hle4 := hx4.size
               clear hx4 ho4 ho24 hap4 hg4 hb4)
            | (refine wpList_append_bytes _ rfl (.tmp 38) (.tmp 41) 22 rfl w3.heap.size 5 i0 Tryd.underlying22 hi0 hz0 hz1 hz2 B2 d2 m2 (by rw [HL2.out]; rfl) (HO24.out.ext (Ext.alloc _ _)) _ (some ⟨w4.heap.size, 0, none⟩) 1 [q] rfl (RB.lit w4 [q] #[.int .u8 (q.toNat : Int)] 5 rfl) (by rw [HL2.out]; simp; omega) (by simp; omega) ?_
               intro A5 c5 w5 ho5 hg5 hb5))
          have hx5 : Ext w3 w5 := grown_new (HX4.out.tr (Ext.alloc _ _)) hg5 HO24.out.ge
          have ho15 : OwnB w5 5 w3.heap.size A4 c4 (m1 ++ [p]) := (HO4.out.ext (Ext.alloc _ _)).apart hg5 (fun g hg hg' => HAP4.out g hg hg')
          have hap5 : Apart (.slice A4 (m1 ++ [p]).length c4) (.slice A5 (m2 ++ [q]).length c5) := fun g hg hg' => by
            have hlt2 := HO4.out.below g hg
            rcases hb5 with hb5 | hb5
            · rw [hb5] at hg'
              exact HAP4.out g hg hg'
            · rw [hb5] at hg'
              simp at hg'
              omega
          have k1 : (m1 ++ [p]).length = n + 1 := by rw [List.length_append, HL1.out]; rfl
          have k2 : (m2 ++ [q]).length = n + 1 := by rw [List.length_append, HL2.out]; rfl
          rw [k1, k2] at hap5
          clear hg5 hb5
          go_roundw
          case rel => exact ⟨n + 1, A4, c4, A5, c5, by omega, by go_num, by first | rw [HL1.out] | rw [k1], by first | rw [HL2.out] | rw [k2], by rw [HS1.out]; exact ho15, by rw [HS2.out]; exact ho5, hap5, hx5⟩
          case measure => simp [intOf]; omega
      · have en : n = 64 := by omega
        have f1 : (btl n fun i => byt (dg key) i ^^^ 54) = xk (byt (dg key)) 54 := by rw [en, xk]
        have f2 : (btl n fun i => byt (dg key) i ^^^ 92) = xk (byt (dg key)) 92 := by rw [en, xk]
        rw [f1] at ho1
        rw [f2] at ho2
        have l1 : (xk (byt (dg key)) 54).length = n := by rw [xk_len, en]
        have l2 : (xk (byt (dg key)) 92).length = n := by rw [xk_len, en]
        have hcd : cd (byt (dg key)) b = sum kc (xk (byt (dg key)) 92 ++ dg (xk (byt (dg key)) 54 ++ b)) := rfl
        obtain ⟨m1, hm1⟩ : ∃ m, m = xk (byt (dg key)) 54 := ⟨_, rfl⟩
        obtain ⟨m2, hm2⟩ : ∃ m, m = xk (byt (dg key)) 92 := ⟨_, rfl⟩
        rw [← hm1] at ho1 l1 hcd
        rw [← hm2] at ho2 l2 hcd
        have HO1' := Lib.hid ho1
        have HO2' := Lib.hid ho2
        have HAP := Lib.hid hap
        have HX := Lib.hid hx
        have hle := hx.size
        have HRB := Lib.hid ((HR.out.ext HX0.out).ext hx)
        have HL1 := Lib.hid l1
        have HL2 := Lib.hid l2
        have HCD := Lib.hid hcd
        clear f1 f2 ho1 ho2 hap hx en l1 l2 hcd hm1 hm2
        go_wp2_with (at_builtin; refine wpList_append_bytes _ rfl (.tmp 43) (.tmp 44) 22 rfl w3.heap.size 5 i0 Tryd.underlying22 hi0 hz0 hz1 hz2 B1 d1 m1 (by rw [HL1.out]; rfl) HO1'.out S B cb b rfl HRB.out (by rw [HL1.out]; have := HL.out; omega) hle ?_; intro A4 c4 w4 ho4 hg4 hb4)
        have hx4 : Ext w3 w4 := grown_new HX.out hg4 HO1'.out.ge
        have ho24 : OwnB w4 5 w3.heap.size B2 d2 m2 := HO2'.out.apart hg4 (fun g hg hg' => by rw [HL1.out] at hg'; rw [HL2.out] at hg; exact HAP.out g hg' hg)
        have hs1 := rsum_c A4 c4 (m1 ++ b) _ w4 ho4.rb (by rw [List.length_append, HL1.out]; have := HL.out; omega)
        rw [List.length_append] at hs1
        have HX4 := Lib.hid hx4
        have HO24 := Lib.hid ho24
        have HS1 := Lib.hid hs1
        clear ho4 hg4 hb4 hx4 ho24 hs1
        (with_reducible refine HS1.out.mono ?_)
        rintro e w5 ⟨rfl, hx5⟩
        have HX5 := Lib.hid (HX4.out.tr hx5)
        have HO5 := Lib.hid (HO24.out.ext hx5)
        clear hx5 HS1 HO24 HX4
        obtain ⟨md, hmd⟩ : ∃ m, m = dg (m1 ++ b) := ⟨_, rfl⟩
        have hi32 : md.length = 32 := by rw [hmd]; exact dg_len _
        have hcd := HCD.out
        rw [← hmd] at hcd
        have HI32 := Lib.hid hi32
        have HCD := Lib.hid hcd
        have HMD := Lib.hid hmd
        clear hmd hi32 hcd
        go_wp2_with (first
          | (refine wpList_store_arr rfl 26 (.tmp 11) (.tmp 46) rfl w5.heap.size .u8 32 (sum kc (m1 ++ b)) rfl rfl 26 _ (new_of _ _) size_dig rfl ?_
             intro w6 hA6 hG6
             have hx6 : Ext w5 w6 := grown_new (Ext.alloc _ _) hG6 (fun g hg => by simp at hg; omega)
             have HX6 := Lib.hid (HX5.out.tr hx6)
             have HO6 := Lib.hid (HO5.out.ext hx6)
             have hrb6 : RB w6 (fun g' t' => g' = w5.heap.size ∧ t' = 26) (some ⟨w5.heap.size, 0, none⟩) md := by rw [HMD.out]; exact hA6.rb (fun i _ => sum_lt _ i)
             have HRB6 := Lib.hid hrb6
             have hle6 := HX6.out.size
             clear hA6 hG6 hx6 hrb6)
          | (at_builtin; refine wpList_append_bytes _ rfl (.tmp 47) (.tmp 48) 22 rfl w3.heap.size 5 i0 Tryd.underlying22 hi0 hz0 hz1 hz2 B2 d2 m2 (by rw [HL2.out]; rfl) HO6.out _ (some ⟨w5.heap.size, 0, none⟩) 32 md (by rw [HI32.out]; rfl) HRB6.out (by rw [HL2.out, HI32.out]; omega) hle6 ?_; intro A7 c7 w7 ho7 hg7 hb7))
        have hx7 : Ext w3 w7 := grown_new HX6.out hg7 HO6.out.ge
        have HX7 := Lib.hid hx7
        have hs2 := rsum_c A7 c7 (m2 ++ md) _ w7 ho7.rb (by rw [List.length_append, HL2.out, HI32.out]; omega)
        rw [List.length_append] at hs2
        have HS2 := Lib.hid hs2
        clear ho7 hg7 hb7 hx7 hs2
        (with_reducible refine HS2.out.mono ?_)
        rintro e w8 ⟨rfl, hx8⟩
        have HX8 := Lib.hid (HX7.out.tr hx8)
        have HB8 := Lib.hid (HB1.out.ext HX8.out)
        clear hx8 HS2 HX7
        go_wp2_with (refine wpList_store_arr' rfl rfl 26 (.tmp 4) (.tmp 50) rfl w.heap.size .u8 32 (sum kc (m2 ++ md)) rfl rfl 26 _ HB8.out size_dig tabV_size ?_; intro w9 hA9 hG9)
        refine bodyPost_ret (v := .agg (tabV .u8 32 (sum kc (m2 ++ md)))) ?_ rfl ⟨by rw [hm, kb, if_pos HLT.out, HCD.out], grown_new (HX0.out.tr HX8.out) hG9 (fun g hg => by simp at hg; omega)⟩
        exact results_cell_row rfl _ _ _ _ _ _ _ rfl hA9 Tryd.underlying26 rfl (by rw [tabV_size]; exact size_dig)
  · have t0 : decide ((64 : Int) < (key.length : Int)) = false := decide_eq_false (by omega)
    have HLT := Lib.hid hlt
    clear hlt
    go_enter Tryd.func11, Tryd.ntmps11
    go_wp2_with (at_builtin; refine wpList_append_bytes _ rfl (.tmp 12) (.tmp 13) 22 rfl w.heap.size 5 i0 Tryd.underlying22 hi0 hz0 hz1 hz2 (some ⟨w.heap.size + 1, 0, none⟩) 0 [] rfl (own_empty w _) SK K ck key rfl ((HK.out.ext (Ext.alloc _ _)).ext (Ext.alloc _ _)) (by have := HKL.out; simp; omega) (by simp; omega) ?_; intro A1 c1 w1 ho1 hg1 _
                 rw [List.nil_append] at ho1
                 have hx1 : Ext w w1 := grown_new ((Ext.alloc _ _).tr (Ext.alloc _ _)) hg1 (fun g hg => by simp [Value.ownBlock] at hg; omega)
                 have hb1 : Arr w1 w.heap.size 26 .u8 32 (fun _ => 0) := grown_get hg1 ((Ext.alloc _ _).get HB0.out) (by simp [Value.ownBlock])
                 have HX1 := Lib.hid hx1
                 have HB1 := Lib.hid hb1
                 have HO1 := Lib.hid ho1
                 have HC1 := Lib.hid ho1.le
                 clear hx1 hb1 hg1 ho1
                 try rw [List.nil_append])
    have HKK := Lib.hid HO1.out.rb
    have HX0 := Lib.hid (HX1.out)
    have hbase : w.heap.size < w1.heap.size := HB1.out.lt
    go_loopw [7, 8, 9] (fun v u i wr => ∃ (n : Nat) (B1 : Option Addr) (d1 : Nat) (B2 : Option Addr) (d2 : Nat), n ≤ 64 ∧ i = .int .i64 n ∧ v = .slice B1 n d1 ∧ u = .slice B2 n d2 ∧ OwnB wr 5 w1.heap.size B1 d1 (btl n fun i => byt key i ^^^ 54) ∧ OwnB wr 5 w1.heap.size B2 d2 (btl n fun i => byt key i ^^^ 92) ∧ Apart (.slice B1 n d1) (.slice B2 n d2) ∧ Ext w1 wr) (fun _ _ i _ => 64 - (intOf i).toNat)
    case atStart => exact ⟨0, none, 0, none, 0, by omega, rfl, rfl, rfl, OwnB.nil _ _ _, OwnB.nil _ _ _, fun g hg => by simp [Value.ownBlock] at hg, Ext.refl _⟩
    case round =>
      obtain ⟨n, B1, d1, B2, d2, hn, rfl, rfl, rfl, ho1, ho2, hap, hx⟩ := hrel
      by_cases hlt : n < 64
      · have HAP := Lib.hid hap
        have hx256 : byt key n < 256 := byt_lt _ _
        obtain ⟨x, hx0⟩ : ∃ x, x = byt key n := ⟨_, rfl⟩
        rw [← hx0] at hx256
        obtain ⟨p, hp1, hp2⟩ := byte_of (xor256 hx256 (by decide : 54 < 256))
        obtain ⟨q, hq1, hq2⟩ := byte_of (xor256 hx256 (by decide : 92 < 256))
        have e1 : bits .xor .u8 (x : Int) 54 = (p.toNat : Int) := by rw [hp1]; exact u8_xor_nat x 54 hx256 (by decide)
        have e2 : bits .xor .u8 (x : Int) 92 = (q.toNat : Int) := by rw [hq1]; exact u8_xor_nat x 92 hx256 (by decide)
        have s1 : btl (n + 1) (fun i => byt key i ^^^ 54) = btl n (fun i => byt key i ^^^ 54) ++ [p] := by rw [btl_succ, hp2, hx0]
        have s2 : btl (n + 1) (fun i => byt key i ^^^ 92) = btl n (fun i => byt key i ^^^ 92) ++ [q] := by rw [btl_succ, hq2, hx0]
        have l1 := btl_len n (fun i => byt key i ^^^ 54)
        have l2 := btl_len n (fun i => byt key i ^^^ 92)
        obtain ⟨m1, hm1⟩ : ∃ m, m = btl n (fun i => byt key i ^^^ 54) := ⟨_, rfl⟩
        obtain ⟨m2, hm2⟩ : ∃ m, m = btl n (fun i => byt key i ^^^ 92) := ⟨_, rfl⟩
        rw [← hm1] at ho1 s1 l1
        rw [← hm2] at ho2 s2 l2
        have HL1 := Lib.hid l1
        have HL2 := Lib.hid l2
        have HO1' := Lib.hid ho1
        have HO2' := Lib.hid ho2
        have HX := Lib.hid hx
        have hle := hx.size
        have HS1 := Lib.hid s1
        have HS2 := Lib.hid s2
        have hkc := fun h => (HKK.out.ext hx).cell (k := n) h
        have HP1 := Lib.hid hp1
        have HQ1 := Lib.hid hq1
        have HXE := Lib.hid hx0
        have HXB := Lib.hid hx256
        clear l1 l2 ho1 ho2 hx hm1 hm2 hp1 hp2 hq1 hq2 s1 s2 hap hx0 hx256
        by_cases hlk : n < key.length
        · obtain ⟨g, off, hak, hc⟩ := hkc hlk
          subst hak
          have hc2 : wr.cell? ⟨g, off + n, none⟩ = some (.int .u8 x) := by rw [hc, byt_getElem hlk, HXE.out]
          have t1 : decide ((n : Int) < (key.length : Int)) = true := decide_eq_true (by have := HLT.out; omega)
          have HCC := Lib.hid hc
          have hltL : (n : Int) < (key.length : Int) := by have := HLT.out; omega
          have hltN : n < key.length := by have := HLT.out; omega
          clear hc hkc
          go_wp2_with (at_builtin; first
            | (refine wpList_append_bytes _ rfl (.tmp 33) (.tmp 36) 22 rfl w1.heap.size 5 i0 Tryd.underlying22 hi0 hz0 hz1 hz2 B1 d1 m1 (by rw [HL1.out]; rfl) (HO1'.out.ext (Ext.alloc _ _)) _ (some ⟨wr.heap.size, 0, none⟩) 1 [p] rfl (RB.lit wr [p] #[.int .u8 (p.toNat : Int)] 5 rfl) (by rw [HL1.out]; simp; omega) (by simp; omega) ?_
               intro A4 c4 w4 ho4 hg4 hb4
               have hx4 : Ext w1 w4 := grown_new (HX.out.tr (Ext.alloc _ _)) hg4 HO1'.out.ge
               have ho24 : OwnB w4 5 w1.heap.size B2 d2 m2 := (HO2'.out.ext (Ext.alloc _ _)).apart hg4 (fun g hg hg' => by rw [HL1.out] at hg'; rw [HL2.out] at hg; exact HAP.out g hg' hg)
               have hap4 : Apart (.slice A4 (m1 ++ [p]).length c4) (.slice B2 m2.length d2) := fun g hg hg' => by
                 have hlt2 := HO2'.out.below g hg'
                 rcases hb4 with hb4 | hb4
                 · rw [hb4, HL1.out] at hg
                   rw [HL2.out] at hg'
                   exact HAP.out g hg hg'
                 · rw [hb4] at hg
                   simp at hg
                   omega
               have HX4 := Lib.hid hx4
               have HO4 := Lib.hid ho4
               have HO24 := Lib.hid ho24
               have HAP4 := Lib.hid hap4
               have hle4 := hx4.size
               clear hx4 ho4 ho24 hap4 hg4 hb4)
            | (refine wpList_append_bytes _ rfl (.tmp 38) (.tmp 41) 22 rfl w1.heap.size 5 i0 Tryd.underlying22 hi0 hz0 hz1 hz2 B2 d2 m2 (by rw [HL2.out]; rfl) (HO24.out.ext (Ext.alloc _ _)) _ (some ⟨w4.heap.size, 0, none⟩) 1 [q] rfl (RB.lit w4 [q] #[.int .u8 (q.toNat : Int)] 5 rfl) (by rw [HL2.out]; simp; omega) (by simp; omega) ?_
               intro A5 c5 w5 ho5 hg5 hb5))
          have hx5 : Ext w1 w5 := grown_new (HX4.out.tr (Ext.alloc _ _)) hg5 HO24.out.ge
          have ho15 : OwnB w5 5 w1.heap.size A4 c4 (m1 ++ [p]) := (HO4.out.ext (Ext.alloc _ _)).apart hg5 (fun g hg hg' => HAP4.out g hg hg')
          have hap5 : Apart (.slice A4 (m1 ++ [p]).length c4) (.slice A5 (m2 ++ [q]).length c5) := fun g hg hg' => by
            have hlt2 := HO4.out.below g hg
            rcases hb5 with hb5 | hb5
            · rw [hb5] at hg'
              exact HAP4.out g hg hg'
            · rw [hb5] at hg'
              simp at hg'
              omega
          have k1 : (m1 ++ [p]).length = n + 1 := by rw [List.length_append, HL1.out]; rfl
          have k2 : (m2 ++ [q]).length = n + 1 := by rw [List.length_append, HL2.out]; rfl
          rw [k1, k2] at hap5
          clear hg5 hb5
          go_roundw
          case rel => exact ⟨n + 1, A4, c4, A5, c5, by omega, by go_num, by first | rw [HL1.out] | rw [k1], by first | rw [HL2.out] | rw [k2], by rw [HS1.out]; exact ho15, by rw [HS2.out]; exact ho5, hap5, hx5⟩
          case measure => simp [intOf]; omega
        · have t1 : decide ((n : Int) < (key.length : Int)) = false := decide_eq_false (by have := HLT.out; omega)
          have hx00 : x = 0 := by rw [HXE.out]; exact byt_over (by omega)
          rw [hx00] at e1 e2
          have e3 : bits .xor .u8 0 54 = (p.toNat : Int) := e1
          have e4 : bits .xor .u8 0 92 = (q.toNat : Int) := e2
          clear hkc e1 e2 hx00
          go_wp2_with (at_builtin; first
            | (refine wpList_append_bytes _ rfl (.tmp 33) (.tmp 36) 22 rfl w1.heap.size 5 i0 Tryd.underlying22 hi0 hz0 hz1 hz2 B1 d1 m1 (by rw [HL1.out]; rfl) (HO1'.out.ext (Ext.alloc _ _)) _ (some ⟨wr.heap.size, 0, none⟩) 1 [p] rfl (RB.lit wr [p] #[.int .u8 (p.toNat : Int)] 5 rfl) (by rw [HL1.out]; simp; omega) (by simp; omega) ?_
               intro A4 c4 w4 ho4 hg4 hb4
               have hx4 : Ext w1 w4 := grown_new (HX.out.tr (Ext.alloc _ _)) hg4 HO1'.out.ge
               have ho24 : OwnB w4 5 w1.heap.size B2 d2 m2 := (HO2'.out.ext (Ext.alloc _ _)).apart hg4 (fun g hg hg' => by rw [HL1.out] at hg'; rw [HL2.out] at hg; exact HAP.out g hg' hg)
               have hap4 : Apart (.slice A4 (m1 ++ [p]).length c4) (.slice B2 m2.length d2) := fun g hg hg' => by
                 have hlt2 := HO2'.out.below g hg'
                 rcases hb4 with hb4 | hb4
                 · rw [hb4, HL1.out] at hg
                   rw [HL2.out] at hg'
                   exact HAP.out g hg hg'
                 · rw [hb4] at hg
                   simp at hg
                   omega
               have HX4 := Lib.hid hx4
               have HO4 := Lib.hid ho4
               have HO24 := Lib.hid ho24
               have HAP4 := Lib.hid hap4
               have hle4 := hx4.size
               clear hx4 ho4 ho24 hap4 hg4 hb4)
            | (refine wpList_append_bytes _ rfl (.tmp 38) (.tmp 41) 22 rfl w1.heap.size 5 i0 Tryd.underlying22 hi0 hz0 hz1 hz2 B2 d2 m2 (by rw [HL2.out]; rfl) (HO24.out.ext (Ext.alloc _ _)) _ (some ⟨w4.heap.size, 0, none⟩) 1 [q] rfl (RB.lit w4 [q] #[.int .u8 (q.toNat : Int)] 5 rfl) (by rw [HL2.out]; simp; omega) (by simp; omega) ?_
               intro A5 c5 w5 ho5 hg5 hb5))
          have hx5 : Ext w1 w5 := grown_new (HX4.out.tr (Ext.alloc _ _)) hg5 HO24.out.ge
          have ho15 : OwnB w5 5 w1.heap.size A4 c4 (m1 ++ [p]) := (HO4.out.ext (Ext.alloc _ _)).apart hg5 (fun g hg hg' => HAP4.out g hg hg')
          have hap5 : Apart (.slice A4 (m1 ++ [p]).length c4) (.slice A5 (m2 ++ [q]).length c5) := fun g hg hg' => by
            have hlt2 := HO4.out.below g hg
            rcases hb5 with hb5 | hb5
            · rw [hb5] at hg'
              exact HAP4.out g hg hg'
            · rw [hb5] at hg'
              simp at hg'
              omega
          have k1 : (m1 ++ [p]).length = n + 1 := by rw [List.length_append, HL1.out]; rfl
          have k2 : (m2 ++ [q]).length = n + 1 := by rw [List.length_append, HL2.out]; rfl
          rw [k1, k2] at hap5
          clear hg5 hb5
          go_roundw
          case rel => exact ⟨n + 1, A4, c4, A5, c5, by omega, by go_num, by first | rw [HL1.out] | rw [k1], by first | rw [HL2.out] | rw [k2], by rw [HS1.out]; exact ho15, by rw [HS2.out]; exact ho5, hap5, hx5⟩
          case measure => simp [intOf]; omega
      · have en : n = 64 := by omega
        have f1 : (btl n fun i => byt key i ^^^ 54) = xk (byt key) 54 := by rw [en, xk]
        have f2 : (btl n fun i => byt key i ^^^ 92) = xk (byt key) 92 := by rw [en, xk]
        rw [f1] at ho1
        rw [f2] at ho2
        have l1 : (xk (byt key) 54).length = n := by rw [xk_len, en]
        have l2 : (xk (byt key) 92).length = n := by rw [xk_len, en]
        have hcd : cd (byt key) b = sum kc (xk (byt key) 92 ++ dg (xk (byt key) 54 ++ b)) := rfl
        obtain ⟨m1, hm1⟩ : ∃ m, m = xk (byt key) 54 := ⟨_, rfl⟩
        obtain ⟨m2, hm2⟩ : ∃ m, m = xk (byt key) 92 := ⟨_, rfl⟩
        rw [← hm1] at ho1 l1 hcd
        rw [← hm2] at ho2 l2 hcd
        have HO1' := Lib.hid ho1
        have HO2' := Lib.hid ho2
        have HAP := Lib.hid hap
        have HX := Lib.hid hx
        have hle := hx.size
        have HRB := Lib.hid ((HR.out.ext HX0.out).ext hx)
        have HL1 := Lib.hid l1
        have HL2 := Lib.hid l2
        have HCD := Lib.hid hcd
        clear f1 f2 ho1 ho2 hap hx en l1 l2 hcd hm1 hm2
        go_wp2_with (at_builtin; refine wpList_append_bytes _ rfl (.tmp 43) (.tmp 44) 22 rfl w1.heap.size 5 i0 Tryd.underlying22 hi0 hz0 hz1 hz2 B1 d1 m1 (by rw [HL1.out]; rfl) HO1'.out S B cb b rfl HRB.out (by rw [HL1.out]; have := HL.out; omega) hle ?_; intro A4 c4 w4 ho4 hg4 hb4)
        have hx4 : Ext w1 w4 := grown_new HX.out hg4 HO1'.out.ge
        have ho24 : OwnB w4 5 w1.heap.size B2 d2 m2 := HO2'.out.apart hg4 (fun g hg hg' => by rw [HL1.out] at hg'; rw [HL2.out] at hg; exact HAP.out g hg' hg)
        have hs1 := rsum_c A4 c4 (m1 ++ b) _ w4 ho4.rb (by rw [List.length_append, HL1.out]; have := HL.out; omega)
        rw [List.length_append] at hs1
        have HX4 := Lib.hid hx4
        have HO24 := Lib.hid ho24
        have HS1 := Lib.hid hs1
        clear ho4 hg4 hb4 hx4 ho24 hs1
        (with_reducible refine HS1.out.mono ?_)
        rintro e w5 ⟨rfl, hx5⟩
        have HX5 := Lib.hid (HX4.out.tr hx5)
        have HO5 := Lib.hid (HO24.out.ext hx5)
        clear hx5 HS1 HO24 HX4
        obtain ⟨md, hmd⟩ : ∃ m, m = dg (m1 ++ b) := ⟨_, rfl⟩
        have hi32 : md.length = 32 := by rw [hmd]; exact dg_len _
        have hcd := HCD.out
        rw [← hmd] at hcd
        have HI32 := Lib.hid hi32
        have HCD := Lib.hid hcd
        have HMD := Lib.hid hmd
        clear hmd hi32 hcd
        go_wp2_with (first
          | (refine wpList_store_arr rfl 26 (.tmp 11) (.tmp 46) rfl w5.heap.size .u8 32 (sum kc (m1 ++ b)) rfl rfl 26 _ (new_of _ _) size_dig rfl ?_
             intro w6 hA6 hG6
             have hx6 : Ext w5 w6 := grown_new (Ext.alloc _ _) hG6 (fun g hg => by simp at hg; omega)
             have HX6 := Lib.hid (HX5.out.tr hx6)
             have HO6 := Lib.hid (HO5.out.ext hx6)
             have hrb6 : RB w6 (fun g' t' => g' = w5.heap.size ∧ t' = 26) (some ⟨w5.heap.size, 0, none⟩) md := by rw [HMD.out]; exact hA6.rb (fun i _ => sum_lt _ i)
             have HRB6 := Lib.hid hrb6
             have hle6 := HX6.out.size
             clear hA6 hG6 hx6 hrb6)
          | (at_builtin; refine wpList_append_bytes _ rfl (.tmp 47) (.tmp 48) 22 rfl w1.heap.size 5 i0 Tryd.underlying22 hi0 hz0 hz1 hz2 B2 d2 m2 (by rw [HL2.out]; rfl) HO6.out _ (some ⟨w5.heap.size, 0, none⟩) 32 md (by rw [HI32.out]; rfl) HRB6.out (by rw [HL2.out, HI32.out]; omega) hle6 ?_; intro A7 c7 w7 ho7 hg7 hb7))
        have hx7 : Ext w1 w7 := grown_new HX6.out hg7 HO6.out.ge
        have HX7 := Lib.hid hx7
        have hs2 := rsum_c A7 c7 (m2 ++ md) _ w7 ho7.rb (by rw [List.length_append, HL2.out, HI32.out]; omega)
        rw [List.length_append] at hs2
        have HS2 := Lib.hid hs2
        clear ho7 hg7 hb7 hx7 hs2
        (with_reducible refine HS2.out.mono ?_)
        rintro e w8 ⟨rfl, hx8⟩
        have HX8 := Lib.hid (HX7.out.tr hx8)
        have HB8 := Lib.hid (HB1.out.ext HX8.out)
        clear hx8 HS2 HX7
        go_wp2_with (refine wpList_store_arr' rfl rfl 26 (.tmp 4) (.tmp 50) rfl w.heap.size .u8 32 (sum kc (m2 ++ md)) rfl rfl 26 _ HB8.out size_dig tabV_size ?_; intro w9 hA9 hG9)
        refine bodyPost_ret (v := .agg (tabV .u8 32 (sum kc (m2 ++ md)))) ?_ rfl ⟨by rw [hm, kb, if_neg HLT.out, HCD.out], grown_new (HX0.out.tr HX8.out) hG9 (fun g hg => by simp at hg; omega)⟩
        exact results_cell_row rfl _ _ _ _ _ _ _ rfl hA9 Tryd.underlying26 rfl (by rw [tabV_size]; exact size_dig)
end Go.Proofs.YtdbmkkjpdhnllaaDoor
