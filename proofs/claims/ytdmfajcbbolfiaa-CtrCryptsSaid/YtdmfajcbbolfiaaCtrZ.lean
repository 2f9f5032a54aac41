/-
  The law CtrCrypts.
-/
import Derived.Test.YtdmfajcbbolfiaaCtrW
namespace Go.Proofs.Ytdmfajcbbolfiaa
open Go.RowKit
set_option linter.unusedVariables false
set_option linter.unusedSimpArgs false

/-- the same at an operation with a guard that lets it -/
theorem wpList_load_arr' {P : Program} {w : World} {ops : Array Oper} {rest : List Oper} {o : Oper} {a : Act} {Q : Exit → Act → World → Prop} (hw : Region.wanted o (yielded ops a.tmps) = true) (ty : TypeId) (x : Operand) (ho : o.op = .load ty x)
    (g : Nat) (hx : a.eval x = .pointer (some ⟨g, 0, none⟩)) (t : TypeId) (k : IntKind) (n : Nat) (f : Nat → Nat) (e : TypeId) (hg : Arr w g t k n f) (hu : P.underlying ty = some (.array n e)) (hi : (P.info? ty).map (·.size) = some n)
    (h : wpList P ops Q rest (a.put o.dst (.agg (tabV k n f))) w) : wpList P ops Q (o :: rest) a w := by
  unfold wpList
  rw [if_pos hw]
  exact .inl (wp_load_arr ty x ho g hx k n f e t hg hu hi h)
theorem xl_xl {s b : List UInt8} (h : s.length = b.length) : xl s (xl s b) = b := by
  apply List.ext_getElem?
  intro j
  unfold xl
  rw [List.getElem?_zipWith, List.getElem?_zipWith]
  by_cases hj : j < b.length
  · rw [List.getElem?_eq_getElem (show j < s.length by omega), List.getElem?_eq_getElem hj]
    show some (s[j] ^^^ (s[j] ^^^ b[j])) = some b[j]
    rw [← UInt8.xor_assoc, UInt8.xor_self, UInt8.zero_xor]
  · rw [List.getElem?_eq_none (show s.length ≤ j by omega), List.getElem?_eq_none (show b.length ≤ j by omega)]
set_option maxRecDepth 100000 in
set_option maxHeartbeats 4000000 in
theorem ctrCrypts_walk (key nonce : Nat → Nat) (B : Option Addr) (len cap : Nat) (z : List Int) (w : World) (hk' : ∀ i, i < 16 → (Lit.int .u8 (key i : Nat)).wf = true) (hn' : ∀ i, i < 8 → (Lit.int .u8 (nonce i : Nat)).wf = true) (hz : IsRow .u8 w B len cap z) :
    Calls Try.prog 4 #[.agg (tabV .u8 16 key), .agg (tabV .u8 8 nonce), .slice B len cap] w fun e w' => e = .returned (.bool true) ∧ Ext w w' := by
  obtain ⟨b, rfl, hle, hcm, hrb⟩ := row_bytes hz
  obtain ⟨i0, hi0, hz0, hz1, hz2⟩ := info_parts info_u8
  have HK := Lib.hid (byt_wf hk')
  have HN := Lib.hid (byt8_wf hn')
  obtain ⟨h0, h1⟩ := two_new w (.cells (tabV .u8 16 key) 22) (.cells (tabV .u8 8 nonce) 23)
  have hx := (Ext.alloc w (.cells (tabV .u8 16 key) 22)).tr (Ext.alloc _ (.cells (tabV .u8 8 nonce) 23))
  have HX := Lib.hid hx
  have HH := Lib.hid (show HeldC w.heap.size (w.heap.size + 1) key nonce _ from ⟨h0, h1⟩)
  have HR := Lib.hid (hrb.ext hx)
  clear h0 h1 hk' hn' hz hx hrb
  by_cases hlt : 1000 < b.length
  · have t1 : (1000 : Int) < (b.length : Int) := by omega
    go_enter Try.func4, Try.ntmps4
    go_wp2_with fail
    refine (awake_c _).mono ?_
    rintro e w1 ⟨rfl, hx1⟩
    have HX1 := Lib.hid (HX.out.tr hx1)
    clear hx1
    go_wp2_with fail
    refine (awake_c _).mono ?_
    rintro e w2 ⟨rfl, hx2⟩
    have HX2 := Lib.hid (HX1.out.tr hx2)
    clear hx2
    go_wp2_with fail
    go_ret
    exact ⟨rfl, HX2.out⟩
  · have t1 : ¬ (1000 : Int) < (b.length : Int) := by omega
    have HLT := Lib.hid hlt
    clear hlt
    go_enter Try.func4, Try.ntmps4
    go_wp2_with fail
    refine (awake_c _).mono ?_
    rintro e w1 ⟨rfl, hx1⟩
    have HX1 := Lib.hid (HX.out.tr hx1)
    have HH1 := Lib.hid (HH.out.ext hx1)
    have HR1 := Lib.hid (HR.out.ext hx1)
    clear hx1 HX HH HR
    have HO1 := Lib.hid (OwnB.lit (w := w1) (E := 5) (base := w1.heap.size) [] #[] rfl (Nat.le_refl _) (by simp [maxLen]))
    have HR2 := Lib.hid (HR1.out.ext (Ext.alloc w1 (.cells #[] 5)))
    have HL1 := Lib.hid (show ([] : List UInt8).length + b.length ≤ 140737488355328 by have := HLT.out; simp; omega)
    have HL2 := Lib.hid (show w1.heap.size ≤ (w1.alloc (.cells #[] 5)).heap.size from (Ext.alloc _ _).size)
    go_wp2_with (first
      | (at_builtin
         refine wpList_append_bytes _ rfl (.tmp 17) (.tmp 18) 27 rfl w1.heap.size 5 i0 Try.underlying27 hi0 hz0 hz1 hz2 (some ⟨w1.heap.size, 0, none⟩) 0 [] rfl HO1.out _ B cap b rfl HR2.out HL1.out HL2.out ?_
         intro A2 c2 w2 ho2 hg2 hb2
         have hx2 : Ext w1 w2 := grown_new (Ext.alloc _ _) hg2 HO1.out.ge
         have HO2 := Lib.hid (show OwnB w2 5 w1.heap.size A2 c2 b from ho2)
         have HX2 := Lib.hid (HX1.out.tr hx2)
         have HH2 := Lib.hid (HH1.out.ext hx2)
         have HR2 := Lib.hid (HR1.out.ext hx2)
         clear ho2 hg2 hb2 hx2)
      | refine wpList_load_arr rfl 22 (.tmp 3) rfl w.heap.size rfl 22 .u8 16 key _ HH2.out.1 Try.underlying22 size_bk ?_
      | refine wpList_load_arr rfl 23 (.tmp 4) rfl (w.heap.size + 1) rfl 23 .u8 8 nonce _ HH2.out.2 Try.underlying23 size_nc ?_)
    have hbl : b.length ≤ 1048576 := by have := HLT.out; omega
    obtain ⟨s, hs⟩ : ∃ s, s = strm key nonce 0 b.length := ⟨_, rfl⟩
    have hsl : s.length = b.length := by rw [hs, strm_len]
    obtain ⟨y, hy⟩ : ∃ y, y = xl s b := ⟨_, rfl⟩
    have hyl : y.length = b.length := by rw [hy, xl_len hsl]
    have hyy : xl s y = b := by rw [hy, xl_xl hsl]
    have hcr := crypt_c c2 key nonce HK.out HN.out A2 b _ w2 hbl HO2.out.rb
    rw [← hs, ← hy] at hcr
    refine hcr.mono ?_
    rintro e w3 ⟨A3, c3, rfl, ho3, hx3⟩
    have HO3 := Lib.hid ho3
    have HO2 := Lib.hid (HO2.out.ext hx3)
    have HX3 := Lib.hid (HX2.out.tr hx3)
    have HH3 := Lib.hid (HH2.out.ext hx3)
    have HR3 := Lib.hid (HR2.out.ext hx3)
    clear ho3 hx3 hcr
    go_wp2_with (first
      | refine wpList_load_arr rfl 22 (.tmp 3) rfl w.heap.size rfl 22 .u8 16 key _ HH3.out.1 Try.underlying22 size_bk ?_
      | refine wpList_load_arr rfl 23 (.tmp 4) rfl (w.heap.size + 1) rfl 23 .u8 8 nonce _ HH3.out.2 Try.underlying23 size_nc ?_)
    have hrc := rcrypt_c cap key nonce HK.out HN.out B b _ w3 hbl HR3.out
    rw [← hs, ← hy] at hrc
    refine hrc.mono ?_
    rintro e w4 ⟨A4, c4, rfl, ho4, hx4⟩
    have HO4 := Lib.hid ho4
    have HO3 := Lib.hid (HO3.out.ext hx4)
    have HO2 := Lib.hid (HO2.out.ext hx4)
    have HX4 := Lib.hid (HX3.out.tr hx4)
    have HH4 := Lib.hid (HH3.out.ext hx4)
    have HR4 := Lib.hid (HR3.out.ext hx4)
    clear ho4 hx4 hrc
    go_wp2_with fail
    have hs5 := same_x A3 A4 y y c3 c4 _ _ _ HO3.out.rb HO4.out.rb (by rw [hyl]; omega) rfl
    rw [hyl] at hs5
    refine hs5.mono ?_
    rintro e w5 ⟨rfl, hx5⟩
    have HO3 := Lib.hid (HO3.out.ext hx5)
    have HO2 := Lib.hid (HO2.out.ext hx5)
    have HX5 := Lib.hid (HX4.out.tr hx5)
    have HH5 := Lib.hid (HH4.out.ext hx5)
    have HR5 := Lib.hid (HR4.out.ext hx5)
    clear hx5 hs5
    go_wp2_with (first
      | refine wpList_load_arr' rfl 22 (.tmp 3) rfl w.heap.size rfl 22 .u8 16 key _ HH5.out.1 Try.underlying22 size_bk ?_
      | refine wpList_load_arr' rfl 23 (.tmp 4) rfl (w.heap.size + 1) rfl 23 .u8 8 nonce _ HH5.out.2 Try.underlying23 size_nc ?_)
    have hcr := crypt_c c3 key nonce HK.out HN.out A3 y _ w5 (by rw [hyl]; exact hbl) HO3.out.rb
    rw [hyl, ← hs, hyy] at hcr
    refine hcr.mono ?_
    rintro e w6 ⟨A6, c6, rfl, ho6, hx6⟩
    have HO6 := Lib.hid ho6
    have HO2 := Lib.hid (HO2.out.ext hx6)
    have HX6 := Lib.hid (HX5.out.tr hx6)
    have HR6 := Lib.hid (HR5.out.ext hx6)
    clear ho6 hx6 hcr
    go_wp2_with fail
    refine (same_x A6 B b b c6 cap _ _ _ HO6.out.rb HR6.out (by omega) rfl).mono ?_
    rintro e w7 ⟨rfl, hx7⟩
    have HO2 := Lib.hid (HO2.out.ext hx7)
    have HX7 := Lib.hid (HX6.out.tr hx7)
    have HR7 := Lib.hid (HR6.out.ext hx7)
    clear hx7
    go_wp2_with fail
    refine (same_x A2 B b b c2 cap _ _ _ HO2.out.rb HR7.out (by omega) rfl).mono ?_
    rintro e w8 ⟨rfl, hx8⟩
    have HX8 := Lib.hid (HX7.out.tr hx8)
    clear hx8
    go_wp2_with fail
    go_ret
    exact ⟨rfl, HX8.out⟩
end Go.Proofs.Ytdmfajcbbolfiaa
