/-
  Package sha: the digest of parts.
-/
import Derived.Test.YtdbmkkjpdhnllaaDoorShaD
import Derived.Test.YtdbmkkjpdhnllaaDoorRowsC
namespace Go.Proofs.YtdbmkkjpdhnllaaDoor
open Go.RowKit

theorem sum_start {w1 W : World} {cs : Array Value} {t : TypeId} (hA : Arr W w1.heap.size 49 .u32 8 st0.get) (hG : ((w1.alloc (.cells cs t)).alloc (.cells #[.int .i64 0] 3)).grownBy W (some w1.heap.size)) :
    Hid (Arr W w1.heap.size 49 .u32 8 st0.get ∧ W.heap[w1.heap.size + 1]? = some (.cells #[.int .i64 0] 3 (0, 0)) ∧ Ext w1 W) ∧ W.cell? ⟨w1.heap.size + 1, 0, none⟩ = some (.int .i64 0) ∧ W.frozen? ⟨w1.heap.size + 1, 0, none⟩ = false := by
  have h1 : W.heap[w1.heap.size + 1]? = some (.cells #[.int .i64 0] 3 (0, 0)) := grown_get hG (two_new _ _ _).2 (by simp)
  have hx : Ext w1 W := grown_new ((Ext.alloc _ _).tr (Ext.alloc _ _)) hG (fun g hg => by simp at hg; omega)
  exact ⟨⟨hA, h1, hx⟩, cells_of h1 0, free_of h1 0⟩
theorem sum_begin {w1 W : World} (h : Arr W w1.heap.size 49 .u32 8 st0.get ∧ W.heap[w1.heap.size + 1]? = some (.cells #[.int .i64 0] 3 (0, 0)) ∧ Ext w1 W) :
    Sh ((W.setCell ⟨w1.heap.size + 1, 0, none⟩ (.int .i64 0)).alloc (.cells (tabV .u8 64 (fun _ => 0)) 41)) W.heap.size (w1.heap.size + 1) w1.heap.size [] ∧
      Ext w1 ((W.setCell ⟨w1.heap.size + 1, 0, none⟩ (.int .i64 0)).alloc (.cells (tabV .u8 64 (fun _ => 0)) 41)) ∧ w1.heap.size + 1 < W.heap.size := by
  obtain ⟨hA, hN, hx⟩ := h
  have hsz : (W.setCell ⟨w1.heap.size + 1, 0, none⟩ (.int .i64 0)).heap.size = W.heap.size := by simp [World.setCell]
  have hlt := lt_of_some hN
  refine ⟨⟨⟨fun _ => 0, ?_, part_nil⟩, ?_, ?_⟩, ?_, hlt⟩
  · have := new_of (W.setCell ⟨w1.heap.size + 1, 0, none⟩ (.int .i64 0)) (.cells (tabV .u8 64 (fun _ => 0)) 41)
    rw [hsz] at this
    exact this
  · exact (Ext.alloc _ _).get (set_of hN 0 (.int .i64 0))
  · rw [show ([] : List UInt8).length / 64 = 0 from rfl, run]
    exact (hA.other (by omega) _ _).ext (Ext.alloc _ _)
  · exact (ext_setCell hx (by simp) _).tr (Ext.alloc _ _)
theorem Sh.lt {w : World} {gb gn gs : Nat} {q : List UInt8} (h : Sh w gb gn gs q) : gb < w.heap.size ∧ gn < w.heap.size ∧ gs < w.heap.size := by
  obtain ⟨⟨f, h1, _⟩, h2, h3⟩ := h
  exact ⟨h1.lt, lt_of_some h2, h3.lt⟩
theorem Sh.ext {w w' : World} {gb gn gs : Nat} {q : List UInt8} (h : Sh w gb gn gs q) (hx : Ext w w') : Sh w' gb gn gs q := by
  obtain ⟨⟨f, h1, h2⟩, h3, h4⟩ := h
  exact ⟨⟨f, h1.ext hx, h2⟩, hx.get h3, h4.ext hx⟩
set_option maxRecDepth 100000 in
set_option maxHeartbeats 2000000 in
theorem sum_c (A : Option Addr) (c : Nat) (ls : List (List UInt8)) (S T : Nat → TypeId → Prop) (w : World) (ht : Tab w) (h : RBC w S T A ls) (hl : (fla ls).length ≤ 140737488355328) (hn : ls.length ≤ 9223372036854775807) :
    Calls Tryd.prog 23 #[.slice A ls.length c] w fun e w' => e = .returned (.agg (tabV .u8 32 (sum kc (fla ls)))) ∧ Ext w w' := by
  have HT := Lib.hid ht
  have HR := Lib.hid h.inside
  have HL := Lib.hid hl
  clear ht h hl
  have hmf : ∀ (fn : Fn) (first cap : Array Value) (w : World), (Instr.makeFunc fn first cap).run Tryd.prog w = .ok (.func fn first cap) w := fun _ _ _ _ => rfl
  go_enter Tryd.func23, Tryd.ntmps23
  go_wp2_with fail
  have HB := Lib.hid (new_of w (.cells (tabV .u8 32 (fun _ => 0)) 26))
  refine (start_c _).mono ?_
  rintro e w1 ⟨rfl, hx1⟩
  have hx : Ext w w1 := (Ext.alloc _ _).tr hx1
  have hb : Arr w1 w.heap.size 26 .u8 32 (fun _ => 0) := hx1.get HB.out
  have HX := Lib.hid hx
  have HB1 := Lib.hid hb
  clear hx1 hx hb HB
  go_wp2_with (refine wpList_store_arr rfl 49 (.tmp 3) (.tmp 9) rfl w1.heap.size .u32 8 st0.get rfl rfl 49 _ (two_new _ _ _).1 size_st rfl ?_; intro W hA hG; obtain ⟨HW, cw, fw⟩ := sum_start hA hG; clear hA hG)
  clear cw fw
  obtain ⟨gb, hgb⟩ : ∃ gb, gb = W.heap.size := ⟨_, rfl⟩
  obtain ⟨hsh0, hx0, hlt0⟩ := sum_begin HW.out
  rw [← hgb] at hsh0 hlt0 ⊢
  have HGB := Lib.hid hgb
  have HX0 := Lib.hid (HX.out.tr hx0)
  have HB0 := Lib.hid (HB1.out.ext hx0)
  have HSH0 := Lib.hid hsh0
  have h00 : 0 < w.heap.size := by obtain ⟨_, _, _, hh, _⟩ := HT.out; exact lt_of_some hh
  have hle1 := HX.out.size
  have hlt1 : w.heap.size < w1.heap.size := HB1.out.lt
  clear hgb hx0 hsh0
  go_loopw [13] (fun i wr => ∃ j : Nat, j ≤ ls.length ∧ i = .int .i64 j ∧ Sh wr gb (w1.heap.size + 1) w1.heap.size (flt ls j) ∧ Arr wr w.heap.size 26 .u8 32 (fun _ => 0) ∧ Ext w wr) (fun i _ => ls.length - (intOf i).toNat)
  case atStart =>
    refine ⟨0, by omega, rfl, ?_, ?_, ?_⟩
    · rw [flt_zero]; exact HSH0.out
    · exact HB0.out
    · exact HX0.out
  case round =>
    obtain ⟨j, hj, rfl, hsh, hB, hx⟩ := hrel
    by_cases hlt : j < ls.length
    · obtain ⟨g, off, B, d, rfl, hc, hr, hd1, hd2⟩ := (HR.out.ext hx).cell hlt
      have hm := flt_more ls j hlt
      have hlb : (flt ls j).length + (ls[j]).length ≤ 281474976710656 := by have := HL.out; omega
      have hst := flt_step ls j hlt
      obtain ⟨b, hb⟩ : ∃ b, b = ls[j] := ⟨_, rfl⟩
      rw [← hb] at hc hr hd1 hlb hst
      have hcall := add_c gb (w1.heap.size + 1) w1.heap.size (by omega) (by omega) (by omega) (by unfold X3; omega) (flt ls j) B d b (fun g _ => g < w.heap.size) (fun g _ hg => by unfold X3; omega) wr (HT.out.ext hx) hsh hr hd1 hd2 hlb
      have HCALL := Lib.hid hcall
      have HST := Lib.hid hst
      have HBW := Lib.hid hB
      have HXW := Lib.hid hx
      clear hcall hst hB hx hsh hr hm hb
      go_wp2_with fail
      refine HCALL.out.mono ?_
      rintro e W2 ⟨rfl, hsh2, hg2⟩
      rw [HST.out] at hsh2
      have HSH2 := Lib.hid hsh2
      have hb2 : Arr W2 w.heap.size 26 .u8 32 (fun _ => 0) := hg2.get HBW.out (by unfold X3; omega)
      have hx2 : Ext w W2 := Gr.toExt HXW.out hg2 (fun g hg => by unfold X3 at hg; omega)
      have HB2 := Lib.hid hb2
      have HX2 := Lib.hid hx2
      clear hsh2 hg2 hb2 hx2
      go_wp2_with fail
      go_roundw
      case rel => exact ⟨j + 1, by omega, by go_num, HSH2.out, HB2.out, HX2.out⟩
      case measure => simp [intOf]; omega
    · rw [flt_all ls (by omega)] at hsh
      have hN := hsh.2.1
      have cn : wr.cell? ⟨w1.heap.size + 1, 0, none⟩ = some (.int .i64 (fla ls).length) := cells_of hN 0
      have HSH := Lib.hid hsh
      have HBW := Lib.hid hB
      have HXW := Lib.hid hx
      clear hsh hN hB hx
      go_wp2_with fail
      refine (padding_c (fla ls).length (by have := HL.out; omega) _).mono ?_
      rintro e W2 ⟨A2, c2, rfl, ho2, hx2⟩
      have hsh2 := HSH.out.ext hx2
      obtain ⟨l1, l2, l3⟩ := HSH.out.lt
      have hpl : (pad (fla ls).length).length ≤ 72 := by rw [pad_len]; have := zeros_lt (fla ls).length; omega
      have hcall := add_c gb (w1.heap.size + 1) w1.heap.size (by omega) (by omega) (by omega) (by unfold X3; omega) (fla ls) A2 c2 (pad (fla ls).length) _ (fun g _ hg => by unfold X3; have := hg.1; omega) W2 (HT.out.ext (HXW.out.tr hx2)) hsh2 ho2.rb ho2.le.1 (by have := ho2.le.2; unfold maxLen at this; omega) (by have := HL.out; omega)
      have HCALL := Lib.hid hcall
      have HB2 := Lib.hid (HBW.out.ext hx2)
      have HX2 := Lib.hid (HXW.out.tr hx2)
      clear hcall hsh2 hx2 ho2 hpl
      go_wp2_with fail
      refine HCALL.out.mono ?_
      rintro e W3 ⟨rfl, hsh3, hg3⟩
      have hb3 : Arr W3 w.heap.size 26 .u8 32 (fun _ => 0) := hg3.get HB2.out (by unfold X3; omega)
      have hx3 : Ext w W3 := Gr.toExt HX2.out hg3 (fun g hg => by unfold X3 at hg; omega)
      have HS3 := Lib.hid hsh3.2.2
      have HB3 := Lib.hid hb3
      have HX3 := Lib.hid hx3
      clear hsh3 hg3 hb3 hx3
      obtain ⟨s, hs⟩ : ∃ s, s = run kc st0 (fla ls ++ pad (fla ls).length) ((fla ls ++ pad (fla ls).length).length / 64) := ⟨_, rfl⟩
      have hS4 := HS3.out
      rw [← hs] at hS4
      have HSS := Lib.hid hs
      have HS4 := Lib.hid hS4
      clear hs hS4 HS3
      go_wp2_with (refine wpList_load_arr rfl 49 (.tmp 3) rfl w1.heap.size rfl 49 .u32 8 s.get _ HS4.out Tryd.underlying49 size_st ?_)
      refine (digest_c s _).mono ?_
      rintro e W4 ⟨rfl, hx4⟩
      have HB4 := Lib.hid (HB3.out.ext hx4)
      have HX4 := Lib.hid (HX3.out.tr hx4)
      clear hx4
      go_wp2_with (refine wpList_store_arr' rfl rfl 26 (.tmp 2) (.tmp 26) rfl w.heap.size .u8 32 (dig s) rfl rfl 26 _ HB4.out size_dig tabV_size ?_; intro W5 hA5 hG5)
      refine bodyPost_ret (v := .agg (tabV .u8 32 (dig s))) ?_ rfl ⟨by unfold sum; rw [← HSS.out], grown_new HX4.out hG5 (fun g hg => by simp at hg; omega)⟩
      exact results_cell_row rfl _ _ _ _ _ _ _ rfl hA5 Tryd.underlying26 rfl (by rw [tabV_size]; exact size_dig)
end Go.Proofs.YtdbmkkjpdhnllaaDoor
