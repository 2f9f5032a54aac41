/-
  Package ctr: Next and Crypt.
-/
import Derived.Test.YtdmfajcbbolfiaaCtrE
namespace Go.Proofs.Ytdmfajcbbolfiaa
open Go.RowKit
set_option linter.unusedVariables false
set_option linter.unusedSimpArgs false

/-- the exclusive or of two strings -/
def xl (s b : List UInt8) : List UInt8 := List.zipWith (fun x y => x ^^^ y) s b
theorem xl_len {s b : List UInt8} (h : s.length = b.length) : (xl s b).length = b.length := by unfold xl; rw [List.length_zipWith]; omega
/-- the first i bytes are done -/
def xlp (s b : List UInt8) (i : Nat) : List UInt8 := xl (s.take i) (b.take i) ++ s.drop i
theorem xlp_len {s b : List UInt8} (h : s.length = b.length) (i : Nat) : (xlp s b i).length = b.length := by
  unfold xlp xl
  rw [List.length_append, List.length_zipWith, List.length_take, List.length_take, List.length_drop]
  omega
theorem xlp_zero (s b : List UInt8) : xlp s b 0 = s := by unfold xlp xl; simp
theorem xlp_all {s b : List UInt8} (h : s.length = b.length) : xlp s b b.length = xl s b := by
  unfold xlp
  rw [List.take_of_length_le (by omega), List.take_of_length_le (by omega), List.drop_eq_nil_of_le (by omega), List.append_nil]
theorem xlp_at {s b : List UInt8} (h : s.length = b.length) {i : Nat} (hi : i < b.length) : (xlp s b i)[i]? = s[i]? := by
  unfold xlp xl
  have hl : (List.zipWith (fun x y => x ^^^ y) (s.take i) (b.take i)).length = i := by rw [List.length_zipWith, List.length_take, List.length_take]; omega
  rw [List.getElem?_append_right (by omega), hl, List.getElem?_drop, Nat.sub_self, Nat.add_zero]
theorem xlp_set {s b : List UInt8} (h : s.length = b.length) {i : Nat} (hi : i < b.length) (hs : i < s.length) : (xlp s b i).set i (s[i] ^^^ b[i]) = xlp s b (i + 1) := by
  apply List.ext_getElem?
  intro j
  have hl : (List.zipWith (fun x y => x ^^^ y) (s.take i) (b.take i)).length = i := by rw [List.length_zipWith, List.length_take, List.length_take]; omega
  have hl' : (List.zipWith (fun x y => x ^^^ y) (s.take (i + 1)) (b.take (i + 1))).length = i + 1 := by rw [List.length_zipWith, List.length_take, List.length_take]; omega
  rw [List.getElem?_set, xlp_len h]
  by_cases e : i = j
  · subst e
    rw [if_pos rfl, if_pos hi]
    unfold xlp xl
    rw [List.getElem?_append_left (by omega), List.getElem?_zipWith, List.getElem?_take, List.getElem?_take, if_pos (by omega), if_pos (by omega), List.getElem?_eq_getElem hs, List.getElem?_eq_getElem hi]
  · rw [if_neg e]
    unfold xlp xl
    by_cases hj : j < i
    · rw [List.getElem?_append_left (by omega), List.getElem?_append_left (by omega), List.getElem?_zipWith, List.getElem?_zipWith]
      simp only [List.getElem?_take, if_pos hj, if_pos (show j < i + 1 by omega)]
    · rw [List.getElem?_append_right (by omega), List.getElem?_append_right (by omega), hl, hl', List.getElem?_drop, List.getElem?_drop, show i + (j - i) = j by omega, show i + 1 + (j - (i + 1)) = j by omega]

set_option maxRecDepth 100000 in
set_option maxHeartbeats 2000000 in
theorem cnext_c (g used d : Nat) (key nonce : Nat → Nat) (hk : Byt key) (hn : Byt8 nonce) (B : Option Addr) (b : List UInt8) (S : Nat → TypeId → Prop) (w : World) (hu : used + b.length ≤ 2199023255552) (hb : b.length ≤ 1048576)
    (hc : Cph w g key nonce used) (hr : RB w S B b) (hS : ∀ t, ¬ S g t) :
    Calls Try.prog 16 #[.pointer (some ⟨g, 0, none⟩), .slice B b.length d] w fun e w' =>
      ∃ A c, e = .returned (.slice A b.length c) ∧ OwnB w' 5 w.heap.size A c (xl (strm key nonce used b.length) b) ∧ w.grownBy w' (some g) ∧ Cph w' g key nonce (used + b.length) := by
  have HC := Lib.hid hc
  have HR := Lib.hid hr
  obtain ⟨wd, hwd⟩ : ∃ wd, wd = w.drew := ⟨_, rfl⟩
  have xd : Ext w wd := by rw [hwd]; exact Ext.drew _
  have HCD := Lib.hid (hc.ext xd)
  have HWD := Lib.hid hwd
  have HXD := Lib.hid xd
  clear hc hr hwd xd
  go_enter Try.func16, Try.ntmps16
  go_wp2_with fail
  refine wp_region_ord 14 (fun W => W = wd) (by kernel_rfl) (by kernel_rfl) (by decide) (by kernel_rfl) HWD.out.symm ?_
  simp only [List.take_succ_cons, List.take_zero, List.drop_succ_cons, List.drop_zero]
  repeat (refine wpTxt_stay ?_ (fun K hK => ?_) rfl ?_; rotate_left; (simp only [Act.put, List.setIfInBounds_toArray, List.set_cons_zero, List.set_cons_succ] at hK; go_simp; exact hK); simp only [Act.put, List.setIfInBounds_toArray, List.set_cons_zero, List.set_cons_succ])
  refine wpTxt_stay (.agg (tabV .u8 16 key)) (fun K hK => wp_load_part 22 (.tmp 12) rfl g 0 rfl .u8 16 key 5 HCD.out.atKey Try.underlying22 size_bk hK) rfl ?_
  simp only [Act.put, List.setIfInBounds_toArray, List.set_cons_zero, List.set_cons_succ]
  repeat (refine wpTxt_stay ?_ (fun K hK => ?_) rfl ?_; rotate_left; (simp only [Act.put, List.setIfInBounds_toArray, List.set_cons_zero, List.set_cons_succ] at hK; go_simp; exact hK); simp only [Act.put, List.setIfInBounds_toArray, List.set_cons_zero, List.set_cons_succ])
  refine wpTxt_stay (.agg (tabV .u8 8 nonce)) (fun K hK => wp_load_part 23 (.tmp 16) rfl g 16 rfl .u8 8 nonce 5 HCD.out.atNonce Try.underlying23 size_nc hK) rfl ?_
  simp only [Act.put, List.setIfInBounds_toArray, List.set_cons_zero, List.set_cons_succ]
  have hcu := HCD.out.atUsed
  repeat (refine wpTxt_stay ?_ (fun K hK => ?_) rfl ?_; rotate_left; (simp only [Act.put, List.setIfInBounds_toArray, List.set_cons_zero, List.set_cons_succ] at hK; go_simp; exact hK); simp only [Act.put, List.setIfInBounds_toArray, List.set_cons_zero, List.set_cons_succ])
  refine wpTxt_nil ?_
  rintro W hW
  have hxw : Ext w W := by rw [hW, HWD.out]; exact Ext.drew _
  have hzw : W.heap.size = w.heap.size := by rw [hW, HWD.out]; rfl
  have HCW := Lib.hid (HC.out.ext hxw)
  have HXW := Lib.hid hxw
  have HZW := Lib.hid hzw
  clear hxw hzw hcu HCD HXD HWD hW
  go_wp2_with fail
  obtain ⟨s, hs⟩ : ∃ s, s = strm key nonce used b.length := ⟨_, rfl⟩
  have hsl : s.length = b.length := by rw [hs, strm_len]
  refine (stream_c key nonce hk hn used b.length hu hb _).mono ?_
  rw [HZW.out, ← hs]
  rintro e w2 ⟨A, c, rfl, ho, hx⟩
  have hgw : g < w.heap.size := lt_of_some HC.out
  have hcu := (HCW.out.ext hx).atUsed
  have hfr := (HCW.out.ext hx).free 24
  have qu : IntKind.i64.wrap ((used : Int) + (b.length : Int)) = (used : Int) + (b.length : Int) := IntWalk.i64_in _ (by omega)
  have ho' : OwnB w2 5 w.heap.size A c s := ho
  have HO := Lib.hid ho'
  have HX := Lib.hid (HXW.out.tr hx)
  have HC2 := Lib.hid (HCW.out.ext hx)
  have HSL := Lib.hid hsl
  have HS := Lib.hid hs
  clear ho ho' hx hsl hs
  go_wp2_with fail
  have hg3 : w2.grownBy (w2.setCell ⟨g, 24, none⟩ (.int .i64 ((used : Int) + (b.length : Int)))) (some g) := grown_set ⟨g, 24, none⟩ rfl _
  have hc3 : Cph (w2.setCell ⟨g, 24, none⟩ (.int .i64 ((used : Int) + (b.length : Int)))) g key nonce (used + b.length) := by
    have := HC2.out.set_ (used + b.length)
    rwa [show (((used + b.length : Nat)) : Int) = (used : Int) + (b.length : Int) by omega] at this
  have hr3 : RB (w2.setCell ⟨g, 24, none⟩ (.int .i64 ((used : Int) + (b.length : Int)))) (fun g' t => S g' t ∧ g' < w.heap.size) B b :=
    ((HR.out.inside).ext HX.out).grown hg3 (fun g' t hs => by rintro e; injection e with e; subst e; exact hS t hs.1)
  have ho3 : OwnB (w2.setCell ⟨g, 24, none⟩ (.int .i64 ((used : Int) + (b.length : Int)))) 5 w.heap.size A c s :=
    HO.out.keep (fun g' o _ hb' hh => grown_get hg3 hh (by rintro e; injection e with e; omega))
  have hw3 : w.grownBy (w2.setCell ⟨g, 24, none⟩ (.int .i64 ((used : Int) + (b.length : Int)))) (some g) := grown_tr (HX.out.grown (some g)) hg3
  have HC3 := Lib.hid hc3
  have HR3 := Lib.hid hr3
  have HO3 := Lib.hid ho3
  have HW3 := Lib.hid hw3
  clear hg3 hc3 hr3 ho3 hw3 hcu hfr HC2 HX HO HCW HXW HZW HC HR
  go_loopw [36] (fun v wr => ∃ i : Nat, i ≤ b.length ∧ v = .int .i64 i ∧ OwnB wr 5 w.heap.size A c (xlp s b i) ∧ RB wr (fun g' t => S g' t ∧ g' < w.heap.size) B b ∧ Cph wr g key nonce (used + b.length) ∧ w.grownBy wr (some g)) (fun v _ => b.length - (intOf v).toNat)
  case atStart => exact ⟨0, Nat.zero_le _, rfl, by rw [xlp_zero]; exact HO3.out, HR3.out, HC3.out, HW3.out⟩
  case round =>
    obtain ⟨i, hi, rfl, hO, hR, hC, hG⟩ := hrel
    clear HC3 HR3 HO3 HW3
    by_cases hlt : i < b.length
    · have hls := xlp_len HSL.out i
      obtain ⟨gb, off, rfl, hcb⟩ := hR.cell hlt
      obtain ⟨ga, rfl⟩ : ∃ ga, A = some ⟨ga, 0, none⟩ := by
        rcases hO.block with ⟨_, _, h⟩ | ⟨ga, cs, h, _⟩
        · rw [h] at hls; simp at hls; omega
        · exact ⟨ga, h⟩
      have hgab := hO.at_
      have hca := hO.cellAt (j := i) (by omega)
      have hfa := hO.freeAt i
      have hset := hO.set_ i (s[i]'(by have := HSL.out; omega) ^^^ b[i])
      rw [xlp_set HSL.out hlt (by have := HSL.out; omega)] at hset
      have hxi : (xlp s b i)[i]'(by omega) = s[i]'(by have := HSL.out; omega) := by
        have h1 := xlp_at HSL.out hlt
        rw [List.getElem?_eq_getElem (by omega), List.getElem?_eq_getElem (by have := HSL.out; omega)] at h1
        exact Option.some.inj h1
      rw [hxi] at hca
      obtain ⟨x, hx⟩ : ∃ x, x = s[i]'(by have := HSL.out; omega) := ⟨_, rfl⟩
      obtain ⟨y, hy⟩ : ∃ y, y = b[i] := ⟨_, rfl⟩
      rw [← hx] at hca hset
      rw [← hy] at hcb hset
      have q1 : bits .xor .u8 (x.toNat : Int) (y.toNat : Int) = ((x ^^^ y).toNat : Int) := by rw [u8_xor_nat _ _ (UInt8.toNat_lt x) (UInt8.toNat_lt y), UInt8.toNat_xor]
      have i1 : (i : Int) < (b.length : Int) := by omega
      have HSET := Lib.hid hset
      have HR := Lib.hid hR
      have HC := Lib.hid hC
      have HG := Lib.hid hG
      clear hset hR hC hG hO hls hxi hx hy
      go_wp2_with fail
      refine ⟨⟨i + 1, by omega, by go_num, HSET.out, HR.out.grown (grown_set ⟨ga, i, none⟩ rfl _) (fun g' t hs => by rintro e; injection e with e; have e1 : ga = g' := e; have := hs.2; omega), ?_, ?_⟩, by simp only [intOf]; omega⟩
      · exact (Below.heap_setCell _ ⟨ga, i, none⟩ _ _ (by simp; omega)).trans HC.out
      · have hG := HG.out
        refine ⟨hG.os, hG.tape, hG.output, by simp only [World.size_setCell]; exact hG.size, fun k hk hne => (Below.heap_setCell _ ⟨ga, i, none⟩ _ k (by show k ≠ ga; omega)).trans (hG.block k hk hne)⟩
    · have e : i = b.length := by omega
      subst e
      rw [xlp_all HSL.out] at hO
      have HO := Lib.hid hO
      have HC := Lib.hid hC
      have HG := Lib.hid hG
      clear hO hR hC hG
      go_wp2_with fail
      go_ret
      exact ⟨A, c, rfl, by rw [← HS.out]; exact HO.out, HG.out, HC.out⟩

set_option maxRecDepth 100000 in
set_option maxHeartbeats 1000000 in
theorem crypt_c (d : Nat) (key nonce : Nat → Nat) (hk : Byt key) (hn : Byt8 nonce) (B : Option Addr) (b : List UInt8) (S : Nat → TypeId → Prop) (w : World) (hb : b.length ≤ 1048576) (hr : RB w S B b) :
    Calls Try.prog 12 #[.agg (tabV .u8 16 key), .agg (tabV .u8 8 nonce), .slice B b.length d] w fun e w' =>
      ∃ A c, e = .returned (.slice A b.length c) ∧ OwnB w' 5 w.heap.size A c (xl (strm key nonce 0 b.length) b) ∧ Ext w w' := by
  obtain ⟨h0, h1⟩ := two_new w (.cells (tabV .u8 16 key) 22) (.cells (tabV .u8 8 nonce) 23)
  have HX := Lib.hid ((Ext.alloc w (.cells (tabV .u8 16 key) 22)).tr (Ext.alloc _ (.cells (tabV .u8 8 nonce) 23)))
  have H0 := Lib.hid (show Arr _ w.heap.size 22 .u8 16 key from h0)
  have H1 := Lib.hid (show Arr _ (w.heap.size + 1) 23 .u8 8 nonce from h1)
  have HR := Lib.hid (hr.inside)
  clear h0 h1 hr
  go_enter Try.func12, Try.ntmps12
  go_wp2_with (first
    | refine wpList_load_arr rfl 22 (.tmp 3) rfl w.heap.size rfl 22 .u8 16 key _ H0.out Try.underlying22 size_bk ?_
    | refine wpList_load_arr rfl 23 (.tmp 4) rfl (w.heap.size + 1) rfl 23 .u8 8 nonce _ H1.out Try.underlying23 size_nc ?_)
  refine (new_c key nonce _).mono ?_
  rintro e w2 ⟨rfl, hc2, hx2⟩
  obtain ⟨g, hg⟩ : ∃ g, g = ((w.alloc (.cells (tabV .u8 16 key) 22)).alloc (.cells (tabV .u8 8 nonce) 23)).heap.size + 2 := ⟨_, rfl⟩
  rw [← hg] at hc2 ⊢
  have hgw : w.heap.size ≤ g := by rw [hg]; simp; omega
  have HC2 := Lib.hid hc2
  have HX2 := Lib.hid (HX.out.tr hx2)
  clear hc2 hx2 hg
  go_wp2_with fail
  refine (cnext_c g 0 d key nonce hk hn B b _ w2 (by omega) hb HC2.out (HR.out.ext HX2.out) (fun t h => by have := h.2; omega)).mono ?_
  rintro e w3 ⟨A, c, rfl, ho, hg3, _⟩
  have HO := Lib.hid (ho.less (base' := w.heap.size) HX2.out.size)
  have HX3 := Lib.hid (grown_new HX2.out hg3 (fun k e => by cases e; exact hgw))
  clear ho hg3
  go_wp2_with fail
  go_ret
  exact ⟨A, c, rfl, HO.out, HX3.out⟩
end Go.Proofs.Ytdmfajcbbolfiaa
