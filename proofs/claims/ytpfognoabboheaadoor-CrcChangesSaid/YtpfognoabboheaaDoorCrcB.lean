/-
  Package crc: Sum, Update, Step at the example's numbers, Append, Check.
-/
import Derived.Test.YtpfognoabboheaaDoorCrcA
import Derived.Test.YtpfognoabboheaaDoorWireB
namespace Go.Proofs.YtpfognoabboheaaDoor
open Go.RowKit

theorem rbs_new1 {w : World} {S : Nat → TypeId → Prop} {A : Option Addr} {l : List UInt8} (h : RB w S A l) (c : Nat) (t : TypeId) :
    RBs (w.alloc (.cells #[.slice A l.length c] t)) (fun _ _ => True) S (some ⟨w.heap.size, 0, none⟩) [l] := by
  intro _
  refine ⟨_, 0, _, _, _, rfl, new_of _ _, trivial, fun j m hj => ?_⟩
  match j, hj with
  | 0, hj =>
    injection hj with hj
    subst hj
    exact ⟨A, c, rfl, h.ext (Ext.alloc _ _)⟩
theorem rbs_new2 {w : World} {S T : Nat → TypeId → Prop} {A B : Option Addr} {l m : List UInt8} (h : RB w S A l) (k : RB w T B m) (c d : Nat) (t : TypeId) :
    RBs (w.alloc (.cells #[.slice A l.length c, .slice B m.length d] t)) (fun _ _ => True) (fun _ _ => True) (some ⟨w.heap.size, 0, none⟩) [l, m] := by
  intro _
  refine ⟨_, 0, _, _, _, rfl, new_of _ _, trivial, fun j x hj => ?_⟩
  match j, hj with
  | 0, hj =>
    injection hj with hj
    subst hj
    exact ⟨A, c, rfl, (h.ext (Ext.alloc _ _)).more (fun _ _ _ => trivial)⟩
  | 1, hj =>
    injection hj with hj
    subst hj
    exact ⟨B, d, rfl, (k.ext (Ext.alloc _ _)).more (fun _ _ _ => trivial)⟩
theorem fla_one (l : List UInt8) : fla [l] = l := by simp [fla]
theorem flat_two (l m : List UInt8) : [l, m].flatten = l ++ m := by simp

set_option maxHeartbeats 400000 in
theorem sum_c (A : Option Addr) (c : Nat) (ls : List (List UInt8)) (S T : Nat → TypeId → Prop) (w : World) (h : RBs w S T A ls) (hl : (fla ls).length ≤ 140737488355328) (hn : ls.length ≤ 140737488355328) :
    Calls Tryd.prog 9 #[.slice A ls.length c] w fun e w' => e = .returned (.int .u32 (cs (fla ls))) ∧ Ext w w' := by
  have H := Lib.hid h
  clear h
  go_enter Tryd.func9, Tryd.ntmps9
  go_wp2_with fail
  refine (cont_c 0 (by omega) A c ls S T _ H.out hl hn).mono ?_
  rintro e w1 ⟨rfl, hx⟩
  go_wp2_with fail
  go_ret
  exact ⟨rfl, hx⟩
theorem sum1_c (A : Option Addr) (c : Nat) (l : List UInt8) (S : Nat → TypeId → Prop) (w : World) (h : RB w S A l) (hl : l.length ≤ 140737488355328) :
    Calls Tryd.prog 9 #[.slice (some ⟨w.heap.size, 0, none⟩) 1 1] (w.alloc (.cells #[.slice A l.length c] 24)) fun e w' => e = .returned (.int .u32 (cs l)) ∧ Ext w w' := by
  refine (sum_c (some ⟨w.heap.size, 0, none⟩) 1 [l] _ _ _ (rbs_new1 h c _) (by rw [fla_one]; exact hl) (by simp)).mono ?_
  rintro e w1 ⟨rfl, hx⟩
  rw [fla_one]
  exact ⟨rfl, (Ext.alloc _ _).tr hx⟩
set_option maxHeartbeats 400000 in
theorem update_c (s : Nat) (hs : s < 4294967296) (A : Option Addr) (c : Nat) (l : List UInt8) (S : Nat → TypeId → Prop) (w : World) (h : RB w S A l) (hl : l.length ≤ 140737488355328) :
    Calls Tryd.prog 8 #[.int .u32 s, .slice A l.length c] w fun e w' => e = .returned (.int .u32 (up s l)) ∧ Ext w w' := by
  have hr := rbs_new1 h c 24
  have HR := Lib.hid hr
  clear h hr
  go_enter Tryd.func8, Tryd.ntmps8
  go_wp2_with fail
  refine (cont_c s hs _ 1 [l] _ _ _ HR.out (by rw [fla_one]; exact hl) (by simp)).mono ?_
  rintro e w1 ⟨rfl, hx⟩
  have HX := Lib.hid ((Ext.alloc _ _).tr hx)
  clear hx
  go_wp2_with fail
  go_ret
  exact ⟨by rw [fla_one]; rfl, HX.out⟩
set_option maxHeartbeats 400000 in
theorem step1_c (w : World) : Calls Tryd.prog 16 #[.int .u32 1, .int .i64 1] w fun e w' => e = .returned (.int .u32 2197175160) ∧ w = w' := by
  go_enter Tryd.func16, Tryd.ntmps16
  go_wp2_with fail
  refine (steps_c 1 1 (by omega) (by omega) (by omega) _).mono ?_
  rintro e w1 ⟨rfl, rfl⟩
  go_wp2_with fail
  go_ret
  exact ⟨rfl, rfl⟩
set_option maxHeartbeats 400000 in
theorem step5_c (w : World) : Calls Tryd.prog 16 #[.int .u32 5, .int .i64 (-1)] w fun e w' => e = .returned (.int .u32 5) ∧ w = w' := by
  go_enter Tryd.func16, Tryd.ntmps16
  go_wp2_with fail
  refine (steps_c 5 (-1) (by omega) (by omega) (by omega) _).mono ?_
  rintro e w1 ⟨rfl, rfl⟩
  go_wp2_with fail
  go_ret
  exact ⟨rfl, rfl⟩

/-- a checked string -/
def apd (l : List UInt8) : List UInt8 := l ++ nb 4 (cs l)
theorem apd_len (l : List UInt8) : (apd l).length = l.length + 4 := by rw [apd, List.length_append, nb_length]
set_option maxHeartbeats 400000 in
theorem append_c (A : Option Addr) (c : Nat) (l : List UInt8) (S : Nat → TypeId → Prop) (w : World) (h : RB w S A l) (hl : l.length ≤ 140737488000000) :
    Calls Tryd.prog 14 #[.slice A l.length c] w fun e w' => ∃ A' c', e = .returned (.slice A' (apd l).length c') ∧ OwnB w' 5 w.heap.size A' c' (apd l) ∧ Ext w w' := by
  have hs := sum1_c A c l S w h (by omega)
  have HS := Lib.hid hs
  have H := Lib.hid h
  clear h hs
  have hcs := cs_lt l
  obtain ⟨z, hz⟩ : ∃ z, z = cs l := ⟨_, rfl⟩
  rw [← hz] at hcs HS
  have HZ := Lib.hid hz
  clear hz
  have hz64 : (z : Int) % 18446744073709551616 = z := by omega
  go_enter Tryd.func14, Tryd.ntmps14
  go_wp2_with fail
  refine HS.out.mono ?_
  rintro e w1 ⟨rfl, hx1⟩
  have HX1 := Lib.hid hx1
  clear hx1
  go_wp2_with fail
  refine (put_c 4 z _ ⟨by omega, by omega⟩ (by omega) (by omega)).mono ?_
  rintro e w2 ⟨B, d, rfl, hB, hx2⟩
  have HX2 := Lib.hid (HX1.out.tr hx2)
  have hbl := nb_length 4 z
  have hr := rbs_new2 (H.out.ext HX2.out) hB.rb c d 24
  rw [hbl] at hr
  rw [hbl]
  have HR := Lib.hid hr
  have HBL := Lib.hid hbl
  clear hx2 hB hbl hr
  go_wp2_with fail
  refine (join_c _ 2 [l, nb 4 z] _ _ _ HR.out (by rw [flat_two, List.length_append, HBL.out]; omega) (by simp)).mono ?_
  rintro e w3 ⟨A', c', rfl, ho, hx3⟩
  rw [flat_two, HZ.out] at ho
  have HO := Lib.hid ho
  have HX3 := Lib.hid ((HX2.out.tr (Ext.alloc _ _)).tr hx3)
  clear ho hx3
  go_wp2_with fail
  go_ret
  refine ⟨A', c', ?_, HO.out.less (by have := HX2.out.size; simp; omega), HX3.out⟩
  rw [apd, ← HZ.out, List.length_append]
  rfl

/-- whether bytes are a checked string -/
def chk (s : List UInt8) : Bool := decide (4 ≤ s.length) && decide (be (s.drop (s.length - 4)) = cs (s.take (s.length - 4)))
theorem chk_apd (l : List UInt8) : chk (apd l) = true := by
  unfold chk
  rw [apd_len]
  have e1 : l.length + 4 - 4 = l.length := by omega
  rw [e1, apd, List.drop_left, List.take_left, be_nb 4 _ (by have := cs_lt l; omega)]
  simp
theorem take_apd (l : List UInt8) : (apd l).take ((apd l).length - 4) = l := by
  rw [apd_len, show l.length + 4 - 4 = l.length by omega, apd, List.take_left]
theorem NoRd.new (w : Nat) (B : Option Nat) : NoRd (fun k t => w ≤ k ∧ t = 5 ∧ B = some k) := NoRd.u8 w B

set_option maxHeartbeats 1000000 in
theorem check_yes (A : Option Addr) (c : Nat) (l : List UInt8) (S : Nat → TypeId → Prop) (w : World) (h : RB w S A l) (hl : l.length ≤ 140737488355328) (hc : chk l = true) :
    Calls Tryd.prog 11 #[.slice A l.length c] w fun e w' => ∃ A' c', e = .returned (.tuple #[.slice A' (l.take (l.length - 4)).length c', .bool true]) ∧ OwnB w' 5 w.heap.size A' c' (l.take (l.length - 4)) ∧ Ext w w' := by
  obtain ⟨h4, hbe⟩ : 4 ≤ l.length ∧ be (l.drop (l.length - 4)) = cs (l.take (l.length - 4)) := by simpa [chk] using hc
  obtain ⟨n, hn⟩ : ∃ n, n = l.length - 4 := ⟨_, rfl⟩
  rw [← hn] at hbe ⊢
  have hln : (l.take n).length = n := by rw [List.length_take]; omega
  have hnum : (l.drop n).take 4 = l.drop n := List.take_of_length_le (by rw [List.length_drop]; omega)
  have hdn : (l.drop n).drop 4 = [] := List.drop_of_length_le (by rw [List.length_drop]; omega)
  have hcs := cs_lt (l.take n)
  have H := Lib.hid h
  have HBE := Lib.hid hbe
  have HNUM := Lib.hid hnum
  have HDN := Lib.hid hdn
  have HLN := Lib.hid hln
  have en : (l.length : Int) - 4 = (n : Int) := by omega
  have hn1 : n + 4 ≤ l.length := by omega
  have hn2 : l.length ≤ n + 4 := by omega
  clear hn
  obtain ⟨z, hz⟩ : ∃ z, z = cs (l.take n) := ⟨_, rfl⟩
  rw [← hz] at hcs
  have HZ := Lib.hid hz
  have hz64 : (z : Int) % 18446744073709551616 = z := by omega
  have hnn := bne_f (a := (z : Int)) (b := (z : Int)) rfl
  clear h hc hbe hln hnum hdn hz
  go_enter Tryd.func11, Tryd.ntmps11
  go_wp2_with fail
  refine (rdnew_c A c l S _ H.out hl).mono ?_
  rintro e w1 ⟨g, B, rfl, hge, hrd, hx1⟩
  have HX1 := Lib.hid hx1
  have HRD := Lib.hid hrd
  clear hx1 hrd
  go_wp2_with fail
  refine (left_c _ HRD.out).mono ?_
  rintro e w1' ⟨rfl, rfl⟩
  go_wp2_with fail
  refine (take_c n _ HRD.out (NoRd.u8 _ _) hl (by omega)).mono ?_
  rintro e w2 ⟨D, d, rfl, hD, hr2, hg2⟩
  rw [HLN.out]
  have HD := Lib.hid hD
  have HR2 := Lib.hid hr2
  have HX2 := Lib.hid (grown_new HX1.out hg2 (fun g' hg' => by simp at hg'; omega))
  clear hD hr2
  go_wp2_with fail
  refine (num_c 4 _ HR2.out (NoRd.u8 _ _) ⟨by omega, by omega⟩ (by rw [List.length_drop]; omega)).mono ?_
  rintro e w3 ⟨rfl, hr3, hg3⟩
  rw [HNUM.out, HBE.out, ← HZ.out]
  rw [HDN.out] at hr3
  have hD3 : OwnB w3 5 w1.heap.size D d (l.take n) := by
    obtain ⟨cs0, hcs0⟩ := HR2.out.at_
    exact HD.out.far hg3 hcs0 (by decide)
  have HD3 := Lib.hid hD3
  have HR3 := Lib.hid hr3
  have HX3 := Lib.hid (grown_new HX2.out hg3 (fun g' hg' => by simp at hg'; omega))
  have hsum := sum1_c D d (l.take n) _ w3 hD3.rb (by rw [HLN.out]; omega)
  rw [HLN.out, ← HZ.out] at hsum
  have HSUM := Lib.hid hsum
  clear hr3 hg3 hg2 hD3 hsum
  go_wp2_with fail
  refine (done_c _ HR3.out).mono ?_
  rintro e w3' ⟨rfl, rfl⟩
  go_wp2_with fail
  refine HSUM.out.mono ?_
  rintro e w4 ⟨rfl, hx4⟩
  have HX4 := Lib.hid (HX3.out.tr hx4)
  have HD4 := Lib.hid (HD3.out.ext hx4)
  clear hx4
  go_wp2_with fail
  go_ret2
  exact ⟨D, d, by rw [HLN.out]; rfl, HD4.out.less HX1.out.size, HX4.out⟩

set_option maxHeartbeats 1000000 in
theorem check_no (A : Option Addr) (c : Nat) (l : List UInt8) (S : Nat → TypeId → Prop) (w : World) (h : RB w S A l) (hl : l.length ≤ 140737488355328) (hc : chk l = false) :
    Calls Tryd.prog 11 #[.slice A l.length c] w fun e w' => e = .returned (.tuple #[.slice none 0 0, .bool false]) ∧ Ext w w' := by
  have H := Lib.hid h
  clear h
  by_cases h4 : 4 ≤ l.length
  · obtain ⟨n, hn⟩ : ∃ n, n = l.length - 4 := ⟨_, rfl⟩
    have hbe : ¬ be (l.drop n) = cs (l.take n) := by
      rw [hn]
      intro e
      unfold chk at hc
      rw [e] at hc
      simp [h4] at hc
    have hln : (l.take n).length = n := by rw [List.length_take]; omega
    have hnum : (l.drop n).take 4 = l.drop n := List.take_of_length_le (by rw [List.length_drop]; omega)
    have hdn : (l.drop n).drop 4 = [] := List.drop_of_length_le (by rw [List.length_drop]; omega)
    have hcs := cs_lt (l.take n)
    have hbl := be_lt (l.drop n)
    rw [List.length_drop, show l.length - n = 4 by omega] at hbl
    have HNUM := Lib.hid hnum
    have HDN := Lib.hid hdn
    have HLN := Lib.hid hln
    have en : (l.length : Int) - 4 = (n : Int) := by omega
    have hn1 : n + 4 ≤ l.length := by omega
    have hn2 : l.length ≤ n + 4 := by omega
    clear hn
    obtain ⟨z, hz⟩ : ∃ z, z = cs (l.take n) := ⟨_, rfl⟩
    obtain ⟨y, hy⟩ : ∃ y, y = be (l.drop n) := ⟨_, rfl⟩
    rw [← hz, ← hy] at hbe
    rw [← hz] at hcs
    rw [← hy] at hbl
    have HZ := Lib.hid hz
    have HY := Lib.hid hy
    have hz64 : (z : Int) % 18446744073709551616 = z := by omega
    have hnn := bne_t (a := (y : Int)) (b := (z : Int)) (by omega)
    clear hc hln hnum hdn hz hy hbe
    go_enter Tryd.func11, Tryd.ntmps11
    go_wp2_with fail
    refine (rdnew_c A c l S _ H.out hl).mono ?_
    rintro e w1 ⟨g, B, rfl, hge, hrd, hx1⟩
    have HX1 := Lib.hid hx1
    have HRD := Lib.hid hrd
    clear hx1 hrd
    go_wp2_with fail
    refine (left_c _ HRD.out).mono ?_
    rintro e w1' ⟨rfl, rfl⟩
    go_wp2_with fail
    refine (take_c n _ HRD.out (NoRd.u8 _ _) hl (by omega)).mono ?_
    rintro e w2 ⟨D, d, rfl, hD, hr2, hg2⟩
    rw [HLN.out]
    have HD := Lib.hid hD
    have HR2 := Lib.hid hr2
    have HX2 := Lib.hid (grown_new HX1.out hg2 (fun g' hg' => by simp at hg'; omega))
    clear hD hr2
    go_wp2_with fail
    refine (num_c 4 _ HR2.out (NoRd.u8 _ _) ⟨by omega, by omega⟩ (by rw [List.length_drop]; omega)).mono ?_
    rintro e w3 ⟨rfl, hr3, hg3⟩
    rw [HNUM.out, ← HY.out]
    rw [HDN.out] at hr3
    have hD3 : OwnB w3 5 w1.heap.size D d (l.take n) := by
      obtain ⟨cs0, hcs0⟩ := HR2.out.at_
      exact HD.out.far hg3 hcs0 (by decide)
    have HR3 := Lib.hid hr3
    have HX3 := Lib.hid (grown_new HX2.out hg3 (fun g' hg' => by simp at hg'; omega))
    have hsum := sum1_c D d (l.take n) _ w3 hD3.rb (by rw [HLN.out]; omega)
    rw [HLN.out, ← HZ.out] at hsum
    have HSUM := Lib.hid hsum
    clear hr3 hg3 hg2 hD3 hsum
    go_wp2_with fail
    refine (done_c _ HR3.out).mono ?_
    rintro e w3' ⟨rfl, rfl⟩
    go_wp2_with fail
    refine HSUM.out.mono ?_
    rintro e w4 ⟨rfl, hx4⟩
    have HX4 := Lib.hid (HX3.out.tr hx4)
    clear hx4
    go_wp2_with fail
    go_ret2
    exact ⟨rfl, HX4.out⟩
  · clear hc
    go_enter Tryd.func11, Tryd.ntmps11
    go_wp2_with fail
    refine (rdnew_c A c l S _ H.out hl).mono ?_
    rintro e w1 ⟨g, B, rfl, hge, hrd, hx1⟩
    have HX1 := Lib.hid hx1
    have HRD := Lib.hid hrd
    clear hx1 hrd
    go_wp2_with fail
    refine (left_c _ HRD.out).mono ?_
    rintro e w1' ⟨rfl, rfl⟩
    go_wp2_with fail
    refine (take_no ((l.length : Int) - 4) _ HRD.out ⟨by omega, by omega⟩ (.inr (.inl (by omega)))).mono ?_
    rintro e w2 ⟨rfl, hr2, hg2⟩
    have HR2 := Lib.hid hr2
    have HX2 := Lib.hid (grown_new HX1.out hg2 (fun g' hg' => by simp at hg'; omega))
    clear hr2
    go_wp2_with fail
    refine (num_no 4 _ HR2.out (.inl rfl)).mono ?_
    rintro e w3 ⟨rfl, hr3, hg3⟩
    have HR3 := Lib.hid hr3
    have HX3 := Lib.hid (grown_new HX2.out hg3 (fun g' hg' => by simp at hg'; omega))
    clear hr3
    go_wp2_with fail
    refine (done_c _ HR3.out).mono ?_
    rintro e w3' ⟨rfl, rfl⟩
    go_wp2_with fail
    go_ret2
    exact ⟨rfl, HX3.out⟩
end Go.Proofs.YtpfognoabboheaaDoor
