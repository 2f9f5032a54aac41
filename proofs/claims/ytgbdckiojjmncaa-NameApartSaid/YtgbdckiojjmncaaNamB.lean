/-
  Names checked: the package's Valid; the reference's Word and Valid, Few.
-/
import Derived.Test.YtgbdckiojjmncaaNamA
namespace Go.Proofs.Ytgbdckiojjmncaa
open Go.RowKit

/-- a name as a value -/
def nv (s : ByteArray) (A : Option Addr) (n c : Nat) : Value := .agg #[.string s, .slice A n c]
theorem all_bls {p : List UInt8 → Bool} (ss : List ByteArray) {k : Nat} (hk : k < ss.length) (h : ((bls ss).take k).all p = true) : ((bls ss).take (k + 1)).all p = p (bl ss[k]) := by
  have hk' : k < (bls ss).length := by rw [bls_len]; exact hk
  rw [List.take_succ_eq_append_getElem hk', List.all_append, h, bls_get hk]
  simp
theorem all_bls_not {p : List UInt8 → Bool} (ss : List ByteArray) {k : Nat} (hk : k < ss.length) (h : p (bl ss[k]) = false) : (bls ss).all p = false := by
  rw [List.all_eq_false]
  exact ⟨bl ss[k], by rw [← bls_get hk]; exact List.getElem_mem _, by rw [h]; decide⟩
theorem vl_none {r : List UInt8} {ps : List (List UInt8)} (h : ps.length < 1) : vl r ps = false := by
  unfold vl
  rw [decide_eq_false (by omega), Bool.false_and, Bool.false_and, Bool.false_and]
theorem vl_many {r : List UInt8} {ps : List (List UInt8)} (h : 8 < ps.length) : vl r ps = false := by
  unfold vl
  rw [decide_eq_false (show ¬ ps.length ≤ 8 by omega), Bool.and_false, Bool.false_and, Bool.false_and]
theorem vl_some {r : List UInt8} {ps : List (List UInt8)} (h1 : 1 ≤ ps.length) (h2 : ps.length ≤ 8) : vl r ps = (ps.all wd && wd r) := by
  unfold vl
  rw [decide_eq_true h1, decide_eq_true h2, Bool.true_and, Bool.true_and]

set_option maxRecDepth 100000 in
set_option maxHeartbeats 1000000 in
theorem valid_c (s : ByteArray) (A : Option Addr) (c : Nat) (ss : List ByteArray) (S : Nat → TypeId → Prop) (w : World) (h : SR w S A ss) (hs : s.size ≤ 9223372036854775807) (hz : ∀ t ∈ ss, t.size ≤ 9223372036854775807) (hn : ss.length ≤ 9223372036854775807) :
    Calls Try.prog 11 #[.agg #[.string s, .slice A ss.length c]] w fun e w' => e = .returned (.bool (vl (bl s) (bls ss))) ∧ Ext w w' := by
  have H := Lib.hid h
  have HZ := Lib.hid hz
  clear h hz
  by_cases h1 : ss.length < 1
  · have e := vl_none (r := bl s) (ps := bls ss) (by rw [bls_len]; exact h1)
    rw [e]
    have t1 : (ss.length : Int) < 1 := by omega
    clear e
    go_enter Try.func11, Try.ntmps11
    go_wp2_with fail
    go_ret
    exact ⟨rfl, Ext.alloc _ _⟩
  · have t1 : (1 : Int) ≤ (ss.length : Int) := by omega
    by_cases h2 : 8 < ss.length
    · have e := vl_many (r := bl s) (ps := bls ss) (by rw [bls_len]; exact h2)
      rw [e]
      have t2 : (8 : Int) < (ss.length : Int) := by omega
      clear e
      go_enter Try.func11, Try.ntmps11
      go_wp2_with fail
      go_ret
      exact ⟨rfl, Ext.alloc _ _⟩
    · have t2 : (ss.length : Int) ≤ 8 := by omega
      have e := vl_some (r := bl s) (ps := bls ss) (by rw [bls_len]; omega) (by rw [bls_len]; omega)
      rw [e]
      clear e
      obtain ⟨wo, hwo⟩ : ∃ wo : World, wo = w.alloc (.cells #[.string s, .slice A ss.length c] 24) := ⟨_, rfl⟩
      have hd : wo.heap[w.heap.size]? = some (.cells #[.string s, .slice A ss.length c] 24 (0, 0)) := by rw [hwo]; exact new_of _ _
      have hx0 : Ext w wo := by rw [hwo]; exact Ext.alloc _ _
      have HD := Lib.hid hd
      have HX0 := Lib.hid hx0
      have HW := Lib.hid hwo
      clear hd hx0 hwo
      go_enter Try.func11, Try.ntmps11
      go_wp2_with fail
      rw [← HW.out]
      go_loopw [4, 18] (fun _ i wr => ∃ k : Nat, k ≤ ss.length ∧ i = .int .i64 k ∧ ((bls ss).take k).all wd = true ∧ Ext wo wr) (fun _ i _ => ss.length - (intOf i).toNat)
      case atStart => exact ⟨0, Nat.zero_le _, rfl, by simp, Ext.refl _⟩
      case round =>
        obtain ⟨k, hk, rfl, hall, hx⟩ := hrel
        have HA := Lib.hid hall
        have HX := Lib.hid hx
        clear hall hx
        by_cases hlt : k < ss.length
        · obtain ⟨g, off, rfl, hc⟩ := (H.out.ext (HX0.out.tr HX.out)).cell hlt
          have hsz := HZ.out ss[k] (List.getElem_mem _)
          have h1' := all_bls ss hlt HA.out
          have h2' := fun h => all_bls_not (p := wd) ss hlt h
          obtain ⟨t, ht⟩ : ∃ t, t = ss[k] := ⟨_, rfl⟩
          rw [← ht] at hc hsz h1' h2'
          have H1 := Lib.hid h1'
          have H2 := Lib.hid h2'
          clear ht h1' h2'
          by_cases hwd : wd (bl t) = true
          · have hcw := isWord_c t wr hsz
            rw [hwd] at hcw H1
            have HCW := Lib.hid hcw
            clear hcw hwd
            go_wp2_with fail
            refine HCW.out.mono ?_
            rintro e w1 ⟨rfl, hx1⟩
            go_wp2_with fail
            go_roundw
            case rel => exact ⟨k + 1, by omega, by go_num, H1.out, HX.out.tr hx1⟩
            case measure => simp [intOf]; omega
          · have hwd' : wd (bl t) = false := by simpa using hwd
            have hcw := isWord_c t wr hsz
            rw [hwd'] at hcw
            have HCW := Lib.hid hcw
            have HF := Lib.hid (H2.out hwd')
            clear hcw hwd hwd'
            go_wp2_with fail
            refine HCW.out.mono ?_
            rintro e w1 ⟨rfl, hx1⟩
            go_wp2_with fail
            go_ret
            exact ⟨by rw [HF.out]; rfl, (HX0.out.tr HX.out).tr hx1⟩
        · have c0 : wr.cell? ⟨w.heap.size, 0, none⟩ = some (.string s) := cells_of (HX.out.get HD.out) 0
          have hall : (bls ss).all wd = true := by
            have := HA.out
            rw [List.take_of_length_le (by rw [bls_len]; omega)] at this
            exact this
          have HL := Lib.hid hall
          clear hall
          go_wp2_with fail
          refine (isWord_c s wr hs).mono ?_
          rintro e w1 ⟨rfl, hx1⟩
          go_wp2_with fail
          go_ret
          exact ⟨by rw [HL.out, Bool.true_and]; rfl, (HX0.out.tr HX.out).tr hx1⟩

set_option maxRecDepth 100000 in
set_option maxHeartbeats 1000000 in
theorem rword_c (s : ByteArray) (w : World) (hs : s.size ≤ 9223372036854775807) : Calls Try.prog 31 #[.string s] w fun e w' => e = .returned (.bool (wd (bl s))) ∧ w = w' := by
  go_enter Try.func31, Try.ntmps31
  go_wp2_with fail
  go_loop [3] (fun i => ∃ k : Nat, k ≤ s.size ∧ i = .int .i64 k ∧ ((bl s).take k).all wb = true) (fun i => s.size - (intOf i).toNat)
  case atStart => exact ⟨0, Nat.zero_le _, rfl, by simp⟩
  case round =>
    obtain ⟨k, hk, rfl, hall⟩ := hrel
    have HA := Lib.hid hall
    clear hall
    by_cases hlt : k < s.size
    · have hp' : k < (bl s).length := by rw [bl_len]; exact hlt
      have hg := bl_get hlt
      have h1' := all_take (p := wb) (bl s) hp' HA.out
      have h2' := fun h => all_not (p := wb) (bl s) hp' h
      rw [hg] at h1' h2'
      obtain ⟨b, hb⟩ : ∃ b, s[k]'hlt = b := ⟨_, rfl⟩
      rw [hb] at h1' h2'
      have H1 := Lib.hid h1'
      have H2 := Lib.hid h2'
      clear h1' h2' hg
      by_cases q1 : b.toNat < 33
      · have t3 : (b.toNat : Int) < 33 := by omega
        have HW := Lib.hid (H2.out (wb_f (.inl q1)))
        clear q1
        go_wp2_with fail
        go_ret
        refine ⟨?_, rfl⟩
        rw [wd, HW.out, Bool.and_false]
        rfl
      · have t3 : (33 : Int) ≤ (b.toNat : Int) := by omega
        by_cases q2 : 126 < b.toNat
        · have t4 : (126 : Int) < (b.toNat : Int) := by omega
          have HW := Lib.hid (H2.out (wb_f (.inr q2)))
          clear q1 q2
          go_wp2_with fail
          go_ret
          refine ⟨?_, rfl⟩
          rw [wd, HW.out, Bool.and_false]
          rfl
        · have t4 : (b.toNat : Int) ≤ 126 := by omega
          have HW := Lib.hid (H1.out.trans (wb_t (by omega) (by omega)))
          clear q1 q2
          go_wp2_with fail
          go_round
          case rel => exact ⟨k + 1, by omega, by go_num, HW.out⟩
          case measure => simp [intOf]; omega
    · have hw : (bl s).all wb = true := by
        have := HA.out
        rw [List.take_of_length_le (by rw [bl_len]; omega)] at this
        exact this
      have HW := Lib.hid hw
      have hl := bl_len s
      have HL := Lib.hid hl
      clear hw hl
      by_cases q1 : 1 ≤ s.size
      · have t1 : (1 : Int) ≤ (s.size : Int) := by omega
        go_wp2_with fail
        go_ret
        refine ⟨?_, rfl⟩
        rw [wd, HW.out, HL.out, decide_eq_true q1, Bool.and_true, Bool.true_and]
        show Ending.returned (Value.bool (decide ((s.size : Int) ≤ 100))) = _
        congr 2
        exact decide_eq_decide.2 (by omega)
      · have t1 : (s.size : Int) < 1 := by omega
        go_wp2_with fail
        go_ret
        refine ⟨?_, rfl⟩
        rw [wd, HW.out, HL.out, decide_eq_false q1]
        rfl

set_option maxRecDepth 100000 in
set_option maxHeartbeats 1000000 in
theorem rvalid_c (s : ByteArray) (A : Option Addr) (c : Nat) (ss : List ByteArray) (S : Nat → TypeId → Prop) (w : World) (h : SR w S A ss) (hs : s.size ≤ 9223372036854775807) (hz : ∀ t ∈ ss, t.size ≤ 9223372036854775807) (hn : ss.length ≤ 9223372036854775807) :
    Calls Try.prog 12 #[.agg #[.string s, .slice A ss.length c]] w fun e w' => e = .returned (.bool (vl (bl s) (bls ss))) ∧ Ext w w' := by
  have H := Lib.hid h
  have HZ := Lib.hid hz
  clear h hz
  obtain ⟨wo, hwo⟩ : ∃ wo : World, wo = w.alloc (.cells #[.string s, .slice A ss.length c] 24) := ⟨_, rfl⟩
  have hd : wo.heap[w.heap.size]? = some (.cells #[.string s, .slice A ss.length c] 24 (0, 0)) := by rw [hwo]; exact new_of _ _
  have hx0 : Ext w wo := by rw [hwo]; exact Ext.alloc _ _
  have c0 : wo.cell? ⟨w.heap.size, 0, none⟩ = some (.string s) := cells_of hd 0
  have c1 : wo.cell? ⟨w.heap.size, 1, none⟩ = some (.slice A ss.length c) := cells_of hd 1
  have HX0 := Lib.hid hx0
  have HW := Lib.hid hwo
  clear hd hx0 hwo
  go_enter Try.func12, Try.ntmps12
  go_wp2_with fail
  rw [← HW.out]
  go_loopw [3] (fun i wr => ∃ k : Nat, k ≤ ss.length ∧ i = .int .i64 k ∧ ((bls ss).take k).all wd = true ∧ wr = wo) (fun i _ => ss.length - (intOf i).toNat)
  case atStart => exact ⟨0, Nat.zero_le _, rfl, by simp, rfl⟩
  case round =>
    obtain ⟨k, hk, rfl, hall, rfl⟩ := hrel
    have HA := Lib.hid hall
    clear hall
    by_cases hlt : k < ss.length
    · obtain ⟨g, off, rfl, hc⟩ := (H.out.ext HX0.out).cell hlt
      have hsz := HZ.out ss[k] (List.getElem_mem _)
      have h1' := all_bls ss hlt HA.out
      have h2' := fun h => all_bls_not (p := wd) ss hlt h
      obtain ⟨t, ht⟩ : ∃ t, t = ss[k] := ⟨_, rfl⟩
      rw [← ht] at hc hsz h1' h2'
      have H1 := Lib.hid h1'
      have H2 := Lib.hid h2'
      clear ht h1' h2'
      by_cases hwd : wd (bl t) = true
      · have hcw := rword_c t wr hsz
        rw [hwd] at hcw H1
        have HCW := Lib.hid hcw
        clear hcw hwd
        go_wp2_with fail
        refine HCW.out.mono ?_
        rintro e w1 ⟨rfl, rfl⟩
        go_wp2_with fail
        go_roundw
        case rel => exact ⟨k + 1, by omega, by go_num, H1.out, by first | rfl | trivial⟩
        case measure => simp [intOf]; omega
      · have hwd' : wd (bl t) = false := by simpa using hwd
        have hcw := rword_c t wr hsz
        rw [hwd'] at hcw
        have HCW := Lib.hid hcw
        have HF := Lib.hid (H2.out hwd')
        clear hcw hwd hwd'
        go_wp2_with fail
        refine HCW.out.mono ?_
        rintro e w1 ⟨rfl, rfl⟩
        go_wp2_with fail
        go_ret
        refine ⟨?_, HX0.out⟩
        rw [vl, HF.out, Bool.and_false, Bool.false_and]
        rfl
    · have hall : (bls ss).all wd = true := by
        have := HA.out
        rw [List.take_of_length_le (by rw [bls_len]; omega)] at this
        exact this
      have HL := Lib.hid hall
      have HB := Lib.hid (bls_len ss)
      clear hall
      have hcw := rword_c s wr hs
      by_cases hwd : wd (bl s) = true
      · rw [hwd] at hcw
        have HCW := Lib.hid hcw
        have HWD := Lib.hid hwd
        clear hcw hwd
        by_cases q1 : 0 < ss.length
        · have t1 : (0 : Int) < (ss.length : Int) := by omega
          go_wp2_with fail
          refine HCW.out.mono ?_
          rintro e w1 ⟨rfl, rfl⟩
          go_wp2_with fail
          go_ret
          refine ⟨?_, HX0.out⟩
          show Ending.returned (Value.bool (decide ((ss.length : Int) < 9))) = _
          by_cases q2 : ss.length < 9
          · rw [vl_some (by rw [HB.out]; omega) (by rw [HB.out]; omega), HL.out, HWD.out, decide_eq_true (by omega)]
            rfl
          · rw [vl_many (by rw [HB.out]; omega), decide_eq_false (by omega)]
        · have t1 : (ss.length : Int) ≤ 0 := by omega
          go_wp2_with fail
          refine HCW.out.mono ?_
          rintro e w1 ⟨rfl, rfl⟩
          go_wp2_with fail
          go_ret
          refine ⟨?_, HX0.out⟩
          rw [vl_none (by rw [HB.out]; omega)]
          rfl
      · have hwd' : wd (bl s) = false := by simpa using hwd
        rw [hwd'] at hcw
        have HCW := Lib.hid hcw
        have HWD := Lib.hid hwd'
        clear hcw hwd hwd'
        go_wp2_with fail
        refine HCW.out.mono ?_
        rintro e w1 ⟨rfl, rfl⟩
        go_wp2_with fail
        go_ret
        refine ⟨?_, HX0.out⟩
        rw [vl, HWD.out, Bool.and_false]
        rfl

/-- a small name -/
def few (s : ByteArray) (ss : List ByteArray) : Bool := ss.all (fun t => decide (t.size ≤ 300)) && (decide (s.size ≤ 300) && decide (ss.length ≤ 20))
set_option maxRecDepth 100000 in
set_option maxHeartbeats 1000000 in
theorem few_c (s : ByteArray) (A : Option Addr) (c : Nat) (ss : List ByteArray) (S : Nat → TypeId → Prop) (w : World) (h : SR w S A ss) (hn : ss.length ≤ 9223372036854775807) :
    Calls Try.prog 8 #[.agg #[.string s, .slice A ss.length c]] w fun e w' => e = .returned (.bool (few s ss)) ∧ Ext w w' := by
  have H := Lib.hid h
  clear h
  obtain ⟨wo, hwo⟩ : ∃ wo : World, wo = w.alloc (.cells #[.string s, .slice A ss.length c] 24) := ⟨_, rfl⟩
  have hd : wo.heap[w.heap.size]? = some (.cells #[.string s, .slice A ss.length c] 24 (0, 0)) := by rw [hwo]; exact new_of _ _
  have hx0 : Ext w wo := by rw [hwo]; exact Ext.alloc _ _
  have c0 : wo.cell? ⟨w.heap.size, 0, none⟩ = some (.string s) := cells_of hd 0
  have c1 : wo.cell? ⟨w.heap.size, 1, none⟩ = some (.slice A ss.length c) := cells_of hd 1
  have HX0 := Lib.hid hx0
  have HW := Lib.hid hwo
  clear hd hx0 hwo
  go_enter Try.func8, Try.ntmps8
  go_wp2_with fail
  rw [← HW.out]
  go_loopw [3] (fun i wr => ∃ k : Nat, k ≤ ss.length ∧ i = .int .i64 k ∧ ((ss.take k).all (fun t => decide (t.size ≤ 300))) = true ∧ wr = wo) (fun i _ => ss.length - (intOf i).toNat)
  case atStart => exact ⟨0, Nat.zero_le _, rfl, by simp, rfl⟩
  case round =>
    obtain ⟨k, hk, rfl, hall, rfl⟩ := hrel
    have HA := Lib.hid hall
    clear hall
    by_cases hlt : k < ss.length
    · obtain ⟨g, off, rfl, hc⟩ := (H.out.ext HX0.out).cell hlt
      have h1' : (ss.take (k + 1)).all (fun t => decide (t.size ≤ 300)) = decide (ss[k].size ≤ 300) := by
        rw [List.take_succ_eq_append_getElem hlt, List.all_append, HA.out]
        simp
      have h2' : decide (ss[k].size ≤ 300) = false → ss.all (fun t => decide (t.size ≤ 300)) = false := fun h => by
        rw [List.all_eq_false]
        exact ⟨ss[k], List.getElem_mem _, by rw [h]; decide⟩
      obtain ⟨t, ht⟩ : ∃ t, t = ss[k] := ⟨_, rfl⟩
      rw [← ht] at hc h1' h2'
      have H1 := Lib.hid h1'
      have H2 := Lib.hid h2'
      clear ht h1' h2'
      by_cases q : t.size ≤ 300
      · have t1 : (t.size : Int) ≤ 300 := by omega
        have HQ := Lib.hid (H1.out.trans (decide_eq_true q))
        clear q
        go_wp2_with fail
        go_roundw
        case rel => exact ⟨k + 1, by omega, by go_num, HQ.out, by first | rfl | trivial⟩
        case measure => simp [intOf]; omega
      · have t1 : (300 : Int) < (t.size : Int) := by omega
        have HF := Lib.hid (H2.out (decide_eq_false q))
        clear q
        go_wp2_with fail
        go_ret
        refine ⟨?_, HX0.out⟩
        rw [few, HF.out, Bool.false_and]
        rfl
    · have hall : ss.all (fun t => decide (t.size ≤ 300)) = true := by
        have := HA.out
        rw [List.take_of_length_le (by omega)] at this
        exact this
      have HL := Lib.hid hall
      clear hall
      by_cases q : s.size ≤ 300
      · have t1 : (s.size : Int) ≤ 300 := by omega
        have HQ := Lib.hid (decide_eq_true q)
        clear q
        go_wp2_with fail
        go_ret
        refine ⟨?_, HX0.out⟩
        rw [few, HL.out, HQ.out, Bool.true_and, Bool.true_and]
        show Ending.returned (Value.bool (decide ((ss.length : Int) ≤ 20))) = _
        congr 2
        exact decide_eq_decide.2 (by omega)
      · have t1 : (300 : Int) < (s.size : Int) := by omega
        have HQ := Lib.hid (decide_eq_false q)
        clear q
        go_wp2_with fail
        go_ret
        refine ⟨?_, HX0.out⟩
        rw [few, HQ.out, Bool.false_and, Bool.and_false]
        rfl
end Go.Proofs.Ytgbdckiojjmncaa
