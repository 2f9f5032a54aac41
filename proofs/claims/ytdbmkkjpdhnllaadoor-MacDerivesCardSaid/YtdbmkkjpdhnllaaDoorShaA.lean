/-
  Package sha: rotations, the words of a block, a block.
-/
import Derived.Test.YtdbmkkjpdhnllaaDoorShaM
import Derived.Test.YtdbmkkjpdhnllaaDoorArr
import Derived.BigRegion
namespace Go.Proofs.YtdbmkkjpdhnllaaDoor
open Go.RowKit

theorem ret_u32 {a b : Int} (h : a = b) : Ending.returned (.int .u32 a) = .returned (.int .u32 b) := by rw [h]
theorem rot_count (n : Nat) (h1 : 1 ≤ n) (h2 : n ≤ 31) : bits .and .u64 (IntKind.u64.wrap (-(n : Int))) 31 = 32 - (n : Int) := by
  have e : IntKind.u64.wrap (-(n : Int)) = ((18446744073709551616 - n : Nat) : Int) := by
    rw [IntKind.wrap_u64]; omega
  rw [e, show (31 : Int) = ((31 : Nat) : Int) from rfl, u64_and_nat _ _ (by omega) (by omega)]
  have h : (18446744073709551616 - n) &&& 31 = (18446744073709551616 - n) % 32 := Nat.and_two_pow_sub_one_eq_mod _ 5
  rw [h]
  omega
theorem rr_int (x n : Nat) (hx : x < 4294967296) : bits .or .u32 ((x : Int) * 2 ^ (32 - n) % 4294967296) ((x : Int) / 2 ^ n) = (rr x n : Nat) := by
  have e1 : (x : Int) * 2 ^ (32 - n) % 4294967296 = ((x * 2 ^ (32 - n) % 4294967296 : Nat) : Int) := by
    rw [Int.natCast_emod, Int.natCast_mul, Int.natCast_pow]; rfl
  have e2 : (x : Int) / 2 ^ n = ((x / 2 ^ n : Nat) : Int) := by
    rw [Int.natCast_ediv, Int.natCast_pow]; rfl
  rw [e1, e2, u32_or_nat _ _ (Nat.mod_lt _ (by decide)) (Nat.lt_of_le_of_lt (Nat.div_le_self _ _) hx)]
  rfl
theorem rr_int' (x n : Nat) (hx : x < 4294967296) : bits .or .u32 ((x : Int) / 2 ^ n) ((x : Int) * 2 ^ (32 - n) % 4294967296) = (rr x n : Nat) := by
  rw [← rr_int x n hx]
  have e1 : (x : Int) * 2 ^ (32 - n) % 4294967296 = ((x * 2 ^ (32 - n) % 4294967296 : Nat) : Int) := by
    rw [Int.natCast_emod, Int.natCast_mul, Int.natCast_pow]; rfl
  have e2 : (x : Int) / 2 ^ n = ((x / 2 ^ n : Nat) : Int) := by
    rw [Int.natCast_ediv, Int.natCast_pow]; rfl
  rw [e1, e2, u32_or_nat _ _ (Nat.mod_lt _ (by decide)) (Nat.lt_of_le_of_lt (Nat.div_le_self _ _) hx), u32_or_nat _ _ (Nat.lt_of_le_of_lt (Nat.div_le_self _ _) hx) (Nat.mod_lt _ (by decide)), Nat.or_comm]

set_option maxHeartbeats 400000 in
theorem rotl_c (x n : Nat) (hx : x < 4294967296) (h1 : 1 ≤ n) (h2 : n ≤ 31) (w : World) :
    Calls Tryd.prog 36 #[.int .u32 x, .int .i64 (-(n : Int))] w fun e w' => e = .returned (.int .u32 (rr x n : Nat)) ∧ w = w' := by
  have e := rot_count n h1 h2
  have H := Lib.hid (rr_int x n hx)
  have h3 : 0 ≤ 32 - (n : Int) := by omega
  go_enter Tryd.func36, Tryd.ntmps36
  go_wp2
  go_ret
  exact ⟨ret_u32 (by rw [show 32 - (32 - n) = n by omega]; exact H.out), rfl⟩
set_option maxHeartbeats 400000 in
theorem rrot_c (x n : Nat) (hx : x < 4294967296) (h1 : 1 ≤ n) (h2 : n ≤ 31) (w : World) :
    Calls Tryd.prog 33 #[.int .u32 x, .int .u64 (n : Int)] w fun e w' => e = .returned (.int .u32 (rr x n : Nat)) ∧ w = w' := by
  have H := Lib.hid (rr_int' x n hx)
  go_enter Tryd.func33, Tryd.ntmps33
  go_wp2
  go_ret
  exact ⟨ret_u32 H.out, rfl⟩
theorem or_byte (x c : Nat) (hx : x < 16777216) (hc : c < 256) : bits .or .u32 ((x : Int) * 256 % 4294967296) ((c : Int) % 4294967296) = ((x * 256 + c : Nat) : Int) := by
  have e1 : (x : Int) * 256 % 4294967296 = ((x * 256 : Nat) : Int) := by omega
  have e2 : (c : Int) % 4294967296 = ((c : Nat) : Int) := by omega
  rw [e1, e2, u32_or_nat _ _ (by omega) (by omega)]
  have h := Nat.two_pow_add_eq_or_of_lt (i := 8) (b := c) (by omega) x
  rw [show x * 256 + c = 2 ^ 8 * x + c by omega, h, Nat.mul_comm x 256]
theorem Arr.to {w : World} {g : Nat} {t : TypeId} {k : IntKind} {n : Nat} {f f' : Nat → Nat} (h : Arr w g t k n f) {i : Nat} (hi : i < n) {v : Int} (hv : v = (f' i : Nat)) (hf : ∀ j, j < n → j ≠ i → f j = f' j) : Arr (w.setCell ⟨g, i, none⟩ (.int k v)) g t k n f' := by
  subst hv
  refine (h.set_ (v := f' i) hi).congr fun j hj => ?_
  by_cases e : j = i
  · subst e; simp
  · simp [e, hf j hj e]
theorem cast_div (x k : Nat) : (x : Int) / (k : Int) = ((x / k : Nat) : Int) := (Int.natCast_ediv x k).symm
theorem sg0_int (x : Nat) (h : x < 4294967296) : bits .xor .u32 (bits .xor .u32 (rr x 7 : Nat) (rr x 18 : Nat)) ((x : Int) / 8) = (sg0 x : Nat) := by
  rw [u32_xor_nat _ _ (rr_lt h _) (rr_lt h _), show (x : Int) / 8 = ((x / 8 : Nat) : Int) from cast_div x 8, u32_xor_nat _ _ (xor_lt (rr_lt h _) (rr_lt h _)) (by omega)]
  rfl
theorem sg1_int (x : Nat) (h : x < 4294967296) : bits .xor .u32 (bits .xor .u32 (rr x 17 : Nat) (rr x 19 : Nat)) ((x : Int) / 1024) = (sg1 x : Nat) := by
  rw [u32_xor_nat _ _ (rr_lt h _) (rr_lt h _), show (x : Int) / 1024 = ((x / 1024 : Nat) : Int) from cast_div x 1024, u32_xor_nat _ _ (xor_lt (rr_lt h _) (rr_lt h _)) (by omega)]
  rfl
theorem ad4 (a b c d : Nat) : ((ad (ad (ad a b) c) d : Nat) : Int) = ((a : Int) + b + c + d) % 4294967296 := by unfold ad; omega
theorem sched_sum (a c x y : Nat) (hx : x < 4294967296) (hy : y < 4294967296) :
    ((a : Int) + bits .xor .u32 (bits .xor .u32 (rr x 7 : Nat) (rr x 18 : Nat)) ((x : Int) / 8) + c + bits .xor .u32 (bits .xor .u32 (rr y 17 : Nat) (rr y 19 : Nat)) ((y : Int) / 1024)) % 4294967296 = (ad (ad (ad a (sg0 x)) c) (sg1 y) : Nat) := by
  rw [sg0_int x hx, sg1_int y hy, ad4]
theorem bs0_int (x : Nat) (h : x < 4294967296) : bits .xor .u32 (bits .xor .u32 (rr x 2 : Nat) (rr x 13 : Nat)) (rr x 22 : Nat) = (bs0 x : Nat) := by
  rw [u32_xor_nat _ _ (rr_lt h _) (rr_lt h _), u32_xor_nat _ _ (xor_lt (rr_lt h _) (rr_lt h _)) (rr_lt h _)]
  rfl
theorem bs1_int (x : Nat) (h : x < 4294967296) : bits .xor .u32 (bits .xor .u32 (rr x 6 : Nat) (rr x 11 : Nat)) (rr x 25 : Nat) = (bs1 x : Nat) := by
  rw [u32_xor_nat _ _ (rr_lt h _) (rr_lt h _), u32_xor_nat _ _ (xor_lt (rr_lt h _) (rr_lt h _)) (rr_lt h _)]
  rfl
theorem nt_xor (e : Nat) (h : e < 4294967296) : 4294967295 ^^^ e = 4294967295 - e := by
  have h1 : ((BitVec.allOnes 32) ^^^ (BitVec.ofNat 32 e)).toNat = (~~~ (BitVec.ofNat 32 e)).toNat := by rw [BitVec.allOnes_xor]
  rw [BitVec.toNat_xor, BitVec.toNat_not, BitVec.toNat_ofNat, Nat.mod_eq_of_lt h, BitVec.toNat_allOnes] at h1
  exact h1
theorem nt_int (e : Nat) (h : e < 4294967296) : bits .xor .u32 (if IntKind.u32.signed = true then -1 else IntKind.u32.max) (e : Int) = (nt e : Nat) := by
  have e1 : (if IntKind.u32.signed = true then -1 else IntKind.u32.max) = ((4294967295 : Nat) : Int) := by rfl
  rw [e1, u32_xor_nat _ _ (by decide) h]
  rw [nt_xor e h]
  rfl
theorem chs_int (e f g : Nat) (he : e < 4294967296) (hf : f < 4294967296) (hg : g < 4294967296) :
    bits .xor .u32 (bits .and .u32 (e : Int) (f : Int)) (bits .and .u32 (bits .xor .u32 (if IntKind.u32.signed = true then -1 else IntKind.u32.max) (e : Int)) (g : Int)) = (chs e f g : Nat) := by
  rw [nt_int e he, u32_and_nat _ _ he hf, u32_and_nat _ _ (nt_lt e) hg, u32_xor_nat _ _ (and_lt he) (and_lt (nt_lt e))]
  rfl
theorem maj_int (a b c : Nat) (ha : a < 4294967296) (hb : b < 4294967296) (hc : c < 4294967296) :
    bits .xor .u32 (bits .xor .u32 (bits .and .u32 (a : Int) (b : Int)) (bits .and .u32 (a : Int) (c : Int))) (bits .and .u32 (b : Int) (c : Int)) = (maj a b c : Nat) := by
  rw [u32_and_nat _ _ ha hb, u32_and_nat _ _ ha hc, u32_and_nat _ _ hb hc, u32_xor_nat _ _ (and_lt ha) (and_lt ha), u32_xor_nat _ _ (xor_lt (and_lt ha) (and_lt ha)) (and_lt hb)]
  rfl
theorem t_int (s : St) (hs : s.ok) (k x : Nat) :
    (((s.h : Int) + bits .xor .u32 (bits .xor .u32 (rr s.e 6 : Nat) (rr s.e 11 : Nat)) (rr s.e 25 : Nat) +
      bits .xor .u32 (bits .and .u32 (s.e : Int) (s.f : Int)) (bits .and .u32 (bits .xor .u32 (if IntKind.u32.signed = true then -1 else IntKind.u32.max) (s.e : Int)) (s.g : Int)) + (k : Int)) % 4294967296 + (x : Int)) % 4294967296 = (tOf s k x : Nat) := by
  rw [bs1_int s.e (hs 4), chs_int s.e s.f s.g (hs 4) (hs 5) (hs 6)]
  unfold tOf ad
  omega
theorem u_int (s : St) (hs : s.ok) :
    (bits .xor .u32 (bits .xor .u32 (rr s.a 2 : Nat) (rr s.a 13 : Nat)) (rr s.a 22 : Nat) + bits .xor .u32 (bits .xor .u32 (bits .and .u32 (s.a : Int) (s.b : Int)) (bits .and .u32 (s.a : Int) (s.c : Int))) (bits .and .u32 (s.b : Int) (s.c : Int))) % 4294967296 = (uOf s : Nat) := by
  rw [bs0_int s.a (hs 0), maj_int s.a s.b s.c (hs 0) (hs 1) (hs 2)]
  unfold uOf ad
  omega
set_option maxHeartbeats 400000 in
theorem rot_c (x n : Nat) (hx : x < 4294967296) (h1 : 1 ≤ n) (h2 : n ≤ 31) (w : World) :
    Calls Tryd.prog 35 #[.int .u32 x, .int .i64 (n : Int)] w fun e w' => e = .returned (.int .u32 (rr x n : Nat)) ∧ w = w' := by
  go_enter Tryd.func35, Tryd.ntmps35
  go_wp2_with (go_at_call 36; refine (rotl_c x n hx h1 h2 _).mono ?_; rintro e w' ⟨rfl, rfl⟩)
  go_ret
  exact ⟨rfl, rfl⟩

theorem rot_i (x n : Nat) (m : Int) (hm : m = n) (hx : x < 4294967296) (h1 : 1 ≤ n) (h2 : n ≤ 31) (w : World) :
    Calls Tryd.prog 35 #[.int .u32 x, .int .i64 m] w fun e w' => e = .returned (.int .u32 (rr x n : Nat)) ∧ w = w' := by
  subst hm
  exact rot_c x n hx h1 h2 w
theorem size_blk : (Tryd.prog.info? 41).map (·.size) = some 64 := by kernel_rfl
theorem size_wds : (Tryd.prog.info? 51).map (·.size) = some 64 := by kernel_rfl
theorem size_st : (Tryd.prog.info? 49).map (·.size) = some 8 := by kernel_rfl
theorem size_dig : (Tryd.prog.info? 26).map (·.size) = some 32 := by kernel_rfl
theorem size_u8 : (Tryd.prog.info? 5).map (·.size) = some 1 := by kernel_rfl
theorem size_u32 : (Tryd.prog.info? 48).map (·.size) = some 1 := by kernel_rfl
theorem tab_of {cs : Array Value} {k : IntKind} {n : Nat} (h : cs = Array.replicate n (.int k 0)) : cs = tabV k n (fun _ => 0) := by rw [h, tabV_zero]
theorem two_new (w : World) (o p : Obj) : ((w.alloc o).alloc p).heap[w.heap.size]? = some o ∧ ((w.alloc o).alloc p).heap[w.heap.size + 1]? = some p :=
  ⟨(Ext.alloc (w.alloc o) p).get (new_of w o), by have := new_of (w.alloc o) p; simpa using this⟩

set_option maxRecDepth 100000 in
set_option maxHeartbeats 1000000 in
theorem sched_c (bl : Nat → Nat) (hb : ∀ i, bl i < 256) (w : World) :
    Calls Tryd.prog 34 #[.agg (tabV .u8 64 bl)] w fun e w' => e = .returned (.agg (tabV .u32 64 (wds bl))) ∧ Ext w w' := by
  go_enter Tryd.func34, Tryd.ntmps34
  go_wp2_with (refine wpList_load_row rfl 41 (.tmp 1) rfl w.heap.size rfl 41 (tabV .u8 64 bl) (0, 0) _ (two_new _ _ _).1 Tryd.underlying41 rfl (by rw [tabV_size]; exact size_blk) ?_)
  go_loopw [11] (fun i wr => ∃ j : Nat, j ≤ 64 ∧ i = .int .i64 j ∧ Arr wr (w.heap.size + 1) 51 .u32 64 (wpart bl j) ∧ Ext w wr) (fun i _ => 64 - (intOf i).toNat)
  case atStart =>
    refine ⟨0, by omega, rfl, ?_, (Ext.alloc _ _).tr (Ext.alloc _ _)⟩
    unfold Arr
    refine (two_new _ _ _).2.trans ?_
    rw [tabV_congr (f' := fun _ => 0) (fun i _ => wpart_zero bl i), tabV_zero]
    rfl
  case round =>
    obtain ⟨j, hj, rfl, hA, hx⟩ := hrel
    by_cases hlt : j < 64
    · have hi := fun W => run_index_tab (P := Tryd.prog) (t := 41) Tryd.underlying41 Tryd.underlying5 size_u8 bl j hlt W
      have hc := hA.cell (i := j / 4) (by omega)
      have hf := hA.free (j / 4)
      obtain ⟨x, hxx⟩ : ∃ x, x = wpart bl j (j / 4) := ⟨_, rfl⟩
      obtain ⟨c, hcc⟩ : ∃ c, c = bl j := ⟨_, rfl⟩
      rw [← hxx] at hc
      rw [← hcc] at hi
      have HX := Lib.hid hxx
      have HC := Lib.hid hcc
      have HA := Lib.hid hA
      have HE := Lib.hid hx
      clear hxx hcc hA hx
      go_wp2_with fail
      go_roundw
      case rel =>
        refine ⟨j + 1, by omega, by go_num, ?_, Below.setCell HE.out (by simp) _⟩
        refine HA.out.to (by omega) ?_ (fun i _ hne => (wpart_other bl hne).symm)
        rw [wpart_same, ← HX.out, ← HC.out]
        exact or_byte x c (by rw [HX.out]; exact wpart_low hb j) (by rw [HC.out]; exact hb j)
      case measure => simp [intOf]; omega
    · have ej : j = 64 := by omega
      rw [ej] at hA
      clear ej
      have HA := Lib.hid (hA.congr (f' := fun i => if i < 16 then wds bl i else 0) (fun i hi => wpart_wds bl hi))
      have HE := Lib.hid hx
      clear hA hx
      go_wp2_with fail
      go_loopw [5] (fun i wr => ∃ n : Nat, 16 ≤ n ∧ n ≤ 64 ∧ i = .int .i64 n ∧ Arr wr (w.heap.size + 1) 51 .u32 64 (fun i => if i < n then wds bl i else 0) ∧ Ext w wr) (fun i _ => 64 - (intOf i).toNat)
      case atStart => exact ⟨16, by omega, by omega, rfl, HA.out, HE.out⟩
      case round =>
        obtain ⟨n, hn, hj, rfl, hA, hx⟩ := hrel
        by_cases hlt : n < 64
        · have c15 := hA.cell (i := n - 15) (by omega)
          have c2 := hA.cell (i := n - 2) (by omega)
          have c16 := hA.cell (i := n - 16) (by omega)
          have c7 := hA.cell (i := n - 7) (by omega)
          have hf := hA.free n
          have cn := hA.cell (i := n) (by omega)
          rw [if_pos (by omega)] at c15 c2 c16 c7
          rw [if_neg (by omega)] at cn
          have b1 := wds_lt hb (n := n - 15) (by omega)
          have b2 := wds_lt hb (n := n - 2) (by omega)
          obtain ⟨x, hxx⟩ : ∃ x, x = wds bl (n - 15) := ⟨_, rfl⟩
          obtain ⟨y, hyy⟩ : ∃ y, y = wds bl (n - 2) := ⟨_, rfl⟩
          rw [← hxx] at c15 b1
          rw [← hyy] at c2 b2
          have HX := Lib.hid hxx
          have HY := Lib.hid hyy
          have HA2 := Lib.hid hA
          have HE2 := Lib.hid hx
          clear hxx hyy hA hx
          have n1 : 0 ≤ (n : Int) - 15 := by omega
          have n2 : 0 ≤ (n : Int) - 2 := by omega
          have n3 : 0 ≤ (n : Int) - 16 := by omega
          have n4 : 0 ≤ (n : Int) - 7 := by omega
          have m1 : (15 : Int) ≤ n := by omega
          have m2 : (2 : Int) ≤ n := by omega
          have m3 : (16 : Int) ≤ n := by omega
          have m4 : (7 : Int) ≤ n := by omega
          go_wp2_with fail
          go_quiet (fail)
          go_wp2_with fail
          refine (rot_i x 7 7 rfl b1 (by omega) (by omega) _).mono ?_
          rintro e w' ⟨rfl, rfl⟩
          go_wp2_with fail
          refine (rot_i x 18 18 rfl b1 (by omega) (by omega) _).mono ?_
          rintro e w' ⟨rfl, rfl⟩
          go_wp2_with fail
          refine (rot_i y 17 17 rfl b2 (by omega) (by omega) _).mono ?_
          rintro e w' ⟨rfl, rfl⟩
          go_wp2_with fail
          refine (rot_i y 19 19 rfl b2 (by omega) (by omega) _).mono ?_
          rintro e w' ⟨rfl, rfl⟩
          go_wp2_with fail
          go_region
          go_wp2_with fail
          go_roundw
          case rel =>
            refine ⟨n + 1, by omega, by omega, by go_num, ?_, Below.setCell (HE2.out.tr (Ext.drewN _ _)) (by simp) _⟩
            refine Arr.to (f := fun i => if i < n then wds bl i else 0) HA2.out (by omega) ?_ (fun i _ hne => ?_)
            · rw [if_pos (by omega), wds_next bl hn hlt, ← HX.out, ← HY.out]
              exact sched_sum _ _ x y b1 b2
            · by_cases hi : i < n
              · rw [if_pos hi, if_pos (by omega)]
              · rw [if_neg hi, if_neg (by omega)]
          case measure => simp [intOf]; omega
        · have ej : n = 64 := by omega
          rw [ej] at hA
          clear ej
          have HA := Lib.hid (hA.congr (f' := wds bl) (fun i hi => if_pos hi))
          have HE := Lib.hid hx
          clear hA hx
          go_wp2_with (first | (refine wpList_load_row rfl 51 (.tmp 2) rfl (w.heap.size + 1) rfl 51 (tabV .u32 64 (wds bl)) (0, 0) _ HA.out Tryd.underlying51 rfl (by rw [tabV_size]; exact size_wds) ?_) | (refine wpList_store_row rfl 51 (.tmp 2) (.tmp 70) rfl (w.heap.size + 1) (tabV .u32 64 (wds bl)) rfl rfl 51 _ HA.out (by rw [tabV_size]; exact size_wds) rfl tabV_one ?_))
          have hr := HA.out.row (wds bl)
          refine bodyPost_ret (v := .agg (tabV .u32 64 (wds bl))) ?_ rfl ⟨rfl, ext_setRow HE.out (by simp) _⟩
          exact results_cell_row rfl _ _ _ _ _ _ _ rfl hr Tryd.underlying51 rfl (by rw [tabV_size]; exact size_wds)
end Go.Proofs.YtdbmkkjpdhnllaaDoor
