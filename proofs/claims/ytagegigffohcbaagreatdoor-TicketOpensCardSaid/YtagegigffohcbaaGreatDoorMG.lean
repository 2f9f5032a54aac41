/-
  The reference's state after a block.
  The reference: the table and the start of SHA-256.
  The padding of the reference.
  The reference's digest of bytes.
  The reference's code of bytes under a key.
-/
import Derived.Test.YtagegigffohcbaaGreatDoorME
import Derived.StillTailTactics
import Derived.IntWalk
import Derived.Test.YtagegigffohcbaaGreatDoorMA
import Derived.Deep.RegionHeld3
import Derived.Test.YtagegigffohcbaaGreatDoorMF
set_option linter.unusedVariables false
set_option linter.unusedSimpArgs false
namespace Go.Proofs.YtagegigffohcbaaGreatDoor
open Go.RowKit

theorem rrot_i (x n : Nat) (m : Int) (hm : m = n) (hx : x < 4294967296) (h1 : 1 ≤ n) (h2 : n ≤ 31) (w : World) :
    Calls Tryz.prog 87 #[.int .u32 x, .int .u64 m] w fun e w' => e = .returned (.int .u32 (rr x n : Nat)) ∧ w = w' := by
  subst hm
  exact rrot_c x n hx h1 h2 w
theorem rrot_q (x n : Nat) (m : Int) (hm : m = n) (hx : x < 4294967296) (h1 : 1 ≤ n) (h2 : n ≤ 31) (w : World) : ∀ a : Nat, Calls Tryz.prog 87 #[.int .u32 x, .int .u64 m] (w.drewN a) fun e w'' => e = .returned (.int .u32 (rr x n : Nat)) ∧ ∃ b, w'' = w.drewN b :=
  fun _ => quiet_eq (rrot_i x n m hm hx h1 h2 _)
theorem rrot_s (x n : Nat) (m : Int) (hm : m = n) (hx : x < 4294967296) (h1 : 1 ≤ n) (h2 : n ≤ 31) (w : World) : Calls Tryz.prog 87 #[.int .u32 x, .int .u64 m] w fun e w'' => e = .returned (.int .u32 (rr x n : Nat)) ∧ w'' = w :=
  (rrot_i x n m hm hx h1 h2 w).mono fun _ _ ⟨he, hw⟩ => ⟨he, hw.symm⟩
theorem wpart_at (bl : Nat → Nat) {i k : Nat} (hk : k < 4) : wpart bl (4 * i + k + 1) i = wpart bl (4 * i + k) i * 256 + bl (4 * i + k) := by
  have h := wpart_same bl (4 * i + k)
  rw [show (4 * i + k) / 4 = i by omega] at h
  exact h
theorem wpart_at_low {bl : Nat → Nat} (hb : ∀ i, bl i < 256) {i k : Nat} (hk : k < 4) : wpart bl (4 * i + k) i < 16777216 := by
  have h := wpart_low hb (4 * i + k)
  rw [show (4 * i + k) / 4 = i by omega] at h
  exact h
theorem new5q (w : World) (o p q r s : Obj) : (((((w.alloc o).alloc p).alloc q).alloc r).alloc s).heap[w.heap.size]? = some o ∧ (((((w.alloc o).alloc p).alloc q).alloc r).alloc s).heap[w.heap.size + 1]? = some p ∧
    (((((w.alloc o).alloc p).alloc q).alloc r).alloc s).heap[w.heap.size + 1 + 1]? = some q ∧ (((((w.alloc o).alloc p).alloc q).alloc r).alloc s).heap[w.heap.size + 1 + 1 + 1]? = some r ∧
    (((((w.alloc o).alloc p).alloc q).alloc r).alloc s).heap[w.heap.size + 1 + 1 + 1 + 1]? = some s := by
  obtain ⟨h1, h2, h3⟩ := new3 w o p q
  have x1 := (Ext.alloc (((w.alloc o).alloc p).alloc q) r)
  have x2 := x1.tr (Ext.alloc _ s)
  refine ⟨x2.get h1, x2.get h2, x2.get h3, ?_, ?_⟩
  · have h := new_of (((w.alloc o).alloc p).alloc q) r
    rw [show (((w.alloc o).alloc p).alloc q).heap.size = w.heap.size + 1 + 1 + 1 by simp] at h
    exact (Ext.alloc _ s).get h
  · have h := new_of ((((w.alloc o).alloc p).alloc q).alloc r) s
    rw [show ((((w.alloc o).alloc p).alloc q).alloc r).heap.size = w.heap.size + 1 + 1 + 1 + 1 by simp] at h
    exact h

/-- the blocks of the reference's Block: its arguments, its result, its words -/
def Rb (w wr : World) (st : St) (bl kf f : Nat → Nat) : Prop :=
  Arr wr (w.heap.size + 1 + 1 + 1 + 1) 106 .u32 64 f ∧ Arr wr (w.heap.size + 1) 98 .u8 64 bl ∧ Arr wr w.heap.size 104 .u32 8 st.get ∧ Arr wr (w.heap.size + 1 + 1) 106 .u32 64 kf ∧
    Arr wr (w.heap.size + 1 + 1 + 1) 104 .u32 8 (fun _ => 0) ∧ Ext w wr
theorem Rb.ext {w wr wr' : World} {st : St} {bl kf f : Nat → Nat} (h : Rb w wr st bl kf f) (hx : Ext wr wr') : Rb w wr' st bl kf f :=
  ⟨h.1.ext hx, h.2.1.ext hx, h.2.2.1.ext hx, h.2.2.2.1.ext hx, h.2.2.2.2.1.ext hx, h.2.2.2.2.2.tr hx⟩
theorem Rb.congr {w wr : World} {st : St} {bl kf f f' : Nat → Nat} (h : Rb w wr st bl kf f) (hf : ∀ i, i < 64 → f i = f' i) : Rb w wr st bl kf f' := ⟨h.1.congr hf, h.2⟩
theorem Rb.set_ {w wr : World} {st : St} {bl kf f f' : Nat → Nat} (h : Rb w wr st bl kf f) {i : Nat} (hi : i < 64) {v : Int} (hv : v = (f' i : Nat)) (hf : ∀ j, j < 64 → j ≠ i → f j = f' j) : Rb w (wr.setCell ⟨w.heap.size + 1 + 1 + 1 + 1, i, none⟩ (.int .u32 v)) st bl kf f' :=
  ⟨h.1.to hi hv hf, h.2.1.other (by omega) _ _, h.2.2.1.other (by omega) _ _, h.2.2.2.1.other (by omega) _ _, h.2.2.2.2.1.other (by omega) _ _, Below.setCell h.2.2.2.2.2 (by simp; omega) _⟩
theorem Rb.grown {w wr wr' : World} {st : St} {bl kf f : Nat → Nat} (h : Rb w wr st bl kf f) {gv : Nat} (hg : w.heap.size + 1 + 1 + 1 + 1 < gv) (hx : wr.grownBy wr' (some gv)) : Rb w wr' st bl kf f :=
  ⟨grown_get hx h.1 (by simp; omega), grown_get hx h.2.1 (by simp; omega), grown_get hx h.2.2.1 (by simp; omega), grown_get hx h.2.2.2.1 (by simp; omega), grown_get hx h.2.2.2.2.1 (by simp; omega),
    grown_new h.2.2.2.2.2 hx (fun g hg' => by simp at hg'; omega)⟩
theorem rb_start (w : World) (st : St) (bl kf : Nat → Nat) :
    Rb w (((((w.alloc (.cells (tabV .u32 8 st.get) 104)).alloc (.cells (tabV .u8 64 bl) 98)).alloc (.cells (tabV .u32 64 kf) 106)).alloc (.cells (tabV .u32 8 (fun _ => 0)) 104)).alloc (.cells (tabV .u32 64 (fun _ => 0)) 106)) st bl kf (fun _ => 0) := by
  obtain ⟨h0, h1, h2, h3, h4⟩ := new5q w (.cells (tabV .u32 8 st.get) 104) (.cells (tabV .u8 64 bl) 98) (.cells (tabV .u32 64 kf) 106) (.cells (tabV .u32 8 (fun _ => 0)) 104) (.cells (tabV .u32 64 (fun _ => 0)) 106)
  exact ⟨h4, h1, h0, h2, h3, ((((Ext.alloc _ _).tr (Ext.alloc _ _)).tr (Ext.alloc _ _)).tr (Ext.alloc _ _)).tr (Ext.alloc _ _)⟩

/-- the words of a state while they are moved on -/
def shifted (s : St) (k i : Nat) : Nat := if k < i then s.get (i - 1) else s.get i
theorem shifted_start (s : St) {i : Nat} (h : i < 8) : s.get i = shifted s 7 i := by unfold shifted; rw [if_neg (by omega)]
theorem mk_get (s : St) (p q : Nat) {i : Nat} (h : i < 8) : (if i = 0 then p else if i = 4 then q else shifted s 0 i) = (St.mk p s.a s.b s.c q s.e s.f s.g).get i := by
  unfold shifted
  rcases i with _ | _ | _ | _ | _ | _ | _ | _ | i <;> first | (simp [St.get]; done) | omega
theorem rnd_get (s : St) (k x : Nat) {i : Nat} (h : i < 8) : (if i = 0 then ad (tOf s k x) (uOf s) else if i = 4 then ad s.d (tOf s k x) else shifted s 0 i) = (srnd s k x).get i := by
  unfold srnd
  exact mk_get s _ _ h
set_option maxRecDepth 100000 in
set_option maxHeartbeats 8000000 in
theorem srblock_c (st : St) (hst : st.ok) (bl : Nat → Nat) (hb : ∀ i, bl i < 256) (kf : Nat → Nat) (w : World) :
    Calls Tryz.prog 77 #[.agg (tabV .u32 8 st.get), .agg (tabV .u8 64 bl), .agg (tabV .u32 64 kf)] w fun e w' => e = .returned (.agg (tabV .u32 8 (blk kf st bl).get)) ∧ Ext w w' := by
  have HST := Lib.hid hst
  clear hst
  go_enter Tryz.func77, Tryz.ntmps77
  go_wp2_with fail
  go_loopw [8] (fun v wr => ∃ i : Nat, i ≤ 16 ∧ v = .int .i64 i ∧ Rb w wr st bl kf (wpart bl (4 * i))) (fun v _ => 16 - (intOf v).toNat)
  case atStart => exact ⟨0, by omega, rfl, (rb_start w st bl kf).congr (fun i _ => (wpart_zero bl i).symm)⟩
  case round =>
    obtain ⟨i, hi, rfl, hA⟩ := hrel
    by_cases hlt : i < 16
    · have HA := Lib.hid hA
      clear hA
      go_wp2_with fail
      obtain ⟨wo, hwo⟩ : ∃ wo : World, wo = wr := ⟨_, rfl⟩
      rw [← hwo] at HA ⊢
      clear hwo
      go_loopw [9] (fun v wr => ∃ k : Nat, k ≤ 4 ∧ v = .int .i64 k ∧ Rb w wr st bl kf (wpart bl (4 * i + k))) (fun v _ => 4 - (intOf v).toNat)
      case atStart => exact ⟨0, by omega, rfl, HA.out⟩
      case round =>
        obtain ⟨k, hk, rfl, hA⟩ := hrel
        by_cases hlk : k < 4
        · have hc := hA.1.cell (i := i) (by omega)
          have hf := hA.1.free i
          have hcb := hA.2.1.cell (i := 4 * i + k) (by omega)
          obtain ⟨x, hxx⟩ : ∃ x, x = wpart bl (4 * i + k) i := ⟨_, rfl⟩
          obtain ⟨c, hcc⟩ : ∃ c, c = bl (4 * i + k) := ⟨_, rfl⟩
          rw [← hxx] at hc
          rw [← hcc] at hcb
          have HXX := Lib.hid hxx
          have HCC := Lib.hid hcc
          have HA2 := Lib.hid hA
          have i1 : (4 : Int) * (i : Int) + (k : Int) < 64 := by omega
          clear hxx hcc hA
          go_wp2_with fail
          go_region
          go_wp2_with fail
          go_roundw
          case rel =>
            refine ⟨k + 1, by omega, by go_num, Rb.ext (HA2.out.set_ (by omega) ?_ (fun j _ hne => ?_)) (Ext.drew _)⟩
            · rw [show 4 * i + (k + 1) = 4 * i + k + 1 by omega, wpart_at bl hlk, ← HXX.out, ← HCC.out]
              have hx : x < 16777216 := by rw [HXX.out]; exact wpart_at_low hb hlk
              have hc : c < 256 := by rw [HCC.out]; exact hb _
              omega
            · rw [show 4 * i + (k + 1) = 4 * i + k + 1 by omega, wpart_other bl (by omega)]
          case measure => simp [intOf]; omega
        · have ek : k = 4 := by omega
          rw [ek] at hA
          have HA2 := Lib.hid hA
          clear ek hA
          go_wp2_with fail
          go_roundw
          case rel => exact ⟨i + 1, by omega, by go_num, by rw [show 4 * (i + 1) = 4 * i + 4 by omega]; exact HA2.out⟩
          case measure => simp [intOf]; omega
    · have ei : i = 16 := by omega
      rw [ei] at hA
      have HA := Lib.hid (hA.congr (f' := fun i => if i < 16 then wds bl i else 0) (fun i hi => wpart_wds bl hi))
      clear ei hA
      go_wp2_with fail
      obtain ⟨wo, hwo⟩ : ∃ wo : World, wo = wr := ⟨_, rfl⟩
      rw [← hwo] at HA ⊢
      clear hwo
      go_loopw [10] (fun v wr => ∃ n : Nat, 16 ≤ n ∧ n ≤ 64 ∧ v = .int .i64 n ∧ Rb w wr st bl kf (fun i => if i < n then wds bl i else 0)) (fun v _ => 64 - (intOf v).toNat)
      case atStart => exact ⟨16, by omega, by omega, rfl, HA.out⟩
      case round =>
        obtain ⟨n, hn, hj, rfl, hA⟩ := hrel
        by_cases hln : n < 64
        · have c15 := hA.1.cell (i := n - 15) (by omega)
          have c2 := hA.1.cell (i := n - 2) (by omega)
          have c16 := hA.1.cell (i := n - 16) (by omega)
          have c7 := hA.1.cell (i := n - 7) (by omega)
          have hf := hA.1.free n
          have cn := hA.1.cell (i := n) (by omega)
          rw [if_pos (by omega)] at c15 c2 c16 c7
          rw [if_neg (by omega)] at cn
          have b1 := wds_lt hb (n := n - 15) (by omega)
          have b2 := wds_lt hb (n := n - 2) (by omega)
          obtain ⟨x, hxx⟩ : ∃ x, x = wds bl (n - 15) := ⟨_, rfl⟩
          obtain ⟨y, hyy⟩ : ∃ y, y = wds bl (n - 2) := ⟨_, rfl⟩
          rw [← hxx] at c15 b1
          rw [← hyy] at c2 b2
          have HX := Lib.hid hxx
          have HY := Lib.hid hyy
          have HA2 := Lib.hid hA
          clear hxx hyy hA
          have n1 : 0 ≤ (n : Int) - 15 := by omega
          have n2 : 0 ≤ (n : Int) - 2 := by omega
          have n3 : 0 ≤ (n : Int) - 16 := by omega
          have n4 : 0 ≤ (n : Int) - 7 := by omega
          have m1 : (15 : Int) ≤ n := by omega
          have m2 : (2 : Int) ≤ n := by omega
          have m3 : (16 : Int) ≤ n := by omega
          have m4 : (7 : Int) ≤ n := by omega
          go_wp2_with fail
          have q16 : IntKind.i64.wrap ((n : Int) - 16) = (n : Int) - 16 := IntWalk.i64_in _ (by omega)
          have q7 : IntKind.i64.wrap ((n : Int) - 7) = (n : Int) - 7 := IntWalk.i64_in _ (by omega)
          have u16 : ((n : Int) - 16).toNat = n - 16 := by omega
          have u7 : ((n : Int) - 7).toNat = n - 7 := by omega
          have l16 : (n : Int) - 16 < 64 := by omega
          have l7 : (n : Int) - 7 < 64 := by omega
          have H7 := rrot_s x 7 7 rfl b1 (by omega) (by omega) wr.drew
          have H18 := rrot_s x 18 18 rfl b1 (by omega) (by omega) wr.drew
          have H17 := rrot_s y 17 17 rfl b2 (by omega) (by omega) wr.drew
          have H19 := rrot_s y 19 19 rfl b2 (by omega) (by omega) wr.drew
          refine wp_region_still_tail 29 (by kernel_rfl) (by kernel_rfl) ?_
          simp only [List.take_succ_cons, List.take_zero, List.drop_succ_cons, List.drop_zero]
          repeat (refine wpStill_step (fun K hK => ?_); go_simp; refine hK _ ?_; clear hK K)
          still_call H7
          repeat (refine wpStill_step (fun K hK => ?_); go_simp; refine hK _ ?_; clear hK K)
          still_call H18
          repeat (refine wpStill_step (fun K hK => ?_); go_simp; refine hK _ ?_; clear hK K)
          still_call H17
          repeat (refine wpStill_step (fun K hK => ?_); go_simp; refine hK _ ?_; clear hK K)
          still_call H19
          repeat (refine wpStill_step (fun K hK => ?_); go_simp; refine hK _ ?_; clear hK K)
          refine wpStill_nil ?_
          clear q16 q7 u16 u7 l16 l7 H7 H18 H17 H19 c15 c2 c16 c7
          change wpList _ _ _ _ _ wr.drew
          have hA3 := HA2.out.ext (Ext.drew wr)
          have cn' : wr.drew.cell? ⟨w.heap.size + 1 + 1 + 1 + 1, n, none⟩ = some (.int .u32 0) := cn
          have hf' : wr.drew.frozen? ⟨w.heap.size + 1 + 1 + 1 + 1, n, none⟩ = false := hf
          obtain ⟨wd, hwd⟩ : ∃ wd, wd = wr.drew := ⟨_, rfl⟩
          rw [← hwd] at hA3 cn' hf' ⊢
          have HA3 := Lib.hid hA3
          clear hwd hA3 cn hf
          go_wp2_with fail
          go_roundw
          case rel =>
            refine ⟨n + 1, by omega, by omega, by go_num, HA3.out.set_ (by omega) ?_ (fun i _ hne => ?_)⟩
            · rw [if_pos (by omega), wds_next bl hn hln, ← HX.out, ← HY.out]
              exact sched_sum _ _ x y b1 b2
            · by_cases hi : i < n
              · rw [if_pos hi, if_pos (by omega)]
              · rw [if_neg hi, if_neg (by omega)]
          case measure => simp [intOf]; omega
        · have en : n = 64 := by omega
          rw [en] at hA
          have HA2 := Lib.hid (hA.congr (f' := wds bl) (fun i hi => if_pos hi))
          clear en hA
          go_wp2_with (first | (refine wpList_load_arr rfl 104 (.tmp 3) rfl w.heap.size rfl 104 .u32 8 st.get _ HA2.out.2.2.1 Tryz.underlying104 size_st ?_) | (refine wpList_store_arr rfl 104 (.tmp 13) (.tmp 82) rfl wr.heap.size .u32 8 st.get rfl rfl 104 _ (new_of _ _) size_st rfl ?_; intro V hV hG))
          have hA3 := HA2.out.ext (grown_new (Ext.alloc _ _) hG (fun g hg => by simp at hg; omega))
          obtain ⟨gv, hgv⟩ : ∃ gv, gv = wr.heap.size := ⟨_, rfl⟩
          have hgt : w.heap.size + 1 + 1 + 1 + 1 < gv := by rw [hgv]; exact HA2.out.1.lt
          rw [← hgv] at hV ⊢
          have HA3 := Lib.hid hA3
          have HV := Lib.hid hV
          clear hA3 hV hG hgv
          go_loopw [14] (fun v wr => ∃ j : Nat, j ≤ 64 ∧ v = .int .i64 j ∧ Rb w wr st bl kf (wds bl) ∧ Arr wr gv 104 .u32 8 (rounds kf (wds bl) st j).get) (fun v _ => 64 - (intOf v).toNat)
          case atStart => exact ⟨0, by omega, rfl, HA3.out, by rw [rounds]; exact HV.out⟩
          case round =>
            obtain ⟨j, hjj, rfl, hA, hV⟩ := hrel
            have hok := rounds_ok (K := kf) (W := wds bl) HST.out j
            obtain ⟨s, hs⟩ : ∃ s, s = rounds kf (wds bl) st j := ⟨_, rfl⟩
            rw [← hs] at hok hV
            by_cases hlj : j < 64
            · have hk := hA.2.2.2.1.cell hlj
              have hw := hA.1.cell hlj
              have c0 := hV.cell (i := 0) (by omega)
              have c1 := hV.cell (i := 1) (by omega)
              have c2 := hV.cell (i := 2) (by omega)
              have c3 := hV.cell (i := 3) (by omega)
              have c4 := hV.cell (i := 4) (by omega)
              have c5 := hV.cell (i := 5) (by omega)
              have c6 := hV.cell (i := 6) (by omega)
              have c7 := hV.cell (i := 7) (by omega)
              have oe := hok 4
              have oa := hok 0
              simp only [St.get] at c0 c1 c2 c3 c4 c5 c6 c7 oe oa
              obtain ⟨k, hkk⟩ : ∃ k, k = kf j := ⟨_, rfl⟩
              obtain ⟨x, hxx⟩ : ∃ x, x = wds bl j := ⟨_, rfl⟩
              rw [← hkk] at hk
              rw [← hxx] at hw
              have HKK := Lib.hid hkk
              have HXX := Lib.hid hxx
              have HSS := Lib.hid hs
              have HOK := Lib.hid hok
              have HA4 := Lib.hid hA
              have HV4 := Lib.hid hV
              have H6 := Lib.hid (rrot_q s.e 6 6 rfl oe (by omega) (by omega) wr)
              have H11 := Lib.hid (rrot_q s.e 11 11 rfl oe (by omega) (by omega) wr)
              have H25 := Lib.hid (rrot_q s.e 25 25 rfl oe (by omega) (by omega) wr)
              clear hkk hxx hs hok hA hV
              go_wp2_with fail
              go_quiet ((go_at_call 87; first | with_reducible exact H6.out _ | with_reducible exact H11.out _ | with_reducible exact H25.out _))
              rw [t_int s HOK.out k x]
              obtain ⟨t, htt⟩ : ∃ t, t = tOf s k x := ⟨_, rfl⟩
              rw [← htt]
              have HTT := Lib.hid htt
              have hA5 := HA4.out.ext (Ext.drewN wr nq)
              have hV5 := HV4.out.ext (Ext.drewN wr nq)
              obtain ⟨V2, hV2⟩ : ∃ V2, V2 = wr.drewN nq := ⟨_, rfl⟩
              rw [← hV2] at hA5 hV5 ⊢
              have c0 := hV5.cell (i := 0) (by omega)
              have c1 := hV5.cell (i := 1) (by omega)
              have c2 := hV5.cell (i := 2) (by omega)
              simp only [St.get] at c0 c1 c2
              have HA5 := Lib.hid hA5
              have HV5 := Lib.hid hV5
              have H2 := Lib.hid (rrot_q s.a 2 2 rfl oa (by omega) (by omega) V2)
              have H13 := Lib.hid (rrot_q s.a 13 13 rfl oa (by omega) (by omega) V2)
              have H22 := Lib.hid (rrot_q s.a 22 22 rfl oa (by omega) (by omega) V2)
              clear htt hV2 hA5 hV5 H6 H11 H25 hk hw HA4 HV4
              go_wp2_with fail
              go_quiet ((go_at_call 87; first | with_reducible exact H2.out _ | with_reducible exact H13.out _ | with_reducible exact H22.out _))
              rw [u_int s HOK.out]
              obtain ⟨u, huu⟩ : ∃ u, u = uOf s := ⟨_, rfl⟩
              rw [← huu]
              have HUU := Lib.hid huu
              clear huu H2 H13 H22 c0 c1 c2
              go_wp2_with fail
              have hA6 := HA5.out.ext (Ext.drewN V2 nq)
              have hV6 := (HV5.out.ext (Ext.drewN V2 nq)).congr (fun i hi => shifted_start s hi)
              obtain ⟨wo2, hwo2⟩ : ∃ wo2, wo2 = V2.drewN nq := ⟨_, rfl⟩
              rw [← hwo2] at hA6 hV6 ⊢
              have HA6 := Lib.hid hA6
              have HV6 := Lib.hid hV6
              clear hwo2 hA6 hV6 HA5 HV5
              go_loopw [17] (fun v wr => ∃ m : Nat, m ≤ 7 ∧ v = .int .i64 m ∧ Rb w wr st bl kf (wds bl) ∧ Arr wr gv 104 .u32 8 (shifted s m)) (fun v _ => (intOf v).toNat)
              case atStart => exact ⟨7, by omega, rfl, HA6.out, HV6.out⟩
              case round =>
                obtain ⟨m, hm, rfl, hA, hV⟩ := hrel
                by_cases hlm : 0 < m
                · have d1 := hV.cell (i := m - 1) (by omega)
                  have d2 := hV.cell (i := m) (by omega)
                  have f2 := hV.free m
                  rw [show shifted s m (m - 1) = s.get (m - 1) by unfold shifted; rw [if_neg (by omega)]] at d1
                  obtain ⟨y, hyy⟩ : ∃ y, y = s.get (m - 1) := ⟨_, rfl⟩
                  rw [← hyy] at d1
                  have HYY := Lib.hid hyy
                  have HA7 := Lib.hid hA
                  have HV7 := Lib.hid hV
                  have m1 : (1 : Int) ≤ m := by omega
                  have m2 : (0 : Int) ≤ (m : Int) - 1 := by omega
                  have m3 : (m : Int) < 8 := by omega
                  clear hyy hA hV
                  go_wp2_with fail
                  go_roundw
                  case rel =>
                    refine ⟨m - 1, by omega, by congr 1; omega, HA7.out.grown hgt (grown_set _ rfl _), HV7.out.to (by omega) ?_ (fun i hi hne => ?_)⟩
                    · rw [HYY.out, show shifted s (m - 1) m = s.get (m - 1) by unfold shifted; rw [if_pos (by omega)]]
                    · unfold shifted
                      by_cases h : m < i
                      · rw [if_pos h, if_pos (by omega)]
                      · rw [if_neg h, if_neg (by omega)]
                  case measure => simp [intOf]; omega
                · obtain rfl : m = 0 := by omega
                  have d0 := hV.cell (i := 0) (by omega)
                  have d4 := hV.cell (i := 4) (by omega)
                  have f0 := hV.free 0
                  have f4 := hV.free 4
                  rw [show shifted s 0 4 = s.d from rfl] at d4
                  rw [show shifted s 0 0 = s.a from rfl] at d0
                  have HA7 := Lib.hid hA
                  have HV7 := Lib.hid hV
                  clear hA hV
                  go_wp2_with fail
                  have hv1 := HV7.out.to (i := 4) (v := ((s.d : Int) + (t : Int)) % 4294967296) (f' := fun i => if i = 4 then ad s.d t else shifted s 0 i) (by omega) (by rw [if_pos rfl]; unfold ad; omega) (fun j _ hne => by rw [if_neg hne])
                  have hv2 := hv1.to (i := 0) (v := ((t : Int) + (u : Int)) % 4294967296) (f' := fun i => if i = 0 then ad t u else if i = 4 then ad s.d t else shifted s 0 i) (by omega) (by rw [if_pos rfl]; unfold ad; omega) (fun j _ hne => by rw [if_neg hne])
                  have hv3 := hv2.congr (f' := (rounds kf (wds bl) st (j + 1)).get) (fun i hi => by rw [rounds_succ, ← HSS.out, ← HKK.out, ← HXX.out, HTT.out, HUU.out]; exact rnd_get s k x hi)
                  have ha1 := HA7.out.grown hgt (grown_set ⟨gv, 4, none⟩ rfl (.int .u32 (((s.d : Int) + (t : Int)) % 4294967296)))
                  have ha2 := ha1.grown hgt (grown_set ⟨gv, 0, none⟩ rfl (.int .u32 (((t : Int) + (u : Int)) % 4294967296)))
                  go_roundw
                  case rel => exact ⟨j + 1, by omega, by go_num, ha2, hv3⟩
                  case measure => simp [intOf]; omega
            · have ej : j = 64 := by omega
              have HSS := Lib.hid hs
              rw [ej] at hs
              have HS64 := Lib.hid hs
              have HA5 := Lib.hid hA
              have HV5 := Lib.hid hV
              clear hs ej hok hA hV
              go_wp2_with fail
              obtain ⟨wo2, hwo2⟩ : ∃ wo2, wo2 = wr := ⟨_, rfl⟩
              rw [← hwo2] at HA5 HV5 ⊢
              clear hwo2
              go_loopw [18] (fun v wr => ∃ m : Nat, m ≤ 8 ∧ v = .int .i64 m ∧ Rb w wr st bl kf (wds bl) ∧ Arr wr gv 104 .u32 8 (fun i => if i < m then ad (s.get i) (st.get i) else s.get i)) (fun v _ => 8 - (intOf v).toNat)
              case atStart => exact ⟨0, by omega, rfl, HA5.out, HV5.out⟩
              case round =>
                obtain ⟨m, hm, rfl, hA, hV⟩ := hrel
                by_cases hlm : m < 8
                · have d1 := hV.cell (i := m) (by omega)
                  have d2 := hA.2.2.1.cell (i := m) (by omega)
                  have f2 := hV.free m
                  rw [if_neg (by omega)] at d1
                  have HA7 := Lib.hid hA
                  have HV7 := Lib.hid hV
                  clear hA hV
                  go_wp2_with fail
                  go_region
                  go_wp2_with fail
                  go_roundw
                  case rel =>
                    refine ⟨m + 1, by omega, by go_num, (HA7.out.grown hgt (grown_set _ rfl _)).ext (Ext.drew _), Arr.ext (HV7.out.to (by omega) ?_ (fun i hi hne => ?_)) (Ext.drew _)⟩
                    · rw [if_pos (by omega)]
                      unfold ad
                      omega
                    · by_cases h : i < m
                      · rw [if_pos h, if_pos (by omega)]
                      · rw [if_neg h, if_neg (by omega)]
                  case measure => simp [intOf]; omega
                · have em : m = 8 := by omega
                  rw [em] at hV
                  clear em
                  have hV' := hV.congr (f' := (blk kf st bl).get) (fun i hi => by rw [if_pos hi, blk, addSt_get _ _ hi, ← HS64.out, ad_comm])
                  have HA7 := Lib.hid hA
                  have HV7 := Lib.hid hV'
                  clear hA hV hV'
                  go_wp2_with (first | (refine wpList_load_arr rfl 104 (.tmp 13) rfl gv rfl 104 .u32 8 (blk kf st bl).get _ HV7.out Tryz.underlying104 size_st ?_) | (refine wpList_store_arr rfl 104 (.tmp 6) (.tmp 183) rfl (w.heap.size + 1 + 1 + 1) .u32 8 (blk kf st bl).get rfl rfl 104 _ HA7.out.2.2.2.2.1 size_st tabV_size ?_; intro W3 hA3 hG3))
                  refine bodyPost_ret (v := .agg (tabV .u32 8 (blk kf st bl).get)) ?_ rfl ⟨rfl, grown_new HA7.out.2.2.2.2.2 hG3 (fun g hg => by simp at hg; omega)⟩
                  exact results_cell_row rfl _ _ _ _ _ _ _ rfl hA3 Tryz.underlying104 rfl (by rw [tabV_size]; exact size_st)
end Go.Proofs.YtagegigffohcbaaGreatDoor

namespace Go.Proofs.YtagegigffohcbaaGreatDoor
open Go.RowKit

set_option maxRecDepth 100000 in
set_option maxHeartbeats 1000000 in
theorem table_c (w : World) : Calls Tryz.prog 76 #[] w fun e w' => e = .returned (.agg (tabV .u32 64 kc)) ∧ Ext w w' := by
  go_enter Tryz.func76, Tryz.ntmps76
  go_wp2_with (first | (refine wpList_build_tab rfl 106 _ rfl .u32 64 kc (by kernel_rfl) ?_) | (refine wpList_store_arr rfl 106 (.tmp 0) (.tmp 1) rfl w.heap.size .u32 64 kc rfl rfl 106 _ (new_of _ _) size_wds rfl ?_; intro W hA hG))
  refine bodyPost_ret (v := .agg (tabV .u32 64 kc)) ?_ rfl ⟨rfl, grown_new (Ext.alloc _ _) hG (fun g hg => by simp at hg; omega)⟩
  exact results_cell_row rfl _ _ _ _ _ _ _ rfl hA Tryz.underlying106 rfl (by rw [tabV_size]; exact size_wds)
set_option maxRecDepth 100000 in
set_option maxHeartbeats 1000000 in
theorem rstart_c (w : World) : Calls Tryz.prog 75 #[] w fun e w' => e = .returned (.agg (tabV .u32 8 st0.get)) ∧ Ext w w' := by
  go_enter Tryz.func75, Tryz.ntmps75
  go_wp2_with fail
  have hA : Arr (w.alloc (.cells (tabV .u32 8 st0.get) 104)) w.heap.size 104 .u32 8 st0.get := Arr.new _ _ _ _ _
  refine bodyPost_ret (v := .agg (tabV .u32 8 st0.get)) ?_ rfl ⟨rfl, Ext.alloc _ _⟩
  exact results_cell_row rfl _ _ _ _ _ _ _ rfl hA Tryz.underlying104 rfl (by rw [tabV_size]; exact size_st)
theorem cells_u32 : Tryz.prog.cellsOf 103 = 1 := by kernel_rfl
theorem noGuard_st : Tryz.prog.eqGuardType Tryz.prog.depth 104 = false := by kernel_rfl
theorem noGuard_dig : Tryz.prog.eqGuardType Tryz.prog.depth 53 = false := by kernel_rfl

end Go.Proofs.YtagegigffohcbaaGreatDoor

namespace Go.Proofs.YtagegigffohcbaaGreatDoor
open Go.RowKit


theorem pad_zero_at (n k : Nat) (h : k < zeros n) : (pad n)[1 + k]? = some 0 := by
  rw [pad, Nat.add_comm, List.getElem?_cons_succ, List.getElem?_append_left (by simpa using h), List.getElem?_replicate, if_pos h]
theorem pad_size_at (n j : Nat) (h : j < 8) : (pad n)[1 + zeros n + j]? = some (UInt8.ofNat (8 * n / 2 ^ (8 * (7 - j)))) := by
  rw [pad, show 1 + zeros n + j = (zeros n + j) + 1 by omega, List.getElem?_cons_succ, List.getElem?_append_right (by simp), List.length_replicate, show zeros n + j - zeros n = j by omega]
  simp [size8, h]
theorem take_snoc_some {α : Type} {l : List α} {m : Nat} {x : α} (h : l[m]? = some x) : l.take m ++ [x] = l.take (m + 1) := by
  obtain ⟨hl, e⟩ := List.getElem?_eq_some_iff.1 h
  rw [List.take_succ_eq_append_getElem hl, e]
theorem zeros_least (n k : Nat) (h : k ≤ zeros n) : (n + 1 + k + 8) % 64 = 0 ↔ k = zeros n := by unfold zeros at *; omega

set_option maxRecDepth 100000 in
set_option maxHeartbeats 2000000 in
theorem rpad_c (n : Nat) (hn : n ≤ 281474976710656) (w : World) :
    Calls Tryz.prog 74 #[.int .i64 n] w fun e w' => ∃ A c, e = .returned (.slice A (pad n).length c) ∧ OwnB w' 5 w.heap.size A c (pad n) ∧ Ext w w' := by
  obtain ⟨i0, hi0, hz0, hz1, hz2⟩ := info_parts info_u8
  have hpl := pad_len n
  have hzl := zeros_lt n
  have HPL := Lib.hid hpl
  clear hpl
  go_enter Tryz.func74, Tryz.ntmps74
  go_wp2_with fail
  go_loopw [3] (fun v wr => ∃ (k : Nat) (B : Option Addr) (d : Nat), k ≤ zeros n ∧ v = .slice B (1 + k) d ∧ OwnB wr 5 w.heap.size B d ((pad n).take (1 + k)) ∧ Ext w wr) (fun v _ => 100 - lenOf v)
  case atStart => exact ⟨0, _, 1, Nat.zero_le _, rfl, OwnB.lit (w := w) (E := 5) (base := w.heap.size) [128] #[.int .u8 128] rfl (Nat.le_refl _) (by simp [maxLen]), Ext.alloc _ _⟩
  case round =>
    obtain ⟨k, B, d, hk, rfl, hor, hxr⟩ := hrel
    have hl : ((pad n).take (1 + k)).length = 1 + k := by rw [List.length_take]; have := HPL.out; omega
    by_cases hlt : k < zeros n
    · have hne : ¬ ((n + 1 + k + 8) % 64 = 0) := fun h => by have := (zeros_least n k hk).1 h; omega
      have t1 : (((n : Int) + (1 + (k : Int)) + 8) % 64 != 0) = true := bne_t (by omega)
      have t2 : (((n : Int) + ((1 + k : Nat) : Int) + 8) % 64 != 0) = true := bne_t (by omega)
      have hsz := hxr.size
      have hor' := hor.ext (Ext.alloc wr (.cells #[.int .u8 0] 5))
      have hlit := RB.lit wr [0] #[.int .u8 0] 5 rfl
      have HS := Lib.hid (take_snoc_some (pad_zero_at n k hlt))
      have hb1 : ((pad n).take (1 + k)).length + ([0] : List UInt8).length ≤ 140737488355328 := by rw [hl]; simp; omega
      have HL := Lib.hid hl
      clear hne hl
      go_wp2_with (at_builtin; refine wpList_append_bytes _ rfl _ _ 31 rfl w.heap.size 5 i0 Tryz.underlying31 hi0 hz0 hz1 hz2 B d ((pad n).take (1 + k)) (by rw [HL.out]; rfl) hor' _ (some ⟨wr.heap.size, 0, none⟩) 1 [0] rfl hlit hb1 (by simp; omega) ?_; intro A' c' w2 ho2 hg2 hb2)
      have hxn := grown_new (hxr.tr (Ext.alloc _ _)) hg2 hor'.ge
      rw [HS.out] at ho2
      go_roundw
      case rel => exact ⟨k + 1, A', c', by omega, by rw [show min (1 + k) (pad n).length + 1 = 1 + (k + 1) by have := HPL.out; omega], ho2, hxn⟩
      case measure => have := HPL.out; simp [lenOf]; omega
    · have hkz : k = zeros n := by omega
      have hze := zeros_fill n
      have t1 : (((n : Int) + (1 + (k : Int)) + 8) % 64 != 0) = false := bne_f (by omega)
      have t2 : (((n : Int) + ((1 + k : Nat) : Int) + 8) % 64 != 0) = false := bne_f (by omega)
      have HKZ := Lib.hid hkz
      have HO := Lib.hid hor
      have HX := Lib.hid hxr
      clear hze hkz hor hxr hl
      go_wp2_with fail
      go_loopw [3, 5] (fun v i wr => ∃ (p : Nat) (B : Option Addr) (d : Nat), p ≤ 8 ∧ i = .int .i64 ((p : Int) - 1) ∧ v = .slice B (1 + k + (8 - p)) d ∧ OwnB wr 5 w.heap.size B d ((pad n).take (1 + k + (8 - p))) ∧ Ext w wr) (fun _ i _ => (intOf i + 1).toNat)
      case atStart => exact ⟨8, _, _, Nat.le_refl _, rfl, rfl, HO.out, HX.out⟩
      case round =>
        obtain ⟨p, B, d, hp, rfl, rfl, hor, hxr⟩ := hrel
        have hl : ((pad n).take (1 + k + (8 - p))).length = 1 + k + (8 - p) := by rw [List.length_take]; have := HPL.out; have := HKZ.out; omega
        by_cases hlt : 0 < p
        · obtain ⟨m, rfl⟩ : ∃ m, p = m + 1 := ⟨p - 1, by omega⟩
          rw [show (((m + 1 : Nat) : Int) - 1) = (m : Int) by omega]
          obtain ⟨v, hv⟩ : ∃ v : UInt8, v = UInt8.ofNat (8 * n / 2 ^ (8 * m)) := ⟨_, rfl⟩
          have hvi : (n : Int) * 8 / 2 ^ (8 * m) % 256 = (v.toNat : Int) := by
            have h := byte_int (8 * n) m
            rw [← hv] at h
            rw [← h, show (n : Int) * 8 = ((8 * n : Nat) : Int) by omega]
          have hat : (pad n)[1 + k + (8 - (m + 1))]? = some v := by
            have h := pad_size_at n (8 - (m + 1)) (by omega)
            rw [show 7 - (8 - (m + 1)) = m by omega, ← hv, ← HKZ.out] at h
            exact h
          have hsz := hxr.size
          have hor' := hor.ext (Ext.alloc wr (.cells #[.int .u8 (v.toNat : Int)] 5))
          have hlit := RB.lit wr [v] #[.int .u8 (v.toNat : Int)] 5 rfl
          have HS := Lib.hid (take_snoc_some hat)
          have hb1 : ((pad n).take (1 + k + (8 - (m + 1)))).length + ([v] : List UInt8).length ≤ 140737488355328 := by rw [hl]; simp; omega
          have HL := Lib.hid hl
          clear hl hv hat
          go_wp2_with (at_builtin; refine wpList_append_bytes _ rfl _ _ 31 rfl w.heap.size 5 i0 Tryz.underlying31 hi0 hz0 hz1 hz2 B d ((pad n).take (1 + k + (8 - (m + 1)))) (by rw [HL.out]; rfl) hor' _ (some ⟨wr.heap.size, 0, none⟩) 1 [v] rfl hlit hb1 (by simp; omega) ?_; intro A' c' w2 ho2 hg2 hb2)
          have hxn := grown_new (hxr.tr (Ext.alloc _ _)) hg2 hor'.ge
          rw [HS.out, show 1 + k + (8 - (m + 1)) + 1 = 1 + k + (8 - m) by omega] at ho2
          go_roundw
          case rel => exact ⟨m, A', c', by omega, rfl, by congr 1; have := HPL.out; have := HKZ.out; omega, ho2, hxn⟩
          case measure => simp [intOf]
        · obtain rfl : p = 0 := by omega
          have e : (pad n).take (1 + k + (8 - 0)) = pad n := List.take_of_length_le (by have := HPL.out; have := HKZ.out; omega)
          rw [e] at hor hl
          have HO2 := Lib.hid hor
          have HX2 := Lib.hid hxr
          have HL := Lib.hid hl
          clear hor hxr hl e
          go_wp2_with fail
          go_ret
          exact ⟨B, d, by rw [HL.out]; rfl, HO2.out, HX2.out⟩

end Go.Proofs.YtagegigffohcbaaGreatDoor

namespace Go.Proofs.YtagegigffohcbaaGreatDoor
open Go.RowKit

/-- in a region whose last operations alone write: a whole array is read -/
theorem wpStill_load_arr {P : Program} {ops : Array Oper} {w : World} {Q : Act → Prop} {a : Act} {o : Oper} {rest : List Oper} (hw : Region.wanted o (yielded ops a.tmps) = true) (ty : TypeId) (x : Operand) (ho : o.op = .load ty x) (g off : Nat) (hx : a.eval x = .pointer (some ⟨g, off, none⟩)) (k : IntKind) (n : Nat) (f : Nat → Nat) (e : TypeId)
    (hS : w.rangeAt g off (tabV k n f).toList) (hu : P.underlying ty = some (.array n e)) (hz : (P.info? ty).map (·.size) = some n) (h : wpStill P ops w Q rest (a.put o.dst (.agg (tabV k n f)))) : wpStill P ops w Q (o :: rest) a := by
  refine wpStill_step (fun K hK => ?_)
  rw [if_pos hw]
  have hl := run_loadVar_mid (P := P) w g off ty (tabV k n f).toList _ hS hu rfl (by rw [Array.length_toList, tabV_size]; exact hz)
  rw [Array.toArray_toList] at hl
  unfold Oper.still execOp
  simp only [ho, hx, Instr.loadAt, Instr.sureAddr, Sem.run_bind, Sem.run_pure, Result.andThen_ok, hl, Oper.stillUpon_value]
  exact hK _ h
/-- a part of a slice -/
theorem run_slice_row {P : Program} {t e : TypeId} (hu : P.underlying t = some (.slice e)) (hs : (P.info? e).map (·.size) = some 1) (g off len cap lo n : Nat) (h1 : lo + n ≤ cap) (h2 : 0 < n) (i j : Int) (hi : i = lo) (hj : j = ((lo + n : Nat) : Int)) (W : World) :
    (Instr.sliceAt t (.slice (some ⟨g, off, none⟩) len cap) (some (.int .i64 i)) (some (.int .i64 j)) none).run P W = .ok (.slice (some ⟨g, off + lo, none⟩) n (cap - lo)) W := by
  subst hi hj
  cases hq : P.info? e with
  | none => simp [hq] at hs
  | some ie =>
    have hsz : ie.size = 1 := by simpa [hq] using hs
    have a1 : ¬ cap = lo := by omega
    have a2 : (((lo + n : Nat) : Int)) ≤ (cap : Int) := by omega
    have a3 : (lo : Int) ≤ ((lo + n : Nat) : Int) := by omega
    have a4 : (⟨g, off, none⟩ : Addr).add lo = ⟨g, off + lo, none⟩ := (addr_add _ _).2 rfl
    have a5 : lo + n - lo = n := by omega
    rw [show (Instr.sliceAt t (.slice (some ⟨g, off, none⟩) len cap) (some (.int .i64 (lo : Int))) (some (.int .i64 ((lo + n : Nat) : Int))) none).run P W = (Instr.slice t (.slice (some ⟨g, off, none⟩) len cap) (some (.int .i64 (lo : Int))) (some (.int .i64 ((lo + n : Nat) : Int))) none).run P W by simp [Instr.sliceAt, run_underlying hu]]
    simp only [Instr.slice, Sem.run_bind, run_underlying hu, Result.andThen_ok, Instr.sliceBounds, Sem.run_pure, run_sliceBound W .i64 _ cap _ (Int.natCast_nonneg _) a2, Int.toNat_natCast]
    simp [run_sliceBound W .i64 (lo : Int) (lo + n) _ (Int.natCast_nonneg _) a3, sizeOf, typeInfo, hq, hsz, a1, a4]

theorem own_empty (w : World) (X : Obj) : OwnB ((w.alloc X).alloc (.cells #[] 5)) 5 w.heap.size (some ⟨w.heap.size + 1, 0, none⟩) 0 [] := by
  have h := OwnB.lit (w := w.alloc X) (E := 5) (base := w.heap.size) [] #[] rfl (by simp) (by simp [maxLen])
  rw [show (w.alloc X).heap.size = w.heap.size + 1 by simp] at h
  exact h
/-- the digest's blocks: the state and the table; the padded bytes; the result -/
def HeldS (w : World) (g4 g5 : Nat) (A : Option Addr) (c : Nat) (l : List UInt8) (st : St) (V : World) : Prop :=
  Arr V g4 104 .u32 8 st.get ∧ Arr V g5 106 .u32 64 kc ∧ OwnB V 5 w.heap.size A c l ∧ Arr V w.heap.size 53 .u8 32 (fun _ => 0) ∧ Ext w V
theorem HeldS.ext {w : World} {g4 g5 : Nat} {A : Option Addr} {c : Nat} {l : List UInt8} {st : St} {V V' : World} (h : HeldS w g4 g5 A c l st V) (hx : Ext V V') : HeldS w g4 g5 A c l st V' :=
  ⟨h.1.ext hx, h.2.1.ext hx, h.2.2.1.ext hx, h.2.2.2.1.ext hx, h.2.2.2.2.tr hx⟩
theorem HeldS.store {w : World} {g4 g5 : Nat} {A : Option Addr} {c : Nat} {l : List UInt8} {st st' : St} {V V' : World} (h : HeldS w g4 g5 A c l st V) (h1 : g4 < g5) (h2 : w.heap.size < g4) (hA : Arr V' g4 104 .u32 8 st'.get) (hG : V.grownBy V' (some g4)) : HeldS w g4 g5 A c l st' V' :=
  ⟨hA, grown_get hG h.2.1 (by simp; omega), h.2.2.1.far hG h.1 (by decide), grown_get hG h.2.2.2.1 (by simp; omega), grown_new h.2.2.2.2 hG (fun g hg => by simp at hg; omega)⟩
set_option maxRecDepth 100000 in
set_option maxHeartbeats 4000000 in
theorem rsum_c (A : Option Addr) (c : Nat) (l : List UInt8) (S : Nat → TypeId → Prop) (w : World) (h : RB w S A l) (hl : l.length ≤ 140737488355200) :
    Calls Tryz.prog 50 #[.slice A l.length c] w fun e w' => e = .returned (.agg (tabV .u8 32 (sum kc l))) ∧ Ext w w' := by
  obtain ⟨i0, hi0, hz0, hz1, hz2⟩ := info_parts info_u8
  have HR := Lib.hid h
  clear h
  have hb0 := new_of w (.cells (tabV .u8 32 (fun _ => 0)) 53)
  have HB0 := Lib.hid hb0
  clear hb0
  go_enter Tryz.func50, Tryz.ntmps50
  go_wp2_with (at_builtin; refine wpList_append_bytes _ rfl (.tmp 9) (.tmp 10) 31 rfl w.heap.size 5 i0 Tryz.underlying31 hi0 hz0 hz1 hz2 (some ⟨w.heap.size + 1, 0, none⟩) 0 [] rfl (own_empty w _) S A c l rfl ((HR.out.ext (Ext.alloc _ _)).ext (Ext.alloc _ _)) (by simp; omega) (by simp; omega) ?_; intro A1 c1 w1 ho1 hg1 hb1)
  have hx1 : Ext w w1 := grown_new ((Ext.alloc _ _).tr (Ext.alloc _ _)) hg1 (fun g hg => by simp [Value.ownBlock] at hg; omega)
  have hb1 : Arr w1 w.heap.size 53 .u8 32 (fun _ => 0) := grown_get hg1 ((Ext.alloc _ _).get HB0.out) (by simp [Value.ownBlock])
  rw [List.nil_append] at ho1
  have HX1 := Lib.hid hx1
  have HO1 := Lib.hid ho1
  have HB1 := Lib.hid hb1
  clear hx1 ho1 hg1 hb1 HB0
  refine (rpad_c l.length (by omega) _).mono ?_
  rintro e w2 ⟨A2, c2, rfl, ho2, hx2⟩
  have hpl : (pad l.length).length ≤ 72 := by rw [pad_len]; have := zeros_lt l.length; omega
  have HO2 := Lib.hid ho2
  have HO1' := Lib.hid (HO1.out.ext hx2)
  have HB2 := Lib.hid (HB1.out.ext hx2)
  have HX2 := Lib.hid (HX1.out.tr hx2)
  clear ho2 hx2 HO1 HB1 HX1
  have hsz2 := HX2.out.size
  go_wp2_with (at_builtin; refine wpList_append_bytes _ rfl (.tmp 11) (.tmp 14) 31 rfl w.heap.size 5 i0 Tryz.underlying31 hi0 hz0 hz1 hz2 A1 c1 l rfl HO1'.out _ A2 c2 (pad l.length) rfl HO2.out.rb (by omega) hsz2 ?_; intro A3 c3 w3 ho3 hg3 hb3)
  have hx3 : Ext w w3 := grown_new HX2.out hg3 HO1'.out.ge
  have hB3 : Arr w3 w.heap.size 53 .u8 32 (fun _ => 0) := grown_get hg3 HB2.out (fun e => by
    rcases HO1'.out.block with ⟨rfl, _, _⟩ | ⟨g, cs, rfl, hge, hh, _⟩
    · simp [Value.ownBlock] at e
    · simp [Value.ownBlock] at e
      subst e
      have hh2 := HB2.out
      unfold Arr at hh2
      rw [hh] at hh2
      injection hh2 with hh2
      injection hh2 with _ ht _
      exact absurd ht (by decide))
  have hfill := pad_fill l.length
  have hpl1 : 9 ≤ (pad l.length).length := by rw [pad_len]; omega
  obtain ⟨q, hq⟩ : ∃ q, q = l ++ pad l.length := ⟨_, rfl⟩
  have hql : l.length + (pad l.length).length = q.length := by rw [hq, List.length_append]
  rw [← hq] at ho3
  rw [hql]
  obtain ⟨N, hN⟩ : ∃ N, q.length = 64 * N := ⟨q.length / 64, by omega⟩
  have hNb : 64 * N ≤ 140737488355328 := by omega
  have hN0 : 0 < N := by omega
  obtain ⟨g3, rfl⟩ : ∃ g3, A3 = some ⟨g3, 0, none⟩ := by
    rcases ho3.block with ⟨_, _, h⟩ | ⟨g, _, h, _⟩
    · rw [h] at hN; simp at hN; omega
    · exact ⟨g, h⟩
  have hc3 := ho3.le
  rw [hN] at hc3 ⊢
  unfold maxLen at hc3
  obtain ⟨hc3a, hc3b⟩ := hc3
  have HQ := Lib.hid hq
  have HN := Lib.hid hN
  have HO3 := Lib.hid ho3
  have HX3 := Lib.hid hx3
  have HB3 := Lib.hid hB3
  clear hq hN ho3 hx3 hB3 hql hfill hpl1 hpl hg3 hb3 hb1 HO1' HO2 HB2 HX2 hsz2
  refine (rstart_c _).mono ?_
  rintro e w4 ⟨rfl, hx4⟩
  have HO4 := Lib.hid (HO3.out.ext hx4)
  have HB4 := Lib.hid (HB3.out.ext hx4)
  have HX4 := Lib.hid (HX3.out.tr hx4)
  clear hx4 HO3 HB3 HX3
  go_wp2_with (refine wpList_store_arr rfl 104 (.tmp 4) (.tmp 16) rfl w4.heap.size .u32 8 st0.get rfl rfl 104 _ (new_of _ _) size_st rfl ?_; intro V4 hA4 hG4)
  have hv4 : Ext w4 V4 := grown_new (Ext.alloc _ _) hG4 (fun g hg => by simp at hg; omega)
  refine (table_c _).mono ?_
  rintro e w5 ⟨rfl, hx5⟩
  have HA5 := Lib.hid (Arr.ext hA4 hx5)
  have HO5 := Lib.hid (HO4.out.ext (hv4.tr hx5))
  have HB5 := Lib.hid (HB4.out.ext (hv4.tr hx5))
  have HX5 := Lib.hid (HX4.out.tr (hv4.tr hx5))
  have hlt4 : w.heap.size < w4.heap.size := HB4.out.lt
  clear hA4 hG4 hv4 hx5 HO4 HB4 HX4
  go_wp2_with (refine wpList_store_arr rfl 106 (.tmp 5) (.tmp 17) rfl w5.heap.size .u32 64 kc rfl rfl 106 _ (new_of _ _) size_wds rfl ?_; intro V5 hA5 hG5)
  have hv5 : Ext w5 V5 := grown_new (Ext.alloc _ _) hG5 (fun g hg => by simp at hg; omega)
  obtain ⟨g4, hg4⟩ : ∃ g4, g4 = w4.heap.size := ⟨_, rfl⟩
  obtain ⟨g5, hg5⟩ : ∃ g5, g5 = w5.heap.size := ⟨_, rfl⟩
  have hle4 : g4 < g5 := by rw [hg4, hg5]; exact HA5.out.lt
  rw [← hg4] at HA5 ⊢
  rw [← hg5] at hA5 ⊢
  have hle0 : w.heap.size < g4 := by rw [hg4]; exact hlt4
  have H5 : HeldS w g4 g5 (some ⟨g3, 0, none⟩) c3 q st0 V5 := ⟨HA5.out.ext hv5, hA5, HO5.out.ext hv5, HB5.out.ext hv5, HX5.out.tr hv5⟩
  have HH5 := Lib.hid H5
  clear hA5 hG5 hv5 hg4 hg5 H5 HA5 HO5 HB5 HX5
  go_loopw [6] (fun v wr => ∃ m i : Nat, m ≤ N ∧ i = 64 * m ∧ v = .int .i64 i ∧ HeldS w g4 g5 (some ⟨g3, 0, none⟩) c3 q (run kc st0 q m) wr) (fun v _ => 64 * N - (intOf v).toNat)
  case atStart => exact ⟨0, 0, by omega, by omega, rfl, by rw [run]; exact HH5.out⟩
  case round =>
    obtain ⟨m, i, hm, hi, rfl, hH⟩ := hrel
    by_cases hlt : m < N
    · have t1 : (i : Int) < 64 * (N : Int) := by omega
      have q1 : IntKind.i64.wrap ((i : Int) + 64) = (i : Int) + 64 := IntWalk.i64_in _ (by omega)
      have hsl := fun W => run_slice_row (P := Tryz.prog) (t := 31) Tryz.underlying31 size_u8 g3 0 (64 * N) c3 i 64 (by omega) (by decide) (i : Int) ((i : Int) + 64) rfl (by omega) W
      have harr := fun (a : Option Addr) (c : Nat) => run_arrayAt (P := Tryz.prog) (t := 98) Tryz.underlying98 a 64 c (by decide)
      rw [Nat.zero_add] at hsl
      have hok := run_ok kc st0_ok q m
      obtain ⟨st, hst⟩ : ∃ st, st = run kc st0 q m := ⟨_, rfl⟩
      rw [← hst] at hok hH
      have hrb := hH.2.2.1.rb
      have hrd : RB wr (fun _ _ => True) (some ⟨g3, i, none⟩) (q.drop i) := by
        have h := hrb.drop (k := i) (cap := c3) (by rw [HN.out]; exact hc3a)
        rw [if_neg (by omega)] at h
        simp only [Option.map_some, (addr_add _ _).2, Nat.zero_add] at h
        exact h.more (fun _ _ _ => trivial)
      have hrg := rangeAt_rb hrd (n := 64) (by rw [List.length_drop, HN.out]; omega) (byt (q.drop i)) (fun j _ => rfl) (by decide)
      have HRG := Lib.hid hrg
      have HST := Lib.hid hst
      have HOK := Lib.hid hok
      have HHm := Lib.hid hH
      have HI := Lib.hid hi
      clear hst hok hH hrb hrd hrg hi
      go_wp2_with fail
      refine wp_region_still_tail 9 (by kernel_rfl) (by kernel_rfl) ?_
      simp only [List.take_succ_cons, List.take_zero, List.drop_succ_cons, List.drop_zero]
      refine wpStill_load_arr (by kernel_rfl) 104 (.tmp 4) rfl g4 0 rfl .u32 8 st.get _ (rangeAt_arr HHm.out.1) Tryz.underlying104 size_st ?_
      iterate 6 (refine wpStill_step (fun K hK => ?_); go_simp; refine hK _ ?_; clear hK K)
      refine wpStill_load_arr (by kernel_rfl) 98 (.tmp 30) rfl g3 i rfl .u8 64 (byt (q.drop i)) _ HRG.out Tryz.underlying98 size_blk ?_
      refine wpStill_load_arr (by kernel_rfl) 106 (.tmp 5) rfl g5 0 rfl .u32 64 kc _ (rangeAt_arr HHm.out.2.1) Tryz.underlying106 size_wds ?_
      refine wpStill_nil ?_
      change wpList _ _ _ _ _ wr.drew
      try simp only [Act.put, List.setIfInBounds_toArray, List.set_cons_zero, List.set_cons_succ]
      clear q1 hsl harr
      have hHd := HHm.out.ext (Ext.drew wr)
      obtain ⟨wd, hwd⟩ : ∃ wd, wd = wr.drew := ⟨_, rfl⟩
      rw [← hwd] at hHd ⊢
      have HHd := Lib.hid hHd
      clear hwd hHd HRG HHm
      go_wp2_with fail
      (with_reducible refine (srblock_c st HOK.out (byt (q.drop i)) (byt_lt _) kc _).mono ?_)
      rintro e W2 ⟨rfl, hx2⟩
      have HH2 := Lib.hid (HHd.out.ext hx2)
      clear hx2
      go_wp2_with (refine wpList_store_arr' rfl rfl 104 (.tmp 4) (.tmp 33) rfl g4 .u32 8 (blk kc st (byt (q.drop i))).get rfl rfl 104 _ HH2.out.1 size_st tabV_size ?_; intro W6 hA6 hG6)
      have hH6 := HH2.out.store hle4 hle0 hA6 hG6
      rw [HST.out, HI.out, ← run_succ] at hH6
      go_roundw
      case rel => exact ⟨m + 1, i + 64, by omega, by have := HI.out; omega, by go_num, hH6⟩
      case measure => simp [intOf]; omega
    · have em : m = N := by omega
      have ei : i = 64 * N := by rw [hi, em]
      have t1 : (64 * (N : Int)) ≤ (i : Int) := by omega
      rw [em] at hH
      have HHm := Lib.hid hH
      clear hH hi em
      go_wp2_with fail
      clear ei
      have hdg : sum kc l = dig (run kc st0 q N) := by
        unfold sum
        rw [← HQ.out, HN.out, Nat.mul_div_cancel_left N (by decide)]
      obtain ⟨st, hst⟩ : ∃ st, st = run kc st0 q N := ⟨_, rfl⟩
      rw [← hst] at HHm hdg
      have HDG := Lib.hid hdg
      obtain ⟨g7, hg7⟩ : ∃ g7, g7 = wr.heap.size := ⟨_, rfl⟩
      have hz7 : Arr (wr.alloc (.cells (tabV .u8 32 (fun _ => 0)) 53)) wr.heap.size 53 .u8 32 (fun _ => 0) := Arr.new _ _ _ _ _
      have hH7 := HHm.out.ext (Ext.alloc wr (.cells (tabV .u8 32 (fun _ => 0)) 53))
      have hlt7 : g4 < g7 ∧ w.heap.size < g7 := by rw [hg7]; exact ⟨HHm.out.1.lt, HHm.out.2.2.2.1.lt⟩
      obtain ⟨hl7, hl7'⟩ := hlt7
      rw [← hg7] at hz7 ⊢
      have HZ7 := Lib.hid hz7
      have HH7 := Lib.hid hH7
      clear hst hdg hg7 hz7 hH7
      go_loopw [8] (fun v wv => ∃ n : Nat, n ≤ 32 ∧ v = .int .i64 n ∧ Arr wv g4 104 .u32 8 st.get ∧ Arr wv w.heap.size 53 .u8 32 (fun _ => 0) ∧ Arr wv g7 53 .u8 32 (fun i => if i < n then dig st i else 0) ∧ Ext w wv) (fun v _ => 32 - (intOf v).toNat)
      case atStart => exact ⟨0, by omega, rfl, HH7.out.1, HH7.out.2.2.2.1, HZ7.out, HH7.out.2.2.2.2⟩
      case round =>
        obtain ⟨n, hn, rfl, hS, hR, hA, hx⟩ := hrel
        by_cases hln : n < 32
        · have hc := hS.cell (i := n / 4) (by omega)
          have hcn := hA.cell (i := n) hln
          have hf := hA.free n
          have HS := Lib.hid hS
          have HRR := Lib.hid hR
          have HA := Lib.hid hA
          have HX := Lib.hid hx
          have m1 : 0 ≤ 24 - 8 * ((n : Int) % 4) := by omega
          have m2 : 8 * ((n : Int) % 4) ≤ 24 := by omega
          clear hS hR hA hx
          go_wp2_with fail
          go_roundw
          case rel =>
            refine ⟨n + 1, by omega, by go_num, HS.out.other (by omega) _ _, HRR.out.other (by omega) _ _, ?_, Below.setCell HX.out (Nat.le_of_lt hl7') _⟩
            refine Arr.to (f := fun i => if i < n then dig st i else 0) HA.out hln ?_ (fun i _ hne => ?_)
            · rw [if_pos (by omega), dig, show 8 * (n % 4) = n % 4 * 8 by omega, Int.natCast_emod, Int.natCast_ediv, Int.natCast_pow]
              rfl
            · by_cases hi : i < n
              · rw [if_pos hi, if_pos (by omega)]
              · rw [if_neg hi, if_neg (by omega)]
          case measure => simp [intOf]; omega
        · have en : n = 32 := by omega
          rw [en] at hA
          clear en
          have HA := Lib.hid (hA.congr (f' := dig st) (fun i hi => if_pos hi))
          have HRR := Lib.hid hR
          have HX := Lib.hid hx
          clear hS hR hA hx
          go_wp2_with (first | (refine wpList_load_arr rfl 53 (.tmp 7) rfl g7 rfl 53 .u8 32 (dig st) _ HA.out Tryz.underlying53 size_dig ?_) | (refine wpList_store_arr rfl 53 (.tmp 2) (.tmp 51) rfl w.heap.size .u8 32 (dig st) rfl rfl 53 _ HRR.out size_dig tabV_size ?_; intro W3 hA3 hG3))
          refine bodyPost_ret (v := .agg (tabV .u8 32 (dig st))) ?_ rfl ⟨by rw [HDG.out], grown_new HX.out hG3 (fun g hg => by simp at hg; omega)⟩
          exact results_cell_row rfl _ _ _ _ _ _ _ rfl hA3 Tryz.underlying53 rfl (by rw [tabV_size]; exact size_dig)

/-- what a law is told of a slice of slices of bytes that came in, the capacities with it -/
def IsRowsC (w : World) (a : Option Addr) (len cap : Nat) (ls : List (List UInt8)) : Prop :=
  ls.length = len ∧ len ≤ cap ∧ cap ≤ maxLen ∧ RBC w (fun g _ => g < w.heap.size) (fun g _ => g < w.heap.size) a ls

end Go.Proofs.YtagegigffohcbaaGreatDoor

namespace Go.Proofs.YtagegigffohcbaaGreatDoor
open Go.RowKit

theorem btl_succ (n : Nat) (f : Nat → Nat) : btl (n + 1) f = btl n f ++ [UInt8.ofNat (f n)] := by
  unfold btl
  rw [List.range_succ, List.map_append]
  rfl
/-- two rows of the call's own in blocks of their own -/
def Apart (A B : Value) : Prop := ∀ g, A.ownBlock = some g → B.ownBlock ≠ some g
theorem OwnB.keepA {w w' : World} {E : TypeId} {base c : Nat} {A : Option Addr} {l : List UInt8} {V : Value} (h : OwnB w E base A c l) (hg : w.grownBy w' V.ownBlock) (hne : Apart (.slice A l.length c) V) : OwnB w' E base A c l := by
  refine h.keep fun g o hA _ hh => grown_get hg hh (fun e => ?_)
  subst hA
  exact hne g rfl e
theorem OwnB.below {w : World} {E : TypeId} {base c : Nat} {A : Option Addr} {l : List UInt8} (h : OwnB w E base A c l) : ∀ g, (Value.slice A l.length c).ownBlock = some g → g < w.heap.size := by
  rcases h.block with ⟨rfl, _, _⟩ | ⟨g, cs, rfl, _, hh, _⟩
  · intro g hg; simp [Value.ownBlock] at hg
  · intro g' hg'; simp [Value.ownBlock] at hg'; subst hg'; exact lt_of_some hh
theorem byte_of {x : Nat} (h : x < 256) : ∃ b : UInt8, b.toNat = x ∧ b = UInt8.ofNat x := ⟨UInt8.ofNat x, by rw [UInt8.toNat_ofNat']; exact Nat.mod_eq_of_lt h, rfl⟩
theorem OwnB.notAt {w : World} {E : TypeId} {base c : Nat} {A : Option Addr} {l : List UInt8} (h : OwnB w E base A c l) {g : Nat} {cs : Array Value} {t : TypeId} {fr : Nat × Nat} (hg : w.heap[g]? = some (.cells cs t fr)) (hne : t ≠ E) : (Value.slice A l.length c).ownBlock ≠ some g := by
  rcases h.block with ⟨rfl, _, _⟩ | ⟨g', cs', rfl, _, hh, _⟩
  · simp [Value.ownBlock]
  · intro e
    simp [Value.ownBlock] at e
    subst e
    rw [hg] at hh
    injection hh with hh
    injection hh with _ ht _
    exact hne ht

set_option maxRecDepth 100000 in
set_option maxHeartbeats 4000000 in
theorem rmac_c (K : Option Addr) (ck : Nat) (key : List UInt8) (SK : Nat → TypeId → Prop) (B : Option Addr) (cb : Nat) (b : List UInt8) (S : Nat → TypeId → Prop) (w : World)
    (hk : RB w SK K key) (hkl : key.length ≤ 140737488355000) (h : RB w S B b) (hl : b.length ≤ 140737488355000) :
    Calls Tryz.prog 26 #[.slice K key.length ck, .slice B b.length cb] w fun e w' => e = .returned (.agg (tabV .u8 32 (hm key b))) ∧ Ext w w' := by
  obtain ⟨i0, hi0, hz0, hz1, hz2⟩ := info_parts info_u8
  have hb0 : Arr (w.alloc (.cells (tabV .u8 32 (fun _ => 0)) 53)) w.heap.size 53 .u8 32 (fun _ => 0) := new_of w _
  have HB0 := Lib.hid hb0
  have HK := Lib.hid hk
  have HR := Lib.hid h
  have HKL := Lib.hid hkl
  have HL := Lib.hid hl
  clear hk h hb0 hl hkl
  by_cases hlt : 64 < key.length
  · have t0 : decide ((64 : Int) < (key.length : Int)) = true := decide_eq_true (by omega)
    have HLT := Lib.hid hlt
    clear hlt
    go_enter Tryz.func26, Tryz.ntmps26
    go_wp2_with (at_builtin; refine wpList_append_bytes _ rfl (.tmp 12) (.tmp 13) 31 rfl w.heap.size 5 i0 Tryz.underlying31 hi0 hz0 hz1 hz2 (some ⟨w.heap.size + 1, 0, none⟩) 0 [] rfl (own_empty w _) SK K ck key rfl ((HK.out.ext (Ext.alloc _ _)).ext (Ext.alloc _ _)) (by have := HKL.out; simp; omega) (by simp; omega) ?_; intro A1 c1 w1 ho1 hg1 _
                 rw [List.nil_append] at ho1
                 have hx1 : Ext w w1 := grown_new ((Ext.alloc _ _).tr (Ext.alloc _ _)) hg1 (fun g hg => by simp [Value.ownBlock] at hg; omega)
                 have hb1 : Arr w1 w.heap.size 53 .u8 32 (fun _ => 0) := grown_get hg1 ((Ext.alloc _ _).get HB0.out) (by simp [Value.ownBlock])
                 have HX1 := Lib.hid hx1
                 have HB1 := Lib.hid hb1
                 have HO1 := Lib.hid ho1
                 have HC1 := Lib.hid ho1.le
                 clear hx1 hb1 hg1 ho1
                 try rw [List.nil_append])
    have HS0 := Lib.hid (rsum_c A1 c1 key _ w1 HO1.out.rb (by have := HKL.out; omega))
    refine HS0.out.mono ?_
    rintro e w2 ⟨rfl, hx2⟩
    have HX2 := Lib.hid (HX1.out.tr hx2)
    have HB2 := Lib.hid (HB1.out.ext hx2)
    clear hx2 HS0 HO1 HB1 HX1
    go_wp2_with (refine wpList_store_arr rfl 53 (.tmp 6) (.tmp 19) rfl w2.heap.size .u8 32 (sum kc key) rfl rfl 53 _ (new_of _ _) size_dig rfl ?_
                 intro w3 hA3 hG3
                 have hx3 : Ext w2 w3 := grown_new (Ext.alloc _ _) hG3 (fun g hg => by simp at hg; omega)
                 have HX3 := Lib.hid (HX2.out.tr hx3)
                 have HB1 := Lib.hid (HB2.out.ext hx3)
                 have HKK := Lib.hid (hA3.rb (fun i _ => sum_lt key i))
                 clear hA3 hG3 hx3)
    obtain ⟨Ak, hAk⟩ : ∃ Ak : Option Addr, Ak = some ⟨w2.heap.size, 0, none⟩ := ⟨_, rfl⟩
    rw [← hAk] at HKK ⊢
    change Hid (RB w3 _ Ak (dg key)) at HKK
    clear hAk
    have hd32 := dg_len key
    have HD32 := Lib.hid hd32
    clear hd32
    have HX0 := Lib.hid (HX3.out)
    have hbase : w.heap.size < w3.heap.size := HB1.out.lt
    go_loopw [7, 8, 9] (fun v u i wr => ∃ (n : Nat) (B1 : Option Addr) (d1 : Nat) (B2 : Option Addr) (d2 : Nat), n ≤ 64 ∧ i = .int .i64 n ∧ v = .slice B1 n d1 ∧ u = .slice B2 n d2 ∧ OwnB wr 5 w3.heap.size B1 d1 (btl n fun i => byt (dg key) i ^^^ 54) ∧ OwnB wr 5 w3.heap.size B2 d2 (btl n fun i => byt (dg key) i ^^^ 92) ∧ Apart (.slice B1 n d1) (.slice B2 n d2) ∧ Ext w3 wr) (fun _ _ i _ => 64 - (intOf i).toNat)
    case atStart => exact ⟨0, none, 0, none, 0, by omega, rfl, rfl, rfl, OwnB.nil _ _ _, OwnB.nil _ _ _, fun g hg => by simp [Value.ownBlock] at hg, Ext.refl _⟩
    case round =>
      obtain ⟨n, B1, d1, B2, d2, hn, rfl, rfl, rfl, ho1, ho2, hap, hx⟩ := hrel
      by_cases hlt : n < 64
      · have HAP := Lib.hid hap
        have hx256 : byt (dg key) n < 256 := byt_lt _ _
        obtain ⟨x, hx0⟩ : ∃ x, x = byt (dg key) n := ⟨_, rfl⟩
        rw [← hx0] at hx256
        obtain ⟨p, hp1, hp2⟩ := byte_of (xor256 hx256 (by decide : 54 < 256))
        obtain ⟨q, hq1, hq2⟩ := byte_of (xor256 hx256 (by decide : 92 < 256))
        have e1 : bits .xor .u8 (x : Int) 54 = (p.toNat : Int) := by rw [hp1]; exact u8_xor_nat x 54 hx256 (by decide)
        have e2 : bits .xor .u8 (x : Int) 92 = (q.toNat : Int) := by rw [hq1]; exact u8_xor_nat x 92 hx256 (by decide)
        have s1 : btl (n + 1) (fun i => byt (dg key) i ^^^ 54) = btl n (fun i => byt (dg key) i ^^^ 54) ++ [p] := by rw [btl_succ, hp2, hx0]
        have s2 : btl (n + 1) (fun i => byt (dg key) i ^^^ 92) = btl n (fun i => byt (dg key) i ^^^ 92) ++ [q] := by rw [btl_succ, hq2, hx0]
        have l1 := btl_len n (fun i => byt (dg key) i ^^^ 54)
        have l2 := btl_len n (fun i => byt (dg key) i ^^^ 92)
        obtain ⟨m1, hm1⟩ : ∃ m, m = btl n (fun i => byt (dg key) i ^^^ 54) := ⟨_, rfl⟩
        obtain ⟨m2, hm2⟩ : ∃ m, m = btl n (fun i => byt (dg key) i ^^^ 92) := ⟨_, rfl⟩
        rw [← hm1] at ho1 s1 l1
        rw [← hm2] at ho2 s2 l2
        have HL1 := Lib.hid l1
        have HL2 := Lib.hid l2
        have HO1' := Lib.hid ho1
        have HO2' := Lib.hid ho2
        have HX := Lib.hid hx
        have hle := hx.size
        have HS1 := Lib.hid s1
        have HS2 := Lib.hid s2
        have hkc := fun h => (HKK.out.ext hx).cell (k := n) h
        have HP1 := Lib.hid hp1
        have HQ1 := Lib.hid hq1
        have HXE := Lib.hid hx0
        have HXB := Lib.hid hx256
        clear l1 l2 ho1 ho2 hx hm1 hm2 hp1 hp2 hq1 hq2 s1 s2 hap hx0 hx256
        by_cases hlk : n < (dg key).length
        · obtain ⟨g, off, hak, hc⟩ := hkc hlk
          subst hak
          have hc2 : wr.cell? ⟨g, off + n, none⟩ = some (.int .u8 x) := by rw [hc, byt_getElem hlk, HXE.out]
          have t1 : decide ((n : Int) < (32 : Int)) = true := decide_eq_true (by have := HD32.out; omega)
          have HCC := Lib.hid hc
          have hltL : (n : Int) < (32 : Int) := by have := HD32.out; omega
          have hltN : n < 32 := by have := HD32.out; omega
          clear hc hkc
          go_wp2_with (at_builtin; first
            | (refine wpList_append_bytes _ rfl (.tmp 33) (.tmp 36) 31 rfl w3.heap.size 5 i0 Tryz.underlying31 hi0 hz0 hz1 hz2 B1 d1 m1 (by rw [HL1.out]; rfl) (HO1'.out.ext (Ext.alloc _ _)) _ (some ⟨wr.heap.size, 0, none⟩) 1 [p] rfl (RB.lit wr [p] #[.int .u8 (p.toNat : Int)] 5 rfl) (by rw [HL1.out]; simp; omega) (by simp; omega) ?_
               intro A4 c4 w4 ho4 hg4 hb4
               have hx4 : Ext w3 w4 := grown_new (HX.out.tr (Ext.alloc _ _)) hg4 HO1'.out.ge
               have ho24 : OwnB w4 5 w3.heap.size B2 d2 m2 := (HO2'.out.ext (Ext.alloc _ _)).keepA hg4 (fun g hg hg' => by rw [HL1.out] at hg'; rw [HL2.out] at hg; exact HAP.out g hg' hg)
               have hap4 : Apart (.slice A4 (m1 ++ [p]).length c4) (.slice B2 m2.length d2) := fun g hg hg' => by
                 have hlt2 := HO2'.out.below g hg'
                 rcases hb4 with hb4 | hb4
                 · rw [hb4, HL1.out] at hg
                   rw [HL2.out] at hg'
                   exact HAP.out g hg hg'
                 · rw [hb4] at hg
                   simp at hg
                   omega
               have HX4 := Lib.hid hx4
               have HO4 := Lib.hid ho4
               have HO24 := Lib.hid ho24
               have HAP4 := Lib.hid hap4
               have hle4 := hx4.size
               clear hx4 ho4 ho24 hap4 hg4 hb4)
            | (refine wpList_append_bytes _ rfl (.tmp 38) (.tmp 41) 31 rfl w3.heap.size 5 i0 Tryz.underlying31 hi0 hz0 hz1 hz2 B2 d2 m2 (by rw [HL2.out]; rfl) (HO24.out.ext (Ext.alloc _ _)) _ (some ⟨w4.heap.size, 0, none⟩) 1 [q] rfl (RB.lit w4 [q] #[.int .u8 (q.toNat : Int)] 5 rfl) (by rw [HL2.out]; simp; omega) (by simp; omega) ?_
               intro A5 c5 w5 ho5 hg5 hb5))
          have hx5 : Ext w3 w5 := grown_new (HX4.out.tr (Ext.alloc _ _)) hg5 HO24.out.ge
          have ho15 : OwnB w5 5 w3.heap.size A4 c4 (m1 ++ [p]) := (HO4.out.ext (Ext.alloc _ _)).keepA hg5 (fun g hg hg' => HAP4.out g hg hg')
          have hap5 : Apart (.slice A4 (m1 ++ [p]).length c4) (.slice A5 (m2 ++ [q]).length c5) := fun g hg hg' => by
            have hlt2 := HO4.out.below g hg
            rcases hb5 with hb5 | hb5
            · rw [hb5] at hg'
              exact HAP4.out g hg hg'
            · rw [hb5] at hg'
              simp at hg'
              omega
          have k1 : (m1 ++ [p]).length = n + 1 := by rw [List.length_append, HL1.out]; rfl
          have k2 : (m2 ++ [q]).length = n + 1 := by rw [List.length_append, HL2.out]; rfl
          rw [k1, k2] at hap5
          clear hg5 hb5
          go_roundw
          case rel => exact ⟨n + 1, A4, c4, A5, c5, by omega, by go_num, by first | rw [HL1.out] | rw [k1], by first | rw [HL2.out] | rw [k2], by rw [HS1.out]; exact ho15, by rw [HS2.out]; exact ho5, hap5, hx5⟩
          case measure => simp [intOf]; omega
        · have t1 : decide ((n : Int) < (32 : Int)) = false := decide_eq_false (by have := HD32.out; omega)
          have hx00 : x = 0 := by rw [HXE.out]; exact byt_over (by omega)
          rw [hx00] at e1 e2
          have e3 : bits .xor .u8 0 54 = (p.toNat : Int) := e1
          have e4 : bits .xor .u8 0 92 = (q.toNat : Int) := e2
          clear hkc e1 e2 hx00
          go_wp2_with (at_builtin; first
            | (refine wpList_append_bytes _ rfl (.tmp 33) (.tmp 36) 31 rfl w3.heap.size 5 i0 Tryz.underlying31 hi0 hz0 hz1 hz2 B1 d1 m1 (by rw [HL1.out]; rfl) (HO1'.out.ext (Ext.alloc _ _)) _ (some ⟨wr.heap.size, 0, none⟩) 1 [p] rfl (RB.lit wr [p] #[.int .u8 (p.toNat : Int)] 5 rfl) (by rw [HL1.out]; simp; omega) (by simp; omega) ?_
               intro A4 c4 w4 ho4 hg4 hb4
               have hx4 : Ext w3 w4 := grown_new (HX.out.tr (Ext.alloc _ _)) hg4 HO1'.out.ge
               have ho24 : OwnB w4 5 w3.heap.size B2 d2 m2 := (HO2'.out.ext (Ext.alloc _ _)).keepA hg4 (fun g hg hg' => by rw [HL1.out] at hg'; rw [HL2.out] at hg; exact HAP.out g hg' hg)
               have hap4 : Apart (.slice A4 (m1 ++ [p]).length c4) (.slice B2 m2.length d2) := fun g hg hg' => by
                 have hlt2 := HO2'.out.below g hg'
                 rcases hb4 with hb4 | hb4
                 · rw [hb4, HL1.out] at hg
                   rw [HL2.out] at hg'
                   exact HAP.out g hg hg'
                 · rw [hb4] at hg
                   simp at hg
                   omega
               have HX4 := Lib.hid hx4
               have HO4 := Lib.hid ho4
               have HO24 := Lib.hid ho24
               have HAP4 := Lib.hid hap4
               have hle4 := hx4.size
               clear hx4 ho4 ho24 hap4 hg4 hb4)
            | (refine wpList_append_bytes _ rfl (.tmp 38) (.tmp 41) 31 rfl w3.heap.size 5 i0 Tryz.underlying31 hi0 hz0 hz1 hz2 B2 d2 m2 (by rw [HL2.out]; rfl) (HO24.out.ext (Ext.alloc _ _)) _ (some ⟨w4.heap.size, 0, none⟩) 1 [q] rfl (RB.lit w4 [q] #[.int .u8 (q.toNat : Int)] 5 rfl) (by rw [HL2.out]; simp; omega) (by simp; omega) ?_
               intro A5 c5 w5 ho5 hg5 hb5))
          have hx5 : Ext w3 w5 := grown_new (HX4.out.tr (Ext.alloc _ _)) hg5 HO24.out.ge
          have ho15 : OwnB w5 5 w3.heap.size A4 c4 (m1 ++ [p]) := (HO4.out.ext (Ext.alloc _ _)).keepA hg5 (fun g hg hg' => HAP4.out g hg hg')
          have hap5 : Apart (.slice A4 (m1 ++ [p]).length c4) (.slice A5 (m2 ++ [q]).length c5) := fun g hg hg' => by
            have hlt2 := HO4.out.below g hg
            rcases hb5 with hb5 | hb5
            · rw [hb5] at hg'
              exact HAP4.out g hg hg'
            · rw [hb5] at hg'
              simp at hg'
              omega
          have k1 : (m1 ++ [p]).length = n + 1 := by rw [List.length_append, HL1.out]; rfl
          have k2 : (m2 ++ [q]).length = n + 1 := by rw [List.length_append, HL2.out]; rfl
          rw [k1, k2] at hap5
          clear hg5 hb5
          go_roundw
          case rel => exact ⟨n + 1, A4, c4, A5, c5, by omega, by go_num, by first | rw [HL1.out] | rw [k1], by first | rw [HL2.out] | rw [k2], by rw [HS1.out]; exact ho15, by rw [HS2.out]; exact ho5, hap5, hx5⟩
          case measure => simp [intOf]; omega
      · have en : n = 64 := by omega
        have f1 : (btl n fun i => byt (dg key) i ^^^ 54) = xk (byt (dg key)) 54 := by rw [en, xk]
        have f2 : (btl n fun i => byt (dg key) i ^^^ 92) = xk (byt (dg key)) 92 := by rw [en, xk]
        rw [f1] at ho1
        rw [f2] at ho2
        have l1 : (xk (byt (dg key)) 54).length = n := by rw [xk_len, en]
        have l2 : (xk (byt (dg key)) 92).length = n := by rw [xk_len, en]
        have hcd : cd (byt (dg key)) b = sum kc (xk (byt (dg key)) 92 ++ dg (xk (byt (dg key)) 54 ++ b)) := rfl
        obtain ⟨m1, hm1⟩ : ∃ m, m = xk (byt (dg key)) 54 := ⟨_, rfl⟩
        obtain ⟨m2, hm2⟩ : ∃ m, m = xk (byt (dg key)) 92 := ⟨_, rfl⟩
        rw [← hm1] at ho1 l1 hcd
        rw [← hm2] at ho2 l2 hcd
        have HO1' := Lib.hid ho1
        have HO2' := Lib.hid ho2
        have HAP := Lib.hid hap
        have HX := Lib.hid hx
        have hle := hx.size
        have HRB := Lib.hid ((HR.out.ext HX0.out).ext hx)
        have HL1 := Lib.hid l1
        have HL2 := Lib.hid l2
        have HCD := Lib.hid hcd
        clear f1 f2 ho1 ho2 hap hx en l1 l2 hcd hm1 hm2
        go_wp2_with (at_builtin; refine wpList_append_bytes _ rfl (.tmp 43) (.tmp 44) 31 rfl w3.heap.size 5 i0 Tryz.underlying31 hi0 hz0 hz1 hz2 B1 d1 m1 (by rw [HL1.out]; rfl) HO1'.out S B cb b rfl HRB.out (by rw [HL1.out]; have := HL.out; omega) hle ?_; intro A4 c4 w4 ho4 hg4 hb4)
        have hx4 : Ext w3 w4 := grown_new HX.out hg4 HO1'.out.ge
        have ho24 : OwnB w4 5 w3.heap.size B2 d2 m2 := HO2'.out.keepA hg4 (fun g hg hg' => by rw [HL1.out] at hg'; rw [HL2.out] at hg; exact HAP.out g hg' hg)
        have hs1 := rsum_c A4 c4 (m1 ++ b) _ w4 ho4.rb (by rw [List.length_append, HL1.out]; have := HL.out; omega)
        rw [List.length_append] at hs1
        have HX4 := Lib.hid hx4
        have HO24 := Lib.hid ho24
        have HS1 := Lib.hid hs1
        clear ho4 hg4 hb4 hx4 ho24 hs1
        (with_reducible refine HS1.out.mono ?_)
        rintro e w5 ⟨rfl, hx5⟩
        have HX5 := Lib.hid (HX4.out.tr hx5)
        have HO5 := Lib.hid (HO24.out.ext hx5)
        clear hx5 HS1 HO24 HX4
        obtain ⟨md, hmd⟩ : ∃ m, m = dg (m1 ++ b) := ⟨_, rfl⟩
        have hi32 : md.length = 32 := by rw [hmd]; exact dg_len _
        have hcd := HCD.out
        rw [← hmd] at hcd
        have HI32 := Lib.hid hi32
        have HCD := Lib.hid hcd
        have HMD := Lib.hid hmd
        clear hmd hi32 hcd
        go_wp2_with (first
          | (refine wpList_store_arr rfl 53 (.tmp 11) (.tmp 46) rfl w5.heap.size .u8 32 (sum kc (m1 ++ b)) rfl rfl 53 _ (new_of _ _) size_dig rfl ?_
             intro w6 hA6 hG6
             have hx6 : Ext w5 w6 := grown_new (Ext.alloc _ _) hG6 (fun g hg => by simp at hg; omega)
             have HX6 := Lib.hid (HX5.out.tr hx6)
             have HO6 := Lib.hid (HO5.out.ext hx6)
             have hrb6 : RB w6 (fun g' t' => g' = w5.heap.size ∧ t' = 53) (some ⟨w5.heap.size, 0, none⟩) md := by rw [HMD.out]; exact hA6.rb (fun i _ => sum_lt _ i)
             have HRB6 := Lib.hid hrb6
             have hle6 := HX6.out.size
             clear hA6 hG6 hx6 hrb6)
          | (at_builtin; refine wpList_append_bytes _ rfl (.tmp 47) (.tmp 48) 31 rfl w3.heap.size 5 i0 Tryz.underlying31 hi0 hz0 hz1 hz2 B2 d2 m2 (by rw [HL2.out]; rfl) HO6.out _ (some ⟨w5.heap.size, 0, none⟩) 32 md (by rw [HI32.out]; rfl) HRB6.out (by rw [HL2.out, HI32.out]; omega) hle6 ?_; intro A7 c7 w7 ho7 hg7 hb7))
        have hx7 : Ext w3 w7 := grown_new HX6.out hg7 HO6.out.ge
        have HX7 := Lib.hid hx7
        have hs2 := rsum_c A7 c7 (m2 ++ md) _ w7 ho7.rb (by rw [List.length_append, HL2.out, HI32.out]; omega)
        rw [List.length_append] at hs2
        have HS2 := Lib.hid hs2
        clear ho7 hg7 hb7 hx7 hs2
        (with_reducible refine HS2.out.mono ?_)
        rintro e w8 ⟨rfl, hx8⟩
        have HX8 := Lib.hid (HX7.out.tr hx8)
        have HB8 := Lib.hid (HB1.out.ext HX8.out)
        clear hx8 HS2 HX7
        go_wp2_with (refine wpList_store_arr' rfl rfl 53 (.tmp 4) (.tmp 50) rfl w.heap.size .u8 32 (sum kc (m2 ++ md)) rfl rfl 53 _ HB8.out size_dig tabV_size ?_; intro w9 hA9 hG9)
        refine bodyPost_ret (v := .agg (tabV .u8 32 (sum kc (m2 ++ md)))) ?_ rfl ⟨by rw [hm, kb, if_pos HLT.out, HCD.out], grown_new (HX0.out.tr HX8.out) hG9 (fun g hg => by simp at hg; omega)⟩
        exact results_cell_row rfl _ _ _ _ _ _ _ rfl hA9 Tryz.underlying53 rfl (by rw [tabV_size]; exact size_dig)
  · have t0 : decide ((64 : Int) < (key.length : Int)) = false := decide_eq_false (by omega)
    have HLT := Lib.hid hlt
    clear hlt
    go_enter Tryz.func26, Tryz.ntmps26
    go_wp2_with (at_builtin; refine wpList_append_bytes _ rfl (.tmp 12) (.tmp 13) 31 rfl w.heap.size 5 i0 Tryz.underlying31 hi0 hz0 hz1 hz2 (some ⟨w.heap.size + 1, 0, none⟩) 0 [] rfl (own_empty w _) SK K ck key rfl ((HK.out.ext (Ext.alloc _ _)).ext (Ext.alloc _ _)) (by have := HKL.out; simp; omega) (by simp; omega) ?_; intro A1 c1 w1 ho1 hg1 _
                 rw [List.nil_append] at ho1
                 have hx1 : Ext w w1 := grown_new ((Ext.alloc _ _).tr (Ext.alloc _ _)) hg1 (fun g hg => by simp [Value.ownBlock] at hg; omega)
                 have hb1 : Arr w1 w.heap.size 53 .u8 32 (fun _ => 0) := grown_get hg1 ((Ext.alloc _ _).get HB0.out) (by simp [Value.ownBlock])
                 have HX1 := Lib.hid hx1
                 have HB1 := Lib.hid hb1
                 have HO1 := Lib.hid ho1
                 have HC1 := Lib.hid ho1.le
                 clear hx1 hb1 hg1 ho1
                 try rw [List.nil_append])
    have HKK := Lib.hid HO1.out.rb
    have HX0 := Lib.hid (HX1.out)
    have hbase : w.heap.size < w1.heap.size := HB1.out.lt
    go_loopw [7, 8, 9] (fun v u i wr => ∃ (n : Nat) (B1 : Option Addr) (d1 : Nat) (B2 : Option Addr) (d2 : Nat), n ≤ 64 ∧ i = .int .i64 n ∧ v = .slice B1 n d1 ∧ u = .slice B2 n d2 ∧ OwnB wr 5 w1.heap.size B1 d1 (btl n fun i => byt key i ^^^ 54) ∧ OwnB wr 5 w1.heap.size B2 d2 (btl n fun i => byt key i ^^^ 92) ∧ Apart (.slice B1 n d1) (.slice B2 n d2) ∧ Ext w1 wr) (fun _ _ i _ => 64 - (intOf i).toNat)
    case atStart => exact ⟨0, none, 0, none, 0, by omega, rfl, rfl, rfl, OwnB.nil _ _ _, OwnB.nil _ _ _, fun g hg => by simp [Value.ownBlock] at hg, Ext.refl _⟩
    case round =>
      obtain ⟨n, B1, d1, B2, d2, hn, rfl, rfl, rfl, ho1, ho2, hap, hx⟩ := hrel
      by_cases hlt : n < 64
      · have HAP := Lib.hid hap
        have hx256 : byt key n < 256 := byt_lt _ _
        obtain ⟨x, hx0⟩ : ∃ x, x = byt key n := ⟨_, rfl⟩
        rw [← hx0] at hx256
        obtain ⟨p, hp1, hp2⟩ := byte_of (xor256 hx256 (by decide : 54 < 256))
        obtain ⟨q, hq1, hq2⟩ := byte_of (xor256 hx256 (by decide : 92 < 256))
        have e1 : bits .xor .u8 (x : Int) 54 = (p.toNat : Int) := by rw [hp1]; exact u8_xor_nat x 54 hx256 (by decide)
        have e2 : bits .xor .u8 (x : Int) 92 = (q.toNat : Int) := by rw [hq1]; exact u8_xor_nat x 92 hx256 (by decide)
        have s1 : btl (n + 1) (fun i => byt key i ^^^ 54) = btl n (fun i => byt key i ^^^ 54) ++ [p] := by rw [btl_succ, hp2, hx0]
        have s2 : btl (n + 1) (fun i => byt key i ^^^ 92) = btl n (fun i => byt key i ^^^ 92) ++ [q] := by rw [btl_succ, hq2, hx0]
        have l1 := btl_len n (fun i => byt key i ^^^ 54)
        have l2 := btl_len n (fun i => byt key i ^^^ 92)
        obtain ⟨m1, hm1⟩ : ∃ m, m = btl n (fun i => byt key i ^^^ 54) := ⟨_, rfl⟩
        obtain ⟨m2, hm2⟩ : ∃ m, m = btl n (fun i => byt key i ^^^ 92) := ⟨_, rfl⟩
        rw [← hm1] at ho1 s1 l1
        rw [← hm2] at ho2 s2 l2
        have HL1 := Lib.hid l1
        have HL2 := Lib.hid l2
        have HO1' := Lib.hid ho1
        have HO2' := Lib.hid ho2
        have HX := Lib.hid hx
        have hle := hx.size
        have HS1 := Lib.hid s1
        have HS2 := Lib.hid s2
        have hkc := fun h => (HKK.out.ext hx).cell (k := n) h
        have HP1 := Lib.hid hp1
        have HQ1 := Lib.hid hq1
        have HXE := Lib.hid hx0
        have HXB := Lib.hid hx256
        clear l1 l2 ho1 ho2 hx hm1 hm2 hp1 hp2 hq1 hq2 s1 s2 hap hx0 hx256
        by_cases hlk : n < key.length
        · obtain ⟨g, off, hak, hc⟩ := hkc hlk
          subst hak
          have hc2 : wr.cell? ⟨g, off + n, none⟩ = some (.int .u8 x) := by rw [hc, byt_getElem hlk, HXE.out]
          have t1 : decide ((n : Int) < (key.length : Int)) = true := decide_eq_true (by have := HLT.out; omega)
          have HCC := Lib.hid hc
          have hltL : (n : Int) < (key.length : Int) := by have := HLT.out; omega
          have hltN : n < key.length := by have := HLT.out; omega
          clear hc hkc
          go_wp2_with (at_builtin; first
            | (refine wpList_append_bytes _ rfl (.tmp 33) (.tmp 36) 31 rfl w1.heap.size 5 i0 Tryz.underlying31 hi0 hz0 hz1 hz2 B1 d1 m1 (by rw [HL1.out]; rfl) (HO1'.out.ext (Ext.alloc _ _)) _ (some ⟨wr.heap.size, 0, none⟩) 1 [p] rfl (RB.lit wr [p] #[.int .u8 (p.toNat : Int)] 5 rfl) (by rw [HL1.out]; simp; omega) (by simp; omega) ?_
               intro A4 c4 w4 ho4 hg4 hb4
               have hx4 : Ext w1 w4 := grown_new (HX.out.tr (Ext.alloc _ _)) hg4 HO1'.out.ge
               have ho24 : OwnB w4 5 w1.heap.size B2 d2 m2 := (HO2'.out.ext (Ext.alloc _ _)).keepA hg4 (fun g hg hg' => by rw [HL1.out] at hg'; rw [HL2.out] at hg; exact HAP.out g hg' hg)
               have hap4 : Apart (.slice A4 (m1 ++ [p]).length c4) (.slice B2 m2.length d2) := fun g hg hg' => by
                 have hlt2 := HO2'.out.below g hg'
                 rcases hb4 with hb4 | hb4
                 · rw [hb4, HL1.out] at hg
                   rw [HL2.out] at hg'
                   exact HAP.out g hg hg'
                 · rw [hb4] at hg
                   simp at hg
                   omega
               have HX4 := Lib.hid hx4
               have HO4 := Lib.hid ho4
               have HO24 := Lib.hid ho24
               have HAP4 := Lib.hid hap4
               have hle4 := hx4.size
               clear hx4 ho4 ho24 hap4 hg4 hb4)
            | (refine wpList_append_bytes _ rfl (.tmp 38) (.tmp 41) 31 rfl w1.heap.size 5 i0 Tryz.underlying31 hi0 hz0 hz1 hz2 B2 d2 m2 (by rw [HL2.out]; rfl) (HO24.out.ext (Ext.alloc _ _)) _ (some ⟨w4.heap.size, 0, none⟩) 1 [q] rfl (RB.lit w4 [q] #[.int .u8 (q.toNat : Int)] 5 rfl) (by rw [HL2.out]; simp; omega) (by simp; omega) ?_
               intro A5 c5 w5 ho5 hg5 hb5))
          have hx5 : Ext w1 w5 := grown_new (HX4.out.tr (Ext.alloc _ _)) hg5 HO24.out.ge
          have ho15 : OwnB w5 5 w1.heap.size A4 c4 (m1 ++ [p]) := (HO4.out.ext (Ext.alloc _ _)).keepA hg5 (fun g hg hg' => HAP4.out g hg hg')
          have hap5 : Apart (.slice A4 (m1 ++ [p]).length c4) (.slice A5 (m2 ++ [q]).length c5) := fun g hg hg' => by
            have hlt2 := HO4.out.below g hg
            rcases hb5 with hb5 | hb5
            · rw [hb5] at hg'
              exact HAP4.out g hg hg'
            · rw [hb5] at hg'
              simp at hg'
              omega
          have k1 : (m1 ++ [p]).length = n + 1 := by rw [List.length_append, HL1.out]; rfl
          have k2 : (m2 ++ [q]).length = n + 1 := by rw [List.length_append, HL2.out]; rfl
          rw [k1, k2] at hap5
          clear hg5 hb5
          go_roundw
          case rel => exact ⟨n + 1, A4, c4, A5, c5, by omega, by go_num, by first | rw [HL1.out] | rw [k1], by first | rw [HL2.out] | rw [k2], by rw [HS1.out]; exact ho15, by rw [HS2.out]; exact ho5, hap5, hx5⟩
          case measure => simp [intOf]; omega
        · have t1 : decide ((n : Int) < (key.length : Int)) = false := decide_eq_false (by have := HLT.out; omega)
          have hx00 : x = 0 := by rw [HXE.out]; exact byt_over (by omega)
          rw [hx00] at e1 e2
          have e3 : bits .xor .u8 0 54 = (p.toNat : Int) := e1
          have e4 : bits .xor .u8 0 92 = (q.toNat : Int) := e2
          clear hkc e1 e2 hx00
          go_wp2_with (at_builtin; first
            | (refine wpList_append_bytes _ rfl (.tmp 33) (.tmp 36) 31 rfl w1.heap.size 5 i0 Tryz.underlying31 hi0 hz0 hz1 hz2 B1 d1 m1 (by rw [HL1.out]; rfl) (HO1'.out.ext (Ext.alloc _ _)) _ (some ⟨wr.heap.size, 0, none⟩) 1 [p] rfl (RB.lit wr [p] #[.int .u8 (p.toNat : Int)] 5 rfl) (by rw [HL1.out]; simp; omega) (by simp; omega) ?_
               intro A4 c4 w4 ho4 hg4 hb4
               have hx4 : Ext w1 w4 := grown_new (HX.out.tr (Ext.alloc _ _)) hg4 HO1'.out.ge
               have ho24 : OwnB w4 5 w1.heap.size B2 d2 m2 := (HO2'.out.ext (Ext.alloc _ _)).keepA hg4 (fun g hg hg' => by rw [HL1.out] at hg'; rw [HL2.out] at hg; exact HAP.out g hg' hg)
               have hap4 : Apart (.slice A4 (m1 ++ [p]).length c4) (.slice B2 m2.length d2) := fun g hg hg' => by
                 have hlt2 := HO2'.out.below g hg'
                 rcases hb4 with hb4 | hb4
                 · rw [hb4, HL1.out] at hg
                   rw [HL2.out] at hg'
                   exact HAP.out g hg hg'
                 · rw [hb4] at hg
                   simp at hg
                   omega
               have HX4 := Lib.hid hx4
               have HO4 := Lib.hid ho4
               have HO24 := Lib.hid ho24
               have HAP4 := Lib.hid hap4
               have hle4 := hx4.size
               clear hx4 ho4 ho24 hap4 hg4 hb4)
            | (refine wpList_append_bytes _ rfl (.tmp 38) (.tmp 41) 31 rfl w1.heap.size 5 i0 Tryz.underlying31 hi0 hz0 hz1 hz2 B2 d2 m2 (by rw [HL2.out]; rfl) (HO24.out.ext (Ext.alloc _ _)) _ (some ⟨w4.heap.size, 0, none⟩) 1 [q] rfl (RB.lit w4 [q] #[.int .u8 (q.toNat : Int)] 5 rfl) (by rw [HL2.out]; simp; omega) (by simp; omega) ?_
               intro A5 c5 w5 ho5 hg5 hb5))
          have hx5 : Ext w1 w5 := grown_new (HX4.out.tr (Ext.alloc _ _)) hg5 HO24.out.ge
          have ho15 : OwnB w5 5 w1.heap.size A4 c4 (m1 ++ [p]) := (HO4.out.ext (Ext.alloc _ _)).keepA hg5 (fun g hg hg' => HAP4.out g hg hg')
          have hap5 : Apart (.slice A4 (m1 ++ [p]).length c4) (.slice A5 (m2 ++ [q]).length c5) := fun g hg hg' => by
            have hlt2 := HO4.out.below g hg
            rcases hb5 with hb5 | hb5
            · rw [hb5] at hg'
              exact HAP4.out g hg hg'
            · rw [hb5] at hg'
              simp at hg'
              omega
          have k1 : (m1 ++ [p]).length = n + 1 := by rw [List.length_append, HL1.out]; rfl
          have k2 : (m2 ++ [q]).length = n + 1 := by rw [List.length_append, HL2.out]; rfl
          rw [k1, k2] at hap5
          clear hg5 hb5
          go_roundw
          case rel => exact ⟨n + 1, A4, c4, A5, c5, by omega, by go_num, by first | rw [HL1.out] | rw [k1], by first | rw [HL2.out] | rw [k2], by rw [HS1.out]; exact ho15, by rw [HS2.out]; exact ho5, hap5, hx5⟩
          case measure => simp [intOf]; omega
      · have en : n = 64 := by omega
        have f1 : (btl n fun i => byt key i ^^^ 54) = xk (byt key) 54 := by rw [en, xk]
        have f2 : (btl n fun i => byt key i ^^^ 92) = xk (byt key) 92 := by rw [en, xk]
        rw [f1] at ho1
        rw [f2] at ho2
        have l1 : (xk (byt key) 54).length = n := by rw [xk_len, en]
        have l2 : (xk (byt key) 92).length = n := by rw [xk_len, en]
        have hcd : cd (byt key) b = sum kc (xk (byt key) 92 ++ dg (xk (byt key) 54 ++ b)) := rfl
        obtain ⟨m1, hm1⟩ : ∃ m, m = xk (byt key) 54 := ⟨_, rfl⟩
        obtain ⟨m2, hm2⟩ : ∃ m, m = xk (byt key) 92 := ⟨_, rfl⟩
        rw [← hm1] at ho1 l1 hcd
        rw [← hm2] at ho2 l2 hcd
        have HO1' := Lib.hid ho1
        have HO2' := Lib.hid ho2
        have HAP := Lib.hid hap
        have HX := Lib.hid hx
        have hle := hx.size
        have HRB := Lib.hid ((HR.out.ext HX0.out).ext hx)
        have HL1 := Lib.hid l1
        have HL2 := Lib.hid l2
        have HCD := Lib.hid hcd
        clear f1 f2 ho1 ho2 hap hx en l1 l2 hcd hm1 hm2
        go_wp2_with (at_builtin; refine wpList_append_bytes _ rfl (.tmp 43) (.tmp 44) 31 rfl w1.heap.size 5 i0 Tryz.underlying31 hi0 hz0 hz1 hz2 B1 d1 m1 (by rw [HL1.out]; rfl) HO1'.out S B cb b rfl HRB.out (by rw [HL1.out]; have := HL.out; omega) hle ?_; intro A4 c4 w4 ho4 hg4 hb4)
        have hx4 : Ext w1 w4 := grown_new HX.out hg4 HO1'.out.ge
        have ho24 : OwnB w4 5 w1.heap.size B2 d2 m2 := HO2'.out.keepA hg4 (fun g hg hg' => by rw [HL1.out] at hg'; rw [HL2.out] at hg; exact HAP.out g hg' hg)
        have hs1 := rsum_c A4 c4 (m1 ++ b) _ w4 ho4.rb (by rw [List.length_append, HL1.out]; have := HL.out; omega)
        rw [List.length_append] at hs1
        have HX4 := Lib.hid hx4
        have HO24 := Lib.hid ho24
        have HS1 := Lib.hid hs1
        clear ho4 hg4 hb4 hx4 ho24 hs1
        (with_reducible refine HS1.out.mono ?_)
        rintro e w5 ⟨rfl, hx5⟩
        have HX5 := Lib.hid (HX4.out.tr hx5)
        have HO5 := Lib.hid (HO24.out.ext hx5)
        clear hx5 HS1 HO24 HX4
        obtain ⟨md, hmd⟩ : ∃ m, m = dg (m1 ++ b) := ⟨_, rfl⟩
        have hi32 : md.length = 32 := by rw [hmd]; exact dg_len _
        have hcd := HCD.out
        rw [← hmd] at hcd
        have HI32 := Lib.hid hi32
        have HCD := Lib.hid hcd
        have HMD := Lib.hid hmd
        clear hmd hi32 hcd
        go_wp2_with (first
          | (refine wpList_store_arr rfl 53 (.tmp 11) (.tmp 46) rfl w5.heap.size .u8 32 (sum kc (m1 ++ b)) rfl rfl 53 _ (new_of _ _) size_dig rfl ?_
             intro w6 hA6 hG6
             have hx6 : Ext w5 w6 := grown_new (Ext.alloc _ _) hG6 (fun g hg => by simp at hg; omega)
             have HX6 := Lib.hid (HX5.out.tr hx6)
             have HO6 := Lib.hid (HO5.out.ext hx6)
             have hrb6 : RB w6 (fun g' t' => g' = w5.heap.size ∧ t' = 53) (some ⟨w5.heap.size, 0, none⟩) md := by rw [HMD.out]; exact hA6.rb (fun i _ => sum_lt _ i)
             have HRB6 := Lib.hid hrb6
             have hle6 := HX6.out.size
             clear hA6 hG6 hx6 hrb6)
          | (at_builtin; refine wpList_append_bytes _ rfl (.tmp 47) (.tmp 48) 31 rfl w1.heap.size 5 i0 Tryz.underlying31 hi0 hz0 hz1 hz2 B2 d2 m2 (by rw [HL2.out]; rfl) HO6.out _ (some ⟨w5.heap.size, 0, none⟩) 32 md (by rw [HI32.out]; rfl) HRB6.out (by rw [HL2.out, HI32.out]; omega) hle6 ?_; intro A7 c7 w7 ho7 hg7 hb7))
        have hx7 : Ext w1 w7 := grown_new HX6.out hg7 HO6.out.ge
        have HX7 := Lib.hid hx7
        have hs2 := rsum_c A7 c7 (m2 ++ md) _ w7 ho7.rb (by rw [List.length_append, HL2.out, HI32.out]; omega)
        rw [List.length_append] at hs2
        have HS2 := Lib.hid hs2
        clear ho7 hg7 hb7 hx7 hs2
        (with_reducible refine HS2.out.mono ?_)
        rintro e w8 ⟨rfl, hx8⟩
        have HX8 := Lib.hid (HX7.out.tr hx8)
        have HB8 := Lib.hid (HB1.out.ext HX8.out)
        clear hx8 HS2 HX7
        go_wp2_with (refine wpList_store_arr' rfl rfl 53 (.tmp 4) (.tmp 50) rfl w.heap.size .u8 32 (sum kc (m2 ++ md)) rfl rfl 53 _ HB8.out size_dig tabV_size ?_; intro w9 hA9 hG9)
        refine bodyPost_ret (v := .agg (tabV .u8 32 (sum kc (m2 ++ md)))) ?_ rfl ⟨by rw [hm, kb, if_neg HLT.out, HCD.out], grown_new (HX0.out.tr HX8.out) hG9 (fun g hg => by simp at hg; omega)⟩
        exact results_cell_row rfl _ _ _ _ _ _ _ rfl hA9 Tryz.underlying53 rfl (by rw [tabV_size]; exact size_dig)
end Go.Proofs.YtagegigffohcbaaGreatDoor
