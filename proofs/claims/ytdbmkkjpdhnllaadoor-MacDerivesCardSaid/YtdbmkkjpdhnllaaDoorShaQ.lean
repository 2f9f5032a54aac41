/-
  The reference's state after a block.
-/
import Derived.Test.YtdbmkkjpdhnllaaDoorShaE
import Derived.StillTailTactics
import Derived.IntWalk
namespace Go.Proofs.YtdbmkkjpdhnllaaDoor
open Go.RowKit

theorem rrot_i (x n : Nat) (m : Int) (hm : m = n) (hx : x < 4294967296) (h1 : 1 ≤ n) (h2 : n ≤ 31) (w : World) :
    Calls Tryd.prog 33 #[.int .u32 x, .int .u64 m] w fun e w' => e = .returned (.int .u32 (rr x n : Nat)) ∧ w = w' := by
  subst hm
  exact rrot_c x n hx h1 h2 w
theorem rrot_q (x n : Nat) (m : Int) (hm : m = n) (hx : x < 4294967296) (h1 : 1 ≤ n) (h2 : n ≤ 31) (w : World) : ∀ a : Nat, Calls Tryd.prog 33 #[.int .u32 x, .int .u64 m] (w.drewN a) fun e w'' => e = .returned (.int .u32 (rr x n : Nat)) ∧ ∃ b, w'' = w.drewN b :=
  fun _ => quiet_eq (rrot_i x n m hm hx h1 h2 _)
theorem rrot_s (x n : Nat) (m : Int) (hm : m = n) (hx : x < 4294967296) (h1 : 1 ≤ n) (h2 : n ≤ 31) (w : World) : Calls Tryd.prog 33 #[.int .u32 x, .int .u64 m] w fun e w'' => e = .returned (.int .u32 (rr x n : Nat)) ∧ w'' = w :=
  (rrot_i x n m hm hx h1 h2 w).mono fun _ _ ⟨he, hw⟩ => ⟨he, hw.symm⟩
theorem wpart_at (bl : Nat → Nat) {i k : Nat} (hk : k < 4) : wpart bl (4 * i + k + 1) i = wpart bl (4 * i + k) i * 256 + bl (4 * i + k) := by
  have h := wpart_same bl (4 * i + k)
  rw [show (4 * i + k) / 4 = i by omega] at h
  exact h
theorem wpart_at_low {bl : Nat → Nat} (hb : ∀ i, bl i < 256) {i k : Nat} (hk : k < 4) : wpart bl (4 * i + k) i < 16777216 := by
  have h := wpart_low hb (4 * i + k)
  rw [show (4 * i + k) / 4 = i by omega] at h
  exact h
theorem new5 (w : World) (o p q r s : Obj) : (((((w.alloc o).alloc p).alloc q).alloc r).alloc s).heap[w.heap.size]? = some o ∧ (((((w.alloc o).alloc p).alloc q).alloc r).alloc s).heap[w.heap.size + 1]? = some p ∧
    (((((w.alloc o).alloc p).alloc q).alloc r).alloc s).heap[w.heap.size + 1 + 1]? = some q ∧ (((((w.alloc o).alloc p).alloc q).alloc r).alloc s).heap[w.heap.size + 1 + 1 + 1]? = some r ∧
    (((((w.alloc o).alloc p).alloc q).alloc r).alloc s).heap[w.heap.size + 1 + 1 + 1 + 1]? = some s := by
  obtain ⟨h1, h2, h3⟩ := new3 w o p q
  have x1 := (Ext.alloc (((w.alloc o).alloc p).alloc q) r)
  have x2 := x1.tr (Ext.alloc _ s)
  refine ⟨x2.get h1, x2.get h2, x2.get h3, ?_, ?_⟩
  · have h := new_of (((w.alloc o).alloc p).alloc q) r
    rw [show (((w.alloc o).alloc p).alloc q).heap.size = w.heap.size + 1 + 1 + 1 by simp] at h
    exact (Ext.alloc _ s).get h
  · have h := new_of ((((w.alloc o).alloc p).alloc q).alloc r) s
    rw [show ((((w.alloc o).alloc p).alloc q).alloc r).heap.size = w.heap.size + 1 + 1 + 1 + 1 by simp] at h
    exact h

/-- the blocks of the reference's Block: its arguments, its result, its words -/
def Rb (w wr : World) (st : St) (bl kf f : Nat → Nat) : Prop :=
  Arr wr (w.heap.size + 1 + 1 + 1 + 1) 51 .u32 64 f ∧ Arr wr (w.heap.size + 1) 41 .u8 64 bl ∧ Arr wr w.heap.size 49 .u32 8 st.get ∧ Arr wr (w.heap.size + 1 + 1) 51 .u32 64 kf ∧
    Arr wr (w.heap.size + 1 + 1 + 1) 49 .u32 8 (fun _ => 0) ∧ Ext w wr
theorem Rb.ext {w wr wr' : World} {st : St} {bl kf f : Nat → Nat} (h : Rb w wr st bl kf f) (hx : Ext wr wr') : Rb w wr' st bl kf f :=
  ⟨h.1.ext hx, h.2.1.ext hx, h.2.2.1.ext hx, h.2.2.2.1.ext hx, h.2.2.2.2.1.ext hx, h.2.2.2.2.2.tr hx⟩
theorem Rb.congr {w wr : World} {st : St} {bl kf f f' : Nat → Nat} (h : Rb w wr st bl kf f) (hf : ∀ i, i < 64 → f i = f' i) : Rb w wr st bl kf f' := ⟨h.1.congr hf, h.2⟩
theorem Rb.set_ {w wr : World} {st : St} {bl kf f f' : Nat → Nat} (h : Rb w wr st bl kf f) {i : Nat} (hi : i < 64) {v : Int} (hv : v = (f' i : Nat)) (hf : ∀ j, j < 64 → j ≠ i → f j = f' j) : Rb w (wr.setCell ⟨w.heap.size + 1 + 1 + 1 + 1, i, none⟩ (.int .u32 v)) st bl kf f' :=
  ⟨h.1.to hi hv hf, h.2.1.other (by omega) _ _, h.2.2.1.other (by omega) _ _, h.2.2.2.1.other (by omega) _ _, h.2.2.2.2.1.other (by omega) _ _, Below.setCell h.2.2.2.2.2 (by simp; omega) _⟩
theorem Rb.grown {w wr wr' : World} {st : St} {bl kf f : Nat → Nat} (h : Rb w wr st bl kf f) {gv : Nat} (hg : w.heap.size + 1 + 1 + 1 + 1 < gv) (hx : wr.grownBy wr' (some gv)) : Rb w wr' st bl kf f :=
  ⟨grown_get hx h.1 (by simp; omega), grown_get hx h.2.1 (by simp; omega), grown_get hx h.2.2.1 (by simp; omega), grown_get hx h.2.2.2.1 (by simp; omega), grown_get hx h.2.2.2.2.1 (by simp; omega),
    grown_new h.2.2.2.2.2 hx (fun g hg' => by simp at hg'; omega)⟩
theorem rb_start (w : World) (st : St) (bl kf : Nat → Nat) :
    Rb w (((((w.alloc (.cells (tabV .u32 8 st.get) 49)).alloc (.cells (tabV .u8 64 bl) 41)).alloc (.cells (tabV .u32 64 kf) 51)).alloc (.cells (tabV .u32 8 (fun _ => 0)) 49)).alloc (.cells (tabV .u32 64 (fun _ => 0)) 51)) st bl kf (fun _ => 0) := by
  obtain ⟨h0, h1, h2, h3, h4⟩ := new5 w (.cells (tabV .u32 8 st.get) 49) (.cells (tabV .u8 64 bl) 41) (.cells (tabV .u32 64 kf) 51) (.cells (tabV .u32 8 (fun _ => 0)) 49) (.cells (tabV .u32 64 (fun _ => 0)) 51)
  exact ⟨h4, h1, h0, h2, h3, ((((Ext.alloc _ _).tr (Ext.alloc _ _)).tr (Ext.alloc _ _)).tr (Ext.alloc _ _)).tr (Ext.alloc _ _)⟩

/-- the words of a state while they are moved on -/
def shifted (s : St) (k i : Nat) : Nat := if k < i then s.get (i - 1) else s.get i
theorem shifted_start (s : St) {i : Nat} (h : i < 8) : s.get i = shifted s 7 i := by unfold shifted; rw [if_neg (by omega)]
theorem mk_get (s : St) (p q : Nat) {i : Nat} (h : i < 8) : (if i = 0 then p else if i = 4 then q else shifted s 0 i) = (St.mk p s.a s.b s.c q s.e s.f s.g).get i := by
  unfold shifted
  rcases i with _ | _ | _ | _ | _ | _ | _ | _ | i <;> first | (simp [St.get]; done) | omega
theorem rnd_get (s : St) (k x : Nat) {i : Nat} (h : i < 8) : (if i = 0 then ad (tOf s k x) (uOf s) else if i = 4 then ad s.d (tOf s k x) else shifted s 0 i) = (rnd s k x).get i := by
  unfold rnd
  exact mk_get s _ _ h
set_option maxRecDepth 100000 in
set_option maxHeartbeats 8000000 in
theorem rblock_c (st : St) (hst : st.ok) (bl : Nat → Nat) (hb : ∀ i, bl i < 256) (kf : Nat → Nat) (w : World) :
    Calls Tryd.prog 27 #[.agg (tabV .u32 8 st.get), .agg (tabV .u8 64 bl), .agg (tabV .u32 64 kf)] w fun e w' => e = .returned (.agg (tabV .u32 8 (blk kf st bl).get)) ∧ Ext w w' := by
  have HST := Lib.hid hst
  clear hst
  go_enter Tryd.func27, Tryd.ntmps27
  go_wp2_with fail
  go_loopw [8] (fun v wr => ∃ i : Nat, i ≤ 16 ∧ v = .int .i64 i ∧ Rb w wr st bl kf (wpart bl (4 * i))) (fun v _ => 16 - (intOf v).toNat)
  case atStart => exact ⟨0, by omega, rfl, (rb_start w st bl kf).congr (fun i _ => (wpart_zero bl i).symm)⟩
  case round =>
    obtain ⟨i, hi, rfl, hA⟩ := hrel
    by_cases hlt : i < 16
    · have HA := Lib.hid hA
      clear hA
      go_wp2_with fail
      obtain ⟨wo, hwo⟩ : ∃ wo : World, wo = wr := ⟨_, rfl⟩
      rw [← hwo] at HA ⊢
      clear hwo
      go_loopw [9] (fun v wr => ∃ k : Nat, k ≤ 4 ∧ v = .int .i64 k ∧ Rb w wr st bl kf (wpart bl (4 * i + k))) (fun v _ => 4 - (intOf v).toNat)
      case atStart => exact ⟨0, by omega, rfl, HA.out⟩
      case round =>
        obtain ⟨k, hk, rfl, hA⟩ := hrel
        by_cases hlk : k < 4
        · have hc := hA.1.cell (i := i) (by omega)
          have hf := hA.1.free i
          have hcb := hA.2.1.cell (i := 4 * i + k) (by omega)
          obtain ⟨x, hxx⟩ : ∃ x, x = wpart bl (4 * i + k) i := ⟨_, rfl⟩
          obtain ⟨c, hcc⟩ : ∃ c, c = bl (4 * i + k) := ⟨_, rfl⟩
          rw [← hxx] at hc
          rw [← hcc] at hcb
          have HXX := Lib.hid hxx
          have HCC := Lib.hid hcc
          have HA2 := Lib.hid hA
          have i1 : (4 : Int) * (i : Int) + (k : Int) < 64 := by omega
          clear hxx hcc hA
          go_wp2_with fail
          go_region
          go_wp2_with fail
          go_roundw
          case rel =>
            refine ⟨k + 1, by omega, by go_num, Rb.ext (HA2.out.set_ (by omega) ?_ (fun j _ hne => ?_)) (Ext.drew _)⟩
            · rw [show 4 * i + (k + 1) = 4 * i + k + 1 by omega, wpart_at bl hlk, ← HXX.out, ← HCC.out]
              have hx : x < 16777216 := by rw [HXX.out]; exact wpart_at_low hb hlk
              have hc : c < 256 := by rw [HCC.out]; exact hb _
              omega
            · rw [show 4 * i + (k + 1) = 4 * i + k + 1 by omega, wpart_other bl (by omega)]
          case measure => simp [intOf]; omega
        · have ek : k = 4 := by omega
          rw [ek] at hA
          have HA2 := Lib.hid hA
          clear ek hA
          go_wp2_with fail
          go_roundw
          case rel => exact ⟨i + 1, by omega, by go_num, by rw [show 4 * (i + 1) = 4 * i + 4 by omega]; exact HA2.out⟩
          case measure => simp [intOf]; omega
    · have ei : i = 16 := by omega
      rw [ei] at hA
      have HA := Lib.hid (hA.congr (f' := fun i => if i < 16 then wds bl i else 0) (fun i hi => wpart_wds bl hi))
      clear ei hA
      go_wp2_with fail
      obtain ⟨wo, hwo⟩ : ∃ wo : World, wo = wr := ⟨_, rfl⟩
      rw [← hwo] at HA ⊢
      clear hwo
      go_loopw [10] (fun v wr => ∃ n : Nat, 16 ≤ n ∧ n ≤ 64 ∧ v = .int .i64 n ∧ Rb w wr st bl kf (fun i => if i < n then wds bl i else 0)) (fun v _ => 64 - (intOf v).toNat)
      case atStart => exact ⟨16, by omega, by omega, rfl, HA.out⟩
      case round =>
        obtain ⟨n, hn, hj, rfl, hA⟩ := hrel
        by_cases hln : n < 64
        · have c15 := hA.1.cell (i := n - 15) (by omega)
          have c2 := hA.1.cell (i := n - 2) (by omega)
          have c16 := hA.1.cell (i := n - 16) (by omega)
          have c7 := hA.1.cell (i := n - 7) (by omega)
          have hf := hA.1.free n
          have cn := hA.1.cell (i := n) (by omega)
          rw [if_pos (by omega)] at c15 c2 c16 c7
          rw [if_neg (by omega)] at cn
          have b1 := wds_lt hb (n := n - 15) (by omega)
          have b2 := wds_lt hb (n := n - 2) (by omega)
          obtain ⟨x, hxx⟩ : ∃ x, x = wds bl (n - 15) := ⟨_, rfl⟩
          obtain ⟨y, hyy⟩ : ∃ y, y = wds bl (n - 2) := ⟨_, rfl⟩
          rw [← hxx] at c15 b1
          rw [← hyy] at c2 b2
          have HX := Lib.hid hxx
          have HY := Lib.hid hyy
          have HA2 := Lib.hid hA
          clear hxx hyy hA
          have n1 : 0 ≤ (n : Int) - 15 := by omega
          have n2 : 0 ≤ (n : Int) - 2 := by omega
          have n3 : 0 ≤ (n : Int) - 16 := by omega
          have n4 : 0 ≤ (n : Int) - 7 := by omega
          have m1 : (15 : Int) ≤ n := by omega
          have m2 : (2 : Int) ≤ n := by omega
          have m3 : (16 : Int) ≤ n := by omega
          have m4 : (7 : Int) ≤ n := by omega
          go_wp2_with fail
          have q16 : IntKind.i64.wrap ((n : Int) - 16) = (n : Int) - 16 := IntWalk.i64_in _ (by omega)
          have q7 : IntKind.i64.wrap ((n : Int) - 7) = (n : Int) - 7 := IntWalk.i64_in _ (by omega)
          have u16 : ((n : Int) - 16).toNat = n - 16 := by omega
          have u7 : ((n : Int) - 7).toNat = n - 7 := by omega
          have l16 : (n : Int) - 16 < 64 := by omega
          have l7 : (n : Int) - 7 < 64 := by omega
          have H7 := rrot_s x 7 7 rfl b1 (by omega) (by omega) wr.drew
          have H18 := rrot_s x 18 18 rfl b1 (by omega) (by omega) wr.drew
          have H17 := rrot_s y 17 17 rfl b2 (by omega) (by omega) wr.drew
          have H19 := rrot_s y 19 19 rfl b2 (by omega) (by omega) wr.drew
          refine wp_region_still_tail 29 (by kernel_rfl) (by kernel_rfl) ?_
          simp only [List.take_succ_cons, List.take_zero, List.drop_succ_cons, List.drop_zero]
          repeat (refine wpStill_step (fun K hK => ?_); go_simp; refine hK _ ?_; clear hK K)
          still_call H7
          repeat (refine wpStill_step (fun K hK => ?_); go_simp; refine hK _ ?_; clear hK K)
          still_call H18
          repeat (refine wpStill_step (fun K hK => ?_); go_simp; refine hK _ ?_; clear hK K)
          still_call H17
          repeat (refine wpStill_step (fun K hK => ?_); go_simp; refine hK _ ?_; clear hK K)
          still_call H19
          repeat (refine wpStill_step (fun K hK => ?_); go_simp; refine hK _ ?_; clear hK K)
          refine wpStill_nil ?_
          clear q16 q7 u16 u7 l16 l7 H7 H18 H17 H19 c15 c2 c16 c7
          change wpList _ _ _ _ _ wr.drew
          have hA3 := HA2.out.ext (Ext.drew wr)
          have cn' : wr.drew.cell? ⟨w.heap.size + 1 + 1 + 1 + 1, n, none⟩ = some (.int .u32 0) := cn
          have hf' : wr.drew.frozen? ⟨w.heap.size + 1 + 1 + 1 + 1, n, none⟩ = false := hf
          obtain ⟨wd, hwd⟩ : ∃ wd, wd = wr.drew := ⟨_, rfl⟩
          rw [← hwd] at hA3 cn' hf' ⊢
          have HA3 := Lib.hid hA3
          clear hwd hA3 cn hf
          go_wp2_with fail
          go_roundw
          case rel =>
            refine ⟨n + 1, by omega, by omega, by go_num, HA3.out.set_ (by omega) ?_ (fun i _ hne => ?_)⟩
            · rw [if_pos (by omega), wds_next bl hn hln, ← HX.out, ← HY.out]
              exact sched_sum _ _ x y b1 b2
            · by_cases hi : i < n
              · rw [if_pos hi, if_pos (by omega)]
              · rw [if_neg hi, if_neg (by omega)]
          case measure => simp [intOf]; omega
        · have en : n = 64 := by omega
          rw [en] at hA
          have HA2 := Lib.hid (hA.congr (f' := wds bl) (fun i hi => if_pos hi))
          clear en hA
          go_wp2_with (first | (refine wpList_load_arr rfl 49 (.tmp 3) rfl w.heap.size rfl 49 .u32 8 st.get _ HA2.out.2.2.1 Tryd.underlying49 size_st ?_) | (refine wpList_store_arr rfl 49 (.tmp 13) (.tmp 82) rfl wr.heap.size .u32 8 st.get rfl rfl 49 _ (new_of _ _) size_st rfl ?_; intro V hV hG))
          have hA3 := HA2.out.ext (grown_new (Ext.alloc _ _) hG (fun g hg => by simp at hg; omega))
          obtain ⟨gv, hgv⟩ : ∃ gv, gv = wr.heap.size := ⟨_, rfl⟩
          have hgt : w.heap.size + 1 + 1 + 1 + 1 < gv := by rw [hgv]; exact HA2.out.1.lt
          rw [← hgv] at hV ⊢
          have HA3 := Lib.hid hA3
          have HV := Lib.hid hV
          clear hA3 hV hG hgv
          go_loopw [14] (fun v wr => ∃ j : Nat, j ≤ 64 ∧ v = .int .i64 j ∧ Rb w wr st bl kf (wds bl) ∧ Arr wr gv 49 .u32 8 (rounds kf (wds bl) st j).get) (fun v _ => 64 - (intOf v).toNat)
          case atStart => exact ⟨0, by omega, rfl, HA3.out, by rw [rounds]; exact HV.out⟩
          case round =>
            obtain ⟨j, hjj, rfl, hA, hV⟩ := hrel
            have hok := rounds_ok (K := kf) (W := wds bl) HST.out j
            obtain ⟨s, hs⟩ : ∃ s, s = rounds kf (wds bl) st j := ⟨_, rfl⟩
            rw [← hs] at hok hV
            by_cases hlj : j < 64
            · have hk := hA.2.2.2.1.cell hlj
              have hw := hA.1.cell hlj
              have c0 := hV.cell (i := 0) (by omega)
              have c1 := hV.cell (i := 1) (by omega)
              have c2 := hV.cell (i := 2) (by omega)
              have c3 := hV.cell (i := 3) (by omega)
              have c4 := hV.cell (i := 4) (by omega)
              have c5 := hV.cell (i := 5) (by omega)
              have c6 := hV.cell (i := 6) (by omega)
              have c7 := hV.cell (i := 7) (by omega)
              have oe := hok 4
              have oa := hok 0
              simp only [St.get] at c0 c1 c2 c3 c4 c5 c6 c7 oe oa
              obtain ⟨k, hkk⟩ : ∃ k, k = kf j := ⟨_, rfl⟩
              obtain ⟨x, hxx⟩ : ∃ x, x = wds bl j := ⟨_, rfl⟩
              rw [← hkk] at hk
              rw [← hxx] at hw
              have HKK := Lib.hid hkk
              have HXX := Lib.hid hxx
              have HSS := Lib.hid hs
              have HOK := Lib.hid hok
              have HA4 := Lib.hid hA
              have HV4 := Lib.hid hV
              have H6 := Lib.hid (rrot_q s.e 6 6 rfl oe (by omega) (by omega) wr)
              have H11 := Lib.hid (rrot_q s.e 11 11 rfl oe (by omega) (by omega) wr)
              have H25 := Lib.hid (rrot_q s.e 25 25 rfl oe (by omega) (by omega) wr)
              clear hkk hxx hs hok hA hV
              go_wp2_with fail
              go_quiet ((go_at_call 33; first | with_reducible exact H6.out _ | with_reducible exact H11.out _ | with_reducible exact H25.out _))
              rw [t_int s HOK.out k x]
              obtain ⟨t, htt⟩ : ∃ t, t = tOf s k x := ⟨_, rfl⟩
              rw [← htt]
              have HTT := Lib.hid htt
              have hA5 := HA4.out.ext (Ext.drewN wr nq)
              have hV5 := HV4.out.ext (Ext.drewN wr nq)
              obtain ⟨V2, hV2⟩ : ∃ V2, V2 = wr.drewN nq := ⟨_, rfl⟩
              rw [← hV2] at hA5 hV5 ⊢
              have c0 := hV5.cell (i := 0) (by omega)
              have c1 := hV5.cell (i := 1) (by omega)
              have c2 := hV5.cell (i := 2) (by omega)
              simp only [St.get] at c0 c1 c2
              have HA5 := Lib.hid hA5
              have HV5 := Lib.hid hV5
              have H2 := Lib.hid (rrot_q s.a 2 2 rfl oa (by omega) (by omega) V2)
              have H13 := Lib.hid (rrot_q s.a 13 13 rfl oa (by omega) (by omega) V2)
              have H22 := Lib.hid (rrot_q s.a 22 22 rfl oa (by omega) (by omega) V2)
              clear htt hV2 hA5 hV5 H6 H11 H25 hk hw HA4 HV4
              go_wp2_with fail
              go_quiet ((go_at_call 33; first | with_reducible exact H2.out _ | with_reducible exact H13.out _ | with_reducible exact H22.out _))
              rw [u_int s HOK.out]
              obtain ⟨u, huu⟩ : ∃ u, u = uOf s := ⟨_, rfl⟩
              rw [← huu]
              have HUU := Lib.hid huu
              clear huu H2 H13 H22 c0 c1 c2
              go_wp2_with fail
              have hA6 := HA5.out.ext (Ext.drewN V2 nq)
              have hV6 := (HV5.out.ext (Ext.drewN V2 nq)).congr (fun i hi => shifted_start s hi)
              obtain ⟨wo2, hwo2⟩ : ∃ wo2, wo2 = V2.drewN nq := ⟨_, rfl⟩
              rw [← hwo2] at hA6 hV6 ⊢
              have HA6 := Lib.hid hA6
              have HV6 := Lib.hid hV6
              clear hwo2 hA6 hV6 HA5 HV5
              go_loopw [17] (fun v wr => ∃ m : Nat, m ≤ 7 ∧ v = .int .i64 m ∧ Rb w wr st bl kf (wds bl) ∧ Arr wr gv 49 .u32 8 (shifted s m)) (fun v _ => (intOf v).toNat)
              case atStart => exact ⟨7, by omega, rfl, HA6.out, HV6.out⟩
              case round =>
                obtain ⟨m, hm, rfl, hA, hV⟩ := hrel
                by_cases hlm : 0 < m
                · have d1 := hV.cell (i := m - 1) (by omega)
                  have d2 := hV.cell (i := m) (by omega)
                  have f2 := hV.free m
                  rw [show shifted s m (m - 1) = s.get (m - 1) by unfold shifted; rw [if_neg (by omega)]] at d1
                  obtain ⟨y, hyy⟩ : ∃ y, y = s.get (m - 1) := ⟨_, rfl⟩
                  rw [← hyy] at d1
                  have HYY := Lib.hid hyy
                  have HA7 := Lib.hid hA
                  have HV7 := Lib.hid hV
                  have m1 : (1 : Int) ≤ m := by omega
                  have m2 : (0 : Int) ≤ (m : Int) - 1 := by omega
                  have m3 : (m : Int) < 8 := by omega
                  clear hyy hA hV
                  go_wp2_with fail
                  go_roundw
                  case rel =>
                    refine ⟨m - 1, by omega, by congr 1; omega, HA7.out.grown hgt (grown_set _ rfl _), HV7.out.to (by omega) ?_ (fun i hi hne => ?_)⟩
                    · rw [HYY.out, show shifted s (m - 1) m = s.get (m - 1) by unfold shifted; rw [if_pos (by omega)]]
                    · unfold shifted
                      by_cases h : m < i
                      · rw [if_pos h, if_pos (by omega)]
                      · rw [if_neg h, if_neg (by omega)]
                  case measure => simp [intOf]; omega
                · obtain rfl : m = 0 := by omega
                  have d0 := hV.cell (i := 0) (by omega)
                  have d4 := hV.cell (i := 4) (by omega)
                  have f0 := hV.free 0
                  have f4 := hV.free 4
                  rw [show shifted s 0 4 = s.d from rfl] at d4
                  rw [show shifted s 0 0 = s.a from rfl] at d0
                  have HA7 := Lib.hid hA
                  have HV7 := Lib.hid hV
                  clear hA hV
                  go_wp2_with fail
                  have hv1 := HV7.out.to (i := 4) (v := ((s.d : Int) + (t : Int)) % 4294967296) (f' := fun i => if i = 4 then ad s.d t else shifted s 0 i) (by omega) (by rw [if_pos rfl]; unfold ad; omega) (fun j _ hne => by rw [if_neg hne])
                  have hv2 := hv1.to (i := 0) (v := ((t : Int) + (u : Int)) % 4294967296) (f' := fun i => if i = 0 then ad t u else if i = 4 then ad s.d t else shifted s 0 i) (by omega) (by rw [if_pos rfl]; unfold ad; omega) (fun j _ hne => by rw [if_neg hne])
                  have hv3 := hv2.congr (f' := (rounds kf (wds bl) st (j + 1)).get) (fun i hi => by rw [rounds_succ, ← HSS.out, ← HKK.out, ← HXX.out, HTT.out, HUU.out]; exact rnd_get s k x hi)
                  have ha1 := HA7.out.grown hgt (grown_set ⟨gv, 4, none⟩ rfl (.int .u32 (((s.d : Int) + (t : Int)) % 4294967296)))
                  have ha2 := ha1.grown hgt (grown_set ⟨gv, 0, none⟩ rfl (.int .u32 (((t : Int) + (u : Int)) % 4294967296)))
                  go_roundw
                  case rel => exact ⟨j + 1, by omega, by go_num, ha2, hv3⟩
                  case measure => simp [intOf]; omega
            · have ej : j = 64 := by omega
              have HSS := Lib.hid hs
              rw [ej] at hs
              have HS64 := Lib.hid hs
              have HA5 := Lib.hid hA
              have HV5 := Lib.hid hV
              clear hs ej hok hA hV
              go_wp2_with fail
              obtain ⟨wo2, hwo2⟩ : ∃ wo2, wo2 = wr := ⟨_, rfl⟩
              rw [← hwo2] at HA5 HV5 ⊢
              clear hwo2
              go_loopw [18] (fun v wr => ∃ m : Nat, m ≤ 8 ∧ v = .int .i64 m ∧ Rb w wr st bl kf (wds bl) ∧ Arr wr gv 49 .u32 8 (fun i => if i < m then ad (s.get i) (st.get i) else s.get i)) (fun v _ => 8 - (intOf v).toNat)
              case atStart => exact ⟨0, by omega, rfl, HA5.out, HV5.out⟩
              case round =>
                obtain ⟨m, hm, rfl, hA, hV⟩ := hrel
                by_cases hlm : m < 8
                · have d1 := hV.cell (i := m) (by omega)
                  have d2 := hA.2.2.1.cell (i := m) (by omega)
                  have f2 := hV.free m
                  rw [if_neg (by omega)] at d1
                  have HA7 := Lib.hid hA
                  have HV7 := Lib.hid hV
                  clear hA hV
                  go_wp2_with fail
                  go_region
                  go_wp2_with fail
                  go_roundw
                  case rel =>
                    refine ⟨m + 1, by omega, by go_num, (HA7.out.grown hgt (grown_set _ rfl _)).ext (Ext.drew _), Arr.ext (HV7.out.to (by omega) ?_ (fun i hi hne => ?_)) (Ext.drew _)⟩
                    · rw [if_pos (by omega)]
                      unfold ad
                      omega
                    · by_cases h : i < m
                      · rw [if_pos h, if_pos (by omega)]
                      · rw [if_neg h, if_neg (by omega)]
                  case measure => simp [intOf]; omega
                · have em : m = 8 := by omega
                  rw [em] at hV
                  clear em
                  have hV' := hV.congr (f' := (blk kf st bl).get) (fun i hi => by rw [if_pos hi, blk, addSt_get _ _ hi, ← HS64.out, ad_comm])
                  have HA7 := Lib.hid hA
                  have HV7 := Lib.hid hV'
                  clear hA hV hV'
                  go_wp2_with (first | (refine wpList_load_arr rfl 49 (.tmp 13) rfl gv rfl 49 .u32 8 (blk kf st bl).get _ HV7.out Tryd.underlying49 size_st ?_) | (refine wpList_store_arr rfl 49 (.tmp 6) (.tmp 183) rfl (w.heap.size + 1 + 1 + 1) .u32 8 (blk kf st bl).get rfl rfl 49 _ HA7.out.2.2.2.2.1 size_st tabV_size ?_; intro W3 hA3 hG3))
                  refine bodyPost_ret (v := .agg (tabV .u32 8 (blk kf st bl).get)) ?_ rfl ⟨rfl, grown_new HA7.out.2.2.2.2.2 hG3 (fun g hg => by simp at hg; omega)⟩
                  exact results_cell_row rfl _ _ _ _ _ _ _ rfl hA3 Tryd.underlying49 rfl (by rw [tabV_size]; exact size_st)
end Go.Proofs.YtdbmkkjpdhnllaaDoor
