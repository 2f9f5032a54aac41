/-
  Package sha: the state after a block.
-/
import Derived.Test.YtdbmkkjpdhnllaaDoorShaA
namespace Go.Proofs.YtdbmkkjpdhnllaaDoor
open Go.RowKit

/-- the constants -/
def kL : List Nat := [1116352408, 1899447441, 3049323471, 3921009573, 961987163, 1508970993, 2453635748, 2870763221, 3624381080, 310598401, 607225278, 1426881987, 1925078388, 2162078206, 2614888103, 3248222580, 3835390401, 4022224774, 264347078, 604807628, 770255983, 1249150122, 1555081692, 1996064986, 2554220882, 2821834349, 2952996808, 3210313671, 3336571891, 3584528711, 113926993, 338241895, 666307205, 773529912, 1294757372, 1396182291, 1695183700, 1986661051, 2177026350, 2456956037, 2730485921, 2820302411, 3259730800, 3345764771, 3516065817, 3600352804, 4094571909, 275423344, 430227734, 506948616, 659060556, 883997877, 958139571, 1322822218, 1537002063, 1747873779, 1955562222, 2024104815, 2227730452, 2361852424, 2428436474, 2756734187, 3204031479, 3329325298]
def kc (i : Nat) : Nat := kL.getD i 0
/-- the variable of the constants holds them -/
def Tab (w : World) : Prop := ∃ cs t fr, w.heap[0]? = some (.cells cs t fr) ∧ ∀ i, i < 64 → cs[i]? = some (.int .u32 (kc i : Nat))
theorem Tab.ext {w w' : World} (h : Tab w) (hx : Ext w w') : Tab w' := by
  obtain ⟨cs, t, fr, hh, hc⟩ := h
  exact ⟨cs, t, fr, hx.get hh, hc⟩
theorem Tab.cell {w : World} (h : Tab w) {i : Nat} (hi : i < 64) : w.cell? ⟨0, i, none⟩ = some (.int .u32 (kc i : Nat)) := by
  obtain ⟨cs, t, fr, hh, hc⟩ := h
  rw [cells_of hh]
  exact hc i hi

theorem new3 (w : World) (o p q : Obj) : (((w.alloc o).alloc p).alloc q).heap[w.heap.size]? = some o ∧ (((w.alloc o).alloc p).alloc q).heap[w.heap.size + 1]? = some p ∧ (((w.alloc o).alloc p).alloc q).heap[w.heap.size + 1 + 1]? = some q := by
  obtain ⟨h1, h2⟩ := two_new w o p
  refine ⟨(Ext.alloc _ q).get h1, (Ext.alloc _ q).get h2, ?_⟩
  have h := new_of ((w.alloc o).alloc p) q
  rw [show ((w.alloc o).alloc p).heap.size = w.heap.size + 1 + 1 by simp] at h
  exact h
/-- a rotation, inside a quiet region -/
theorem rot_q (x n : Nat) (m : Int) (hm : m = n) (hx : x < 4294967296) (h1 : 1 ≤ n) (h2 : n ≤ 31) (w : World) : ∀ a : Nat, Calls Tryd.prog 35 #[.int .u32 x, .int .i64 m] (w.drewN a) fun e w'' => e = .returned (.int .u32 (rr x n : Nat)) ∧ ∃ b, w'' = w.drewN b :=
  fun _ => quiet_eq (rot_i x n m hm hx h1 h2 _)
theorem v32 {a b : Int} (h : a = b) : Value.int .u32 a = Value.int .u32 b := by rw [h]
theorem zero_u32 (n : Nat) : Array.replicate n (Value.int .u32 0) = tabV .u32 n (fun _ => 0) := (tabV_zero .u32 n).symm

set_option maxRecDepth 100000 in
set_option maxHeartbeats 4000000 in
theorem block_c (st : St) (hst : st.ok) (bl : Nat → Nat) (hb : ∀ i, bl i < 256) (w : World) (ht : Tab w) :
    Calls Tryd.prog 30 #[.agg (tabV .u32 8 st.get), .agg (tabV .u8 64 bl)] w fun e w' => e = .returned (.agg (tabV .u32 8 (blk kc st bl).get)) ∧ Ext w w' := by
  go_enter Tryd.func30, Tryd.ntmps30
  go_wp2_with (refine wpList_load_row rfl 41 (.tmp 3) rfl (w.heap.size + 1) rfl 41 (tabV .u8 64 bl) (0, 0) _ (new3 _ _ _ _).2.1 Tryd.underlying41 rfl (by rw [tabV_size]; exact size_blk) ?_)
  refine (sched_c bl hb _).mono ?_
  rintro e w1 ⟨rfl, hx1⟩
  obtain ⟨d0, _, d2⟩ := new3 w (.cells (tabV .u32 8 st.get) 49) (.cells (tabV .u8 64 bl) 41) (.cells (tabV .u32 8 (fun _ => 0)) 49)
  have a0 : Arr w1 w.heap.size 49 .u32 8 st.get := hx1.get d0
  have a2 : Arr w1 (w.heap.size + 1 + 1) 49 .u32 8 (fun _ => 0) := hx1.get d2
  have hx : Ext w w1 := (((Ext.alloc _ _).tr (Ext.alloc _ _)).tr (Ext.alloc _ _)).tr hx1
  have A0 := Lib.hid a0
  have A2 := Lib.hid a2
  have HX := Lib.hid hx
  have HT := Lib.hid ht
  have HS := Lib.hid hst
  clear hx1 d0 d2 a0 a2 hx ht hst
  go_wp2_with (refine wpList_store_arr rfl 51 (.tmp 5) (.tmp 20) rfl w1.heap.size .u32 64 (wds bl) rfl rfl 51 _ (new_of _ _) size_wds rfl ?_; intro W hA hG)
  have x1 : Ext w1 W := grown_new (Ext.alloc _ _) hG (fun g hg => by simp at hg; omega)
  have A5 := Lib.hid hA
  have B0 := A0.out.ext x1
  have B2 := Lib.hid (A2.out.ext x1)
  have HX1 := Lib.hid (HX.out.tr x1)
  have c0 := B0.cell (i := 0) (by omega)
  have c1 := B0.cell (i := 1) (by omega)
  have c2 := B0.cell (i := 2) (by omega)
  have c3 := B0.cell (i := 3) (by omega)
  have c4 := B0.cell (i := 4) (by omega)
  have c5 := B0.cell (i := 5) (by omega)
  have c6 := B0.cell (i := 6) (by omega)
  have c7 := B0.cell (i := 7) (by omega)
  simp only [St.get] at c0 c1 c2 c3 c4 c5 c6 c7
  have HB0 := Lib.hid B0
  clear hA hG x1 B0 A0 A2 HX
  go_quiet (fail)
  go_wp2_with fail
  go_quiet (fail)
  go_wp2_with fail
  clear c0 c1 c2 c3 c4 c5 c6 c7
  go_loopw [6, 7, 8, 9, 10, 11, 12, 13, 37] (fun a b c d e f g h i wr => ∃ j : Nat, j ≤ 64 ∧ i = .int .i64 j ∧ a = .int .u32 (rounds kc (wds bl) st j).a ∧ b = .int .u32 (rounds kc (wds bl) st j).b ∧ c = .int .u32 (rounds kc (wds bl) st j).c ∧
    d = .int .u32 (rounds kc (wds bl) st j).d ∧ e = .int .u32 (rounds kc (wds bl) st j).e ∧ f = .int .u32 (rounds kc (wds bl) st j).f ∧ g = .int .u32 (rounds kc (wds bl) st j).g ∧ h = .int .u32 (rounds kc (wds bl) st j).h ∧ Ext W wr) (fun _ _ _ _ _ _ _ _ i _ => 64 - (intOf i).toNat)
  case atStart => exact ⟨0, by omega, rfl, rfl, rfl, rfl, rfl, rfl, rfl, rfl, rfl, (Ext.drewN _ _).tr (Ext.drewN _ _)⟩
  case round =>
    obtain ⟨j, hj, rfl, rfl, rfl, rfl, rfl, rfl, rfl, rfl, rfl, hxr⟩ := hrel
    have hok := rounds_ok (K := kc) (W := wds bl) HS.out j
    obtain ⟨s, hs⟩ : ∃ s, s = rounds kc (wds bl) st j := ⟨_, rfl⟩
    rw [← hs] at hok ⊢
    by_cases hlt : j < 64
    · have hk := (HT.out.ext (HX1.out.tr hxr)).cell hlt
      have hw := (A5.out.ext hxr).cell hlt
      have oe := hok 4
      have oa := hok 0
      simp only [St.get] at oe oa
      obtain ⟨k, hkk⟩ : ∃ k, k = kc j := ⟨_, rfl⟩
      obtain ⟨x, hxx⟩ : ∃ x, x = wds bl j := ⟨_, rfl⟩
      rw [← hkk] at hk
      rw [← hxx] at hw
      have HK := Lib.hid hkk
      have HXX := Lib.hid hxx
      have HSS := Lib.hid hs
      have HOK := Lib.hid hok
      have HXR := Lib.hid hxr
      have H6 := Lib.hid (rot_q s.e 6 6 rfl oe (by omega) (by omega) wr)
      have H11 := Lib.hid (rot_q s.e 11 11 rfl oe (by omega) (by omega) wr)
      have H25 := Lib.hid (rot_q s.e 25 25 rfl oe (by omega) (by omega) wr)
      clear hkk hxx hs hok hxr
      go_wp2_with fail
      go_quiet ((go_at_call 35; first | with_reducible exact H6.out _ | with_reducible exact H11.out _ | with_reducible exact H25.out _))
      rw [t_int s HOK.out k x]
      obtain ⟨t, htt⟩ : ∃ t, t = tOf s k x := ⟨_, rfl⟩
      rw [← htt]
      have HTT := Lib.hid htt
      have H2 := Lib.hid (rot_i s.a 2 2 rfl oa (by omega) (by omega))
      have H13 := Lib.hid (rot_i s.a 13 13 rfl oa (by omega) (by omega))
      have H22 := Lib.hid (rot_i s.a 22 22 rfl oa (by omega) (by omega))
      clear htt H6 H11 H25 hk hw
      go_wp2_with fail
      (with_reducible refine (H2.out _).mono ?_)
      rintro e w' ⟨rfl, rfl⟩
      go_wp2_with fail
      (with_reducible refine (H13.out _).mono ?_)
      rintro e w' ⟨rfl, rfl⟩
      go_wp2_with fail
      (with_reducible refine (H22.out _).mono ?_)
      rintro e w' ⟨rfl, rfl⟩
      go_wp2_with fail
      go_roundw
      case rel =>
        have er : rounds kc (wds bl) st (j + 1) = rnd s k x := by rw [rounds_succ, ← HSS.out, ← HK.out, ← HXX.out]
        refine ⟨j + 1, by omega, by go_num, v32 ?_, v32 ?_, v32 ?_, v32 ?_, v32 ?_, v32 ?_, v32 ?_, v32 ?_, HXR.out.tr (Ext.drewN _ _)⟩
        · rw [er, rnd_a, ← HTT.out, u_int s HOK.out]
          unfold ad
          omega
        · rw [er, rnd_b]
        · rw [er, rnd_c]
        · rw [er, rnd_d]
        · rw [er, rnd_e, ← HTT.out]
          unfold ad
          omega
        · rw [er, rnd_f]
        · rw [er, rnd_g]
        · rw [er, rnd_h]
      case measure => simp [intOf]; omega
    · have ej : j = 64 := by omega
      have HSS := Lib.hid hs
      rw [ej] at hs
      have HS64 := Lib.hid hs
      have HB0' := Lib.hid (HB0.out.ext hxr)
      have HB2' := Lib.hid (B2.out.ext hxr)
      have HXR := Lib.hid (HX1.out.tr hxr)
      clear hs ej hxr hok HB0 B2 HX1 A5
      go_wp2_with fail
      have e108 : (#[Value.int .u32 (s.a : Int), Value.int .u32 (s.b : Int), Value.int .u32 (s.c : Int), Value.int .u32 (s.d : Int), Value.int .u32 (s.e : Int), Value.int .u32 (s.f : Int), Value.int .u32 (s.g : Int), Value.int .u32 (s.h : Int)] : Array Value) = tabV .u32 8 s.get := rfl
      rw [e108]
      clear e108
      obtain ⟨wo, hwo⟩ : ∃ wo : World, wo = wr := ⟨_, rfl⟩
      rw [← hwo] at HB0' HB2' HXR ⊢
      clear hwo
      go_loopw [109] (fun i wr => ∃ n : Nat, n ≤ 8 ∧ i = .int .i64 n ∧ Arr wr w.heap.size 49 .u32 8 (fun i => if i < n then ad (st.get i) (s.get i) else st.get i) ∧ Arr wr (w.heap.size + 1 + 1) 49 .u32 8 (fun _ => 0) ∧ Ext w wr) (fun i _ => 8 - (intOf i).toNat)
      case atStart => exact ⟨0, by omega, rfl, HB0'.out, HB2'.out, HXR.out⟩
      case round =>
        obtain ⟨n, hn, rfl, hA, hB, hx⟩ := hrel
        by_cases hlt : n < 8
        · have hi := fun W => run_index_tab (P := Tryd.prog) (t := 49) Tryd.underlying49 Tryd.underlying48 size_u32 s.get n hlt W
          have hc := hA.cell (i := n) hlt
          have hf := hA.free n
          rw [if_neg (by omega)] at hc
          have HA := Lib.hid hA
          have HB := Lib.hid hB
          have HE := Lib.hid hx
          clear hA hB hx
          go_wp2_with fail
          go_roundw
          case rel =>
            refine ⟨n + 1, by omega, by go_num, ?_, HB.out.other (by omega) _ _, Below.setCell HE.out (by simp) _⟩
            refine Arr.to (f := fun i => if i < n then ad (st.get i) (s.get i) else st.get i) HA.out hlt ?_ (fun i _ hne => ?_)
            · rw [if_pos (by omega)]
              unfold ad
              omega
            · by_cases hi : i < n
              · rw [if_pos hi, if_pos (by omega)]
              · rw [if_neg hi, if_neg (by omega)]
          case measure => simp [intOf]; omega
        · have en : n = 8 := by omega
          rw [en] at hA
          clear en
          have hA' := hA.congr (f' := (blk kc st bl).get) (fun i hi => by rw [if_pos hi, blk, addSt_get _ _ hi, ← HS64.out])
          have HA := Lib.hid hA'
          have HB := Lib.hid hB
          have HE := Lib.hid hx
          clear hA hA' hB hx
          go_wp2_with (first | (refine wpList_load_arr rfl 49 (.tmp 2) rfl w.heap.size rfl 49 .u32 8 (blk kc st bl).get _ HA.out Tryd.underlying49 size_st ?_) | (refine wpList_store_arr rfl 49 (.tmp 4) (.tmp 120) rfl (w.heap.size + 1 + 1) .u32 8 (blk kc st bl).get rfl rfl 49 _ HB.out size_st tabV_size ?_; intro W3 hA3 hG3))
          refine bodyPost_ret (v := .agg (tabV .u32 8 (blk kc st bl).get)) ?_ rfl ⟨rfl, grown_new HE.out hG3 (fun g hg => by simp at hg; omega)⟩
          exact results_cell_row rfl _ _ _ _ _ _ _ rfl hA3 Tryd.underlying49 rfl (by rw [tabV_size]; exact size_st)
end Go.Proofs.YtdbmkkjpdhnllaaDoor
