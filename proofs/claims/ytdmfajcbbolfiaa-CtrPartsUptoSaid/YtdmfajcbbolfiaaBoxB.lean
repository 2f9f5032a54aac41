/-
  The reference's table of substitutions.
-/
import Derived.Test.YtdmfajcbbolfiaaBoxA
import Derived.Test.YtdmfajcbbolfiaaAesE
namespace Go.Proofs.Ytdmfajcbbolfiaa
open Go.RowKit
set_option linter.unusedVariables false
set_option linter.unusedSimpArgs false

theorem size_box : (Try.prog.info? 42).map (·.size) = some 256 := by kernel_rfl
theorem zero_box (W : World) : (zeroValue 42).run Try.prog W = .ok (.agg (tabV .u8 256 (fun _ => 0))) W := by kernel_rfl
set_option maxRecDepth 100000 in
set_option maxHeartbeats 4000000 in
theorem rbox_c (w : World) : Calls Try.prog 24 #[] w fun e w' => e = .returned (.agg (tabV .u8 256 sb)) ∧ Ext w w' := by
  have zb := zero_box
  go_enter Try.func24, Try.ntmps24
  go_wp2_with fail
  go_loopw [2, 3] (fun x v wr => ∃ n : Nat, n ≤ 256 ∧ v = .int .i64 n ∧ x = .int .u8 (gp 3 n : Nat) ∧ Arr wr (w.heap.size + 1) 42 .u8 256 (fun j => if j < n then gp 3 j else 0) ∧ Arr wr w.heap.size 42 .u8 256 (fun _ => 0) ∧ Ext w wr) (fun _ v _ => 256 - (intOf v).toNat)
  case atStart =>
    obtain ⟨h0, h1⟩ := two_new w (.cells (tabV .u8 256 (fun _ => 0)) 42) (.cells (tabV .u8 256 (fun _ => 0)) 42)
    exact ⟨0, by omega, rfl, by rw [gp]; rfl, Arr.congr (f := fun _ => 0) h1 (fun i _ => by simp), h0, (Ext.alloc _ _).tr (Ext.alloc _ _)⟩
  case round =>
    obtain ⟨n, hn, rfl, rfl, hA, hB, hx⟩ := hrel
    by_cases hlt : n < 256
    · have i1 : (n : Int) < 256 := by omega
      have c1 := hA.cell (i := n) hlt
      have f1 := hA.free n
      have hg := gp_lt (show 3 < 256 by decide) n
      obtain ⟨x, hxx⟩ : ∃ x, x = gp 3 n := ⟨_, rfl⟩
      rw [← hxx] at hg ⊢
      have HXX := Lib.hid hxx
      have HA := Lib.hid hA
      have HB := Lib.hid hB
      have HX := Lib.hid hx
      clear hA hB hx hxx
      go_wp2_with fail
      refine (rmul_c x 3 hg (by decide) _).mono ?_
      rintro e v ⟨rfl, rfl⟩
      go_wp2_with fail
      refine ⟨⟨n + 1, by omega, by go_num, by rw [gp, ← HXX.out], HA.out.to hlt (by rw [if_pos (by omega), HXX.out]) (fun j _ hne => ?_), HB.out.other (by omega) _ _, ext_setCell HX.out (by simp) _⟩, ?_⟩
      · by_cases hj : j < n
        · rw [if_pos hj, if_pos (by omega)]
        · rw [if_neg hj, if_neg (by omega)]
      · simp only [intOf]
        omega
    · have e256 : n = 256 := by omega
      subst e256
      have HA := Lib.hid (hA.congr (f' := gp 3) (fun j hj => by rw [if_pos hj]))
      have HB := Lib.hid hB
      have HX := Lib.hid hx
      clear hA hB hx
      obtain ⟨z3, hz3⟩ : ∃ z, z = gp 3 256 := ⟨_, rfl⟩
      rw [← hz3]
      clear hz3
      go_wp2_with fail
      refine (affine_c 0 (by decide) _).mono ?_
      rintro e v ⟨rfl, rfl⟩
      obtain ⟨go, hgo⟩ : ∃ go, go = wr.heap.size := ⟨_, rfl⟩
      obtain ⟨w2, hw2⟩ : ∃ w2, w2 = wr.alloc (.cells (tabV .u8 256 (fun _ => 0)) 42) := ⟨_, rfl⟩
      have hz : Arr w2 go 42 .u8 256 (fun _ => 0) := by rw [hw2, hgo]; exact Arr.new _ _ _ _ _
      have hgl : w.heap.size + 1 < go := by rw [hgo]; exact HA.out.lt
      have x2 : Ext wr w2 := by rw [hw2]; exact Ext.alloc _ _
      have c0 := hz.cell (i := 0) (by decide)
      have f0 := hz.free 0
      rw [← hgo, ← hw2]
      have HZ := Lib.hid hz
      have HA := Lib.hid (HA.out.ext x2)
      have HB := Lib.hid (HB.out.ext x2)
      have HX := Lib.hid (HX.out.tr x2)
      have HGL := Lib.hid hgl
      obtain ⟨a0, ha0⟩ : ∃ a0, a0 = af 0 := ⟨_, rfl⟩
      rw [← ha0]
      have HA0 := Lib.hid ha0
      clear hgo hw2 hz hgl x2 ha0
      go_wp2_with fail
      obtain ⟨w3, hw3⟩ : ∃ w3, w3 = w2.setCell ⟨go, 0, none⟩ (.int .u8 a0) := ⟨_, rfl⟩
      rw [← hw3]
      have HO3 : Hid (Arr w3 go 42 .u8 256 (bxp 0)) := Lib.hid (by
        rw [hw3]
        refine HZ.out.to (by decide) (by rw [bxp_zero, if_pos rfl, HA0.out]) (fun j _ hne => by rw [bxp_zero, if_neg hne]))
      have HA3 : Hid (Arr w3 (w.heap.size + 1) 42 .u8 256 (gp 3)) := Lib.hid (by rw [hw3]; exact HA.out.other (by have := HGL.out; omega) _ _)
      have HB3 : Hid (Arr w3 w.heap.size 42 .u8 256 (fun _ => 0)) := Lib.hid (by rw [hw3]; exact HB.out.other (by have := HGL.out; omega) _ _)
      have HX3 : Hid (Ext w w3) := Lib.hid (by rw [hw3]; exact ext_setCell HX.out (by have := HGL.out; simp; omega) _)
      clear hw3 HZ HA HB HX c0 f0 HA0
      go_loopw [5] (fun v wi => ∃ n : Nat, n ≤ 256 ∧ v = .int .i64 n ∧ Arr wi go 42 .u8 256 (bxp n) ∧ Arr wi (w.heap.size + 1) 42 .u8 256 (gp 3) ∧ Arr wi w.heap.size 42 .u8 256 (fun _ => 0) ∧ Ext w wi) (fun v _ => 256 - (intOf v).toNat)
      case atStart => exact ⟨0, by omega, rfl, HO3.out, HA3.out, HB3.out, HX3.out⟩
      case round =>
        obtain ⟨n, hn, rfl, hO, hA, hB, hx⟩ := hrel
        by_cases hlt : n < 256
        · obtain ⟨wd, hwd⟩ : ∃ wd, wd = wr.drew := ⟨_, rfl⟩
          have xd : Ext wr wd := by rw [hwd]; exact Ext.drew _
          have hO1 := hO.ext xd
          have hA1 := hA.ext xd
          have hpl := gp_lt (show 3 < 256 by decide) n
          have hql := gp_lt (show 3 < 256 by decide) (255 - n)
          have c1 := hA1.cell (i := n) hlt
          have c2 := hA1.cell (i := 255 - n) (by omega)
          have hnew := bxp_new (show n ≤ 255 by omega)
          have hold := fun j (h : j ≠ gp 3 n) => bxp_old h
          obtain ⟨p, hp⟩ : ∃ p, p = gp 3 n := ⟨_, rfl⟩
          obtain ⟨q, hq⟩ : ∃ q, q = gp 3 (255 - n) := ⟨_, rfl⟩
          rw [← hp] at c1 hpl hnew hold
          rw [← hq] at c2 hql hnew
          have c3 := hO1.cell (i := p) hpl
          have f3 := hO1.free p
          have q1 : IntKind.i64.wrap (255 - (n : Int)) = 255 - n := IntWalk.i64_in _ (by omega)
          have t1 : (255 - (n : Int)).toNat = 255 - n := by omega
          have q0 : IntKind.i64.wrap (q : Int) = (q : Int) := IntWalk.i64_in _ (by omega)
          have l1 : (n : Int) ≤ 255 := by omega
          have l2 : 255 - (n : Int) < 256 := by omega
          have l3 : 0 ≤ 255 - (n : Int) := by omega
          have l4 : (p : Int) < 256 := by omega
          have l5 : (n : Int) < 256 := by omega
          have HO1 := Lib.hid hO1
          have HA1 := Lib.hid hA1
          have HB1 := Lib.hid (hB.ext xd)
          have HX1 := Lib.hid (hx.tr xd)
          have HWD := Lib.hid hwd
          have HNEW := Lib.hid hnew
          have HOLD := Lib.hid hold
          clear hO hA hB hx xd hO1 hA1 hwd hnew hold hp hq
          go_wp2_with fail
          refine wp_region_ord 9 (fun W => W = wd) (by kernel_rfl) (by kernel_rfl) (by decide) (by kernel_rfl) HWD.out.symm ?_
          simp only [List.take_succ_cons, List.take_zero, List.drop_succ_cons, List.drop_zero]
          repeat (refine wpTxt_stay ?_ (fun K hK => ?_) rfl ?_; rotate_left; (simp only [Act.put, List.setIfInBounds_toArray, List.set_cons_zero, List.set_cons_succ] at hK; go_simp; exact hK); simp only [Act.put, List.setIfInBounds_toArray, List.set_cons_zero, List.set_cons_succ])
          refine wpTxt_stay ?_ (fun K hK => ?_) rfl ?_
          rotate_left
          · simp only [Act.put, List.setIfInBounds_toArray, List.set_cons_zero, List.set_cons_succ] at hK
            go_simp
            refine (affine_c q hql _).mono ?_
            rintro e v ⟨rfl, rfl⟩
            exact hK
          simp only [Act.put, List.setIfInBounds_toArray, List.set_cons_zero, List.set_cons_succ]
          refine wpTxt_nil ?_
          rintro W rfl
          go_wp2_with fail
          have hgl := HGL.out
          refine ⟨⟨n + 1, by omega, by go_num, HO1.out.to hpl (by rw [HNEW.out]) (fun j _ hne => HOLD.out j hne), HA1.out.other (by omega) _ _, HB1.out.other (by omega) _ _, ext_setCell HX1.out (by simp; omega) _⟩, ?_⟩
          simp only [intOf]
          omega
        · have e256 : n = 256 := by omega
          subst e256
          have HO := Lib.hid (hO.congr (f' := sb) (fun j hj => bxp_all hj))
          have HB := Lib.hid hB
          have HX := Lib.hid hx
          clear hO hA hB hx
          go_wp2_with (first
            | refine wpList_load_arr rfl 42 (.tmp 4) rfl go rfl 42 .u8 256 sb _ HO.out Try.underlying42 size_box ?_
            | (refine wpList_store_arr' rfl rfl 42 (.tmp 0) (.tmp 31) rfl w.heap.size .u8 256 sb rfl rfl 42 _ HB.out size_box tabV_size ?_; intro w5 hA5 hG5))
          refine bodyPost_ret (v := .agg (tabV .u8 256 sb)) ?_ rfl ⟨rfl, grown_new HX.out hG5 (fun g hg => by simp at hg; omega)⟩
          exact results_cell_row rfl _ _ _ _ _ _ _ rfl hA5 Try.underlying42 rfl (by rw [tabV_size]; exact size_box)
set_option maxRecDepth 100000 in
theorem box_c (w : World) : Calls Try.prog 20 #[] w fun e w' => e = .returned (.agg (tabV .u8 256 sb)) ∧ Ext w w' := by
  have zb := zero_box
  have HZ := Lib.hid (Arr.new w 42 .u8 256 (fun _ => 0))
  go_enter Try.func20, Try.ntmps20
  go_wp2_with fail
  refine (rbox_c _).mono ?_
  rintro e w1 ⟨rfl, hx1⟩
  have HB := Lib.hid (HZ.out.ext hx1)
  have HX := Lib.hid ((Ext.alloc _ _).tr hx1)
  clear hx1 HZ
  go_wp2_with (refine wpList_store_arr' rfl rfl 42 (.tmp 0) (.tmp 1) rfl w.heap.size .u8 256 sb rfl rfl 42 _ HB.out size_box tabV_size ?_; intro w5 hA5 hG5)
  refine bodyPost_ret (v := .agg (tabV .u8 256 sb)) ?_ rfl ⟨rfl, grown_new HX.out hG5 (fun g hg => by simp at hg; omega)⟩
  exact results_cell_row rfl _ _ _ _ _ _ _ rfl hA5 Try.underlying42 rfl (by rw [tabV_size]; exact size_box)
end Go.Proofs.Ytdmfajcbbolfiaa
