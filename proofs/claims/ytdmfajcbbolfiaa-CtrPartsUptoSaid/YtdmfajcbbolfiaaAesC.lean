/-
  Package aes: columns are mixed.
-/
import Derived.Test.YtdmfajcbbolfiaaAesB
namespace Go.Proofs.Ytdmfajcbbolfiaa
open Go.RowKit

theorem size_q : (Try.prog.info? 68).map (·.size) = some 4 := by kernel_rfl
set_option maxRecDepth 100000 in
set_option maxHeartbeats 2000000 in
theorem closure_c (by_ f : Nat → Nat) (hby : ∀ i, i < 4 → by_ i < 256) (hf : ∀ i, i < 4 → f i < 256) (g r : Nat) (hr : r < 4) (w : World) (hg : Arr w g 68 .u8 4 by_) :
    Calls Try.prog 44 #[.agg (tabV .u8 4 f), .int .i64 r, .pointer (some ⟨g, 0, none⟩)] w fun e w' => e = .returned (.int .u8 (dot by_ (fun k => f ((r + k) % 4)) 4 : Nat)) ∧ Ext w w' := by
  have hF : ∀ i, i < 4 → (q4 (f r) (f ((r + 1) % 4)) (f ((r + 2) % 4)) (f ((r + 3) % 4))) i < 256 := by
    intro i hi
    unfold q4
    split
    · exact hf _ hr
    · split
      · exact hf _ (by omega)
      · split
        · exact hf _ (by omega)
        · exact hf _ (by omega)
  have e : dot by_ (fun k => f ((r + k) % 4)) 4 = dot by_ (q4 (f r) (f ((r + 1) % 4)) (f ((r + 2) % 4)) (f ((r + 3) % 4))) 4 := by
    simp only [dot, q4]
    rw [show (r + 0) % 4 = r by omega]
    rfl
  rw [e]
  have hdot := fun W => dot_c by_ (q4 (f r) (f ((r + 1) % 4)) (f ((r + 2) % 4)) (f ((r + 3) % 4))) hby hF W
  rw [tab4] at hdot
  have HDOT := Lib.hid hdot
  obtain ⟨g0, hg0⟩ : ∃ g0, g0 = w.heap.size := ⟨_, rfl⟩
  have HG0 := Lib.hid hg0
  have hA : Arr (w.alloc (.cells (tabV .u8 4 f) 68)) g0 68 .u8 4 f := by rw [hg0]; exact Arr.new _ _ _ _ _
  have hB := hg.ext (Ext.alloc w (.cells (tabV .u8 4 f) 68))
  obtain ⟨wd, hwd⟩ : ∃ wd, wd = (w.alloc (.cells (tabV .u8 4 f) 68)).drew := ⟨_, rfl⟩
  have HA : Hid (Arr wd g0 68 .u8 4 f) := Lib.hid (by rw [hwd]; exact hA.ext (Ext.drew _))
  have HB : Hid (Arr wd g 68 .u8 4 by_) := Lib.hid (by rw [hwd]; exact hB.ext (Ext.drew _))
  have HX : Hid (Ext w wd) := Lib.hid (by rw [hwd]; exact (Ext.alloc _ _).tr (Ext.drew _))
  have HWD := Lib.hid hwd
  have i1 : (r : Int) < 4 := by omega
  have q1 : IntKind.i64.wrap ((r : Int) + 1) = (r : Int) + 1 := IntWalk.i64_in _ (by omega)
  have q2 : IntKind.i64.wrap ((r : Int) + 2) = (r : Int) + 2 := IntWalk.i64_in _ (by omega)
  have q3 : IntKind.i64.wrap ((r : Int) + 3) = (r : Int) + 3 := IntWalk.i64_in _ (by omega)
  obtain ⟨s1, hs1⟩ : ∃ s1, s1 = (r + 1) % 4 := ⟨_, rfl⟩
  obtain ⟨s2, hs2⟩ : ∃ s2, s2 = (r + 2) % 4 := ⟨_, rfl⟩
  obtain ⟨s3, hs3⟩ : ∃ s3, s3 = (r + 3) % 4 := ⟨_, rfl⟩
  have m1 : ((r : Int) + 1).tmod 4 = (s1 : Int) := by rw [Int.tmod_eq_emod_of_nonneg (by omega)]; omega
  have m2 : ((r : Int) + 2).tmod 4 = (s2 : Int) := by rw [Int.tmod_eq_emod_of_nonneg (by omega)]; omega
  have m3 : ((r : Int) + 3).tmod 4 = (s3 : Int) := by rw [Int.tmod_eq_emod_of_nonneg (by omega)]; omega
  have l1 : (s1 : Int) < 4 := by omega
  have l2 : (s2 : Int) < 4 := by omega
  have l3 : (s3 : Int) < 4 := by omega
  rw [← hs1, ← hs2, ← hs3] at HDOT ⊢
  have S1 : s1 < 4 := by omega
  have S2 : s2 < 4 := by omega
  have S3 : s3 < 4 := by omega
  clear hs1 hs2 hs3
  clear hby hf hF e hdot hA hB hg hwd
  go_enter Try.func44, Try.ntmps44
  go_wp2_with fail
  rw [← hg0]
  clear hg0
  refine wp_region_ord 21 (fun W => Ext wd W) (by kernel_rfl) (by kernel_rfl) (by decide) (by kernel_rfl) (by rw [HWD.out]; exact Ext.refl _) ?_
  simp only [List.take_succ_cons, List.take_zero, List.drop_succ_cons, List.drop_zero]
  refine wpTxt_step (.agg (tabV .u8 4 by_)) (fun W K hS hK => wp_load_arr 68 (.tmp 2) rfl g rfl .u8 4 by_ _ _ (HB.out.ext hS) Try.underlying68 size_q (hK _ hS)) rfl ?_
  simp only [Act.put, List.setIfInBounds_toArray, List.set_cons_zero, List.set_cons_succ]
  repeat (refine wpTxt_step ?_ (fun W K hS hK => ?_) rfl ?_; rotate_left; (have c0 := (HA.out.ext hS).cell (i := r) (by omega); have c1 := (HA.out.ext hS).cell (i := s1) S1; have c2 := (HA.out.ext hS).cell (i := s2) S2; have c3 := (HA.out.ext hS).cell (i := s3) S3; simp only [Act.put, List.setIfInBounds_toArray, List.set_cons_zero, List.set_cons_succ] at hK; go_simp; exact hK _ hS); simp only [Act.put, List.setIfInBounds_toArray, List.set_cons_zero, List.set_cons_succ])
  refine wpTxt_step ?_ (fun W K hS hK => ?_) rfl ?_
  rotate_left
  · simp only [Act.put, List.setIfInBounds_toArray, List.set_cons_zero, List.set_cons_succ] at hK
    go_simp
    refine (HDOT.out W).mono ?_
    rintro e W' ⟨rfl, hx'⟩
    exact hK _ (hS.tr hx')
  simp only [Act.put, List.setIfInBounds_toArray, List.set_cons_zero, List.set_cons_succ]
  refine wpTxt_nil ?_
  intro W hS
  have HX2 := Lib.hid (HX.out.tr hS)
  clear hS
  go_wp2_with fail
  go_ret
  exact ⟨rfl, HX2.out⟩

/-- the block while column c is mixed, up to row r -/
def mxp (b : Nat → Nat) (f : Bk) (c r : Nat) : Bk := fun j => if j / 4 < c ∨ (j / 4 = c ∧ j % 4 < r) then mx b f j else f j
set_option maxRecDepth 100000 in
set_option maxHeartbeats 4000000 in
theorem mixed_c (by_ : Nat → Nat) (f : Bk) (hby : ∀ i, i < 4 → by_ i < 256) (hf : Byt f) (w : World) :
    Calls Try.prog 39 #[.agg (tabV .u8 16 f), .agg (tabV .u8 4 by_)] w fun e w' => e = .returned (.agg (tabV .u8 16 (mx by_ f))) ∧ Ext w w' := by
  have HF := Lib.hid hf
  have HBY := Lib.hid hby
  clear hf hby
  go_enter Try.func39, Try.ntmps39
  go_wp2_with fail
  go_loopw [6] (fun v wr => ∃ c i : Nat, c ≤ 4 ∧ Hid (i = 4 * c) ∧ v = .int .i64 i ∧ Arr wr w.heap.size 22 .u8 16 (mxp by_ f c 0) ∧ Arr wr (w.heap.size + 1) 68 .u8 4 by_ ∧ Arr wr (w.heap.size + 1 + 1) 22 .u8 16 (fun _ => 0) ∧ Ext w wr) (fun v _ => 16 - (intOf v).toNat)
  case atStart =>
    obtain ⟨h0, h1, h2⟩ := new3 w (.cells (tabV .u8 16 f) 22) (.cells (tabV .u8 4 by_) 68) (.cells (tabV .u8 16 (fun _ => 0)) 22)
    refine ⟨0, 0, by omega, Lib.hid rfl, rfl, ?_, h1, h2, ((Ext.alloc _ _).tr (Ext.alloc _ _)).tr (Ext.alloc _ _)⟩
    refine Arr.congr (f := f) h0 (fun i hi => ?_)
    unfold mxp
    rw [if_neg (by omega)]
  case round =>
    obtain ⟨c, i, hc, HI, rfl, hA, hB, hC, hx⟩ := hrel
    by_cases hlt : c < 4
    · have hi : i ≤ 12 := by have := HI.out; omega
      have i0 : (i : Int) < 16 := by omega
      have i1 : (i : Int) + 1 < 16 := by omega
      have i2 : (i : Int) + 2 < 16 := by omega
      have i3 : (i : Int) + 3 < 16 := by omega
      have q1 : IntKind.i64.wrap ((i : Int) + 1) = (i : Int) + 1 := IntWalk.i64_in _ (by omega)
      have q2 : IntKind.i64.wrap ((i : Int) + 2) = (i : Int) + 2 := IntWalk.i64_in _ (by omega)
      have q3 : IntKind.i64.wrap ((i : Int) + 3) = (i : Int) + 3 := IntWalk.i64_in _ (by omega)
      have t1 : ((i : Int) + 1).toNat = i + 1 := by omega
      have t2 : ((i : Int) + 2).toNat = i + 2 := by omega
      have t3 : ((i : Int) + 3).toNat = i + 3 := by omega
      obtain ⟨wd, hwd⟩ : ∃ wd, wd = wr.drew := ⟨_, rfl⟩
      obtain ⟨w1, hw1⟩ : ∃ w1, w1 = wd.alloc (.cells (tabV .u8 4 (fun _ => 0)) 68) := ⟨_, rfl⟩
      obtain ⟨ga, hga⟩ : ∃ ga, ga = wd.heap.size := ⟨_, rfl⟩
      have x1 : Ext wd w1 := by rw [hw1]; exact Ext.alloc _ _
      have xd : Ext wr wd := by rw [hwd]; exact Ext.drew _
      have hz : Arr w1 ga 68 .u8 4 (fun _ => 0) := by rw [hw1, hga]; exact Arr.new _ _ _ _ _
      have hgl : w.heap.size + 1 + 1 < ga := by rw [hga]; exact (hC.ext xd).lt
      have hcell : ∀ W, (W = wd ∨ W = w1) → ∀ k, k < 4 → W.cell? ⟨w.heap.size, i + k, none⟩ = some (.int .u8 (f (i + k) : Nat)) := by
        intro W hW k hk
        have h1 : Arr W w.heap.size 22 .u8 16 (mxp by_ f c 0) := by
          rcases hW with rfl | rfl
          · exact hA.ext xd
          · exact (hA.ext xd).ext x1
        have h2 := h1.cell (i := i + k) (by omega)
        unfold mxp at h2
        have := HI.out
        rw [if_neg (by omega)] at h2
        exact h2
      have HCELL := Lib.hid hcell
      have HA := Lib.hid ((hA.ext xd).ext x1)
      have HB := Lib.hid ((hB.ext xd).ext x1)
      have HC := Lib.hid ((hC.ext xd).ext x1)
      have HX := Lib.hid ((hx.tr xd).tr x1)
      have HZ := Lib.hid hz
      have HWD := Lib.hid hwd
      have HW1 := Lib.hid hw1
      have HGA := Lib.hid hga
      have HGL := Lib.hid hgl
      clear hA hB hC hx hz hwd hw1 hga hgl hcell x1 xd
      go_wp2_with fail
      refine wp_region_ordL 17 (Alt 16 wd w1) (by kernel_rfl) (by kernel_rfl) (by decide) (by kernel_rfl) (show wr.drew = if false = true then w1 else wd by rw [if_neg (by decide)]; exact HWD.out.symm) ?_
      simp only [List.take_succ_cons, List.take_zero, List.drop_succ_cons, List.drop_zero]
      repeat (refine wpTxt_alt ?_ (by decide) (fun W K hS hK => ?_) rfl ?_; rotate_left; (have c0 := HCELL.out W hS 0 (by decide); rw [Nat.add_zero] at c0; have c1 := HCELL.out W hS 1 (by decide); have c2 := HCELL.out W hS 2 (by decide); have c3 := HCELL.out W hS 3 (by decide); simp only [Act.put, List.setIfInBounds_toArray, List.set_cons_zero, List.set_cons_succ] at hK; go_simp; exact hK); simp only [Act.put, List.setIfInBounds_toArray, List.set_cons_zero, List.set_cons_succ])
      refine wpTxt_turn ?_ (fun K hK => ?_) rfl ?_
      rotate_left
      · simp only [Act.put, List.setIfInBounds_toArray, List.set_cons_zero, List.set_cons_succ] at hK
        rw [HW1.out] at hK
        go_simp
        rw [← HGA.out]
        exact hK
      simp only [Act.put, List.setIfInBounds_toArray, List.set_cons_zero, List.set_cons_succ]
      refine wpTxt_nil ?_
      intro L W hL hS
      unfold Alt at hS
      rw [hL 16 (by decide), if_pos rfl] at hS
      subst hS
      have HT := Lib.hid (show Arr W ga 68 .u8 4 (fun _ => 0) from HZ.out)
      clear HCELL HW1 HWD HGA HZ t1 t2 t3 q1 q2 q3 i0 i1 i2 i3 hL
      obtain ⟨Q, hQ⟩ : ∃ Q, Q = q4 (f i) (f (i + 1)) (f (i + 2)) (f (i + 3)) := ⟨_, rfl⟩
      have hQk : ∀ k, k < 4 → Q k = f (i + k) := by
        intro k hk
        rw [hQ]
        unfold q4
        rcases (show k = 0 ∨ k = 1 ∨ k = 2 ∨ k = 3 by omega) with rfl | rfl | rfl | rfl <;> rfl
      have hQb : ∀ k, k < 4 → Q k < 256 := fun k hk => by rw [hQk k hk]; exact HF.out _ (by omega)
      go_wp2_with (refine wpList_store_arr' rfl rfl 68 (.tmp 7) (.tmp 29) rfl ga .u8 4 (q4 (f i) (f (i + 1)) (f (i + 2)) (f (i + 3))) rfl rfl 68 _ HT.out size_q tabV_size ?_
                   intro w2 hA2 hG2)
      rw [← hQ] at hA2
      have HQ := Lib.hid hA2
      have hgl := HGL.out
      have HA2 := Lib.hid (show Arr w2 w.heap.size 22 .u8 16 (mxp by_ f c 0) from grown_get hG2 HA.out (by simp; omega))
      have HB2 := Lib.hid (show Arr w2 (w.heap.size + 1) 68 .u8 4 by_ from grown_get hG2 HB.out (by simp; omega))
      have HC2 := Lib.hid (show Arr w2 (w.heap.size + 1 + 1) 22 .u8 16 (fun _ => 0) from grown_get hG2 HC.out (by simp; omega))
      have HX2 := Lib.hid (grown_new HX.out hG2 (fun g hg => by simp at hg; omega))
      have HQK := Lib.hid hQk
      have HQB := Lib.hid hQb
      clear hA2 hG2 HA HB HC HX HT hQ hQk hQb hgl
      go_wp2_with fail
      go_loopw [30] (fun v wi => ∃ r : Nat, r ≤ 4 ∧ v = .int .i64 r ∧ Arr wi w.heap.size 22 .u8 16 (mxp by_ f c r) ∧ Arr wi (w.heap.size + 1) 68 .u8 4 by_ ∧ Arr wi (w.heap.size + 1 + 1) 22 .u8 16 (fun _ => 0) ∧ Arr wi ga 68 .u8 4 Q ∧ Ext w wi) (fun v _ => 4 - (intOf v).toNat)
      case atStart => exact ⟨0, by omega, rfl, HA2.out, HB2.out, HC2.out, HQ.out, HX2.out⟩
      case round =>
        obtain ⟨r, hr, rfl, hA, hB, hC, hQ, hx⟩ := hrel
        by_cases hlr : r < 4
        · have HA := Lib.hid hA
          have HB := Lib.hid hB
          have HC := Lib.hid hC
          have HQ3 := Lib.hid hQ
          have HX := Lib.hid hx
          have r1 : (r : Int) < 4 := by omega
          have r2 : (i : Int) + (r : Int) < 16 := by omega
          have q1 : IntKind.i64.wrap ((i : Int) + (r : Int)) = (i : Int) + (r : Int) := IntWalk.i64_in _ (by omega)
          have t1 : ((i : Int) + (r : Int)).toNat = i + r := by omega
          clear hA hB hC hQ hx
          go_wp2_with (refine wpList_load_arr rfl 68 (.tmp 7) rfl ga rfl 68 .u8 4 Q _ HQ3.out Try.underlying68 size_q ?_)
          refine (closure_c by_ Q HBY.out HQB.out (w.heap.size + 1) r hlr _ HB.out).mono ?_
          rintro e w3 ⟨rfl, hx3⟩
          obtain ⟨d, hd⟩ : ∃ d, d = dot by_ (fun k => Q ((r + k) % 4)) 4 := ⟨_, rfl⟩
          have hdm : d = mx by_ f (i + r) := by
            have := HI.out
            rw [hd]
            unfold mx
            rw [show (i + r) / 4 = c by omega, show (i + r) % 4 = r by omega]
            exact dot_congr 4 (fun _ _ => rfl) (fun k _ => by rw [HQK.out _ (by omega), this])
          rw [← hd]
          have hA3 := HA.out.ext hx3
          have c1 := hA3.cell (i := i + r) (by omega)
          have f1 := hA3.free (i + r)
          have HD := Lib.hid hdm
          have HA3 := Lib.hid hA3
          have HB3 := Lib.hid (HB.out.ext hx3)
          have HC3 := Lib.hid (HC.out.ext hx3)
          have HQ4 := Lib.hid (HQ3.out.ext hx3)
          have HX3 := Lib.hid (HX.out.tr hx3)
          clear hd hdm hA3 hx3 HA HB HC HQ3 HX
          go_wp2_with fail
          go_roundw
          case rel =>
            have hi4 := HI.out
            have hgl := HGL.out
            refine ⟨r + 1, by omega, by go_num, HA3.out.to (by omega) ?_ (fun j hj hne => ?_), HB3.out.other (by omega) _ _, HC3.out.other (by omega) _ _, HQ4.out.other (by omega) _ _, ext_setCell HX3.out (by simp) _⟩
            · unfold mxp
              rw [if_pos (by omega), HD.out]
            · unfold mxp
              by_cases h1 : j / 4 < c ∨ (j / 4 = c ∧ j % 4 < r)
              · rw [if_pos h1, if_pos (by omega)]
              · rw [if_neg h1, if_neg (by omega)]
          case measure => simp [intOf]; omega
        · have e4 : r = 4 := by omega
          subst e4
          have HA := Lib.hid hA
          have HB := Lib.hid hB
          have HC := Lib.hid hC
          have HX := Lib.hid hx
          have q4' : IntKind.i64.wrap ((i : Int) + 4) = (i : Int) + 4 := IntWalk.i64_in _ (by omega)
          clear hA hB hC hQ hx
          go_wp2_with fail
          go_roundw
          case rel =>
            refine ⟨c + 1, i + 4, by omega, Lib.hid (by have := HI.out; omega), by go_num, HA.out.congr (fun j hj => ?_), HB.out, HC.out, HX.out⟩
            unfold mxp
            by_cases h1 : j / 4 < c ∨ (j / 4 = c ∧ j % 4 < 4)
            · rw [if_pos h1, if_pos (by omega)]
            · rw [if_neg h1, if_neg (by omega)]
          case measure => simp [intOf]; omega
    · have ec : c = 4 := by omega
      have ei : i = 16 := by have := HI.out; omega
      subst ec
      subst ei
      have HA := Lib.hid (hA.congr (f' := mx by_ f) (fun j hj => by unfold mxp; rw [if_pos (by omega)]))
      have HC := Lib.hid hC
      have HX := Lib.hid hx
      clear hA hB hC hx HI
      go_wp2_with (first
        | refine wpList_load_arr rfl 22 (.tmp 2) rfl w.heap.size rfl 22 .u8 16 (mx by_ f) _ HA.out Try.underlying22 size_bk ?_
        | (refine wpList_store_arr' rfl rfl 22 (.tmp 4) (.tmp 42) rfl (w.heap.size + 1 + 1) .u8 16 (mx by_ f) rfl rfl 22 _ HC.out size_bk tabV_size ?_; intro w5 hA5 hG5))
      refine bodyPost_ret (v := .agg (tabV .u8 16 (mx by_ f))) ?_ rfl ⟨rfl, grown_new HX.out hG5 (fun g hg => by simp at hg; omega)⟩
      exact results_cell_row rfl _ _ _ _ _ _ _ rfl hA5 Try.underlying22 rfl (by rw [tabV_size]; exact size_bk)
end Go.Proofs.Ytdmfajcbbolfiaa
