/-
  The fixed examples of layer 7.
-/
import Derived.Test.YtafjpebgcgliaaaAesG
import Derived.Test.YtafjpebgcgliaaaAesK
namespace Go.Proofs.Ytafjpebgcgliaaa
open Go.RowKit

/-- a part of an array by value -/
theorem tab_extract {k : IntKind} {N n off : Nat} {F : Nat → Nat} (h : off + n ≤ N) : (tabV k N F).extract off (off + n) = tabV k n (fun j => F (off + j)) := by
  apply tabV_ext
  · rw [Array.size_extract, tabV_size]; omega
  · intro i hi
    rw [Array.getElem?_extract, tabV_size, if_pos (by omega), tabV_get (by omega)]
theorem run_index_part {P : Program} {t e e' : TypeId} {m n N : Nat} {k : IntKind} (hu : P.underlying t = some (.array m e)) (he : P.underlying e = some (.array n e')) (hs : (P.info? e).map (·.size) = some n) (F : Nat → Nat) (i : Nat) (hi : i < m) (hN : i * n + n ≤ N) (w : World) :
    (Instr.index t (.agg (tabV k N F)) (.int .i64 (i : Int))).run P w = .ok (.agg (tabV k n (fun j => F (i * n + j)))) w := by
  cases hq : P.info? e with
  | none => simp [hq] at hs
  | some ie =>
    have hsz : ie.size = n := by simpa [hq] using hs
    simp [Instr.index, asIntOf, Sem.run_bind, run_underlying hu, sizeOf, typeInfo, hq, hsz, hi, part, isAgg, run_underlying he, tab_extract hN]
theorem wp_index_part {P : Program} {o : Oper} {a : Act} {w : World} {K : Act → World → Prop} {Q : Exit → Act → World → Prop} (t : TypeId) (x y : Operand) (ho : o.op = .index t x y) {e e' : TypeId} {m n N : Nat} {k : IntKind} (F : Nat → Nat) (i : Nat)
    (hx : a.eval x = .agg (tabV k N F)) (hy : a.eval y = .int .i64 (i : Int)) (hu : P.underlying t = some (.array m e)) (he : P.underlying e = some (.array n e')) (hs : (P.info? e).map (·.size) = some n) (hi : i < m) (hN : i * n + n ≤ N)
    (h : K (a.put o.dst (.agg (tabV k n (fun j => F (i * n + j))))) w) : o.wp P a w K Q := by
  unfold Oper.wp execOp
  simp only [ho, hx, hy, Sem.run_bind, Sem.run_pure, Result.andThen_ok, run_index_part hu he hs F i hi hN w]
  exact h
theorem kf_first (f : Bk) : ∀ i, i < 16 → kf f (0 * 16 + i) = f i := fun i hi => by
  unfold kf
  rw [show (0 * 16 + i) / 16 = 0 by omega, show (0 * 16 + i) % 16 = i by omega, kys]
set_option maxRecDepth 100000 in
set_option maxHeartbeats 4000000 in
theorem awake_c (w : World) : Calls Try.prog 8 #[] w fun e w' => e = .returned (.bool true) ∧ Ext w w' := by
  go_enter Try.func8, Try.ntmps8
  go_wp2_with fail
  go_loopw [3] (fun v wr => ∃ i : Nat, i ≤ 16 ∧ v = .int .i64 i ∧ Arr wr w.heap.size 22 .u8 16 (fun j => if j < i then key0 j else 0) ∧ Arr wr (w.heap.size + 1) 22 .u8 16 (fun j => if j < i then blk0 j else 0) ∧ Ext w wr) (fun v _ => 16 - (intOf v).toNat)
  case atStart =>
    obtain ⟨h0, h1⟩ := two_new w (.cells (tabV .u8 16 (fun _ => 0)) 22) (.cells (tabV .u8 16 (fun _ => 0)) 22)
    refine ⟨0, by omega, rfl, ?_, ?_, (Ext.alloc _ _).tr (Ext.alloc _ _)⟩
    · exact Arr.congr (f := fun _ => 0) h0 (fun i hi => by simp)
    · exact Arr.congr (f := fun _ => 0) h1 (fun i hi => by simp)
  case round =>
    obtain ⟨i, hi, rfl, hA, hB, hx⟩ := hrel
    by_cases hlt : i < 16
    · have c0 := hA.cell (i := i) hlt
      have c1 := hB.cell (i := i) hlt
      have f0 := hA.free i
      have f1 := hB.free i
      have i1 : (i : Int) < 16 := by omega
      have q0 : (i : Int) % 256 = i := by omega
      have q1 : IntKind.i64.wrap (17 * (i : Int)) = 17 * i := IntWalk.i64_in _ (by omega)
      have q2 : 17 * (i : Int) % 256 = 17 * i := by omega
      have HA := Lib.hid hA
      have HB := Lib.hid hB
      have HX := Lib.hid hx
      clear hA hB hx
      go_wp2_with fail
      go_roundw
      case rel =>
        refine ⟨i + 1, by omega, by go_num, (HA.out.to hlt (f' := fun j => if j < i + 1 then key0 j else 0) ?_ (fun j hj hne => ?_)).other (by omega) _ _, (HB.out.other (by omega) _ _).to hlt ?_ (fun j hj hne => ?_), ext_setCell (ext_setCell HX.out (by simp) _) (by simp) _⟩
        · rw [if_pos (by omega)]; rfl
        · by_cases h : j < i
          · rw [if_pos h, if_pos (by omega)]
          · rw [if_neg h, if_neg (by omega)]
        · rw [if_pos (by omega)]; unfold blk0; push_cast; rfl
        · by_cases h : j < i
          · rw [if_pos h, if_pos (by omega)]
          · rw [if_neg h, if_neg (by omega)]
      case measure => simp [intOf]; omega
    · have e16 : i = 16 := by omega
      subst e16
      have HA := Lib.hid (hA.congr (f' := key0) (fun j hj => by rw [if_pos hj]))
      have HB := Lib.hid (hB.congr (f' := blk0) (fun j hj => by rw [if_pos hj]))
      have HX := Lib.hid hx
      clear hA hB hx
      go_wp2_with (first
        | refine wpList_load_arr rfl 22 (.tmp 1) rfl w.heap.size rfl 22 .u8 16 key0 _ HA.out Try.underlying22 size_bk ?_
        | refine wpList_load_arr rfl 22 (.tmp 2) rfl (w.heap.size + 1) rfl 22 .u8 16 blk0 _ HB.out Try.underlying22 size_bk ?_)
      refine (encrypt_c key0 blk0 key0_byt blk0_byt _).mono ?_
      rintro e w1 ⟨rfl, hx1⟩
      have HA1 := Lib.hid (HA.out.ext hx1)
      have HB1 := Lib.hid (HB.out.ext hx1)
      have HX1 := Lib.hid (HX.out.tr hx1)
      clear hx1
      have HZ := Lib.hid (Arr.new w1 22 .u8 16 (fun _ => 0))
      go_wp2_with (refine wpList_store_arr' rfl rfl 22 (.tmp 4) (.tmp 20) rfl w1.heap.size .u8 16 (enc key0 blk0) rfl rfl 22 _ HZ.out size_bk tabV_size ?_
                   intro w2 hA2 hG2
                   have HA2 := Lib.hid (show Arr w2 w.heap.size 22 .u8 16 key0 from grown_get hG2 (HA1.out.ext (Ext.alloc _ _)) (by have := HA1.out.lt; simp; omega))
                   have HB2 := Lib.hid (show Arr w2 (w.heap.size + 1) 22 .u8 16 blk0 from grown_get hG2 (HB1.out.ext (Ext.alloc _ _)) (by have := HB1.out.lt; simp; omega))
                   have HE2 := Lib.hid hA2
                   have HX2 := Lib.hid (HX1.out.tr (grown_new (Ext.alloc _ _) hG2 (fun g hg => by simp at hg; omega)))
                   clear hA2 hG2)
      obtain ⟨ge, hge⟩ : ∃ ge, ge = w1.heap.size := ⟨_, rfl⟩
      rw [← hge] at HE2 ⊢
      clear hge HA1 HB1 HX1
      have henc := enc_ex
      have e0 : enc key0 blk0 0 = 105 := henc 0 (by decide)
      have e1 : enc key0 blk0 1 = 196 := henc 1 (by decide)
      have e2 : enc key0 blk0 2 = 224 := henc 2 (by decide)
      have e15 : enc key0 blk0 15 = 90 := henc 15 (by decide)
      have heb := enc_byt key0_byt blk0_byt
      have hdd := dec_enc key0_byt blk0_byt
      obtain ⟨E, hE⟩ : ∃ E, E = enc key0 blk0 := ⟨_, rfl⟩
      rw [← hE] at HE2 e0 e1 e2 e15 heb hdd ⊢
      clear hE henc
      have HE0 := Lib.hid e0
      have HE1 := Lib.hid e1
      have HEE := Lib.hid e2
      have HE15 := Lib.hid e15
      have HEB := Lib.hid heb
      have HDD := Lib.hid hdd
      clear e0 e1 e2 e15 heb hdd
      obtain ⟨wd, hwd⟩ : ∃ wd, wd = w2.drew := ⟨_, rfl⟩
      have xd : Ext w2 wd := by rw [hwd]; exact Ext.drew _
      have HA := Lib.hid (HA2.out.ext xd)
      have HB := Lib.hid (HB2.out.ext xd)
      have HE := Lib.hid (HE2.out.ext xd)
      have HX := Lib.hid (HX2.out.tr xd)
      have HWD := Lib.hid hwd
      clear xd hwd HA2 HB2 HE2 HX2
      refine wp_region_ord 39 (fun W => Ext wd W) (by kernel_rfl) (by kernel_rfl) (by decide) (by kernel_rfl) (by rw [HWD.out]; exact Ext.refl _) ?_
      simp only [List.take_succ_cons, List.take_zero, List.drop_succ_cons, List.drop_zero]
      repeat (refine wpTxt_step ?_ (fun W K hS hK => ?_) rfl ?_; rotate_left; (have c0 := (HE.out.ext hS).cell (i := 0) (by decide); rw [HE0.out] at c0; have c1 := (HE.out.ext hS).cell (i := 1) (by decide); rw [HE1.out] at c1; have c2 := (HE.out.ext hS).cell (i := 2) (by decide); rw [HEE.out] at c2; have c15 := (HE.out.ext hS).cell (i := 15) (by decide); rw [HE15.out] at c15; simp only [Act.put, List.setIfInBounds_toArray, List.set_cons_zero, List.set_cons_succ] at hK; go_simp; exact hK _ hS); simp only [Act.put, List.setIfInBounds_toArray, List.set_cons_zero, List.set_cons_succ])
      refine wpTxt_step (.agg (tabV .u8 16 (key0))) (fun W K hS hK => wp_load_arr 22 (.tmp 1) rfl (w.heap.size) rfl .u8 16 (key0) _ _ (HA.out.ext hS) Try.underlying22 size_bk (hK _ hS)) rfl ?_
      simp only [Act.put, List.setIfInBounds_toArray, List.set_cons_zero, List.set_cons_succ]
      refine wpTxt_step (.agg (tabV .u8 16 (E))) (fun W K hS hK => wp_load_arr 22 (.tmp 4) rfl (ge) rfl .u8 16 (E) _ _ (HE.out.ext hS) Try.underlying22 size_bk (hK _ hS)) rfl ?_
      simp only [Act.put, List.setIfInBounds_toArray, List.set_cons_zero, List.set_cons_succ]
      refine wpTxt_step ?_ (fun W K hS hK => ?_) rfl ?_
      rotate_left
      · simp only [Act.put, List.setIfInBounds_toArray, List.set_cons_zero, List.set_cons_succ] at hK
        go_simp
        refine (decrypt_c key0 E key0_byt HEB.out _).mono ?_
        rintro e W' ⟨rfl, hx'⟩
        exact hK _ (hS.tr hx')
      simp only [Act.put, List.setIfInBounds_toArray, List.set_cons_zero, List.set_cons_succ]
      refine wpTxt_step (.agg (tabV .u8 16 (blk0))) (fun W K hS hK => wp_load_arr 22 (.tmp 2) rfl (w.heap.size + 1) rfl .u8 16 (blk0) _ _ (HB.out.ext hS) Try.underlying22 size_bk (hK _ hS)) rfl ?_
      simp only [Act.put, List.setIfInBounds_toArray, List.set_cons_zero, List.set_cons_succ]
      refine wpTxt_step (.bool true) (fun W K hS hK => wp_eql_tab 22 22 (.tmp 42) (.tmp 43) rfl .u8 16 (dec key0 E) (blk0) rfl rfl 5 Try.underlying22 Try.underlying5 size_u8 cells_u8 noGuard_bk (HDD.out) (hK _ hS)) rfl ?_
      simp only [Act.put, List.setIfInBounds_toArray, List.set_cons_zero, List.set_cons_succ]
      repeat (refine wpTxt_step ?_ (fun W K hS hK => ?_) rfl ?_; rotate_left; (simp only [Act.put, List.setIfInBounds_toArray, List.set_cons_zero, List.set_cons_succ] at hK; go_simp; exact hK _ hS); simp only [Act.put, List.setIfInBounds_toArray, List.set_cons_zero, List.set_cons_succ])
      refine wpTxt_step (.agg (tabV .u8 16 (key0))) (fun W K hS hK => wp_load_arr 22 (.tmp 1) rfl (w.heap.size) rfl .u8 16 (key0) _ _ (HA.out.ext hS) Try.underlying22 size_bk (hK _ hS)) rfl ?_
      simp only [Act.put, List.setIfInBounds_toArray, List.set_cons_zero, List.set_cons_succ]
      refine wpTxt_step ?_ (fun W K hS hK => ?_) rfl ?_
      rotate_left
      · simp only [Act.put, List.setIfInBounds_toArray, List.set_cons_zero, List.set_cons_succ] at hK
        go_simp
        refine (keys_c key0 key0_byt _).mono ?_
        rintro e W' ⟨rfl, hx'⟩
        exact hK _ (hS.tr hx')
      simp only [Act.put, List.setIfInBounds_toArray, List.set_cons_zero, List.set_cons_succ]
      refine wpTxt_step (.agg (tabV .u8 16 (fun j => kf key0 (0 * 16 + j)))) (fun W K hS hK => wp_index_part 32 (.tmp 48) (.const (.int .i64 0)) rfl (kf key0) 0 rfl rfl Try.underlying32 Try.underlying22 size_bk (by decide) (by decide) (hK _ hS)) rfl ?_
      simp only [Act.put, List.setIfInBounds_toArray, List.set_cons_zero, List.set_cons_succ]
      refine wpTxt_step (.agg (tabV .u8 16 (key0))) (fun W K hS hK => wp_load_arr 22 (.tmp 1) rfl (w.heap.size) rfl .u8 16 (key0) _ _ (HA.out.ext hS) Try.underlying22 size_bk (hK _ hS)) rfl ?_
      simp only [Act.put, List.setIfInBounds_toArray, List.set_cons_zero, List.set_cons_succ]
      refine wpTxt_step (.bool true) (fun W K hS hK => wp_eql_tab 22 22 (.tmp 49) (.tmp 50) rfl .u8 16 (fun j => kf key0 (0 * 16 + j)) (key0) rfl rfl 5 Try.underlying22 Try.underlying5 size_u8 cells_u8 noGuard_bk (kf_first key0) (hK _ hS)) rfl ?_
      simp only [Act.put, List.setIfInBounds_toArray, List.set_cons_zero, List.set_cons_succ]
      repeat (refine wpTxt_step ?_ (fun W K hS hK => ?_) rfl ?_; rotate_left; (simp only [Act.put, List.setIfInBounds_toArray, List.set_cons_zero, List.set_cons_succ] at hK; go_simp; exact hK _ hS); simp only [Act.put, List.setIfInBounds_toArray, List.set_cons_zero, List.set_cons_succ])
      refine wpTxt_step (.agg (tabV .u8 16 (key0))) (fun W K hS hK => wp_load_arr 22 (.tmp 1) rfl (w.heap.size) rfl .u8 16 (key0) _ _ (HA.out.ext hS) Try.underlying22 size_bk (hK _ hS)) rfl ?_
      simp only [Act.put, List.setIfInBounds_toArray, List.set_cons_zero, List.set_cons_succ]
      refine wpTxt_step (.agg (tabV .u8 16 (key0))) (fun W K hS hK => wp_load_arr 22 (.tmp 1) rfl (w.heap.size) rfl .u8 16 (key0) _ _ (HA.out.ext hS) Try.underlying22 size_bk (hK _ hS)) rfl ?_
      simp only [Act.put, List.setIfInBounds_toArray, List.set_cons_zero, List.set_cons_succ]
      refine wpTxt_step ?_ (fun W K hS hK => ?_) rfl ?_
      rotate_left
      · simp only [Act.put, List.setIfInBounds_toArray, List.set_cons_zero, List.set_cons_succ] at hK
        go_simp
        refine (xor_c key0 key0 key0_byt key0_byt _).mono ?_
        rintro e W' ⟨rfl, hx'⟩
        exact hK _ (hS.tr hx')
      simp only [Act.put, List.setIfInBounds_toArray, List.set_cons_zero, List.set_cons_succ]
      repeat (refine wpTxt_step ?_ (fun W K hS hK => ?_) rfl ?_; rotate_left; (simp only [Act.put, List.setIfInBounds_toArray, List.set_cons_zero, List.set_cons_succ] at hK; go_simp; exact hK _ hS); simp only [Act.put, List.setIfInBounds_toArray, List.set_cons_zero, List.set_cons_succ])
      refine wpTxt_step (.bool true) (fun W K hS hK => wp_eql_tab 22 22 (.tmp 56) (.tmp 57) rfl .u8 16 (xo key0 key0) (fun _ => 0) rfl rfl 5 Try.underlying22 Try.underlying5 size_u8 cells_u8 noGuard_bk (fun i _ => Nat.xor_self _) (hK _ hS)) rfl ?_
      simp only [Act.put, List.setIfInBounds_toArray, List.set_cons_zero, List.set_cons_succ]
      repeat (refine wpTxt_step ?_ (fun W K hS hK => ?_) rfl ?_; rotate_left; (simp only [Act.put, List.setIfInBounds_toArray, List.set_cons_zero, List.set_cons_succ] at hK; go_simp; exact hK _ hS); simp only [Act.put, List.setIfInBounds_toArray, List.set_cons_zero, List.set_cons_succ])
      refine wpTxt_nil ?_
      intro W hS
      have HX2 := Lib.hid (HX.out.tr hS)
      clear hS
      go_wp2_with fail
      go_ret
      exact ⟨rfl, HX2.out⟩
end Go.Proofs.Ytafjpebgcgliaaa
