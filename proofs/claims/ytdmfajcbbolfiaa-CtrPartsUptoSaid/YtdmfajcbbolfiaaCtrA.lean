/-
  Package ctr: a block of the stream.
-/
import Derived.Test.YtdmfajcbbolfiaaCtrM
import Derived.Test.YtdmfajcbbolfiaaAesG
import Derived.Laws.CopyOwn
namespace Go.Proofs.Ytdmfajcbbolfiaa
open Go.RowKit
set_option linter.unusedVariables false
set_option linter.unusedSimpArgs false

theorem size_nc : (Try.prog.info? 23).map (·.size) = some 8 := by kernel_rfl
/-- a whole array is copied into the beginning of an array of the call's own -/
theorem wpList_copy_tab {P : Program} {w : World} {ops : Array Oper} {rest : List Oper} {o : Oper} {a : Act} {Q : Exit → Act → World → Prop} (hgd : o.guard = none) (d s : Operand) (dT sT : TypeId)
    (ho : o.op = .call { callee := .builtin .copy, args := #[d, s], argTypes := #[dT, sT] }) (elem : TypeId) (hu : P.underlying dT = some (.slice elem)) (hsz : (P.info? elem).map (·.size) = some 1)
    (g n : Nat) (hd : a.eval d = .slice (some ⟨g, 0, none⟩) n n) (g' m : Nat) (hs : a.eval s = .slice (some ⟨g', 0, none⟩) m m)
    (t t' : TypeId) (f f' : Nat → Nat) (hg : Arr w g t .u8 n f) (hg' : Arr w g' t' .u8 m f') (hm : 0 < m) (hmn : m ≤ n)
    (h : ∀ w', Arr w' g t .u8 n (fun i => if i < m then f' i else f i) → w.grownBy w' (some g) → wpList P ops Q rest (a.put o.dst (.int .i64 m)) w') :
    wpList P ops Q (o :: rest) a w := by
  have hlen : (tabV .u8 m f').toList.length = m := by rw [Array.length_toList, tabV_size]
  have hts : (tabV .u8 n f).toList.length = n := by rw [Array.length_toList, tabV_size]
  refine wpList_copy_own hgd d s dT sT ho elem hu hsz g 0 n n ⟨g', 0, none⟩ m m hd hs (tabV .u8 n f) t hg (tabV .u8 m f').toList (by rw [hlen]; exact (Nat.min_eq_left hmn).symm) (fun j v hj => ?_) (by rw [hlen, tabV_size]; omega) (fun u hu => ?_) ?_
  · rw [(addr_add _ _).2 rfl, cells_of hg', Nat.zero_add, ← Array.getElem?_toList]
    exact hj
  · have := Array.all_eq_true.1 (tabV_one (k := .u8) (n := m) (f := f'))
    rw [Array.mem_toList_iff] at hu
    obtain ⟨i, hi, rfl⟩ := Array.mem_iff_getElem.1 hu
    exact this i hi
  · have e : ((tabV .u8 n f).toList.take 0 ++ ((tabV .u8 m f').toList ++ (tabV .u8 n f).toList.drop (0 + (tabV .u8 m f').toList.length))).toArray = tabV .u8 n (fun i => if i < m then f' i else f i) := by
      apply tabV_ext
      · simp only [List.size_toArray, List.length_append, List.length_take, List.length_drop, hts, hlen]
        omega
      · intro i hi
        rw [List.getElem?_toArray, hlen, List.take_zero, List.nil_append, Nat.zero_add]
        by_cases h2 : i < m
        · rw [List.getElem?_append_left (by rw [hlen]; omega), Array.getElem?_toList, tabV_get h2, if_pos h2]
        · rw [List.getElem?_append_right (by rw [hlen]; omega), hlen, List.getElem?_drop, show m + (i - m) = i by omega, Array.getElem?_toList, tabV_get hi, if_neg h2]
    rw [e, hlen]
    exact h _ (setRow_heap w g _ _ t _ hg) (grown_setRow g _)

/-- the block with k bytes of the number -/
def cinp (nonce : Nat → Nat) (i k : Nat) : Bk := fun j => if j < 8 then nonce j else if 15 - j < k then i / 256 ^ (15 - j) % 256 else 0
theorem cinp_zero (nonce : Nat → Nat) (i : Nat) : ∀ j, j < 16 → (if j < 8 then nonce j else 0) = cinp nonce i 0 j := fun j _ => by
  unfold cinp
  by_cases h : j < 8
  · rw [if_pos h, if_pos h]
  · rw [if_neg h, if_neg h, if_neg (by omega)]
theorem cinp_all (nonce : Nat → Nat) (i : Nat) {j : Nat} (hj : j < 16) : cinp nonce i 8 j = cin nonce i j := by
  unfold cinp cin
  by_cases h : j < 8
  · rw [if_pos h, if_pos h]
  · rw [if_neg h, if_neg h, if_pos (by omega)]
theorem cinp_other (nonce : Nat → Nat) (i : Nat) {k j : Nat} (hj : j < 16) (hne : j ≠ 15 - k) : cinp nonce i k j = cinp nonce i (k + 1) j := by
  unfold cinp
  by_cases h : j < 8
  · rw [if_pos h, if_pos h]
  · rw [if_neg h, if_neg h]
    by_cases h' : 15 - j < k
    · rw [if_pos h', if_pos (by omega)]
    · rw [if_neg h', if_neg (by omega)]
theorem cinp_byte (nonce : Nat → Nat) (i : Nat) {k : Nat} (hk : k < 8) : (i : Int) / 2 ^ (8 * k) % 256 = ((cinp nonce i (k + 1) (15 - k) : Nat) : Int) := by
  unfold cinp
  rw [if_neg (by omega), if_pos (by omega), show 15 - (15 - k) = k by omega, show (256 : Nat) ^ k = 2 ^ (8 * k) by rw [Nat.pow_mul], Int.natCast_emod, Int.natCast_ediv, Int.natCast_pow]
  rfl
set_option maxRecDepth 100000 in
set_option maxHeartbeats 2000000 in
theorem block_c (key nonce : Nat → Nat) (i : Nat) (hk : Byt key) (hn : Byt8 nonce) (hi : i < 18446744073709551616) (w : World) :
    Calls Try.prog 18 #[.agg (tabV .u8 16 key), .agg (tabV .u8 8 nonce), .int .u64 (i : Nat)] w fun e w' => e = .returned (.agg (tabV .u8 16 (cblk key nonce i))) ∧ Ext w w' := by
  have HK := Lib.hid hk
  have HN := Lib.hid hn
  obtain ⟨W, hW⟩ : ∃ W, W = (((w.alloc (.cells (tabV .u8 16 key) 22)).alloc (.cells (tabV .u8 8 nonce) 23)).alloc (.cells (tabV .u8 16 (fun _ => 0)) 22)).alloc (.cells (tabV .u8 16 (fun _ => 0)) 22) := ⟨_, rfl⟩
  have hx : Ext w W := by rw [hW]; exact (((Ext.alloc _ _).tr (Ext.alloc _ _)).tr (Ext.alloc _ _)).tr (Ext.alloc _ _)
  obtain ⟨h0, h1, h2⟩ := new3 w (.cells (tabV .u8 16 key) 22) (.cells (tabV .u8 8 nonce) 23) (.cells (tabV .u8 16 (fun _ => 0)) 22)
  have H0 := Lib.hid (show Arr W w.heap.size 22 .u8 16 key by rw [hW]; exact (Ext.alloc _ _).get h0)
  have H1 := Lib.hid (show Arr W (w.heap.size + 1) 23 .u8 8 nonce by rw [hW]; exact (Ext.alloc _ _).get h1)
  have H2 := Lib.hid (show Arr W (w.heap.size + 1 + 1) 22 .u8 16 (fun _ => 0) by rw [hW]; exact (Ext.alloc _ _).get h2)
  have h3 : Arr W (w.heap.size + 1 + 1 + 1) 22 .u8 16 (fun _ => 0) := by
    rw [hW]
    have := new_of (((w.alloc (.cells (tabV .u8 16 key) 22)).alloc (.cells (tabV .u8 8 nonce) 23)).alloc (.cells (tabV .u8 16 (fun _ => 0)) 22)) (.cells (tabV .u8 16 (fun _ => 0)) 22)
    rwa [show (((w.alloc (.cells (tabV .u8 16 key) 22)).alloc (.cells (tabV .u8 8 nonce) 23)).alloc (.cells (tabV .u8 16 (fun _ => 0)) 22)).heap.size = w.heap.size + 1 + 1 + 1 by simp] at this
  have H3 := Lib.hid h3
  have HX := Lib.hid hx
  have HW := Lib.hid hW
  clear hk hn hx h0 h1 h2 h3 hW
  go_enter Try.func18, Try.ntmps18
  go_wp2_with fail
  change Code.wp _ _ _ _ ((((w.alloc (.cells (tabV .u8 16 key) 22)).alloc (.cells (tabV .u8 8 nonce) 23)).alloc (.cells (tabV .u8 16 (fun _ => 0)) 22)).alloc (.cells (tabV .u8 16 (fun _ => 0)) 22))
  rw [← HW.out]
  obtain ⟨wd, hwd⟩ : ∃ wd, wd = W.drew := ⟨_, rfl⟩
  have xd : Ext W wd := by rw [hwd]; exact Ext.drew _
  have H0 := Lib.hid (H0.out.ext xd)
  have H1 := Lib.hid (H1.out.ext xd)
  have H2 := Lib.hid (H2.out.ext xd)
  have H3 := Lib.hid (H3.out.ext xd)
  have HX := Lib.hid (HX.out.tr xd)
  have HWD := Lib.hid hwd
  clear xd hwd
  refine wp_region_ord 2 (fun W => W = wd) (by kernel_rfl) (by kernel_rfl) (by decide) (by kernel_rfl) HWD.out.symm ?_
  simp only [List.take_succ_cons, List.take_zero, List.drop_succ_cons, List.drop_zero]
  repeat (refine wpTxt_stay ?_ (fun K hK => ?_) rfl ?_; rotate_left; (simp only [Act.put, List.setIfInBounds_toArray, List.set_cons_zero, List.set_cons_succ] at hK; go_simp; exact hK); simp only [Act.put, List.setIfInBounds_toArray, List.set_cons_zero, List.set_cons_succ])
  refine wpTxt_nil ?_
  rintro Wd rfl
  go_wp2_with (refine wpList_copy_tab rfl (.tmp 9) (.tmp 10) 27 27 rfl 5 Try.underlying27 size_u8 (w.heap.size + 1 + 1 + 1) 16 rfl (w.heap.size + 1) 8 rfl 22 23 (fun _ => 0) nonce H3.out H1.out (by decide) (by decide) ?_
               intro w2 hA2 hG2
               have HA2 := Lib.hid hA2
               have HG2 := Lib.hid hG2
               clear hA2 hG2)
  have HK2 := Lib.hid (show Arr w2 w.heap.size 22 .u8 16 key from grown_get HG2.out H0.out (by simp; omega))
  have HR2 := Lib.hid (show Arr w2 (w.heap.size + 1 + 1) 22 .u8 16 (fun _ => 0) from grown_get HG2.out H2.out (by simp))
  have HX2 := Lib.hid (grown_new HX.out HG2.out (fun g hg => by simp at hg; omega))
  clear HG2 H0 H1 H2 H3 HX HWD HW
  go_loopw [12] (fun v wr => ∃ k : Nat, k ≤ 8 ∧ v = .int .i64 k ∧ Arr wr (w.heap.size + 1 + 1 + 1) 22 .u8 16 (cinp nonce i k) ∧ Arr wr w.heap.size 22 .u8 16 key ∧ Arr wr (w.heap.size + 1 + 1) 22 .u8 16 (fun _ => 0) ∧ Ext w wr) (fun v _ => 8 - (intOf v).toNat)
  case atStart => exact ⟨0, by omega, rfl, HA2.out.congr (cinp_zero nonce i), HK2.out, HR2.out, HX2.out⟩
  case round =>
    obtain ⟨k, hk, rfl, hA, hKy, hR, hx⟩ := hrel
    by_cases hlt : k < 8
    · have i1 : (k : Int) < 8 := by omega
      have q1 : IntKind.i64.wrap (15 - (k : Int)) = ((15 - k : Nat) : Int) := by rw [IntWalk.i64_in _ (by omega)]; omega
      have q2 : IntKind.i64.wrap (8 * (k : Int)) = ((8 * k : Nat) : Int) := by rw [IntWalk.i64_in _ (by omega)]; omega
      have i2 : ((15 - k : Nat) : Int) < 16 := by omega
      have hc := hA.cell (i := 15 - k) (by omega)
      have hfr := hA.free (15 - k)
      have HA := Lib.hid hA
      have HKY := Lib.hid hKy
      have HR := Lib.hid hR
      have HX := Lib.hid hx
      clear hA hKy hR hx
      go_wp2_with fail
      refine ⟨⟨k + 1, by omega, by go_num, HA.out.to (by omega) (cinp_byte nonce i hlt) (fun j hj hne => cinp_other nonce i hj hne), HKY.out.other (by omega) _ _, HR.out.other (by omega) _ _, ext_setCell HX.out (by simp; omega) _⟩, ?_⟩
      simp only [intOf]
      omega
    · have e8 : k = 8 := by omega
      subst e8
      have HA := Lib.hid (hA.congr (f' := cin nonce i) (fun j hj => cinp_all nonce i hj))
      have HKY := Lib.hid hKy
      have HR := Lib.hid hR
      have HX := Lib.hid hx
      clear hA hKy hR hx
      go_wp2_with (first
        | refine wpList_load_arr rfl 22 (.tmp 3) rfl w.heap.size rfl 22 .u8 16 key _ HKY.out Try.underlying22 size_bk ?_
        | refine wpList_load_arr rfl 22 (.tmp 7) rfl (w.heap.size + 1 + 1 + 1) rfl 22 .u8 16 (cin nonce i) _ HA.out Try.underlying22 size_bk ?_)
      refine (encrypt_c key (cin nonce i) HK.out (cin_byt HN.out i) _).mono ?_
      rintro e w4 ⟨rfl, hx4⟩
      have HR4 := Lib.hid (HR.out.ext hx4)
      have HX4 := Lib.hid (HX.out.tr hx4)
      clear hx4
      go_wp2_with (refine wpList_store_arr' rfl rfl 22 (.tmp 6) (.tmp 26) rfl (w.heap.size + 1 + 1) .u8 16 (enc key (cin nonce i)) rfl rfl 22 _ HR4.out size_bk tabV_size ?_; intro w5 hA5 hG5)
      refine bodyPost_ret (v := .agg (tabV .u8 16 (enc key (cin nonce i)))) ?_ rfl ⟨rfl, grown_new HX4.out hG5 (fun g hg => by simp at hg; omega)⟩
      exact results_cell_row rfl _ _ _ _ _ _ _ rfl hA5 Try.underlying22 rfl (by rw [tabV_size]; exact size_bk)
end Go.Proofs.Ytdmfajcbbolfiaa
