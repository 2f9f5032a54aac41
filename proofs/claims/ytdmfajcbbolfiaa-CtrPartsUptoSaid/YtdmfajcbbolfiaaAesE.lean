/-
  Package aes: all round keys of a key. Parts of arrays are read and written.
-/
import Derived.Test.YtdmfajcbbolfiaaAesD
namespace Go.Proofs.Ytdmfajcbbolfiaa
open Go.RowKit
set_option linter.unusedVariables false
set_option linter.unusedSimpArgs false

theorem Arr.part {V : World} {g : Nat} {t : TypeId} {k : IntKind} {N n off : Nat} {F : Nat → Nat} (h : Arr V g t k N F) (hn : off + n ≤ N) : V.rangeAt g off (tabV k n (fun j => F (off + j))).toList := by
  intro j v hj
  rw [Array.getElem?_toList, tabV_get'] at hj
  split at hj
  · rename_i hjn
    injection hj with hj
    subst hj
    exact h.cell (by omega)
  · cases hj
theorem wp_load_part {P : Program} {o : Oper} {a : Act} {w : World} {K : Act → World → Prop} {Q : Exit → Act → World → Prop} (ty : TypeId) (x : Operand) (ho : o.op = .load ty x)
    (g off : Nat) (hx : a.eval x = .pointer (some ⟨g, off, none⟩)) (k : IntKind) (n : Nat) (f : Nat → Nat) (e : TypeId) (hg : w.rangeAt g off (tabV k n f).toList) (hu : P.underlying ty = some (.array n e)) (hz : (P.info? ty).map (·.size) = some n)
    (h : K (a.put o.dst (.agg (tabV k n f))) w) : o.wp P a w K Q := by
  refine wp_load_mid ty x ho g off hx (tabV k n f).toList _ hg hu rfl (by rw [Array.length_toList, tabV_size]; exact hz) ?_
  rw [Array.toArray_toList]
  exact h
theorem Arr.setL {g : Nat} {t : TypeId} {k : IntKind} {N : Nat} : ∀ (l : List Nat) (w : World) (o : Nat) (F : Nat → Nat), Arr w g t k N F → o + l.length ≤ N →
    Arr (w.setCells g o (l.map fun x => Value.int k (x : Nat))) g t k N (fun j => if o ≤ j ∧ j < o + l.length then l.getD (j - o) 0 else F j)
  | [], w, o, F, h, _ => by
    refine Arr.congr (f := F) h fun j _ => ?_
    rw [if_neg (fun hc => by have := hc.2; simp at this; omega)]
  | x :: l, w, o, F, h, hl => by
    simp only [List.length_cons] at hl
    have h1 := Arr.setL l (w.setCell ⟨g, o, none⟩ (.int k (x : Nat))) (o + 1) _ (h.set_ (i := o) (v := x) (by omega)) (by omega)
    refine Arr.congr h1 fun j _ => ?_
    simp only [List.length_cons]
    by_cases e : j = o
    · subst e
      rw [if_neg (by omega), if_pos rfl, if_pos (by omega)]
      simp
    · by_cases h2 : o + 1 ≤ j ∧ j < o + 1 + l.length
      · rw [if_pos h2, if_pos (by omega)]
        obtain ⟨m, hm⟩ : ∃ m, j - o = m + 1 := ⟨j - o - 1, by omega⟩
        rw [hm, show j - (o + 1) = m by omega, List.getD_cons_succ]
      · rw [if_neg h2, if_neg e, if_neg (by omega)]
theorem setL_other (g : Nat) {g' : Nat} (hne : g' ≠ g) : ∀ (l : List Value) (w : World) (o : Nat), (w.setCells g o l).heap[g']? = w.heap[g']? ∧ (w.setCells g o l).heap.size = w.heap.size
  | [], w, o => ⟨rfl, rfl⟩
  | x :: l, w, o => by
    obtain ⟨h1, h2⟩ := setL_other g hne l (w.setCell ⟨g, o, none⟩ x) (o + 1)
    exact ⟨h1.trans (Below.heap_setCell w ⟨g, o, none⟩ x g' (fun e => hne e)), h2.trans (by simp [World.setCell])⟩
theorem grown_setL (g : Nat) : ∀ (l : List Value) (w : World) (o : Nat), w.grownBy (w.setCells g o l) (some g)
  | [], w, o => ⟨rfl, rfl, rfl, Nat.le_refl _, fun _ _ _ => rfl⟩
  | x :: l, w, o => grown_tr (grown_set ⟨g, o, none⟩ rfl x) (grown_setL g l (w.setCell ⟨g, o, none⟩ x) (o + 1))
/-- a whole array is stored into a part of an array -/
theorem wpList_store_part {P : Program} {w : World} {ops : Array Oper} {rest : List Oper} {o : Oper} {a : Act} {Q : Exit → Act → World → Prop} (hgd : o.guard = none) (hdst : o.dst = none) (ty : TypeId) (x y : Operand) (ho : o.op = .store ty x y)
    (g off : Nat) (k : IntKind) (n : Nat) (f : Nat → Nat) (hx : a.eval x = .pointer (some ⟨g, off, none⟩)) (hy : a.eval y = .agg (tabV k n f)) (t : TypeId) (N : Nat) (F : Nat → Nat) (hg : Arr w g t k N F) (hn : off + n ≤ N)
    (hi : (P.info? ty).map (·.size) = some n) (h : ∀ w', Arr w' g t k N (fun j => if off ≤ j ∧ j < off + n then f (j - off) else F j) → w.grownBy w' (some g) → wpList P ops Q rest a w') : wpList P ops Q (o :: rest) a w := by
  refine wpList_store_mid hgd ty x y ho g off (tabV k n f) hx hy (fun j hj => ?_) (by rw [tabV_size]; exact hi) tabV_one ?_
  · rw [tabV_size] at hj
    rw [hg.cell (i := off + j) (by omega)]
    exact ⟨rfl, hg.free _⟩
  · have e : (tabV k n f).toList = ((List.range n).map f).map (fun x => Value.int k (x : Nat)) := by
      unfold tabV
      simp
    have h1 := Arr.setL ((List.range n).map f) w off F hg (by simpa using hn)
    rw [hdst]
    refine h _ ?_ (grown_setL g _ w off)
    rw [e]
    refine Arr.congr h1 fun j _ => ?_
    simp only [List.length_map, List.length_range]
    split
    · rename_i hj
      rw [List.getD_eq_getElem?_getD, List.getElem?_map, List.getElem?_range (by omega)]
      rfl
    · rfl
theorem wpList_build_one {P : Program} {ops : Array Oper} {rest : List Oper} {o : Oper} {a : Act} {w : World} {Q : Exit → Act → World → Prop} (hg : o.guard = none) (t : TypeId) (x : Operand) (ho : o.op = .build t #[(0, x)]) (v : Value) (hx : a.eval x = v) (k : IntKind) (n : Nat) (f : Nat → Nat)
    (hf : P.built t [(0, v)] = some (tabV k n f)) (h : wpList P ops Q rest (a.put o.dst (.agg (tabV k n f))) w) : wpList P ops Q (o :: rest) a w := by
  refine wpList_build_tab hg t #[(0, x)] ho k n f ?_ h
  simp only [List.map_toArray, List.map_cons, List.map_nil, hx]
  exact hf
theorem size_ks : (Try.prog.info? 54).map (·.size) = some 176 := by kernel_rfl
theorem built_ks (f : Nat → Nat) : Try.prog.built 54 [(0, .agg (tabV .u8 16 f))] = some (tabV .u8 176 (fun i => if i < 16 then f i else 0)) := by kernel_rfl
theorem zero_ks (W : World) : (zeroValue 54).run Try.prog W = .ok (.agg (tabV .u8 176 (fun _ => 0))) W := by kernel_rfl
/-- all round keys, one after the other -/
def kf (f : Bk) : Nat → Nat := fun i => kys f (i / 16) (i % 16)
def kfa (f : Bk) (n : Nat) : Nat → Nat := fun i => if i / 16 < n then kf f i else 0
set_option maxRecDepth 100000 in
set_option maxHeartbeats 4000000 in
theorem keys_c (f : Bk) (hf : Byt f) (w : World) :
    Calls Try.prog 26 #[.agg (tabV .u8 16 f)] w fun e w' => e = .returned (.agg (tabV .u8 176 (kf f))) ∧ Ext w w' := by
  have HF := Lib.hid hf
  clear hf
  have zk := zero_ks
  go_enter Try.func26, Try.ntmps26
  go_wp2_with (first
    | refine wpList_load_arr rfl 22 (.tmp 1) rfl w.heap.size rfl 22 .u8 16 f _ (two_new _ _ _).1 Try.underlying22 size_bk ?_
    | refine wpList_build_one rfl 54 (.tmp 5) rfl (.agg (tabV .u8 16 f)) rfl .u8 176 (fun i => if i < 16 then f i else 0) (built_ks f) ?_
    | (refine wpList_store_arr' rfl rfl 54 (.tmp 3) (.tmp 6) rfl (w.heap.size + 1 + 1) .u8 176 (fun i => if i < 16 then f i else 0) rfl rfl 54 _ (new3 _ _ _ _).2.2 size_ks tabV_size ?_
       intro w2 hA2 hG2
       have HA2 := Lib.hid hA2
       have HG2 := Lib.hid hG2
       clear hA2 hG2))
  go_loopw [4] (fun v wr => ∃ n : Nat, 1 ≤ n ∧ n ≤ 11 ∧ v = .int .i64 n ∧ Arr wr (w.heap.size + 1 + 1) 54 .u8 176 (kfa f n) ∧ Arr wr (w.heap.size + 1) 54 .u8 176 (fun _ => 0) ∧ Ext w wr) (fun v _ => 11 - (intOf v).toNat)
  case atStart =>
    obtain ⟨_, h1, _⟩ := new3 w (.cells (tabV .u8 16 f) 22) (.cells (tabV .u8 176 (fun _ => 0)) 54) (.cells (tabV .u8 176 (fun _ => 0)) 54)
    refine ⟨1, by omega, by omega, rfl, HA2.out.congr (fun i hi => ?_), grown_get HG2.out h1 (by simp), grown_new (((Ext.alloc _ _).tr (Ext.alloc _ _)).tr (Ext.alloc _ _)) HG2.out (fun g hg => by simp at hg; omega)⟩
    unfold kfa
    by_cases h : i < 16
    · rw [if_pos h, if_pos (by omega)]
      unfold kf
      rw [show i / 16 = 0 by omega, show i % 16 = i by omega, kys]
    · rw [if_neg h, if_neg (by omega)]
  case round =>
    obtain ⟨n, h1, hn, rfl, hA, hB, hx⟩ := hrel
    clear HA2 HG2
    by_cases hlt : n < 11
    · obtain ⟨wd, hwd⟩ : ∃ wd, wd = wr.drew := ⟨_, rfl⟩
      have xd : Ext wr wd := by rw [hwd]; exact Ext.drew _
      have q1 : IntKind.i64.wrap ((n : Int) - 1) = (n : Int) - 1 := IntWalk.i64_in _ (by omega)
      have t1 : ((n : Int) - 1).toNat = n - 1 := by omega
      have i1 : (n : Int) < 11 := by omega
      have i2 : (n : Int) - 1 < 11 := by omega
      have i3 : 0 ≤ (n : Int) - 1 := by omega
      have i4 : 1 ≤ (n : Int) := by omega
      have hpart : ∀ W, Ext wd W → W.rangeAt (w.heap.size + 1 + 1) ((n - 1) * 16) (tabV .u8 16 (kys f (n - 1))).toList := fun W hW => by
        have h := ((hA.ext xd).ext hW).part (off := (n - 1) * 16) (n := 16) (by omega)
        rw [tabV_congr (f' := kys f (n - 1)) (fun i hi => by
          unfold kfa kf
          rw [if_pos (by omega), show ((n - 1) * 16 + i) / 16 = n - 1 by omega, show ((n - 1) * 16 + i) % 16 = i by omega])] at h
        exact h
      have hpow : ∀ W, Calls Try.prog 35 #[.int .u8 2, .int .i64 ((n : Int) - 1)] W fun e w' => e = .returned (.int .u8 (gp 2 (n - 1) : Nat)) ∧ w' = W := fun W => by
        have h := power_c 2 (n - 1) (by decide) (by omega) W
        rw [show ((n - 1 : Nat) : Int) = (n : Int) - 1 by omega] at h
        exact h
      have HP := Lib.hid hpart
      have HPOW := Lib.hid hpow
      have HA := Lib.hid (hA.ext xd)
      have HB := Lib.hid (hB.ext xd)
      have HX := Lib.hid (hx.tr xd)
      have HWD := Lib.hid hwd
      clear hpart hpow
      clear hA hB hx xd hwd
      go_wp2_with fail
      refine wp_region_ord 9 (fun W => Ext wd W) (by kernel_rfl) (by kernel_rfl) (by decide) (by kernel_rfl) (by rw [HWD.out]; exact Ext.refl _) ?_
      simp only [List.take_succ_cons, List.take_zero, List.drop_succ_cons, List.drop_zero]
      repeat (refine wpTxt_step ?_ (fun W K hS hK => ?_) rfl ?_; rotate_left; (simp only [Act.put, List.setIfInBounds_toArray, List.set_cons_zero, List.set_cons_succ] at hK; go_simp; exact hK _ hS); simp only [Act.put, List.setIfInBounds_toArray, List.set_cons_zero, List.set_cons_succ])
      refine wpTxt_step (.agg (tabV .u8 16 (kys f (n - 1)))) (fun W K hS hK => wp_load_part 22 (.tmp 14) rfl (w.heap.size + 1 + 1) ((n - 1) * 16) rfl .u8 16 (kys f (n - 1)) 5 (HP.out W hS) Try.underlying22 size_bk (hK _ hS)) rfl ?_
      simp only [Act.put, List.setIfInBounds_toArray, List.set_cons_zero, List.set_cons_succ]
      repeat (refine wpTxt_step ?_ (fun W K hS hK => ?_) rfl ?_; rotate_left; (simp only [Act.put, List.setIfInBounds_toArray, List.set_cons_zero, List.set_cons_succ] at hK; go_simp; exact hK _ hS); simp only [Act.put, List.setIfInBounds_toArray, List.set_cons_zero, List.set_cons_succ])
      refine wpTxt_step ?_ (fun W K hS hK => ?_) rfl ?_
      rotate_left
      · simp only [Act.put, List.setIfInBounds_toArray, List.set_cons_zero, List.set_cons_succ] at hK
        go_simp
        refine (HPOW.out _).mono ?_
        rintro e W' ⟨rfl, rfl⟩
        exact hK _ hS
      simp only [Act.put, List.setIfInBounds_toArray, List.set_cons_zero, List.set_cons_succ]
      refine wpTxt_step ?_ (fun W K hS hK => ?_) rfl ?_
      rotate_left
      · simp only [Act.put, List.setIfInBounds_toArray, List.set_cons_zero, List.set_cons_succ] at hK
        go_simp
        refine (next_c (kys f (n - 1)) (kys_byt HF.out _) (gp 2 (n - 1)) (gp_lt (by decide) _) _).mono ?_
        rintro e W' ⟨rfl, hx'⟩
        exact hK _ (hS.tr hx')
      simp only [Act.put, List.setIfInBounds_toArray, List.set_cons_zero, List.set_cons_succ]
      refine wpTxt_nil ?_
      intro W hS
      have HA3 := Lib.hid (HA.out.ext hS)
      have HB3 := Lib.hid (HB.out.ext hS)
      have HX3 := Lib.hid (HX.out.tr hS)
      clear hS HA HB HX HP HPOW
      go_wp2_with (refine wpList_store_part rfl rfl 22 (.tmp 20) (.tmp 19) rfl (w.heap.size + 1 + 1) (n * 16) .u8 16 (nx (kys f (n - 1)) (gp 2 (n - 1))) rfl rfl 54 176 (kfa f n) HA3.out (by omega) size_bk ?_
                   intro w4 hA4 hG4)
      refine ⟨⟨n + 1, by omega, by omega, by go_num, hA4.congr (fun j hj => ?_), grown_get hG4 HB3.out (by simp), grown_new HX3.out hG4 (fun g hg => by simp at hg; omega)⟩, ?_⟩
      · have hk : kys f n = nx (kys f (n - 1)) (gp 2 (n - 1)) := by
          obtain ⟨m, rfl⟩ : ∃ m, n = m + 1 := ⟨n - 1, by omega⟩
          rfl
        rw [← hk]
        unfold kfa kf
        by_cases h : n * 16 ≤ j ∧ j < n * 16 + 16
        · rw [if_pos h, if_pos (by omega), show j / 16 = n by omega, show j % 16 = j - n * 16 by omega]
        · rw [if_neg h]
          by_cases h2 : j / 16 < n
          · rw [if_pos h2, if_pos (by omega)]
          · rw [if_neg h2, if_neg (by omega)]
      · simp only [intOf]
        omega
    · have e11 : n = 11 := by omega
      subst e11
      have HA := Lib.hid (hA.congr (f' := kf f) (fun j hj => by unfold kfa; rw [if_pos (by omega)]))
      have HB := Lib.hid hB
      have HX := Lib.hid hx
      clear hA hB hx
      go_wp2_with (first
        | refine wpList_load_row rfl 54 (.tmp 3) rfl (w.heap.size + 1 + 1) rfl 54 (tabV .u8 176 (kf f)) (0, 0) _ HA.out Try.underlying54 rfl (by rw [tabV_size]; exact size_ks) ?_
        | (refine wpList_store_arr' rfl rfl 54 (.tmp 2) (.tmp 21) rfl (w.heap.size + 1) .u8 176 (kf f) rfl rfl 54 _ HB.out size_ks tabV_size ?_; intro w5 hA5 hG5))
      refine bodyPost_ret (v := .agg (tabV .u8 176 (kf f))) ?_ rfl ⟨rfl, grown_new HX.out hG5 (fun g hg => by simp at hg; omega)⟩
      exact results_cell_row rfl _ _ _ _ _ _ _ rfl hA5 Try.underlying54 rfl (by rw [tabV_size]; exact size_ks)
end Go.Proofs.Ytdmfajcbbolfiaa
