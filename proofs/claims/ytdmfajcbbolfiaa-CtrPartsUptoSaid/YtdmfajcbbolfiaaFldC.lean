/-
  The package's sum of four products.
-/
import Derived.Test.YtdmfajcbbolfiaaFldB
import Derived.Test.YtdmfajcbbolfiaaOrd
namespace Go.Proofs.Ytdmfajcbbolfiaa
open Go.RowKit

/-- the sum of the first n products -/
def dot (f g : Nat → Nat) : Nat → Nat
  | 0 => 0
  | n + 1 => dot f g n ^^^ gm (f n) (g n)
theorem dot_lt {f g : Nat → Nat} (hf : ∀ i, i < 4 → f i < 256) (hg : ∀ i, i < 4 → g i < 256) (n : Nat) (hn : n ≤ 4) : dot f g n < 256 := by
  induction n with
  | zero => rw [dot]; decide
  | succ n ih => rw [dot]; exact xor8 (ih (by omega)) (gm_lt (hf n (by omega)) (hg n (by omega)))
theorem dot_congr {f g f' g' : Nat → Nat} (n : Nat) (hf : ∀ i, i < n → f i = f' i) (hg : ∀ i, i < n → g i = g' i) : dot f g n = dot f' g' n := by
  induction n with
  | zero => rfl
  | succ n ih => rw [dot, dot, ih (fun i hi => hf i (by omega)) (fun i hi => hg i (by omega)), hf n (by omega), hg n (by omega)]
set_option maxRecDepth 100000 in
theorem dot_c (f g : Nat → Nat) (hf : ∀ i, i < 4 → f i < 256) (hg : ∀ i, i < 4 → g i < 256) (w : World) :
    Calls Try.prog 45 #[.agg (tabV .u8 4 f), .agg (tabV .u8 4 g)] w fun e w' => e = .returned (.int .u8 (dot f g 4 : Nat)) ∧ Ext w w' := by
  have HF := Lib.hid hf
  have HG := Lib.hid hg
  clear hf hg
  go_enter Try.func45, Try.ntmps45
  go_wp2_with fail
  go_loopw [5, 7] (fun s i wr => ∃ n : Nat, n ≤ 4 ∧ s = .int .u8 (dot f g n : Nat) ∧ i = .int .i64 n ∧ Arr wr w.heap.size 68 .u8 4 f ∧ Arr wr (w.heap.size + 1) 68 .u8 4 g ∧ Ext w wr) (fun _ i _ => 4 - (intOf i).toNat)
  case atStart => 
    have h1 := Arr.new w 68 .u8 4 f
    have h2 := Arr.new (w.alloc (.cells (tabV .u8 4 f) 68)) 68 .u8 4 g
    rw [show (w.alloc (.cells (tabV .u8 4 f) 68)).heap.size = w.heap.size + 1 by simp] at h2
    exact ⟨0, by omega, rfl, rfl, h1.ext (Ext.alloc _ _), h2, (Ext.alloc _ _).tr (Ext.alloc _ _)⟩
  case round =>
    obtain ⟨n, hn, rfl, rfl, hA, hB, hx⟩ := hrel
    by_cases hlt : n < 4
    · have hd := dot_lt HF.out HG.out n hn
      have hfn := HF.out n hlt
      have hgn := HG.out n hlt
      obtain ⟨d, hdd⟩ : ∃ d, d = dot f g n := ⟨_, rfl⟩
      have HD := Lib.hid hdd
      rw [← hdd] at hd ⊢
      obtain ⟨wd, hwd⟩ : ∃ wd, wd = wr.drew := ⟨_, rfl⟩
      have hA' : Arr wd w.heap.size 68 .u8 4 f := by rw [hwd]; exact hA.ext (Ext.drew _)
      have hB' : Arr wd (w.heap.size + 1) 68 .u8 4 g := by rw [hwd]; exact hB.ext (Ext.drew _)
      have hx' : Ext w wd := by rw [hwd]; exact hx.tr (Ext.drew _)
      have c1 := hA'.cell hlt
      have c2 := hB'.cell hlt
      have HA := Lib.hid hA'
      have HB := Lib.hid hB'
      have HX := Lib.hid hx'
      have i1 : (n : Int) < 4 := by omega
      have HWD := Lib.hid hwd
      clear hA hB hx hA' hB' hx' hdd hwd
      go_wp2_with fail
      refine wp_region_ord 9 (fun W => W = wd) (by kernel_rfl) (by kernel_rfl) (by decide) (by kernel_rfl) HWD.out.symm ?_
      simp only [List.take_succ_cons, List.take_zero, List.drop_succ_cons, List.drop_zero]
      repeat (refine wpTxt_stay ?_ (fun K hK => ?_) rfl ?_; rotate_left; (simp only [Act.put, List.setIfInBounds_toArray, List.set_cons_zero, List.set_cons_succ] at hK; go_simp; exact hK); simp only [Act.put, List.setIfInBounds_toArray, List.set_cons_zero, List.set_cons_succ])
      refine wpTxt_stay ?_ (fun K hK => ?_) rfl ?_
      rotate_left
      · simp only [Act.put, List.setIfInBounds_toArray, List.set_cons_zero, List.set_cons_succ] at hK
        go_simp
        refine (product_c _ _ hfn hgn _).mono ?_
        rintro e v ⟨rfl, rfl⟩
        exact hK
      simp only [Act.put, List.setIfInBounds_toArray, List.set_cons_zero, List.set_cons_succ]
      repeat (refine wpTxt_stay ?_ (fun K hK => ?_) rfl ?_; rotate_left; (simp only [Act.put, List.setIfInBounds_toArray, List.set_cons_zero, List.set_cons_succ] at hK; go_simp; exact hK); simp only [Act.put, List.setIfInBounds_toArray, List.set_cons_zero, List.set_cons_succ])
      refine wpTxt_nil ?_
      rintro W rfl
      go_wp2_with fail
      refine ⟨⟨n + 1, by omega, ?_, rfl, HA.out, HB.out, HX.out⟩, ?_⟩
      · rw [dot, ← HD.out, u8_xor_nat _ _ hd (gm_lt hfn hgn)]
      · simp only [intOf]
        omega
    · have e4 : n = 4 := by omega
      subst e4
      have HX := Lib.hid hx
      clear hA hB hx
      go_wp2_with fail
      go_ret
      exact ⟨rfl, HX.out⟩
end Go.Proofs.Ytdmfajcbbolfiaa
