/-
  Package aes: Xor, each, moved.
-/
import Derived.Test.YtdmfajcbbolfiaaAesM
namespace Go.Proofs.Ytdmfajcbbolfiaa
open Go.RowKit

theorem Arr.to {w : World} {g : Nat} {t : TypeId} {k : IntKind} {n : Nat} {f f' : Nat → Nat} (h : Arr w g t k n f) {i : Nat} (hi : i < n) {v : Int} (hv : v = (f' i : Nat)) (hf : ∀ j, j < n → j ≠ i → f j = f' j) : Arr (w.setCell ⟨g, i, none⟩ (.int k v)) g t k n f' := by
  subst hv
  refine (h.set_ (v := f' i) hi).congr fun j hj => ?_
  by_cases e : j = i
  · subst e; simp
  · simp [e, hf j hj e]
theorem two_new (w : World) (o p : Obj) : ((w.alloc o).alloc p).heap[w.heap.size]? = some o ∧ ((w.alloc o).alloc p).heap[w.heap.size + 1]? = some p :=
  ⟨(Ext.alloc (w.alloc o) p).get (new_of w o), by have := new_of (w.alloc o) p; simpa using this⟩
theorem new3 (w : World) (o p q : Obj) : (((w.alloc o).alloc p).alloc q).heap[w.heap.size]? = some o ∧ (((w.alloc o).alloc p).alloc q).heap[w.heap.size + 1]? = some p ∧ (((w.alloc o).alloc p).alloc q).heap[w.heap.size + 1 + 1]? = some q := by
  obtain ⟨h1, h2⟩ := two_new w o p
  refine ⟨(Ext.alloc _ q).get h1, (Ext.alloc _ q).get h2, ?_⟩
  have h := new_of ((w.alloc o).alloc p) q
  rw [show ((w.alloc o).alloc p).heap.size = w.heap.size + 1 + 1 by simp] at h
  exact h
theorem wpList_store_arr' {P : Program} {w : World} {ops : Array Oper} {rest : List Oper} {o : Oper} {a : Act} {Q : Exit → Act → World → Prop} (hgd : o.guard = none) (hdst : o.dst = none) (ty : TypeId) (x y : Operand) (ho : o.op = .store ty x y)
    (g : Nat) (k : IntKind) (n : Nat) (f : Nat → Nat) (hx : a.eval x = .pointer (some ⟨g, 0, none⟩)) (hy : a.eval y = .agg (tabV k n f)) (t : TypeId) (old : Array Value) (hg : w.heap[g]? = some (.cells old t (0, 0)))
    (hi : (P.info? ty).map (·.size) = some n) (hold : old.size = n) (h : ∀ w', Arr w' g t k n f → w.grownBy w' (some g) → wpList P ops Q rest a w') : wpList P ops Q (o :: rest) a w :=
  wpList_store_arr hgd ty x y ho g k n f hx hy t old hg hi hold (fun w' h1 h2 => by rw [hdst]; exact h w' h1 h2)
theorem size_bk : (Try.prog.info? 22).map (·.size) = some 16 := by kernel_rfl
theorem size_u8 : (Try.prog.info? 5).map (·.size) = some 1 := by kernel_rfl
theorem cells_u8 : Try.prog.cellsOf 5 = 1 := by kernel_rfl
theorem noGuard_bk : Try.prog.eqGuardType Try.prog.depth 22 = false := by kernel_rfl
def bkv (f : Bk) : Value := .agg (tabV .u8 16 f)
theorem bkv_same {f g : Bk} (h : Same f g) : bkv f = bkv g := by unfold bkv; rw [tabV_congr h]

set_option maxRecDepth 100000 in
set_option maxHeartbeats 1000000 in
theorem xor_c (f g : Bk) (hf : Byt f) (hg : Byt g) (w : World) :
    Calls Try.prog 27 #[.agg (tabV .u8 16 f), .agg (tabV .u8 16 g)] w fun e w' => e = .returned (.agg (tabV .u8 16 (xo f g))) ∧ Ext w w' := by
  have HF := Lib.hid hf
  have HG := Lib.hid hg
  clear hf hg
  go_enter Try.func27, Try.ntmps27
  go_wp2_with (refine wpList_load_arr rfl 22 (.tmp 3) rfl (w.heap.size + 1) rfl 22 .u8 16 g _ (new3 _ _ _ _).2.1 Try.underlying22 size_bk ?_)
  go_loopw [8] (fun v wr => ∃ i : Nat, i ≤ 16 ∧ v = .int .i64 i ∧ Arr wr w.heap.size 22 .u8 16 (fun j => if j < i then f j ^^^ g j else f j) ∧ Arr wr (w.heap.size + 1 + 1) 22 .u8 16 (fun _ => 0) ∧ Ext w wr) (fun v _ => 16 - (intOf v).toNat)
  case atStart =>
    obtain ⟨h0, h1, h2⟩ := new3 w (.cells (tabV .u8 16 f) 22) (.cells (tabV .u8 16 g) 22) (.cells (tabV .u8 16 (fun _ => 0)) 22)
    refine ⟨0, by omega, rfl, ?_, h2, ((Ext.alloc _ _).tr (Ext.alloc _ _)).tr (Ext.alloc _ _)⟩
    refine Arr.congr (f := f) h0 (fun i hi => by simp)
  case round =>
    obtain ⟨i, hi, rfl, hA, hB, hx⟩ := hrel
    by_cases hlt : i < 16
    · have hc := hA.cell (i := i) hlt
      rw [if_neg (by omega)] at hc
      have hfr := hA.free i
      have hidx := fun w => run_index_tab (P := Try.prog) (t := 22) Try.underlying22 Try.underlying5 size_u8 g i hlt w
      have q := u8_xor_nat _ _ (HF.out i hlt) (HG.out i hlt)
      have HA := Lib.hid hA
      have HB := Lib.hid hB
      have HX := Lib.hid hx
      have i1 : (i : Int) < 16 := by omega
      clear hA hB hx
      go_wp2_with fail
      go_roundw
      case rel =>
        refine ⟨i + 1, by omega, by go_num, HA.out.to hlt ?_ (fun j _ hne => ?_), HB.out.other (by omega) _ _, ext_setCell HX.out (by simp) _⟩
        · rw [if_pos (by omega)]
        · by_cases hj : j < i
          · rw [if_pos hj, if_pos (by omega)]
          · rw [if_neg hj, if_neg (by omega)]
      case measure => simp [intOf]; omega
    · have e16 : i = 16 := by omega
      subst e16
      have HA := Lib.hid (hA.congr (f' := xo f g) (fun j hj => by rw [if_pos hj]; rfl))
      have HB := Lib.hid hB
      have HX := Lib.hid hx
      clear hA hB hx
      go_wp2_with (first
        | refine wpList_load_arr rfl 22 (.tmp 2) rfl w.heap.size rfl 22 .u8 16 (xo f g) _ HA.out Try.underlying22 size_bk ?_
        | (refine wpList_store_arr' rfl rfl 22 (.tmp 4) (.tmp 19) rfl (w.heap.size + 1 + 1) .u8 16 (xo f g) rfl rfl 22 _ HB.out size_bk tabV_size ?_; intro w5 hA5 hG5))
      refine bodyPost_ret (v := .agg (tabV .u8 16 (xo f g))) ?_ rfl ⟨rfl, grown_new HX.out hG5 (fun g hg => by simp at hg; omega)⟩
      exact results_cell_row rfl _ _ _ _ _ _ _ rfl hA5 Try.underlying22 rfl (by rw [tabV_size]; exact size_bk)

/-- the functions of bytes that are handed over -/
def ByFn (fn : Nat) (t : Nat → Nat) : Prop := fn = 38 ∧ t = sb
set_option maxRecDepth 100000 in
set_option maxHeartbeats 1000000 in
theorem each_c (fn : Nat) (t : Nat → Nat) (hfn : ByFn fn t) (f : Bk) (hf : Byt f) (w : World) :
    Calls Try.prog 37 #[.agg (tabV .u8 16 f), .func (.func fn) #[] #[]] w fun e w' => e = .returned (.agg (tabV .u8 16 (ea t f))) ∧ Ext w w' := by
  have HF := Lib.hid hf
  have HT := Lib.hid hfn
  clear hf hfn
  go_enter Try.func37, Try.ntmps37
  go_wp2_with (refine wpList_load_arr rfl 22 (.tmp 2) rfl w.heap.size rfl 22 .u8 16 f _ (two_new _ _ _).1 Try.underlying22 size_bk ?_)
  go_loopw [8] (fun v wr => ∃ i : Nat, i ≤ 16 ∧ v = .int .i64 i ∧ Arr wr w.heap.size 22 .u8 16 (fun j => if j < i then t (f j) else f j) ∧ Arr wr (w.heap.size + 1) 22 .u8 16 (fun _ => 0) ∧ Ext w wr) (fun v _ => 16 - (intOf v).toNat)
  case atStart =>
    obtain ⟨h0, h1⟩ := two_new w (.cells (tabV .u8 16 f) 22) (.cells (tabV .u8 16 (fun _ => 0)) 22)
    refine ⟨0, by omega, rfl, ?_, h1, (Ext.alloc _ _).tr (Ext.alloc _ _)⟩
    refine Arr.congr (f := f) h0 (fun i hi => by simp)
  case round =>
    obtain ⟨i, hi, rfl, hA, hB, hx⟩ := hrel
    by_cases hlt : i < 16
    · have hc := hA.cell (i := i) hlt
      rw [if_neg (by omega)] at hc
      have hfr := hA.free i
      have hidx := fun w => run_index_tab (P := Try.prog) (t := 22) Try.underlying22 Try.underlying5 size_u8 f i hlt w
      have hb := HF.out i hlt
      have HA := Lib.hid hA
      have HB := Lib.hid hB
      have HX := Lib.hid hx
      have i1 : (i : Int) < 16 := by omega
      clear hA hB hx
      obtain ⟨rfl, rfl⟩ := HT.out
      · go_wp2_with fail
        refine (sub_c _ hb _).mono ?_
        rintro e v ⟨rfl, rfl⟩
        go_wp2_with fail
        go_roundw
        case rel =>
          refine ⟨i + 1, by omega, by go_num, HA.out.to hlt ?_ (fun j _ hne => ?_), HB.out.other (by omega) _ _, ext_setCell HX.out (by simp) _⟩
          · rw [if_pos (by omega)]
          · by_cases hj : j < i
            · rw [if_pos hj, if_pos (by omega)]
            · rw [if_neg hj, if_neg (by omega)]
        case measure => simp [intOf]; omega
    · have e16 : i = 16 := by omega
      subst e16
      have HA := Lib.hid (hA.congr (f' := ea t f) (fun j hj => by rw [if_pos hj]; rfl))
      have HB := Lib.hid hB
      have HX := Lib.hid hx
      clear hA hB hx
      go_wp2_with (first
        | refine wpList_load_arr rfl 22 (.tmp 2) rfl w.heap.size rfl 22 .u8 16 (ea t f) _ HA.out Try.underlying22 size_bk ?_
        | (refine wpList_store_arr' rfl rfl 22 (.tmp 4) (.tmp 18) rfl (w.heap.size + 1) .u8 16 (ea t f) rfl rfl 22 _ HB.out size_bk tabV_size ?_; intro w5 hA5 hG5))
      refine bodyPost_ret (v := .agg (tabV .u8 16 (ea t f))) ?_ rfl ⟨rfl, grown_new HX.out hG5 (fun g hg => by simp at hg; omega)⟩
      exact results_cell_row rfl _ _ _ _ _ _ _ rfl hA5 Try.underlying22 rfl (by rw [tabV_size]; exact size_bk)
theorem byFn_sub : ByFn 38 sb := ⟨rfl, rfl⟩

set_option maxRecDepth 100000 in
set_option maxHeartbeats 1000000 in
theorem moved_c (n : Nat) (hn : n = 1 ∨ n = 3) (f : Bk) (hf : Byt f) (w : World) :
    Calls Try.prog 36 #[.agg (tabV .u8 16 f), .int .i64 n] w fun e w' => e = .returned (.agg (tabV .u8 16 (mv n f))) ∧ Ext w w' := by
  have HF := Lib.hid hf
  have HN := Lib.hid hn
  clear hf hn
  go_enter Try.func36, Try.ntmps36
  go_wp2_with fail
  go_loopw [8] (fun v wr => ∃ i : Nat, i ≤ 16 ∧ v = .int .i64 i ∧ Arr wr w.heap.size 22 .u8 16 f ∧ Arr wr (w.heap.size + 1) 22 .u8 16 (fun j => if j < i then mv n f j else 0) ∧ Ext w wr) (fun v _ => 16 - (intOf v).toNat)
  case atStart =>
    obtain ⟨h0, h1⟩ := two_new w (.cells (tabV .u8 16 f) 22) (.cells (tabV .u8 16 (fun _ => 0)) 22)
    refine ⟨0, by omega, rfl, h0, ?_, (Ext.alloc _ _).tr (Ext.alloc _ _)⟩
    refine Arr.congr (f := fun _ => 0) h1 (fun i hi => by simp)
  case round =>
    obtain ⟨i, hi, rfl, hA, hB, hx⟩ := hrel
    by_cases hlt : i < 16
    · have hcb := hB.cell (i := i) hlt
      have hfr := hB.free i
      have i1 : (i : Int) < 16 := by omega
      have fin : ∀ (v : Nat), v = mv n f i → Arr (wr.setCell ⟨w.heap.size + 1, i, none⟩ (.int .u8 v)) (w.heap.size + 1) 22 .u8 16 (fun j => if j < i + 1 then mv n f j else 0) := fun v hv => hB.to hlt (by rw [if_pos (by omega), hv]) (fun j _ hne => by
        by_cases hj : j < i
        · rw [if_pos hj, if_pos (by omega)]
        · rw [if_neg hj, if_neg (by omega)])
      have HA := Lib.hid hA
      have HX := Lib.hid hx
      have HFIN := Lib.hid fin
      rcases HN.out with rfl | rfl
      · have e : i % 4 + 4 * ((i / 4 + i) % 4) = i % 4 + 4 * ((i / 4 + 1 * (i % 4)) % 4) := by omega
        have hm : i % 4 + 4 * ((i / 4 + i) % 4) < 16 := by omega
        have hc := hA.cell (i := i % 4 + 4 * ((i / 4 + i) % 4)) hm
        have HE := Lib.hid (show f (i % 4 + 4 * ((i / 4 + i) % 4)) = mv 1 f i by rw [e]; rfl)
        obtain ⟨v, hv⟩ : ∃ v, v = f (i % 4 + 4 * ((i / 4 + i) % 4)) := ⟨_, rfl⟩
        rw [← hv] at hc HE
        clear hA hB hx fin e hm hv
        go_wp2_with fail
        go_roundw
        case rel => exact ⟨i + 1, by omega, by go_num, HA.out.other (by omega) _ _, HFIN.out v HE.out, ext_setCell HX.out (by simp) _⟩
        case measure => simp [intOf]; omega
      · have e : i % 4 + 4 * ((i / 4 + 3 * i) % 4) = i % 4 + 4 * ((i / 4 + 3 * (i % 4)) % 4) := by omega
        have hm : i % 4 + 4 * ((i / 4 + 3 * i) % 4) < 16 := by omega
        have hc := hA.cell (i := i % 4 + 4 * ((i / 4 + 3 * i) % 4)) hm
        have hc' := hc
        rw [e] at hc'
        have HE := Lib.hid (show f (i % 4 + 4 * ((i / 4 + 3 * i) % 4)) = mv 3 f i by rw [e]; rfl)
        obtain ⟨v, hv⟩ : ∃ v, v = f (i % 4 + 4 * ((i / 4 + 3 * i) % 4)) := ⟨_, rfl⟩
        rw [e] at hv
        rw [e, ← hv] at hc HE
        rw [← hv] at hc'
        clear hA hB hx fin e hm hv hc
        go_wp2_with fail
        go_roundw
        case rel => exact ⟨i + 1, by omega, by go_num, HA.out.other (by omega) _ _, HFIN.out v HE.out, ext_setCell HX.out (by simp) _⟩
        case measure => simp [intOf]; omega
    · have e16 : i = 16 := by omega
      subst e16
      have HA := Lib.hid (hB.congr (f' := mv n f) (fun j hj => by rw [if_pos hj]))
      have HX := Lib.hid hx
      clear hA hB hx
      go_wp2_with (first
        | refine wpList_load_arr rfl 22 (.tmp 4) rfl (w.heap.size + 1) rfl 22 .u8 16 (mv n f) _ HA.out Try.underlying22 size_bk ?_
        | (refine wpList_store_arr' rfl rfl 22 (.tmp 4) (.tmp 29) rfl (w.heap.size + 1) .u8 16 (mv n f) rfl rfl 22 _ HA.out size_bk tabV_size ?_; intro w5 hA5 hG5))
      refine bodyPost_ret (v := .agg (tabV .u8 16 (mv n f))) ?_ rfl ⟨rfl, grown_new HX.out hG5 (fun g hg => by simp at hg; omega)⟩
      exact results_cell_row rfl _ _ _ _ _ _ _ rfl hA5 Try.underlying22 rfl (by rw [tabV_size]; exact size_bk)
end Go.Proofs.Ytdmfajcbbolfiaa
