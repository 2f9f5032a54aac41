/-
  SealKeys.
-/
import Derived.Test.YtdaahkijmleioaaDoorQSealN

namespace Go.Proofs.YtdaahkijmleioaaDoor
open Go.RowKit
set_option linter.unusedVariables false
set_option linter.unusedSimpArgs false

/-- what a slot holds: a value, some bytes, a pointer to bytes -/
inductive Sk where
  | any
  | val (x : Value)
  | byn (l : List UInt8) (n : Nat)
  | ptr (l : List UInt8) (n : Nat)
def Sk.holds : Sk → Value → World → Prop
  | .any, _, _ => True
  | .val x, v, _ => v = x
  | .byn l n, v, W => l.length = n ∧ ∃ A c, v = .slice A n c ∧ RB W (fun _ _ => True) A l
  | .ptr l n, v, W => l.length = n ∧ ∃ g off, v = .pointer (some ⟨g, off, none⟩) ∧ RB W (fun _ _ => True) (some ⟨g, off, none⟩) l
def Sk.at_ (sp : List Sk) (d : Nat) (v : Value) (W : World) : Prop := (sp.getD d .any).holds v W
theorem Sk.mono (sp : List Sk) : ∀ d v W W', Sk.at_ sp d v W → Ext W W' → Sk.at_ sp d v W' := by
  intro d v W W' h hx
  unfold Sk.at_ at *
  generalize sp.getD d .any = x at *
  cases x with
  | any => trivial
  | val x => exact h
  | byn l n =>
    obtain ⟨h0, A, c, h1, h2⟩ := h
    exact ⟨h0, A, c, h1, h2.ext hx⟩
  | ptr l n =>
    obtain ⟨h0, g, off, h1, h2⟩ := h
    exact ⟨h0, g, off, h1, h2.ext hx⟩
theorem wants {ops : Array Oper} {o : Oper} {tmps : Array Value} {j d : Nat} {b : Bool} (hg : o.guard = some (j, b)) (hd : dstOf ops j = some d) (hv : tmps.getD d undef = .bool b) : Region.wanted o (yielded ops tmps) = true := by
  have hy : yielded ops tmps j = some b := by
    unfold yielded
    unfold dstOf at hd
    rw [hd]
    have : tmps[d]? = some (.bool b) := by
      rw [Array.getD_eq_getD_getElem?] at hv
      cases h : tmps[d]? with
      | none => rw [h] at hv; cases hv
      | some v => rw [h] at hv; rw [← hv]; rfl
    simp [this]
  unfold Region.wanted
  rw [hg]
  simp [hy]
theorem wants_not {ops : Array Oper} {o : Oper} {tmps : Array Value} {j d : Nat} {b b' : Bool} (hg : o.guard = some (j, b)) (hd : dstOf ops j = some d) (hv : tmps.getD d undef = .bool b') (hne : b' ≠ b) : Region.wanted o (yielded ops tmps) = false := by
  have hy : yielded ops tmps j = some b' := by
    unfold yielded
    unfold dstOf at hd
    rw [hd]
    have : tmps[d]? = some (.bool b') := by
      rw [Array.getD_eq_getD_getElem?] at hv
      cases h : tmps[d]? with
      | none => rw [h] at hv; cases hv
      | some v => rw [h] at hv; rw [← hv]; rfl
    simp [this]
  unfold Region.wanted
  rw [hg]
  simp [hy, hne]
theorem wants_undef {ops : Array Oper} {o : Oper} {tmps : Array Value} {j d : Nat} {b : Bool} (hg : o.guard = some (j, b)) (hd : dstOf ops j = some d) (hv : tmps.getD d undef = undef) : Region.wanted o (yielded ops tmps) = false := by
  have hy : yielded ops tmps j = none := by
    unfold yielded
    unfold dstOf at hd
    rw [hd]
    rw [Array.getD_eq_getD_getElem?] at hv
    cases h : tmps[d]? with
    | none => simp [h]
    | some v =>
      rw [h] at hv
      change v = undef at hv
      subst hv
      simp [h]
      rfl
  unfold Region.wanted
  rw [hg]
  simp [hy]
theorem eval_of {a : Act} {d : Nat} {v : Value} (h : a.tmps.getD d undef = v) : a.eval (.tmp d) = v := h
theorem slot_of {a : Act} {d : Nat} {v : Value} (h : a.tmps.getD d undef = v) : a.tmps[d]?.getD undef = v := by rw [← h, Array.getD_eq_getD_getElem?]
theorem cell_of {a : Act} {d : Nat} {v : Value} (h : a.tmps.getD d undef = v) : ∀ hd : d < a.tmps.size, a.tmps[d] = v := fun hd => by rw [← h, Array.getD_eq_getD_getElem?, Array.getElem?_eq_getElem hd]; rfl
theorem wp_load_rng {P : Program} {w : World} {o : Oper} {a : Act} {K : Act → World → Prop} {Q : Exit → Act → World → Prop} (ty : TypeId) (x : Operand) (ho : o.op = .load ty x) (g off : Nat) (hx : a.eval x = .pointer (some ⟨g, off, none⟩)) (k : IntKind) (n : Nat) (f : Nat → Nat) (e : TypeId)
    (hr : w.rangeAt g off (tabV k n f).toList) (hu : P.underlying ty = some (.array n e)) (hz : (P.info? ty).map (·.size) = some n) (h : K (a.put o.dst (.agg (tabV k n f))) w) : o.wp P a w K Q := by
  refine wp_load_mid ty x ho g off hx (tabV k n f).toList _ hr hu rfl (by rw [Array.length_toList, tabV_size]; exact hz) ?_
  rw [Array.toArray_toList]
  exact h
def PK (w : World) (d : Nat) (e : Exit) (a : Act) (W : World) : Prop := e = .normal ∧ a.tmps.getD d undef = .bool true ∧ a.defers = [] ∧ Ext w W
theorem btl_ekl (k : List UInt8) : btl 16 (byt (ekl k)) = ekl k := by
  have := btl_all (ekl k)
  rwa [ekl_len] at this
def spS (key other : Nat → Nat) (gk go ge gm gf gn : Nat) : List Sk := [.any, .any, .any, .any, .val (.bool true), .any, .any, .any, .any, .any, .any, .any, .any, .any, .any, .any, .any, .any, .any, .any, .any, .val (.slice (some ⟨ge, 0, none⟩) 16 16), .val (.slice (some ⟨gk, 0, none⟩) 16 16), .byn (ekl (btl 16 key)) 16, .val (.bool true), .val (.bool true), .val (.slice (some ⟨gm, 0, none⟩) 32 32), .val (.slice (some ⟨gk, 0, none⟩) 16 16), .byn (mkl (btl 16 key)) 32, .val (.bool true), .val (.bool true), .val (.bool true), .val (.agg (tabV .u8 16 (key))), .val (.agg (tabV .u8 16 (other))), .val (.bool false), .val (.bool false), .val (.agg (tabV .u8 16 (byt (ekl (btl 16 key))))), .val (.agg (tabV .u8 16 (byt (ekl (btl 16 other))))), .val (.bool true), .val (.bool true), .val (.agg (tabV .u8 32 (byt (mkl (btl 16 key))))), .val (.agg (tabV .u8 32 (byt (mkl (btl 16 other))))), .val (.bool true), .val (.bool true), .val (.bool true), .val (.bool true), .val (.bool true), .val (.agg (tabV .u8 16 (byt (ekl (btl 16 other))))), .val (.slice (some ⟨go, 0, none⟩) 16 16), .byn (ekl (btl 16 other)) 16, .ptr (ekl (btl 16 other)) 16, .val (.agg (tabV .u8 16 (byt (ekl (btl 16 other))))), .val (.bool true), .val (.bool true), .val (.bool true), .val (.slice (some ⟨gn, 0, none⟩) 32 32), .val (.slice (some ⟨go, 0, none⟩) 16 16), .byn (mkl (btl 16 other)) 32, .val (.bool true), .val (.bool true)]
def spD (key other : Nat → Nat) (gk go ge gm gf gn : Nat) : List Sk := [.any, .any, .any, .any, .val (.bool true), .any, .any, .any, .any, .any, .any, .any, .any, .any, .any, .any, .any, .any, .any, .any, .any, .val (.slice (some ⟨ge, 0, none⟩) 16 16), .val (.slice (some ⟨gk, 0, none⟩) 16 16), .byn (ekl (btl 16 key)) 16, .val (.bool true), .val (.bool true), .val (.slice (some ⟨gm, 0, none⟩) 32 32), .val (.slice (some ⟨gk, 0, none⟩) 16 16), .byn (mkl (btl 16 key)) 32, .val (.bool true), .val (.bool true), .val (.bool true), .val (.agg (tabV .u8 16 (key))), .val (.agg (tabV .u8 16 (other))), .val (.bool true), .val (.bool true), .val undef, .val undef, .val undef, .val undef, .val undef, .val undef, .val undef, .val undef, .val (.bool true), .val (.bool true), .val (.bool true), .val (.agg (tabV .u8 16 (byt (ekl (btl 16 other))))), .val (.slice (some ⟨go, 0, none⟩) 16 16), .byn (ekl (btl 16 other)) 16, .ptr (ekl (btl 16 other)) 16, .val (.agg (tabV .u8 16 (byt (ekl (btl 16 other))))), .val (.bool true), .val (.bool true), .val (.bool true), .val (.slice (some ⟨gn, 0, none⟩) 32 32), .val (.slice (some ⟨go, 0, none⟩) 16 16), .byn (mkl (btl 16 other)) 32, .val (.bool true), .val (.bool true)]
set_option maxRecDepth 100000 in
set_option maxHeartbeats 16000000 in
theorem sealKeys_walk (key other : Nat → Nat) (w : World) (hk' : ∀ i, i < 16 → (Lit.int .u8 (key i : Nat)).wf = true) (ho' : ∀ i, i < 16 → (Lit.int .u8 (other i : Nat)).wf = true) (ht : Tab w) :
    Calls Tryd.prog 6 #[.agg (tabV .u8 16 key), .agg (tabV .u8 16 other)] w fun e w' => e = .returned (.bool true) ∧ Ext w w' := by
  have HKB := Lib.hid (wf_byt hk')
  have HOB := Lib.hid (wf_byt ho')
  obtain ⟨h0, h1⟩ := two_new w (.cells (tabV .u8 16 key) 22) (.cells (tabV .u8 16 other) 22)
  have hx0 := (Ext.alloc w (.cells (tabV .u8 16 key) 22)).tr (Ext.alloc _ (.cells (tabV .u8 16 other) 22))
  have HK0 := Lib.hid (show Arr _ w.heap.size 22 .u8 16 key from h0)
  have HO0 := Lib.hid (show Arr _ (w.heap.size + 1) 22 .u8 16 other from h1)
  have HX0 := Lib.hid hx0
  have HT := Lib.hid ht
  clear hk' ho' h0 h1 hx0 ht
  go_enter Tryd.func6, Tryd.ntmps6
  go_wp2_with fail
  refine (awake_c _ (HT.out.ext HX0.out)).mono ?_
  rintro e w1 ⟨rfl, hx1⟩
  have HX1 := Lib.hid (HX0.out.tr hx1)
  have HK1 := Lib.hid (HK0.out.ext hx1)
  have HO1 := Lib.hid (HO0.out.ext hx1)
  clear hx1 HX0 HK0 HO0
  go_wp2_with (refine wpList_load_arr rfl 22 (.tmp 2) rfl w.heap.size rfl 22 .u8 16 key _ HK1.out Tryd.underlying22 size_bk ?_)
  refine (skeys_c key HKB.out w1 (HT.out.ext HX1.out)).mono ?_
  rintro e w2 ⟨rfl, hx2⟩
  have HX2 := Lib.hid (HX1.out.tr hx2)
  have HK2 := Lib.hid (HK1.out.ext hx2)
  have HO2 := Lib.hid (HO1.out.ext hx2)
  obtain ⟨he0, hm0⟩ := two_new w2 (.cells (tabV .u8 16 (fun _ => 0)) 22) (.cells (tabV .u8 32 (fun _ => 0)) 36)
  have HE0 := Lib.hid (show Arr _ w2.heap.size 22 .u8 16 (fun _ => 0) from he0)
  have HM0 := Lib.hid (show Arr _ (w2.heap.size + 1) 36 .u8 32 (fun _ => 0) from hm0)
  clear hx2 HX1 HK1 HO1 he0 hm0
  go_wp2_with (first
    | (refine wpList_store_arr' rfl rfl 22 (.tmp 5) (.tmp 14) rfl w2.heap.size .u8 16 (byt (ekl (btl 16 key))) rfl rfl 22 _ HE0.out size_bk tabV_size ?_
       intro w3 hA3 hG3
       have HM3 := Lib.hid (arr_far HM0.out hG3 (by omega))
       have x3 := grown_new ((Ext.alloc w2 _).tr (Ext.alloc _ _)) hG3 (fun g hg => by simp at hg; omega)
       have HQ3 := Lib.hid x3
       have HA3 := Lib.hid hA3
       clear hA3 x3 hG3)
    | (refine wpList_store_arr' rfl rfl 36 (.tmp 6) (.tmp 15) rfl (w2.heap.size + 1) .u8 32 (byt (mkl (btl 16 key))) rfl rfl 36 _ HM3.out size_dig tabV_size ?_
       intro w4 hA4 hG4
       have x4 := grown_new HQ3.out hG4 (fun g hg => by simp at hg; omega)
       have HX4 := Lib.hid (HX2.out.tr x4)
       have HK4 := Lib.hid (HK2.out.ext x4)
       have HO4 := Lib.hid (HO2.out.ext x4)
       have HE4 := Lib.hid (arr_far HA3.out hG4 (by omega))
       have HM4 := Lib.hid hA4
       clear hA4 x4 hG4)
    | (refine wpList_load_arr rfl 22 (.tmp 3) rfl (w.heap.size + 1) rfl 22 .u8 16 other _ HO4.out Tryd.underlying22 size_bk ?_))
  obtain ⟨ge, hge⟩ : ∃ ge, ge = w2.heap.size := ⟨_, rfl⟩
  rw [← hge] at HE4 HM4 ⊢
  clear hge HX2 HK2 HO2 HE0 HM0 HM3 HQ3 HA3
  refine (skeys_c other HOB.out w4 (HT.out.ext HX4.out)).mono ?_
  rintro e w5 ⟨rfl, hx5⟩
  have HX5 := Lib.hid (HX4.out.tr hx5)
  have HK5 := Lib.hid (HK4.out.ext hx5)
  have HO5 := Lib.hid (HO4.out.ext hx5)
  have HE5 := Lib.hid (HE4.out.ext hx5)
  have HM5 := Lib.hid (HM4.out.ext hx5)
  obtain ⟨hf0, hn0⟩ := two_new w5 (.cells (tabV .u8 16 (fun _ => 0)) 22) (.cells (tabV .u8 32 (fun _ => 0)) 36)
  have HF0 := Lib.hid (show Arr _ w5.heap.size 22 .u8 16 (fun _ => 0) from hf0)
  have HN0 := Lib.hid (show Arr _ (w5.heap.size + 1) 36 .u8 32 (fun _ => 0) from hn0)
  clear hx5 HX4 HK4 HO4 HE4 HM4 hf0 hn0
  go_wp2_with (first
    | (refine wpList_store_arr' rfl rfl 22 (.tmp 7) (.tmp 19) rfl w5.heap.size .u8 16 (byt (ekl (btl 16 other))) rfl rfl 22 _ HF0.out size_bk tabV_size ?_
       intro w6 hA6 hG6
       have HN6 := Lib.hid (arr_far HN0.out hG6 (by omega))
       have x6 := grown_new ((Ext.alloc w5 _).tr (Ext.alloc _ _)) hG6 (fun g hg => by simp at hg; omega)
       have HQ6 := Lib.hid x6
       have HA6 := Lib.hid hA6
       clear hA6 x6 hG6)
    | (refine wpList_store_arr' rfl rfl 36 (.tmp 8) (.tmp 20) rfl (w5.heap.size + 1) .u8 32 (byt (mkl (btl 16 other))) rfl rfl 36 _ HN6.out size_dig tabV_size ?_
       intro w7 hA7 hG7
       have x7 := grown_new HQ6.out hG7 (fun g hg => by simp at hg; omega)
       have HX7 := Lib.hid (HX5.out.tr x7)
       have HKK := Lib.hid (HK5.out.ext x7)
       have HKO := Lib.hid (HO5.out.ext x7)
       have HE := Lib.hid (HE5.out.ext x7)
       have HM := Lib.hid (HM5.out.ext x7)
       have HF := Lib.hid (arr_far HA6.out hG7 (by omega))
       have HN := Lib.hid hA7
       clear hA7 x7 hG7))
  obtain ⟨gf, hgf⟩ : ∃ g, g = w5.heap.size := ⟨_, rfl⟩
  rw [← hgf] at HF HN ⊢
  clear hgf HX5 HK5 HO5 HE5 HM5 HF0 HN0 HN6 HQ6 HA6
  obtain ⟨gk, hgk⟩ : ∃ g, g = w.heap.size := ⟨_, rfl⟩
  rw [← hgk] at HKK HKO ⊢
  clear hgk
  have HDE := Lib.hid (fun (W : World) (hx : Ext w7 W) => rkey_c (btl 16 key) (btl_len _ _) labE ⟨#[101, 110, 99, 114, 121, 112, 116]⟩ rfl (by decide) 16 (by decide) _ _ W ((HKK.out.ext hx).rb HKB.out))
  have HDM := Lib.hid (fun (W : World) (hx : Ext w7 W) => rkey_c (btl 16 key) (btl_len _ _) labM ⟨#[112, 114, 111, 116, 101, 99, 116]⟩ rfl (by decide) 32 (by decide) _ _ W ((HKK.out.ext hx).rb HKB.out))
  have HDF := Lib.hid (fun (W : World) (hx : Ext w7 W) => rkey_c (btl 16 other) (btl_len _ _) labE ⟨#[101, 110, 99, 114, 121, 112, 116]⟩ rfl (by decide) 16 (by decide) _ _ W ((HKO.out.ext hx).rb HOB.out))
  have HDN := Lib.hid (fun (W : World) (hx : Ext w7 W) => rkey_c (btl 16 other) (btl_len _ _) labM ⟨#[112, 114, 111, 116, 101, 99, 116]⟩ rfl (by decide) 32 (by decide) _ _ W ((HKO.out.ext hx).rb HOB.out))
  have hs16 : ∀ (g : Nat) (l : List UInt8) (W : World) (A : Option Addr) (c : Nat), l.length = 16 → Arr W g 22 .u8 16 (byt l) → RB W (fun _ _ => True) A l → Calls Tryd.prog 10 #[.slice (some ⟨g, 0, none⟩) 16 16, .slice A 16 c] W fun e w' => e = .returned (.bool true) ∧ Ext W w' := fun g l W A c hl hA hr => by
    have h1 := hA.rb (fun i _ => byt_lt _ _)
    have h2 := btl_all l
    rw [hl] at h2
    rw [h2] at h1
    have h := same_self (some ⟨g, 0, none⟩) A l 16 c _ _ W h1 hr (by rw [hl]; decide)
    rw [hl] at h
    exact h
  have hs32 : ∀ (g : Nat) (l : List UInt8) (W : World) (A : Option Addr) (c : Nat), l.length = 32 → Arr W g 36 .u8 32 (byt l) → RB W (fun _ _ => True) A l → Calls Tryd.prog 10 #[.slice (some ⟨g, 0, none⟩) 32 32, .slice A 32 c] W fun e w' => e = .returned (.bool true) ∧ Ext W w' := fun g l W A c hl hA hr => by
    have h1 := hA.rb (fun i _ => byt_lt _ _)
    have h2 := btl_all l
    rw [hl] at h2
    rw [h2] at h1
    have h := same_self (some ⟨g, 0, none⟩) A l 32 c _ _ W h1 hr (by rw [hl]; decide)
    rw [hl] at h
    exact h
  have HSE := Lib.hid (fun (W : World) (A : Option Addr) (c : Nat) (hx : Ext w7 W) (hr : RB W (fun _ _ => True) A (ekl (btl 16 key))) => hs16 ge _ W A c (ekl_len _) (HE.out.ext hx) hr)
  have HSM := Lib.hid (fun (W : World) (A : Option Addr) (c : Nat) (hx : Ext w7 W) (hr : RB W (fun _ _ => True) A (mkl (btl 16 key))) => hs32 (ge + 1) _ W A c (mkl_len _) (HM.out.ext hx) hr)
  have HSN := Lib.hid (fun (W : World) (A : Option Addr) (c : Nat) (hx : Ext w7 W) (hr : RB W (fun _ _ => True) A (mkl (btl 16 other))) => hs32 (gf + 1) _ W A c (mkl_len _) (HN.out.ext hx) hr)
  clear hs16 hs32
  obtain ⟨go, hgo⟩ : ∃ g, g = gk + 1 := ⟨_, rfl⟩
  obtain ⟨gm, hgm⟩ : ∃ g, g = ge + 1 := ⟨_, rfl⟩
  obtain ⟨gn, hgn⟩ : ∃ g, g = gf + 1 := ⟨_, rfl⟩
  rw [← hgo] at HKO HDF HDN ⊢
  rw [← hgm] at HM HSM ⊢
  rw [← hgn] at HN HSN ⊢
  clear hgo hgm hgn
  have HQF := Lib.hid (show eqb 16 (byt (ekl (btl 16 other))) (byt (ekl (btl 16 other))) = true from eqb_true.2 (fun _ _ => rfl))
  have harr := fun (a : Option Addr) (c : Nat) => run_arrayAt (P := Tryd.prog) (t := 22) Tryd.underlying22 a 16 c (by decide)
  refine Code.wp_mono (P := Tryd.prog) (Q := PK w7 4) ?_ ?_
  · rintro e ⟨tmps, defers⟩ W ⟨rfl, h0, hd, hx⟩
    dsimp only at h0 hd
    subst hd
    go_wp2_with fail
    go_ret
    exact ⟨by rw [← h0], HX7.out.tr hx⟩
  by_cases hsame : ∀ i, i < 16 → key i = other i
  · have hkk : btl 16 key = btl 16 other := btl_congr hsame
    have HNE := Lib.hid (show (!eqb 16 key other) = false by rw [eqb_true.2 hsame]; rfl)
    have HQE := Lib.hid (show eqb 16 (byt (ekl (btl 16 key))) (byt (ekl (btl 16 other))) = true from eqb_true.2 (fun _ _ => by rw [hkk]))
    have HQM := Lib.hid (show eqb 32 (byt (mkl (btl 16 key))) (byt (mkl (btl 16 other))) = true from eqb_true.2 (fun _ _ => by rw [hkk]))
    clear hkk hsame
    refine region_free (Ext w7) (Sk.at_ (spS key other gk go ge gm gf gn)) Ext (by kernel_rfl) (by kernel_rfl) (by kernel_rfl) (Sk.mono _) Ext.refl (Ext.drew _) ?_ ?_
    · refine Steps.cons (fun a W hS hsz hU hD => ?_) ?_
      · have e5 : a.tmps.getD 5 undef = .pointer (some ⟨ge, 0, none⟩) := hU 5 (by kernel_rfl)
        have v5 := eval_of e5
        have y5 := slot_of e5
        have z5 := cell_of e5
        refine .inl ⟨rfl, fun K hK => ?_⟩
        go_simp
        exact hK _ _ hS (Ext.refl _) (fun d hd => by cases hd; rfl)
      refine Steps.cons (fun a W hS hsz hU hD => ?_) ?_
      · have e2 : a.tmps.getD 2 undef = .pointer (some ⟨gk, 0, none⟩) := hU 2 (by kernel_rfl)
        have v2 := eval_of e2
        have y2 := slot_of e2
        have z2 := cell_of e2
        refine .inl ⟨rfl, fun K hK => ?_⟩
        go_simp
        exact hK _ _ hS (Ext.refl _) (fun d hd => by cases hd; rfl)
      refine Steps.cons (fun a W hS hsz hU hD => ?_) ?_
      · have e22 : a.tmps.getD 22 undef = (.slice (some ⟨gk, 0, none⟩) 16 16) := hD 22 (by kernel_rfl)
        have v22 := eval_of e22
        have y22 := slot_of e22
        have z22 := cell_of e22
        refine .inl ⟨rfl, fun K hK => ?_⟩
        go_simp
        refine (HDE.out W hS).mono ?_
        rintro e W1 ⟨A, c, rfl, hr, hx⟩
        exact hK _ _ (hS.tr hx) hx (fun d hd => by cases hd; exact ⟨ekl_len _, A, c, rfl, hr⟩)
      refine Steps.cons (fun a W hS hsz hU hD => ?_) ?_
      · have e21 : a.tmps.getD 21 undef = (.slice (some ⟨ge, 0, none⟩) 16 16) := hD 21 (by kernel_rfl)
        have v21 := eval_of e21
        have y21 := slot_of e21
        have z21 := cell_of e21
        obtain ⟨hl23, A23, c23, e23, hr23⟩ : Sk.holds (.byn (ekl (btl 16 key)) 16) (a.tmps.getD 23 undef) W := hD 23 (by kernel_rfl)
        have v23 := eval_of e23
        have y23 := slot_of e23
        have z23 := cell_of e23
        refine .inl ⟨rfl, fun K hK => ?_⟩
        go_simp
        refine (HSE.out W A23 c23 hS hr23).mono ?_
        rintro e W1 ⟨rfl, hx⟩
        exact hK _ _ (hS.tr hx) hx (fun d hd => by cases hd; rfl)
      refine Steps.cons (fun a W hS hsz hU hD => ?_) ?_
      · have e24 : a.tmps.getD 24 undef = (.bool true) := hD 24 (by kernel_rfl)
        have v24 := eval_of e24
        have y24 := slot_of e24
        have z24 := cell_of e24
        refine .inl ⟨rfl, fun K hK => ?_⟩
        go_simp
        exact hK _ _ hS (Ext.refl _) (fun d hd => by cases hd; rfl)
      refine Steps.cons (fun a W hS hsz hU hD => ?_) ?_
      · have e6 : a.tmps.getD 6 undef = .pointer (some ⟨gm, 0, none⟩) := hU 6 (by kernel_rfl)
        have v6 := eval_of e6
        have y6 := slot_of e6
        have z6 := cell_of e6
        refine .inl ⟨wants rfl (by kernel_rfl) (show a.tmps.getD 25 undef = .bool true from hD 25 (by kernel_rfl)), fun K hK => ?_⟩
        go_simp
        exact hK _ _ hS (Ext.refl _) (fun d hd => by cases hd; rfl)
      refine Steps.cons (fun a W hS hsz hU hD => ?_) ?_
      · have e2 : a.tmps.getD 2 undef = .pointer (some ⟨gk, 0, none⟩) := hU 2 (by kernel_rfl)
        have v2 := eval_of e2
        have y2 := slot_of e2
        have z2 := cell_of e2
        refine .inl ⟨wants rfl (by kernel_rfl) (show a.tmps.getD 25 undef = .bool true from hD 25 (by kernel_rfl)), fun K hK => ?_⟩
        go_simp
        exact hK _ _ hS (Ext.refl _) (fun d hd => by cases hd; rfl)
      refine Steps.cons (fun a W hS hsz hU hD => ?_) ?_
      · have e27 : a.tmps.getD 27 undef = (.slice (some ⟨gk, 0, none⟩) 16 16) := hD 27 (by kernel_rfl)
        have v27 := eval_of e27
        have y27 := slot_of e27
        have z27 := cell_of e27
        refine .inl ⟨wants rfl (by kernel_rfl) (show a.tmps.getD 25 undef = .bool true from hD 25 (by kernel_rfl)), fun K hK => ?_⟩
        go_simp
        refine (HDM.out W hS).mono ?_
        rintro e W1 ⟨A, c, rfl, hr, hx⟩
        exact hK _ _ (hS.tr hx) hx (fun d hd => by cases hd; exact ⟨mkl_len _, A, c, rfl, hr⟩)
      refine Steps.cons (fun a W hS hsz hU hD => ?_) ?_
      · have e26 : a.tmps.getD 26 undef = (.slice (some ⟨gm, 0, none⟩) 32 32) := hD 26 (by kernel_rfl)
        have v26 := eval_of e26
        have y26 := slot_of e26
        have z26 := cell_of e26
        obtain ⟨hl28, A28, c28, e28, hr28⟩ : Sk.holds (.byn (mkl (btl 16 key)) 32) (a.tmps.getD 28 undef) W := hD 28 (by kernel_rfl)
        have v28 := eval_of e28
        have y28 := slot_of e28
        have z28 := cell_of e28
        refine .inl ⟨wants rfl (by kernel_rfl) (show a.tmps.getD 25 undef = .bool true from hD 25 (by kernel_rfl)), fun K hK => ?_⟩
        go_simp
        refine (HSM.out W A28 c28 hS hr28).mono ?_
        rintro e W1 ⟨rfl, hx⟩
        exact hK _ _ (hS.tr hx) hx (fun d hd => by cases hd; rfl)
      refine Steps.cons (fun a W hS hsz hU hD => ?_) ?_
      · have e25 : a.tmps.getD 25 undef = (.bool true) := hD 25 (by kernel_rfl)
        have v25 := eval_of e25
        have y25 := slot_of e25
        have z25 := cell_of e25
        have e29 : a.tmps.getD 29 undef = (.bool true) := hD 29 (by kernel_rfl)
        have v29 := eval_of e29
        have y29 := slot_of e29
        have z29 := cell_of e29
        refine .inl ⟨rfl, fun K hK => ?_⟩
        go_simp
        exact hK _ _ hS (Ext.refl _) (fun d hd => by cases hd; rfl)
      refine Steps.cons (fun a W hS hsz hU hD => ?_) ?_
      · have e30 : a.tmps.getD 30 undef = (.bool true) := hD 30 (by kernel_rfl)
        have v30 := eval_of e30
        have y30 := slot_of e30
        have z30 := cell_of e30
        refine .inl ⟨rfl, fun K hK => ?_⟩
        go_simp
        exact hK _ _ hS (Ext.refl _) (fun d hd => by cases hd; rfl)
      refine Steps.cons (fun a W hS hsz hU hD => ?_) ?_
      · have e2 : a.tmps.getD 2 undef = .pointer (some ⟨gk, 0, none⟩) := hU 2 (by kernel_rfl)
        have v2 := eval_of e2
        have y2 := slot_of e2
        have z2 := cell_of e2
        refine .inl ⟨wants rfl (by kernel_rfl) (show a.tmps.getD 31 undef = .bool true from hD 31 (by kernel_rfl)), fun K hK => ?_⟩
        refine wp_load_arr 22 (.tmp 2) rfl gk v2 .u8 16 (key) _ _ (HKK.out.ext hS) Tryd.underlying22 size_bk ?_
        exact hK _ _ hS (Ext.refl _) (fun d hd => by cases hd; rfl)
      refine Steps.cons (fun a W hS hsz hU hD => ?_) ?_
      · have e3 : a.tmps.getD 3 undef = .pointer (some ⟨go, 0, none⟩) := hU 3 (by kernel_rfl)
        have v3 := eval_of e3
        have y3 := slot_of e3
        have z3 := cell_of e3
        refine .inl ⟨wants rfl (by kernel_rfl) (show a.tmps.getD 31 undef = .bool true from hD 31 (by kernel_rfl)), fun K hK => ?_⟩
        refine wp_load_arr 22 (.tmp 3) rfl go v3 .u8 16 (other) _ _ (HKO.out.ext hS) Tryd.underlying22 size_bk ?_
        exact hK _ _ hS (Ext.refl _) (fun d hd => by cases hd; rfl)
      refine Steps.cons (fun a W hS hsz hU hD => ?_) ?_
      · have e32 : a.tmps.getD 32 undef = (.agg (tabV .u8 16 (key))) := hD 32 (by kernel_rfl)
        have v32 := eval_of e32
        have y32 := slot_of e32
        have z32 := cell_of e32
        have e33 : a.tmps.getD 33 undef = (.agg (tabV .u8 16 (other))) := hD 33 (by kernel_rfl)
        have v33 := eval_of e33
        have y33 := slot_of e33
        have z33 := cell_of e33
        refine .inl ⟨wants rfl (by kernel_rfl) (show a.tmps.getD 31 undef = .bool true from hD 31 (by kernel_rfl)), fun K hK => ?_⟩
        refine wp_neq_dec 22 22 (.tmp 32) (.tmp 33) rfl .u8 16 (key) (other) v32 v33 5 Tryd.underlying22 Tryd.underlying5 size_u8 cells_u8 noGuard_bk ?_
        rw [HNE.out]
        exact hK _ _ hS (Ext.refl _) (fun d hd => by cases hd; rfl)
      refine Steps.cons (fun a W hS hsz hU hD => ?_) ?_
      · have e34 : a.tmps.getD 34 undef = (.bool false) := hD 34 (by kernel_rfl)
        have v34 := eval_of e34
        have y34 := slot_of e34
        have z34 := cell_of e34
        refine .inl ⟨wants rfl (by kernel_rfl) (show a.tmps.getD 31 undef = .bool true from hD 31 (by kernel_rfl)), fun K hK => ?_⟩
        go_simp
        exact hK _ _ hS (Ext.refl _) (fun d hd => by cases hd; rfl)
      refine Steps.cons (fun a W hS hsz hU hD => ?_) ?_
      · have e5 : a.tmps.getD 5 undef = .pointer (some ⟨ge, 0, none⟩) := hU 5 (by kernel_rfl)
        have v5 := eval_of e5
        have y5 := slot_of e5
        have z5 := cell_of e5
        refine .inl ⟨wants rfl (by kernel_rfl) (show a.tmps.getD 35 undef = .bool false from hD 35 (by kernel_rfl)), fun K hK => ?_⟩
        refine wp_load_arr 22 (.tmp 5) rfl ge v5 .u8 16 (byt (ekl (btl 16 key))) _ _ (HE.out.ext hS) Tryd.underlying22 size_bk ?_
        exact hK _ _ hS (Ext.refl _) (fun d hd => by cases hd; rfl)
      refine Steps.cons (fun a W hS hsz hU hD => ?_) ?_
      · have e7 : a.tmps.getD 7 undef = .pointer (some ⟨gf, 0, none⟩) := hU 7 (by kernel_rfl)
        have v7 := eval_of e7
        have y7 := slot_of e7
        have z7 := cell_of e7
        refine .inl ⟨wants rfl (by kernel_rfl) (show a.tmps.getD 35 undef = .bool false from hD 35 (by kernel_rfl)), fun K hK => ?_⟩
        refine wp_load_arr 22 (.tmp 7) rfl gf v7 .u8 16 (byt (ekl (btl 16 other))) _ _ (HF.out.ext hS) Tryd.underlying22 size_bk ?_
        exact hK _ _ hS (Ext.refl _) (fun d hd => by cases hd; rfl)
      refine Steps.cons (fun a W hS hsz hU hD => ?_) ?_
      · have e36 : a.tmps.getD 36 undef = (.agg (tabV .u8 16 (byt (ekl (btl 16 key))))) := hD 36 (by kernel_rfl)
        have v36 := eval_of e36
        have y36 := slot_of e36
        have z36 := cell_of e36
        have e37 : a.tmps.getD 37 undef = (.agg (tabV .u8 16 (byt (ekl (btl 16 other))))) := hD 37 (by kernel_rfl)
        have v37 := eval_of e37
        have y37 := slot_of e37
        have z37 := cell_of e37
        refine .inl ⟨wants rfl (by kernel_rfl) (show a.tmps.getD 35 undef = .bool false from hD 35 (by kernel_rfl)), fun K hK => ?_⟩
        refine wp_eql_dec 22 22 (.tmp 36) (.tmp 37) rfl .u8 16 (byt (ekl (btl 16 key))) (byt (ekl (btl 16 other))) v36 v37 5 Tryd.underlying22 Tryd.underlying5 size_u8 cells_u8 noGuard_bk ?_
        rw [HQE.out]
        exact hK _ _ hS (Ext.refl _) (fun d hd => by cases hd; rfl)
      refine Steps.cons (fun a W hS hsz hU hD => ?_) ?_
      · have e38 : a.tmps.getD 38 undef = (.bool true) := hD 38 (by kernel_rfl)
        have v38 := eval_of e38
        have y38 := slot_of e38
        have z38 := cell_of e38
        refine .inl ⟨wants rfl (by kernel_rfl) (show a.tmps.getD 35 undef = .bool false from hD 35 (by kernel_rfl)), fun K hK => ?_⟩
        go_simp
        exact hK _ _ hS (Ext.refl _) (fun d hd => by cases hd; rfl)
      refine Steps.cons (fun a W hS hsz hU hD => ?_) ?_
      · have e6 : a.tmps.getD 6 undef = .pointer (some ⟨gm, 0, none⟩) := hU 6 (by kernel_rfl)
        have v6 := eval_of e6
        have y6 := slot_of e6
        have z6 := cell_of e6
        refine .inl ⟨wants rfl (by kernel_rfl) (show a.tmps.getD 39 undef = .bool true from hD 39 (by kernel_rfl)), fun K hK => ?_⟩
        refine wp_load_arr 36 (.tmp 6) rfl gm v6 .u8 32 (byt (mkl (btl 16 key))) _ _ (HM.out.ext hS) Tryd.underlying36 size_dig ?_
        exact hK _ _ hS (Ext.refl _) (fun d hd => by cases hd; rfl)
      refine Steps.cons (fun a W hS hsz hU hD => ?_) ?_
      · have e8 : a.tmps.getD 8 undef = .pointer (some ⟨gn, 0, none⟩) := hU 8 (by kernel_rfl)
        have v8 := eval_of e8
        have y8 := slot_of e8
        have z8 := cell_of e8
        refine .inl ⟨wants rfl (by kernel_rfl) (show a.tmps.getD 39 undef = .bool true from hD 39 (by kernel_rfl)), fun K hK => ?_⟩
        refine wp_load_arr 36 (.tmp 8) rfl gn v8 .u8 32 (byt (mkl (btl 16 other))) _ _ (HN.out.ext hS) Tryd.underlying36 size_dig ?_
        exact hK _ _ hS (Ext.refl _) (fun d hd => by cases hd; rfl)
      refine Steps.cons (fun a W hS hsz hU hD => ?_) ?_
      · have e40 : a.tmps.getD 40 undef = (.agg (tabV .u8 32 (byt (mkl (btl 16 key))))) := hD 40 (by kernel_rfl)
        have v40 := eval_of e40
        have y40 := slot_of e40
        have z40 := cell_of e40
        have e41 : a.tmps.getD 41 undef = (.agg (tabV .u8 32 (byt (mkl (btl 16 other))))) := hD 41 (by kernel_rfl)
        have v41 := eval_of e41
        have y41 := slot_of e41
        have z41 := cell_of e41
        refine .inl ⟨wants rfl (by kernel_rfl) (show a.tmps.getD 39 undef = .bool true from hD 39 (by kernel_rfl)), fun K hK => ?_⟩
        refine wp_eql_dec 36 36 (.tmp 40) (.tmp 41) rfl .u8 32 (byt (mkl (btl 16 key))) (byt (mkl (btl 16 other))) v40 v41 5 Tryd.underlying36 Tryd.underlying5 size_u8 cells_u8 noGuard_dig ?_
        rw [HQM.out]
        exact hK _ _ hS (Ext.refl _) (fun d hd => by cases hd; rfl)
      refine Steps.cons (fun a W hS hsz hU hD => ?_) ?_
      · have e39 : a.tmps.getD 39 undef = (.bool true) := hD 39 (by kernel_rfl)
        have v39 := eval_of e39
        have y39 := slot_of e39
        have z39 := cell_of e39
        have e42 : a.tmps.getD 42 undef = (.bool true) := hD 42 (by kernel_rfl)
        have v42 := eval_of e42
        have y42 := slot_of e42
        have z42 := cell_of e42
        refine .inl ⟨wants rfl (by kernel_rfl) (show a.tmps.getD 35 undef = .bool false from hD 35 (by kernel_rfl)), fun K hK => ?_⟩
        go_simp
        exact hK _ _ hS (Ext.refl _) (fun d hd => by cases hd; rfl)
      refine Steps.cons (fun a W hS hsz hU hD => ?_) ?_
      · have e35 : a.tmps.getD 35 undef = (.bool false) := hD 35 (by kernel_rfl)
        have v35 := eval_of e35
        have y35 := slot_of e35
        have z35 := cell_of e35
        have e43 : a.tmps.getD 43 undef = (.bool true) := hD 43 (by kernel_rfl)
        have v43 := eval_of e43
        have y43 := slot_of e43
        have z43 := cell_of e43
        refine .inl ⟨wants rfl (by kernel_rfl) (show a.tmps.getD 31 undef = .bool true from hD 31 (by kernel_rfl)), fun K hK => ?_⟩
        go_simp
        exact hK _ _ hS (Ext.refl _) (fun d hd => by cases hd; rfl)
      refine Steps.cons (fun a W hS hsz hU hD => ?_) ?_
      · have e31 : a.tmps.getD 31 undef = (.bool true) := hD 31 (by kernel_rfl)
        have v31 := eval_of e31
        have y31 := slot_of e31
        have z31 := cell_of e31
        have e44 : a.tmps.getD 44 undef = (.bool true) := hD 44 (by kernel_rfl)
        have v44 := eval_of e44
        have y44 := slot_of e44
        have z44 := cell_of e44
        refine .inl ⟨rfl, fun K hK => ?_⟩
        go_simp
        exact hK _ _ hS (Ext.refl _) (fun d hd => by cases hd; rfl)
      refine Steps.cons (fun a W hS hsz hU hD => ?_) ?_
      · have e45 : a.tmps.getD 45 undef = (.bool true) := hD 45 (by kernel_rfl)
        have v45 := eval_of e45
        have y45 := slot_of e45
        have z45 := cell_of e45
        refine .inl ⟨rfl, fun K hK => ?_⟩
        go_simp
        exact hK _ _ hS (Ext.refl _) (fun d hd => by cases hd; rfl)
      refine Steps.cons (fun a W hS hsz hU hD => ?_) ?_
      · have e7 : a.tmps.getD 7 undef = .pointer (some ⟨gf, 0, none⟩) := hU 7 (by kernel_rfl)
        have v7 := eval_of e7
        have y7 := slot_of e7
        have z7 := cell_of e7
        refine .inl ⟨wants rfl (by kernel_rfl) (show a.tmps.getD 46 undef = .bool true from hD 46 (by kernel_rfl)), fun K hK => ?_⟩
        refine wp_load_arr 22 (.tmp 7) rfl gf v7 .u8 16 (byt (ekl (btl 16 other))) _ _ (HF.out.ext hS) Tryd.underlying22 size_bk ?_
        exact hK _ _ hS (Ext.refl _) (fun d hd => by cases hd; rfl)
      refine Steps.cons (fun a W hS hsz hU hD => ?_) ?_
      · have e3 : a.tmps.getD 3 undef = .pointer (some ⟨go, 0, none⟩) := hU 3 (by kernel_rfl)
        have v3 := eval_of e3
        have y3 := slot_of e3
        have z3 := cell_of e3
        refine .inl ⟨wants rfl (by kernel_rfl) (show a.tmps.getD 46 undef = .bool true from hD 46 (by kernel_rfl)), fun K hK => ?_⟩
        go_simp
        exact hK _ _ hS (Ext.refl _) (fun d hd => by cases hd; rfl)
      refine Steps.cons (fun a W hS hsz hU hD => ?_) ?_
      · have e48 : a.tmps.getD 48 undef = (.slice (some ⟨go, 0, none⟩) 16 16) := hD 48 (by kernel_rfl)
        have v48 := eval_of e48
        have y48 := slot_of e48
        have z48 := cell_of e48
        refine .inl ⟨wants rfl (by kernel_rfl) (show a.tmps.getD 46 undef = .bool true from hD 46 (by kernel_rfl)), fun K hK => ?_⟩
        go_simp
        refine (HDF.out W hS).mono ?_
        rintro e W1 ⟨A, c, rfl, hr, hx⟩
        exact hK _ _ (hS.tr hx) hx (fun d hd => by cases hd; exact ⟨ekl_len _, A, c, rfl, hr⟩)
      refine Steps.cons (fun a W hS hsz hU hD => ?_) ?_
      · obtain ⟨hl49, A49, c49, e49, hr49⟩ : Sk.holds (.byn (ekl (btl 16 other)) 16) (a.tmps.getD 49 undef) W := hD 49 (by kernel_rfl)
        obtain ⟨g49, o49, rfl⟩ := rb_block hr49 (by rw [hl49]; decide)
        have v49 := eval_of e49
        have y49 := slot_of e49
        have z49 := cell_of e49
        refine .inl ⟨wants rfl (by kernel_rfl) (show a.tmps.getD 46 undef = .bool true from hD 46 (by kernel_rfl)), fun K hK => ?_⟩
        go_simp
        exact hK _ _ hS (Ext.refl _) (fun d hd => by cases hd; exact ⟨hl49, g49, o49, rfl, hr49⟩)
      refine Steps.cons (fun a W hS hsz hU hD => ?_) ?_
      · obtain ⟨hl50, g50, o50, e50, hr50⟩ : Sk.holds (.ptr (ekl (btl 16 other)) 16) (a.tmps.getD 50 undef) W := hD 50 (by kernel_rfl)
        have v50 := eval_of e50
        have y50 := slot_of e50
        have z50 := cell_of e50
        refine .inl ⟨wants rfl (by kernel_rfl) (show a.tmps.getD 46 undef = .bool true from hD 46 (by kernel_rfl)), fun K hK => ?_⟩
        refine wp_load_rng 22 (.tmp 50) rfl g50 o50 v50 .u8 16 (byt (ekl (btl 16 other))) _ (rangeAt_rb hr50 (by rw [hl50]; decide) _ (fun j _ => rfl) (by decide)) Tryd.underlying22 size_bk ?_
        exact hK _ _ hS (Ext.refl _) (fun d hd => by cases hd; rfl)
      refine Steps.cons (fun a W hS hsz hU hD => ?_) ?_
      · have e47 : a.tmps.getD 47 undef = (.agg (tabV .u8 16 (byt (ekl (btl 16 other))))) := hD 47 (by kernel_rfl)
        have v47 := eval_of e47
        have y47 := slot_of e47
        have z47 := cell_of e47
        have e51 : a.tmps.getD 51 undef = (.agg (tabV .u8 16 (byt (ekl (btl 16 other))))) := hD 51 (by kernel_rfl)
        have v51 := eval_of e51
        have y51 := slot_of e51
        have z51 := cell_of e51
        refine .inl ⟨wants rfl (by kernel_rfl) (show a.tmps.getD 46 undef = .bool true from hD 46 (by kernel_rfl)), fun K hK => ?_⟩
        refine wp_eql_dec 22 22 (.tmp 47) (.tmp 51) rfl .u8 16 (byt (ekl (btl 16 other))) (byt (ekl (btl 16 other))) v47 v51 5 Tryd.underlying22 Tryd.underlying5 size_u8 cells_u8 noGuard_bk ?_
        rw [HQF.out]
        exact hK _ _ hS (Ext.refl _) (fun d hd => by cases hd; rfl)
      refine Steps.cons (fun a W hS hsz hU hD => ?_) ?_
      · have e46 : a.tmps.getD 46 undef = (.bool true) := hD 46 (by kernel_rfl)
        have v46 := eval_of e46
        have y46 := slot_of e46
        have z46 := cell_of e46
        have e52 : a.tmps.getD 52 undef = (.bool true) := hD 52 (by kernel_rfl)
        have v52 := eval_of e52
        have y52 := slot_of e52
        have z52 := cell_of e52
        refine .inl ⟨rfl, fun K hK => ?_⟩
        go_simp
        exact hK _ _ hS (Ext.refl _) (fun d hd => by cases hd; rfl)
      refine Steps.cons (fun a W hS hsz hU hD => ?_) ?_
      · have e53 : a.tmps.getD 53 undef = (.bool true) := hD 53 (by kernel_rfl)
        have v53 := eval_of e53
        have y53 := slot_of e53
        have z53 := cell_of e53
        refine .inl ⟨rfl, fun K hK => ?_⟩
        go_simp
        exact hK _ _ hS (Ext.refl _) (fun d hd => by cases hd; rfl)
      refine Steps.cons (fun a W hS hsz hU hD => ?_) ?_
      · have e8 : a.tmps.getD 8 undef = .pointer (some ⟨gn, 0, none⟩) := hU 8 (by kernel_rfl)
        have v8 := eval_of e8
        have y8 := slot_of e8
        have z8 := cell_of e8
        refine .inl ⟨wants rfl (by kernel_rfl) (show a.tmps.getD 54 undef = .bool true from hD 54 (by kernel_rfl)), fun K hK => ?_⟩
        go_simp
        exact hK _ _ hS (Ext.refl _) (fun d hd => by cases hd; rfl)
      refine Steps.cons (fun a W hS hsz hU hD => ?_) ?_
      · have e3 : a.tmps.getD 3 undef = .pointer (some ⟨go, 0, none⟩) := hU 3 (by kernel_rfl)
        have v3 := eval_of e3
        have y3 := slot_of e3
        have z3 := cell_of e3
        refine .inl ⟨wants rfl (by kernel_rfl) (show a.tmps.getD 54 undef = .bool true from hD 54 (by kernel_rfl)), fun K hK => ?_⟩
        go_simp
        exact hK _ _ hS (Ext.refl _) (fun d hd => by cases hd; rfl)
      refine Steps.cons (fun a W hS hsz hU hD => ?_) ?_
      · have e56 : a.tmps.getD 56 undef = (.slice (some ⟨go, 0, none⟩) 16 16) := hD 56 (by kernel_rfl)
        have v56 := eval_of e56
        have y56 := slot_of e56
        have z56 := cell_of e56
        refine .inl ⟨wants rfl (by kernel_rfl) (show a.tmps.getD 54 undef = .bool true from hD 54 (by kernel_rfl)), fun K hK => ?_⟩
        go_simp
        refine (HDN.out W hS).mono ?_
        rintro e W1 ⟨A, c, rfl, hr, hx⟩
        exact hK _ _ (hS.tr hx) hx (fun d hd => by cases hd; exact ⟨mkl_len _, A, c, rfl, hr⟩)
      refine Steps.cons (fun a W hS hsz hU hD => ?_) ?_
      · have e55 : a.tmps.getD 55 undef = (.slice (some ⟨gn, 0, none⟩) 32 32) := hD 55 (by kernel_rfl)
        have v55 := eval_of e55
        have y55 := slot_of e55
        have z55 := cell_of e55
        obtain ⟨hl57, A57, c57, e57, hr57⟩ : Sk.holds (.byn (mkl (btl 16 other)) 32) (a.tmps.getD 57 undef) W := hD 57 (by kernel_rfl)
        have v57 := eval_of e57
        have y57 := slot_of e57
        have z57 := cell_of e57
        refine .inl ⟨wants rfl (by kernel_rfl) (show a.tmps.getD 54 undef = .bool true from hD 54 (by kernel_rfl)), fun K hK => ?_⟩
        go_simp
        refine (HSN.out W A57 c57 hS hr57).mono ?_
        rintro e W1 ⟨rfl, hx⟩
        exact hK _ _ (hS.tr hx) hx (fun d hd => by cases hd; rfl)
      refine Steps.cons (fun a W hS hsz hU hD => ?_) ?_
      · have e54 : a.tmps.getD 54 undef = (.bool true) := hD 54 (by kernel_rfl)
        have v54 := eval_of e54
        have y54 := slot_of e54
        have z54 := cell_of e54
        have e58 : a.tmps.getD 58 undef = (.bool true) := hD 58 (by kernel_rfl)
        have v58 := eval_of e58
        have y58 := slot_of e58
        have z58 := cell_of e58
        refine .inl ⟨rfl, fun K hK => ?_⟩
        go_simp
        exact hK _ _ hS (Ext.refl _) (fun d hd => by cases hd; rfl)
      refine Steps.cons (fun a W hS hsz hU hD => ?_) ?_
      · have e59 : a.tmps.getD 59 undef = (.bool true) := hD 59 (by kernel_rfl)
        have v59 := eval_of e59
        have y59 := slot_of e59
        have z59 := cell_of e59
        refine .inl ⟨rfl, fun K hK => ?_⟩
        go_simp
        exact hK _ _ hS (Ext.refl _) (fun d hd => by cases hd; rfl)
      exact Steps.nil
    · intro a W hS hsz hd hU hR
      exact ⟨rfl, hR 39 4 rfl, hd, hS⟩
  · have HNE := Lib.hid (show (!eqb 16 key other) = true by rw [eqb_false hsame]; rfl)
    clear hsame
    refine region_free (Ext w7) (Sk.at_ (spD key other gk go ge gm gf gn)) Ext (by kernel_rfl) (by kernel_rfl) (by kernel_rfl) (Sk.mono _) Ext.refl (Ext.drew _) ?_ ?_
    · refine Steps.cons (fun a W hS hsz hU hD => ?_) ?_
      · have e5 : a.tmps.getD 5 undef = .pointer (some ⟨ge, 0, none⟩) := hU 5 (by kernel_rfl)
        have v5 := eval_of e5
        have y5 := slot_of e5
        have z5 := cell_of e5
        refine .inl ⟨rfl, fun K hK => ?_⟩
        go_simp
        exact hK _ _ hS (Ext.refl _) (fun d hd => by cases hd; rfl)
      refine Steps.cons (fun a W hS hsz hU hD => ?_) ?_
      · have e2 : a.tmps.getD 2 undef = .pointer (some ⟨gk, 0, none⟩) := hU 2 (by kernel_rfl)
        have v2 := eval_of e2
        have y2 := slot_of e2
        have z2 := cell_of e2
        refine .inl ⟨rfl, fun K hK => ?_⟩
        go_simp
        exact hK _ _ hS (Ext.refl _) (fun d hd => by cases hd; rfl)
      refine Steps.cons (fun a W hS hsz hU hD => ?_) ?_
      · have e22 : a.tmps.getD 22 undef = (.slice (some ⟨gk, 0, none⟩) 16 16) := hD 22 (by kernel_rfl)
        have v22 := eval_of e22
        have y22 := slot_of e22
        have z22 := cell_of e22
        refine .inl ⟨rfl, fun K hK => ?_⟩
        go_simp
        refine (HDE.out W hS).mono ?_
        rintro e W1 ⟨A, c, rfl, hr, hx⟩
        exact hK _ _ (hS.tr hx) hx (fun d hd => by cases hd; exact ⟨ekl_len _, A, c, rfl, hr⟩)
      refine Steps.cons (fun a W hS hsz hU hD => ?_) ?_
      · have e21 : a.tmps.getD 21 undef = (.slice (some ⟨ge, 0, none⟩) 16 16) := hD 21 (by kernel_rfl)
        have v21 := eval_of e21
        have y21 := slot_of e21
        have z21 := cell_of e21
        obtain ⟨hl23, A23, c23, e23, hr23⟩ : Sk.holds (.byn (ekl (btl 16 key)) 16) (a.tmps.getD 23 undef) W := hD 23 (by kernel_rfl)
        have v23 := eval_of e23
        have y23 := slot_of e23
        have z23 := cell_of e23
        refine .inl ⟨rfl, fun K hK => ?_⟩
        go_simp
        refine (HSE.out W A23 c23 hS hr23).mono ?_
        rintro e W1 ⟨rfl, hx⟩
        exact hK _ _ (hS.tr hx) hx (fun d hd => by cases hd; rfl)
      refine Steps.cons (fun a W hS hsz hU hD => ?_) ?_
      · have e24 : a.tmps.getD 24 undef = (.bool true) := hD 24 (by kernel_rfl)
        have v24 := eval_of e24
        have y24 := slot_of e24
        have z24 := cell_of e24
        refine .inl ⟨rfl, fun K hK => ?_⟩
        go_simp
        exact hK _ _ hS (Ext.refl _) (fun d hd => by cases hd; rfl)
      refine Steps.cons (fun a W hS hsz hU hD => ?_) ?_
      · have e6 : a.tmps.getD 6 undef = .pointer (some ⟨gm, 0, none⟩) := hU 6 (by kernel_rfl)
        have v6 := eval_of e6
        have y6 := slot_of e6
        have z6 := cell_of e6
        refine .inl ⟨wants rfl (by kernel_rfl) (show a.tmps.getD 25 undef = .bool true from hD 25 (by kernel_rfl)), fun K hK => ?_⟩
        go_simp
        exact hK _ _ hS (Ext.refl _) (fun d hd => by cases hd; rfl)
      refine Steps.cons (fun a W hS hsz hU hD => ?_) ?_
      · have e2 : a.tmps.getD 2 undef = .pointer (some ⟨gk, 0, none⟩) := hU 2 (by kernel_rfl)
        have v2 := eval_of e2
        have y2 := slot_of e2
        have z2 := cell_of e2
        refine .inl ⟨wants rfl (by kernel_rfl) (show a.tmps.getD 25 undef = .bool true from hD 25 (by kernel_rfl)), fun K hK => ?_⟩
        go_simp
        exact hK _ _ hS (Ext.refl _) (fun d hd => by cases hd; rfl)
      refine Steps.cons (fun a W hS hsz hU hD => ?_) ?_
      · have e27 : a.tmps.getD 27 undef = (.slice (some ⟨gk, 0, none⟩) 16 16) := hD 27 (by kernel_rfl)
        have v27 := eval_of e27
        have y27 := slot_of e27
        have z27 := cell_of e27
        refine .inl ⟨wants rfl (by kernel_rfl) (show a.tmps.getD 25 undef = .bool true from hD 25 (by kernel_rfl)), fun K hK => ?_⟩
        go_simp
        refine (HDM.out W hS).mono ?_
        rintro e W1 ⟨A, c, rfl, hr, hx⟩
        exact hK _ _ (hS.tr hx) hx (fun d hd => by cases hd; exact ⟨mkl_len _, A, c, rfl, hr⟩)
      refine Steps.cons (fun a W hS hsz hU hD => ?_) ?_
      · have e26 : a.tmps.getD 26 undef = (.slice (some ⟨gm, 0, none⟩) 32 32) := hD 26 (by kernel_rfl)
        have v26 := eval_of e26
        have y26 := slot_of e26
        have z26 := cell_of e26
        obtain ⟨hl28, A28, c28, e28, hr28⟩ : Sk.holds (.byn (mkl (btl 16 key)) 32) (a.tmps.getD 28 undef) W := hD 28 (by kernel_rfl)
        have v28 := eval_of e28
        have y28 := slot_of e28
        have z28 := cell_of e28
        refine .inl ⟨wants rfl (by kernel_rfl) (show a.tmps.getD 25 undef = .bool true from hD 25 (by kernel_rfl)), fun K hK => ?_⟩
        go_simp
        refine (HSM.out W A28 c28 hS hr28).mono ?_
        rintro e W1 ⟨rfl, hx⟩
        exact hK _ _ (hS.tr hx) hx (fun d hd => by cases hd; rfl)
      refine Steps.cons (fun a W hS hsz hU hD => ?_) ?_
      · have e25 : a.tmps.getD 25 undef = (.bool true) := hD 25 (by kernel_rfl)
        have v25 := eval_of e25
        have y25 := slot_of e25
        have z25 := cell_of e25
        have e29 : a.tmps.getD 29 undef = (.bool true) := hD 29 (by kernel_rfl)
        have v29 := eval_of e29
        have y29 := slot_of e29
        have z29 := cell_of e29
        refine .inl ⟨rfl, fun K hK => ?_⟩
        go_simp
        exact hK _ _ hS (Ext.refl _) (fun d hd => by cases hd; rfl)
      refine Steps.cons (fun a W hS hsz hU hD => ?_) ?_
      · have e30 : a.tmps.getD 30 undef = (.bool true) := hD 30 (by kernel_rfl)
        have v30 := eval_of e30
        have y30 := slot_of e30
        have z30 := cell_of e30
        refine .inl ⟨rfl, fun K hK => ?_⟩
        go_simp
        exact hK _ _ hS (Ext.refl _) (fun d hd => by cases hd; rfl)
      refine Steps.cons (fun a W hS hsz hU hD => ?_) ?_
      · have e2 : a.tmps.getD 2 undef = .pointer (some ⟨gk, 0, none⟩) := hU 2 (by kernel_rfl)
        have v2 := eval_of e2
        have y2 := slot_of e2
        have z2 := cell_of e2
        refine .inl ⟨wants rfl (by kernel_rfl) (show a.tmps.getD 31 undef = .bool true from hD 31 (by kernel_rfl)), fun K hK => ?_⟩
        refine wp_load_arr 22 (.tmp 2) rfl gk v2 .u8 16 (key) _ _ (HKK.out.ext hS) Tryd.underlying22 size_bk ?_
        exact hK _ _ hS (Ext.refl _) (fun d hd => by cases hd; rfl)
      refine Steps.cons (fun a W hS hsz hU hD => ?_) ?_
      · have e3 : a.tmps.getD 3 undef = .pointer (some ⟨go, 0, none⟩) := hU 3 (by kernel_rfl)
        have v3 := eval_of e3
        have y3 := slot_of e3
        have z3 := cell_of e3
        refine .inl ⟨wants rfl (by kernel_rfl) (show a.tmps.getD 31 undef = .bool true from hD 31 (by kernel_rfl)), fun K hK => ?_⟩
        refine wp_load_arr 22 (.tmp 3) rfl go v3 .u8 16 (other) _ _ (HKO.out.ext hS) Tryd.underlying22 size_bk ?_
        exact hK _ _ hS (Ext.refl _) (fun d hd => by cases hd; rfl)
      refine Steps.cons (fun a W hS hsz hU hD => ?_) ?_
      · have e32 : a.tmps.getD 32 undef = (.agg (tabV .u8 16 (key))) := hD 32 (by kernel_rfl)
        have v32 := eval_of e32
        have y32 := slot_of e32
        have z32 := cell_of e32
        have e33 : a.tmps.getD 33 undef = (.agg (tabV .u8 16 (other))) := hD 33 (by kernel_rfl)
        have v33 := eval_of e33
        have y33 := slot_of e33
        have z33 := cell_of e33
        refine .inl ⟨wants rfl (by kernel_rfl) (show a.tmps.getD 31 undef = .bool true from hD 31 (by kernel_rfl)), fun K hK => ?_⟩
        refine wp_neq_dec 22 22 (.tmp 32) (.tmp 33) rfl .u8 16 (key) (other) v32 v33 5 Tryd.underlying22 Tryd.underlying5 size_u8 cells_u8 noGuard_bk ?_
        rw [HNE.out]
        exact hK _ _ hS (Ext.refl _) (fun d hd => by cases hd; rfl)
      refine Steps.cons (fun a W hS hsz hU hD => ?_) ?_
      · have e34 : a.tmps.getD 34 undef = (.bool true) := hD 34 (by kernel_rfl)
        have v34 := eval_of e34
        have y34 := slot_of e34
        have z34 := cell_of e34
        refine .inl ⟨wants rfl (by kernel_rfl) (show a.tmps.getD 31 undef = .bool true from hD 31 (by kernel_rfl)), fun K hK => ?_⟩
        go_simp
        exact hK _ _ hS (Ext.refl _) (fun d hd => by cases hd; rfl)
      refine Steps.cons (fun a W hS hsz hU hD => ?_) ?_
      · refine .inr ⟨wants_not rfl (by kernel_rfl) (show a.tmps.getD 35 undef = .bool true from hD 35 (by kernel_rfl)) (by decide), fun d hd => by cases hd; rfl⟩
      refine Steps.cons (fun a W hS hsz hU hD => ?_) ?_
      · refine .inr ⟨wants_not rfl (by kernel_rfl) (show a.tmps.getD 35 undef = .bool true from hD 35 (by kernel_rfl)) (by decide), fun d hd => by cases hd; rfl⟩
      refine Steps.cons (fun a W hS hsz hU hD => ?_) ?_
      · refine .inr ⟨wants_not rfl (by kernel_rfl) (show a.tmps.getD 35 undef = .bool true from hD 35 (by kernel_rfl)) (by decide), fun d hd => by cases hd; rfl⟩
      refine Steps.cons (fun a W hS hsz hU hD => ?_) ?_
      · refine .inr ⟨wants_not rfl (by kernel_rfl) (show a.tmps.getD 35 undef = .bool true from hD 35 (by kernel_rfl)) (by decide), fun d hd => by cases hd; rfl⟩
      refine Steps.cons (fun a W hS hsz hU hD => ?_) ?_
      · refine .inr ⟨wants_undef rfl (by kernel_rfl) (show a.tmps.getD 39 undef = undef from hD 39 (by kernel_rfl)), fun d hd => by cases hd; rfl⟩
      refine Steps.cons (fun a W hS hsz hU hD => ?_) ?_
      · refine .inr ⟨wants_undef rfl (by kernel_rfl) (show a.tmps.getD 39 undef = undef from hD 39 (by kernel_rfl)), fun d hd => by cases hd; rfl⟩
      refine Steps.cons (fun a W hS hsz hU hD => ?_) ?_
      · refine .inr ⟨wants_undef rfl (by kernel_rfl) (show a.tmps.getD 39 undef = undef from hD 39 (by kernel_rfl)), fun d hd => by cases hd; rfl⟩
      refine Steps.cons (fun a W hS hsz hU hD => ?_) ?_
      · refine .inr ⟨wants_not rfl (by kernel_rfl) (show a.tmps.getD 35 undef = .bool true from hD 35 (by kernel_rfl)) (by decide), fun d hd => by cases hd; rfl⟩
      refine Steps.cons (fun a W hS hsz hU hD => ?_) ?_
      · have e35 : a.tmps.getD 35 undef = (.bool true) := hD 35 (by kernel_rfl)
        have v35 := eval_of e35
        have y35 := slot_of e35
        have z35 := cell_of e35
        have e43 : a.tmps.getD 43 undef = undef := hD 43 (by kernel_rfl)
        have v43 := eval_of e43
        have y43 := slot_of e43
        have z43 := cell_of e43
        refine .inl ⟨wants rfl (by kernel_rfl) (show a.tmps.getD 31 undef = .bool true from hD 31 (by kernel_rfl)), fun K hK => ?_⟩
        go_simp
        exact hK _ _ hS (Ext.refl _) (fun d hd => by cases hd; rfl)
      refine Steps.cons (fun a W hS hsz hU hD => ?_) ?_
      · have e31 : a.tmps.getD 31 undef = (.bool true) := hD 31 (by kernel_rfl)
        have v31 := eval_of e31
        have y31 := slot_of e31
        have z31 := cell_of e31
        have e44 : a.tmps.getD 44 undef = (.bool true) := hD 44 (by kernel_rfl)
        have v44 := eval_of e44
        have y44 := slot_of e44
        have z44 := cell_of e44
        refine .inl ⟨rfl, fun K hK => ?_⟩
        go_simp
        exact hK _ _ hS (Ext.refl _) (fun d hd => by cases hd; rfl)
      refine Steps.cons (fun a W hS hsz hU hD => ?_) ?_
      · have e45 : a.tmps.getD 45 undef = (.bool true) := hD 45 (by kernel_rfl)
        have v45 := eval_of e45
        have y45 := slot_of e45
        have z45 := cell_of e45
        refine .inl ⟨rfl, fun K hK => ?_⟩
        go_simp
        exact hK _ _ hS (Ext.refl _) (fun d hd => by cases hd; rfl)
      refine Steps.cons (fun a W hS hsz hU hD => ?_) ?_
      · have e7 : a.tmps.getD 7 undef = .pointer (some ⟨gf, 0, none⟩) := hU 7 (by kernel_rfl)
        have v7 := eval_of e7
        have y7 := slot_of e7
        have z7 := cell_of e7
        refine .inl ⟨wants rfl (by kernel_rfl) (show a.tmps.getD 46 undef = .bool true from hD 46 (by kernel_rfl)), fun K hK => ?_⟩
        refine wp_load_arr 22 (.tmp 7) rfl gf v7 .u8 16 (byt (ekl (btl 16 other))) _ _ (HF.out.ext hS) Tryd.underlying22 size_bk ?_
        exact hK _ _ hS (Ext.refl _) (fun d hd => by cases hd; rfl)
      refine Steps.cons (fun a W hS hsz hU hD => ?_) ?_
      · have e3 : a.tmps.getD 3 undef = .pointer (some ⟨go, 0, none⟩) := hU 3 (by kernel_rfl)
        have v3 := eval_of e3
        have y3 := slot_of e3
        have z3 := cell_of e3
        refine .inl ⟨wants rfl (by kernel_rfl) (show a.tmps.getD 46 undef = .bool true from hD 46 (by kernel_rfl)), fun K hK => ?_⟩
        go_simp
        exact hK _ _ hS (Ext.refl _) (fun d hd => by cases hd; rfl)
      refine Steps.cons (fun a W hS hsz hU hD => ?_) ?_
      · have e48 : a.tmps.getD 48 undef = (.slice (some ⟨go, 0, none⟩) 16 16) := hD 48 (by kernel_rfl)
        have v48 := eval_of e48
        have y48 := slot_of e48
        have z48 := cell_of e48
        refine .inl ⟨wants rfl (by kernel_rfl) (show a.tmps.getD 46 undef = .bool true from hD 46 (by kernel_rfl)), fun K hK => ?_⟩
        go_simp
        refine (HDF.out W hS).mono ?_
        rintro e W1 ⟨A, c, rfl, hr, hx⟩
        exact hK _ _ (hS.tr hx) hx (fun d hd => by cases hd; exact ⟨ekl_len _, A, c, rfl, hr⟩)
      refine Steps.cons (fun a W hS hsz hU hD => ?_) ?_
      · obtain ⟨hl49, A49, c49, e49, hr49⟩ : Sk.holds (.byn (ekl (btl 16 other)) 16) (a.tmps.getD 49 undef) W := hD 49 (by kernel_rfl)
        obtain ⟨g49, o49, rfl⟩ := rb_block hr49 (by rw [hl49]; decide)
        have v49 := eval_of e49
        have y49 := slot_of e49
        have z49 := cell_of e49
        refine .inl ⟨wants rfl (by kernel_rfl) (show a.tmps.getD 46 undef = .bool true from hD 46 (by kernel_rfl)), fun K hK => ?_⟩
        go_simp
        exact hK _ _ hS (Ext.refl _) (fun d hd => by cases hd; exact ⟨hl49, g49, o49, rfl, hr49⟩)
      refine Steps.cons (fun a W hS hsz hU hD => ?_) ?_
      · obtain ⟨hl50, g50, o50, e50, hr50⟩ : Sk.holds (.ptr (ekl (btl 16 other)) 16) (a.tmps.getD 50 undef) W := hD 50 (by kernel_rfl)
        have v50 := eval_of e50
        have y50 := slot_of e50
        have z50 := cell_of e50
        refine .inl ⟨wants rfl (by kernel_rfl) (show a.tmps.getD 46 undef = .bool true from hD 46 (by kernel_rfl)), fun K hK => ?_⟩
        refine wp_load_rng 22 (.tmp 50) rfl g50 o50 v50 .u8 16 (byt (ekl (btl 16 other))) _ (rangeAt_rb hr50 (by rw [hl50]; decide) _ (fun j _ => rfl) (by decide)) Tryd.underlying22 size_bk ?_
        exact hK _ _ hS (Ext.refl _) (fun d hd => by cases hd; rfl)
      refine Steps.cons (fun a W hS hsz hU hD => ?_) ?_
      · have e47 : a.tmps.getD 47 undef = (.agg (tabV .u8 16 (byt (ekl (btl 16 other))))) := hD 47 (by kernel_rfl)
        have v47 := eval_of e47
        have y47 := slot_of e47
        have z47 := cell_of e47
        have e51 : a.tmps.getD 51 undef = (.agg (tabV .u8 16 (byt (ekl (btl 16 other))))) := hD 51 (by kernel_rfl)
        have v51 := eval_of e51
        have y51 := slot_of e51
        have z51 := cell_of e51
        refine .inl ⟨wants rfl (by kernel_rfl) (show a.tmps.getD 46 undef = .bool true from hD 46 (by kernel_rfl)), fun K hK => ?_⟩
        refine wp_eql_dec 22 22 (.tmp 47) (.tmp 51) rfl .u8 16 (byt (ekl (btl 16 other))) (byt (ekl (btl 16 other))) v47 v51 5 Tryd.underlying22 Tryd.underlying5 size_u8 cells_u8 noGuard_bk ?_
        rw [HQF.out]
        exact hK _ _ hS (Ext.refl _) (fun d hd => by cases hd; rfl)
      refine Steps.cons (fun a W hS hsz hU hD => ?_) ?_
      · have e46 : a.tmps.getD 46 undef = (.bool true) := hD 46 (by kernel_rfl)
        have v46 := eval_of e46
        have y46 := slot_of e46
        have z46 := cell_of e46
        have e52 : a.tmps.getD 52 undef = (.bool true) := hD 52 (by kernel_rfl)
        have v52 := eval_of e52
        have y52 := slot_of e52
        have z52 := cell_of e52
        refine .inl ⟨rfl, fun K hK => ?_⟩
        go_simp
        exact hK _ _ hS (Ext.refl _) (fun d hd => by cases hd; rfl)
      refine Steps.cons (fun a W hS hsz hU hD => ?_) ?_
      · have e53 : a.tmps.getD 53 undef = (.bool true) := hD 53 (by kernel_rfl)
        have v53 := eval_of e53
        have y53 := slot_of e53
        have z53 := cell_of e53
        refine .inl ⟨rfl, fun K hK => ?_⟩
        go_simp
        exact hK _ _ hS (Ext.refl _) (fun d hd => by cases hd; rfl)
      refine Steps.cons (fun a W hS hsz hU hD => ?_) ?_
      · have e8 : a.tmps.getD 8 undef = .pointer (some ⟨gn, 0, none⟩) := hU 8 (by kernel_rfl)
        have v8 := eval_of e8
        have y8 := slot_of e8
        have z8 := cell_of e8
        refine .inl ⟨wants rfl (by kernel_rfl) (show a.tmps.getD 54 undef = .bool true from hD 54 (by kernel_rfl)), fun K hK => ?_⟩
        go_simp
        exact hK _ _ hS (Ext.refl _) (fun d hd => by cases hd; rfl)
      refine Steps.cons (fun a W hS hsz hU hD => ?_) ?_
      · have e3 : a.tmps.getD 3 undef = .pointer (some ⟨go, 0, none⟩) := hU 3 (by kernel_rfl)
        have v3 := eval_of e3
        have y3 := slot_of e3
        have z3 := cell_of e3
        refine .inl ⟨wants rfl (by kernel_rfl) (show a.tmps.getD 54 undef = .bool true from hD 54 (by kernel_rfl)), fun K hK => ?_⟩
        go_simp
        exact hK _ _ hS (Ext.refl _) (fun d hd => by cases hd; rfl)
      refine Steps.cons (fun a W hS hsz hU hD => ?_) ?_
      · have e56 : a.tmps.getD 56 undef = (.slice (some ⟨go, 0, none⟩) 16 16) := hD 56 (by kernel_rfl)
        have v56 := eval_of e56
        have y56 := slot_of e56
        have z56 := cell_of e56
        refine .inl ⟨wants rfl (by kernel_rfl) (show a.tmps.getD 54 undef = .bool true from hD 54 (by kernel_rfl)), fun K hK => ?_⟩
        go_simp
        refine (HDN.out W hS).mono ?_
        rintro e W1 ⟨A, c, rfl, hr, hx⟩
        exact hK _ _ (hS.tr hx) hx (fun d hd => by cases hd; exact ⟨mkl_len _, A, c, rfl, hr⟩)
      refine Steps.cons (fun a W hS hsz hU hD => ?_) ?_
      · have e55 : a.tmps.getD 55 undef = (.slice (some ⟨gn, 0, none⟩) 32 32) := hD 55 (by kernel_rfl)
        have v55 := eval_of e55
        have y55 := slot_of e55
        have z55 := cell_of e55
        obtain ⟨hl57, A57, c57, e57, hr57⟩ : Sk.holds (.byn (mkl (btl 16 other)) 32) (a.tmps.getD 57 undef) W := hD 57 (by kernel_rfl)
        have v57 := eval_of e57
        have y57 := slot_of e57
        have z57 := cell_of e57
        refine .inl ⟨wants rfl (by kernel_rfl) (show a.tmps.getD 54 undef = .bool true from hD 54 (by kernel_rfl)), fun K hK => ?_⟩
        go_simp
        refine (HSN.out W A57 c57 hS hr57).mono ?_
        rintro e W1 ⟨rfl, hx⟩
        exact hK _ _ (hS.tr hx) hx (fun d hd => by cases hd; rfl)
      refine Steps.cons (fun a W hS hsz hU hD => ?_) ?_
      · have e54 : a.tmps.getD 54 undef = (.bool true) := hD 54 (by kernel_rfl)
        have v54 := eval_of e54
        have y54 := slot_of e54
        have z54 := cell_of e54
        have e58 : a.tmps.getD 58 undef = (.bool true) := hD 58 (by kernel_rfl)
        have v58 := eval_of e58
        have y58 := slot_of e58
        have z58 := cell_of e58
        refine .inl ⟨rfl, fun K hK => ?_⟩
        go_simp
        exact hK _ _ hS (Ext.refl _) (fun d hd => by cases hd; rfl)
      refine Steps.cons (fun a W hS hsz hU hD => ?_) ?_
      · have e59 : a.tmps.getD 59 undef = (.bool true) := hD 59 (by kernel_rfl)
        have v59 := eval_of e59
        have y59 := slot_of e59
        have z59 := cell_of e59
        refine .inl ⟨rfl, fun K hK => ?_⟩
        go_simp
        exact hK _ _ hS (Ext.refl _) (fun d hd => by cases hd; rfl)
      exact Steps.nil
    · intro a W hS hsz hd hU hR
      exact ⟨rfl, hR 39 4 rfl, hd, hS⟩
end Go.Proofs.YtdaahkijmleioaaDoor
