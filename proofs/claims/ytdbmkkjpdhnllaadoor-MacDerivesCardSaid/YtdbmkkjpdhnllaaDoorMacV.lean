/-
  The fixed examples of layer 5.
-/
import Derived.Test.YtdbmkkjpdhnllaaDoorMacK
import Derived.Test.YtdbmkkjpdhnllaaDoorMacD
import Derived.Test.YtdbmkkjpdhnllaaDoorMacG
import Derived.Test.YtdbmkkjpdhnllaaDoorSpec
namespace Go.Proofs.YtdbmkkjpdhnllaaDoor
open Go.RowKit
set_option linter.unusedVariables false
set_option linter.unusedSimpArgs false

theorem wpList_convert_mark {P : Program} {ops : Array Oper} {rest : List Oper} {o : Oper} {a : Act} {W : World} {Q : Exit → Act → World → Prop} (hgd : o.guard = none) (t e : TypeId) (x : Operand) (ho : o.op = .convert t t x) (ht : P.underlying t = some (.slice e)) (he : P.underlying e = some (.int .u8))
    (g n c : Nat) (C : Array Value) (fr : Nat × Nat) (hx : a.eval x = .slice (some ⟨g, 0, none⟩) n c) (hg : W.heap[g]? = some (.cells C e fr))
    (h : ∀ W' fr', W'.heap[g]? = some (.cells C e fr') → Lz W W' → (∀ w, w.heap.size ≤ g → Ext w W → Ext w W') → wpList P ops Q rest (a.put o.dst (.slice (some ⟨g, 0, none⟩) n c)) W') : wpList P ops Q (o :: rest) a W :=
  wpList_plain hgd fun _ hK => wp_convert_mark t e x ho ht he g n c C fr hx hg fun W' fr' h1 h2 h3 => hK _ _ (h W' fr' h1 h2 h3)
theorem getIs {a : Act} {d : Nat} {v : Value} (h : a.tmps.getD d undef = v) : ∀ hd : d < a.tmps.size, a.tmps[d] = v := fun hd => by rw [← h, Array.getD_eq_getD_getElem?, Array.getElem?_eq_getElem hd]; rfl
def cJefe : Array Value := #[.int .u8 74, .int .u8 101, .int .u8 102, .int .u8 101]
def cAsk : Array Value := #[.int .u8 119, .int .u8 104, .int .u8 97, .int .u8 116, .int .u8 32, .int .u8 100, .int .u8 111, .int .u8 32, .int .u8 121, .int .u8 97, .int .u8 32, .int .u8 119, .int .u8 97, .int .u8 110, .int .u8 116, .int .u8 32, .int .u8 102, .int .u8 111, .int .u8 114, .int .u8 32, .int .u8 110, .int .u8 111, .int .u8 116, .int .u8 104, .int .u8 105, .int .u8 110, .int .u8 103, .int .u8 63]
/-- what the slots of awake's second region hold -/
def spA (ga : Nat) : List Sp := [.val (.bool true), .any, .any, .any, .any, .any, .any, .any, .any, .any, .val (.pointer (some ⟨ga, 0, none⟩)), .val (.int .u8 91), .val (.bool true), .val (.bool true), .val (.pointer (some ⟨ga, 1, none⟩)), .val (.int .u8 220), .val (.bool true), .val (.bool true), .val (.bool true), .val (.pointer (some ⟨ga, 2, none⟩)), .val (.int .u8 193), .val (.bool true), .val (.bool true), .val (.bool true), .val (.pointer (some ⟨ga, 31, none⟩)), .val (.int .u8 67), .val (.bool true), .val (.bool true), .val (.bool true), .val (.slice (some ⟨ga, 0, none⟩) 32 32), .val (.slice (some ⟨ga, 0, none⟩) 32 32), .val (.bool true), .val (.bool true), .val (.bool true), .val (.slice (some ⟨ga, 0, none⟩) 32 32), .val (.slice (some ⟨ga, 1, none⟩) 31 31), .val (.bool false), .val (.bool true), .val (.bool true), .val (.bool true), .len 40, .val (.int .i64 40), .val (.bool true), .val (.bool true), .val (.bool true), .val (.slice none 0 0), .val (.int .i64 0), .val (.bool true), .val (.bool true), .val (.bool true), .lit cJefe, .lit cJefe, .val (.slice (some ⟨ga, 0, none⟩) 16 32), .lit cAsk, .lit cAsk, .rows [ask], .val (.bool true), .val (.bool true), .val (.bool true), .lit cJefe, .lit cJefe, .val (.slice (some ⟨ga, 0, none⟩) 15 32), .lit cAsk, .lit cAsk, .rows [ask], .val (.bool false), .val (.bool true), .val (.bool true)]
def PA (w : World) (d : Nat) (e : Exit) (a : Act) (W : World) : Prop := e = .normal ∧ a.tmps.getD d undef = .bool true ∧ a.defers = [] ∧ Ext w W

set_option maxRecDepth 100000 in
set_option maxHeartbeats 8000000 in
theorem awake_c (w : World) (ht : Tab w) : Calls Tryd.prog 8 #[] w fun e w' => e = .returned (.bool true) ∧ Ext w w' := by
  have HT := Lib.hid ht
  clear ht
  go_enter Tryd.func8, Tryd.ntmps8
  go_wp2_with (first
    | (refine wpList_convert_mark rfl 22 5 (.tmp 2) rfl Tryd.underlying22 Tryd.underlying5 w.heap.size 4 4 _ _ rfl (new_of _ _) ?_
       intro W1 fr1 h1 lz1 ex1
       have hx1 : Ext w W1 := ex1 w (Nat.le_refl _) (Ext.alloc _ _)
       have HX1 := Lib.hid hx1
       have HR1 := Lib.hid (lit_rb h1 jefe rfl)
       clear h1 lz1 ex1 hx1)
    | (refine wpList_convert_mark rfl 22 5 (.tmp 4) rfl Tryd.underlying22 Tryd.underlying5 W1.heap.size 16 16 _ _ rfl (new_of _ _) ?_
       intro W2 fr2 h2 lz2 ex2
       have hx2 : Ext W1 W2 := ex2 W1 (Nat.le_refl _) (Ext.alloc _ _)
       have HX2 := Lib.hid (HX1.out.tr hx2)
       have HR2 := Lib.hid (HR1.out.ext hx2)
       have HA2 := Lib.hid (lit_rb h2 ask1 rfl)
       clear h2 lz2 ex2 hx2)
    | (refine wpList_convert_mark rfl 22 5 (.tmp 6) rfl Tryd.underlying22 Tryd.underlying5 W2.heap.size 12 12 _ _ rfl (new_of _ _) ?_
       intro W3 fr3 h3 lz3 ex3
       have hx3 : Ext W2 W3 := ex3 W2 (Nat.le_refl _) (Ext.alloc _ _)
       have HX3 := Lib.hid (HX2.out.tr hx3)
       have HR3 := Lib.hid (HR2.out.ext hx3)
       have HA3 := Lib.hid (HA2.out.ext hx3)
       have HB3 := Lib.hid (lit_rb h3 ask2 rfl)
       clear h3 lz3 ex3 hx3))
  have hx4 : Ext W3 (W3.alloc (.cells #[.slice (some ⟨W1.heap.size, 0, none⟩) 16 16, .slice (some ⟨W2.heap.size, 0, none⟩) 12 12] 22)) := Ext.alloc _ _
  have hrc := rbc_two (l := ask1) (m := ask2) (c := 16) (d := 12) (new_of W3 (.cells #[.slice (some ⟨W1.heap.size, 0, none⟩) 16 16, .slice (some ⟨W2.heap.size, 0, none⟩) 12 12] 22)) rfl rfl (HA3.out.ext hx4) (by decide) (by decide) (HB3.out.ext hx4) (by decide) (by decide)
  have hsum := macSum_c (some ⟨w.heap.size, 0, none⟩) 4 jefe _ (some ⟨W3.heap.size, 0, none⟩) 2 [ask1, ask2] _ _ _ (HT.out.ext (HX3.out.tr hx4)) (HR3.out.ext hx4) (by decide) (by decide) (by decide) hrc (by decide) (by decide)
  rw [fla_two, show ask1 ++ ask2 = ask from rfl] at hsum
  have HX4 := Lib.hid (HX3.out.tr hx4)
  clear hx4 hrc
  refine hsum.mono ?_
  rintro e w5 ⟨rfl, hx5⟩
  have HX5 := Lib.hid (HX4.out.tr hx5)
  clear hx5 hsum
  obtain ⟨C, hC⟩ : ∃ C, C = hm jefe ask := ⟨_, rfl⟩
  have q0 : C 0 = 91 := by rw [hC]; exact hm0
  have q1 : C 1 = 220 := by rw [hC]; exact hm1
  have q2 : C 2 = 193 := by rw [hC]; exact hm2
  have q31 : C 31 = 67 := by rw [hC]; exact hm31
  have hCl : ∀ i, i < 32 → C i < 256 := fun i _ => by rw [hC]; exact hm_lt _ _ _
  rw [← hC]
  have HQ := Lib.hid (And.intro q0 (And.intro q1 (And.intro q2 q31)))
  have HCL := Lib.hid hCl
  have HCC := Lib.hid hC
  clear q0 q1 q2 q31 hCl hC
  go_wp2_with (refine wpList_store_arr rfl 26 (.tmp 1) (.tmp 9) rfl w5.heap.size .u8 32 C rfl rfl 26 _ (new_of _ _) size_dig rfl ?_
               intro w2 hA2 hG2
               have HX6 := Lib.hid (HX5.out.tr (grown_new (Ext.alloc _ _) hG2 (fun g hg => by simp at hg; omega)))
               have HA := Lib.hid hA2
               clear hA2 hG2)
  obtain ⟨ga, hga⟩ : ∃ g, g = w5.heap.size := ⟨_, rfl⟩
  rw [← hga] at HA ⊢
  clear hga
  have hbl := btl_len 32 C
  have HE1 : ∀ W, Ext w2 W → Calls Tryd.prog 17 #[.slice (some ⟨ga, 0, none⟩) 32 32, .slice (some ⟨ga, 0, none⟩) 32 32] W fun e w' => e = .returned (.bool true) ∧ W = w' := fun W hx => by
    have hr := ((HA.out.ext hx).rb HCL.out)
    have h := equal_c (some ⟨ga, 0, none⟩) (some ⟨ga, 0, none⟩) (btl 32 C) (btl 32 C) 32 32 _ _ W hr hr (by rw [hbl]; decide)
    rw [hbl, decide_eq_true rfl] at h
    exact h
  have HE2 : ∀ W, Ext w2 W → Calls Tryd.prog 17 #[.slice (some ⟨ga, 0, none⟩) 32 32, .slice (some ⟨ga, 1, none⟩) 31 31] W fun e w' => e = .returned (.bool false) ∧ W = w' := fun W hx => by
    have hr := ((HA.out.ext hx).rb HCL.out)
    have hr1 := hr.drop (k := 1) (cap := 32) (by rw [hbl]; decide)
    have h1 : ((btl 32 C).drop 1).length = 31 := by rw [List.length_drop, hbl]
    have h := equal_c (some ⟨ga, 0, none⟩) (some ⟨ga, 1, none⟩) (btl 32 C) ((btl 32 C).drop 1) 32 31 _ _ W hr hr1 (by rw [hbl]; decide)
    rw [hbl, h1, decide_eq_false (fun e => by have := congrArg List.length e; rw [hbl, h1] at this; omega)] at h
    exact h
  have HD1 : ∀ W, Ext w2 W → Calls Tryd.prog 12 #[.slice none 0 0, .string ⟨#[120]⟩, .int .i64 40] W fun e w' => ∃ A c, e = .returned (.slice A 40 c) ∧ Ext W w' := fun W hx =>
    (derive_c none 0 [] (fun _ _ => True) ⟨#[120]⟩ [120] rfl 40 (by decide) W (HT.out.ext (HX6.out.tr hx)) (RB.nil _ _ _) (by decide) (by decide) (by decide) (by decide)).mono fun _ _ ⟨A, c, h1, _, h3⟩ => ⟨A, c, h1, h3⟩
  have HD2 : ∀ W, Ext w2 W → Calls Tryd.prog 12 #[.slice none 0 0, .string ⟨#[120]⟩, .int .i64 (-1)] W fun e w' => e = .returned (.slice none 0 0) ∧ W = w' := fun W _ => derive_neg none 0 0 _ _ (by decide) W
  have HC16 : ∀ W A g c, Ext w2 W → RB W (fun _ _ => True) (some ⟨g, 0, none⟩) jefe → RBC W (fun _ _ => True) (fun _ _ => True) A [ask] → Calls Tryd.prog 16 #[.slice (some ⟨g, 0, none⟩) 4 4, .slice (some ⟨ga, 0, none⟩) 16 32, .slice A 1 c] W fun e w' => e = .returned (.bool true) ∧ Ext W w' := fun W A g c hx hj hr => by
    have hr0 := ((HA.out.ext hx).rb HCL.out).take 16
    have h1 : ((btl 32 C).take 16).length = 16 := by rw [List.length_take, hbl]; rfl
    have h := check_c (some ⟨g, 0, none⟩) 4 jefe _ (some ⟨ga, 0, none⟩) 32 ((btl 32 C).take 16) _ A c [ask] _ _ W (HT.out.ext (HX6.out.tr hx)) hj (by decide) (by decide) (by decide) hr0 (by rw [h1]; decide) hr (by decide) (by decide)
    have hright : right jefe ((btl 32 C).take 16) (fla [ask]) = true := by
      unfold right
      rw [fla_one, h1, HCC.out]
      exact decide_eq_true ⟨by decide, by decide, rfl⟩
    rw [h1, hright] at h
    exact h
  have HC15 : ∀ W A g c, Ext w2 W → RB W (fun _ _ => True) (some ⟨g, 0, none⟩) jefe → RBC W (fun _ _ => True) (fun _ _ => True) A [ask] → Calls Tryd.prog 16 #[.slice (some ⟨g, 0, none⟩) 4 4, .slice (some ⟨ga, 0, none⟩) 15 32, .slice A 1 c] W fun e w' => e = .returned (.bool false) ∧ Ext W w' := fun W A g c hx hj hr => by
    have hr0 := ((HA.out.ext hx).rb HCL.out).take 15
    have h1 : ((btl 32 C).take 15).length = 15 := by rw [List.length_take, hbl]; rfl
    have h := check_c (some ⟨g, 0, none⟩) 4 jefe _ (some ⟨ga, 0, none⟩) 32 ((btl 32 C).take 15) _ A c [ask] _ _ W (HT.out.ext (HX6.out.tr hx)) hj (by decide) (by decide) (by decide) hr0 (by rw [h1]; decide) hr (by decide) (by decide)
    have hright : right jefe ((btl 32 C).take 15) (fla [ask]) = false := by
      unfold right
      rw [h1]
      exact decide_eq_false (fun h => absurd h.1 (by decide))
    rw [h1, hright] at h
    exact h
  have HE1 := Lib.hid HE1
  have HE2 := Lib.hid HE2
  have HD1 := Lib.hid HD1
  have HD2 := Lib.hid HD2
  have HC16 := Lib.hid HC16
  have HC15 := Lib.hid HC15
  clear hbl
  refine Code.wp_mono (P := Tryd.prog) (Q := PA w 0) ?_ ?_
  · rintro e ⟨tmps, defers⟩ W ⟨rfl, h0, hd, hx⟩
    dsimp only at h0 hd
    subst hd
    go_wp2_with fail
    go_ret
    exact ⟨by rw [← h0], hx⟩
  refine region_free (Ext w2) (Sp.at_ (spA ga) w2.heap.size) Lz (by kernel_rfl) (by kernel_rfl) (by kernel_rfl) (Sp.mono _ _) Lz.refl (Ext.drew _) ?_ ?_
  · refine Steps.cons (fun a W hS hsz hU hD => ?_) ?_
    · have e1 : a.tmps.getD 1 undef = .pointer (some ⟨ga, 0, none⟩) := hU 1 (by kernel_rfl)
      have v1 := evals e1
      have y1 := getDs e1
      have z1 := getIs e1
      refine .inl ⟨rfl, fun K hK => ?_⟩
      go_simp
      exact hK _ _ hS (Lz.refl _) (fun d hd => by cases hd; rfl)
    refine Steps.cons (fun a W hS hsz hU hD => ?_) ?_
    · have e10 : a.tmps.getD 10 undef = (.pointer (some ⟨ga, 0, none⟩)) := hD 10 (by kernel_rfl)
      have v10 := evals e10
      have y10 := getDs e10
      have z10 := getIs e10
      refine .inl ⟨rfl, fun K hK => ?_⟩
      have hc := (HA.out.ext hS).cell (i := 0) (by decide)
      rw [HQ.out.1] at hc
      go_simp
      exact hK _ _ hS (Lz.refl _) (fun d hd => by cases hd; rfl)
    refine Steps.cons (fun a W hS hsz hU hD => ?_) ?_
    · have e11 : a.tmps.getD 11 undef = (.int .u8 91) := hD 11 (by kernel_rfl)
      have v11 := evals e11
      have y11 := getDs e11
      have z11 := getIs e11
      refine .inl ⟨rfl, fun K hK => ?_⟩
      go_simp
      exact hK _ _ hS (Lz.refl _) (fun d hd => by cases hd; rfl)
    refine Steps.cons (fun a W hS hsz hU hD => ?_) ?_
    · have e12 : a.tmps.getD 12 undef = (.bool true) := hD 12 (by kernel_rfl)
      have v12 := evals e12
      have y12 := getDs e12
      have z12 := getIs e12
      refine .inl ⟨rfl, fun K hK => ?_⟩
      go_simp
      exact hK _ _ hS (Lz.refl _) (fun d hd => by cases hd; rfl)
    refine Steps.cons (fun a W hS hsz hU hD => ?_) ?_
    · have e1 : a.tmps.getD 1 undef = .pointer (some ⟨ga, 0, none⟩) := hU 1 (by kernel_rfl)
      have v1 := evals e1
      have y1 := getDs e1
      have z1 := getIs e1
      refine .inl ⟨wanted_guard rfl (by kernel_rfl) (show a.tmps.getD 13 undef = .bool true from hD 13 (by kernel_rfl)), fun K hK => ?_⟩
      go_simp
      exact hK _ _ hS (Lz.refl _) (fun d hd => by cases hd; rfl)
    refine Steps.cons (fun a W hS hsz hU hD => ?_) ?_
    · have e14 : a.tmps.getD 14 undef = (.pointer (some ⟨ga, 1, none⟩)) := hD 14 (by kernel_rfl)
      have v14 := evals e14
      have y14 := getDs e14
      have z14 := getIs e14
      refine .inl ⟨wanted_guard rfl (by kernel_rfl) (show a.tmps.getD 13 undef = .bool true from hD 13 (by kernel_rfl)), fun K hK => ?_⟩
      have hc := (HA.out.ext hS).cell (i := 1) (by decide)
      rw [HQ.out.2.1] at hc
      go_simp
      exact hK _ _ hS (Lz.refl _) (fun d hd => by cases hd; rfl)
    refine Steps.cons (fun a W hS hsz hU hD => ?_) ?_
    · have e15 : a.tmps.getD 15 undef = (.int .u8 220) := hD 15 (by kernel_rfl)
      have v15 := evals e15
      have y15 := getDs e15
      have z15 := getIs e15
      refine .inl ⟨wanted_guard rfl (by kernel_rfl) (show a.tmps.getD 13 undef = .bool true from hD 13 (by kernel_rfl)), fun K hK => ?_⟩
      go_simp
      exact hK _ _ hS (Lz.refl _) (fun d hd => by cases hd; rfl)
    refine Steps.cons (fun a W hS hsz hU hD => ?_) ?_
    · have e13 : a.tmps.getD 13 undef = (.bool true) := hD 13 (by kernel_rfl)
      have v13 := evals e13
      have y13 := getDs e13
      have z13 := getIs e13
      have e16 : a.tmps.getD 16 undef = (.bool true) := hD 16 (by kernel_rfl)
      have v16 := evals e16
      have y16 := getDs e16
      have z16 := getIs e16
      refine .inl ⟨rfl, fun K hK => ?_⟩
      go_simp
      exact hK _ _ hS (Lz.refl _) (fun d hd => by cases hd; rfl)
    refine Steps.cons (fun a W hS hsz hU hD => ?_) ?_
    · have e17 : a.tmps.getD 17 undef = (.bool true) := hD 17 (by kernel_rfl)
      have v17 := evals e17
      have y17 := getDs e17
      have z17 := getIs e17
      refine .inl ⟨rfl, fun K hK => ?_⟩
      go_simp
      exact hK _ _ hS (Lz.refl _) (fun d hd => by cases hd; rfl)
    refine Steps.cons (fun a W hS hsz hU hD => ?_) ?_
    · have e1 : a.tmps.getD 1 undef = .pointer (some ⟨ga, 0, none⟩) := hU 1 (by kernel_rfl)
      have v1 := evals e1
      have y1 := getDs e1
      have z1 := getIs e1
      refine .inl ⟨wanted_guard rfl (by kernel_rfl) (show a.tmps.getD 18 undef = .bool true from hD 18 (by kernel_rfl)), fun K hK => ?_⟩
      go_simp
      exact hK _ _ hS (Lz.refl _) (fun d hd => by cases hd; rfl)
    refine Steps.cons (fun a W hS hsz hU hD => ?_) ?_
    · have e19 : a.tmps.getD 19 undef = (.pointer (some ⟨ga, 2, none⟩)) := hD 19 (by kernel_rfl)
      have v19 := evals e19
      have y19 := getDs e19
      have z19 := getIs e19
      refine .inl ⟨wanted_guard rfl (by kernel_rfl) (show a.tmps.getD 18 undef = .bool true from hD 18 (by kernel_rfl)), fun K hK => ?_⟩
      have hc := (HA.out.ext hS).cell (i := 2) (by decide)
      rw [HQ.out.2.2.1] at hc
      go_simp
      exact hK _ _ hS (Lz.refl _) (fun d hd => by cases hd; rfl)
    refine Steps.cons (fun a W hS hsz hU hD => ?_) ?_
    · have e20 : a.tmps.getD 20 undef = (.int .u8 193) := hD 20 (by kernel_rfl)
      have v20 := evals e20
      have y20 := getDs e20
      have z20 := getIs e20
      refine .inl ⟨wanted_guard rfl (by kernel_rfl) (show a.tmps.getD 18 undef = .bool true from hD 18 (by kernel_rfl)), fun K hK => ?_⟩
      go_simp
      exact hK _ _ hS (Lz.refl _) (fun d hd => by cases hd; rfl)
    refine Steps.cons (fun a W hS hsz hU hD => ?_) ?_
    · have e18 : a.tmps.getD 18 undef = (.bool true) := hD 18 (by kernel_rfl)
      have v18 := evals e18
      have y18 := getDs e18
      have z18 := getIs e18
      have e21 : a.tmps.getD 21 undef = (.bool true) := hD 21 (by kernel_rfl)
      have v21 := evals e21
      have y21 := getDs e21
      have z21 := getIs e21
      refine .inl ⟨rfl, fun K hK => ?_⟩
      go_simp
      exact hK _ _ hS (Lz.refl _) (fun d hd => by cases hd; rfl)
    refine Steps.cons (fun a W hS hsz hU hD => ?_) ?_
    · have e22 : a.tmps.getD 22 undef = (.bool true) := hD 22 (by kernel_rfl)
      have v22 := evals e22
      have y22 := getDs e22
      have z22 := getIs e22
      refine .inl ⟨rfl, fun K hK => ?_⟩
      go_simp
      exact hK _ _ hS (Lz.refl _) (fun d hd => by cases hd; rfl)
    refine Steps.cons (fun a W hS hsz hU hD => ?_) ?_
    · have e1 : a.tmps.getD 1 undef = .pointer (some ⟨ga, 0, none⟩) := hU 1 (by kernel_rfl)
      have v1 := evals e1
      have y1 := getDs e1
      have z1 := getIs e1
      refine .inl ⟨wanted_guard rfl (by kernel_rfl) (show a.tmps.getD 23 undef = .bool true from hD 23 (by kernel_rfl)), fun K hK => ?_⟩
      go_simp
      exact hK _ _ hS (Lz.refl _) (fun d hd => by cases hd; rfl)
    refine Steps.cons (fun a W hS hsz hU hD => ?_) ?_
    · have e24 : a.tmps.getD 24 undef = (.pointer (some ⟨ga, 31, none⟩)) := hD 24 (by kernel_rfl)
      have v24 := evals e24
      have y24 := getDs e24
      have z24 := getIs e24
      refine .inl ⟨wanted_guard rfl (by kernel_rfl) (show a.tmps.getD 23 undef = .bool true from hD 23 (by kernel_rfl)), fun K hK => ?_⟩
      have hc := (HA.out.ext hS).cell (i := 31) (by decide)
      rw [HQ.out.2.2.2] at hc
      go_simp
      exact hK _ _ hS (Lz.refl _) (fun d hd => by cases hd; rfl)
    refine Steps.cons (fun a W hS hsz hU hD => ?_) ?_
    · have e25 : a.tmps.getD 25 undef = (.int .u8 67) := hD 25 (by kernel_rfl)
      have v25 := evals e25
      have y25 := getDs e25
      have z25 := getIs e25
      refine .inl ⟨wanted_guard rfl (by kernel_rfl) (show a.tmps.getD 23 undef = .bool true from hD 23 (by kernel_rfl)), fun K hK => ?_⟩
      go_simp
      exact hK _ _ hS (Lz.refl _) (fun d hd => by cases hd; rfl)
    refine Steps.cons (fun a W hS hsz hU hD => ?_) ?_
    · have e23 : a.tmps.getD 23 undef = (.bool true) := hD 23 (by kernel_rfl)
      have v23 := evals e23
      have y23 := getDs e23
      have z23 := getIs e23
      have e26 : a.tmps.getD 26 undef = (.bool true) := hD 26 (by kernel_rfl)
      have v26 := evals e26
      have y26 := getDs e26
      have z26 := getIs e26
      refine .inl ⟨rfl, fun K hK => ?_⟩
      go_simp
      exact hK _ _ hS (Lz.refl _) (fun d hd => by cases hd; rfl)
    refine Steps.cons (fun a W hS hsz hU hD => ?_) ?_
    · have e27 : a.tmps.getD 27 undef = (.bool true) := hD 27 (by kernel_rfl)
      have v27 := evals e27
      have y27 := getDs e27
      have z27 := getIs e27
      refine .inl ⟨rfl, fun K hK => ?_⟩
      go_simp
      exact hK _ _ hS (Lz.refl _) (fun d hd => by cases hd; rfl)
    refine Steps.cons (fun a W hS hsz hU hD => ?_) ?_
    · have e1 : a.tmps.getD 1 undef = .pointer (some ⟨ga, 0, none⟩) := hU 1 (by kernel_rfl)
      have v1 := evals e1
      have y1 := getDs e1
      have z1 := getIs e1
      refine .inl ⟨wanted_guard rfl (by kernel_rfl) (show a.tmps.getD 28 undef = .bool true from hD 28 (by kernel_rfl)), fun K hK => ?_⟩
      go_simp
      exact hK _ _ hS (Lz.refl _) (fun d hd => by cases hd; rfl)
    refine Steps.cons (fun a W hS hsz hU hD => ?_) ?_
    · have e1 : a.tmps.getD 1 undef = .pointer (some ⟨ga, 0, none⟩) := hU 1 (by kernel_rfl)
      have v1 := evals e1
      have y1 := getDs e1
      have z1 := getIs e1
      refine .inl ⟨wanted_guard rfl (by kernel_rfl) (show a.tmps.getD 28 undef = .bool true from hD 28 (by kernel_rfl)), fun K hK => ?_⟩
      go_simp
      exact hK _ _ hS (Lz.refl _) (fun d hd => by cases hd; rfl)
    refine Steps.cons (fun a W hS hsz hU hD => ?_) ?_
    · have e29 : a.tmps.getD 29 undef = (.slice (some ⟨ga, 0, none⟩) 32 32) := hD 29 (by kernel_rfl)
      have v29 := evals e29
      have y29 := getDs e29
      have z29 := getIs e29
      have e30 : a.tmps.getD 30 undef = (.slice (some ⟨ga, 0, none⟩) 32 32) := hD 30 (by kernel_rfl)
      have v30 := evals e30
      have y30 := getDs e30
      have z30 := getIs e30
      refine .inl ⟨wanted_guard rfl (by kernel_rfl) (show a.tmps.getD 28 undef = .bool true from hD 28 (by kernel_rfl)), fun K hK => ?_⟩
      go_simp
      refine (HE1.out W hS).mono ?_
      rintro e W1 ⟨rfl, rfl⟩
      exact hK _ _ hS (Lz.refl _) (fun d hd => by cases hd; rfl)
    refine Steps.cons (fun a W hS hsz hU hD => ?_) ?_
    · have e28 : a.tmps.getD 28 undef = (.bool true) := hD 28 (by kernel_rfl)
      have v28 := evals e28
      have y28 := getDs e28
      have z28 := getIs e28
      have e31 : a.tmps.getD 31 undef = (.bool true) := hD 31 (by kernel_rfl)
      have v31 := evals e31
      have y31 := getDs e31
      have z31 := getIs e31
      refine .inl ⟨rfl, fun K hK => ?_⟩
      go_simp
      exact hK _ _ hS (Lz.refl _) (fun d hd => by cases hd; rfl)
    refine Steps.cons (fun a W hS hsz hU hD => ?_) ?_
    · have e32 : a.tmps.getD 32 undef = (.bool true) := hD 32 (by kernel_rfl)
      have v32 := evals e32
      have y32 := getDs e32
      have z32 := getIs e32
      refine .inl ⟨rfl, fun K hK => ?_⟩
      go_simp
      exact hK _ _ hS (Lz.refl _) (fun d hd => by cases hd; rfl)
    refine Steps.cons (fun a W hS hsz hU hD => ?_) ?_
    · have e1 : a.tmps.getD 1 undef = .pointer (some ⟨ga, 0, none⟩) := hU 1 (by kernel_rfl)
      have v1 := evals e1
      have y1 := getDs e1
      have z1 := getIs e1
      refine .inl ⟨wanted_guard rfl (by kernel_rfl) (show a.tmps.getD 33 undef = .bool true from hD 33 (by kernel_rfl)), fun K hK => ?_⟩
      go_simp
      exact hK _ _ hS (Lz.refl _) (fun d hd => by cases hd; rfl)
    refine Steps.cons (fun a W hS hsz hU hD => ?_) ?_
    · have e1 : a.tmps.getD 1 undef = .pointer (some ⟨ga, 0, none⟩) := hU 1 (by kernel_rfl)
      have v1 := evals e1
      have y1 := getDs e1
      have z1 := getIs e1
      refine .inl ⟨wanted_guard rfl (by kernel_rfl) (show a.tmps.getD 33 undef = .bool true from hD 33 (by kernel_rfl)), fun K hK => ?_⟩
      go_simp
      exact hK _ _ hS (Lz.refl _) (fun d hd => by cases hd; rfl)
    refine Steps.cons (fun a W hS hsz hU hD => ?_) ?_
    · have e34 : a.tmps.getD 34 undef = (.slice (some ⟨ga, 0, none⟩) 32 32) := hD 34 (by kernel_rfl)
      have v34 := evals e34
      have y34 := getDs e34
      have z34 := getIs e34
      have e35 : a.tmps.getD 35 undef = (.slice (some ⟨ga, 1, none⟩) 31 31) := hD 35 (by kernel_rfl)
      have v35 := evals e35
      have y35 := getDs e35
      have z35 := getIs e35
      refine .inl ⟨wanted_guard rfl (by kernel_rfl) (show a.tmps.getD 33 undef = .bool true from hD 33 (by kernel_rfl)), fun K hK => ?_⟩
      go_simp
      refine (HE2.out W hS).mono ?_
      rintro e W1 ⟨rfl, rfl⟩
      exact hK _ _ hS (Lz.refl _) (fun d hd => by cases hd; rfl)
    refine Steps.cons (fun a W hS hsz hU hD => ?_) ?_
    · have e36 : a.tmps.getD 36 undef = (.bool false) := hD 36 (by kernel_rfl)
      have v36 := evals e36
      have y36 := getDs e36
      have z36 := getIs e36
      refine .inl ⟨wanted_guard rfl (by kernel_rfl) (show a.tmps.getD 33 undef = .bool true from hD 33 (by kernel_rfl)), fun K hK => ?_⟩
      go_simp
      exact hK _ _ hS (Lz.refl _) (fun d hd => by cases hd; rfl)
    refine Steps.cons (fun a W hS hsz hU hD => ?_) ?_
    · have e33 : a.tmps.getD 33 undef = (.bool true) := hD 33 (by kernel_rfl)
      have v33 := evals e33
      have y33 := getDs e33
      have z33 := getIs e33
      have e37 : a.tmps.getD 37 undef = (.bool true) := hD 37 (by kernel_rfl)
      have v37 := evals e37
      have y37 := getDs e37
      have z37 := getIs e37
      refine .inl ⟨rfl, fun K hK => ?_⟩
      go_simp
      exact hK _ _ hS (Lz.refl _) (fun d hd => by cases hd; rfl)
    refine Steps.cons (fun a W hS hsz hU hD => ?_) ?_
    · have e38 : a.tmps.getD 38 undef = (.bool true) := hD 38 (by kernel_rfl)
      have v38 := evals e38
      have y38 := getDs e38
      have z38 := getIs e38
      refine .inl ⟨rfl, fun K hK => ?_⟩
      go_simp
      exact hK _ _ hS (Lz.refl _) (fun d hd => by cases hd; rfl)
    refine Steps.cons (fun a W hS hsz hU hD => ?_) ?_
    · refine .inl ⟨wanted_guard rfl (by kernel_rfl) (show a.tmps.getD 39 undef = .bool true from hD 39 (by kernel_rfl)), fun K hK => ?_⟩
      go_simp
      refine (HD1.out W hS).mono ?_
      rintro e W1 ⟨A, c, rfl, hx⟩
      exact hK _ _ (hS.tr hx) (Lz.ofExt hx) (fun d hd => by cases hd; exact ⟨_, _, rfl⟩)
    refine Steps.cons (fun a W hS hsz hU hD => ?_) ?_
    · obtain ⟨A40, c40, e40⟩ : Sp.holds w2.heap.size (.len 40) (a.tmps.getD 40 undef) W := hD 40 (by kernel_rfl)
      have v40 := evals e40
      have y40 := getDs e40
      have z40 := getIs e40
      refine .inl ⟨wanted_guard rfl (by kernel_rfl) (show a.tmps.getD 39 undef = .bool true from hD 39 (by kernel_rfl)), fun K hK => ?_⟩
      go_simp
      exact hK _ _ hS (Lz.refl _) (fun d hd => by cases hd; rfl)
    refine Steps.cons (fun a W hS hsz hU hD => ?_) ?_
    · have e41 : a.tmps.getD 41 undef = (.int .i64 40) := hD 41 (by kernel_rfl)
      have v41 := evals e41
      have y41 := getDs e41
      have z41 := getIs e41
      refine .inl ⟨wanted_guard rfl (by kernel_rfl) (show a.tmps.getD 39 undef = .bool true from hD 39 (by kernel_rfl)), fun K hK => ?_⟩
      go_simp
      exact hK _ _ hS (Lz.refl _) (fun d hd => by cases hd; rfl)
    refine Steps.cons (fun a W hS hsz hU hD => ?_) ?_
    · have e39 : a.tmps.getD 39 undef = (.bool true) := hD 39 (by kernel_rfl)
      have v39 := evals e39
      have y39 := getDs e39
      have z39 := getIs e39
      have e42 : a.tmps.getD 42 undef = (.bool true) := hD 42 (by kernel_rfl)
      have v42 := evals e42
      have y42 := getDs e42
      have z42 := getIs e42
      refine .inl ⟨rfl, fun K hK => ?_⟩
      go_simp
      exact hK _ _ hS (Lz.refl _) (fun d hd => by cases hd; rfl)
    refine Steps.cons (fun a W hS hsz hU hD => ?_) ?_
    · have e43 : a.tmps.getD 43 undef = (.bool true) := hD 43 (by kernel_rfl)
      have v43 := evals e43
      have y43 := getDs e43
      have z43 := getIs e43
      refine .inl ⟨rfl, fun K hK => ?_⟩
      go_simp
      exact hK _ _ hS (Lz.refl _) (fun d hd => by cases hd; rfl)
    refine Steps.cons (fun a W hS hsz hU hD => ?_) ?_
    · refine .inl ⟨wanted_guard rfl (by kernel_rfl) (show a.tmps.getD 44 undef = .bool true from hD 44 (by kernel_rfl)), fun K hK => ?_⟩
      go_simp
      refine (HD2.out W hS).mono ?_
      rintro e W1 ⟨rfl, rfl⟩
      exact hK _ _ hS (Lz.refl _) (fun d hd => by cases hd; rfl)
    refine Steps.cons (fun a W hS hsz hU hD => ?_) ?_
    · have e45 : a.tmps.getD 45 undef = (.slice none 0 0) := hD 45 (by kernel_rfl)
      have v45 := evals e45
      have y45 := getDs e45
      have z45 := getIs e45
      refine .inl ⟨wanted_guard rfl (by kernel_rfl) (show a.tmps.getD 44 undef = .bool true from hD 44 (by kernel_rfl)), fun K hK => ?_⟩
      go_simp
      exact hK _ _ hS (Lz.refl _) (fun d hd => by cases hd; rfl)
    refine Steps.cons (fun a W hS hsz hU hD => ?_) ?_
    · have e46 : a.tmps.getD 46 undef = (.int .i64 0) := hD 46 (by kernel_rfl)
      have v46 := evals e46
      have y46 := getDs e46
      have z46 := getIs e46
      refine .inl ⟨wanted_guard rfl (by kernel_rfl) (show a.tmps.getD 44 undef = .bool true from hD 44 (by kernel_rfl)), fun K hK => ?_⟩
      go_simp
      exact hK _ _ hS (Lz.refl _) (fun d hd => by cases hd; rfl)
    refine Steps.cons (fun a W hS hsz hU hD => ?_) ?_
    · have e44 : a.tmps.getD 44 undef = (.bool true) := hD 44 (by kernel_rfl)
      have v44 := evals e44
      have y44 := getDs e44
      have z44 := getIs e44
      have e47 : a.tmps.getD 47 undef = (.bool true) := hD 47 (by kernel_rfl)
      have v47 := evals e47
      have y47 := getDs e47
      have z47 := getIs e47
      refine .inl ⟨rfl, fun K hK => ?_⟩
      go_simp
      exact hK _ _ hS (Lz.refl _) (fun d hd => by cases hd; rfl)
    refine Steps.cons (fun a W hS hsz hU hD => ?_) ?_
    · have e48 : a.tmps.getD 48 undef = (.bool true) := hD 48 (by kernel_rfl)
      have v48 := evals e48
      have y48 := getDs e48
      have z48 := getIs e48
      refine .inl ⟨rfl, fun K hK => ?_⟩
      go_simp
      exact hK _ _ hS (Lz.refl _) (fun d hd => by cases hd; rfl)
    refine Steps.cons (fun a W hS hsz hU hD => ?_) ?_
    · refine .inl ⟨wanted_guard rfl (by kernel_rfl) (show a.tmps.getD 49 undef = .bool true from hD 49 (by kernel_rfl)), fun K hK => ?_⟩
      go_simp
      change K _ (W.alloc (.cells cJefe 5))
      exact hK _ _ (hS.tr (Ext.alloc _ _)) (Lz.alloc _ _) (fun d hd => by cases hd; exact ⟨_, _, rfl, hS.size, new_of _ _⟩)
    refine Steps.cons (fun a W hS hsz hU hD => ?_) ?_
    · obtain ⟨g50, fr50, e50, hb50, hh50⟩ : Sp.holds w2.heap.size (.lit cJefe) (a.tmps.getD 50 undef) W := hD 50 (by kernel_rfl)
      change a.tmps.getD 50 undef = .slice (some ⟨g50, 0, none⟩) 4 4 at e50
      have v50 := evals e50
      have y50 := getDs e50
      have z50 := getIs e50
      refine .inl ⟨wanted_guard rfl (by kernel_rfl) (show a.tmps.getD 49 undef = .bool true from hD 49 (by kernel_rfl)), fun K hK => ?_⟩
      refine wp_convert_mark 22 5 (.tmp 50) rfl Tryd.underlying22 Tryd.underlying5 g50 4 4 cJefe fr50 e50 hh50 (fun W1 fr1 h1 lz1 ex1 => ?_)
      exact hK _ _ (ex1 w2 hb50 hS) lz1 (fun d hd => by cases hd; exact ⟨_, _, rfl, hb50, h1⟩)
    refine Steps.cons (fun a W hS hsz hU hD => ?_) ?_
    · have e1 : a.tmps.getD 1 undef = .pointer (some ⟨ga, 0, none⟩) := hU 1 (by kernel_rfl)
      have v1 := evals e1
      have y1 := getDs e1
      have z1 := getIs e1
      refine .inl ⟨wanted_guard rfl (by kernel_rfl) (show a.tmps.getD 49 undef = .bool true from hD 49 (by kernel_rfl)), fun K hK => ?_⟩
      go_simp
      exact hK _ _ hS (Lz.refl _) (fun d hd => by cases hd; rfl)
    refine Steps.cons (fun a W hS hsz hU hD => ?_) ?_
    · refine .inl ⟨wanted_guard rfl (by kernel_rfl) (show a.tmps.getD 49 undef = .bool true from hD 49 (by kernel_rfl)), fun K hK => ?_⟩
      go_simp
      change K _ (W.alloc (.cells cAsk 5))
      exact hK _ _ (hS.tr (Ext.alloc _ _)) (Lz.alloc _ _) (fun d hd => by cases hd; exact ⟨_, _, rfl, hS.size, new_of _ _⟩)
    refine Steps.cons (fun a W hS hsz hU hD => ?_) ?_
    · obtain ⟨g53, fr53, e53, hb53, hh53⟩ : Sp.holds w2.heap.size (.lit cAsk) (a.tmps.getD 53 undef) W := hD 53 (by kernel_rfl)
      change a.tmps.getD 53 undef = .slice (some ⟨g53, 0, none⟩) 28 28 at e53
      have v53 := evals e53
      have y53 := getDs e53
      have z53 := getIs e53
      refine .inl ⟨wanted_guard rfl (by kernel_rfl) (show a.tmps.getD 49 undef = .bool true from hD 49 (by kernel_rfl)), fun K hK => ?_⟩
      refine wp_convert_mark 22 5 (.tmp 53) rfl Tryd.underlying22 Tryd.underlying5 g53 28 28 cAsk fr53 e53 hh53 (fun W1 fr1 h1 lz1 ex1 => ?_)
      exact hK _ _ (ex1 w2 hb53 hS) lz1 (fun d hd => by cases hd; exact ⟨_, _, rfl, hb53, h1⟩)
    refine Steps.cons (fun a W hS hsz hU hD => ?_) ?_
    · obtain ⟨g54, fr54, e54, hb54, hh54⟩ : Sp.holds w2.heap.size (.lit cAsk) (a.tmps.getD 54 undef) W := hD 54 (by kernel_rfl)
      change a.tmps.getD 54 undef = .slice (some ⟨g54, 0, none⟩) 28 28 at e54
      have v54 := evals e54
      have y54 := getDs e54
      have z54 := getIs e54
      refine .inl ⟨wanted_guard rfl (by kernel_rfl) (show a.tmps.getD 49 undef = .bool true from hD 49 (by kernel_rfl)), fun K hK => ?_⟩
      go_simp
      exact hK _ _ (hS.tr (Ext.alloc _ _)) (Lz.alloc _ _) (fun d hd => by cases hd; exact ⟨_, 1, rfl, rbc_one (c := 28) (new_of W (.cells #[.slice (some ⟨g54, 0, none⟩) 28 28] 22)) rfl ((lit_rb hh54 ask rfl).lz (Lz.alloc _ _)) (by decide) (by decide)⟩)
    refine Steps.cons (fun a W hS hsz hU hD => ?_) ?_
    · obtain ⟨g51, fr51, e51, hb51, hh51⟩ : Sp.holds w2.heap.size (.lit cJefe) (a.tmps.getD 51 undef) W := hD 51 (by kernel_rfl)
      change a.tmps.getD 51 undef = .slice (some ⟨g51, 0, none⟩) 4 4 at e51
      have v51 := evals e51
      have y51 := getDs e51
      have z51 := getIs e51
      have e52 : a.tmps.getD 52 undef = (.slice (some ⟨ga, 0, none⟩) 16 32) := hD 52 (by kernel_rfl)
      have v52 := evals e52
      have y52 := getDs e52
      have z52 := getIs e52
      obtain ⟨A55, c55, e55, hr55⟩ : Sp.holds w2.heap.size (.rows [ask]) (a.tmps.getD 55 undef) W := hD 55 (by kernel_rfl)
      change a.tmps.getD 55 undef = .slice A55 1 c55 at e55
      have v55 := evals e55
      have y55 := getDs e55
      have z55 := getIs e55
      refine .inl ⟨wanted_guard rfl (by kernel_rfl) (show a.tmps.getD 49 undef = .bool true from hD 49 (by kernel_rfl)), fun K hK => ?_⟩
      go_simp
      refine (HC16.out W A55 g51 c55 hS (lit_rb hh51 jefe rfl) hr55).mono ?_
      rintro e W1 ⟨rfl, hx⟩
      exact hK _ _ (hS.tr hx) (Lz.ofExt hx) (fun d hd => by cases hd; rfl)
    refine Steps.cons (fun a W hS hsz hU hD => ?_) ?_
    · have e49 : a.tmps.getD 49 undef = (.bool true) := hD 49 (by kernel_rfl)
      have v49 := evals e49
      have y49 := getDs e49
      have z49 := getIs e49
      have e56 : a.tmps.getD 56 undef = (.bool true) := hD 56 (by kernel_rfl)
      have v56 := evals e56
      have y56 := getDs e56
      have z56 := getIs e56
      refine .inl ⟨rfl, fun K hK => ?_⟩
      go_simp
      exact hK _ _ hS (Lz.refl _) (fun d hd => by cases hd; rfl)
    refine Steps.cons (fun a W hS hsz hU hD => ?_) ?_
    · have e57 : a.tmps.getD 57 undef = (.bool true) := hD 57 (by kernel_rfl)
      have v57 := evals e57
      have y57 := getDs e57
      have z57 := getIs e57
      refine .inl ⟨rfl, fun K hK => ?_⟩
      go_simp
      exact hK _ _ hS (Lz.refl _) (fun d hd => by cases hd; rfl)
    refine Steps.cons (fun a W hS hsz hU hD => ?_) ?_
    · refine .inl ⟨wanted_guard rfl (by kernel_rfl) (show a.tmps.getD 58 undef = .bool true from hD 58 (by kernel_rfl)), fun K hK => ?_⟩
      go_simp
      change K _ (W.alloc (.cells cJefe 5))
      exact hK _ _ (hS.tr (Ext.alloc _ _)) (Lz.alloc _ _) (fun d hd => by cases hd; exact ⟨_, _, rfl, hS.size, new_of _ _⟩)
    refine Steps.cons (fun a W hS hsz hU hD => ?_) ?_
    · obtain ⟨g59, fr59, e59, hb59, hh59⟩ : Sp.holds w2.heap.size (.lit cJefe) (a.tmps.getD 59 undef) W := hD 59 (by kernel_rfl)
      change a.tmps.getD 59 undef = .slice (some ⟨g59, 0, none⟩) 4 4 at e59
      have v59 := evals e59
      have y59 := getDs e59
      have z59 := getIs e59
      refine .inl ⟨wanted_guard rfl (by kernel_rfl) (show a.tmps.getD 58 undef = .bool true from hD 58 (by kernel_rfl)), fun K hK => ?_⟩
      refine wp_convert_mark 22 5 (.tmp 59) rfl Tryd.underlying22 Tryd.underlying5 g59 4 4 cJefe fr59 e59 hh59 (fun W1 fr1 h1 lz1 ex1 => ?_)
      exact hK _ _ (ex1 w2 hb59 hS) lz1 (fun d hd => by cases hd; exact ⟨_, _, rfl, hb59, h1⟩)
    refine Steps.cons (fun a W hS hsz hU hD => ?_) ?_
    · have e1 : a.tmps.getD 1 undef = .pointer (some ⟨ga, 0, none⟩) := hU 1 (by kernel_rfl)
      have v1 := evals e1
      have y1 := getDs e1
      have z1 := getIs e1
      refine .inl ⟨wanted_guard rfl (by kernel_rfl) (show a.tmps.getD 58 undef = .bool true from hD 58 (by kernel_rfl)), fun K hK => ?_⟩
      go_simp
      exact hK _ _ hS (Lz.refl _) (fun d hd => by cases hd; rfl)
    refine Steps.cons (fun a W hS hsz hU hD => ?_) ?_
    · refine .inl ⟨wanted_guard rfl (by kernel_rfl) (show a.tmps.getD 58 undef = .bool true from hD 58 (by kernel_rfl)), fun K hK => ?_⟩
      go_simp
      change K _ (W.alloc (.cells cAsk 5))
      exact hK _ _ (hS.tr (Ext.alloc _ _)) (Lz.alloc _ _) (fun d hd => by cases hd; exact ⟨_, _, rfl, hS.size, new_of _ _⟩)
    refine Steps.cons (fun a W hS hsz hU hD => ?_) ?_
    · obtain ⟨g62, fr62, e62, hb62, hh62⟩ : Sp.holds w2.heap.size (.lit cAsk) (a.tmps.getD 62 undef) W := hD 62 (by kernel_rfl)
      change a.tmps.getD 62 undef = .slice (some ⟨g62, 0, none⟩) 28 28 at e62
      have v62 := evals e62
      have y62 := getDs e62
      have z62 := getIs e62
      refine .inl ⟨wanted_guard rfl (by kernel_rfl) (show a.tmps.getD 58 undef = .bool true from hD 58 (by kernel_rfl)), fun K hK => ?_⟩
      refine wp_convert_mark 22 5 (.tmp 62) rfl Tryd.underlying22 Tryd.underlying5 g62 28 28 cAsk fr62 e62 hh62 (fun W1 fr1 h1 lz1 ex1 => ?_)
      exact hK _ _ (ex1 w2 hb62 hS) lz1 (fun d hd => by cases hd; exact ⟨_, _, rfl, hb62, h1⟩)
    refine Steps.cons (fun a W hS hsz hU hD => ?_) ?_
    · obtain ⟨g63, fr63, e63, hb63, hh63⟩ : Sp.holds w2.heap.size (.lit cAsk) (a.tmps.getD 63 undef) W := hD 63 (by kernel_rfl)
      change a.tmps.getD 63 undef = .slice (some ⟨g63, 0, none⟩) 28 28 at e63
      have v63 := evals e63
      have y63 := getDs e63
      have z63 := getIs e63
      refine .inl ⟨wanted_guard rfl (by kernel_rfl) (show a.tmps.getD 58 undef = .bool true from hD 58 (by kernel_rfl)), fun K hK => ?_⟩
      go_simp
      exact hK _ _ (hS.tr (Ext.alloc _ _)) (Lz.alloc _ _) (fun d hd => by cases hd; exact ⟨_, 1, rfl, rbc_one (c := 28) (new_of W (.cells #[.slice (some ⟨g63, 0, none⟩) 28 28] 22)) rfl ((lit_rb hh63 ask rfl).lz (Lz.alloc _ _)) (by decide) (by decide)⟩)
    refine Steps.cons (fun a W hS hsz hU hD => ?_) ?_
    · obtain ⟨g60, fr60, e60, hb60, hh60⟩ : Sp.holds w2.heap.size (.lit cJefe) (a.tmps.getD 60 undef) W := hD 60 (by kernel_rfl)
      change a.tmps.getD 60 undef = .slice (some ⟨g60, 0, none⟩) 4 4 at e60
      have v60 := evals e60
      have y60 := getDs e60
      have z60 := getIs e60
      have e61 : a.tmps.getD 61 undef = (.slice (some ⟨ga, 0, none⟩) 15 32) := hD 61 (by kernel_rfl)
      have v61 := evals e61
      have y61 := getDs e61
      have z61 := getIs e61
      obtain ⟨A64, c64, e64, hr64⟩ : Sp.holds w2.heap.size (.rows [ask]) (a.tmps.getD 64 undef) W := hD 64 (by kernel_rfl)
      change a.tmps.getD 64 undef = .slice A64 1 c64 at e64
      have v64 := evals e64
      have y64 := getDs e64
      have z64 := getIs e64
      refine .inl ⟨wanted_guard rfl (by kernel_rfl) (show a.tmps.getD 58 undef = .bool true from hD 58 (by kernel_rfl)), fun K hK => ?_⟩
      go_simp
      refine (HC15.out W A64 g60 c64 hS (lit_rb hh60 jefe rfl) hr64).mono ?_
      rintro e W1 ⟨rfl, hx⟩
      exact hK _ _ (hS.tr hx) (Lz.ofExt hx) (fun d hd => by cases hd; rfl)
    refine Steps.cons (fun a W hS hsz hU hD => ?_) ?_
    · have e65 : a.tmps.getD 65 undef = (.bool false) := hD 65 (by kernel_rfl)
      have v65 := evals e65
      have y65 := getDs e65
      have z65 := getIs e65
      refine .inl ⟨wanted_guard rfl (by kernel_rfl) (show a.tmps.getD 58 undef = .bool true from hD 58 (by kernel_rfl)), fun K hK => ?_⟩
      go_simp
      exact hK _ _ hS (Lz.refl _) (fun d hd => by cases hd; rfl)
    refine Steps.cons (fun a W hS hsz hU hD => ?_) ?_
    · have e58 : a.tmps.getD 58 undef = (.bool true) := hD 58 (by kernel_rfl)
      have v58 := evals e58
      have y58 := getDs e58
      have z58 := getIs e58
      have e66 : a.tmps.getD 66 undef = (.bool true) := hD 66 (by kernel_rfl)
      have v66 := evals e66
      have y66 := getDs e66
      have z66 := getIs e66
      refine .inl ⟨rfl, fun K hK => ?_⟩
      go_simp
      exact hK _ _ hS (Lz.refl _) (fun d hd => by cases hd; rfl)
    refine Steps.cons (fun a W hS hsz hU hD => ?_) ?_
    · have e67 : a.tmps.getD 67 undef = (.bool true) := hD 67 (by kernel_rfl)
      have v67 := evals e67
      have y67 := getDs e67
      have z67 := getIs e67
      refine .inl ⟨rfl, fun K hK => ?_⟩
      go_simp
      exact hK _ _ hS (Lz.refl _) (fun d hd => by cases hd; rfl)
    exact Steps.nil
  · intro a W hS hsz hd hU hR
    exact ⟨rfl, hR 58 0 rfl, hd, HX6.out.tr hS⟩
end Go.Proofs.YtdbmkkjpdhnllaaDoor
