/-
  Package ticket: Parse.
  The reference of layer 12: Parse.
  Package ticket: Seal, Open.
  The reference of layer 12: Open.
  The fixed example of layer 12, by the kernel (tools/genTicK.py).
  The reference's name number four.
  The fixed examples of layer 12.
  A ticket among the arguments, opened.
  TicketMatchesReference walked.
  TicketParses walked.
-/
import Derived.Test.YtagegigffohcbaaGreatDoorND
import Derived.Test.YtagegigffohcbaaGreatDoorNB
import Derived.Test.YtagegigffohcbaaGreatDoorNC
import Derived.Test.YtagegigffohcbaaGreatDoorMA
import Derived.Test.YtagegigffohcbaaGreatDoorMI
import Derived.Deep.CutBlock
import Derived.Test.YtagegigffohcbaaGreatDoorMC
import Derived.Test.YtagegigffohcbaaGreatDoorMB
set_option linter.unusedVariables false
set_option linter.unusedSimpArgs false
namespace Go.Proofs.YtagegigffohcbaaGreatDoor
open Go.RowKit
set_option linter.unusedVariables false
set_option linter.unusedSimpArgs false

theorem tk_got16 (l : List UInt8) (bad : Bool) : (tk 16 l bad).got.length = 16 ∨ (tk 16 l bad).got.length = 0 := by
  unfold tk
  split
  · exact .inr rfl
  · rename_i h
    simp only [not_or] at h
    refine .inl ?_
    show (l.take 16).length = 16
    rw [List.length_take]
    omega
/-- a name that is read is small -/
theorem vl_small {t : ByteArray} {ss : List ByteArray} (h : vl (bl t) (bls ss) = true) : t.size ≤ 9223372036854775807 ∧ (∀ u ∈ ss, u.size ≤ 9223372036854775807) ∧ ss.length ≤ 9223372036854775807 := by
  obtain ⟨_, h2, h3, h4⟩ := vl_parts h
  have k4 := (wd_len h4).2
  rw [bl_len] at k4
  have hl : (bls ss).length = ss.length := by simp [bls]
  refine ⟨by omega, fun u hu => ?_, by omega⟩
  have k3 := (wd_len (h3 (bl u) (by simp only [bls, List.mem_map]; exact ⟨u, hu, rfl⟩))).2
  rw [bl_len] at k3
  omega
theorem nm_small {l : List UInt8} {bad : Bool} {t : ByteArray} {ss : List ByteArray} {o : Option (List UInt8 × List (List UInt8))} (ho : o = rnm l bad) (h1 : bl t = (o.getD ([], [])).1) (h2 : bls ss = (o.getD ([], [])).2) : t.size ≤ 9223372036854775807 ∧ (∀ u ∈ ss, u.size ≤ 9223372036854775807) ∧ ss.length ≤ 9223372036854775807 := by
  cases o with
  | none =>
    have hl : (bls ss).length = ss.length := by simp [bls]
    rw [h2] at hl
    have h0 : ss = [] := List.eq_nil_of_length_eq_zero hl.symm
    have k1 := congrArg List.length h1
    rw [bl_len] at k1
    subst h0
    exact ⟨by rw [k1]; decide, by simp, by simp⟩
  | some x =>
    obtain ⟨r, ps⟩ := x
    have hv := (rnm_sound ho.symm).2.1
    refine vl_small ?_
    rw [h1, h2]
    exact hv
/-- a block of bytes -/
def US : Nat → TypeId → Prop := fun _ t => t = 5
theorem US.no : NoRd US := fun _ h => absurd h (by unfold US; decide)
/-- the zero result stays where it was laid -/
def Zt (W : World) (g : Nat) : Prop := ∃ cs : Array Value, W.heap[g]? = some (.cells cs 28 (0, 0)) ∧ cs.size = 20
theorem Zt.ext {W W' : World} {g : Nat} (h : Zt W g) (hx : Ext W W') : Zt W' g := by
  obtain ⟨cs, h1, h2⟩ := h
  exact ⟨cs, hx.get h1, h2⟩
theorem Zt.grown {W W' : World} {g k : Nat} (h : Zt W g) (hx : W.grownBy W' (some k)) (hne : k ≠ g) : Zt W' g := by
  obtain ⟨cs, h1, h2⟩ := h
  exact ⟨cs, grown_get hx h1 (fun e => by injection e with e; exact hne e), h2⟩
theorem Zt.lt {W : World} {g : Nat} (h : Zt W g) : g < W.heap.size := by
  obtain ⟨cs, h1, h2⟩ := h
  exact lt_of_some h1

set_option maxRecDepth 100000 in
set_option maxHeartbeats 8000000 in
theorem tparse_c (B : Option Addr) (c : Nat) (l : List UInt8) (S : Nat → TypeId → Prop) (w : World) (h : RB w S B l) (hl : l.length ≤ 140737488355328) :
    Calls Tryz.prog 17 #[.slice B l.length c] w fun x w' => ∃ T, x = .returned (.tuple #[.agg T, .bool (tkp l).isSome]) ∧ TkR w' T (tkp l) ∧ Ext w w' := by
  have HB := Lib.hid h
  have HL := Lib.hid hl
  clear h hl
  go_enter Tryz.func17, Tryz.ntmps17
  go_wp2_with fail
  refine (rdnew_c B c l S _ (HB.out.ext (Ext.alloc _ _)) HL.out).mono ?_
  rintro x w1 ⟨gr, C, rfl, hgr, hrd, hx1⟩
  have HZ1 := Lib.hid (show Zt w1 w.heap.size from ⟨_, hx1.get (new_of w _), rfl⟩)
  have HX1 := Lib.hid ((Ext.alloc w _).tr hx1)
  have HGR := Lib.hid (show w.heap.size < gr by simp at hgr; omega)
  replace hrd := hrd.more (T := US) (fun _ _ h => h.2.1)
  clear hgr hx1
  go_wp2_with fail
  refine (num_any 1 w1 hrd US.no).mono ?_
  rintro x w2 ⟨rfl, hrd2, hg2⟩
  have hx2 := grown_new HX1.out hg2 (fun q e => by injection e with e; have := HGR.out; omega)
  have hz2 := HZ1.out.grown hg2 (by have := HGR.out; omega)
  have hfl := nm_len 1 l false
  obtain ⟨f, hf⟩ : ∃ f, f = tk0 l := ⟨_, rfl⟩
  rw [show nm 1 l false = f from hf.symm] at hrd2 hfl ⊢
  have HX2 := Lib.hid hx2
  have HZ2 := Lib.hid hz2
  have HRD2 := Lib.hid hrd2
  have HFL := Lib.hid hfl
  have HF := Lib.hid hf
  clear hx2 hz2 hrd2 hfl hf hrd hg2 HX1 HZ1
  go_wp2_with fail
  refine (read_c w2 HRD2.out US.no (by have := HL.out; have := HFL.out; omega)).mono ?_
  rintro x w3 ⟨v, rfl, ⟨t, A, cA, ss, rfl, hsr, hcA, hmA, hbt, hbs⟩, hrd3, hg3⟩
  have hx3 := grown_new HX2.out hg3 (fun q e => by injection e with e; have := HGR.out; omega)
  have hz3 := HZ2.out.grown hg3 (by have := HGR.out; omega)
  obtain ⟨o, ho⟩ : ∃ o, o = rnm f.left f.bad := ⟨_, rfl⟩
  obtain ⟨p, hp⟩ : ∃ p, p = rp f.left f.bad := ⟨_, rfl⟩
  rw [← ho] at hbt hbs ⊢
  rw [← hp] at hrd3
  obtain ⟨w4, hw4⟩ : ∃ w4, w4 = w3.alloc (.cells #[.string t, .slice A ss.length cA] 26) := ⟨_, rfl⟩
  have hx34 : Ext w3 w4 := by rw [hw4]; exact Ext.alloc _ _
  have hd4 : w4.heap[w3.heap.size]? = some (.cells #[.string t, .slice A ss.length cA] 26 (0, 0)) := by rw [hw4]; exact new_of _ _
  have hgr3 := hrd3.lt
  obtain ⟨gn, hgn⟩ : ∃ gn, gn = w3.heap.size := ⟨_, rfl⟩
  rw [← hgn] at hd4 hgr3
  have HX4 := Lib.hid (hx3.tr hx34)
  have HZ4 := Lib.hid (hz3.ext hx34)
  have HRD4 := Lib.hid (hrd3.ext hx34)
  have HSR4 := Lib.hid (hsr.ext hx34)
  have HD4 := Lib.hid hd4
  have HW4 := Lib.hid hw4
  have HGN := Lib.hid (show w.heap.size < gn ∧ gr < gn from ⟨by have := hz3.lt; omega, hgr3⟩)
  have HNB := Lib.hid (And.intro hbt hbs)
  have HCA := Lib.hid (And.intro hcA hmA)
  have HO := Lib.hid ho
  have HP := Lib.hid hp
  have HGE := Lib.hid hgn
  clear hx3 hz3 hrd3 hsr hx34 hd4 hw4 hbt hbs hcA hmA ho hp hgn hgr3 hg3 HX2 HZ2 HRD2
  go_wp2_with fail
  rw [← HW4.out, ← HGE.out]
  refine (num_any 8 w4 HRD4.out US.no).mono ?_
  rintro x w5 ⟨rfl, hrd5, hg5⟩
  obtain ⟨s, hs⟩ : ∃ s, s = nm 8 p.2.1 p.2.2 := ⟨_, rfl⟩
  have hsl := nm_lt 8 p.2.1 p.2.2
  rw [← hs] at hrd5 hsl ⊢
  have HX5 := Lib.hid (grown_new HX4.out hg5 (fun q e => by injection e with e; have := HGR.out; omega))
  have HZ5 := Lib.hid (HZ4.out.grown hg5 (by have := HGR.out; omega))
  have HD5 := Lib.hid (grown_get hg5 HD4.out (fun e => by injection e with e; have := HGN.out; omega))
  obtain ⟨csr, hcsr⟩ := HRD4.out.at_
  have HSR5 := Lib.hid (HSR4.out.far hg5 hcsr (fun _ h => absurd h (by decide)))
  have HRD5 := Lib.hid hrd5
  have HS := Lib.hid hs
  have HSL := Lib.hid hsl
  clear hrd5 hs hsl hg5 hcsr HX4 HZ4 HD4 HSR4 HRD4
  go_wp2_with fail
  refine (num_any 8 w5 HRD5.out US.no).mono ?_
  rintro x w6 ⟨rfl, hrd6, hg6⟩
  obtain ⟨q, hq⟩ : ∃ q, q = nm 8 s.left s.bad := ⟨_, rfl⟩
  have hql := nm_lt 8 s.left s.bad
  rw [← hq] at hrd6 hql ⊢
  have HX6 := Lib.hid (grown_new HX5.out hg6 (fun q e => by injection e with e; have := HGR.out; omega))
  have HZ6 := Lib.hid (HZ5.out.grown hg6 (by have := HGR.out; omega))
  have hd6 := grown_get hg6 HD5.out (fun e => by injection e with e; have := HGN.out; omega)
  obtain ⟨csr, hcsr⟩ := HRD5.out.at_
  have HSR6 := Lib.hid (HSR5.out.far hg6 hcsr (fun _ h => absurd h (by decide)))
  have HRD6 := Lib.hid hrd6
  have HQ := Lib.hid hq
  have HQL := Lib.hid hql
  have a0 : w6.cell? ⟨gn, 0, none⟩ = some (.string t) := cells_of hd6 0
  have a1 : w6.cell? ⟨gn, 1, none⟩ = some (.slice A ss.length cA) := cells_of hd6 1
  have HGN6 := Lib.hid (lt_of_some hd6)
  clear hrd6 hq hql hg6 hcsr hd6 HX5 HZ5 HD5 HSR5 HRD5
  obtain ⟨sa, hsa⟩ : ∃ sa : Int, wrap64 (s.num : Int) = sa := ⟨_, rfl⟩
  obtain ⟨qa, hqa⟩ : ∃ qa : Int, wrap64 (q.num : Int) = qa := ⟨_, rfl⟩
  have HSA := Lib.hid hsa
  have HQA := Lib.hid hqa
  go_wp2_with (first
    | refine wpList_build_three rfl 28 (.tmp 27) (.tmp 29) (.tmp 31) rfl (.agg #[.string t, .slice A ss.length cA]) (.int .i64 sa) (.int .i64 qa) rfl rfl rfl _ (built_tk3 t A ss.length cA _ _) ?_
    | (refine wpList_store_tk rfl rfl (.tmp 11) (.tmp 32) rfl w6.heap.size (tkc t A ss.length cA sa qa (fun _ => 0)) rfl rfl ⟨tkc_size _ _ _ _ _ _ _, tkc_one _ _ _ _ _ _ _⟩ _ (new_of w6 _) rfl ?_
       intro w7 hd7 hg7))
  have x67 : Ext w6 w7 := grown_new (Ext.alloc w6 _) hg7 (fun q e => by injection e with e; omega)
  obtain ⟨gt, hgt⟩ : ∃ gt, gt = w6.heap.size := ⟨_, rfl⟩
  rw [← hgt] at hd7 ⊢
  have HGT := Lib.hid (show w.heap.size < gt ∧ gr < gt from ⟨by have := HZ6.out.lt; omega, by have := HRD6.out.lt; omega⟩)
  have HX7 := Lib.hid ((HX6.out.tr x67).tr (Ext.drew w7))
  have HZ7 := Lib.hid ((HZ6.out.ext x67).ext (Ext.drew w7))
  have HSR7 := Lib.hid ((HSR6.out.ext x67).ext (Ext.drew w7))
  have HRD7 := Lib.hid ((HRD6.out.ext x67).ext (Ext.drew w7))
  have HD7 := Lib.hid ((Ext.drew w7).get hd7)
  clear x67 hgt hd7 hg7 HX6 HZ6 HSR6 HRD6 a0 a1 hsa hqa
  refine wp_region_held_drew (S := fun _ => True) (by kernel_rfl) trivial (fun _ => ?_)
  obtain ⟨v0, hv0⟩ : ∃ v, v = w7.drew := ⟨_, rfl⟩
  rw [← hv0] at HX7 HZ7 HSR7 HRD7 HD7 ⊢
  clear hv0
  refine wpAnyH_take (i := 0) (v := .pointer (some ⟨gt, 4, none⟩)) rfl (by kernel_rfl) (by kernel_rfl) (by kernel_rfl) (fun _ _ _ h => h) (Or.inl ⟨by kernel_rfl, ?_⟩) trivial ?_
  · intro W hW
    go_simp
  try simp only [List.getElem_toArray, List.getElem_cons_succ, List.getElem_cons_zero, Act.put, List.setIfInBounds_toArray, List.set_cons_zero, List.set_cons_succ]
  refine wpAnyH_take (i := 1) (v := .slice (some ⟨gt, 4, none⟩) 16 16) rfl (by kernel_rfl) (by kernel_rfl) (by kernel_rfl) (fun _ _ _ h => h) (Or.inl ⟨by kernel_rfl, ?_⟩) trivial ?_
  · intro W hW
    go_simp
  try simp only [List.getElem_toArray, List.getElem_cons_succ, List.getElem_cons_zero, Act.put, List.setIfInBounds_toArray, List.set_cons_zero, List.set_cons_succ]
  refine wpAnyH_take_move 2 rfl (by kernel_rfl) (by kernel_rfl) (by kernel_rfl) (fun _ _ _ _ h => h) (by kernel_rfl) (.tmp 4) rfl (.pointer (some ⟨gr, 0, none⟩)) rfl trivial ?_
  try simp only [List.getElem_toArray, List.getElem_cons_succ, List.getElem_cons_zero, Act.put, List.setIfInBounds_toArray, List.set_cons_zero, List.set_cons_succ]
  refine wpAnyH_ready (rs := [3]) (by kernel_rfl) (by simp) ?_
  refine AllReadyH.cons rfl (fun K hK => ?_) AllReadyH.nil
  go_simp
  have hlq : q.left.length ≤ 140737488355328 := by
    have h1 := nm_len 8 s.left s.bad
    have h2 := nm_len 8 p.2.1 p.2.2
    have h3 := (rdn_len (rn f.left f.bad).left (rn f.left f.bad).bad (rn f.left f.bad).num).1
    have h4 := nm_len 1 (rrl f.left f.bad).left (rrl f.left f.bad).bad
    have h5 := (st_len 1 f.left f.bad).2
    rw [← HQ.out] at h1
    rw [← HS.out] at h2
    have h6 : p.2.1.length ≤ (rn f.left f.bad).left.length := by rw [HP.out]; exact h3
    have h7 : (rn f.left f.bad).left.length ≤ (rrl f.left f.bad).left.length := h4
    have h8 : (rrl f.left f.bad).left.length ≤ f.left.length := h5
    have := HL.out
    have := HFL.out
    omega
  refine (take_any 16 v0 HRD7.out US.no hlq ⟨by omega, by omega⟩).mono ?_
  rintro x v1 ⟨D, cd, rfl, hod, hrd8, hg8⟩
  obtain ⟨k, hk⟩ : ∃ k, k = tk 16 q.left q.bad := ⟨_, rfl⟩
  have hk16 := tk_got16 q.left q.bad
  rw [← hk] at hod hrd8 hk16 ⊢
  have HX8 := Lib.hid (grown_new HX7.out hg8 (fun q e => by injection e with e; have := HGR.out; omega))
  have HZ8 := Lib.hid (HZ7.out.grown hg8 (by have := HGR.out; omega))
  obtain ⟨csr, hcsr⟩ := HRD7.out.at_
  have HSR8 := Lib.hid (HSR7.out.far hg8 hcsr (fun _ h => absurd h (by decide)))
  have HD8 := Lib.hid (grown_get hg8 HD7.out (fun e => by injection e with e; have := HGT.out; omega))
  have HRD8 := Lib.hid hrd8
  have HOD := Lib.hid hod
  have HK := Lib.hid hk
  have HK16 := Lib.hid hk16
  clear hod hrd8 hk hk16 hg8 hcsr hlq HX7 HZ7 HSR7 HRD7 HD7
  refine hK.out _ _ trivial (fun _ => ?_)
  clear hK K
  try simp only [List.getElem_toArray, List.getElem_cons_succ, List.getElem_cons_zero, Act.put, List.setIfInBounds_toArray, List.set_cons_zero, List.set_cons_succ]
  refine wpAnyH_ready (rs := [4]) (by kernel_rfl) (by simp) ?_
  refine AllReadyH.cons rfl (fun K hK => ?_) AllReadyH.nil
  refine wp_copy_key1 (.tmp 34) (.tmp 36) 31 31 rfl 5 Tryz.underlying31 size_u8 gt rfl D cd k.got rfl t A ss.length cA sa qa HD8.out _ HOD.out.rb HK16.out ?_
  intro cnt w9 hd9 hg9
  have HX9 := Lib.hid (grown_new HX8.out hg9 (fun q e => by injection e with e; have := HGT.out; omega))
  have HZ9 := Lib.hid (HZ8.out.grown hg9 (by have := HGT.out; omega))
  have HSR9 := Lib.hid (HSR8.out.far hg9 HD8.out (fun _ h => absurd h (by decide)))
  have HRD9 := Lib.hid (HRD8.out.far hg9 HD8.out (by have := HGT.out; omega) (fun _ h => absurd h (by unfold US; decide)))
  have HD9 := Lib.hid hd9
  clear hd9 hg9 HX8 HZ8 HSR8 HRD8 HD8 HOD
  refine hK.out _ _ trivial (fun _ => ?_)
  clear hK K
  try simp only [List.getElem_toArray, List.getElem_cons_succ, List.getElem_cons_zero, Act.put, List.setIfInBounds_toArray, List.set_cons_zero, List.set_cons_succ]
  refine wpAnyH_done (by kernel_rfl) ?_ _
  have HSZ := Lib.hid (nm_small HO.out HNB.out.1 HNB.out.2)
  have hpd := tkp_dec HF.out HO.out HP.out HS.out HQ.out HK.out
  have htv : tkvI t ss sa qa = tkv (o.getD ([], [])).1 (o.getD ([], [])).2 s.num q.num := by
    rw [← HNB.out.1, ← HNB.out.2, ← tkvI_wrap t ss s.num q.num HSL.out HQL.out, ← HSA.out, ← HQA.out, IntKind.wrap_i64, IntKind.wrap_i64]
    unfold wrap64
    rfl
  obtain ⟨zc, hz1, hz2⟩ := HZ9.out
  by_cases h1 : f.num = 1
  · have t1 := bne_f (a := (f.num : Int)) (b := 1) (by omega)
    cases hdn : (!k.bad && k.left.isEmpty) with
    | false =>
      rw [if_neg (fun h => by rw [hdn] at h; exact absurd h.2.1 (by decide))] at hpd
      go_wp2_with fail
      have hdc := done_c w9 HRD9.out
      rw [hdn] at hdc
      refine hdc.mono ?_
      rintro x w10 ⟨rfl, rfl⟩
      go_wp2_with (first
        | (refine wpList_store_tk rfl rfl (.tmp 2) (.tmp 50) rfl w.heap.size tkz rfl rfl ⟨tkc_size _ _ _ _ _ _ _, tkc_one _ _ _ _ _ _ _⟩ zc hz1 hz2 ?_
           intro wz hdz hgz
           have HDZ := Lib.hid hdz
           have HXZ := Lib.hid (grown_new HX9.out hgz (fun q e => by injection e with e; omega))
           clear hdz hgz))
      refine bodyPost_ret (v := .tuple #[.agg tkz, .bool false]) (results_tk rfl _ _ w.heap.size tkz (tkc_size _ _ _ _ _ _ _) rfl HDZ.out _ rfl) rfl ⟨tkz, by rw [hpd]; rfl, by rw [hpd]; exact rfl, HXZ.out⟩
    | true =>
      have hvd := fun W (hx : Ext w9 W) => tvalid_c t A cA ss sa qa (byt k.got) _ W (HSR9.out.ext hx) HSZ.out.1 HSZ.out.2.1 HSZ.out.2.2
      obtain ⟨T, hT⟩ : ∃ T, T = tkc t A ss.length cA sa qa (byt k.got) := ⟨_, rfl⟩
      have hT20 : T.size = 20 ∧ T.all (·.oneCell') = true := by rw [hT]; exact ⟨tkc_size _ _ _ _ _ _ _, tkc_one _ _ _ _ _ _ _⟩
      have hd9 := HD9.out
      rw [← hT] at hd9 hvd
      rw [htv] at hvd
      have HT := Lib.hid hT
      clear hT
      cases hv : tkv (o.getD ([], [])).1 (o.getD ([], [])).2 s.num q.num with
      | false =>
        rw [if_neg (fun h => by rw [hv] at h; exact absurd h.2.2 (by decide))] at hpd
        rw [hv] at hvd
        go_wp2_with fail
        have hdc := done_c w9 HRD9.out
        rw [hdn] at hdc
        refine hdc.mono ?_
        rintro x w10 ⟨rfl, rfl⟩
        go_wp2_with (refine wpList_load_tk rfl (.tmp 11) rfl gt rfl T hT20.1 hd9 ?_)
        refine (hvd w9 (Ext.refl _)).mono ?_
        rintro x w11 ⟨rfl, hx11⟩
        have hz11 := hx11.get hz1
        go_wp2_with (first
          | (refine wpList_store_tk rfl rfl (.tmp 2) (.tmp 50) rfl w.heap.size tkz rfl rfl ⟨tkc_size _ _ _ _ _ _ _, tkc_one _ _ _ _ _ _ _⟩ zc hz11 hz2 ?_
             intro wz hdz hgz
             have HDZ := Lib.hid hdz
             have HXZ := Lib.hid (grown_new (HX9.out.tr hx11) hgz (fun q e => by injection e with e; omega))
             clear hdz hgz))
        refine bodyPost_ret (v := .tuple #[.agg tkz, .bool false]) (results_tk rfl _ _ w.heap.size tkz (tkc_size _ _ _ _ _ _ _) rfl HDZ.out _ rfl) rfl ⟨tkz, by rw [hpd]; rfl, by rw [hpd]; exact rfl, HXZ.out⟩
      | true =>
        rw [if_pos ⟨h1, hdn, hv⟩] at hpd
        have hvp := tkv_parts hv
        have HES := Lib.hid (show sa = (s.num : Int) by rw [← HSA.out]; unfold wrap64; omega)
        have HEQ := Lib.hid (show qa = (q.num : Int) by rw [← HQA.out]; unfold wrap64; omega)
        clear hvp
        rw [hv] at hvd
        go_wp2_with fail
        have hdc := done_c w9 HRD9.out
        rw [hdn] at hdc
        refine hdc.mono ?_
        rintro x w10 ⟨rfl, rfl⟩
        go_wp2_with (refine wpList_load_tk rfl (.tmp 11) rfl gt rfl T hT20.1 hd9 ?_)
        refine (hvd w9 (Ext.refl _)).mono ?_
        rintro x w11 ⟨rfl, hx11⟩
        have hz11 := hx11.get hz1
        have hd11 := hx11.get hd9
        have HX11 := Lib.hid (HX9.out.tr hx11)
        have HSR11 := Lib.hid (HSR9.out.ext hx11)
        have HZ11 := Lib.hid (And.intro hz11 hz2)
        clear hx11 hz1 hz2
        go_wp2_with (first
          | refine wpList_load_tk rfl (.tmp 11) rfl gt rfl T hT20.1 hd11 ?_
          | (refine wpList_store_tk rfl rfl (.tmp 2) (.tmp 51) rfl w.heap.size T rfl rfl hT20 zc HZ11.out.1 HZ11.out.2 ?_
             intro wz hdz hgz
             have HDZ := Lib.hid hdz
             have HXZ := Lib.hid (grown_new HX11.out hgz (fun q e => by injection e with e; omega))
             have HSRZ := Lib.hid (HSR11.out.far hgz HZ11.out.1 (fun _ h => absurd h (by decide)))
             clear hdz hgz))
        refine bodyPost_ret (v := .tuple #[.agg T, .bool true]) (results_tk rfl _ _ w.heap.size T hT20.1 rfl HDZ.out _ rfl) rfl ⟨T, by rw [hpd]; rfl, ?_, HXZ.out⟩
        rw [hpd]
        exact ⟨t, A, cA, ss, by rw [HT.out, HES.out, HEQ.out], HSRZ.out, HCA.out.1, HCA.out.2, HNB.out.1, HNB.out.2⟩
  · have t1 := bne_t (a := (f.num : Int)) (b := 1) (by omega)
    rw [if_neg (fun h => h1 h.1)] at hpd
    go_wp2_with (first
      | (refine wpList_store_tk rfl rfl (.tmp 2) (.tmp 50) rfl w.heap.size tkz rfl rfl ⟨tkc_size _ _ _ _ _ _ _, tkc_one _ _ _ _ _ _ _⟩ zc hz1 hz2 ?_
         intro wz hdz hgz
         have HDZ := Lib.hid hdz
         have HXZ := Lib.hid (grown_new HX9.out hgz (fun q e => by injection e with e; omega))
         clear hdz hgz))
    refine bodyPost_ret (v := .tuple #[.agg tkz, .bool false]) (results_tk rfl _ _ w.heap.size tkz (tkc_size _ _ _ _ _ _ _) rfl HDZ.out _ rfl) rfl ⟨tkz, by rw [hpd]; rfl, by rw [hpd]; exact rfl, HXZ.out⟩
end Go.Proofs.YtagegigffohcbaaGreatDoor

namespace Go.Proofs.YtagegigffohcbaaGreatDoor
open Go.RowKit
set_option linter.unusedVariables false
set_option linter.unusedSimpArgs false

set_option maxRecDepth 100000 in
set_option maxHeartbeats 4000000 in
theorem rtparse_c (B : Option Addr) (c : Nat) (l : List UInt8) (S : Nat → TypeId → Prop) (w : World) (h : RB w S B l) (hc : l.length ≤ c) (hm : c ≤ 9223372036854775807) (hl : l.length ≤ 140737488355328) :
    Calls Tryz.prog 32 #[.slice B l.length c] w fun x w' => ∃ T, x = .returned (.tuple #[.agg T, .bool (tkr l).isSome]) ∧ TkR w' T (tkr l) ∧ Ext w w' := by
  have hin := h.inside.more (S' := fun g _ => g < w.heap.size) (fun _ _ h => h.2)
  clear h
  by_cases hshort : l.length < 33
  · have t1 : (l.length : Int) < 33 := by omega
    have hpd : tkr l = none := by unfold tkr; rw [if_pos (.inl hshort)]
    clear hin
    go_enter Tryz.func32, Tryz.ntmps32
    go_wp2_with (first
      | (refine wpList_store_tk rfl rfl (.tmp 2) (.tmp 21) rfl w.heap.size tkz rfl rfl ⟨tkc_size _ _ _ _ _ _ _, tkc_one _ _ _ _ _ _ _⟩ _ (new_of w _) rfl ?_
         intro wz hdz hgz
         have HDZ := Lib.hid hdz
         have HXZ := Lib.hid (grown_new (Ext.alloc w _) hgz (fun q e => by injection e with e; omega))
         clear hdz hgz))
    refine bodyPost_ret (v := .tuple #[.agg tkz, .bool false]) (results_tk rfl _ _ w.heap.size tkz (tkc_size _ _ _ _ _ _ _) rfl HDZ.out _ rfl) rfl ⟨tkz, by rw [hpd]; rfl, by rw [hpd]; exact rfl, HXZ.out⟩
  obtain ⟨g, off, rfl⟩ := rb_block hin (by omega)
  have hgw : g < w.heap.size := by
    obtain ⟨g', off', cs, t, fr, e, hh, hs, _⟩ := hin (by omega)
    injection e with e
    injection e with e1 e2
    subst e1
    exact hs
  have hcell : ∀ W, Ext w W → W.cell? ⟨g, off, none⟩ = some (.int .u8 ((l[0]'(by omega)).toNat : Int)) := fun W hx => by
    obtain ⟨g', off', cs, t, fr, e, hh, hs, hcc⟩ := (hin.ext hx) (by omega)
    injection e with e
    injection e with e1 e2
    subst e1
    subst e2
    have := hcc 0 _ (List.getElem?_eq_getElem (by omega))
    rw [cells_of hh]
    exact this
  obtain ⟨b0, hb0⟩ : ∃ b0, b0 = l[0]'(by omega) := ⟨_, rfl⟩
  rw [← hb0] at hcell
  have hl0 : l[0]? = some b0 := by rw [hb0]; exact List.getElem?_eq_getElem (by omega)
  have t0 : ¬ (l.length : Int) < 33 := by omega
  have t00 : (0 : Int) < (l.length : Int) := by omega
  by_cases hb1 : b0 = 1
  · have t2 : ((b0.toNat : Int) != 1) = false := bne_f (by rw [hb1]; rfl)
    have hc0 := fun o => hcell (w.alloc o) (Ext.alloc _ _)
    obtain ⟨n, hn⟩ : ∃ n, n = l.length - 32 := ⟨_, rfl⟩
    obtain ⟨m, hmm⟩ : ∃ m, m = (l.take (l.length - 32)).drop 1 := ⟨_, rfl⟩
    obtain ⟨m1, hm1⟩ : ∃ m1, m1 = l.drop (l.length - 32) := ⟨_, rfl⟩
    obtain ⟨m2, hm2⟩ : ∃ m2, m2 = l.drop (l.length - 24) := ⟨_, rfl⟩
    have hml : m.length = n - 1 := by rw [hmm, List.length_drop, List.length_take]; omega
    have hl1 : m1.length = 32 := by rw [hm1, List.length_drop]; omega
    have hl2 : m2.length = 24 := by rw [hm2, List.length_drop]; omega
    have hn32 : IntKind.i64.wrap ((l.length : Int) - 32) = (n : Int) := by rw [show (l.length : Int) - 32 = (n : Int) by omega]; exact IntWalk.i64_in _ (by omega)
    obtain ⟨n8, h8⟩ : ∃ n8, n8 = n + 8 := ⟨_, rfl⟩
    obtain ⟨n16, h16⟩ : ∃ n16, n16 = n + 16 := ⟨_, rfl⟩
    have hn8 : IntKind.i64.wrap ((n : Int) + 8) = (n8 : Int) := by rw [show (n : Int) + 8 = (n8 : Int) by omega]; exact IntWalk.i64_in _ (by omega)
    have hn16 : IntKind.i64.wrap ((n : Int) + 16) = (n16 : Int) := by rw [show (n : Int) + 16 = (n16 : Int) by omega]; exact IntWalk.i64_in _ (by omega)
    have hs0 := fun W => run_slice_mid (P := Tryz.prog) Tryz.underlying31 size_u8 g off l.length c 1 (n - 1) (by omega) (by omega) 1 (n : Int) rfl (by omega) W
    have hs1 := fun W => run_slice_lo (P := Tryz.prog) Tryz.underlying31 size_u8 g off l.length c n (by omega) (by omega) (n : Int) rfl W
    have hs2 := fun W => run_slice_lo (P := Tryz.prog) Tryz.underlying31 size_u8 g off l.length c n8 (by omega) (by omega) (n8 : Int) rfl W
    have hs3 := fun W => run_slice_lo (P := Tryz.prog) Tryz.underlying31 size_u8 g off l.length c n16 (by omega) (by omega) (n16 : Int) rfl W
    rw [← hml] at hs0
    rw [show l.length - n = m1.length by omega] at hs1
    rw [show l.length - n8 = m2.length by omega] at hs2
    rw [show l.length - n16 = 16 by omega] at hs3
    have hr0 : RB w (fun g _ => g < w.heap.size) (some ⟨g, off + 1, none⟩) m := by rw [hmm]; exact rb_end (hin.take _) 1
    have hr1 : RB w (fun g _ => g < w.heap.size) (some ⟨g, off + n, none⟩) m1 := by rw [hm1, hn]; exact rb_end hin _
    have hr2 : RB w (fun g _ => g < w.heap.size) (some ⟨g, off + n8, none⟩) m2 := by rw [hm2, show l.length - 24 = n8 by omega]; exact rb_end hin _
    have hr3 : RB w (fun g _ => g < w.heap.size) (some ⟨g, off + n16, none⟩) (l.drop n16) := rb_end hin _
    have hk16 : (l.drop n16).length = 16 := by rw [List.length_drop]; omega
    obtain ⟨kk, hkk⟩ : ∃ kk, kk = l.drop n16 := ⟨_, rfl⟩
    rw [← hkk] at hr3 hk16
    obtain ⟨s, hsd⟩ : ∃ s, s = (nm 8 m1 false).num := ⟨_, rfl⟩
    obtain ⟨q, hqd⟩ : ∃ q, q = (nm 8 m2 false).num := ⟨_, rfl⟩
    have hpd := tkr_long (s := s) (q := q) (by omega) (by rw [hl0, hb1]) hmm (by rw [hsd, hm1]) (by rw [hqd, hm2])
    rw [show l.length - 16 = n16 by omega, ← hkk] at hpd
    obtain ⟨c1, hc1⟩ : ∃ c1, c1 = c - 1 := ⟨_, rfl⟩
    obtain ⟨c2, hc2⟩ : ∃ c2, c2 = c - n := ⟨_, rfl⟩
    obtain ⟨c3, hc3⟩ : ∃ c3, c3 = c - n8 := ⟨_, rfl⟩
    rw [← hc1] at hs0
    rw [← hc2] at hs1
    rw [← hc3] at hs2
    have HR0 := Lib.hid hr0
    have HR1 := Lib.hid hr1
    have HR2 := Lib.hid hr2
    have HR3 := Lib.hid hr3
    have HPD := Lib.hid hpd
    have HNN := Lib.hid (show 1 ≤ n ∧ n + 32 = l.length by omega)
    have HLN := Lib.hid (show m.length ≤ c1 ∧ c1 ≤ 9223372036854775807 ∧ m1.length ≤ c2 ∧ c2 ≤ 9223372036854775807 ∧ m2.length ≤ c3 ∧ c3 ≤ 9223372036854775807 ∧ m.length ≤ 140737488355328 ∧ m1.length = 32 ∧ m2.length = 24 by omega)
    have HSD := Lib.hid hsd
    have HQD := Lib.hid hqd
    have HK16 := Lib.hid hk16
    have harr := fun (a : Option Addr) (c : Nat) => run_arrayAt (P := Tryz.prog) (t := 22) Tryz.underlying22 a 16 c (by decide)
    clear h8 h16
    clear hr0 hr1 hr2 hr3 hpd hsd hqd hk16 hkk hc1 hc2 hc3 hm1 hm2 hmm hn hml hl1 hl2 hin hcell hb0 hl0 hb1 hshort hgw
    go_enter Tryz.func32, Tryz.ntmps32
    go_wp2_with fail
    refine (rread_c (some ⟨g, off + 1, none⟩) c1 m false _ _ (HR0.out.ext (Ext.alloc _ _)) (fun g t (h : g < w.heap.size) => Nat.lt_of_lt_of_le h (Ext.alloc w _).size) HLN.out.1 HLN.out.2.1 HLN.out.2.2.2.2.2.2.1).mono ?_
    rintro x w1 ⟨A1, d1, v, rfl, ⟨t, A, cA, ss, rfl, hsr, hcA, hmA, hbt, hbs⟩, hx1⟩
    have HZ1 := Lib.hid (show Zt w1 w.heap.size from ⟨_, hx1.get (new_of w _), rfl⟩)
    have HX1 := Lib.hid ((Ext.alloc w _).tr hx1)
    have HSR1 := Lib.hid hsr
    have HNB := Lib.hid (And.intro hbt hbs)
    have HCA := Lib.hid (And.intro hcA hmA)
    obtain ⟨o, ho⟩ : ∃ o, o = rrnm m false := ⟨_, rfl⟩
    obtain ⟨p, hp⟩ : ∃ p, p = rq m false := ⟨_, rfl⟩
    rw [← ho] at HNB ⊢
    rw [← hp]
    have HO := Lib.hid ho
    have HP := Lib.hid hp
    clear hx1 hsr hbt hbs hcA hmA ho hp
    rw [← HO.out, ← HP.out] at HPD
    obtain ⟨hd1, hd2⟩ := two_new w1 (.cells #[.slice A1 p.2.1.length d1, .bool p.2.2] 80) (.cells #[.string t, .slice A ss.length cA] 26)
    have hx2 := (Ext.alloc w1 (.cells #[.slice A1 p.2.1.length d1, .bool p.2.2] 80)).tr (Ext.alloc _ (.cells #[.string t, .slice A ss.length cA] 26))
    obtain ⟨w2, hw2⟩ : ∃ w2, w2 = (w1.alloc (.cells #[.slice A1 p.2.1.length d1, .bool p.2.2] 80)).alloc (.cells #[.string t, .slice A ss.length cA] 26) := ⟨_, rfl⟩
    rw [← hw2] at hd1 hd2 hx2
    obtain ⟨zc, hz1, hz2⟩ := HZ1.out.ext hx2
    have HX2 := Lib.hid (HX1.out.tr hx2)
    have HSR2 := Lib.hid (HSR1.out.ext hx2)
    have HD2 := Lib.hid hd2
    have HZC := Lib.hid (show w2.heap[w.heap.size]? = some (.cells zc 28 (0, 0)) ∧ zc.size = 20 from ⟨hz1, hz2⟩)
    have HW2 := Lib.hid hw2
    have a0 : w2.cell? ⟨w1.heap.size, 0, none⟩ = some (.slice A1 p.2.1.length d1) := cells_of hd1 0
    clear hx2 hd1 hd2 hz1 hz2 HX1 HSR1 HZ1 hw2
    cases o with
    | none =>
      go_upto_region 5 with fail
      rw [← HW2.out]
      go_wp2_with (first
        | (refine wpList_store_tk rfl rfl (.tmp 2) (.tmp 42) rfl w.heap.size tkz rfl rfl ⟨tkc_size _ _ _ _ _ _ _, tkc_one _ _ _ _ _ _ _⟩ zc HZC.out.1 HZC.out.2 ?_
           intro wz hdz hgz
           have HDZ := Lib.hid hdz
           have HXZ := Lib.hid (grown_new HX2.out hgz (fun q e => by injection e with e; omega))
           clear hdz hgz))
      refine bodyPost_ret (v := .tuple #[.agg tkz, .bool false]) (results_tk rfl _ _ w.heap.size tkz (tkc_size _ _ _ _ _ _ _) rfl HDZ.out _ rfl) rfl ⟨tkz, by rw [HPD.out]; rfl, by rw [HPD.out]; exact rfl, HXZ.out⟩
    | some x =>
      obtain ⟨r, ps⟩ := x
      by_cases hz : 0 < p.2.1.length
      · have tz : (0 : Int) < (p.2.1.length : Int) := by omega
        have HPZ := Lib.hid (show tkr l = none by rw [HPD.out]; simp only; rw [if_pos hz])
        clear HPD hz
        go_upto_region 5 with fail
        rw [← HW2.out]
        go_wp2_with (first
          | (refine wpList_store_tk rfl rfl (.tmp 2) (.tmp 42) rfl w.heap.size tkz rfl rfl ⟨tkc_size _ _ _ _ _ _ _, tkc_one _ _ _ _ _ _ _⟩ zc HZC.out.1 HZC.out.2 ?_
             intro wz hdz hgz
             have HDZ := Lib.hid hdz
             have HXZ := Lib.hid (grown_new HX2.out hgz (fun q e => by injection e with e; omega))
             clear hdz hgz))
        refine bodyPost_ret (v := .tuple #[.agg tkz, .bool false]) (results_tk rfl _ _ w.heap.size tkz (tkc_size _ _ _ _ _ _ _) rfl HDZ.out _ rfl) rfl ⟨tkz, by rw [HPZ.out]; rfl, by rw [HPZ.out]; exact rfl, HXZ.out⟩
      · have tz : ¬ (0 : Int) < (p.2.1.length : Int) := by omega
        have HPZ := Lib.hid (show tkr l = if q < s ∨ 1099511627776 < q then none else some (r, ps, s, q, kk) by rw [HPD.out]; simp only; rw [if_neg hz])
        clear HPD hz
        go_upto_region 5 with fail
        rw [← HW2.out]
        go_wp2_with fail
        refine (rnum_any (some ⟨g, off + n, none⟩) c2 m1 false _ 8 w2 (HR1.out.ext HX2.out) (fun g t (h : g < w.heap.size) => Nat.lt_of_lt_of_le h HX2.out.size) HLN.out.2.2.1 HLN.out.2.2.2.1 (by have := HLN.out; omega) ⟨by omega, by omega⟩).mono ?_
        rintro x w3 ⟨A3, d3, rfl, _, _, _, hx3⟩
        rw [← HSD.out]
        obtain ⟨L3, hL3⟩ : ∃ L, L = (nm 8 m1 false).left.length := ⟨_, rfl⟩
        obtain ⟨b3, hb3⟩ : ∃ b, b = (nm 8 m1 false).bad := ⟨_, rfl⟩
        rw [← hL3, ← hb3]
        clear hL3 hb3
        have x3 := hx3.tr (Ext.alloc w3 (.cells #[.slice A3 L3 d3, .bool b3] 80))
        have HX3 := Lib.hid (HX2.out.tr x3)
        have HXX3 := Lib.hid x3
        clear x3 hx3 a0
        go_wp2_with fail
        refine (rnum_any (some ⟨g, off + n8, none⟩) c3 m2 false _ 8 _ (HR2.out.ext HX3.out) (fun g t (h : g < w.heap.size) => Nat.lt_of_lt_of_le h HX3.out.size) HLN.out.2.2.2.2.1 HLN.out.2.2.2.2.2.1 (by have := HLN.out; omega) ⟨by omega, by omega⟩).mono ?_
        rintro x w4 ⟨A4, d4, rfl, _, _, _, hx4⟩
        rw [← HQD.out]
        obtain ⟨L4, hL4⟩ : ∃ L, L = (nm 8 m2 false).left.length := ⟨_, rfl⟩
        obtain ⟨b4, hb4⟩ : ∃ b, b = (nm 8 m2 false).bad := ⟨_, rfl⟩
        rw [← hL4, ← hb4]
        clear hL4 hb4
        have x4 := HXX3.out.tr (hx4.tr (Ext.alloc w4 (.cells #[.slice A4 L4 d4, .bool b4] 80)))
        obtain ⟨w5, hw5⟩ : ∃ w5, w5 = w4.alloc (.cells #[.slice A4 L4 d4, .bool b4] 80) := ⟨_, rfl⟩
        rw [← hw5] at x4
        have HX5 := Lib.hid (HX2.out.tr x4)
        have HSR5 := Lib.hid (HSR2.out.ext x4)
        have HD5 := Lib.hid (x4.get HD2.out)
        replace HZC := Lib.hid (show w5.heap[w.heap.size]? = some (.cells zc 28 (0, 0)) ∧ zc.size = 20 from ⟨x4.get HZC.out.1, HZC.out.2⟩)
        have HW5 := Lib.hid hw5
        have hsq : s < 18446744073709551616 ∧ q < 18446744073709551616 := by rw [HSD.out, HQD.out]; exact ⟨nm_lt _ _ _, nm_lt _ _ _⟩
        clear x4 hx4 hw5 HX2 HX3 HXX3 HSR2 HD2
        go_upto_region 9 with fail
        rw [← HW5.out]
        by_cases h1 : q < s
        · have t1 : (q : Int) < (s : Int) := by omega
          have HPY := Lib.hid (show tkr l = none by rw [HPZ.out, if_pos (.inl h1)])
          clear HPZ h1
          go_wp2_with (first
            | (refine wpList_store_tk rfl rfl (.tmp 2) (.tmp 67) rfl w.heap.size tkz rfl rfl ⟨tkc_size _ _ _ _ _ _ _, tkc_one _ _ _ _ _ _ _⟩ zc HZC.out.1 HZC.out.2 ?_
               intro wz hdz hgz
               have HDZ := Lib.hid hdz
               have HXZ := Lib.hid (grown_new HX5.out hgz (fun q e => by injection e with e; omega))
               clear hdz hgz))
          refine bodyPost_ret (v := .tuple #[.agg tkz, .bool false]) (results_tk rfl _ _ w.heap.size tkz (tkc_size _ _ _ _ _ _ _) rfl HDZ.out _ rfl) rfl ⟨tkz, by rw [HPY.out]; rfl, by rw [HPY.out]; exact rfl, HXZ.out⟩
        · have t1 : ¬ (q : Int) < (s : Int) := by omega
          by_cases h2 : 1099511627776 < q
          · have t2 : (1099511627776 : Int) < (q : Int) := by omega
            have HPY := Lib.hid (show tkr l = none by rw [HPZ.out, if_pos (.inr h2)])
            clear HPZ h1 h2
            go_wp2_with (first
              | (refine wpList_store_tk rfl rfl (.tmp 2) (.tmp 67) rfl w.heap.size tkz rfl rfl ⟨tkc_size _ _ _ _ _ _ _, tkc_one _ _ _ _ _ _ _⟩ zc HZC.out.1 HZC.out.2 ?_
                 intro wz hdz hgz
                 have HDZ := Lib.hid hdz
                 have HXZ := Lib.hid (grown_new HX5.out hgz (fun q e => by injection e with e; omega))
                 clear hdz hgz))
            refine bodyPost_ret (v := .tuple #[.agg tkz, .bool false]) (results_tk rfl _ _ w.heap.size tkz (tkc_size _ _ _ _ _ _ _) rfl HDZ.out _ rfl) rfl ⟨tkz, by rw [HPY.out]; rfl, by rw [HPY.out]; exact rfl, HXZ.out⟩
          · have t2 : ¬ (1099511627776 : Int) < (q : Int) := by omega
            have HPY := Lib.hid (show tkr l = some (r, ps, s, q, kk) by rw [HPZ.out, if_neg (fun h => h.elim h1 h2)])
            have HW1 := Lib.hid (show IntKind.i64.wrap (s : Int) = (s : Int) from IntWalk.i64_in _ (by omega))
            have HW2' := Lib.hid (show IntKind.i64.wrap (q : Int) = (q : Int) from IntWalk.i64_in _ (by omega))
            clear HPZ h1 h2 hsq
            go_wp2_with fail
            have hd6 := (Ext.drew w5).get HD5.out
            have hr6 := rangeAt_rb (n := 16) ((HR3.out.ext HX5.out).ext (Ext.drew w5)) (by rw [HK16.out]; exact Nat.le_refl _) (byt kk) (fun i _ => rfl) (by decide)
            obtain ⟨w6, hw6⟩ : ∃ w6, w6 = w5.drew := ⟨_, rfl⟩
            rw [← hw6] at hd6 hr6
            have a0 : w6.cell? ⟨w1.heap.size + 1, 0, none⟩ = some (.string t) := cells_of hd6 0
            have a1 : w6.cell? ⟨w1.heap.size + 1, 1, none⟩ = some (.slice A ss.length cA) := cells_of hd6 1
            have hx56 : Ext w5 w6 := by rw [hw6]; exact Ext.drew _
            have HX6 := Lib.hid (HX5.out.tr hx56)
            have HSR6 := Lib.hid (HSR5.out.ext hx56)
            replace HZC := Lib.hid (show w6.heap[w.heap.size]? = some (.cells zc 28 (0, 0)) ∧ zc.size = 20 from ⟨hx56.get HZC.out.1, HZC.out.2⟩)
            have HW6 := Lib.hid hw6
            have HR6 := Lib.hid hr6
            clear hd6 hr6 hw6 hx56 HX5 HSR5 HD5
            refine wp_region_ord 12 (fun W => W = w6) (by kernel_rfl) (by kernel_rfl) (by decide) (by kernel_rfl) HW6.out.symm ?_
            simp only [List.take_succ_cons, List.take_zero, List.drop_succ_cons, List.drop_zero]
            iterate 10 (refine wpTxt_stay ?_ (fun K hK => ?_) rfl ?_; rotate_left; (simp only [Act.put, List.setIfInBounds_toArray, List.set_cons_zero, List.set_cons_succ] at hK; go_simp; exact hK); simp only [Act.put, List.setIfInBounds_toArray, List.set_cons_zero, List.set_cons_succ])
            refine wpTxt_stay (.agg (tabV .u8 16 (byt kk))) (fun K hK => wp_load_rng1 22 (.tmp 77) rfl g (off + n16) rfl .u8 16 (byt kk) _ HR6.out Tryz.underlying22 size_bk hK) rfl ?_
            simp only [Act.put, List.setIfInBounds_toArray, List.set_cons_zero, List.set_cons_succ]
            refine wpTxt_stay (.agg (tkc t A ss.length cA (IntKind.i64.wrap (s : Int)) (IntKind.i64.wrap (q : Int)) (byt kk))) (fun K hK => wp_build_four1 28 (.tmp 68) (.tmp 70) (.tmp 72) (.tmp 78) rfl (.agg #[.string t, .slice A ss.length cA]) (.int .i64 (IntKind.i64.wrap (s : Int))) (.int .i64 (IntKind.i64.wrap (q : Int))) (.agg (tabV .u8 16 (byt kk))) rfl rfl rfl rfl _ (built_tk4 t A ss.length cA _ _ _) hK) rfl ?_
            simp only [Act.put, List.setIfInBounds_toArray, List.set_cons_zero, List.set_cons_succ]
            refine wpTxt_nil ?_
            rintro W hW
            rw [HW1.out, HW2'.out]
            obtain ⟨T, hT⟩ : ∃ T, T = tkc t A ss.length cA (s : Int) (q : Int) (byt kk) := ⟨_, rfl⟩
            rw [← hT]
            have hT20 : T.size = 20 ∧ T.all (·.oneCell') = true := by rw [hT]; exact ⟨tkc_size _ _ _ _ _ _ _, tkc_one _ _ _ _ _ _ _⟩
            have HT := Lib.hid hT
            have HWW := Lib.hid hW
            clear hT hW a0 a1
            rw [HWW.out]
            go_wp2_with (first
              | (refine wpList_store_tk rfl rfl (.tmp 2) (.tmp 79) rfl w.heap.size T rfl rfl hT20 zc HZC.out.1 HZC.out.2 ?_
                 intro wz hdz hgz
                 have HDZ := Lib.hid hdz
                 have HXZ := Lib.hid (grown_new HX6.out hgz (fun q e => by injection e with e; omega))
                 have HSRZ := Lib.hid (HSR6.out.far hgz HZC.out.1 (fun _ h => absurd h (by decide)))
                 clear hdz hgz))
            refine bodyPost_ret (v := .tuple #[.agg T, .bool true]) (results_tk rfl _ _ w.heap.size T hT20.1 rfl HDZ.out _ rfl) rfl ⟨T, by rw [HPY.out]; rfl, ?_, HXZ.out⟩
            rw [HPY.out]
            exact ⟨t, A, cA, ss, HT.out, HSRZ.out, HCA.out.1, HCA.out.2, HNB.out.1, HNB.out.2⟩
  · have hpd : tkr l = none := by unfold tkr; rw [if_pos (.inr (by rw [hl0]; intro e; injection e with e; exact hb1 e))]
    have t2 : ((b0.toNat : Int) != 1) = true := bne_t (fun e => hb1 (UInt8.toNat_inj.1 (by simp; omega)))
    have hc0 := fun o => hcell (w.alloc o) (Ext.alloc _ _)
    have HPD := Lib.hid hpd
    clear hin hcell hpd hl0 hb0
    go_enter Tryz.func32, Tryz.ntmps32
    go_wp2_with (first
      | (refine wpList_store_tk rfl rfl (.tmp 2) (.tmp 21) rfl w.heap.size tkz rfl rfl ⟨tkc_size _ _ _ _ _ _ _, tkc_one _ _ _ _ _ _ _⟩ _ (new_of w _) rfl ?_
         intro wz hdz hgz
         have HDZ := Lib.hid hdz
         have HXZ := Lib.hid (grown_new (Ext.alloc w _) hgz (fun q e => by injection e with e; omega))
         clear hdz hgz))
    refine bodyPost_ret (v := .tuple #[.agg tkz, .bool false]) (results_tk rfl _ _ w.heap.size tkz (tkc_size _ _ _ _ _ _ _) rfl HDZ.out _ rfl) rfl ⟨tkz, by rw [HPD.out]; rfl, by rw [HPD.out]; exact rfl, HXZ.out⟩
end Go.Proofs.YtagegigffohcbaaGreatDoor

namespace Go.Proofs.YtagegigffohcbaaGreatDoor
open Go.RowKit
set_option linter.unusedVariables false
set_option linter.unusedSimpArgs false

set_option maxRecDepth 100000 in
set_option maxHeartbeats 4000000 in
theorem tseal_c (key nonce tk : Nat → Nat) (hk : Byt key) (hno : Byt8 nonce) (htk : Byt tk) (s : ByteArray) (A : Option Addr) (c : Nat) (ss : List ByteArray) (a e : Nat) (S : Nat → TypeId → Prop) (w : World) (ht : Tab w) (h : SR w S A ss) (hs : s.size ≤ 9223372036854775807) (hz : ∀ t ∈ ss, t.size ≤ 9223372036854775807) (hn : ss.length ≤ 9223372036854775807) (hv : tkv (bl s) (bls ss) a e = true) :
    Calls Tryz.prog 7 #[.agg (tabV .u8 16 key), .agg (tabV .u8 8 nonce), .agg (tkc s A ss.length c a e tk)] w fun x w' => ∃ B d, x = .returned (.tuple #[.slice B (sld (btl 16 key) 2 nonce (tkb (bl s) (bls ss) a e (btl 16 tk))).length d, .bool true]) ∧
      RB w' (fun _ _ => True) B (sld (btl 16 key) 2 nonce (tkb (bl s) (bls ss) a e (btl 16 tk))) ∧ (sld (btl 16 key) 2 nonce (tkb (bl s) (bls ss) a e (btl 16 tk))).length ≤ d ∧ d ≤ 9223372036854775807 ∧ Ext w w' := by
  obtain ⟨n1, n2, n3⟩ := new3 w (.cells (tabV .u8 16 key) 22) (.cells (tabV .u8 8 nonce) 23) (.cells (tkc s A ss.length c a e tk) 28)
  have hx0 := ((Ext.alloc w (.cells (tabV .u8 16 key) 22)).tr (Ext.alloc _ (.cells (tabV .u8 8 nonce) 23))).tr (Ext.alloc _ (.cells (tkc s A ss.length c a e tk) 28))
  have hby := tbytes_c s A c ss a e tk htk S _ (h.ext hx0) hs hz hn hv
  obtain ⟨T, hT⟩ : ∃ T, T = tkc s A ss.length c a e tk := ⟨_, rfl⟩
  rw [← hT] at n1 n2 n3 hx0 hby ⊢
  have hT20 : T.size = 20 := by rw [hT]; exact tkc_size _ _ _ _ _ _ _
  obtain ⟨b, hb⟩ : ∃ b, b = tkb (bl s) (bls ss) a e (btl 16 tk) := ⟨_, rfl⟩
  rw [← hb] at hby ⊢
  have hbl : b.length ≤ 1048576 := by rw [hb, tkb_len, btl_len]; have := nbs_few (tkv_parts hv).1; omega
  have HBL := Lib.hid hbl
  have HBY := Lib.hid hby
  have HX0 := Lib.hid hx0
  have HN1 := Lib.hid (show Arr _ w.heap.size 22 .u8 16 key from n1)
  have HN2 := Lib.hid (show Arr _ (w.heap.size + 1) 23 .u8 8 nonce from n2)
  have HT := Lib.hid ht
  have HK := Lib.hid (And.intro hk hno)
  clear hT hb hbl hby hx0 n1 n2 h hs hz hn hv ht hk hno htk
  go_enter Tryz.func7, Tryz.ntmps7
  go_wp2_with (refine wpList_load_tk rfl (.tmp 5) rfl (w.heap.size + 1 + 1) rfl T hT20 n3 ?_)
  refine HBY.out.mono ?_
  rintro x w1 ⟨B, d, rfl, hr, hl, hm, hx1⟩
  have HX1 := Lib.hid (HX0.out.tr hx1)
  have HN3 := Lib.hid (HN1.out.ext hx1)
  have HN4 := Lib.hid (HN2.out.ext hx1)
  have HR := Lib.hid hr
  have HL := Lib.hid hl
  clear hr hl hm hx1 HX0 HN1 HN2 HBY n3
  go_wp2_with (first
    | refine wpList_load_arr rfl 22 (.tmp 3) rfl w.heap.size rfl 22 .u8 16 key _ HN3.out Tryz.underlying22 size_bk ?_
    | refine wpList_load_arr rfl 23 (.tmp 4) rfl (w.heap.size + 1) rfl 23 .u8 8 nonce _ HN4.out Tryz.underlying23 size_nc ?_)
  refine (seal_c d key nonce HK.out.1 HK.out.2 2 B b _ w1 (HT.out.ext HX1.out) HBL.out HL.out HR.out).mono ?_
  rintro x w2 ⟨B2, d2, rfl, ho, hx2⟩
  have HX2 := Lib.hid (HX1.out.tr hx2)
  have HO := Lib.hid ho
  clear ho hx2
  go_wp2_with fail
  go_ret2
  exact ⟨B2, d2, by rw [sld_len]; rfl, HO.out.rb.more (fun _ _ _ => trivial), HO.out.le.1, HO.out.le.2, HX2.out⟩

set_option maxRecDepth 100000 in
set_option maxHeartbeats 4000000 in
theorem tseal_no (key nonce tk : Nat → Nat) (s : ByteArray) (A : Option Addr) (c : Nat) (ss : List ByteArray) (a e : Int) (S : Nat → TypeId → Prop) (w : World) (h : SR w S A ss) (hs : s.size ≤ 9223372036854775807) (hz : ∀ t ∈ ss, t.size ≤ 9223372036854775807) (hn : ss.length ≤ 9223372036854775807) (hv : tkvI s ss a e = false) :
    Calls Tryz.prog 7 #[.agg (tabV .u8 16 key), .agg (tabV .u8 8 nonce), .agg (tkc s A ss.length c a e tk)] w fun x w' => x = .returned (.tuple #[.slice none 0 0, .bool false]) ∧ Ext w w' := by
  obtain ⟨n1, n2, n3⟩ := new3 w (.cells (tabV .u8 16 key) 22) (.cells (tabV .u8 8 nonce) 23) (.cells (tkc s A ss.length c a e tk) 28)
  have hx0 := ((Ext.alloc w (.cells (tabV .u8 16 key) 22)).tr (Ext.alloc _ (.cells (tabV .u8 8 nonce) 23))).tr (Ext.alloc _ (.cells (tkc s A ss.length c a e tk) 28))
  have hby := tbytes_no s A c ss a e tk S _ (h.ext hx0) hs hz hn hv
  obtain ⟨T, hT⟩ : ∃ T, T = tkc s A ss.length c a e tk := ⟨_, rfl⟩
  rw [← hT] at n1 n2 n3 hx0 hby ⊢
  have hT20 : T.size = 20 := by rw [hT]; exact tkc_size _ _ _ _ _ _ _
  have HBY := Lib.hid hby
  have HX0 := Lib.hid hx0
  clear hT hby hx0 n1 n2 h hs hz hn hv
  go_enter Tryz.func7, Tryz.ntmps7
  go_wp2_with (refine wpList_load_tk rfl (.tmp 5) rfl (w.heap.size + 1 + 1) rfl T hT20 n3 ?_)
  refine HBY.out.mono ?_
  rintro x w1 ⟨rfl, hx1⟩
  go_wp2_with fail
  go_ret2
  exact ⟨rfl, HX0.out.tr hx1⟩

/-- the ticket that is opened, and the code -/
def tko (k s : List UInt8) : Option (List UInt8 × List (List UInt8) × Nat × Nat × List UInt8) := (opn k 2 s).bind tkr
def tkcode (k s : List UInt8) : Nat := match opn k 2 s with | none => 2 | some b => match tkr b with | none => 1 | some _ => 0
theorem opn_len {k s b : List UInt8} {u : UInt8} (h : opn k u s = some b) : b.length ≤ s.length := by
  have h1 := (opn_some h).2
  rw [← h1, sld_len]
  omega
set_option maxRecDepth 100000 in
set_option maxHeartbeats 4000000 in
theorem topen_c (d : Nat) (key : Nat → Nat) (hk : Byt key) (B : Option Addr) (s : List UInt8) (S : Nat → TypeId → Prop) (w : World) (ht : Tab w) (hb : s.length ≤ 1048576) (hd : s.length ≤ d) (hm : d ≤ 9223372036854775807) (hr : RB w S B s) :
    Calls Tryz.prog 9 #[.agg (tabV .u8 16 key), .slice B s.length d] w fun x w' => ∃ T, x = .returned (.tuple #[.agg T, .int .i64 (tkcode (btl 16 key) s : Nat)]) ∧ TkR w' T (tko (btl 16 key) s) ∧ Ext w w' := by
  obtain ⟨k, hke⟩ : ∃ k, k = btl 16 key := ⟨_, rfl⟩
  have HOC := Lib.hid (fun (W : World) (hx : Ext w W) => open_c d key hk 2 B s _ W (ht.ext hx) hb hd hm (hr.ext hx))
  rw [← hke] at HOC ⊢
  clear hke ht hd hm hr hk
  go_enter Tryz.func9, Tryz.ntmps9
  go_wp2_with (refine wpList_load_arr rfl 22 (.tmp 2) rfl w.heap.size rfl 22 .u8 16 key _ (two_new _ _ _).1 Tryz.underlying22 size_bk ?_)
  refine (HOC.out _ ((Ext.alloc _ _).tr (Ext.alloc _ _))).mono ?_
  rintro x w1 ⟨A, c, rfl, hra, hla, hma, hx1⟩
  have HZ1 := Lib.hid (show Zt w1 (w.heap.size + 1) from ⟨_, hx1.get (two_new w _ _).2, rfl⟩)
  have HX1 := Lib.hid (((Ext.alloc w _).tr (Ext.alloc _ _)).tr hx1)
  clear hx1 HOC
  cases ho : opn k 2 s with
  | none =>
    have HC := Lib.hid (show tko k s = none ∧ tkcode k s = 2 by unfold tko tkcode; rw [ho]; exact ⟨rfl, rfl⟩)
    obtain ⟨zc, hz1, hz2⟩ := HZ1.out
    rw [show (none : Option (List UInt8)).isSome = false from rfl]
    clear hra hla hma ho
    go_wp2_with (first
      | (refine wpList_store_tk rfl rfl (.tmp 4) (.tmp 17) rfl (w.heap.size + 1) tkz rfl rfl ⟨tkc_size _ _ _ _ _ _ _, tkc_one _ _ _ _ _ _ _⟩ zc hz1 hz2 ?_
         intro wz hdz hgz
         have HDZ := Lib.hid hdz
         have HXZ := Lib.hid (grown_new HX1.out hgz (fun q e => by injection e with e; omega))
         clear hdz hgz))
    refine bodyPost_ret (v := .tuple #[.agg tkz, .int .i64 2]) (results_tk rfl _ _ (w.heap.size + 1) tkz (tkc_size _ _ _ _ _ _ _) rfl HDZ.out _ rfl) rfl ⟨tkz, by rw [HC.out.2]; rfl, by rw [HC.out.1]; exact rfl, HXZ.out⟩
  | some b =>
    have hoa : oans k 2 s = b := by unfold oans; rw [ho]; rfl
    rw [hoa] at hra hla ⊢
    have hbl := opn_len ho
    have HRA := Lib.hid hra
    have HBL := Lib.hid (show b.length ≤ 140737488355328 by omega)
    rw [show (some b : Option (List UInt8)).isSome = true from rfl]
    have HO := Lib.hid ho
    clear hra hla hma ho hoa hbl
    go_wp2_with fail
    refine (tparse_c A c b _ w1 HRA.out HBL.out).mono ?_
    rintro x w2 ⟨T, rfl, hT, hx2⟩
    rw [tkp_tkr] at hT ⊢
    have hT20 := hT.size
    have HZ2 := Lib.hid (HZ1.out.ext hx2)
    have HX2 := Lib.hid (HX1.out.tr hx2)
    have HTR := Lib.hid hT
    clear hT hx2 HX1 HZ1 HRA
    cases hr : tkr b with
    | none =>
      have HC := Lib.hid (show tko k s = none ∧ tkcode k s = 1 by unfold tko tkcode; rw [HO.out]; exact ⟨hr, by simp only [hr]⟩)
      rw [show (none : Option (List UInt8 × List (List UInt8) × Nat × Nat × List UInt8)).isSome = false from rfl]
      clear hr
      obtain ⟨zc, hz1, hz2⟩ := HZ2.out
      have hlt := lt_of_some hz1
      go_wp2_with (first
        | (refine wpList_store_tk rfl rfl (.tmp 8) (.tmp 21) rfl w2.heap.size T rfl rfl hT20 _ (new_of w2 _) rfl ?_
           intro w3 hd3 hg3
           have HX23 := Lib.hid (grown_new (Ext.alloc w2 _) hg3 (fun q e => by injection e with e; omega))
           have hz3 := HX23.out.get hz1
           have HX3 := Lib.hid (HX2.out.tr HX23.out)
           clear hd3 hg3)
        | (refine wpList_store_tk rfl rfl (.tmp 4) (.tmp 25) rfl (w.heap.size + 1) tkz rfl rfl ⟨tkc_size _ _ _ _ _ _ _, tkc_one _ _ _ _ _ _ _⟩ zc hz3 hz2 ?_
           intro wz hdz hgz
           have HDZ := Lib.hid hdz
           have HXZ := Lib.hid (grown_new HX3.out hgz (fun q e => by injection e with e; omega))
           clear hdz hgz))
      refine bodyPost_ret (v := .tuple #[.agg tkz, .int .i64 1]) (results_tk rfl _ _ (w.heap.size + 1) tkz (tkc_size _ _ _ _ _ _ _) rfl HDZ.out _ rfl) rfl ⟨tkz, by rw [HC.out.2]; rfl, by rw [HC.out.1]; exact rfl, HXZ.out⟩
    | some y =>
      have HC := Lib.hid (show tko k s = tkr b ∧ tkcode k s = 0 by unfold tko tkcode; rw [HO.out]; exact ⟨rfl, by simp only [hr]⟩)
      rw [show (some y).isSome = true from rfl]
      clear hr
      obtain ⟨zc, hz1, hz2⟩ := HZ2.out
      have hlt := lt_of_some hz1
      go_wp2_with (first
        | (refine wpList_store_tk rfl rfl (.tmp 8) (.tmp 21) rfl w2.heap.size T rfl rfl hT20 _ (new_of w2 _) rfl ?_
           intro w3 hd3 hg3
           have HX23 := Lib.hid (grown_new (Ext.alloc w2 _) hg3 (fun q e => by injection e with e; omega))
           have hz3 := HX23.out.get hz1
           have HX3 := Lib.hid (HX2.out.tr HX23.out)
           have HT3 := Lib.hid (HTR.out.ext HX23.out)
           have HD3 := Lib.hid hd3
           clear hd3 hg3)
        | refine wpList_load_tk rfl (.tmp 8) rfl w2.heap.size rfl T hT20.1 HD3.out ?_
        | (refine wpList_store_tk rfl rfl (.tmp 4) (.tmp 26) rfl (w.heap.size + 1) T rfl rfl hT20 zc hz3 hz2 ?_
           intro wz hdz hgz
           have HDZ := Lib.hid hdz
           have HXZ := Lib.hid (grown_new HX3.out hgz (fun q e => by injection e with e; omega))
           have HTZ := Lib.hid (HT3.out.far hgz hz3 (by decide))
           clear hdz hgz))
      refine bodyPost_ret (v := .tuple #[.agg T, .int .i64 0]) (results_tk rfl _ _ (w.heap.size + 1) T hT20.1 rfl HDZ.out _ rfl) rfl ⟨T, by rw [HC.out.2]; rfl, by rw [HC.out.1]; exact HTZ.out, HXZ.out⟩
end Go.Proofs.YtagegigffohcbaaGreatDoor

namespace Go.Proofs.YtagegigffohcbaaGreatDoor
open Go.RowKit
set_option linter.unusedVariables false
set_option linter.unusedSimpArgs false

set_option maxRecDepth 100000 in
set_option maxHeartbeats 4000000 in
theorem rtopen_c (d : Nat) (key : Nat → Nat) (hk : Byt key) (B : Option Addr) (s : List UInt8) (S : Nat → TypeId → Prop) (w : World) (hb : s.length ≤ 1048576) (hd : s.length ≤ d) (hr : RB w S B s) :
    Calls Tryz.prog 14 #[.agg (tabV .u8 16 key), .slice B s.length d] w fun x w' => ∃ T, x = .returned (.tuple #[.agg T, .int .i64 (tkcode (btl 16 key) s : Nat)]) ∧ TkR w' T (tko (btl 16 key) s) ∧ Ext w w' := by
  obtain ⟨k, hke⟩ : ∃ k, k = btl 16 key := ⟨_, rfl⟩
  have HOC := Lib.hid (fun (W : World) (hx : Ext w W) => ropen_cap d key hk 2 B s _ W hb hd (hr.ext hx))
  rw [← hke] at HOC ⊢
  clear hke hd hr hk
  go_enter Tryz.func14, Tryz.ntmps14
  go_wp2_with (refine wpList_load_arr rfl 22 (.tmp 2) rfl w.heap.size rfl 22 .u8 16 key _ (two_new _ _ _).1 Tryz.underlying22 size_bk ?_)
  refine (HOC.out _ ((Ext.alloc _ _).tr (Ext.alloc _ _))).mono ?_
  rintro x w1 ⟨A, c, rfl, hra, hla, hma, hx1⟩
  have HZ1 := Lib.hid (show Zt w1 (w.heap.size + 1) from ⟨_, hx1.get (two_new w _ _).2, rfl⟩)
  have HX1 := Lib.hid (((Ext.alloc w _).tr (Ext.alloc _ _)).tr hx1)
  clear hx1 HOC
  cases ho : opn k 2 s with
  | none =>
    have HC := Lib.hid (show tko k s = none ∧ tkcode k s = 2 by unfold tko tkcode; rw [ho]; exact ⟨rfl, rfl⟩)
    obtain ⟨zc, hz1, hz2⟩ := HZ1.out
    rw [show (none : Option (List UInt8)).isSome = false from rfl]
    clear hra hla hma ho
    go_wp2_with (first
      | (refine wpList_store_tk rfl rfl (.tmp 4) (.tmp 18) rfl (w.heap.size + 1) tkz rfl rfl ⟨tkc_size _ _ _ _ _ _ _, tkc_one _ _ _ _ _ _ _⟩ zc hz1 hz2 ?_
         intro wz hdz hgz
         have HDZ := Lib.hid hdz
         have HXZ := Lib.hid (grown_new HX1.out hgz (fun q e => by injection e with e; omega))
         clear hdz hgz))
    refine bodyPost_ret (v := .tuple #[.agg tkz, .int .i64 2]) (results_tk rfl _ _ (w.heap.size + 1) tkz (tkc_size _ _ _ _ _ _ _) rfl HDZ.out _ rfl) rfl ⟨tkz, by rw [HC.out.2]; rfl, by rw [HC.out.1]; exact rfl, HXZ.out⟩
  | some b =>
    have hoa : oans k 2 s = b := by unfold oans; rw [ho]; rfl
    rw [hoa] at hra hla ⊢
    have hbl := opn_len ho
    have HRA := Lib.hid hra
    have HBL := Lib.hid (show b.length ≤ 140737488355328 by omega)
    have HLA := Lib.hid (And.intro hla hma)
    rw [show (some b : Option (List UInt8)).isSome = true from rfl]
    have HO := Lib.hid ho
    clear hra hla hma ho hoa hbl
    go_wp2_with fail
    refine (rtparse_c A c b _ w1 HRA.out HLA.out.1 HLA.out.2 HBL.out).mono ?_
    rintro x w2 ⟨T, rfl, hT, hx2⟩
    have hT20 := hT.size
    have HZ2 := Lib.hid (HZ1.out.ext hx2)
    have HX2 := Lib.hid (HX1.out.tr hx2)
    have HTR := Lib.hid hT
    clear hT hx2 HX1 HZ1 HRA
    cases hr : tkr b with
    | none =>
      have HC := Lib.hid (show tko k s = none ∧ tkcode k s = 1 by unfold tko tkcode; rw [HO.out]; exact ⟨hr, by simp only [hr]⟩)
      rw [show (none : Option (List UInt8 × List (List UInt8) × Nat × Nat × List UInt8)).isSome = false from rfl]
      clear hr
      obtain ⟨zc, hz1, hz2⟩ := HZ2.out
      have hlt := lt_of_some hz1
      go_wp2_with (first
        | (refine wpList_store_tk rfl rfl (.tmp 8) (.tmp 22) rfl w2.heap.size T rfl rfl hT20 _ (new_of w2 _) rfl ?_
           intro w3 hd3 hg3
           have HX23 := Lib.hid (grown_new (Ext.alloc w2 _) hg3 (fun q e => by injection e with e; omega))
           have hz3 := HX23.out.get hz1
           have HX3 := Lib.hid (HX2.out.tr HX23.out)
           clear hd3 hg3)
        | (refine wpList_store_tk rfl rfl (.tmp 4) (.tmp 26) rfl (w.heap.size + 1) tkz rfl rfl ⟨tkc_size _ _ _ _ _ _ _, tkc_one _ _ _ _ _ _ _⟩ zc hz3 hz2 ?_
           intro wz hdz hgz
           have HDZ := Lib.hid hdz
           have HXZ := Lib.hid (grown_new HX3.out hgz (fun q e => by injection e with e; omega))
           clear hdz hgz))
      refine bodyPost_ret (v := .tuple #[.agg tkz, .int .i64 1]) (results_tk rfl _ _ (w.heap.size + 1) tkz (tkc_size _ _ _ _ _ _ _) rfl HDZ.out _ rfl) rfl ⟨tkz, by rw [HC.out.2]; rfl, by rw [HC.out.1]; exact rfl, HXZ.out⟩
    | some y =>
      have HC := Lib.hid (show tko k s = tkr b ∧ tkcode k s = 0 by unfold tko tkcode; rw [HO.out]; exact ⟨rfl, by simp only [hr]⟩)
      rw [show (some y).isSome = true from rfl]
      clear hr
      obtain ⟨zc, hz1, hz2⟩ := HZ2.out
      have hlt := lt_of_some hz1
      go_wp2_with (first
        | (refine wpList_store_tk rfl rfl (.tmp 8) (.tmp 22) rfl w2.heap.size T rfl rfl hT20 _ (new_of w2 _) rfl ?_
           intro w3 hd3 hg3
           have HX23 := Lib.hid (grown_new (Ext.alloc w2 _) hg3 (fun q e => by injection e with e; omega))
           have hz3 := HX23.out.get hz1
           have HX3 := Lib.hid (HX2.out.tr HX23.out)
           have HT3 := Lib.hid (HTR.out.ext HX23.out)
           have HD3 := Lib.hid hd3
           clear hd3 hg3)
        | refine wpList_load_tk rfl (.tmp 8) rfl w2.heap.size rfl T hT20.1 HD3.out ?_
        | (refine wpList_store_tk rfl rfl (.tmp 4) (.tmp 27) rfl (w.heap.size + 1) T rfl rfl hT20 zc hz3 hz2 ?_
           intro wz hdz hgz
           have HDZ := Lib.hid hdz
           have HXZ := Lib.hid (grown_new HX3.out hgz (fun q e => by injection e with e; omega))
           have HTZ := Lib.hid (HT3.out.far hgz hz3 (by decide))
           clear hdz hgz))
      refine bodyPost_ret (v := .tuple #[.agg T, .int .i64 0]) (results_tk rfl _ _ (w.heap.size + 1) T hT20.1 rfl HDZ.out _ rfl) rfl ⟨T, by rw [HC.out.2]; rfl, by rw [HC.out.1]; exact HTZ.out, HXZ.out⟩
end Go.Proofs.YtagegigffohcbaaGreatDoor

namespace Go.Proofs.YtagegigffohcbaaGreatDoor
open Go.RowKit
set_option linter.unusedVariables false

def tl (l : List Nat) : Bk := fun i => l.getD i 0
def tK1 : List UInt8 := [1, 0, 0, 0, 0, 0, 0, 0, 0, 0, 0, 0, 0, 0, 0, 0]
def tK2 : List UInt8 := [2, 0, 0, 0, 0, 0, 0, 0, 0, 0, 0, 0, 0, 0, 0, 0]
def tN : List UInt8 := [2, 0, 0, 0, 0, 0, 0, 0]
def tB : List UInt8 := [1, 5, 97, 108, 105, 99, 101, 1, 4, 104, 111, 115, 116, 0, 0, 0, 0, 0, 0, 0, 5, 0, 0, 0, 0, 0, 0, 0, 9, 7, 0, 0, 0, 0, 0, 0, 0, 0, 0, 0, 0, 0, 0, 0, 0]
theorem tex54 : xk (byt (kb tK1)) 54 = [55, 54, 54, 54, 54, 54, 54, 54, 54, 54, 54, 54, 54, 54, 54, 54, 54, 54, 54, 54, 54, 54, 54, 54, 54, 54, 54, 54, 54, 54, 54, 54, 54, 54, 54, 54, 54, 54, 54, 54, 54, 54, 54, 54, 54, 54, 54, 54, 54, 54, 54, 54, 54, 54, 54, 54, 54, 54, 54, 54, 54, 54, 54, 54] := by kernel_rfl
theorem tex92 : xk (byt (kb tK1)) 92 = [93, 92, 92, 92, 92, 92, 92, 92, 92, 92, 92, 92, 92, 92, 92, 92, 92, 92, 92, 92, 92, 92, 92, 92, 92, 92, 92, 92, 92, 92, 92, 92, 92, 92, 92, 92, 92, 92, 92, 92, 92, 92, 92, 92, 92, 92, 92, 92, 92, 92, 92, 92, 92, 92, 92, 92, 92, 92, 92, 92, 92, 92, 92, 92] := by kernel_rfl
theorem teih : dg ([55, 54, 54, 54, 54, 54, 54, 54, 54, 54, 54, 54, 54, 54, 54, 54, 54, 54, 54, 54, 54, 54, 54, 54, 54, 54, 54, 54, 54, 54, 54, 54, 54, 54, 54, 54, 54, 54, 54, 54, 54, 54, 54, 54, 54, 54, 54, 54, 54, 54, 54, 54, 54, 54, 54, 54, 54, 54, 54, 54, 54, 54, 54, 54] ++ [1, 101, 110, 99, 114, 121, 112, 116]) = [138, 79, 188, 56, 67, 162, 38, 243, 165, 35, 25, 220, 230, 121, 129, 225, 74, 133, 228, 196, 172, 68, 158, 130, 15, 122, 79, 144, 19, 187, 138, 252] := by kernel_rfl
theorem teoh : dg ([93, 92, 92, 92, 92, 92, 92, 92, 92, 92, 92, 92, 92, 92, 92, 92, 92, 92, 92, 92, 92, 92, 92, 92, 92, 92, 92, 92, 92, 92, 92, 92, 92, 92, 92, 92, 92, 92, 92, 92, 92, 92, 92, 92, 92, 92, 92, 92, 92, 92, 92, 92, 92, 92, 92, 92, 92, 92, 92, 92, 92, 92, 92, 92] ++ [138, 79, 188, 56, 67, 162, 38, 243, 165, 35, 25, 220, 230, 121, 129, 225, 74, 133, 228, 196, 172, 68, 158, 130, 15, 122, 79, 144, 19, 187, 138, 252]) = [75, 102, 228, 188, 106, 243, 224, 237, 217, 58, 225, 254, 183, 44, 121, 222, 234, 101, 97, 199, 56, 227, 24, 190, 216, 202, 37, 76, 44, 247, 63, 32] := by kernel_rfl
def tev : List UInt8 := [75, 102, 228, 188, 106, 243, 224, 237, 217, 58, 225, 254, 183, 44, 121, 222]
theorem te : ekl tK1 = tev := by
  unfold ekl drv
  rw [show (16 + 31) / 32 = 0 + 1 from rfl, dv_succ, show dv (byt (kb tK1)) labE 0 = [] from rfl, List.nil_append]
  unfold cdl cd ihash
  rw [tex54, tex92]
  have e : (UInt8.ofNat (0 + 1) :: labE : List UInt8) = [1, 101, 110, 99, 114, 121, 112, 116] := rfl
  rw [e, teih]
  rw [show btl 32 (sum kc ([93, 92, 92, 92, 92, 92, 92, 92, 92, 92, 92, 92, 92, 92, 92, 92, 92, 92, 92, 92, 92, 92, 92, 92, 92, 92, 92, 92, 92, 92, 92, 92, 92, 92, 92, 92, 92, 92, 92, 92, 92, 92, 92, 92, 92, 92, 92, 92, 92, 92, 92, 92, 92, 92, 92, 92, 92, 92, 92, 92, 92, 92, 92, 92] ++ [138, 79, 188, 56, 67, 162, 38, 243, 165, 35, 25, 220, 230, 121, 129, 225, 74, 133, 228, 196, 172, 68, 158, 130, 15, 122, 79, 144, 19, 187, 138, 252])) = _ from teoh]
  rfl
theorem tmx54 : xk (byt (kb tK1)) 54 = [55, 54, 54, 54, 54, 54, 54, 54, 54, 54, 54, 54, 54, 54, 54, 54, 54, 54, 54, 54, 54, 54, 54, 54, 54, 54, 54, 54, 54, 54, 54, 54, 54, 54, 54, 54, 54, 54, 54, 54, 54, 54, 54, 54, 54, 54, 54, 54, 54, 54, 54, 54, 54, 54, 54, 54, 54, 54, 54, 54, 54, 54, 54, 54] := by kernel_rfl
theorem tmx92 : xk (byt (kb tK1)) 92 = [93, 92, 92, 92, 92, 92, 92, 92, 92, 92, 92, 92, 92, 92, 92, 92, 92, 92, 92, 92, 92, 92, 92, 92, 92, 92, 92, 92, 92, 92, 92, 92, 92, 92, 92, 92, 92, 92, 92, 92, 92, 92, 92, 92, 92, 92, 92, 92, 92, 92, 92, 92, 92, 92, 92, 92, 92, 92, 92, 92, 92, 92, 92, 92] := by kernel_rfl
theorem tmih : dg ([55, 54, 54, 54, 54, 54, 54, 54, 54, 54, 54, 54, 54, 54, 54, 54, 54, 54, 54, 54, 54, 54, 54, 54, 54, 54, 54, 54, 54, 54, 54, 54, 54, 54, 54, 54, 54, 54, 54, 54, 54, 54, 54, 54, 54, 54, 54, 54, 54, 54, 54, 54, 54, 54, 54, 54, 54, 54, 54, 54, 54, 54, 54, 54] ++ [1, 112, 114, 111, 116, 101, 99, 116]) = [76, 80, 127, 206, 17, 120, 101, 50, 199, 99, 153, 54, 87, 57, 4, 151, 251, 130, 206, 10, 41, 205, 112, 41, 85, 192, 159, 222, 255, 221, 186, 222] := by kernel_rfl
theorem tmoh : dg ([93, 92, 92, 92, 92, 92, 92, 92, 92, 92, 92, 92, 92, 92, 92, 92, 92, 92, 92, 92, 92, 92, 92, 92, 92, 92, 92, 92, 92, 92, 92, 92, 92, 92, 92, 92, 92, 92, 92, 92, 92, 92, 92, 92, 92, 92, 92, 92, 92, 92, 92, 92, 92, 92, 92, 92, 92, 92, 92, 92, 92, 92, 92, 92] ++ [76, 80, 127, 206, 17, 120, 101, 50, 199, 99, 153, 54, 87, 57, 4, 151, 251, 130, 206, 10, 41, 205, 112, 41, 85, 192, 159, 222, 255, 221, 186, 222]) = [176, 47, 65, 155, 208, 1, 153, 117, 145, 29, 78, 205, 214, 92, 170, 186, 158, 62, 98, 144, 162, 75, 197, 232, 76, 52, 147, 175, 47, 194, 139, 249] := by kernel_rfl
def tmv : List UInt8 := [176, 47, 65, 155, 208, 1, 153, 117, 145, 29, 78, 205, 214, 92, 170, 186, 158, 62, 98, 144, 162, 75, 197, 232, 76, 52, 147, 175, 47, 194, 139, 249]
theorem tm : mkl tK1 = tmv := by
  unfold mkl drv
  rw [show (32 + 31) / 32 = 0 + 1 from rfl, dv_succ, show dv (byt (kb tK1)) labM 0 = [] from rfl, List.nil_append]
  unfold cdl cd ihash
  rw [tmx54, tmx92]
  have e : (UInt8.ofNat (0 + 1) :: labM : List UInt8) = [1, 112, 114, 111, 116, 101, 99, 116] := rfl
  rw [e, tmih]
  rw [show btl 32 (sum kc ([93, 92, 92, 92, 92, 92, 92, 92, 92, 92, 92, 92, 92, 92, 92, 92, 92, 92, 92, 92, 92, 92, 92, 92, 92, 92, 92, 92, 92, 92, 92, 92, 92, 92, 92, 92, 92, 92, 92, 92, 92, 92, 92, 92, 92, 92, 92, 92, 92, 92, 92, 92, 92, 92, 92, 92, 92, 92, 92, 92, 92, 92, 92, 92] ++ [76, 80, 127, 206, 17, 120, 101, 50, 199, 99, 153, 54, 87, 57, 4, 151, 251, 130, 206, 10, 41, 205, 112, 41, 85, 192, 159, 222, 255, 221, 186, 222])) = _ from tmoh]
  rfl
theorem tqx54 : xk (byt (kb tK2)) 54 = [52, 54, 54, 54, 54, 54, 54, 54, 54, 54, 54, 54, 54, 54, 54, 54, 54, 54, 54, 54, 54, 54, 54, 54, 54, 54, 54, 54, 54, 54, 54, 54, 54, 54, 54, 54, 54, 54, 54, 54, 54, 54, 54, 54, 54, 54, 54, 54, 54, 54, 54, 54, 54, 54, 54, 54, 54, 54, 54, 54, 54, 54, 54, 54] := by kernel_rfl
theorem tqx92 : xk (byt (kb tK2)) 92 = [94, 92, 92, 92, 92, 92, 92, 92, 92, 92, 92, 92, 92, 92, 92, 92, 92, 92, 92, 92, 92, 92, 92, 92, 92, 92, 92, 92, 92, 92, 92, 92, 92, 92, 92, 92, 92, 92, 92, 92, 92, 92, 92, 92, 92, 92, 92, 92, 92, 92, 92, 92, 92, 92, 92, 92, 92, 92, 92, 92, 92, 92, 92, 92] := by kernel_rfl
theorem tqih : dg ([52, 54, 54, 54, 54, 54, 54, 54, 54, 54, 54, 54, 54, 54, 54, 54, 54, 54, 54, 54, 54, 54, 54, 54, 54, 54, 54, 54, 54, 54, 54, 54, 54, 54, 54, 54, 54, 54, 54, 54, 54, 54, 54, 54, 54, 54, 54, 54, 54, 54, 54, 54, 54, 54, 54, 54, 54, 54, 54, 54, 54, 54, 54, 54] ++ [1, 112, 114, 111, 116, 101, 99, 116]) = [166, 119, 140, 143, 53, 146, 242, 8, 3, 239, 19, 159, 155, 97, 154, 217, 34, 33, 113, 8, 186, 200, 191, 16, 122, 71, 212, 137, 160, 206, 217, 254] := by kernel_rfl
theorem tqoh : dg ([94, 92, 92, 92, 92, 92, 92, 92, 92, 92, 92, 92, 92, 92, 92, 92, 92, 92, 92, 92, 92, 92, 92, 92, 92, 92, 92, 92, 92, 92, 92, 92, 92, 92, 92, 92, 92, 92, 92, 92, 92, 92, 92, 92, 92, 92, 92, 92, 92, 92, 92, 92, 92, 92, 92, 92, 92, 92, 92, 92, 92, 92, 92, 92] ++ [166, 119, 140, 143, 53, 146, 242, 8, 3, 239, 19, 159, 155, 97, 154, 217, 34, 33, 113, 8, 186, 200, 191, 16, 122, 71, 212, 137, 160, 206, 217, 254]) = [10, 91, 195, 156, 88, 88, 117, 175, 235, 99, 219, 88, 132, 189, 194, 77, 236, 14, 108, 151, 122, 194, 255, 161, 29, 86, 57, 143, 62, 63, 198, 82] := by kernel_rfl
def tqv : List UInt8 := [10, 91, 195, 156, 88, 88, 117, 175, 235, 99, 219, 88, 132, 189, 194, 77, 236, 14, 108, 151, 122, 194, 255, 161, 29, 86, 57, 143, 62, 63, 198, 82]
theorem tq : mkl tK2 = tqv := by
  unfold mkl drv
  rw [show (32 + 31) / 32 = 0 + 1 from rfl, dv_succ, show dv (byt (kb tK2)) labM 0 = [] from rfl, List.nil_append]
  unfold cdl cd ihash
  rw [tqx54, tqx92]
  have e : (UInt8.ofNat (0 + 1) :: labM : List UInt8) = [1, 112, 114, 111, 116, 101, 99, 116] := rfl
  rw [e, tqih]
  rw [show btl 32 (sum kc ([94, 92, 92, 92, 92, 92, 92, 92, 92, 92, 92, 92, 92, 92, 92, 92, 92, 92, 92, 92, 92, 92, 92, 92, 92, 92, 92, 92, 92, 92, 92, 92, 92, 92, 92, 92, 92, 92, 92, 92, 92, 92, 92, 92, 92, 92, 92, 92, 92, 92, 92, 92, 92, 92, 92, 92, 92, 92, 92, 92, 92, 92, 92, 92] ++ [166, 119, 140, 143, 53, 146, 242, 8, 3, 239, 19, 159, 155, 97, 154, 217, 34, 33, 113, 8, 186, 200, 191, 16, 122, 71, 212, 137, 160, 206, 217, 254])) = _ from tqoh]
  rfl
def tw0 : List Nat := [75, 102, 228, 188, 106, 243, 224, 237, 217, 58, 225, 254, 183, 44, 121, 222]
def tw1 : List Nat := [59, 208, 249, 21, 81, 35, 25, 248, 136, 25, 248, 6, 63, 53, 129, 216]
def tw2 : List Nat := [175, 220, 152, 96, 254, 255, 129, 152, 118, 230, 121, 158, 73, 211, 248, 70]
def tw3 : List Nat := [205, 157, 194, 91, 51, 98, 67, 195, 69, 132, 58, 93, 12, 87, 194, 27]
def tw4 : List Nat := [158, 184, 109, 165, 173, 218, 46, 102, 232, 94, 20, 59, 228, 9, 214, 32]
def tw5 : List Nat := [143, 78, 218, 204, 34, 148, 244, 170, 202, 202, 224, 145, 46, 195, 54, 177]
def tw6 : List Nat := [129, 75, 18, 253, 163, 223, 230, 87, 105, 21, 6, 198, 71, 214, 48, 119]
def tw7 : List Nat := [55, 79, 231, 93, 148, 144, 1, 10, 253, 133, 7, 204, 186, 83, 55, 187]
def tw8 : List Nat := [90, 213, 13, 169, 206, 69, 12, 163, 51, 192, 11, 111, 137, 147, 60, 212]
def tw9 : List Nat := [157, 62, 69, 14, 83, 123, 73, 173, 96, 187, 66, 194, 233, 40, 126, 22]
def tw10 : List Nat := [159, 205, 2, 16, 204, 182, 75, 189, 172, 13, 9, 127, 69, 37, 119, 105]
theorem twx0 : ∀ i < 16, nx (tl tw0) (gp 2 0) i = tl tw1 i := by decide +kernel
theorem twx1 : ∀ i < 16, nx (tl tw1) (gp 2 1) i = tl tw2 i := by decide +kernel
theorem twx2 : ∀ i < 16, nx (tl tw2) (gp 2 2) i = tl tw3 i := by decide +kernel
theorem twx3 : ∀ i < 16, nx (tl tw3) (gp 2 3) i = tl tw4 i := by decide +kernel
theorem twx4 : ∀ i < 16, nx (tl tw4) (gp 2 4) i = tl tw5 i := by decide +kernel
theorem twx5 : ∀ i < 16, nx (tl tw5) (gp 2 5) i = tl tw6 i := by decide +kernel
theorem twx6 : ∀ i < 16, nx (tl tw6) (gp 2 6) i = tl tw7 i := by decide +kernel
theorem twx7 : ∀ i < 16, nx (tl tw7) (gp 2 7) i = tl tw8 i := by decide +kernel
theorem twx8 : ∀ i < 16, nx (tl tw8) (gp 2 8) i = tl tw9 i := by decide +kernel
theorem twx9 : ∀ i < 16, nx (tl tw9) (gp 2 9) i = tl tw10 i := by decide +kernel
theorem twy0 : Same (kys (byt tev) 0) (tl tw0) := by unfold Same; decide
theorem twy1 : Same (kys (byt tev) 1) (tl tw1) := (nx_same twy0 _).trans twx0
theorem twy2 : Same (kys (byt tev) 2) (tl tw2) := (nx_same twy1 _).trans twx1
theorem twy3 : Same (kys (byt tev) 3) (tl tw3) := (nx_same twy2 _).trans twx2
theorem twy4 : Same (kys (byt tev) 4) (tl tw4) := (nx_same twy3 _).trans twx3
theorem twy5 : Same (kys (byt tev) 5) (tl tw5) := (nx_same twy4 _).trans twx4
theorem twy6 : Same (kys (byt tev) 6) (tl tw6) := (nx_same twy5 _).trans twx5
theorem twy7 : Same (kys (byt tev) 7) (tl tw7) := (nx_same twy6 _).trans twx6
theorem twy8 : Same (kys (byt tev) 8) (tl tw8) := (nx_same twy7 _).trans twx7
theorem twy9 : Same (kys (byt tev) 9) (tl tw9) := (nx_same twy8 _).trans twx8
theorem twy10 : Same (kys (byt tev) 10) (tl tw10) := (nx_same twy9 _).trans twx9
def ts0_0 : List Nat := [73, 102, 228, 188, 106, 243, 224, 237, 217, 58, 225, 254, 183, 44, 121, 222]
def ts0_1 : List Nat := [191, 255, 3, 151, 29, 158, 67, 2, 77, 32, 145, 235, 121, 121, 20, 135]
def ts0_2 : List Nat := [52, 77, 187, 220, 29, 179, 254, 41, 102, 136, 67, 131, 247, 142, 76, 66]
def ts0_3 : List Nat := [124, 93, 247, 92, 152, 168, 224, 206, 71, 5, 43, 170, 181, 216, 11, 56]
def ts0_4 : List Nat := [21, 56, 79, 168, 253, 125, 139, 120, 243, 15, 131, 196, 204, 208, 121, 170]
def ts0_5 : List Nat := [103, 113, 80, 119, 100, 47, 252, 9, 120, 12, 81, 17, 144, 221, 36, 110]
def ts0_6 : List Nat := [225, 19, 129, 136, 255, 212, 51, 171, 0, 196, 222, 137, 75, 162, 21, 219]
def ts0_7 : List Nat := [160, 185, 189, 114, 1, 145, 238, 230, 27, 228, 224, 155, 36, 227, 150, 158]
def ts0_8 : List Nat := [243, 31, 168, 228, 93, 0, 226, 94, 177, 77, 200, 233, 35, 101, 48, 216]
def ts0_9 : List Nat := [171, 183, 67, 80, 152, 143, 85, 76, 166, 236, 176, 190, 120, 56, 145, 24]
def ts0_10 : List Nat := [253, 190, 229, 189, 138, 120, 202, 238, 136, 10, 19, 86, 249, 140, 139, 199]
theorem tsx0_0 : ∀ i < 16, rnd (tl ts0_0) (tl tw1) false i = tl ts0_1 i := by decide +kernel
theorem tsx0_1 : ∀ i < 16, rnd (tl ts0_1) (tl tw2) false i = tl ts0_2 i := by decide +kernel
theorem tsx0_2 : ∀ i < 16, rnd (tl ts0_2) (tl tw3) false i = tl ts0_3 i := by decide +kernel
theorem tsx0_3 : ∀ i < 16, rnd (tl ts0_3) (tl tw4) false i = tl ts0_4 i := by decide +kernel
theorem tsx0_4 : ∀ i < 16, rnd (tl ts0_4) (tl tw5) false i = tl ts0_5 i := by decide +kernel
theorem tsx0_5 : ∀ i < 16, rnd (tl ts0_5) (tl tw6) false i = tl ts0_6 i := by decide +kernel
theorem tsx0_6 : ∀ i < 16, rnd (tl ts0_6) (tl tw7) false i = tl ts0_7 i := by decide +kernel
theorem tsx0_7 : ∀ i < 16, rnd (tl ts0_7) (tl tw8) false i = tl ts0_8 i := by decide +kernel
theorem tsx0_8 : ∀ i < 16, rnd (tl ts0_8) (tl tw9) false i = tl ts0_9 i := by decide +kernel
theorem tsx0_9 : ∀ i < 16, rnd (tl ts0_9) (tl tw10) true i = tl ts0_10 i := by decide +kernel
theorem tse0_0 : Same (est (byt tev) (cin (byt tN) 0) 0) (tl ts0_0) := by unfold Same; decide
theorem tse0_1 : Same (est (byt tev) (cin (byt tN) 0) 1) (tl ts0_1) := (rnd_same _ tse0_0 twy1).trans tsx0_0
theorem tse0_2 : Same (est (byt tev) (cin (byt tN) 0) 2) (tl ts0_2) := (rnd_same _ tse0_1 twy2).trans tsx0_1
theorem tse0_3 : Same (est (byt tev) (cin (byt tN) 0) 3) (tl ts0_3) := (rnd_same _ tse0_2 twy3).trans tsx0_2
theorem tse0_4 : Same (est (byt tev) (cin (byt tN) 0) 4) (tl ts0_4) := (rnd_same _ tse0_3 twy4).trans tsx0_3
theorem tse0_5 : Same (est (byt tev) (cin (byt tN) 0) 5) (tl ts0_5) := (rnd_same _ tse0_4 twy5).trans tsx0_4
theorem tse0_6 : Same (est (byt tev) (cin (byt tN) 0) 6) (tl ts0_6) := (rnd_same _ tse0_5 twy6).trans tsx0_5
theorem tse0_7 : Same (est (byt tev) (cin (byt tN) 0) 7) (tl ts0_7) := (rnd_same _ tse0_6 twy7).trans tsx0_6
theorem tse0_8 : Same (est (byt tev) (cin (byt tN) 0) 8) (tl ts0_8) := (rnd_same _ tse0_7 twy8).trans tsx0_7
theorem tse0_9 : Same (est (byt tev) (cin (byt tN) 0) 9) (tl ts0_9) := (rnd_same _ tse0_8 twy9).trans tsx0_8
theorem tse0_10 : Same (est (byt tev) (cin (byt tN) 0) 10) (tl ts0_10) := (rnd_same _ tse0_9 twy10).trans tsx0_9
def ts1_0 : List Nat := [73, 102, 228, 188, 106, 243, 224, 237, 217, 58, 225, 254, 183, 44, 121, 223]
def ts1_1 : List Nat := [60, 124, 157, 138, 29, 158, 67, 2, 77, 32, 145, 235, 121, 121, 20, 135]
def ts1_2 : List Nat := [233, 174, 88, 226, 235, 69, 255, 222, 67, 231, 9, 166, 253, 130, 74, 68]
def ts1_3 : List Nat := [89, 71, 157, 32, 19, 65, 58, 138, 51, 27, 192, 48, 161, 206, 50, 93]
def ts1_4 : List Nat := [123, 247, 158, 66, 41, 48, 120, 24, 211, 12, 98, 76, 255, 255, 83, 94]
def ts1_5 : List Nat := [51, 218, 88, 177, 171, 214, 26, 21, 154, 48, 106, 103, 47, 243, 80, 13]
def ts1_6 : List Nat := [200, 174, 65, 226, 240, 136, 101, 45, 38, 80, 140, 192, 179, 21, 185, 172]
def ts1_7 : List Nat := [94, 9, 171, 231, 172, 216, 193, 171, 184, 134, 199, 191, 160, 128, 241, 202]
def ts1_8 : List Nat := [251, 106, 63, 14, 14, 48, 39, 221, 167, 233, 200, 176, 33, 241, 53, 134]
def ts1_9 : List Nat := [35, 94, 73, 123, 1, 230, 45, 142, 148, 224, 13, 107, 37, 121, 48, 17]
def ts1_10 : List Nat := [185, 67, 213, 146, 176, 87, 79, 156, 142, 187, 50, 102, 122, 125, 175, 22]
theorem tsx1_0 : ∀ i < 16, rnd (tl ts1_0) (tl tw1) false i = tl ts1_1 i := by decide +kernel
theorem tsx1_1 : ∀ i < 16, rnd (tl ts1_1) (tl tw2) false i = tl ts1_2 i := by decide +kernel
theorem tsx1_2 : ∀ i < 16, rnd (tl ts1_2) (tl tw3) false i = tl ts1_3 i := by decide +kernel
theorem tsx1_3 : ∀ i < 16, rnd (tl ts1_3) (tl tw4) false i = tl ts1_4 i := by decide +kernel
theorem tsx1_4 : ∀ i < 16, rnd (tl ts1_4) (tl tw5) false i = tl ts1_5 i := by decide +kernel
theorem tsx1_5 : ∀ i < 16, rnd (tl ts1_5) (tl tw6) false i = tl ts1_6 i := by decide +kernel
theorem tsx1_6 : ∀ i < 16, rnd (tl ts1_6) (tl tw7) false i = tl ts1_7 i := by decide +kernel
theorem tsx1_7 : ∀ i < 16, rnd (tl ts1_7) (tl tw8) false i = tl ts1_8 i := by decide +kernel
theorem tsx1_8 : ∀ i < 16, rnd (tl ts1_8) (tl tw9) false i = tl ts1_9 i := by decide +kernel
theorem tsx1_9 : ∀ i < 16, rnd (tl ts1_9) (tl tw10) true i = tl ts1_10 i := by decide +kernel
theorem tse1_0 : Same (est (byt tev) (cin (byt tN) 1) 0) (tl ts1_0) := by unfold Same; decide
theorem tse1_1 : Same (est (byt tev) (cin (byt tN) 1) 1) (tl ts1_1) := (rnd_same _ tse1_0 twy1).trans tsx1_0
theorem tse1_2 : Same (est (byt tev) (cin (byt tN) 1) 2) (tl ts1_2) := (rnd_same _ tse1_1 twy2).trans tsx1_1
theorem tse1_3 : Same (est (byt tev) (cin (byt tN) 1) 3) (tl ts1_3) := (rnd_same _ tse1_2 twy3).trans tsx1_2
theorem tse1_4 : Same (est (byt tev) (cin (byt tN) 1) 4) (tl ts1_4) := (rnd_same _ tse1_3 twy4).trans tsx1_3
theorem tse1_5 : Same (est (byt tev) (cin (byt tN) 1) 5) (tl ts1_5) := (rnd_same _ tse1_4 twy5).trans tsx1_4
theorem tse1_6 : Same (est (byt tev) (cin (byt tN) 1) 6) (tl ts1_6) := (rnd_same _ tse1_5 twy6).trans tsx1_5
theorem tse1_7 : Same (est (byt tev) (cin (byt tN) 1) 7) (tl ts1_7) := (rnd_same _ tse1_6 twy7).trans tsx1_6
theorem tse1_8 : Same (est (byt tev) (cin (byt tN) 1) 8) (tl ts1_8) := (rnd_same _ tse1_7 twy8).trans tsx1_7
theorem tse1_9 : Same (est (byt tev) (cin (byt tN) 1) 9) (tl ts1_9) := (rnd_same _ tse1_8 twy9).trans tsx1_8
theorem tse1_10 : Same (est (byt tev) (cin (byt tN) 1) 10) (tl ts1_10) := (rnd_same _ tse1_9 twy10).trans tsx1_9
def ts2_0 : List Nat := [73, 102, 228, 188, 106, 243, 224, 237, 217, 58, 225, 254, 183, 44, 121, 220]
def ts2_1 : List Nat := [36, 100, 181, 186, 29, 158, 67, 2, 77, 32, 145, 235, 121, 121, 20, 135]
def ts2_2 : List Nat := [72, 115, 133, 158, 97, 207, 122, 209, 200, 97, 4, 45, 8, 36, 25, 23]
def ts2_3 : List Nat := [238, 61, 238, 46, 3, 36, 237, 196, 125, 156, 147, 163, 228, 207, 161, 181]
def ts2_4 : List Nat := [157, 86, 180, 134, 33, 97, 188, 101, 188, 202, 21, 187, 0, 219, 44, 253]
def ts2_5 : List Nat := [20, 106, 37, 48, 106, 86, 83, 59, 16, 7, 234, 144, 175, 156, 11, 15]
def ts2_6 : List Nat := [87, 44, 214, 50, 220, 53, 123, 183, 66, 219, 81, 189, 62, 231, 42, 211]
def ts2_7 : List Nat := [151, 45, 57, 59, 149, 104, 138, 129, 93, 50, 168, 147, 13, 26, 56, 210]
def ts2_8 : List Nat := [233, 63, 155, 220, 26, 194, 54, 38, 72, 233, 213, 19, 237, 177, 176, 179]
def ts2_9 : List Nat := [160, 2, 207, 208, 79, 81, 177, 190, 100, 169, 242, 29, 164, 229, 211, 99]
def ts2_10 : List Nat := [127, 28, 139, 235, 72, 101, 45, 205, 239, 212, 131, 209, 12, 82, 191, 205]
theorem tsx2_0 : ∀ i < 16, rnd (tl ts2_0) (tl tw1) false i = tl ts2_1 i := by decide +kernel
theorem tsx2_1 : ∀ i < 16, rnd (tl ts2_1) (tl tw2) false i = tl ts2_2 i := by decide +kernel
theorem tsx2_2 : ∀ i < 16, rnd (tl ts2_2) (tl tw3) false i = tl ts2_3 i := by decide +kernel
theorem tsx2_3 : ∀ i < 16, rnd (tl ts2_3) (tl tw4) false i = tl ts2_4 i := by decide +kernel
theorem tsx2_4 : ∀ i < 16, rnd (tl ts2_4) (tl tw5) false i = tl ts2_5 i := by decide +kernel
theorem tsx2_5 : ∀ i < 16, rnd (tl ts2_5) (tl tw6) false i = tl ts2_6 i := by decide +kernel
theorem tsx2_6 : ∀ i < 16, rnd (tl ts2_6) (tl tw7) false i = tl ts2_7 i := by decide +kernel
theorem tsx2_7 : ∀ i < 16, rnd (tl ts2_7) (tl tw8) false i = tl ts2_8 i := by decide +kernel
theorem tsx2_8 : ∀ i < 16, rnd (tl ts2_8) (tl tw9) false i = tl ts2_9 i := by decide +kernel
theorem tsx2_9 : ∀ i < 16, rnd (tl ts2_9) (tl tw10) true i = tl ts2_10 i := by decide +kernel
theorem tse2_0 : Same (est (byt tev) (cin (byt tN) 2) 0) (tl ts2_0) := by unfold Same; decide
theorem tse2_1 : Same (est (byt tev) (cin (byt tN) 2) 1) (tl ts2_1) := (rnd_same _ tse2_0 twy1).trans tsx2_0
theorem tse2_2 : Same (est (byt tev) (cin (byt tN) 2) 2) (tl ts2_2) := (rnd_same _ tse2_1 twy2).trans tsx2_1
theorem tse2_3 : Same (est (byt tev) (cin (byt tN) 2) 3) (tl ts2_3) := (rnd_same _ tse2_2 twy3).trans tsx2_2
theorem tse2_4 : Same (est (byt tev) (cin (byt tN) 2) 4) (tl ts2_4) := (rnd_same _ tse2_3 twy4).trans tsx2_3
theorem tse2_5 : Same (est (byt tev) (cin (byt tN) 2) 5) (tl ts2_5) := (rnd_same _ tse2_4 twy5).trans tsx2_4
theorem tse2_6 : Same (est (byt tev) (cin (byt tN) 2) 6) (tl ts2_6) := (rnd_same _ tse2_5 twy6).trans tsx2_5
theorem tse2_7 : Same (est (byt tev) (cin (byt tN) 2) 7) (tl ts2_7) := (rnd_same _ tse2_6 twy7).trans tsx2_6
theorem tse2_8 : Same (est (byt tev) (cin (byt tN) 2) 8) (tl ts2_8) := (rnd_same _ tse2_7 twy8).trans tsx2_7
theorem tse2_9 : Same (est (byt tev) (cin (byt tN) 2) 9) (tl ts2_9) := (rnd_same _ tse2_8 twy9).trans tsx2_8
theorem tse2_10 : Same (est (byt tev) (cin (byt tN) 2) 10) (tl ts2_10) := (rnd_same _ tse2_9 twy10).trans tsx2_9
def tS : List UInt8 := [253, 190, 229, 189, 138, 120, 202, 238, 136, 10, 19, 86, 249, 140, 139, 199, 185, 67, 213, 146, 176, 87, 79, 156, 142, 187, 50, 102, 122, 125, 175, 22, 127, 28, 139, 235, 72, 101, 45, 205, 239, 212, 131, 209, 12]
theorem tcut (b : Nat) (f : Bk) (h : Same (cblk (byt tev) (byt tN) b) f) (l : List UInt8) (m : Nat) (hm : m ≤ 16) (hl : l = (List.range m).map fun j => UInt8.ofNat (f j)) : strm (byt tev) (byt tN) (16 * b) m = l := by
  rw [hl]
  unfold strm
  refine List.map_congr_left fun j hj => ?_
  have hj := List.mem_range.1 hj
  unfold strb
  rw [show (16 * b + j) / 16 = b by omega, show (16 * b + j) % 16 = j by omega, h j (by omega)]
theorem tst : strm (byt tev) (byt tN) 0 45 = tS := by
  rw [show 45 = 16 + (16 + 13) from rfl, strm_add, strm_add]
  have h0 := tcut 0 _ tse0_10 [253, 190, 229, 189, 138, 120, 202, 238, 136, 10, 19, 86, 249, 140, 139, 199] 16 (by decide) (by decide)
  have h1 := tcut 1 _ tse1_10 [185, 67, 213, 146, 176, 87, 79, 156, 142, 187, 50, 102, 122, 125, 175, 22] 16 (by decide) (by decide)
  have h2 := tcut 2 _ tse2_10 [127, 28, 139, 235, 72, 101, 45, 205, 239, 212, 131, 209, 12] 13 (by decide) (by decide)
  rw [show 16 * 0 = 0 from rfl] at h0
  rw [show 16 * 1 = 0 + 16 from rfl] at h1
  rw [show 16 * 2 = 0 + 16 + 16 from rfl] at h2
  rw [h0, h1, h2]
  rfl
def tF : List UInt8 := [2, 0, 0, 0, 0, 0, 0, 0, 252, 187, 132, 209, 227, 27, 175, 239, 140, 98, 124, 37, 141, 140, 139, 199, 185, 67, 213, 146, 181, 87, 79, 156, 142, 187, 50, 102, 115, 122, 175, 22, 127, 28, 139, 235, 72, 101, 45, 205, 239, 212, 131, 209, 12]
theorem tfrt : frt tK1 (byt tN) tB = tF := by
  unfold frt ecr
  rw [te, show tB.length = 45 from rfl, tst]
  rfl
theorem ta54 : xk (byt (kb tmv)) 54 = [134, 25, 119, 173, 230, 55, 175, 67, 167, 43, 120, 251, 224, 106, 156, 140, 168, 8, 84, 166, 148, 125, 243, 222, 122, 2, 165, 153, 25, 244, 189, 207, 54, 54, 54, 54, 54, 54, 54, 54, 54, 54, 54, 54, 54, 54, 54, 54, 54, 54, 54, 54, 54, 54, 54, 54, 54, 54, 54, 54, 54, 54, 54, 54] := by kernel_rfl
theorem ta92 : xk (byt (kb tmv)) 92 = [236, 115, 29, 199, 140, 93, 197, 41, 205, 65, 18, 145, 138, 0, 246, 230, 194, 98, 62, 204, 254, 23, 153, 180, 16, 104, 207, 243, 115, 158, 215, 165, 92, 92, 92, 92, 92, 92, 92, 92, 92, 92, 92, 92, 92, 92, 92, 92, 92, 92, 92, 92, 92, 92, 92, 92, 92, 92, 92, 92, 92, 92, 92, 92] := by kernel_rfl
theorem tai : dg ([134, 25, 119, 173, 230, 55, 175, 67, 167, 43, 120, 251, 224, 106, 156, 140, 168, 8, 84, 166, 148, 125, 243, 222, 122, 2, 165, 153, 25, 244, 189, 207, 54, 54, 54, 54, 54, 54, 54, 54, 54, 54, 54, 54, 54, 54, 54, 54, 54, 54, 54, 54, 54, 54, 54, 54, 54, 54, 54, 54, 54, 54, 54, 54] ++ [2, 2, 0, 0, 0, 0, 0, 0, 0, 252, 187, 132, 209, 227, 27, 175, 239, 140, 98, 124, 37, 141, 140, 139, 199, 185, 67, 213, 146, 181, 87, 79, 156, 142, 187, 50, 102, 115, 122, 175, 22, 127, 28, 139, 235, 72, 101, 45, 205, 239, 212, 131, 209, 12]) = [215, 208, 4, 149, 145, 235, 15, 190, 94, 44, 207, 123, 140, 78, 26, 165, 30, 189, 11, 30, 203, 26, 245, 219, 78, 229, 124, 203, 222, 216, 63, 115] := by kernel_rfl
theorem tac : sum kc ([236, 115, 29, 199, 140, 93, 197, 41, 205, 65, 18, 145, 138, 0, 246, 230, 194, 98, 62, 204, 254, 23, 153, 180, 16, 104, 207, 243, 115, 158, 215, 165, 92, 92, 92, 92, 92, 92, 92, 92, 92, 92, 92, 92, 92, 92, 92, 92, 92, 92, 92, 92, 92, 92, 92, 92, 92, 92, 92, 92, 92, 92, 92, 92] ++ [215, 208, 4, 149, 145, 235, 15, 190, 94, 44, 207, 123, 140, 78, 26, 165, 30, 189, 11, 30, 203, 26, 245, 219, 78, 229, 124, 203, 222, 216, 63, 115]) 0 = 63 := by kernel_rfl
theorem ta : hm (mkl tK1) (2 :: tF) 0 = 63 := by
  rw [tm]
  unfold hm cd ihash
  rw [ta54, ta92]
  have e : (2 :: tF : List UInt8) = [2, 2, 0, 0, 0, 0, 0, 0, 0, 252, 187, 132, 209, 227, 27, 175, 239, 140, 98, 124, 37, 141, 140, 139, 199, 185, 67, 213, 146, 181, 87, 79, 156, 142, 187, 50, 102, 115, 122, 175, 22, 127, 28, 139, 235, 72, 101, 45, 205, 239, 212, 131, 209, 12] := rfl
  rw [e, tai]
  exact tac
theorem tb54 : xk (byt (kb tqv)) 54 = [60, 109, 245, 170, 110, 110, 67, 153, 221, 85, 237, 110, 178, 139, 244, 123, 218, 56, 90, 161, 76, 244, 201, 151, 43, 96, 15, 185, 8, 9, 240, 100, 54, 54, 54, 54, 54, 54, 54, 54, 54, 54, 54, 54, 54, 54, 54, 54, 54, 54, 54, 54, 54, 54, 54, 54, 54, 54, 54, 54, 54, 54, 54, 54] := by kernel_rfl
theorem tb92 : xk (byt (kb tqv)) 92 = [86, 7, 159, 192, 4, 4, 41, 243, 183, 63, 135, 4, 216, 225, 158, 17, 176, 82, 48, 203, 38, 158, 163, 253, 65, 10, 101, 211, 98, 99, 154, 14, 92, 92, 92, 92, 92, 92, 92, 92, 92, 92, 92, 92, 92, 92, 92, 92, 92, 92, 92, 92, 92, 92, 92, 92, 92, 92, 92, 92, 92, 92, 92, 92] := by kernel_rfl
theorem tbi : dg ([60, 109, 245, 170, 110, 110, 67, 153, 221, 85, 237, 110, 178, 139, 244, 123, 218, 56, 90, 161, 76, 244, 201, 151, 43, 96, 15, 185, 8, 9, 240, 100, 54, 54, 54, 54, 54, 54, 54, 54, 54, 54, 54, 54, 54, 54, 54, 54, 54, 54, 54, 54, 54, 54, 54, 54, 54, 54, 54, 54, 54, 54, 54, 54] ++ [2, 2, 0, 0, 0, 0, 0, 0, 0, 252, 187, 132, 209, 227, 27, 175, 239, 140, 98, 124, 37, 141, 140, 139, 199, 185, 67, 213, 146, 181, 87, 79, 156, 142, 187, 50, 102, 115, 122, 175, 22, 127, 28, 139, 235, 72, 101, 45, 205, 239, 212, 131, 209, 12]) = [29, 176, 34, 208, 102, 204, 35, 103, 23, 159, 253, 207, 89, 97, 55, 135, 49, 252, 53, 164, 154, 58, 138, 118, 172, 121, 55, 84, 75, 73, 248, 37] := by kernel_rfl
theorem tbc : sum kc ([86, 7, 159, 192, 4, 4, 41, 243, 183, 63, 135, 4, 216, 225, 158, 17, 176, 82, 48, 203, 38, 158, 163, 253, 65, 10, 101, 211, 98, 99, 154, 14, 92, 92, 92, 92, 92, 92, 92, 92, 92, 92, 92, 92, 92, 92, 92, 92, 92, 92, 92, 92, 92, 92, 92, 92, 92, 92, 92, 92, 92, 92, 92, 92] ++ [29, 176, 34, 208, 102, 204, 35, 103, 23, 159, 253, 207, 89, 97, 55, 135, 49, 252, 53, 164, 154, 58, 138, 118, 172, 121, 55, 84, 75, 73, 248, 37]) 0 = 44 := by kernel_rfl
theorem tb : hm (mkl tK2) (2 :: tF) 0 = 44 := by
  rw [tq]
  unfold hm cd ihash
  rw [tb54, tb92]
  have e : (2 :: tF : List UInt8) = [2, 2, 0, 0, 0, 0, 0, 0, 0, 252, 187, 132, 209, 227, 27, 175, 239, 140, 98, 124, 37, 141, 140, 139, 199, 185, 67, 213, 146, 181, 87, 79, 156, 142, 187, 50, 102, 115, 122, 175, 22, 127, 28, 139, 235, 72, 101, 45, 205, 239, 212, 131, 209, 12] := rfl
  rw [e, tbi]
  exact tbc
theorem topn2 : opn tK2 2 (sld tK1 2 (byt tN) tB) = none := by
  apply opn_no
  rw [sld_hd, sld_tl, tfrt]
  intro h
  have h0 := btl_eq (fun i _ => hm_lt _ _ _) (fun i _ => hm_lt _ _ _) h 0 (by decide)
  rw [ta, tb] at h0
  exact absurd h0 (by decide)
theorem topn1 : opn tK1 2 (sld tK1 2 (byt tN) tB) = some tB := opn_sld (fun i _ => byt_lt _ _) _ _ _
theorem tK1_btl : btl 16 (byt tK1) = tK1 := btl_all tK1
theorem tK2_btl : btl 16 (byt tK2) = tK2 := btl_all tK2
end Go.Proofs.YtagegigffohcbaaGreatDoor

namespace Go.Proofs.YtagegigffohcbaaGreatDoor
open Go.RowKit
set_option linter.unusedVariables false
set_option linter.unusedSimpArgs false

def nAl : ByteArray := ⟨#[97, 108, 105, 99, 101]⟩
def nHo : ByteArray := ⟨#[104, 111, 115, 116]⟩
def nRow : Array Value := #[.string nHo, .string ⟨#[97, 47, 98]⟩, .string ⟨#[120]⟩, .string ⟨#[64]⟩, .string nAl, .string ⟨#[102, 116, 112]⟩, .string ⟨#[92]⟩, .string ⟨#[119, 119, 119, 46, 101, 120, 97, 109, 112, 108, 101]⟩]
set_option maxRecDepth 100000 in
set_option maxHeartbeats 4000000 in
theorem rmake4_c (w : World) : Calls Tryz.prog 15 #[.int .i64 4] w fun x w' => ∃ A c, x = .returned (.agg #[.string nAl, .slice A 1 c]) ∧ SR w' (fun _ t => t = 9) A [nHo] ∧ 1 ≤ c ∧ c ≤ maxLen ∧ Ext w w' := by
  obtain ⟨i0, hi0, hz0, hz1, hz2⟩ := info_parts' info_str
  go_enter Tryz.func15, Tryz.ntmps15
  go_wp2_with fail
  change Code.wp _ _ _ _ (((w.alloc (.cells #[.string ⟨#[]⟩, .slice none 0 0] 26)).alloc (.cells nRow 9)).alloc (.cells #[.string nAl, .slice none 0 0] 26))
  obtain ⟨n1, n2, n3⟩ := new3 w (.cells #[.string ⟨#[]⟩, .slice none 0 0] 26) (.cells nRow 9) (.cells #[.string nAl, .slice none 0 0] 26)
  have hx0 := ((Ext.alloc w (.cells #[.string ⟨#[]⟩, .slice none 0 0] 26)).tr (Ext.alloc _ (.cells nRow 9))).tr (Ext.alloc _ (.cells #[.string nAl, .slice none 0 0] 26))
  obtain ⟨W0, hW0⟩ : ∃ W0, W0 = ((w.alloc (.cells #[.string ⟨#[]⟩, .slice none 0 0] 26)).alloc (.cells nRow 9)).alloc (.cells #[.string nAl, .slice none 0 0] 26) := ⟨_, rfl⟩
  rw [← hW0] at n1 n2 n3 hx0 ⊢
  have N1 := Lib.hid n1
  have N2 := Lib.hid n2
  have N3 := Lib.hid n3
  have X0 := Lib.hid hx0
  obtain ⟨ga, hga⟩ : ∃ g, g = w.heap.size := ⟨_, rfl⟩
  obtain ⟨gb, hgb⟩ : ∃ g, g = w.heap.size + 1 := ⟨_, rfl⟩
  obtain ⟨gc, hgc⟩ : ∃ g, g = w.heap.size + 1 + 1 := ⟨_, rfl⟩
  rw [← hgc, ← hgb, ← hga] 
  rw [← hga] at N1
  rw [← hgb] at N2
  rw [← hgc] at N3
  have HGG := Lib.hid (show w.heap.size = ga ∧ gb = ga + 1 ∧ gc = ga + 2 by omega)
  clear n1 n2 n3 hx0 hW0 hga hgb hgc
  go_loopw [5] (fun v wr => (v = .int .i64 0 ∧ wr = W0) ∨ (v = .int .i64 1 ∧ ∃ A c, wr.heap[gc]? = some (.cells #[.string nAl, .slice A 1 c] 26 (0, 0)) ∧ OwnS wr 9 (gc + 1) A c [nHo] ∧ wr.heap[ga]? = some (.cells #[.string ⟨#[]⟩, .slice none 0 0] 26 (0, 0)) ∧ Ext w wr)) (fun v _ => 2 - (intOf v).toNat)
  case atStart => exact .inl ⟨rfl, rfl⟩
  case round =>
    rcases hrel with ⟨rfl, rfl⟩ | ⟨rfl, A, c, hgc, hos, hgz, hx⟩
    · obtain ⟨wd, hwd⟩ : ∃ wd, wd = wr.drew := ⟨_, rfl⟩
      obtain ⟨w1, hw1⟩ : ∃ w1, w1 = wd.alloc (.cells #[.string nHo] 9) := ⟨_, rfl⟩
      have x1 : Ext wr wd := by rw [hwd]; exact Ext.drew _
      have x2 : Ext wd w1 := by rw [hw1]; exact Ext.alloc _ _
      have HCELL := Lib.hid (fun (W : World) (hW : W = wd ∨ W = w1) => show W.cell? ⟨gc, 1, none⟩ = some (.slice none 0 0) ∧ W.cell? ⟨gb, 0, none⟩ = some (.string nHo) by
        rcases hW with rfl | rfl
        · exact ⟨cells_of (x1.get N3.out) 1, cells_of (x1.get N2.out) 0⟩
        · exact ⟨cells_of ((x1.tr x2).get N3.out) 1, cells_of ((x1.tr x2).get N2.out) 0⟩)
      have hnew : w1.heap[wd.heap.size]? = some (.cells #[.string nHo] 9 (0, 0)) := by rw [hw1]; exact new_of _ _
      obtain ⟨gd, hgd⟩ : ∃ g, g = wd.heap.size := ⟨_, rfl⟩
      rw [← hgd] at hnew
      have HNEW := Lib.hid hnew
      have HGD := Lib.hid hgd
      have HWD := Lib.hid hwd
      have HW1 := Lib.hid hw1
      have X2 := Lib.hid ((X0.out.tr x1).tr x2)
      have XX2 := Lib.hid (x1.tr x2)
      clear x1 x2 hnew hgd hwd hw1
      have wz : IntKind.i64.wrap 0 = 0 := rfl
      have w8 : IntKind.i64.wrap 8 = 8 := rfl
      go_wp2_with fail
      refine wp_region_ordL 14 (Alt 13 wd w1) (by kernel_rfl) (by kernel_rfl) (by decide) (by kernel_rfl) (show wr.drew = if false = true then w1 else wd by rw [if_neg (by decide)]; exact HWD.out.symm) ?_
      simp only [List.take_succ_cons, List.take_zero, List.drop_succ_cons, List.drop_zero]
      repeat (refine wpTxt_alt ?_ (by decide) (fun W K hS hK => ?_) rfl ?_; rotate_left; (have c0 := (HCELL.out W hS).1; have c1 := (HCELL.out W hS).2; simp only [Act.put, List.setIfInBounds_toArray, List.set_cons_zero, List.set_cons_succ] at hK; go_simp; exact hK); simp only [Act.put, List.setIfInBounds_toArray, List.set_cons_zero, List.set_cons_succ])
      refine wpTxt_turn ?_ (fun K hK => ?_) rfl ?_
      rotate_left
      · simp only [Act.put, List.setIfInBounds_toArray, List.set_cons_zero, List.set_cons_succ] at hK
        rw [HW1.out] at hK
        go_simp
        rw [← HGD.out]
        exact hK
      simp only [Act.put, List.setIfInBounds_toArray, List.set_cons_zero, List.set_cons_succ]
      refine wpTxt_nil ?_
      intro L W hL hS
      unfold Alt at hS
      rw [hL 13 (by decide), if_pos rfl] at hS
      subst hS
      have d0 : W.cell? ⟨gd, 0, none⟩ = some (.string nHo) := cells_of HNEW.out 0
      clear HCELL HW1 HWD hL
      go_wp2_with (at_builtin; refine wpList_append_str1 _ rfl (.tmp 25) (.tmp 37) 24 rfl (gc + 1) 9 i0 Tryz.underlying24 hi0 hz0 hz1 hz2 none 0 [] 0 rfl rfl (OwnV.nil _ _ _).s gd nHo rfl d0 (by decide) (lt_of_some (XX2.out.get N3.out)) ?_
                   intro A' c' w2 h1 h2
                   have hg2 := grown_get h2 (XX2.out.get N3.out) (fun e => by simp [Value.ownBlock] at e)
                   have q1 : w2.cell? ⟨gc, 1, none⟩ = some (.slice none 0 0) := cells_of hg2 1
                   have f1 : w2.frozen? ⟨gc, 1, none⟩ = false := free_of hg2 1
                   have HG2 := Lib.hid hg2
                   have HZ2 := Lib.hid (grown_get h2 (XX2.out.get N1.out) (fun e => by simp [Value.ownBlock] at e))
                   have HO2 := Lib.hid h1
                   have HX2 := Lib.hid (X2.out.tr (grown_ext h2))
                   clear h1 h2 hg2)
      have gg : w.heap.size ≤ gc := by have := HGG.out; omega
      refine ⟨.inr ⟨rfl, A', c', ?_, HO2.out.set1 (by omega), ?_, HX2.out.setCell gg _⟩, by simp [intOf]⟩
      · rw [set_of HG2.out]
        rfl
      · rw [Below.heap_setCell _ _ _ _ (by show ga ≠ gc; have := HGG.out; omega)]
        exact HZ2.out
    · have a0 : wr.cell? ⟨gc, 0, none⟩ = some (.string nAl) := cells_of hgc 0
      have a1 : wr.cell? ⟨gc, 1, none⟩ = some (.slice A 1 c) := cells_of hgc 1
      have b0 : wr.cell? ⟨ga, 0, none⟩ = some (.string ⟨#[]⟩) := cells_of hgz 0
      have b1 : wr.cell? ⟨ga, 1, none⟩ = some (.slice none 0 0) := cells_of hgz 1
      have f0 : wr.frozen? ⟨ga, 0, none⟩ = false := free_of hgz 0
      have f1 : wr.frozen? ⟨ga, 1, none⟩ = false := free_of hgz 1
      have HGZ := Lib.hid hgz
      have HOS := Lib.hid hos
      have HX := Lib.hid hx
      clear hgc hgz hos hx
      go_wp2_with fail
      have k1 := Lib.hid (two_stored (a := .string ⟨#[]⟩) (b := .slice none 0 0) (x := .string nAl) (y := .slice A 1 c) HGZ.out)
      have e0 := cells_of k1.out 0
      have e1 := cells_of k1.out 1
      have gg : w.heap.size ≤ ga := by have := HGG.out; omega
      have hgr : wr.grownBy ((wr.setCell ⟨ga, 0, none⟩ (.string nAl)).setCell ⟨ga, 1, none⟩ (.slice A 1 c)) (some ga) := grown_tr (grown_set _ rfl _) (grown_set _ rfl _)
      refine bodyPost_ret (v := .agg #[.string nAl, .slice A 1 c]) (by simp [results, Tryz.results15, go_sem, e0, e1]) rfl ⟨A, c, rfl, (HOS.out.sr.more (fun _ _ h => h.2.1)).far hgr HGZ.out (fun _ h => absurd h (by decide)), ?_, ?_, grown_new HX.out hgr (fun q e => by injection e with e; omega)⟩
      · exact HOS.out.le.1
      · exact HOS.out.le.2
end Go.Proofs.YtagegigffohcbaaGreatDoor

namespace Go.Proofs.YtagegigffohcbaaGreatDoor
open Go.RowKit
set_option linter.unusedVariables false
set_option linter.unusedSimpArgs false

def tky : List UInt8 := [7, 0, 0, 0, 0, 0, 0, 0, 0, 0, 0, 0, 0, 0, 0, 0]
theorem tK1_tab : tabV .u8 16 (byt tK1) = #[.int .u8 1, .int .u8 0, .int .u8 0, .int .u8 0, .int .u8 0, .int .u8 0, .int .u8 0, .int .u8 0, .int .u8 0, .int .u8 0, .int .u8 0, .int .u8 0, .int .u8 0, .int .u8 0, .int .u8 0, .int .u8 0] := rfl
theorem tK2_tab : tabV .u8 16 (byt tK2) = #[.int .u8 2, .int .u8 0, .int .u8 0, .int .u8 0, .int .u8 0, .int .u8 0, .int .u8 0, .int .u8 0, .int .u8 0, .int .u8 0, .int .u8 0, .int .u8 0, .int .u8 0, .int .u8 0, .int .u8 0, .int .u8 0] := rfl
theorem tN_tab : tabV .u8 8 (byt tN) = #[.int .u8 2, .int .u8 0, .int .u8 0, .int .u8 0, .int .u8 0, .int .u8 0, .int .u8 0, .int .u8 0] := rfl
theorem tB_tkb : tkb (bl nAl) (bls [nHo]) 5 9 (btl 16 (byt tky)) = tB := by kernel_rfl
theorem tB_tkb' : tkb (bl nAl) (bls [nHo]) 5 9 tky = tB := by kernel_rfl
theorem tkv_ex : tkv (bl nAl) (bls [nHo]) 5 9 = true := by kernel_rfl
theorem tkp_ex : tkp tB = some (bl nAl, bls [nHo], 5, 9, tky) := (congrArg tkp tB_tkb').symm.trans (tkp_full tkv_ex rfl)
def tSd : List UInt8 := sld tK1 2 (byt tN) tB
theorem tSd_len : tSd.length = 69 := by unfold tSd; rw [sld_len]; rfl
theorem tko_some {k s b : List UInt8} {x : List UInt8 × List (List UInt8) × Nat × Nat × List UInt8} (h : opn k 2 s = some b) (hr : tkr b = some x) : tko k s = some x ∧ tkcode k s = 0 := by
  unfold tko tkcode
  rw [h]
  exact ⟨hr, by simp only [hr]⟩
theorem tko_none {k s : List UInt8} (h : opn k 2 s = none) : tko k s = none ∧ tkcode k s = 2 := by
  unfold tko tkcode
  rw [h]
  exact ⟨rfl, rfl⟩
theorem tko1 : tko tK1 tSd = some (bl nAl, bls [nHo], 5, 9, tky) ∧ tkcode tK1 tSd = 0 := tko_some topn1 ((tkp_tkr tB).symm.trans tkp_ex)
theorem tko2 : tko tK2 tSd = none ∧ tkcode tK2 tSd = 2 := tko_none topn2
theorem nho_small : ∀ t ∈ [nHo], t.size ≤ 9223372036854775807 := by
  intro t ht
  simp only [List.mem_singleton] at ht
  rw [ht]
  decide
theorem tkR_ex {w : World} {T : Array Value} (h : TkR w T (some (bl nAl, bls [nHo], 5, 9, tky))) : ∃ A c, T = tkc nAl A 1 c 5 9 (byt tky) ∧ SR w (fun _ t => t = 9) A [nHo] ∧ 1 ≤ c ∧ c ≤ maxLen := by
  obtain ⟨s, A, c, ss, h1, h2, h3, h4, h5, h6⟩ := h
  obtain rfl : s = nAl := bl_ext h5
  obtain rfl : ss = [nHo] := bls_ext h6
  exact ⟨A, c, h1, h2, h3, h4⟩
theorem tsm_ex : tsm nAl [nHo] 5 9 (byt tky) nAl [nHo] 5 9 (byt tky) = true := by
  unfold tsm
  rw [sm_t rfl rfl, eqb_true.2 (fun _ _ => rfl)]
  rfl
theorem tkvI_ex : tkvI nAl [nHo] 10 9 = false := by kernel_rfl
theorem tkc_start (s : ByteArray) (A : Option Addr) (n c : Nat) (a e x : Int) (key : Nat → Nat) : (tkc s A n c a e key).setIfInBounds 2 (.int .i64 x) = tkc s A n c x e key := by
  unfold tkc
  apply Array.ext_getElem?
  intro i
  rw [Array.getElem?_setIfInBounds]
  by_cases h2 : 2 = i
  · subst h2
    rw [if_pos rfl, if_pos (by simp [tabV_size]), Array.getElem?_append_left (by simp)]
    rfl
  · rw [if_neg h2]
    by_cases hi : i < 4
    · rw [Array.getElem?_append_left (by exact hi), Array.getElem?_append_left (by exact hi)]
      match i, hi, h2 with
      | 0, _, _ => rfl
      | 1, _, _ => rfl
      | 3, _, _ => rfl
    · rw [Array.getElem?_append_right (by show 4 ≤ i; omega), Array.getElem?_append_right (by show 4 ≤ i; omega)]
      rfl

set_option maxRecDepth 100000 in
set_option maxHeartbeats 8000000 in
theorem awake_c (w : World) (ht : Tab w) : Calls Tryz.prog 5 #[] w fun e w' => e = .returned (.bool true) ∧ Ext w w' := by
  have HT := Lib.hid ht
  clear ht
  go_enter Tryz.func5, Tryz.ntmps5
  go_wp2_with fail
  refine (rmake4_c w).mono ?_
  rintro x w1 ⟨A, c, rfl, hsr, hc1, hcm, hx1⟩
  have HSR1 := Lib.hid hsr
  have HX1 := Lib.hid hx1
  have h20 : (tkc nAl A 1 c 5 9 (byt tky)).size = 20 ∧ (tkc nAl A 1 c 5 9 (byt tky)).all (·.oneCell') = true := ⟨tkc_size _ _ _ _ _ _ _, tkc_one _ _ _ _ _ _ _⟩
  clear hsr hx1 hc1 hcm
  go_wp2_with (first
    | (refine wpList_store_tk rfl rfl (.tmp 1) (.tmp 14) rfl w1.heap.size (tkc nAl A 1 c 5 9 (byt tky)) rfl rfl h20 _ (new_of w1 _) rfl ?_
       intro w2 hd2 hg2
       have x12 := grown_new (Ext.alloc w1 _) hg2 (fun q e => by injection e with e; omega)
       have HX2 := Lib.hid (HX1.out.tr x12)
       have HSR2 := Lib.hid (HSR1.out.ext x12)
       have HD2 := Lib.hid hd2
       clear x12 hg2 hd2)
    | refine wpList_load_tk rfl (.tmp 1) rfl w1.heap.size rfl (tkc nAl A 1 c 5 9 (byt tky)) h20.1 HD2.out ?_)
  have hby := tbytes_c nAl A c [nHo] 5 9 (byt tky) (fun i _ => byt_lt _ _) _ w2 HSR2.out (by decide) nho_small (by decide) tkv_ex
  rw [tB_tkb] at hby
  refine hby.mono ?_
  rintro x w3 ⟨B, d, rfl, hr, hl, hm, hx3⟩
  have HX3 := Lib.hid (HX2.out.tr hx3)
  have HSR3 := Lib.hid (HSR2.out.ext hx3)
  have HD3 := Lib.hid (hx3.get HD2.out)
  obtain ⟨g1, hg1⟩ : ∃ g, g = w1.heap.size := ⟨_, rfl⟩
  rw [← hg1] at HD3 ⊢
  have HG1 := Lib.hid (show w.heap.size ≤ g1 by rw [hg1]; exact HX1.out.size)
  have HR3 := Lib.hid hr
  clear hby hr hl hm hx3 hg1 HX2 HSR2 HD2 HX1 HSR1
  go_wp2_with fail
  refine (tparse_c B d tB _ w3 HR3.out (by decide)).mono ?_
  rintro x w4 ⟨T1, rfl, hT1, hx4⟩
  rw [tkp_ex] at hT1 ⊢
  obtain ⟨A1, c1, rfl, hsr1, _, _⟩ := tkR_ex hT1
  have k20 : (tkc nAl A1 1 c1 5 9 (byt tky)).size = 20 ∧ (tkc nAl A1 1 c1 5 9 (byt tky)).all (·.oneCell') = true := ⟨tkc_size _ _ _ _ _ _ _, tkc_one _ _ _ _ _ _ _⟩
  have HX4 := Lib.hid (HX3.out.tr hx4)
  have HSR4 := Lib.hid (HSR3.out.ext hx4)
  have HD4 := Lib.hid (hx4.get HD3.out)
  have HS14 := Lib.hid hsr1
  clear hT1 hx4 hsr1 HX3 HSR3 HD3 HR3
  rw [show (some (bl nAl, bls [nHo], 5, 9, tky)).isSome = true from rfl]
  go_wp2_with (first
    | (refine wpList_store_tk rfl rfl (.tmp 4) (.tmp 23) rfl w4.heap.size (tkc nAl A1 1 c1 5 9 (byt tky)) rfl rfl k20 _ (new_of w4 _) rfl ?_
       intro w5 hd5 hg5
       have x45 := grown_new (Ext.alloc w4 _) hg5 (fun q e => by injection e with e; omega)
       have HX5 := Lib.hid (HX4.out.tr x45)
       have HSR5 := Lib.hid (HSR4.out.ext x45)
       have HD5 := Lib.hid (x45.get HD4.out)
       have HS15 := Lib.hid (HS14.out.ext x45)
       have HE5 := Lib.hid hd5
       clear x45 hg5 hd5)
    | refine wpList_load_tk rfl (.tmp 1) rfl g1 rfl (tkc nAl A 1 c 5 9 (byt tky)) h20.1 HD5.out ?_)
  have hse := tseal_c (byt tK1) (byt tN) (byt tky) (fun i _ => byt_lt _ _) (fun i _ => byt_lt _ _) (fun i _ => byt_lt _ _) nAl A c [nHo] 5 9 _ w5 (HT.out.ext HX5.out) HSR5.out (by decide) nho_small (by decide) tkv_ex
  rw [tB_tkb, tK1_btl, tK1_tab, tN_tab, show sld tK1 2 (byt tN) tB = tSd from rfl] at hse
  obtain ⟨g4, hg4⟩ : ∃ g, g = w4.heap.size := ⟨_, rfl⟩
  rw [← hg4] at HE5 ⊢
  have HG4 := Lib.hid (show g1 < g4 by rw [hg4]; exact lt_of_some HD4.out)
  refine hse.mono ?_
  rintro x w6 ⟨B2, d2, rfl, hr, hl, hm, hx6⟩
  have HX6 := Lib.hid (HX5.out.tr hx6)
  have HSR6 := Lib.hid (HSR5.out.ext hx6)
  have HD6 := Lib.hid (hx6.get HD5.out)
  have HS16 := Lib.hid (HS15.out.ext hx6)
  have HE6 := Lib.hid (hx6.get HE5.out)
  have HR6 := Lib.hid hr
  have HL6 := Lib.hid (And.intro hl hm)
  clear hse hr hl hm hx6 hg4 HX5 HSR5 HD5 HS15 HE5 HX4 HSR4 HD4 HS14
  go_wp2_with fail
  have ho1 := topen_c d2 (byt tK1) (fun i _ => byt_lt _ _) B2 tSd _ w6 (HT.out.ext HX6.out) (by rw [tSd_len]; decide) HL6.out.1 HL6.out.2 HR6.out
  rw [tK1_btl, tK1_tab, tko1.1, tko1.2] at ho1
  refine ho1.mono ?_
  rintro x w7 ⟨T2, rfl, hT2, hx7⟩
  obtain ⟨A2, c2, rfl, hsr2, _, _⟩ := tkR_ex hT2
  have m20 : (tkc nAl A2 1 c2 5 9 (byt tky)).size = 20 ∧ (tkc nAl A2 1 c2 5 9 (byt tky)).all (·.oneCell') = true := ⟨tkc_size _ _ _ _ _ _ _, tkc_one _ _ _ _ _ _ _⟩
  have HX7 := Lib.hid (HX6.out.tr hx7)
  have HSR7 := Lib.hid (HSR6.out.ext hx7)
  have HD7 := Lib.hid (hx7.get HD6.out)
  have HS17 := Lib.hid (HS16.out.ext hx7)
  have HE7 := Lib.hid (hx7.get HE6.out)
  have HR7 := Lib.hid (HR6.out.ext hx7)
  have HS27 := Lib.hid hsr2
  clear ho1 hT2 hx7 hsr2 HX6 HSR6 HD6 HS16 HE6 HR6
  go_wp2_with (first
    | (refine wpList_store_tk rfl rfl (.tmp 8) (.tmp 36) rfl w7.heap.size (tkc nAl A2 1 c2 5 9 (byt tky)) rfl rfl m20 _ (new_of w7 _) rfl ?_
       intro w8 hd8 hg8
       have x78 := grown_new (Ext.alloc w7 _) hg8 (fun q e => by injection e with e; omega)
       have HX8 := Lib.hid (HX7.out.tr x78)
       have HSR8 := Lib.hid (HSR7.out.ext x78)
       have HD8 := Lib.hid (x78.get HD7.out)
       have HS18 := Lib.hid (HS17.out.ext x78)
       have HE8 := Lib.hid (x78.get HE7.out)
       have HR8 := Lib.hid (HR7.out.ext x78)
       have HS28 := Lib.hid (HS27.out.ext x78)
       have HF8 := Lib.hid hd8
       clear x78 hg8 hd8))
  obtain ⟨g8, hg8⟩ : ∃ g, g = w7.heap.size := ⟨_, rfl⟩
  rw [← hg8] at HF8 ⊢
  have HG8 := Lib.hid (show g4 < g8 by rw [hg8]; exact lt_of_some HE7.out)
  clear hg8 HX7 HSR7 HD7 HS17 HE7 HR7 HS27
  have ho2 := topen_c d2 (byt tK2) (fun i _ => byt_lt _ _) B2 tSd _ w8 (HT.out.ext HX8.out) (by rw [tSd_len]; decide) HL6.out.1 HL6.out.2 HR8.out
  rw [tK2_btl, tK2_tab, tko2.1, tko2.2] at ho2
  refine ho2.mono ?_
  rintro x w9 ⟨T3, rfl, hT3, hx9⟩
  obtain rfl : T3 = tkz := hT3
  have HX9 := Lib.hid (HX8.out.tr hx9)
  have HSR9 := Lib.hid (HSR8.out.ext hx9)
  have HD9 := Lib.hid (hx9.get HD8.out)
  have HS19 := Lib.hid (HS18.out.ext hx9)
  have HE9 := Lib.hid (hx9.get HE8.out)
  have HS29 := Lib.hid (HS28.out.ext hx9)
  have HF9 := Lib.hid (hx9.get HF8.out)
  clear ho2 hx9 HX8 HSR8 HD8 HS18 HE8 HR8 HS28 HF8
  go_wp2_with (first
    | (refine wpList_store_tk rfl rfl (.tmp 10) (.tmp 42) rfl w9.heap.size tkz rfl rfl ⟨tkc_size _ _ _ _ _ _ _, tkc_one _ _ _ _ _ _ _⟩ _ (new_of w9 _) rfl ?_
       intro wa hda hga
       have x9a := grown_new (Ext.alloc w9 _) hga (fun q e => by injection e with e; omega)
       have HXA := Lib.hid (HX9.out.tr x9a)
       have HSRA := Lib.hid (HSR9.out.ext x9a)
       have HDA := Lib.hid (x9a.get HD9.out)
       have HS1A := Lib.hid (HS19.out.ext x9a)
       have HEA := Lib.hid (x9a.get HE9.out)
       have HS2A := Lib.hid (HS29.out.ext x9a)
       have HFA := Lib.hid (x9a.get HF9.out)
       have q2 : wa.cell? ⟨g1, 2, none⟩ = some (.int .i64 5) := (cells_of HDA.out 2).trans (tkc_four _ _ _ _ _ _ _).2.2.1
       have f2 : wa.frozen? ⟨g1, 2, none⟩ = false := free_of HDA.out 2
       have r2 : (wa.setCell ⟨g1, 2, none⟩ (.int .i64 10)).cell? ⟨g4, 2, none⟩ = some (.int .i64 5) := by
         rw [cells_of (show (wa.setCell ⟨g1, 2, none⟩ (.int .i64 10)).heap[g4]? = _ by rw [Below.heap_setCell _ _ _ _ (by show g4 ≠ g1; have := HG4.out; omega)]; exact HEA.out)]
         exact (tkc_four _ _ _ _ _ _ _).2.2.1
       have hgb : wa.grownBy (wa.setCell ⟨g1, 2, none⟩ (.int .i64 10)) (some g1) := grown_set _ rfl _
       have HXB := Lib.hid (show Ext w (wa.setCell ⟨g1, 2, none⟩ (.int .i64 10)) from HXA.out.setCell (p := ⟨g1, 2, none⟩) HG1.out (.int .i64 10))
       have HSRB := Lib.hid (HSRA.out.far hgb HDA.out (fun _ h => absurd h (by decide)))
       have HS1B := Lib.hid (HS1A.out.far hgb HDA.out (fun _ h => absurd h (by decide)))
       have HS2B := Lib.hid (HS2A.out.far hgb HDA.out (fun _ h => absurd h (by decide)))
       have HEB := Lib.hid (grown_get hgb HEA.out (fun e => by injection e with e; have := HG4.out; omega))
       have HFB := Lib.hid (grown_get hgb HFA.out (fun e => by injection e with e; have := HG4.out; have := HG8.out; omega))
       have HDB := Lib.hid ((set_of HDA.out 2 (.int .i64 10)).trans (by rw [tkc_start]))
       clear x9a hga hda hgb HXA HSRA HS1A HS2A HEA HFA)
    | refine wpList_load_tk rfl (.tmp 8) rfl g8 rfl (tkc nAl A2 1 c2 5 9 (byt tky)) m20.1 HFB.out ?_
    | refine wpList_load_tk rfl (.tmp 4) rfl g4 rfl (tkc nAl A1 1 c1 5 9 (byt tky)) k20.1 HEB.out ?_)
  refine (tsame_c nAl nAl A2 A1 c2 c1 [nHo] [nHo] 5 9 5 9 (byt tky) (byt tky) _ _ _ HS2B.out HS1B.out (by decide) (by decide)).mono ?_
  rintro x wc ⟨rfl, hxc⟩
  rw [tsm_ex]
  have HXC := Lib.hid (HXB.out.tr hxc)
  have HDC := Lib.hid (hxc.get HDB.out)
  have HSRC := Lib.hid (HSRB.out.ext hxc)
  have n20 : (tkc nAl A 1 c 10 9 (byt tky)).size = 20 := tkc_size _ _ _ _ _ _ _
  clear hxc HXB HSRB HS1B HS2B HEB HFB HDB
  go_wp2_with (refine wpList_load_tk rfl (.tmp 1) rfl g1 rfl (tkc nAl A 1 c 10 9 (byt tky)) n20 HDC.out ?_)
  have hva := tvalid_c nAl A c [nHo] 10 9 (byt tky) _ wc HSRC.out (by decide) nho_small (by decide)
  rw [tkvI_ex] at hva
  refine hva.mono ?_
  rintro x wd ⟨rfl, hxd⟩
  go_wp2_with fail
  go_ret
  exact ⟨rfl, HXC.out.tr hxd⟩
end Go.Proofs.YtagegigffohcbaaGreatDoor

namespace Go.Proofs.YtagegigffohcbaaGreatDoor
open Go.ChangeShapes Go.WideShapes Go.ChangeAt Go.RowKit
set_option linter.unusedVariables false
set_option linter.unusedSimpArgs false

/-- a value that is a ticket, as it came in -/
structure IsTicket (w : World) (v : Value) (s : ByteArray) (A : Option Addr) (c : Nat) (ss : List ByteArray) (a e : Int) (key : Nat → Nat) : Prop where
  eq : v = .agg (tkc s A ss.length c a e key)
  sr : SR w (fun g _ => g < w.heap.size) A ss
  len : ss.length ≤ c
  cap : c ≤ maxLen
  size : s.size ≤ maxLen
  sizes : ∀ t ∈ ss, t.size ≤ maxLen
  key : Byt key

theorem at_of_take {l : List Value} {k : Nat} {x : Value} (h : (l.drop k).take 1 = [x]) : l[k]? = some x := by
  have := congrArg (fun m : List Value => m[0]?) h
  simp only [List.getElem?_cons_zero] at this
  rw [List.getElem?_take, if_pos (by decide), List.getElem?_drop, Nat.add_zero] at this
  exact this
theorem trod_struct4' {H : Type} {enc : TypeId × Value → H} {P : Program} {w : World} {base : Nat} {spare : Nat → Bool} {held : Bool} {t : TypeId} {f0 f1 f2 f3 : Field} {fuel : Nat} {cs : List Value} {x : DataW H × List MemPlace} (ht : P.underlying t = some (.struct #[f0, f1, f2, f3])) (h : DataW.trod enc P w base spare held fuel t cs = some x) :
    ∃ y0 y1 y2 y3 n, DataW.trod enc P w base spare held n f0.type ((cs.drop f0.offset).take (P.cellsOf f0.type)) = some y0 ∧ DataW.trod enc P w base spare held n f1.type ((cs.drop f1.offset).take (P.cellsOf f1.type)) = some y1 ∧
      DataW.trod enc P w base spare held n f2.type ((cs.drop f2.offset).take (P.cellsOf f2.type)) = some y2 ∧ DataW.trod enc P w base spare held n f3.type ((cs.drop f3.offset).take (P.cellsOf f3.type)) = some y3 := by
  obtain ⟨xs, n, _, rfl, hl, hlen, hf⟩ := DataW.trod_struct ht h
  match xs, hlen with
  | [y0, y1, y2, y3], _ => exact ⟨y0, y1, y2, y3, n, by simpa using hf 0 f0 rfl, by simpa using hf 1 f1 rfl, by simpa using hf 2 f2 rfl, by simpa using hf 3 f3 rfl⟩

theorem open_ticket {H : Type} {enc : TypeId × Value → H} {P : Program} {w : World} {base : Nat} {held : Bool} {r : Reach} {b0 : Nat} {t e u : TypeId} {f0 f1 f2 f3 g0 g1 : Field} {v : Value} {d : DataW H} {p : List MemPlace}
    (ht : P.underlying t = some (.struct #[f0, f1, f2, f3])) (hn : P.underlying f0.type = some (.struct #[g0, g1])) (h0 : P.underlying g0.type = some .string) (h1 : P.underlying g1.type = some (.slice e)) (he : P.underlying e = some .string) (hce : P.cellsOf e = 1)
    (i1 : P.underlying f1.type = some (.int .i64)) (i2 : P.underlying f2.type = some (.int .i64)) (i3 : P.underlying f3.type = some (.array 16 u)) (hu : P.underlying u = some (.int .u8)) (hcu : P.cellsOf u = 1)
    (ho : f0.offset = 0 ∧ f1.offset = 2 ∧ f2.offset = 3 ∧ f3.offset = 4 ∧ g0.offset = 0 ∧ g1.offset = 1) (hc : P.cellsOf f0.type = 2 ∧ P.cellsOf f1.type = 1 ∧ P.cellsOf f2.type = 1 ∧ P.cellsOf f3.type = 16 ∧ P.cellsOf g0.type = 1 ∧ P.cellsOf g1.type = 1) (ct : P.cellsOf t = 20)
    (hval : Value.okWide P w r b0 t v) (h : DataW.Trod enc P w base (fun _ => true) held t v d p) : ∃ s A c ss a e key, IsTicket w v s A c ss a e key := by
  unfold Value.okWide at hval
  rw [ht] at hval
  obtain ⟨cs, rfl, hsz, _⟩ := hval
  obtain ⟨fuel, hf⟩ := h
  obtain ⟨y0, y1, y2, y3, n, hy0, hy1, hy2, hy3⟩ := trod_struct4' ht hf
  obtain ⟨z0, z1, m, _, _, hz0, hz1⟩ := trod_struct2 hn hy0
  rw [ct] at hsz
  obtain ⟨o0, o1, o2, o3, o4, o5⟩ := ho
  obtain ⟨c0, c1, c2, c3, c4, c5⟩ := hc
  obtain ⟨l, hl⟩ : ∃ l, l = cs.toList := ⟨_, rfl⟩
  have hcl : (Value.agg cs).cells.toList = l := hl.symm
  have hll : l.length = 20 := by rw [hl]; simpa using hsz
  rw [hcl, o0, c0] at hz0 hz1
  rw [hcl, o1, c1] at hy1
  rw [hcl, o2, c2] at hy2
  rw [hcl, o3, c3] at hy3
  rw [o4, c4] at hz0
  rw [o5, c5] at hz1
  obtain ⟨s, hs, _, hsm⟩ := DataW.trod_string h0 hz0
  obtain ⟨a, ha, _, _⟩ := DataW.trod_int i1 hy1
  obtain ⟨b, hb, _, _⟩ := DataW.trod_int i2 hy2
  have q0 : l[0]? = some (.string s) := by
    have := at_of_take hs
    rw [List.getElem?_take, if_pos (by decide), List.getElem?_drop] at this
    exact this
  have q2 : l[2]? = some (.int .i64 a) := at_of_take ha
  have q3 : l[3]? = some (.int .i64 b) := at_of_take hb
  obtain ⟨xs, k, _, _, hlen, hnn, hel⟩ := DataW.trod_array i3 hy3
  have hV : ∀ i, i < 16 → ∃ q : Nat, l[4 + i]? = some (.int .u8 (q : Nat)) ∧ q < 256 := by
    intro i hi
    have hi2 := hel i hi
    rw [List.getElem?_eq_getElem (by omega)] at hi2
    obtain ⟨q, hq, _, hw⟩ := DataW.trod_int hu hi2
    rw [hcu, Nat.mul_one] at hq
    have hw2 := bd_u8 hw
    refine ⟨q.toNat, ?_, by omega⟩
    rw [Int.toNat_of_nonneg hw2.1]
    have hc := at_of_take hq
    rw [List.getElem?_take, if_pos (by omega), List.getElem?_drop] at hc
    exact hc
  obtain ⟨key, hkey⟩ := Go.Deep.choose_lt hV
  have fin : ∀ (A : Option Addr) (c n' : Nat), l[1]? = some (.slice A n' c) → cs = tkc s A n' c a b key := by
    intro A c n' q1
    apply Array.ext_getElem?
    intro i
    rw [← Array.getElem?_toList, ← hl]
    unfold tkc
    by_cases hi : i < 4
    · rw [Array.getElem?_append_left (by exact hi)]
      match i, hi with
      | 0, _ => exact q0
      | 1, _ => exact q1
      | 2, _ => exact q2
      | 3, _ => exact q3
    · rw [Array.getElem?_append_right (by show 4 ≤ i; omega), tabV_get']
      show l[i]? = if i - 4 < 16 then _ else _
      by_cases h16 : i - 4 < 16
      · rw [if_pos h16]
        have hk := (hkey (i - 4) h16).1
        rw [show 4 + (i - 4) = i by omega] at hk
        exact hk
      · rw [if_neg h16, List.getElem?_eq_none (by omega)]
  rcases open_strings h1 he hce hz1 with ⟨hcs, _⟩ | ⟨x, len, cap, ss, hcs, _, hl', hm, hz, _, hcell, hws⟩
  · have q1 : l[1]? = some (.slice none 0 0) := by
      have := at_of_take hcs
      rw [List.getElem?_take, if_pos (by decide), List.getElem?_drop] at this
      exact this
    exact ⟨s, none, 0, [], a, b, key, congrArg Value.agg (fin _ _ _ q1), SR.nil _ _ _, Nat.le_refl _, by simp [maxLen], hsm, by simp, fun i hi => (hkey i hi).2⟩
  · have q1 : l[1]? = some (.slice (some x) len cap) := by
      have := at_of_take hcs
      rw [List.getElem?_take, if_pos (by decide), List.getElem?_drop] at this
      exact this
    have hz' : ss.length = cap := by simpa using hz
    have hln : (ss.take len).length = len := by rw [List.length_take]; omega
    exact ⟨s, some x, cap, ss.take len, a, b, key, by rw [hln]; exact congrArg Value.agg (fin _ _ _ q1), strs_sr (by omega) hcell, by omega, hm, hsm, fun t ht => hws t (List.mem_of_mem_take ht), fun i hi => (hkey i hi).2⟩
end Go.Proofs.YtagegigffohcbaaGreatDoor

namespace Go.Proofs.YtagegigffohcbaaGreatDoor
open Go.RowKit
set_option linter.unusedVariables false
set_option linter.unusedSimpArgs false

theorem wp_load_tk1 {o : Oper} {b : Act} {w : World} {K : Act → World → Prop} {Q : Exit → Act → World → Prop} (x : Operand) (ho : o.op = .load 28 x) (g : Nat) (hx : b.eval x = .pointer (some ⟨g, 0, none⟩)) (T : Array Value) (hT : T.size = 20) (hg : w.heap[g]? = some (.cells T 28 (0, 0)))
    (h : K (b.put o.dst (.agg T)) w) : o.wp Tryz.prog b w K Q :=
  wp_load_row _ x ho g hx _ T _ _ hg Tryz.underlying28 rfl (by rw [hT]; exact size_tk) h
theorem tsm_zero : tsm ⟨#[]⟩ [] 0 0 (fun _ => 0) ⟨#[]⟩ [] 0 0 (fun _ => 0) = true := by kernel_rfl
/-- the zero tickets are the same -/
theorem rtsame_zero (w : World) : Calls Tryz.prog 13 #[.agg tkz, .agg tkz] w fun x w' => x = .returned (.bool true) ∧ Ext w w' := by
  have h := rtsame_c ⟨#[]⟩ ⟨#[]⟩ none none 0 0 [] [] 0 0 0 0 (fun _ => 0) (fun _ => 0) (fun _ _ => True) (fun _ _ => True) w (SR.nil _ _ _) (SR.nil _ _ _) (by simp) (by simp)
  rw [tsm_zero] at h
  exact h
theorem tsm_back {s : ByteArray} {ss : List ByteArray} {a e : Int} {key : Nat → Nat} (hk : Byt key) : tsm s ss a e (byt (btl 16 key)) s ss a e key = true := by
  unfold tsm
  rw [sm_t rfl rfl, eqb_true.2 (fun i hi => btl_byt hk hi)]
  simp
end Go.Proofs.YtagegigffohcbaaGreatDoor

namespace Go.Proofs.YtagegigffohcbaaGreatDoor
open Go.RowKit
set_option linter.unusedVariables false
set_option linter.unusedSimpArgs false

theorem tkvI_zero : tkvI ⟨#[]⟩ [] 0 0 = false := by kernel_rfl
theorem tsm_self (s : ByteArray) (ss : List ByteArray) (a e : Int) (key : Nat → Nat) : tsm s ss a e key s ss a e key = true := by
  unfold tsm
  rw [sm_t rfl rfl, eqb_true.2 (fun i hi => rfl)]
  simp
/-- the zero ticket has no bytes -/
theorem tbytes_zero (w : World) : Calls Tryz.prog 16 #[.agg tkz] w fun x w' => x = .returned (.tuple #[.slice none 0 0, .bool false]) ∧ Ext w w' :=
  tbytes_no ⟨#[]⟩ none 0 [] 0 0 (fun _ => 0) (fun _ _ => True) w (SR.nil _ _ _) (by decide) (by simp) (by simp) tkvI_zero
/-- two tickets that were read of the same bytes -/
theorem rtsame_read {o : Option (List UInt8 × List (List UInt8) × Nat × Nat × List UInt8)} {T U : Array Value} {w : World} (hT : TkR w T o) (hU : TkR w U o) (hn : ∀ r ps a e key, o = some (r, ps, a, e, key) → ps.length ≤ 1000) : Calls Tryz.prog 13 #[.agg T, .agg U] w fun x w' => x = .returned (.bool true) ∧ Ext w w' := by
  match o, hT, hU, hn with
  | none, hT, hU, _ =>
    obtain rfl : T = tkz := hT
    obtain rfl : U = tkz := hU
    exact rtsame_zero w
  | some (r, ps, a, e, key), ⟨s, A, c, ss, hT, hs, _, _, h1, h2⟩, ⟨s', A', c', ss', hU, hs', _, _, h3, h4⟩, hn =>
    obtain rfl : s' = s := bl_ext (h3.trans h1.symm)
    obtain rfl : ss' = ss := bls_ext (h4.trans h2.symm)
    have hl := hn r ps a e key rfl
    have hl2 : ss'.length ≤ 1000 := by rw [← h2] at hl; simpa [bls] using hl
    have h := rtsame_c s' s' A A' c c' ss' ss' a e a e (byt key) (byt key) _ _ w hs hs' (by omega) (by omega)
    rw [tsm_self] at h
    rw [hT, hU]
    exact h
theorem tkr_few {l r key : List UInt8} {ps : List (List UInt8)} {a e : Nat} (h : tkr l = some (r, ps, a, e, key)) : ps.length ≤ 1000 := by
  have := (vl_parts (tkv_parts (tkr_sound h).1).1).2.1
  omega

end Go.Proofs.YtagegigffohcbaaGreatDoor
