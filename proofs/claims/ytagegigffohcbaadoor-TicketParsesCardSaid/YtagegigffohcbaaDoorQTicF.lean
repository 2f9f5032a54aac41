/-
  The reference of layer 12: Parse.
-/
import Derived.Test.YtagegigffohcbaaDoorND
import Derived.Test.YtagegigffohcbaaDoorNE
import Derived.Test.YtagegigffohcbaaDoorNC
import Derived.Test.YtagegigffohcbaaDoorMA
import Derived.Test.YtagegigffohcbaaDoorMI
import Derived.Deep.CutBlock

namespace Go.Proofs.YtagegigffohcbaaDoor
open Go.RowKit
set_option linter.unusedVariables false
set_option linter.unusedSimpArgs false

set_option maxRecDepth 100000 in
set_option maxHeartbeats 4000000 in
theorem rtparse_c (B : Option Addr) (c : Nat) (l : List UInt8) (S : Nat → TypeId → Prop) (w : World) (h : RB w S B l) (hc : l.length ≤ c) (hm : c ≤ 9223372036854775807) (hl : l.length ≤ 140737488355328) :
    Calls Tryd.prog 15 #[.slice B l.length c] w fun x w' => ∃ T, x = .returned (.tuple #[.agg T, .bool (tkr l).isSome]) ∧ TkR w' T (tkr l) ∧ Ext w w' := by
  have hin := h.inside.more (S' := fun g _ => g < w.heap.size) (fun _ _ h => h.2)
  clear h
  by_cases hshort : l.length < 33
  · have t1 : (l.length : Int) < 33 := by omega
    have hpd : tkr l = none := by unfold tkr; rw [if_pos (.inl hshort)]
    clear hin
    go_enter Tryd.func15, Tryd.ntmps15
    go_wp2_with (first
      | (refine wpList_store_tk rfl rfl (.tmp 2) (.tmp 21) rfl w.heap.size tkz rfl rfl ⟨tkc_size _ _ _ _ _ _ _, tkc_one _ _ _ _ _ _ _⟩ _ (new_of w _) rfl ?_
         intro wz hdz hgz
         have HDZ := Lib.hid hdz
         have HXZ := Lib.hid (grown_new (Ext.alloc w _) hgz (fun q e => by injection e with e; omega))
         clear hdz hgz))
    refine bodyPost_ret (v := .tuple #[.agg tkz, .bool false]) (results_tk rfl _ _ w.heap.size tkz (tkc_size _ _ _ _ _ _ _) rfl HDZ.out _ rfl) rfl ⟨tkz, by rw [hpd]; rfl, by rw [hpd]; exact rfl, HXZ.out⟩
  obtain ⟨g, off, rfl⟩ := rb_block hin (by omega)
  have hgw : g < w.heap.size := by
    obtain ⟨g', off', cs, t, fr, e, hh, hs, _⟩ := hin (by omega)
    injection e with e
    injection e with e1 e2
    subst e1
    exact hs
  have hcell : ∀ W, Ext w W → W.cell? ⟨g, off, none⟩ = some (.int .u8 ((l[0]'(by omega)).toNat : Int)) := fun W hx => by
    obtain ⟨g', off', cs, t, fr, e, hh, hs, hcc⟩ := (hin.ext hx) (by omega)
    injection e with e
    injection e with e1 e2
    subst e1
    subst e2
    have := hcc 0 _ (List.getElem?_eq_getElem (by omega))
    rw [cells_of hh]
    exact this
  obtain ⟨b0, hb0⟩ : ∃ b0, b0 = l[0]'(by omega) := ⟨_, rfl⟩
  rw [← hb0] at hcell
  have hl0 : l[0]? = some b0 := by rw [hb0]; exact List.getElem?_eq_getElem (by omega)
  have t0 : ¬ (l.length : Int) < 33 := by omega
  have t00 : (0 : Int) < (l.length : Int) := by omega
  by_cases hb1 : b0 = 1
  · have t2 : ((b0.toNat : Int) != 1) = false := bne_f (by rw [hb1]; rfl)
    have hc0 := fun o => hcell (w.alloc o) (Ext.alloc _ _)
    obtain ⟨n, hn⟩ : ∃ n, n = l.length - 32 := ⟨_, rfl⟩
    obtain ⟨m, hmm⟩ : ∃ m, m = (l.take (l.length - 32)).drop 1 := ⟨_, rfl⟩
    obtain ⟨m1, hm1⟩ : ∃ m1, m1 = l.drop (l.length - 32) := ⟨_, rfl⟩
    obtain ⟨m2, hm2⟩ : ∃ m2, m2 = l.drop (l.length - 24) := ⟨_, rfl⟩
    have hml : m.length = n - 1 := by rw [hmm, List.length_drop, List.length_take]; omega
    have hl1 : m1.length = 32 := by rw [hm1, List.length_drop]; omega
    have hl2 : m2.length = 24 := by rw [hm2, List.length_drop]; omega
    have hn32 : IntKind.i64.wrap ((l.length : Int) - 32) = (n : Int) := by rw [show (l.length : Int) - 32 = (n : Int) by omega]; exact IntWalk.i64_in _ (by omega)
    obtain ⟨n8, h8⟩ : ∃ n8, n8 = n + 8 := ⟨_, rfl⟩
    obtain ⟨n16, h16⟩ : ∃ n16, n16 = n + 16 := ⟨_, rfl⟩
    have hn8 : IntKind.i64.wrap ((n : Int) + 8) = (n8 : Int) := by rw [show (n : Int) + 8 = (n8 : Int) by omega]; exact IntWalk.i64_in _ (by omega)
    have hn16 : IntKind.i64.wrap ((n : Int) + 16) = (n16 : Int) := by rw [show (n : Int) + 16 = (n16 : Int) by omega]; exact IntWalk.i64_in _ (by omega)
    have hs0 := fun W => run_slice_mid (P := Tryd.prog) Tryd.underlying30 size_u8 g off l.length c 1 (n - 1) (by omega) (by omega) 1 (n : Int) rfl (by omega) W
    have hs1 := fun W => run_slice_lo (P := Tryd.prog) Tryd.underlying30 size_u8 g off l.length c n (by omega) (by omega) (n : Int) rfl W
    have hs2 := fun W => run_slice_lo (P := Tryd.prog) Tryd.underlying30 size_u8 g off l.length c n8 (by omega) (by omega) (n8 : Int) rfl W
    have hs3 := fun W => run_slice_lo (P := Tryd.prog) Tryd.underlying30 size_u8 g off l.length c n16 (by omega) (by omega) (n16 : Int) rfl W
    rw [← hml] at hs0
    rw [show l.length - n = m1.length by omega] at hs1
    rw [show l.length - n8 = m2.length by omega] at hs2
    rw [show l.length - n16 = 16 by omega] at hs3
    have hr0 : RB w (fun g _ => g < w.heap.size) (some ⟨g, off + 1, none⟩) m := by rw [hmm]; exact rb_end (hin.take _) 1
    have hr1 : RB w (fun g _ => g < w.heap.size) (some ⟨g, off + n, none⟩) m1 := by rw [hm1, hn]; exact rb_end hin _
    have hr2 : RB w (fun g _ => g < w.heap.size) (some ⟨g, off + n8, none⟩) m2 := by rw [hm2, show l.length - 24 = n8 by omega]; exact rb_end hin _
    have hr3 : RB w (fun g _ => g < w.heap.size) (some ⟨g, off + n16, none⟩) (l.drop n16) := rb_end hin _
    have hk16 : (l.drop n16).length = 16 := by rw [List.length_drop]; omega
    obtain ⟨kk, hkk⟩ : ∃ kk, kk = l.drop n16 := ⟨_, rfl⟩
    rw [← hkk] at hr3 hk16
    obtain ⟨s, hsd⟩ : ∃ s, s = (nm 8 m1 false).num := ⟨_, rfl⟩
    obtain ⟨q, hqd⟩ : ∃ q, q = (nm 8 m2 false).num := ⟨_, rfl⟩
    have hpd := tkr_long (s := s) (q := q) (by omega) (by rw [hl0, hb1]) hmm (by rw [hsd, hm1]) (by rw [hqd, hm2])
    rw [show l.length - 16 = n16 by omega, ← hkk] at hpd
    obtain ⟨c1, hc1⟩ : ∃ c1, c1 = c - 1 := ⟨_, rfl⟩
    obtain ⟨c2, hc2⟩ : ∃ c2, c2 = c - n := ⟨_, rfl⟩
    obtain ⟨c3, hc3⟩ : ∃ c3, c3 = c - n8 := ⟨_, rfl⟩
    rw [← hc1] at hs0
    rw [← hc2] at hs1
    rw [← hc3] at hs2
    have HR0 := Lib.hid hr0
    have HR1 := Lib.hid hr1
    have HR2 := Lib.hid hr2
    have HR3 := Lib.hid hr3
    have HPD := Lib.hid hpd
    have HNN := Lib.hid (show 1 ≤ n ∧ n + 32 = l.length by omega)
    have HLN := Lib.hid (show m.length ≤ c1 ∧ c1 ≤ 9223372036854775807 ∧ m1.length ≤ c2 ∧ c2 ≤ 9223372036854775807 ∧ m2.length ≤ c3 ∧ c3 ≤ 9223372036854775807 ∧ m.length ≤ 140737488355328 ∧ m1.length = 32 ∧ m2.length = 24 by omega)
    have HSD := Lib.hid hsd
    have HQD := Lib.hid hqd
    have HK16 := Lib.hid hk16
    have harr := fun (a : Option Addr) (c : Nat) => run_arrayAt (P := Tryd.prog) (t := 25) Tryd.underlying25 a 16 c (by decide)
    clear h8 h16
    clear hr0 hr1 hr2 hr3 hpd hsd hqd hk16 hkk hc1 hc2 hc3 hm1 hm2 hmm hn hml hl1 hl2 hin hcell hb0 hl0 hb1 hshort hgw
    go_enter Tryd.func15, Tryd.ntmps15
    go_wp2_with fail
    refine (rread_c (some ⟨g, off + 1, none⟩) c1 m false _ _ (HR0.out.ext (Ext.alloc _ _)) (fun g t (h : g < w.heap.size) => Nat.lt_of_lt_of_le h (Ext.alloc w _).size) HLN.out.1 HLN.out.2.1 HLN.out.2.2.2.2.2.2.1).mono ?_
    rintro x w1 ⟨A1, d1, v, rfl, ⟨t, A, cA, ss, rfl, hsr, hcA, hmA, hbt, hbs⟩, hx1⟩
    have HZ1 := Lib.hid (show Zt w1 w.heap.size from ⟨_, hx1.get (new_of w _), rfl⟩)
    have HX1 := Lib.hid ((Ext.alloc w _).tr hx1)
    have HSR1 := Lib.hid hsr
    have HNB := Lib.hid (And.intro hbt hbs)
    have HCA := Lib.hid (And.intro hcA hmA)
    obtain ⟨o, ho⟩ : ∃ o, o = rrnm m false := ⟨_, rfl⟩
    obtain ⟨p, hp⟩ : ∃ p, p = rq m false := ⟨_, rfl⟩
    rw [← ho] at HNB ⊢
    rw [← hp]
    have HO := Lib.hid ho
    have HP := Lib.hid hp
    clear hx1 hsr hbt hbs hcA hmA ho hp
    rw [← HO.out, ← HP.out] at HPD
    obtain ⟨hd1, hd2⟩ := two_new w1 (.cells #[.slice A1 p.2.1.length d1, .bool p.2.2] 61) (.cells #[.string t, .slice A ss.length cA] 24)
    have hx2 := (Ext.alloc w1 (.cells #[.slice A1 p.2.1.length d1, .bool p.2.2] 61)).tr (Ext.alloc _ (.cells #[.string t, .slice A ss.length cA] 24))
    obtain ⟨w2, hw2⟩ : ∃ w2, w2 = (w1.alloc (.cells #[.slice A1 p.2.1.length d1, .bool p.2.2] 61)).alloc (.cells #[.string t, .slice A ss.length cA] 24) := ⟨_, rfl⟩
    rw [← hw2] at hd1 hd2 hx2
    obtain ⟨zc, hz1, hz2⟩ := HZ1.out.ext hx2
    have HX2 := Lib.hid (HX1.out.tr hx2)
    have HSR2 := Lib.hid (HSR1.out.ext hx2)
    have HD2 := Lib.hid hd2
    have HZC := Lib.hid (show w2.heap[w.heap.size]? = some (.cells zc 27 (0, 0)) ∧ zc.size = 20 from ⟨hz1, hz2⟩)
    have HW2 := Lib.hid hw2
    have a0 : w2.cell? ⟨w1.heap.size, 0, none⟩ = some (.slice A1 p.2.1.length d1) := cells_of hd1 0
    clear hx2 hd1 hd2 hz1 hz2 HX1 HSR1 HZ1 hw2
    cases o with
    | none =>
      go_upto_region 5 with fail
      rw [← HW2.out]
      go_wp2_with (first
        | (refine wpList_store_tk rfl rfl (.tmp 2) (.tmp 42) rfl w.heap.size tkz rfl rfl ⟨tkc_size _ _ _ _ _ _ _, tkc_one _ _ _ _ _ _ _⟩ zc HZC.out.1 HZC.out.2 ?_
           intro wz hdz hgz
           have HDZ := Lib.hid hdz
           have HXZ := Lib.hid (grown_new HX2.out hgz (fun q e => by injection e with e; omega))
           clear hdz hgz))
      refine bodyPost_ret (v := .tuple #[.agg tkz, .bool false]) (results_tk rfl _ _ w.heap.size tkz (tkc_size _ _ _ _ _ _ _) rfl HDZ.out _ rfl) rfl ⟨tkz, by rw [HPD.out]; rfl, by rw [HPD.out]; exact rfl, HXZ.out⟩
    | some x =>
      obtain ⟨r, ps⟩ := x
      by_cases hz : 0 < p.2.1.length
      · have tz : (0 : Int) < (p.2.1.length : Int) := by omega
        have HPZ := Lib.hid (show tkr l = none by rw [HPD.out]; simp only; rw [if_pos hz])
        clear HPD hz
        go_upto_region 5 with fail
        rw [← HW2.out]
        go_wp2_with (first
          | (refine wpList_store_tk rfl rfl (.tmp 2) (.tmp 42) rfl w.heap.size tkz rfl rfl ⟨tkc_size _ _ _ _ _ _ _, tkc_one _ _ _ _ _ _ _⟩ zc HZC.out.1 HZC.out.2 ?_
             intro wz hdz hgz
             have HDZ := Lib.hid hdz
             have HXZ := Lib.hid (grown_new HX2.out hgz (fun q e => by injection e with e; omega))
             clear hdz hgz))
        refine bodyPost_ret (v := .tuple #[.agg tkz, .bool false]) (results_tk rfl _ _ w.heap.size tkz (tkc_size _ _ _ _ _ _ _) rfl HDZ.out _ rfl) rfl ⟨tkz, by rw [HPZ.out]; rfl, by rw [HPZ.out]; exact rfl, HXZ.out⟩
      · have tz : ¬ (0 : Int) < (p.2.1.length : Int) := by omega
        have HPZ := Lib.hid (show tkr l = if q < s ∨ 1099511627776 < q then none else some (r, ps, s, q, kk) by rw [HPD.out]; simp only; rw [if_neg hz])
        clear HPD hz
        go_upto_region 5 with fail
        rw [← HW2.out]
        go_wp2_with fail
        refine (rnum_any (some ⟨g, off + n, none⟩) c2 m1 false _ 8 w2 (HR1.out.ext HX2.out) (fun g t (h : g < w.heap.size) => Nat.lt_of_lt_of_le h HX2.out.size) HLN.out.2.2.1 HLN.out.2.2.2.1 (by have := HLN.out; omega) ⟨by omega, by omega⟩).mono ?_
        rintro x w3 ⟨A3, d3, rfl, _, _, _, hx3⟩
        rw [← HSD.out]
        obtain ⟨L3, hL3⟩ : ∃ L, L = (nm 8 m1 false).left.length := ⟨_, rfl⟩
        obtain ⟨b3, hb3⟩ : ∃ b, b = (nm 8 m1 false).bad := ⟨_, rfl⟩
        rw [← hL3, ← hb3]
        clear hL3 hb3
        have x3 := hx3.tr (Ext.alloc w3 (.cells #[.slice A3 L3 d3, .bool b3] 61))
        have HX3 := Lib.hid (HX2.out.tr x3)
        have HXX3 := Lib.hid x3
        clear x3 hx3 a0
        go_wp2_with fail
        refine (rnum_any (some ⟨g, off + n8, none⟩) c3 m2 false _ 8 _ (HR2.out.ext HX3.out) (fun g t (h : g < w.heap.size) => Nat.lt_of_lt_of_le h HX3.out.size) HLN.out.2.2.2.2.1 HLN.out.2.2.2.2.2.1 (by have := HLN.out; omega) ⟨by omega, by omega⟩).mono ?_
        rintro x w4 ⟨A4, d4, rfl, _, _, _, hx4⟩
        rw [← HQD.out]
        obtain ⟨L4, hL4⟩ : ∃ L, L = (nm 8 m2 false).left.length := ⟨_, rfl⟩
        obtain ⟨b4, hb4⟩ : ∃ b, b = (nm 8 m2 false).bad := ⟨_, rfl⟩
        rw [← hL4, ← hb4]
        clear hL4 hb4
        have x4 := HXX3.out.tr (hx4.tr (Ext.alloc w4 (.cells #[.slice A4 L4 d4, .bool b4] 61)))
        obtain ⟨w5, hw5⟩ : ∃ w5, w5 = w4.alloc (.cells #[.slice A4 L4 d4, .bool b4] 61) := ⟨_, rfl⟩
        rw [← hw5] at x4
        have HX5 := Lib.hid (HX2.out.tr x4)
        have HSR5 := Lib.hid (HSR2.out.ext x4)
        have HD5 := Lib.hid (x4.get HD2.out)
        replace HZC := Lib.hid (show w5.heap[w.heap.size]? = some (.cells zc 27 (0, 0)) ∧ zc.size = 20 from ⟨x4.get HZC.out.1, HZC.out.2⟩)
        have HW5 := Lib.hid hw5
        have hsq : s < 18446744073709551616 ∧ q < 18446744073709551616 := by rw [HSD.out, HQD.out]; exact ⟨nm_lt _ _ _, nm_lt _ _ _⟩
        clear x4 hx4 hw5 HX2 HX3 HXX3 HSR2 HD2
        go_upto_region 9 with fail
        rw [← HW5.out]
        by_cases h1 : q < s
        · have t1 : (q : Int) < (s : Int) := by omega
          have HPY := Lib.hid (show tkr l = none by rw [HPZ.out, if_pos (.inl h1)])
          clear HPZ h1
          go_wp2_with (first
            | (refine wpList_store_tk rfl rfl (.tmp 2) (.tmp 67) rfl w.heap.size tkz rfl rfl ⟨tkc_size _ _ _ _ _ _ _, tkc_one _ _ _ _ _ _ _⟩ zc HZC.out.1 HZC.out.2 ?_
               intro wz hdz hgz
               have HDZ := Lib.hid hdz
               have HXZ := Lib.hid (grown_new HX5.out hgz (fun q e => by injection e with e; omega))
               clear hdz hgz))
          refine bodyPost_ret (v := .tuple #[.agg tkz, .bool false]) (results_tk rfl _ _ w.heap.size tkz (tkc_size _ _ _ _ _ _ _) rfl HDZ.out _ rfl) rfl ⟨tkz, by rw [HPY.out]; rfl, by rw [HPY.out]; exact rfl, HXZ.out⟩
        · have t1 : ¬ (q : Int) < (s : Int) := by omega
          by_cases h2 : 1099511627776 < q
          · have t2 : (1099511627776 : Int) < (q : Int) := by omega
            have HPY := Lib.hid (show tkr l = none by rw [HPZ.out, if_pos (.inr h2)])
            clear HPZ h1 h2
            go_wp2_with (first
              | (refine wpList_store_tk rfl rfl (.tmp 2) (.tmp 67) rfl w.heap.size tkz rfl rfl ⟨tkc_size _ _ _ _ _ _ _, tkc_one _ _ _ _ _ _ _⟩ zc HZC.out.1 HZC.out.2 ?_
                 intro wz hdz hgz
                 have HDZ := Lib.hid hdz
                 have HXZ := Lib.hid (grown_new HX5.out hgz (fun q e => by injection e with e; omega))
                 clear hdz hgz))
            refine bodyPost_ret (v := .tuple #[.agg tkz, .bool false]) (results_tk rfl _ _ w.heap.size tkz (tkc_size _ _ _ _ _ _ _) rfl HDZ.out _ rfl) rfl ⟨tkz, by rw [HPY.out]; rfl, by rw [HPY.out]; exact rfl, HXZ.out⟩
          · have t2 : ¬ (1099511627776 : Int) < (q : Int) := by omega
            have HPY := Lib.hid (show tkr l = some (r, ps, s, q, kk) by rw [HPZ.out, if_neg (fun h => h.elim h1 h2)])
            have HW1 := Lib.hid (show IntKind.i64.wrap (s : Int) = (s : Int) from IntWalk.i64_in _ (by omega))
            have HW2' := Lib.hid (show IntKind.i64.wrap (q : Int) = (q : Int) from IntWalk.i64_in _ (by omega))
            clear HPZ h1 h2 hsq
            go_wp2_with fail
            have hd6 := (Ext.drew w5).get HD5.out
            have hr6 := rangeAt_rb (n := 16) ((HR3.out.ext HX5.out).ext (Ext.drew w5)) (by rw [HK16.out]; exact Nat.le_refl _) (byt kk) (fun i _ => rfl) (by decide)
            obtain ⟨w6, hw6⟩ : ∃ w6, w6 = w5.drew := ⟨_, rfl⟩
            rw [← hw6] at hd6 hr6
            have a0 : w6.cell? ⟨w1.heap.size + 1, 0, none⟩ = some (.string t) := cells_of hd6 0
            have a1 : w6.cell? ⟨w1.heap.size + 1, 1, none⟩ = some (.slice A ss.length cA) := cells_of hd6 1
            have hx56 : Ext w5 w6 := by rw [hw6]; exact Ext.drew _
            have HX6 := Lib.hid (HX5.out.tr hx56)
            have HSR6 := Lib.hid (HSR5.out.ext hx56)
            replace HZC := Lib.hid (show w6.heap[w.heap.size]? = some (.cells zc 27 (0, 0)) ∧ zc.size = 20 from ⟨hx56.get HZC.out.1, HZC.out.2⟩)
            have HW6 := Lib.hid hw6
            have HR6 := Lib.hid hr6
            clear hd6 hr6 hw6 hx56 HX5 HSR5 HD5
            refine wp_region_ord 12 (fun W => W = w6) (by kernel_rfl) (by kernel_rfl) (by decide) (by kernel_rfl) HW6.out.symm ?_
            simp only [List.take_succ_cons, List.take_zero, List.drop_succ_cons, List.drop_zero]
            iterate 10 (refine wpTxt_stay ?_ (fun K hK => ?_) rfl ?_; rotate_left; (simp only [Act.put, List.setIfInBounds_toArray, List.set_cons_zero, List.set_cons_succ] at hK; go_simp; exact hK); simp only [Act.put, List.setIfInBounds_toArray, List.set_cons_zero, List.set_cons_succ])
            refine wpTxt_stay (.agg (tabV .u8 16 (byt kk))) (fun K hK => wp_load_rng1 25 (.tmp 77) rfl g (off + n16) rfl .u8 16 (byt kk) _ HR6.out Tryd.underlying25 size_bk hK) rfl ?_
            simp only [Act.put, List.setIfInBounds_toArray, List.set_cons_zero, List.set_cons_succ]
            refine wpTxt_stay (.agg (tkc t A ss.length cA (IntKind.i64.wrap (s : Int)) (IntKind.i64.wrap (q : Int)) (byt kk))) (fun K hK => wp_build_four1 27 (.tmp 68) (.tmp 70) (.tmp 72) (.tmp 78) rfl (.agg #[.string t, .slice A ss.length cA]) (.int .i64 (IntKind.i64.wrap (s : Int))) (.int .i64 (IntKind.i64.wrap (q : Int))) (.agg (tabV .u8 16 (byt kk))) rfl rfl rfl rfl _ (built_tk4 t A ss.length cA _ _ _) hK) rfl ?_
            simp only [Act.put, List.setIfInBounds_toArray, List.set_cons_zero, List.set_cons_succ]
            refine wpTxt_nil ?_
            rintro W hW
            rw [HW1.out, HW2'.out]
            obtain ⟨T, hT⟩ : ∃ T, T = tkc t A ss.length cA (s : Int) (q : Int) (byt kk) := ⟨_, rfl⟩
            rw [← hT]
            have hT20 : T.size = 20 ∧ T.all (·.oneCell') = true := by rw [hT]; exact ⟨tkc_size _ _ _ _ _ _ _, tkc_one _ _ _ _ _ _ _⟩
            have HT := Lib.hid hT
            have HWW := Lib.hid hW
            clear hT hW a0 a1
            rw [HWW.out]
            go_wp2_with (first
              | (refine wpList_store_tk rfl rfl (.tmp 2) (.tmp 79) rfl w.heap.size T rfl rfl hT20 zc HZC.out.1 HZC.out.2 ?_
                 intro wz hdz hgz
                 have HDZ := Lib.hid hdz
                 have HXZ := Lib.hid (grown_new HX6.out hgz (fun q e => by injection e with e; omega))
                 have HSRZ := Lib.hid (HSR6.out.far hgz HZC.out.1 (fun _ h => absurd h (by decide)))
                 clear hdz hgz))
            refine bodyPost_ret (v := .tuple #[.agg T, .bool true]) (results_tk rfl _ _ w.heap.size T hT20.1 rfl HDZ.out _ rfl) rfl ⟨T, by rw [HPY.out]; rfl, ?_, HXZ.out⟩
            rw [HPY.out]
            exact ⟨t, A, cA, ss, HT.out, HSRZ.out, HCA.out.1, HCA.out.2, HNB.out.1, HNB.out.2⟩
  · have hpd : tkr l = none := by unfold tkr; rw [if_pos (.inr (by rw [hl0]; intro e; injection e with e; exact hb1 e))]
    have t2 : ((b0.toNat : Int) != 1) = true := bne_t (fun e => hb1 (UInt8.toNat_inj.1 (by simp; omega)))
    have hc0 := fun o => hcell (w.alloc o) (Ext.alloc _ _)
    have HPD := Lib.hid hpd
    clear hin hcell hpd hl0 hb0
    go_enter Tryd.func15, Tryd.ntmps15
    go_wp2_with (first
      | (refine wpList_store_tk rfl rfl (.tmp 2) (.tmp 21) rfl w.heap.size tkz rfl rfl ⟨tkc_size _ _ _ _ _ _ _, tkc_one _ _ _ _ _ _ _⟩ _ (new_of w _) rfl ?_
         intro wz hdz hgz
         have HDZ := Lib.hid hdz
         have HXZ := Lib.hid (grown_new (Ext.alloc w _) hgz (fun q e => by injection e with e; omega))
         clear hdz hgz))
    refine bodyPost_ret (v := .tuple #[.agg tkz, .bool false]) (results_tk rfl _ _ w.heap.size tkz (tkc_size _ _ _ _ _ _ _) rfl HDZ.out _ rfl) rfl ⟨tkz, by rw [HPD.out]; rfl, by rw [HPD.out]; exact rfl, HXZ.out⟩
end Go.Proofs.YtagegigffohcbaaDoor
