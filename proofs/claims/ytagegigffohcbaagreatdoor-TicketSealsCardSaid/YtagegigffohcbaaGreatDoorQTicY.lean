/-
  TicketSeals walked.
-/
import Derived.Test.YtagegigffohcbaaGreatDoorNE

namespace Go.Proofs.YtagegigffohcbaaGreatDoor
open Go.RowKit
set_option linter.unusedVariables false
set_option linter.unusedSimpArgs false

theorem wf_b {n : Nat} {f : Nat → Nat} (h : ∀ i, i < n → (Lit.int .u8 (f i : Nat)).wf = true) : ∀ i, i < n → f i < 256 := fun i hi => by have := (bd_u8 (h i hi)).2; omega
def PY (w : World) (e : Exit) (a : Act) (W : World) : Prop := e = .normal ∧ a.tmps.getD 6 undef = .bool true ∧ a.defers = [] ∧ Ext w W
def spY (key nonce : Nat → Nat) (sd b : List UInt8) (B : Option Addr) (d : Nat) (T U : Array Value) : List Sl := [.any, .any, .any, .any, .any, .any, .val (.bool true), .any, .any, .any, .any, .any, .any, .any, .any, .any, .any, .any, .any, .any, .any, .any, .any, .any, .any, .any, .any, .any, .any, .any, .any, .any, .any, .any, .any, .any, .any, .any, .any, .any, .any, .any, .val (.bool true), .val (.bool true), .val (.slice B sd.length d), .val (.agg (tabV .u8 16 key)), .val (.agg (tabV .u8 8 nonce)), .val (.agg T), .byo (b), .byo (sd), .val (.bool true), .val (.bool true), .val (.bool true), .val (.int .i64 0), .val (.bool true), .val (.bool true), .val (.bool true), .val (.agg U), .val (.agg T), .val (.bool true), .val (.bool true)]
set_option maxRecDepth 100000 in
set_option maxHeartbeats 16000000 in
theorem ticketSeals_walk (key nonce : Nat → Nat) (v : Value) (s : ByteArray) (A : Option Addr) (c : Nat) (ss : List ByteArray) (a e : Int) (tk : Nat → Nat) (w : World) (hk' : ∀ i, i < 16 → (Lit.int .u8 (key i : Nat)).wf = true) (hn' : ∀ i, i < 8 → (Lit.int .u8 (nonce i : Nat)).wf = true) (h : IsTicket w v s A c ss a e tk) (ht : Tab w) :
    Calls Tryz.prog 3 #[.agg (tabV .u8 16 key), .agg (tabV .u8 8 nonce), v] w fun x w' => x = .returned (.bool true) ∧ Ext w w' := by
  obtain ⟨rfl, hsr, hlc, hcm, hss, hst, hkb⟩ := h
  unfold maxLen at hcm hss hst
  have hkk : Byt key := wf_b hk'
  have hnn : Byt8 nonce := wf_b hn'
  have hn : ss.length ≤ 9223372036854775807 := by omega
  have hss' : s.size ≤ 9223372036854775807 := by omega
  have hst' : ∀ t ∈ ss, t.size ≤ 9223372036854775807 := fun t h => by have := hst t h; omega
  obtain ⟨n1, n2, n3⟩ := new3 w (.cells (tabV .u8 16 key) 22) (.cells (tabV .u8 8 nonce) 23) (.cells (tkc s A ss.length c a e tk) 28)
  have hx0 := ((Ext.alloc w (.cells (tabV .u8 16 key) 22)).tr (Ext.alloc _ (.cells (tabV .u8 8 nonce) 23))).tr (Ext.alloc _ (.cells (tkc s A ss.length c a e tk) 28))
  obtain ⟨w0, hw0⟩ : ∃ w0, w0 = ((w.alloc (.cells (tabV .u8 16 key) 22)).alloc (.cells (tabV .u8 8 nonce) 23)).alloc (.cells (tkc s A ss.length c a e tk) 28) := ⟨_, rfl⟩
  obtain ⟨gk, hgk⟩ : ∃ g, g = w.heap.size := ⟨_, rfl⟩
  obtain ⟨gn, hgn⟩ : ∃ g, g = w.heap.size + 1 := ⟨_, rfl⟩
  obtain ⟨gt, hgt⟩ : ∃ g, g = w.heap.size + 1 + 1 := ⟨_, rfl⟩
  rw [← hw0] at n1 n2 n3 hx0
  rw [← hgk] at n1
  rw [← hgn] at n2
  rw [← hgt] at n3
  have HKA := Lib.hid (fun (W : World) (hx : Ext w0 W) => show Arr W gk 22 .u8 16 key from hx.get n1)
  have HNA := Lib.hid (fun (W : World) (hx : Ext w0 W) => show Arr W gn 23 .u8 8 nonce from hx.get n2)
  have HSR := Lib.hid (fun (W : World) (hx : Ext w0 W) => hsr.ext (hx0.tr hx))
  have HTB := Lib.hid (fun (W : World) (hx : Ext w0 W) => ht.ext (hx0.tr hx))
  have HDA := Lib.hid (fun (W : World) (hx : Ext w0 W) => hx.get n3)
  have HFW := Lib.hid (fun (W : World) (hx : Ext w0 W) => tfew_c s A c ss a e tk _ W (HSR.out W hx) hn)
  have HRV := Lib.hid (fun (W : World) (hx : Ext w0 W) => rtvalid_c s A c ss a e tk _ W (HSR.out W hx) hss' hst' hn)
  have HSN := Lib.hid (fun (W : World) (hx : Ext w0 W) (hv : tkvI s ss a e = false) => tseal_no key nonce tk s A c ss a e _ W (HSR.out W hx) hss' hst' hn hv)
  have HSE := Lib.hid (fun (na ne : Nat) (ha : a = na) (he : e = ne) (W : World) (hx : Ext w0 W) (hv : tkv (bl s) (bls ss) na ne = true) => show Calls Tryz.prog 7 #[.agg (tabV .u8 16 key), .agg (tabV .u8 8 nonce), .agg (tkc s A ss.length c a e tk)] W (fun x w' => ∃ B d, x = .returned (.tuple #[.slice B (sld (btl 16 key) 2 nonce (tkb (bl s) (bls ss) na ne (btl 16 tk))).length d, .bool true]) ∧
      RB w' (fun _ _ => True) B (sld (btl 16 key) 2 nonce (tkb (bl s) (bls ss) na ne (btl 16 tk))) ∧ (sld (btl 16 key) 2 nonce (tkb (bl s) (bls ss) na ne (btl 16 tk))).length ≤ d ∧ d ≤ 9223372036854775807 ∧ Ext W w') by
    subst ha; subst he
    exact tseal_c key nonce tk hkk hnn hkb s A c ss na ne _ W (HTB.out W hx) (HSR.out W hx) hss' hst' hn hv)
  have HRB0 := Lib.hid (fun (na ne : Nat) (ha : a = na) (he : e = ne) (W : World) (hx : Ext w0 W) (hv : tkv (bl s) (bls ss) na ne = true) => show Calls Tryz.prog 12 #[.agg (tkc s A ss.length c a e tk)] W (fun x w' => ∃ B d, x = .returned (.slice B (tkb (bl s) (bls ss) na ne (btl 16 tk)).length d) ∧ (RB w' (fun _ _ => True) B (tkb (bl s) (bls ss) na ne (btl 16 tk)) ∧ (tkb (bl s) (bls ss) na ne (btl 16 tk)).length ≤ d ∧ d ≤ 9223372036854775807) ∧ Ext W w') by
    subst ha; subst he
    exact (rtbytes_c s A c ss na ne tk hkb _ W (HSR.out W hx) hss' hst' hn hv).mono fun _ _ ⟨B, d, h1, h2, h3, h4, h5⟩ => ⟨B, d, h1, ⟨h2, h3, h4⟩, h5⟩)
  have HRS0 := Lib.hid (fun (na ne : Nat) (ha : a = na) (he : e = ne) (A' : Option Addr) (c' : Nat) (W : World) (hx : Ext w0 W) (hr : SR W (fun _ t => t = 9) A' ss) => show Calls Tryz.prog 13 #[.agg (tkc s A' ss.length c' na ne (byt (btl 16 tk))), .agg (tkc s A ss.length c a e tk)] W (fun x w' => x = .returned (.bool true) ∧ Ext W w') by
    have h := rtsame_c s s A' A c' c ss ss na ne a e (byt (btl 16 tk)) tk _ _ W hr (HSR.out W hx) hn hn
    rw [ha, he, tsm_back hkb] at h
    rw [ha, he]
    exact h)
  have HVV := Lib.hid (fun (hv : tkvI s ss a e = true) => show ∃ na ne : Nat, a = na ∧ e = ne ∧ tkv (bl s) (bls ss) na ne = true by
    have hv' := hv
    unfold tkvI at hv'
    simp only [Bool.and_eq_true, decide_eq_true_eq] at hv'
    refine ⟨a.toNat, e.toNat, by omega, by omega, ?_⟩
    rw [← tkvI_nat, show (a.toNat : Int) = a by omega, show (e.toNat : Int) = e by omega]
    exact hv)
  have HKL := Lib.hid (btl_len 16 tk)
  have HKK := Lib.hid (And.intro hkk hnn)
  obtain ⟨T, hT⟩ : ∃ T, T = tkc s A ss.length c a e tk := ⟨_, rfl⟩
  have hT20 : T.size = 20 := by rw [hT]; exact tkc_size _ _ _ _ _ _ _
  rw [← hT] at HDA HFW HRV HSN HSE HRB0 HRS0 hw0 n3 ⊢
  have HT20 := Lib.hid hT20
  have HW0 := Lib.hid hw0
  have HGE := Lib.hid (And.intro hgk (And.intro hgn hgt))
  have HX0 := Lib.hid hx0
  clear hT hw0 hgk hgn hgt hx0 n1 n2 n3 hsr hlc hcm hss hst hkb hn hss' hst' ht hk' hn' hkk hnn
  go_enter Tryz.func3, Tryz.ntmps3
  go_wp2_with fail
  rw [← HW0.out, ← HGE.out.2.2, ← HGE.out.2.1, ← HGE.out.1]
  refine (awake_c w0 (HTB.out _ (Ext.refl _))).mono ?_
  rintro x w1 ⟨rfl, hx1⟩
  have HX1 := Lib.hid hx1
  have hd1 := HDA.out w1 hx1
  clear hx1
  go_wp2_with (refine wpList_load_tk rfl (.tmp 5) rfl gt rfl T hT20 hd1 ?_)
  refine (HFW.out w1 HX1.out).mono ?_
  rintro x w2 ⟨rfl, hx2⟩
  have HX2 := Lib.hid (HX1.out.tr hx2)
  have hd2 := HDA.out w2 HX2.out
  have hk2 := HKA.out w2 HX2.out
  have hn2 := HNA.out w2 HX2.out
  have HH2 := Lib.hid (And.intro hk2 hn2)
  clear hx2 hd1 hk2 hn2
  cases few s ss with
  | false =>
    go_wp2_with fail
    refine (awake_c w2 (HTB.out _ HX2.out)).mono ?_
    rintro x w3 ⟨rfl, hx3⟩
    go_wp2_with fail
    go_ret
    exact ⟨rfl, HX0.out.tr (HX2.out.tr hx3)⟩
  | true =>
    cases hv : tkvI s ss a e with
    | false =>
      rw [hv] at HRV
      go_wp2_with (first
        | refine wpList_load_tk rfl (.tmp 5) rfl gt rfl T hT20 hd2 ?_
        | refine wpList_load_arr rfl 22 (.tmp 3) rfl gk rfl 22 .u8 16 key _ HH2.out.1 Tryz.underlying22 size_bk ?_
        | refine wpList_load_arr rfl 23 (.tmp 4) rfl gn rfl 23 .u8 8 nonce _ HH2.out.2 Tryz.underlying23 size_nc ?_)
      refine (HSN.out w2 HX2.out hv).mono ?_
      rintro x w3 ⟨rfl, hx3⟩
      have HX3 := Lib.hid (HX2.out.tr hx3)
      have hd3 := HDA.out w3 HX3.out
      clear hx3 hd2 HVV hv
      go_wp2_with (refine wpList_load_tk rfl (.tmp 5) rfl gt rfl T hT20 hd3 ?_)
      refine (HRV.out w3 HX3.out).mono ?_
      rintro x w4 ⟨rfl, hx4⟩
      go_wp2_with fail
      go_ret
      exact ⟨rfl, HX0.out.tr (HX3.out.tr hx4)⟩
    | true =>
      obtain ⟨na, ne, ha, he, hvn⟩ := HVV.out hv
      rw [hv] at HRV
      obtain ⟨b, hb⟩ : ∃ b, b = tkb (bl s) (bls ss) na ne (btl 16 tk) := ⟨_, rfl⟩
      obtain ⟨sd, hsd⟩ : ∃ sd, sd = sld (btl 16 key) 2 nonce b := ⟨_, rfl⟩
      have hse := HSE.out na ne ha he w2 HX2.out hvn
      have hrb := fun W hx => HRB0.out na ne ha he W hx hvn
      have HRS1 := Lib.hid (HRS0.out na ne ha he)
      have hbl : b.length ≤ 10000 := by rw [hb, tkb_len, HKL.out]; have := nbs_few (tkv_parts hvn).1; omega
      have hsl : sd.length = b.length + 24 := by rw [hsd, sld_len]
      have hop : tko (btl 16 key) sd = some (bl s, bls ss, na, ne, btl 16 tk) ∧ tkcode (btl 16 key) sd = 0 := by
        refine tko_some (b := b) (by rw [hsd]; exact opn_sld HKK.out.2 _ _ _) ?_
        rw [hb]
        exact tkr_full hvn HKL.out
      rw [← hb, ← hsd] at hse
      rw [← hb] at hrb
      have HRB := Lib.hid hrb
      have HSY := Lib.hid hse
      have HOP := Lib.hid hop
      have HBL := Lib.hid (And.intro hbl hsl)
      have HSB := Lib.hid hsd
      clear hse hrb hop hbl hsl hb hsd ha he hvn hv HVV HSE HRB0 HRS0 HSN HFW
      go_wp2_with (first
        | refine wpList_load_tk rfl (.tmp 5) rfl gt rfl T hT20 hd2 ?_
        | refine wpList_load_arr rfl 22 (.tmp 3) rfl gk rfl 22 .u8 16 key _ HH2.out.1 Tryz.underlying22 size_bk ?_
        | refine wpList_load_arr rfl 23 (.tmp 4) rfl gn rfl 23 .u8 8 nonce _ HH2.out.2 Tryz.underlying23 size_nc ?_)
      refine HSY.out.mono ?_
      rintro x w3 ⟨B, d, rfl, hr, hl, hm, hx3⟩
      have HX3 := Lib.hid (HX2.out.tr hx3)
      have hd3 := HDA.out w3 HX3.out
      have HR3 := Lib.hid hr
      have HL3 := Lib.hid (And.intro hl hm)
      clear hx3 hr hl hm hd2 HSY
      go_wp2_with (refine wpList_load_tk rfl (.tmp 5) rfl gt rfl T hT20 hd3 ?_)
      refine (HRV.out w3 HX3.out).mono ?_
      rintro x w4 ⟨rfl, hx4⟩
      have HX4 := Lib.hid (HX3.out.tr hx4)
      have HR4 := Lib.hid (HR3.out.ext hx4)
      have hk4 := HKA.out w4 HX4.out
      have HK4 := Lib.hid hk4
      clear hx4 hd3 hk4 HRV
      go_wp2_with (refine wpList_load_arr rfl 22 (.tmp 3) rfl gk rfl 22 .u8 16 key _ HK4.out Tryz.underlying22 size_bk ?_)
      have hto := topen_c d key HKK.out.1 B sd _ w4 (HTB.out w4 HX4.out) (by have := HBL.out; omega) HL3.out.1 HL3.out.2 HR4.out
      rw [HOP.out.1, HOP.out.2] at hto
      refine hto.mono ?_
      rintro x w5 ⟨U, rfl, hU, hx5⟩
      obtain ⟨s', A', c', ss', hUe, hsr', _, _, hbs, hbss⟩ := hU
      obtain rfl : s' = s := bl_ext hbs
      obtain rfl : ss' = ss := bls_ext hbss
      have hU20 : U.size = 20 ∧ U.all (·.oneCell') = true := by rw [hUe]; exact ⟨tkc_size _ _ _ _ _ _ _, tkc_one _ _ _ _ _ _ _⟩
      have HRS2 := Lib.hid (HRS1.out A' c')
      rw [← hUe] at HRS2
      have HX5 := Lib.hid (HX4.out.tr hx5)
      have HR5 := Lib.hid (HR4.out.ext hx5)
      have HS5 := Lib.hid hsr'
      clear hto hx5 hUe hsr' hbs hbss HRS1 HK4
      go_wp2_with (first
        | (refine wpList_store_tk rfl rfl (.tmp 9) (.tmp 40) rfl w5.heap.size U rfl rfl hU20 _ (new_of w5 _) rfl ?_
           intro w6 hd6 hg6
           have x56 := grown_new (Ext.alloc w5 _) hg6 (fun q e => by injection e with e; omega)
           have HX6 := Lib.hid (HX5.out.tr x56)
           have HR6 := Lib.hid (HR5.out.ext x56)
           have HS6 := Lib.hid (HS5.out.ext x56)
           have HD6 := Lib.hid hd6
           clear hd6 hg6 x56))
      obtain ⟨go, hgo⟩ : ∃ g, g = w5.heap.size := ⟨_, rfl⟩
      rw [← hgo] at HD6 ⊢
      have HU20 := Lib.hid hU20.1
      have HSA := Lib.hid (fun (W : World) (A2 : Option Addr) (c2 : Nat) (hx : Ext w6 W) (hr : RB W (fun _ _ => True) A2 sd) => show Calls Tryz.prog 10 #[.slice B sd.length d, .slice A2 sd.length c2] W (fun x w' => x = .returned (.bool true) ∧ Ext W w') from
        (same_c B A2 sd sd d c2 _ _ W (HR6.out.ext hx) hr (by have := HBL.out; omega)).mono fun _ _ ⟨h1, n, h2⟩ => ⟨by rw [h1]; simp, by rw [h2]; exact Ext.drewN _ _⟩)
      have HRE := Lib.hid (fun (W : World) (A2 : Option Addr) (c2 : Nat) (hx : Ext w6 W) (hr : RB W (fun _ _ => True) A2 b) => show Calls Tryz.prog 11 #[.agg (tabV .u8 16 key), .int .u8 2, .agg (tabV .u8 8 nonce), .slice A2 b.length c2] W (fun x w' => ∃ A c, x = .returned (.slice A sd.length c) ∧ OwnB w' 5 W.heap.size A c sd ∧ Ext W w') by
        have h := rseal_c c2 key nonce HKK.out.1 HKK.out.2 2 A2 b _ W (by have := HBL.out; omega) hr
        rw [← HSB.out, ← HBL.out.2] at h
        exact h)
      replace HRB := Lib.hid (fun (W : World) (hx : Ext w6 W) => HRB.out W (HX6.out.tr hx))
      replace HKA := Lib.hid (fun (W : World) (hx : Ext w6 W) => HKA.out W (HX6.out.tr hx))
      replace HNA := Lib.hid (fun (W : World) (hx : Ext w6 W) => HNA.out W (HX6.out.tr hx))
      replace HDA := Lib.hid (fun (W : World) (hx : Ext w6 W) => HDA.out W (HX6.out.tr hx))
      have HOA := Lib.hid (fun (W : World) (hx : Ext w6 W) => hx.get HD6.out)
      have HRS := Lib.hid (fun (W : World) (hx : Ext w6 W) => HRS2.out W (HX6.out.tr hx) (HS6.out.ext hx))
      clear hgo HRS2 HS6 HR6 HX5 HR5 HS5 HX4 HR4 HX3 HR3 HX2 HX1 HH2
      refine Code.wp_mono (P := Tryz.prog) (Q := PY w6) ?_ ?_
      · rintro x ⟨tmps, defers⟩ W ⟨rfl, h0, hd, hx⟩
        dsimp only at h0 hd
        subst hd
        go_wp2_with fail
        go_ret
        exact ⟨by rw [← h0], HX0.out.tr (HX6.out.tr hx)⟩
      refine region_free (Ext w6) (Sl.at_ (spY key nonce sd b B d T U)) Ext (by kernel_rfl) (by kernel_rfl) (by kernel_rfl) (Sl.mono _) Ext.refl (Ext.drew _) ?_ ?_
      · refine Steps.cons (fun ac W hS hsz hU hD => ?_) ?_
        · have e8 : ac.tmps.getD 8 undef = (.bool true) := hU 8 (by kernel_rfl)
          have v8 := eval_of e8
          have y8 := slot_of e8
          have z8 := cell_of e8
          refine .inl ⟨rfl, fun K hK => ?_⟩
          go_simp
          exact hK _ _ hS (Ext.refl _) (fun d hd => by cases hd; rfl)
        refine Steps.cons (fun ac W hS hsz hU hD => ?_) ?_
        · have e42 : ac.tmps.getD 42 undef = (.bool true) := hD 42 (by kernel_rfl)
          have v42 := eval_of e42
          have y42 := slot_of e42
          have z42 := cell_of e42
          refine .inl ⟨rfl, fun K hK => ?_⟩
          go_simp
          exact hK _ _ hS (Ext.refl _) (fun d hd => by cases hd; rfl)
        refine Steps.cons (fun ac W hS hsz hU hD => ?_) ?_
        · have e7 : ac.tmps.getD 7 undef = (.slice B sd.length d) := hU 7 (by kernel_rfl)
          have v7 := eval_of e7
          have y7 := slot_of e7
          have z7 := cell_of e7
          refine .inl ⟨wants rfl (by kernel_rfl) (show ac.tmps.getD 43 undef = .bool true from hD 43 (by kernel_rfl)), fun K hK => ?_⟩
          go_simp
          exact hK _ _ hS (Ext.refl _) (fun d hd => by cases hd; rfl)
        refine Steps.cons (fun ac W hS hsz hU hD => ?_) ?_
        · have e3 : ac.tmps.getD 3 undef = (.pointer (some ⟨gk, 0, none⟩)) := hU 3 (by kernel_rfl)
          have v3 := eval_of e3
          have y3 := slot_of e3
          have z3 := cell_of e3
          refine .inl ⟨wants rfl (by kernel_rfl) (show ac.tmps.getD 43 undef = .bool true from hD 43 (by kernel_rfl)), fun K hK => ?_⟩
          exact wp_load_arr 22 (.tmp 3) rfl gk v3 .u8 16 key _ _ (HKA.out W hS) Tryz.underlying22 size_bk (hK _ _ hS (Ext.refl _) (fun d hd => by cases hd; rfl))
        refine Steps.cons (fun ac W hS hsz hU hD => ?_) ?_
        · have e4 : ac.tmps.getD 4 undef = (.pointer (some ⟨gn, 0, none⟩)) := hU 4 (by kernel_rfl)
          have v4 := eval_of e4
          have y4 := slot_of e4
          have z4 := cell_of e4
          refine .inl ⟨wants rfl (by kernel_rfl) (show ac.tmps.getD 43 undef = .bool true from hD 43 (by kernel_rfl)), fun K hK => ?_⟩
          exact wp_load_arr 23 (.tmp 4) rfl gn v4 .u8 8 nonce _ _ (HNA.out W hS) Tryz.underlying23 size_nc (hK _ _ hS (Ext.refl _) (fun d hd => by cases hd; rfl))
        refine Steps.cons (fun ac W hS hsz hU hD => ?_) ?_
        · have e5 : ac.tmps.getD 5 undef = (.pointer (some ⟨gt, 0, none⟩)) := hU 5 (by kernel_rfl)
          have v5 := eval_of e5
          have y5 := slot_of e5
          have z5 := cell_of e5
          refine .inl ⟨wants rfl (by kernel_rfl) (show ac.tmps.getD 43 undef = .bool true from hD 43 (by kernel_rfl)), fun K hK => ?_⟩
          exact wp_load_tk1 (.tmp 5) rfl gt v5 T HT20.out (HDA.out W hS) (hK _ _ hS (Ext.refl _) (fun d hd => by cases hd; rfl))
        refine Steps.cons (fun ac W hS hsz hU hD => ?_) ?_
        · have e47 : ac.tmps.getD 47 undef = (.agg T) := hD 47 (by kernel_rfl)
          have v47 := eval_of e47
          have y47 := slot_of e47
          have z47 := cell_of e47
          refine .inl ⟨wants rfl (by kernel_rfl) (show ac.tmps.getD 43 undef = .bool true from hD 43 (by kernel_rfl)), fun K hK => ?_⟩
          go_simp
          refine (HRB.out W hS).mono ?_
          rintro x W1 ⟨A, c, rfl, ho, hx⟩
          exact hK _ _ (hS.tr hx) hx (fun d hd => by cases hd; exact ⟨A, c, rfl, ho⟩)
        refine Steps.cons (fun ac W hS hsz hU hD => ?_) ?_
        · have e45 : ac.tmps.getD 45 undef = (.agg (tabV .u8 16 key)) := hD 45 (by kernel_rfl)
          have v45 := eval_of e45
          have y45 := slot_of e45
          have z45 := cell_of e45
          have e46 : ac.tmps.getD 46 undef = (.agg (tabV .u8 8 nonce)) := hD 46 (by kernel_rfl)
          have v46 := eval_of e46
          have y46 := slot_of e46
          have z46 := cell_of e46
          obtain ⟨A48, c48, e48, r48, l48, m48⟩ : Sl.holds (.byo (b)) (ac.tmps.getD 48 undef) W := hD 48 (by kernel_rfl)
          have v48 := eval_of e48
          have y48 := slot_of e48
          have z48 := cell_of e48
          refine .inl ⟨wants rfl (by kernel_rfl) (show ac.tmps.getD 43 undef = .bool true from hD 43 (by kernel_rfl)), fun K hK => ?_⟩
          go_simp
          refine (HRE.out W A48 c48 hS r48).mono ?_
          rintro x W1 ⟨A, c, rfl, ho, hx⟩
          exact hK _ _ (hS.tr hx) hx (fun d hd => by cases hd; exact ⟨A, c, rfl, ho.rb.more (fun _ _ _ => trivial), ho.le.1, ho.le.2⟩)
        refine Steps.cons (fun ac W hS hsz hU hD => ?_) ?_
        · have e44 : ac.tmps.getD 44 undef = (.slice B sd.length d) := hD 44 (by kernel_rfl)
          have v44 := eval_of e44
          have y44 := slot_of e44
          have z44 := cell_of e44
          obtain ⟨A49, c49, e49, r49, l49, m49⟩ : Sl.holds (.byo (sd)) (ac.tmps.getD 49 undef) W := hD 49 (by kernel_rfl)
          have v49 := eval_of e49
          have y49 := slot_of e49
          have z49 := cell_of e49
          refine .inl ⟨wants rfl (by kernel_rfl) (show ac.tmps.getD 43 undef = .bool true from hD 43 (by kernel_rfl)), fun K hK => ?_⟩
          go_simp
          refine (HSA.out W A49 c49 hS r49).mono ?_
          rintro x W1 ⟨rfl, hx⟩
          exact hK _ _ (hS.tr hx) hx (fun d hd => by cases hd; rfl)
        refine Steps.cons (fun ac W hS hsz hU hD => ?_) ?_
        · have e43 : ac.tmps.getD 43 undef = (.bool true) := hD 43 (by kernel_rfl)
          have v43 := eval_of e43
          have y43 := slot_of e43
          have z43 := cell_of e43
          have e50 : ac.tmps.getD 50 undef = (.bool true) := hD 50 (by kernel_rfl)
          have v50 := eval_of e50
          have y50 := slot_of e50
          have z50 := cell_of e50
          refine .inl ⟨rfl, fun K hK => ?_⟩
          go_simp
          exact hK _ _ hS (Ext.refl _) (fun d hd => by cases hd; rfl)
        refine Steps.cons (fun ac W hS hsz hU hD => ?_) ?_
        · have e51 : ac.tmps.getD 51 undef = (.bool true) := hD 51 (by kernel_rfl)
          have v51 := eval_of e51
          have y51 := slot_of e51
          have z51 := cell_of e51
          refine .inl ⟨rfl, fun K hK => ?_⟩
          go_simp
          exact hK _ _ hS (Ext.refl _) (fun d hd => by cases hd; rfl)
        refine Steps.cons (fun ac W hS hsz hU hD => ?_) ?_
        · have e10 : ac.tmps.getD 10 undef = (.int .i64 0) := hU 10 (by kernel_rfl)
          have v10 := eval_of e10
          have y10 := slot_of e10
          have z10 := cell_of e10
          refine .inl ⟨wants rfl (by kernel_rfl) (show ac.tmps.getD 52 undef = .bool true from hD 52 (by kernel_rfl)), fun K hK => ?_⟩
          go_simp
          exact hK _ _ hS (Ext.refl _) (fun d hd => by cases hd; rfl)
        refine Steps.cons (fun ac W hS hsz hU hD => ?_) ?_
        · have e53 : ac.tmps.getD 53 undef = (.int .i64 0) := hD 53 (by kernel_rfl)
          have v53 := eval_of e53
          have y53 := slot_of e53
          have z53 := cell_of e53
          refine .inl ⟨wants rfl (by kernel_rfl) (show ac.tmps.getD 52 undef = .bool true from hD 52 (by kernel_rfl)), fun K hK => ?_⟩
          go_simp
          exact hK _ _ hS (Ext.refl _) (fun d hd => by cases hd; rfl)
        refine Steps.cons (fun ac W hS hsz hU hD => ?_) ?_
        · have e52 : ac.tmps.getD 52 undef = (.bool true) := hD 52 (by kernel_rfl)
          have v52 := eval_of e52
          have y52 := slot_of e52
          have z52 := cell_of e52
          have e54 : ac.tmps.getD 54 undef = (.bool true) := hD 54 (by kernel_rfl)
          have v54 := eval_of e54
          have y54 := slot_of e54
          have z54 := cell_of e54
          refine .inl ⟨rfl, fun K hK => ?_⟩
          go_simp
          exact hK _ _ hS (Ext.refl _) (fun d hd => by cases hd; rfl)
        refine Steps.cons (fun ac W hS hsz hU hD => ?_) ?_
        · have e55 : ac.tmps.getD 55 undef = (.bool true) := hD 55 (by kernel_rfl)
          have v55 := eval_of e55
          have y55 := slot_of e55
          have z55 := cell_of e55
          refine .inl ⟨rfl, fun K hK => ?_⟩
          go_simp
          exact hK _ _ hS (Ext.refl _) (fun d hd => by cases hd; rfl)
        refine Steps.cons (fun ac W hS hsz hU hD => ?_) ?_
        · have e9 : ac.tmps.getD 9 undef = (.pointer (some ⟨go, 0, none⟩)) := hU 9 (by kernel_rfl)
          have v9 := eval_of e9
          have y9 := slot_of e9
          have z9 := cell_of e9
          refine .inl ⟨wants rfl (by kernel_rfl) (show ac.tmps.getD 56 undef = .bool true from hD 56 (by kernel_rfl)), fun K hK => ?_⟩
          exact wp_load_tk1 (.tmp 9) rfl go v9 U HU20.out (HOA.out W hS) (hK _ _ hS (Ext.refl _) (fun d hd => by cases hd; rfl))
        refine Steps.cons (fun ac W hS hsz hU hD => ?_) ?_
        · have e5 : ac.tmps.getD 5 undef = (.pointer (some ⟨gt, 0, none⟩)) := hU 5 (by kernel_rfl)
          have v5 := eval_of e5
          have y5 := slot_of e5
          have z5 := cell_of e5
          refine .inl ⟨wants rfl (by kernel_rfl) (show ac.tmps.getD 56 undef = .bool true from hD 56 (by kernel_rfl)), fun K hK => ?_⟩
          exact wp_load_tk1 (.tmp 5) rfl gt v5 T HT20.out (HDA.out W hS) (hK _ _ hS (Ext.refl _) (fun d hd => by cases hd; rfl))
        refine Steps.cons (fun ac W hS hsz hU hD => ?_) ?_
        · have e57 : ac.tmps.getD 57 undef = (.agg U) := hD 57 (by kernel_rfl)
          have v57 := eval_of e57
          have y57 := slot_of e57
          have z57 := cell_of e57
          have e58 : ac.tmps.getD 58 undef = (.agg T) := hD 58 (by kernel_rfl)
          have v58 := eval_of e58
          have y58 := slot_of e58
          have z58 := cell_of e58
          refine .inl ⟨wants rfl (by kernel_rfl) (show ac.tmps.getD 56 undef = .bool true from hD 56 (by kernel_rfl)), fun K hK => ?_⟩
          go_simp
          refine (HRS.out W hS).mono ?_
          rintro x W1 ⟨rfl, hx⟩
          exact hK _ _ (hS.tr hx) hx (fun d hd => by cases hd; rfl)
        refine Steps.cons (fun ac W hS hsz hU hD => ?_) ?_
        · have e56 : ac.tmps.getD 56 undef = (.bool true) := hD 56 (by kernel_rfl)
          have v56 := eval_of e56
          have y56 := slot_of e56
          have z56 := cell_of e56
          have e59 : ac.tmps.getD 59 undef = (.bool true) := hD 59 (by kernel_rfl)
          have v59 := eval_of e59
          have y59 := slot_of e59
          have z59 := cell_of e59
          refine .inl ⟨rfl, fun K hK => ?_⟩
          go_simp
          exact hK _ _ hS (Ext.refl _) (fun d hd => by cases hd; rfl)
        refine Steps.cons (fun ac W hS hsz hU hD => ?_) ?_
        · have e60 : ac.tmps.getD 60 undef = (.bool true) := hD 60 (by kernel_rfl)
          have v60 := eval_of e60
          have y60 := slot_of e60
          have z60 := cell_of e60
          refine .inl ⟨rfl, fun K hK => ?_⟩
          go_simp
          exact hK _ _ hS (Ext.refl _) (fun d hd => by cases hd; rfl)
        exact Steps.nil
      · intro ac W hS hsz hdef hold hnew
        have h5 : ac.tmps.getD 6 undef = .bool true := hnew 19 6 (by kernel_rfl)
        exact ⟨rfl, h5, hdef, hS⟩
end Go.Proofs.YtagegigffohcbaaGreatDoor
