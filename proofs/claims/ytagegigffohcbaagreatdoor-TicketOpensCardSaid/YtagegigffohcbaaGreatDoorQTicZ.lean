/-
  TicketOpens walked.
-/
import Derived.Test.YtagegigffohcbaaGreatDoorQTicY

namespace Go.Proofs.YtagegigffohcbaaGreatDoor
open Go.RowKit
set_option linter.unusedVariables false
set_option linter.unusedSimpArgs false

theorem u8_is {a : Int} (h : (Lit.int .u8 a).wf = true) : ∃ x : UInt8, a = (x.toNat : Int) := by
  have hb := bd_u8 h
  refine ⟨UInt8.ofNat a.toNat, ?_⟩
  have : (UInt8.ofNat a.toNat).toNat = a.toNat := by rw [UInt8.toNat_ofNat']; exact Nat.mod_eq_of_lt (by omega)
  omega
theorem tko_few {k s r key : List UInt8} {ps : List (List UInt8)} {a e : Nat} (h : tko k s = some (r, ps, a, e, key)) : ps.length ≤ 1000 := by
  unfold tko at h
  cases ho : opn k 2 s with
  | none => rw [ho] at h; cases h
  | some b => rw [ho] at h; exact tkr_few h
set_option maxRecDepth 100000 in
set_option maxHeartbeats 16000000 in
theorem ticketOpens_walk (key : Nat → Nat) (ui : Int) (nonce : Nat → Nat) (a3 : Option Addr) (len3 cap3 : Nat) (z3 : List Int) (raw : Bool) (w : World) (hk' : ∀ i, i < 16 → (Lit.int .u8 (key i : Nat)).wf = true) (hu' : (Lit.int .u8 ui).wf = true) (hn' : ∀ i, i < 8 → (Lit.int .u8 (nonce i : Nat)).wf = true) (hr3 : IsRow .u8 w a3 len3 cap3 z3) (ht : Tab w) :
    Calls Tryz.prog 4 #[.agg (tabV .u8 16 key), .int .u8 ui, .agg (tabV .u8 8 nonce), .slice a3 len3 cap3, .bool raw] w fun x w' => x = .returned (.bool true) ∧ Ext w w' := by
  obtain ⟨u, rfl⟩ := u8_is hu'
  obtain ⟨b, rfl, hlc, hcm, hrb⟩ := row_bytes hr3
  unfold maxLen at hcm
  have hkk : Byt key := wf_b hk'
  have hnn : Byt8 nonce := wf_b hn'
  obtain ⟨n1, n2⟩ := two_new w (.cells (tabV .u8 16 key) 22) (.cells (tabV .u8 8 nonce) 23)
  have hx0 := (Ext.alloc w (.cells (tabV .u8 16 key) 22)).tr (Ext.alloc _ (.cells (tabV .u8 8 nonce) 23))
  obtain ⟨w0, hw0⟩ : ∃ w0, w0 = (w.alloc (.cells (tabV .u8 16 key) 22)).alloc (.cells (tabV .u8 8 nonce) 23) := ⟨_, rfl⟩
  obtain ⟨gk, hgk⟩ : ∃ g, g = w.heap.size := ⟨_, rfl⟩
  obtain ⟨gn, hgn⟩ : ∃ g, g = w.heap.size + 1 := ⟨_, rfl⟩
  rw [← hw0] at n1 n2 hx0
  rw [← hgk] at n1
  rw [← hgn] at n2
  have HKA := Lib.hid (fun (W : World) (hx : Ext w0 W) => show Arr W gk 22 .u8 16 key from hx.get n1)
  have HNA := Lib.hid (fun (W : World) (hx : Ext w0 W) => show Arr W gn 23 .u8 8 nonce from hx.get n2)
  have HTB := Lib.hid (fun (W : World) (hx : Ext w0 W) => ht.ext (hx0.tr hx))
  have HRB := Lib.hid (fun (W : World) (hx : Ext w0 W) => hrb.ext (hx0.tr hx))
  have HC := Lib.hid (And.intro hlc hcm)
  have HKK := Lib.hid (And.intro hkk hnn)
  have HW0 := Lib.hid hw0
  have HGE := Lib.hid (And.intro hgk hgn)
  have HX0 := Lib.hid hx0
  clear hw0 hgk hgn hx0 n1 n2 hrb hlc hcm ht hk' hn' hu' hr3 hkk hnn
  go_enter Tryz.func4, Tryz.ntmps4
  go_wp2_with fail
  rw [← HW0.out, ← HGE.out.2, ← HGE.out.1]
  refine (awake_c w0 (HTB.out _ (Ext.refl _))).mono ?_
  rintro x w1 ⟨rfl, hx1⟩
  have HX1 := Lib.hid hx1
  clear hx1
  by_cases hlong : 1500 < b.length
  · have t1 : (1500 : Int) < (b.length : Int) := by omega
    go_wp2_with fail
    refine (awake_c w1 (HTB.out _ HX1.out)).mono ?_
    rintro x w2 ⟨rfl, hx2⟩
    go_wp2_with fail
    go_ret
    exact ⟨rfl, HX0.out.tr (HX1.out.tr hx2)⟩
  · have t1 : ¬ (1500 : Int) < (b.length : Int) := by omega
    have HL := Lib.hid (show b.length ≤ 1500 by omega)
    clear hlong
    cases raw with
    | true =>
      have hka := HKA.out w1 HX1.out
      have HK2 := Lib.hid hka
      clear hka
      go_wp2_with (refine wpList_load_arr rfl 22 (.tmp 5) rfl gk rfl 22 .u8 16 key _ HK2.out Tryz.underlying22 size_bk ?_)
      have hto := topen_c cap3 key HKK.out.1 a3 b _ w1 (HTB.out w1 HX1.out) (by have := HL.out; omega) HC.out.1 HC.out.2 (HRB.out w1 HX1.out)
      skip
      obtain ⟨o, hoo⟩ : ∃ o, o = tko (btl 16 key) b := ⟨_, rfl⟩
      obtain ⟨q, hqq⟩ : ∃ q, q = tkcode (btl 16 key) b := ⟨_, rfl⟩
      rw [← hoo, ← hqq] at hto
      refine hto.mono ?_
      rintro x w3 ⟨T, rfl, hT, hx3⟩
      have hT20 := hT.size
      have HX3 := Lib.hid (HX1.out.tr hx3)
      have HTR := Lib.hid hT
      have HOO := Lib.hid hoo
      have HQQ := Lib.hid hqq
      have HS3 := Lib.hid (((HRB.out w1 HX1.out)).ext hx3)
      clear hto hT hx3 hoo hqq
      go_wp2_with (first
        | (refine wpList_store_tk rfl rfl (.tmp 12) (.tmp 36) rfl w3.heap.size T rfl rfl hT20 _ (new_of w3 _) rfl ?_
           intro w4 hd4 hg4
           have x34 := grown_new (Ext.alloc w3 _) hg4 (fun q e => by injection e with e; omega)
           have HX4 := Lib.hid (HX3.out.tr x34)
           have HT4 := Lib.hid (HTR.out.ext x34)
           have HS4 := Lib.hid (HS3.out.ext x34)
           have HD4 := Lib.hid hd4
           have hk4 := HKA.out w4 HX4.out
           have HK4 := Lib.hid hk4
           clear hd4 hg4 x34 hk4)
        | refine wpList_load_arr rfl 22 (.tmp 5) rfl gk rfl 22 .u8 16 key _ HK4.out Tryz.underlying22 size_bk ?_)
      obtain ⟨g4, hg4⟩ : ∃ g, g = w3.heap.size := ⟨_, rfl⟩
      rw [← hg4] at HD4 ⊢
      clear hg4
      have hro := rtopen_c cap3 key HKK.out.1 a3 b _ w4 (by have := HL.out; omega) HC.out.1 HS4.out
      skip
      rw [← HOO.out, ← HQQ.out] at hro
      refine hro.mono ?_
      rintro x w5 ⟨U, rfl, hU, hx5⟩
      have hU20 := hU.size
      have HX5 := Lib.hid (HX4.out.tr hx5)
      have HT5 := Lib.hid (HT4.out.ext hx5)
      have HD5 := Lib.hid (hx5.get HD4.out)
      have HUR := Lib.hid hU
      clear hro hU hx5 HX4 HT4 HD4 HX3 HTR HS3 HS4
      go_wp2_with (first
        | (refine wpList_store_tk rfl rfl (.tmp 14) (.tmp 42) rfl w5.heap.size U rfl rfl hU20 _ (new_of w5 _) rfl ?_
           intro w6 hd6 hg6
           have x56 := grown_new (Ext.alloc w5 _) hg6 (fun q e => by injection e with e; omega)
           have HX6 := Lib.hid (HX5.out.tr x56)
           have HT6 := Lib.hid (HT5.out.ext x56)
           have HU6 := Lib.hid (HUR.out.ext x56)
           have HD6 := Lib.hid (x56.get HD5.out)
           have HE6 := Lib.hid hd6
           clear hd6 hg6 x56)
        | refine wpList_load_tk rfl (.tmp 12) rfl g4 rfl T hT20.1 HD6.out ?_
        | refine wpList_load_tk rfl (.tmp 14) rfl w5.heap.size rfl U hU20.1 HE6.out ?_)
      refine (rtsame_read HT6.out HU6.out (fun r ps a e key h => tko_few (HOO.out.symm.trans h))).mono ?_
      rintro x w7 ⟨rfl, hx7⟩
      have t2 := beq_t (a := (q : Int)) (b := (q : Int)) rfl
      go_wp2_with fail
      go_ret
      exact ⟨rfl, HX0.out.tr (HX6.out.tr hx7)⟩
    | false =>
      obtain ⟨sd, hsd⟩ : ∃ sd, sd = sld (btl 16 key) u nonce b := ⟨_, rfl⟩
      have hka := HKA.out w1 HX1.out
      have hna := HNA.out w1 HX1.out
      have HKN := Lib.hid (And.intro hka hna)
      have HSL := Lib.hid (show sd.length = b.length + 24 by rw [hsd, sld_len])
      have HSD := Lib.hid hsd
      clear hka hna hsd
      go_wp2_with (first
        | refine wpList_load_arr rfl 22 (.tmp 5) rfl gk rfl 22 .u8 16 key _ HKN.out.1 Tryz.underlying22 size_bk ?_
        | refine wpList_load_arr rfl 23 (.tmp 7) rfl gn rfl 23 .u8 8 nonce _ HKN.out.2 Tryz.underlying23 size_nc ?_)
      refine (rseal_c cap3 key nonce HKK.out.1 HKK.out.2 u a3 b _ w1 (by have := HL.out; omega) (HRB.out w1 HX1.out)).mono ?_
      rw [← HSD.out]
      rintro x w2 ⟨B2, d2, rfl, ho2, hx2⟩
      have HX2 := Lib.hid (HX1.out.tr hx2)
      have HR2 := Lib.hid (ho2.rb.more (S' := fun _ _ => True) (fun _ _ _ => trivial))
      have HL2 := Lib.hid (show sd.length ≤ d2 ∧ d2 ≤ 9223372036854775807 from ho2.le)
      clear hx2 ho2
      have hka := HKA.out w2 HX2.out
      have HK2 := Lib.hid hka
      clear hka
      go_wp2_with (refine wpList_load_arr rfl 22 (.tmp 5) rfl gk rfl 22 .u8 16 key _ HK2.out Tryz.underlying22 size_bk ?_)
      have hto := topen_c d2 key HKK.out.1 B2 sd _ w2 (HTB.out w2 HX2.out) (by rw [HSL.out]; have := HL.out; omega) HL2.out.1 HL2.out.2 HR2.out
      rw [HSL.out] at hto
      obtain ⟨o, hoo⟩ : ∃ o, o = tko (btl 16 key) sd := ⟨_, rfl⟩
      obtain ⟨q, hqq⟩ : ∃ q, q = tkcode (btl 16 key) sd := ⟨_, rfl⟩
      rw [← hoo, ← hqq] at hto
      refine hto.mono ?_
      rintro x w3 ⟨T, rfl, hT, hx3⟩
      have hT20 := hT.size
      have HX3 := Lib.hid (HX2.out.tr hx3)
      have HTR := Lib.hid hT
      have HOO := Lib.hid hoo
      have HQQ := Lib.hid hqq
      have HS3 := Lib.hid ((HR2.out).ext hx3)
      clear hto hT hx3 hoo hqq
      go_wp2_with (first
        | (refine wpList_store_tk rfl rfl (.tmp 12) (.tmp 36) rfl w3.heap.size T rfl rfl hT20 _ (new_of w3 _) rfl ?_
           intro w4 hd4 hg4
           have x34 := grown_new (Ext.alloc w3 _) hg4 (fun q e => by injection e with e; omega)
           have HX4 := Lib.hid (HX3.out.tr x34)
           have HT4 := Lib.hid (HTR.out.ext x34)
           have HS4 := Lib.hid (HS3.out.ext x34)
           have HD4 := Lib.hid hd4
           have hk4 := HKA.out w4 HX4.out
           have HK4 := Lib.hid hk4
           clear hd4 hg4 x34 hk4)
        | refine wpList_load_arr rfl 22 (.tmp 5) rfl gk rfl 22 .u8 16 key _ HK4.out Tryz.underlying22 size_bk ?_)
      obtain ⟨g4, hg4⟩ : ∃ g, g = w3.heap.size := ⟨_, rfl⟩
      rw [← hg4] at HD4 ⊢
      clear hg4
      have hro := rtopen_c d2 key HKK.out.1 B2 sd _ w4 (by rw [HSL.out]; have := HL.out; omega) HL2.out.1 HS4.out
      rw [HSL.out] at hro
      rw [← HOO.out, ← HQQ.out] at hro
      refine hro.mono ?_
      rintro x w5 ⟨U, rfl, hU, hx5⟩
      have hU20 := hU.size
      have HX5 := Lib.hid (HX4.out.tr hx5)
      have HT5 := Lib.hid (HT4.out.ext hx5)
      have HD5 := Lib.hid (hx5.get HD4.out)
      have HUR := Lib.hid hU
      clear hro hU hx5 HX4 HT4 HD4 HX3 HTR HS3 HS4
      go_wp2_with (first
        | (refine wpList_store_tk rfl rfl (.tmp 14) (.tmp 42) rfl w5.heap.size U rfl rfl hU20 _ (new_of w5 _) rfl ?_
           intro w6 hd6 hg6
           have x56 := grown_new (Ext.alloc w5 _) hg6 (fun q e => by injection e with e; omega)
           have HX6 := Lib.hid (HX5.out.tr x56)
           have HT6 := Lib.hid (HT5.out.ext x56)
           have HU6 := Lib.hid (HUR.out.ext x56)
           have HD6 := Lib.hid (x56.get HD5.out)
           have HE6 := Lib.hid hd6
           clear hd6 hg6 x56)
        | refine wpList_load_tk rfl (.tmp 12) rfl g4 rfl T hT20.1 HD6.out ?_
        | refine wpList_load_tk rfl (.tmp 14) rfl w5.heap.size rfl U hU20.1 HE6.out ?_)
      refine (rtsame_read HT6.out HU6.out (fun r ps a e key h => tko_few (HOO.out.symm.trans h))).mono ?_
      rintro x w7 ⟨rfl, hx7⟩
      have t2 := beq_t (a := (q : Int)) (b := (q : Int)) rfl
      go_wp2_with fail
      go_ret
      exact ⟨rfl, HX0.out.tr (HX6.out.tr hx7)⟩
end Go.Proofs.YtagegigffohcbaaGreatDoor
