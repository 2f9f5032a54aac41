/-
  TicketParses walked.
-/
import Derived.Test.YtagegigffohcbaaDoorNE
import Derived.Test.YtagegigffohcbaaDoorQTicF

namespace Go.Proofs.YtagegigffohcbaaDoor
open Go.RowKit
set_option linter.unusedVariables false
set_option linter.unusedSimpArgs false

theorem tkvI_zero : tkvI ⟨#[]⟩ [] 0 0 = false := by kernel_rfl
theorem tsm_self (s : ByteArray) (ss : List ByteArray) (a e : Int) (key : Nat → Nat) : tsm s ss a e key s ss a e key = true := by
  unfold tsm
  rw [sm_t rfl rfl, eqb_true.2 (fun i hi => rfl)]
  simp
/-- the zero ticket has no bytes -/
theorem tbytes_zero (w : World) : Calls Tryd.prog 7 #[.agg tkz] w fun x w' => x = .returned (.tuple #[.slice none 0 0, .bool false]) ∧ Ext w w' :=
  tbytes_no ⟨#[]⟩ none 0 [] 0 0 (fun _ => 0) (fun _ _ => True) w (SR.nil _ _ _) (by decide) (by simp) (by simp) tkvI_zero
/-- two tickets that were read of the same bytes -/
theorem rtsame_read {o : Option (List UInt8 × List (List UInt8) × Nat × Nat × List UInt8)} {T U : Array Value} {w : World} (hT : TkR w T o) (hU : TkR w U o) (hn : ∀ r ps a e key, o = some (r, ps, a, e, key) → ps.length ≤ 1000) : Calls Tryd.prog 11 #[.agg T, .agg U] w fun x w' => x = .returned (.bool true) ∧ Ext w w' := by
  match o, hT, hU, hn with
  | none, hT, hU, _ =>
    obtain rfl : T = tkz := hT
    obtain rfl : U = tkz := hU
    exact rtsame_zero w
  | some (r, ps, a, e, key), ⟨s, A, c, ss, hT, hs, _, _, h1, h2⟩, ⟨s', A', c', ss', hU, hs', _, _, h3, h4⟩, hn =>
    obtain rfl : s' = s := bl_ext (h3.trans h1.symm)
    obtain rfl : ss' = ss := bls_ext (h4.trans h2.symm)
    have hl := hn r ps a e key rfl
    have hl2 : ss'.length ≤ 1000 := by rw [← h2] at hl; simpa [bls] using hl
    have h := rtsame_c s' s' A A' c c' ss' ss' a e a e (byt key) (byt key) _ _ w hs hs' (by omega) (by omega)
    rw [tsm_self] at h
    rw [hT, hU]
    exact h
theorem tkr_few {l r key : List UInt8} {ps : List (List UInt8)} {a e : Nat} (h : tkr l = some (r, ps, a, e, key)) : ps.length ≤ 1000 := by
  have := (vl_parts (tkv_parts (tkr_sound h).1).1).2.1
  omega

set_option maxRecDepth 100000 in
set_option maxHeartbeats 8000000 in
theorem ticketParses_walk (a0 : Option Addr) (len0 cap0 : Nat) (z0 : List Int) (w : World) (hr0 : IsRow .u8 w a0 len0 cap0 z0) (ht : Tab w) :
    Calls Tryd.prog 4 #[.slice a0 len0 cap0] w fun x w' => x = .returned (.bool true) ∧ Ext w w' := by
  obtain ⟨b, rfl, hlc, hcm, hrb⟩ := row_bytes hr0
  unfold maxLen at hcm
  clear hr0
  have HR := Lib.hid hrb
  have HT := Lib.hid ht
  have HC := Lib.hid (And.intro hlc hcm)
  clear hrb ht hlc hcm
  go_enter Tryd.func4, Tryd.ntmps4
  go_wp2_with fail
  refine (awake_c w HT.out).mono ?_
  rintro x w1 ⟨rfl, hx1⟩
  have HX1 := Lib.hid hx1
  clear hx1
  by_cases hlong : 1500 < b.length
  · have t1 : (1500 : Int) < (b.length : Int) := by omega
    go_wp2_with fail
    refine (awake_c w1 (HT.out.ext HX1.out)).mono ?_
    rintro x w2 ⟨rfl, hx2⟩
    go_wp2_with fail
    go_ret
    exact ⟨rfl, HX1.out.tr hx2⟩
  · have t1 : ¬ (1500 : Int) < (b.length : Int) := by omega
    have HL := Lib.hid (show b.length ≤ 1500 by omega)
    clear hlong
    go_wp2_with fail
    refine (tparse_c a0 cap0 b _ w1 (HR.out.ext HX1.out) (by have := HL.out; omega)).mono ?_
    rintro x w2 ⟨T, rfl, hT, hx2⟩
    rw [tkp_tkr] at hT ⊢
    obtain ⟨o, ho⟩ : ∃ o, o = tkr b := ⟨_, rfl⟩
    rw [← ho] at hT ⊢
    have hT20 := hT.size
    have HX2 := Lib.hid (HX1.out.tr hx2)
    have HTR := Lib.hid hT
    have HO := Lib.hid ho
    obtain ⟨k, hk⟩ : ∃ k, k = o.isSome := ⟨_, rfl⟩
    rw [← hk]
    have HK := Lib.hid hk
    clear hx2 hT ho hk HX1
    go_wp2_with (first
      | (refine wpList_store_tk rfl rfl (.tmp 3) (.tmp 20) rfl w2.heap.size T rfl rfl hT20 _ (new_of w2 _) rfl ?_
         intro w3 hd3 hg3
         have x23 := grown_new (Ext.alloc w2 _) hg3 (fun q e => by injection e with e; omega)
         have HX3 := Lib.hid (HX2.out.tr x23)
         have HT3 := Lib.hid (HTR.out.ext x23)
         have HD3 := Lib.hid hd3
         clear hd3 hg3 x23))
    obtain ⟨g3, hg3⟩ : ∃ g, g = w2.heap.size := ⟨_, rfl⟩
    rw [← hg3] at HD3 ⊢
    clear hg3 HX2 HTR
    refine (rtparse_c a0 cap0 b _ w3 (HR.out.ext HX3.out) HC.out.1 HC.out.2 (by have := HL.out; omega)).mono ?_
    rintro x w4 ⟨U, rfl, hU, hx4⟩
    rw [← HO.out] at hU ⊢
    rw [← HK.out]
    have hU20 := hU.size
    have HX4 := Lib.hid (HX3.out.tr hx4)
    have HT4 := Lib.hid (HT3.out.ext hx4)
    have HD4 := Lib.hid (hx4.get HD3.out)
    have HUR := Lib.hid hU
    clear hx4 hU HX3 HT3 HD3
    go_wp2_with (first
      | (refine wpList_store_tk rfl rfl (.tmp 5) (.tmp 25) rfl w4.heap.size U rfl rfl hU20 _ (new_of w4 _) rfl ?_
         intro w5 hd5 hg5
         have x45 := grown_new (Ext.alloc w4 _) hg5 (fun q e => by injection e with e; omega)
         have HX5 := Lib.hid (HX4.out.tr x45)
         have HT5 := Lib.hid (HT4.out.ext x45)
         have HU5 := Lib.hid (HUR.out.ext x45)
         have HD5 := Lib.hid (x45.get HD4.out)
         have HE5 := Lib.hid hd5
         clear hd5 hg5 x45)
      | refine wpList_load_tk rfl (.tmp 3) rfl g3 rfl T hT20.1 HD5.out ?_
      | refine wpList_load_tk rfl (.tmp 5) rfl w4.heap.size rfl U hU20.1 HE5.out ?_)
    refine (rtsame_read HT5.out HU5.out (fun r ps a e key h => tkr_few (HO.out.symm.trans h))).mono ?_
    rintro x w6 ⟨rfl, hx6⟩
    have HX6 := Lib.hid (HX5.out.tr hx6)
    have HT6 := Lib.hid (HT5.out.ext hx6)
    have HD6 := Lib.hid (hx6.get HD5.out)
    clear hx6 HX5 HT5 HU5 HD5 HE5 HX4 HT4 HD4 HUR
    cases o with
    | none =>
      obtain rfl : k = false := HK.out
      obtain rfl : T = tkz := HT6.out
      go_wp2_with (refine wpList_load_tk rfl (.tmp 3) rfl g3 rfl tkz hT20.1 HD6.out ?_)
      refine (tbytes_zero w6).mono ?_
      rintro x w7 ⟨rfl, hx7⟩
      go_wp2_with fail
      go_ret
      exact ⟨rfl, HX6.out.tr hx7⟩
    | some y =>
      obtain ⟨r, ps, a, e, key⟩ := y
      obtain rfl : k = true := HK.out
      obtain ⟨hv, hkl, hbe⟩ := tkr_sound HO.out.symm
      obtain ⟨s, A, c, ss, hTe, hsr, _, _, hbs, hbss⟩ := HT6.out
      rw [← hbs, ← hbss] at hv hbe
      obtain ⟨z1, z2, z3⟩ := vl_small (tkv_parts hv).1
      have hby := tbytes_c s A c ss a e (byt key) (fun i _ => byt_lt _ _) _ w6 hsr z1 z2 z3 hv
      have hkk : btl 16 (byt key) = key := by rw [← hkl]; exact btl_all key
      rw [hkk, ← hbe, ← hTe] at hby
      have HBY := Lib.hid hby
      clear hby hkk hbe hTe hbs hbss hsr z1 z2 z3 hv hkl
      go_wp2_with (refine wpList_load_tk rfl (.tmp 3) rfl g3 rfl T hT20.1 HD6.out ?_)
      refine HBY.out.mono ?_
      rintro x w7 ⟨B, d, rfl, hr7, _, _, hx7⟩
      have HX7 := Lib.hid (HX6.out.tr hx7)
      have HR7 := Lib.hid hr7
      clear hx7 hr7
      go_wp2_with fail
      refine (same_c B a0 b b d cap0 _ _ w7 HR7.out (HR.out.ext HX7.out) (by have := HL.out; omega)).mono ?_
      rintro x w8 ⟨rfl, n8, rfl⟩
      rw [show decide (b = b) = true by simp]
      go_wp2_with fail
      go_ret
      exact ⟨rfl, HX7.out.tr (Ext.drewN _ _)⟩
end Go.Proofs.YtagegigffohcbaaDoor
