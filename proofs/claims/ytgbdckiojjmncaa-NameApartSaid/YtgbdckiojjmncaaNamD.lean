/-
  Texts of names: the package's and the reference's; names compared.
-/
import Derived.Test.YtgbdckiojjmncaaNamB
import Derived.Test.YtgbdckiojjmncaaNamC
import Derived.Test.YtgbdckiojjmncaaShelf
import Derived.Deep.RegionHeld3
namespace Go.Proofs.Ytgbdckiojjmncaa
open Go.RowKit

theorem info_str : (Try.prog.info? 9).map (fun i => (i.zero, i.size, i.bytes)) = some (some (.string ByteArray.empty), 1, 16) := by kernel_rfl
theorem info_parts' {P : Program} {e : TypeId} {z : Value} {s b : Nat} (h : (P.info? e).map (fun i => (i.zero, i.size, i.bytes)) = some (some z, s, b)) : ∃ i, P.info? e = some i ∧ i.zero = some z ∧ i.size = s ∧ i.bytes = b := by
  cases hi : P.info? e with
  | none => rw [hi] at h; cases h
  | some i =>
    rw [hi] at h
    simp only [Option.map_some, Option.some.injEq, Prod.mk.injEq] at h
    exact ⟨i, rfl, h.1, h.2.1, h.2.2⟩
theorem strs_one (ss : List ByteArray) : ∀ u ∈ ss.map Value.string, u.oneCell' = true := by
  intro u hu
  obtain ⟨b, _, rfl⟩ := List.mem_map.1 hu
  rfl
section
variable {w w' : World} {E : TypeId} {base c g : Nat} {ss : List ByteArray}
/-- strings of the call's own in a row that has so many cells -/
def OwnS (w : World) (E : TypeId) (base : Nat) (A : Option Addr) (c : Nat) (ss : List ByteArray) : Prop := w.ownsRow base E 1 (.slice A ss.length c) ss.length (ss.map Value.string)
theorem OwnS.v {A : Option Addr} (h : OwnS w E base A c ss) : OwnV w E base A c (ss.map Value.string) := by
  unfold OwnV
  rw [List.length_map]
  exact h
theorem OwnV.s {A : Option Addr} (h : OwnV w E base A c (ss.map Value.string)) : OwnS w E base A c ss := by
  unfold OwnV at h
  rw [List.length_map] at h
  exact h
theorem OwnS.nil (w : World) (E : TypeId) (base : Nat) : OwnS w E base none 0 [] := World.ownsRow_nil _ _ _ _
theorem OwnS.sr {A : Option Addr} (h : OwnS w E base A c ss) : SR w (fun g t => base ≤ g ∧ t = E ∧ (Value.slice A ss.length c).ownBlock = some g) A ss := OwnV.sr h.v
theorem OwnS.ext {A : Option Addr} (h : OwnS w E base A c ss) (hb : Ext w w') : OwnS w' E base A c ss := (h.v.ext hb).s
theorem OwnS.ge {A : Option Addr} (h : OwnS w E base A c ss) : ∀ g, (Value.slice A ss.length c).ownBlock = some g → base ≤ g := by
  have := h.v.ge
  rw [List.length_map] at this
  exact this
theorem OwnS.le {A : Option Addr} (h : OwnS w E base A c ss) : ss.length ≤ c ∧ c ≤ maxLen := by
  rcases h.v.block with ⟨_, rfl, h0⟩ | ⟨_, _, _, _, _, h1, h2, _⟩
  · have := congrArg List.length h0
    simp at this
    simp [this]
  · rw [List.length_map] at h1
    exact ⟨h1, h2⟩
theorem OwnS.cellAt (h : OwnS w E base (some ⟨g, 0, none⟩) c ss) {j : Nat} (hj : j < ss.length) : w.cell? ⟨g, j, none⟩ = some (.string ss[j]) := by
  have := World.ownsRow.cellAt h j (by omega)
  rw [this, List.getElem?_map, List.getElem?_eq_getElem hj]
  rfl
theorem OwnS.freeAt (h : OwnS w E base (some ⟨g, 0, none⟩) c ss) (j : Nat) : w.frozen? ⟨g, j, none⟩ = false := World.ownsRow.frozenAt h j
theorem OwnS.set_ (h : OwnS w E base (some ⟨g, 0, none⟩) c ss) (j : Nat) (s : ByteArray) : OwnS (w.setCell ⟨g, j, none⟩ (.string s)) E base (some ⟨g, 0, none⟩) c (ss.set j s) := by
  have := (World.ownsRow.stored h j (.string s)).1
  unfold OwnS
  rw [List.length_set, List.map_set]
  exact this
theorem OwnS.at_ (h : OwnS w E base (some ⟨g, 0, none⟩) c ss) : base ≤ g ∧ g < w.heap.size := by
  rcases h.v.block with ⟨hA, _⟩ | ⟨g', cs, hA, hb, hh, _⟩
  · cases hA
  · injection hA with hA
    injection hA with hA
    subst hA
    exact ⟨hb, lt_of_some hh⟩
theorem made_strs (n : Nat) : (madeCells (Value.string ByteArray.empty).cells (n * 1)).toList = (List.replicate n ByteArray.empty).map Value.string := by
  rw [show (Value.string ByteArray.empty).cells = #[.string ByteArray.empty] from rfl, toList_madeCells_one, Nat.mul_one, List.map_replicate]
end

theorem jn_join (ps : List (List UInt8)) : Lib.join (ps.map esc) [47] = jn ps := by
  cases ps with
  | nil => rfl
  | cons p ps =>
    rw [List.map_cons, Lib.join_cons, jn]
    congr 1
    rw [Lib.joinTail, List.map_map, tls]
    rfl
theorem jn_len8 {ps : List (List UInt8)} (h1 : ps.length ≤ 8) (h2 : ∀ p ∈ ps, wd p = true) : (jn ps).length ≤ 1608 := by
  cases ps with
  | nil => simp [jn]
  | cons p ps =>
    have k1 := tls_len ps (fun q hq => h2 q (by simp [hq]))
    have k2 := esc_len p
    have k3 := (wd_len (h2 p (by simp))).2
    rw [jn, List.length_append]
    rw [List.length_cons] at h1
    omega

set_option maxRecDepth 100000 in
set_option maxHeartbeats 2000000 in
theorem text_c (s : ByteArray) (A : Option Addr) (c : Nat) (ss : List ByteArray) (S : Nat → TypeId → Prop) (w : World) (h : SR w S A ss) (hs : s.size ≤ 9223372036854775807) (hz : ∀ t ∈ ss, t.size ≤ 9223372036854775807) (hn : ss.length ≤ 9223372036854775807) :
    Calls Try.prog 9 #[.agg #[.string s, .slice A ss.length c]] w fun e w' => ∃ t : ByteArray, e = .returned (.string t) ∧ bl t = txt (bl s) (bls ss) ∧ Ext w w' := by
  obtain ⟨i0, hi0, hz0, hz1, hz2⟩ := info_parts' info_str
  have hd := new_of w (.cells #[.string s, .slice A ss.length c] 24)
  obtain ⟨wo, hwo⟩ : ∃ wo : World, wo = w.alloc (.cells #[.string s, .slice A ss.length c] 24) := ⟨_, rfl⟩
  rw [← hwo] at hd
  have hx0 : Ext w wo := by rw [hwo]; exact Ext.alloc _ _
  have hval := valid_c s A c ss S wo (h.ext hx0) hs hz hn
  have H := Lib.hid h
  have HZ := Lib.hid hz
  have HD := Lib.hid hd
  have HX0 := Lib.hid hx0
  have HW := Lib.hid hwo
  clear h hz hd hx0
  by_cases hv : vl (bl s) (bls ss) = true
  · rw [hv] at hval
    obtain ⟨v1, v2, v3, v4⟩ := vl_parts hv
    rw [bls_len] at v1 v2
    have hsl := (wd_len v4).2
    rw [bl_len] at hsl
    have hpl : ∀ (k : Nat) (hk : k < ss.length), (ss[k]).size ≤ 100 := fun k hk => by
      have := (wd_len (v3 (bl ss[k]) (List.mem_map.2 ⟨ss[k], List.getElem_mem _, rfl⟩))).2
      rw [bl_len] at this
      exact this
    have htx : txt (bl s) (bls ss) = tx0 (bl s) (bls ss) := by rw [txt, if_pos hv]
    have hjl := jn_len8 (ps := bls ss) (by rw [bls_len]; exact v2) v3
    have HPL := Lib.hid hpl
    have HTX := Lib.hid htx
    have HVAL := Lib.hid hval
    have HJL := Lib.hid hjl
    clear hpl htx hval v3 v4 hv hjl
    rw [hwo] at HVAL
    go_enter Try.func9, Try.ntmps9
    go_wp2_with fail
    refine HVAL.out.mono ?_
    rintro e w1 ⟨rfl, hx1⟩
    rw [← HW.out] at hx1
    have hd1 := hx1.get HD.out
    have c0 : w1.cell? ⟨w.heap.size, 0, none⟩ = some (.string s) := cells_of hd1 0
    have c1 : w1.cell? ⟨w.heap.size, 1, none⟩ = some (.slice A ss.length c) := cells_of hd1 1
    have HD1 := Lib.hid hd1
    have HX1 := Lib.hid (HX0.out.tr hx1)
    clear hx1 hd1 hwo
    go_wp2_with (at_make; refine wpList_make_full _ rfl _ _ 22 rfl w1.heap.size 9 i0 (.string ByteArray.empty) 1 Try.underlying22 hi0 hz0 hz1 .i64 .i64 _ _ ss.length rfl rfl rfl rfl (by rw [hz2]; omega) (by unfold maxLen; omega) (Nat.le_refl _) ?_; intro w2 ho2 hg2; have hx2 : Ext w1 w2 := grown_ext hg2; have k1 : w2.cell? ⟨w.heap.size, 1, none⟩ = some (.slice A ss.length c) := cells_of (hx2.get HD1.out) 1)
    have hmade : OwnS w2 9 w1.heap.size (some ⟨w1.heap.size, 0, none⟩) ss.length (List.replicate ss.length ByteArray.empty) := by
      unfold OwnS
      rw [List.length_replicate, ← made_strs]
      exact ho2
    have HX2 := Lib.hid (HX1.out.tr hx2)
    have hd2 := hx2.get HD1.out
    have HD2 := Lib.hid hd2
    have hszl := lt_of_some HD1.out
    have hszw := HX1.out.size
    clear ho2 hg2 hx2 c0 c1 hd2
    go_loopw [4, 5, 16] (fun _ _ i wr => ∃ (k : Nat) (ws : List ByteArray), k ≤ ss.length ∧ i = .int .i64 k ∧ ws.length = ss.length ∧ (bls ws).take k = ((bls ss).take k).map esc ∧ OwnS wr 9 w1.heap.size (some ⟨w1.heap.size, 0, none⟩) ss.length ws ∧ Ext w wr ∧ wr.heap[w.heap.size]? = some (.cells #[.string s, .slice A ss.length c] 24 (0, 0))) (fun _ _ i _ => ss.length - (intOf i).toNat)
    case atStart => exact ⟨0, _, Nat.zero_le _, rfl, List.length_replicate, by simp, hmade, HX2.out, HD2.out⟩
    case round =>
      obtain ⟨k, ws, hk, rfl, hwl, htk, hor, hx, hdr⟩ := hrel
      have HX := Lib.hid hx
      have HDR := Lib.hid hdr
      have HTK := Lib.hid htk
      clear hx hdr htk
      by_cases hlt : k < ss.length
      · obtain ⟨g, off, rfl, hc⟩ := (H.out.ext HX.out).cell hlt
        have hps := HPL.out k hlt
        have HOR := Lib.hid hor
        clear hor
        go_wp2_with fail
        refine (escaped_c ss[k] wr (by omega)).mono ?_
        rintro e w3 ⟨t, rfl, ht, hx3⟩
        have hor3 := HOR.out.ext hx3
        have hkw : k < ws.length := by omega
        have hcw := hor3.cellAt hkw
        have hfz := hor3.freeAt k
        have hst := hor3.set_ k t
        have htk2 : (bls (ws.set k t)).take (k + 1) = ((bls ss).take (k + 1)).map esc := by
          rw [List.take_succ_eq_append_getElem (by rw [bls_len, List.length_set]; exact hkw), List.take_succ_eq_append_getElem (l := bls ss) (by rw [bls_len]; exact hlt), List.map_append, ← HTK.out]
          congr 1
          · rw [← bls_take, ← bls_take, List.take_set_of_le (Nat.le_refl _)]
          · rw [bls_get (by rw [List.length_set]; exact hkw), bls_get hlt]
            simp [ht]
        have hd3 := hx3.get HDR.out
        have hwl2 : (ws.set k t).length = ss.length := by rw [List.length_set]; exact hwl
        obtain ⟨ws2, hws2⟩ : ∃ ws2, ws2 = ws.set k t := ⟨_, rfl⟩
        rw [← hws2] at hst htk2 hwl2
        have HST := Lib.hid hst
        have HTK2 := Lib.hid htk2
        have HD3 := Lib.hid hd3
        have HX3 := Lib.hid (HX.out.tr hx3)
        clear hor3 hst htk2 hd3 hx3 hws2 ht
        go_wp2_with fail
        go_roundw
        case rel => exact ⟨k + 1, ws2, by omega, by go_num, hwl2, HTK2.out, HST.out, HX3.out.setCell (by show w.heap.size ≤ w1.heap.size; omega) _, by rw [Below.heap_setCell _ _ _ _ (by show w.heap.size ≠ w1.heap.size; omega)]; exact HD3.out⟩
        case measure => simp [intOf]; omega
      · have hall : bls ws = (bls ss).map esc := by
          have := HTK.out
          rw [List.take_of_length_le (by rw [bls_len]; omega), List.take_of_length_le (by rw [bls_len]; omega)] at this
          exact this
        have c0 : wr.cell? ⟨w.heap.size, 0, none⟩ = some (.string s) := cells_of HDR.out 0
        have hcl : ∀ (j : Nat) x, ws[j]? = some x → wr.cell? ⟨w1.heap.size, 0 + j, none⟩ = some (.string x) := fun j x hj => by
          obtain ⟨hjl, e⟩ := List.getElem?_eq_some_iff.1 hj
          rw [Nat.zero_add, hor.cellAt hjl, e]
        have hjn : Lib.join (ws.map (·.data.toList)) (⟨#[47]⟩ : ByteArray).data.toList = jn (bls ss) := by
          rw [← jn_join, ← hall]
          rfl
        have hcall := Try.strings_Join w1.heap.size 0 ss.length ws ⟨#[47]⟩ wr.drew (fun j x hj => hcl j x hj) hor.at_.2 (by omega) (by omega) (by rw [hjn]; have := HJL.out; omega)
        rw [hjn, hwl] at hcall
        obtain ⟨t1, ht1⟩ : ∃ t1 : ByteArray, t1 = ⟨(jn (bls ss)).toArray⟩ := ⟨_, rfl⟩
        rw [← ht1] at hcall
        have htl : t1.size ≤ 1608 := by
          rw [ht1]
          show (jn (bls ss)).toArray.size ≤ 1608
          simpa using HJL.out
        have hbt : bl t1 = jn (bls ss) := by rw [ht1, bl_mk]
        have HBT := Lib.hid hbt
        have HC := Lib.hid hcall
        clear hcall hbt ht1 hjn hcl hall hor
        have ha1 := fun W => run_string_add_sum (P := Try.prog) (w := W) t1 ⟨#[64]⟩ (by show t1.size + 1 ≤ _; omega)
        go_wp2_with fail
        go_region_held3 (fun W => W.cell? ⟨w.heap.size, 0, none⟩ = some (.string s)) (first | exact c6 | exact c7 | go_keep)
          (first
            | (go_at_call 26
               refine HC.out.mono ?_
               rintro e w6 ⟨rfl, hx6⟩
               have X6 := Lib.hid ((HX.out.tr (Ext.drew wr)).tr hx6)
               have c6 : w6.cell? ⟨w.heap.size, 0, none⟩ = some (.string s) := cells_of (((Ext.drew wr).tr hx6).get HDR.out) 0
               have HD6 := Lib.hid (((Ext.drew wr).tr hx6).get HDR.out))
            | (go_at_call 25
               refine (escaped_c s w6 (by omega)).mono ?_
               rintro e w7 ⟨t2, rfl, ht2, hx7⟩
               have htl2 : t2.size ≤ 200 := by
                 rw [← bl_len, ht2]
                 have := esc_len (bl s)
                 rw [bl_len] at this
                 omega
               have ha2 := fun W => run_string_add_sum (P := Try.prog) (w := W) (t1 ++ ⟨#[64]⟩) t2 (by rw [ByteArray.size_append', show (⟨#[64]⟩ : ByteArray).size = 1 from rfl]; omega)
               have HT2 := Lib.hid ht2
               have X7 := Lib.hid (X6.out.tr hx7)
               have c7 : w7.cell? ⟨w.heap.size, 0, none⟩ = some (.string s) := cells_of (hx7.get HD6.out) 0
               clear ht2 hx7))
        all_goals
          go_wp2_with fail
          go_ret
          exact ⟨t1 ++ ⟨#[64]⟩ ++ t2, rfl, by rw [HTX.out, bl_append, bl_append, HBT.out, HT2.out, tx0, show bl ⟨#[64]⟩ = [64] from rfl]; simp, X7.out⟩
  · have hv' : vl (bl s) (bls ss) = false := by simpa using hv
    rw [hv'] at hval
    have htx : txt (bl s) (bls ss) = [] := by rw [txt, if_neg hv]
    have HTX := Lib.hid htx
    have HVAL := Lib.hid hval
    clear htx hval hv hv'
    rw [hwo] at HVAL
    go_enter Try.func9, Try.ntmps9
    go_wp2_with fail
    refine HVAL.out.mono ?_
    rintro e w1 ⟨rfl, hx1⟩
    rw [← HW.out] at hx1
    have HX1 := Lib.hid (HX0.out.tr hx1)
    clear hx1 hwo
    go_wp2_with fail
    go_ret
    exact ⟨⟨#[]⟩, rfl, by rw [HTX.out]; rfl, HX1.out⟩

theorem jn_take (ps : List (List UInt8)) {k : Nat} (h1 : 1 ≤ k) (hk : k < ps.length) : jn (ps.take (k + 1)) = jn (ps.take k) ++ 47 :: esc ps[k] := by
  rw [List.take_succ_eq_append_getElem hk, jn_snoc]
  intro e
  have h0 : (ps.take k).length = 0 := by rw [e]; rfl
  rw [List.length_take] at h0
  omega
theorem jn_one (ps : List (List UInt8)) (h : 0 < ps.length) : jn (ps.take 1) = esc ps[0] := by
  cases ps with
  | nil => simp at h
  | cons p ps => simp [jn, tls]

set_option maxRecDepth 100000 in
set_option maxHeartbeats 2000000 in
theorem rtext_c (s : ByteArray) (A : Option Addr) (c : Nat) (ss : List ByteArray) (S : Nat → TypeId → Prop) (w : World) (h : SR w S A ss) (hs : s.size ≤ 9223372036854775807) (hz : ∀ t ∈ ss, t.size ≤ 9223372036854775807) (hn : ss.length ≤ 9223372036854775807) :
    Calls Try.prog 13 #[.agg #[.string s, .slice A ss.length c]] w fun e w' => ∃ t : ByteArray, e = .returned (.string t) ∧ bl t = txt (bl s) (bls ss) ∧ Ext w w' := by
  have hd := new_of w (.cells #[.string s, .slice A ss.length c] 24)
  obtain ⟨wo, hwo⟩ : ∃ wo : World, wo = w.alloc (.cells #[.string s, .slice A ss.length c] 24) := ⟨_, rfl⟩
  rw [← hwo] at hd
  have hx0 : Ext w wo := by rw [hwo]; exact Ext.alloc _ _
  have hval := rvalid_c s A c ss S wo (h.ext hx0) hs hz hn
  have H := Lib.hid h
  have HD := Lib.hid hd
  have HX0 := Lib.hid hx0
  have HW := Lib.hid hwo
  clear h hz hd hx0
  by_cases hv : vl (bl s) (bls ss) = true
  · rw [hv] at hval
    obtain ⟨v1, v2, v3, v4⟩ := vl_parts hv
    rw [bls_len] at v1 v2
    have hsl := (wd_len v4).2
    rw [bl_len] at hsl
    have hpl : ∀ (k : Nat) (hk : k < ss.length), (ss[k]).size ≤ 100 := fun k hk => by
      have := (wd_len (v3 (bl ss[k]) (List.mem_map.2 ⟨ss[k], List.getElem_mem _, rfl⟩))).2
      rw [bl_len] at this
      exact this
    have htx : txt (bl s) (bls ss) = tx0 (bl s) (bls ss) := by rw [txt, if_pos hv]
    have HPL := Lib.hid hpl
    have HTX := Lib.hid htx
    have HVAL := Lib.hid hval
    have HV1 := Lib.hid v1
    clear hpl htx hval v3 v4 hv
    rw [hwo] at HVAL
    go_enter Try.func13, Try.ntmps13
    go_wp2_with fail
    refine HVAL.out.mono ?_
    rintro e w1 ⟨rfl, hx1⟩
    rw [← HW.out] at hx1
    have hd1 := hx1.get HD.out
    have c0 : w1.cell? ⟨w.heap.size, 0, none⟩ = some (.string s) := cells_of hd1 0
    have c1 : w1.cell? ⟨w.heap.size, 1, none⟩ = some (.slice A ss.length c) := cells_of hd1 1
    have HX1 := Lib.hid (HX0.out.tr hx1)
    obtain ⟨g, off, rfl, hc⟩ := (H.out.ext HX1.out).cell (k := 0) (by omega)
    have hcw := HPL.out 0 (by omega)
    rw [Nat.add_zero] at hc
    have hj1 := jn_one (bls ss) (by rw [bls_len]; omega)
    rw [bls_get (by omega)] at hj1
    have HJ1 := Lib.hid hj1
    clear hx1 hd1 hwo hj1
    have v1' : (1 : Int) ≤ (ss.length : Int) := by omega
    go_wp2_with fail
    refine (rescape_c ss[0] w1 (by omega)).mono ?_
    rintro e w1' ⟨t0, rfl, ht0, rfl⟩
    have ht0s : t0.size ≤ 200 := by
      rw [← bl_len, ht0]
      have := esc_len (bl ss[0])
      rw [bl_len] at this
      omega
    have HT0 := Lib.hid (ht0.trans HJ1.out.symm)
    clear ht0 hc
    go_wp2_with fail
    go_loop [3, 4] (fun v i => ∃ (k : Nat) (o : ByteArray), 1 ≤ k ∧ k ≤ ss.length ∧ i = .int .i64 k ∧ v = .string o ∧ o.size ≤ 201 * k ∧ bl o = jn ((bls ss).take k)) (fun _ i => ss.length - (intOf i).toNat)
    case atStart => exact ⟨1, t0, Nat.le_refl _, HV1.out, rfl, rfl, by omega, HT0.out⟩
    case round =>
      obtain ⟨k, o, hk1, hk, rfl, rfl, hos, ho⟩ := hrel
      have HO := Lib.hid ho
      clear ho
      by_cases hlt : k < ss.length
      · obtain ⟨g', off', hA, hc⟩ := (H.out.ext HX1.out).cell hlt
        injection hA with hA
        injection hA with hA1 hA2
        subst hA1 hA2
        have hcw2 := HPL.out k hlt
        have hj := jn_take (bls ss) hk1 (by rw [bls_len]; exact hlt)
        rw [bls_get hlt, ← HO.out] at hj
        have HJ := Lib.hid hj
        have ha1 := fun W => run_string_add_sum (P := Try.prog) (w := W) o ⟨#[47]⟩ (by show o.size + 1 ≤ _; omega)
        clear hj
        go_wp2_with fail
        refine (rescape_c ss[k] w1 (by omega)).mono ?_
        rintro e w1' ⟨t, rfl, ht, rfl⟩
        have hts : t.size ≤ 200 := by
          rw [← bl_len, ht]
          have := esc_len (bl ss[k])
          rw [bl_len] at this
          omega
        have HT := Lib.hid ht
        have ha2 := fun W => run_string_add_sum (P := Try.prog) (w := W) (o ++ ⟨#[47]⟩) t (by rw [ByteArray.size_append', show (⟨#[47]⟩ : ByteArray).size = 1 from rfl]; omega)
        clear ht
        go_wp2_with fail
        go_round
        case rel => exact ⟨k + 1, o ++ ⟨#[47]⟩ ++ t, by omega, by omega, by go_num, rfl, by rw [ByteArray.size_append', ByteArray.size_append', show (⟨#[47]⟩ : ByteArray).size = 1 from rfl]; omega, by rw [HJ.out, bl_append, bl_append, HT.out, show bl ⟨#[47]⟩ = [47] from rfl]; simp⟩
        case measure => simp [intOf]; omega
      · have ek : (bls ss).take k = bls ss := List.take_of_length_le (by rw [bls_len]; omega)
        have HE := Lib.hid ek
        have ha1 := fun W => run_string_add_sum (P := Try.prog) (w := W) o ⟨#[64]⟩ (by show o.size + 1 ≤ _; omega)
        clear ek
        go_wp2_with fail
        refine (rescape_c s w1 (by omega)).mono ?_
        rintro e w1' ⟨t, rfl, ht, rfl⟩
        have hts : t.size ≤ 200 := by
          rw [← bl_len, ht]
          have := esc_len (bl s)
          rw [bl_len] at this
          omega
        have HT := Lib.hid ht
        have ha2 := fun W => run_string_add_sum (P := Try.prog) (w := W) (o ++ ⟨#[64]⟩) t (by rw [ByteArray.size_append', show (⟨#[64]⟩ : ByteArray).size = 1 from rfl]; omega)
        clear ht
        go_wp2_with fail
        go_ret
        exact ⟨o ++ ⟨#[64]⟩ ++ t, rfl, by rw [HTX.out, bl_append, bl_append, HT.out, HO.out, HE.out, tx0, show bl ⟨#[64]⟩ = [64] from rfl]; simp, HX1.out⟩
  · have hv' : vl (bl s) (bls ss) = false := by simpa using hv
    rw [hv'] at hval
    have htx : txt (bl s) (bls ss) = [] := by rw [txt, if_neg hv]
    have HTX := Lib.hid htx
    have HVAL := Lib.hid hval
    clear htx hval hv hv'
    rw [hwo] at HVAL
    go_enter Try.func13, Try.ntmps13
    go_wp2_with fail
    refine HVAL.out.mono ?_
    rintro e w1 ⟨rfl, hx1⟩
    rw [← HW.out] at hx1
    have HX1 := Lib.hid (HX0.out.tr hx1)
    clear hx1 hwo
    go_wp2_with fail
    go_ret
    exact ⟨⟨#[]⟩, rfl, by rw [HTX.out]; rfl, HX1.out⟩

/-! ## names compared -/
theorem beq_str_t {s t : ByteArray} (h : s = t) : (s.toList == t.toList) = true := by rw [h]; simp
theorem beq_str_f {s t : ByteArray} (h : s ≠ t) : (s.toList == t.toList) = false := by
  rw [bl_toList, bl_toList]
  simp only [beq_eq_false_iff_ne, ne_eq]
  exact fun e => h (bl_ext e)
theorem SR.getD {w : World} {S : Nat → TypeId → Prop} {g off : Nat} {ss : List ByteArray} (h : SR w S (some ⟨g, off, none⟩) ss) : ∀ j, j < ss.length → w.cell? ⟨g, off + j, none⟩ = some (.string (ss.getD j ByteArray.empty)) := by
  intro j hj
  obtain ⟨g', off', hA, hc⟩ := h.cell hj
  injection hA with hA
  injection hA with h1 h2
  subst h1 h2
  rw [hc, List.getD_eq_getElem?_getD, List.getElem?_eq_getElem hj]
  rfl

set_option maxRecDepth 100000 in
set_option maxHeartbeats 1000000 in
theorem sequal_c (A B : Option Addr) (c d : Nat) (ss tt : List ByteArray) (S T : Nat → TypeId → Prop) (w : World) (ha : SR w S A ss) (hb : SR w T B tt) (hn : ss.length ≤ 9223372036854775807) (hm : tt.length ≤ 9223372036854775807) :
    Calls Try.prog 42 #[.slice A ss.length c, .slice B tt.length d] w fun e w' => e = .returned (.bool (decide (ss = tt))) ∧ Ext w w' := by
  by_cases hl : ss.length = tt.length
  · by_cases h0 : ss.length = 0
    · have e1 : ss = [] := List.eq_nil_of_length_eq_zero h0
      have e2 : tt = [] := List.eq_nil_of_length_eq_zero (by omega)
      subst e1 e2
      exact (Try.slices_Equal_string_empty A B c 0 d w (by omega)).mono fun e w' ⟨he, hw⟩ => ⟨by rw [he]; rfl, by rw [hw]; exact Ext.refl _⟩
    · obtain ⟨g1, o1, _, _, _, rfl, _⟩ := ha (by omega)
      obtain ⟨g2, o2, _, _, _, rfl, _⟩ := hb (by omega)
      refine (Try.slices_Equal_string g1 o1 ss.length c g2 o2 tt.length d ss tt w (Nat.le_refl _) (Nat.le_refl _) hn hm ha.getD hb.getD).mono ?_
      rintro e w' ⟨rfl, q, rfl⟩
      rw [List.take_length, List.take_length]
      exact ⟨rfl, Ext.drewN _ _⟩
  · have hb0 := bne_t (a := (ss.length : Int)) (b := (tt.length : Int)) (by omega)
    have hf : decide (ss = tt) = false := decide_eq_false (fun h => hl (by rw [h]))
    rw [hf]
    clear hl hf
    go_enter Try.func42, Try.ntmps42
    go_wp2_with fail
    go_ret
    exact ⟨rfl, Ext.refl _⟩

/-- two names are the same -/
def sm (s : ByteArray) (ss : List ByteArray) (t : ByteArray) (tt : List ByteArray) : Bool := decide (s = t) && decide (ss = tt)
set_option maxRecDepth 100000 in
set_option maxHeartbeats 1000000 in
theorem nsame_c (s t : ByteArray) (A B : Option Addr) (c d : Nat) (ss tt : List ByteArray) (S T : Nat → TypeId → Prop) (w : World) (ha : SR w S A ss) (hb : SR w T B tt) (hn : ss.length ≤ 9223372036854775807) (hm : tt.length ≤ 9223372036854775807) :
    Calls Try.prog 24 #[.agg #[.string s, .slice A ss.length c], .agg #[.string t, .slice B tt.length d]] w fun e w' => e = .returned (.bool (sm s ss t tt)) ∧ Ext w w' := by
  have HA := Lib.hid ha
  have HB := Lib.hid hb
  clear ha hb
  by_cases h1 : s = t
  · have t1 := beq_str_t h1
    have e : sm s ss t tt = decide (ss = tt) := by rw [sm, decide_eq_true h1, Bool.true_and]
    rw [e]
    clear e h1
    go_enter Try.func24, Try.ntmps24
    go_wp2_with fail
    refine (sequal_c A B c d ss tt S T _ (HA.out.ext ((Ext.alloc _ _).tr (Ext.alloc _ _))) (HB.out.ext ((Ext.alloc _ _).tr (Ext.alloc _ _))) hn hm).mono ?_
    rintro e w1 ⟨rfl, hx⟩
    have HX := Lib.hid (((Ext.alloc _ _).tr (Ext.alloc _ _)).tr hx)
    clear hx
    go_wp2_with fail
    go_ret
    exact ⟨rfl, HX.out⟩
  · have t1 := beq_str_f h1
    have e : sm s ss t tt = false := by rw [sm, decide_eq_false h1, Bool.false_and]
    rw [e]
    clear e h1
    go_enter Try.func24, Try.ntmps24
    go_wp2_with fail
    go_ret
    exact ⟨rfl, (Ext.alloc _ _).tr (Ext.alloc _ _)⟩
end Go.Proofs.Ytgbdckiojjmncaa
