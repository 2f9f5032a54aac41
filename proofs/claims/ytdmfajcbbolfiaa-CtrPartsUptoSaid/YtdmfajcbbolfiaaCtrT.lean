/-
  The law CtrParts.
-/
import Derived.Test.YtdmfajcbbolfiaaCtrW
import Derived.Test.YtdmfajcbbolfiaaBulkR
namespace Go.Proofs.Ytdmfajcbbolfiaa
open Go.RowKit
set_option linter.unusedVariables false
set_option linter.unusedSimpArgs false

theorem RBC.grown {w w' : World} {S T : Nat → TypeId → Prop} {A : Option Addr} {ls : List (List UInt8)} (h : RBC w S T A ls) {row : Option Nat} (hb : w.grownBy w' row) (hne : ∀ g t, S g t ∨ T g t → row ≠ some g) : RBC w' S T A ls :=
  h.keep fun g o hh ⟨cs, t, fr, he, hs⟩ => grown_get hb hh (hne g t hs)
/-- what has been got -/
def gt_ (key nonce : Nat → Nat) (x : List UInt8) : List UInt8 := xl (strm key nonce 0 x.length) x
theorem gt_len (key nonce : Nat → Nat) (x : List UInt8) : (gt_ key nonce x).length = x.length := by unfold gt_; rw [xl_len (strm_len _ _ _ _)]
theorem gt_add (key nonce : Nat → Nat) (x y : List UInt8) : gt_ key nonce x ++ xl (strm key nonce x.length y.length) y = gt_ key nonce (x ++ y) := by
  unfold gt_ xl
  rw [List.length_append, strm_add, Nat.zero_add, List.zipWith_append (strm_len key nonce 0 x.length)]
set_option maxRecDepth 100000 in
set_option maxHeartbeats 4000000 in
theorem ctrParts_walk (key nonce : Nat → Nat) (B : Option Addr) (len cap : Nat) (ls : List (List UInt8)) (w : World) (hk' : ∀ i, i < 16 → (Lit.int .u8 (key i : Nat)).wf = true) (hn' : ∀ i, i < 8 → (Lit.int .u8 (nonce i : Nat)).wf = true) (hz : IsRowsC w B len cap ls) (hbd : (fla ls).length ≤ 1048576) :
    Calls Try.prog 5 #[.agg (tabV .u8 16 key), .agg (tabV .u8 8 nonce), .slice B len cap] w fun e w' => e = .returned (.bool true) ∧ Ext w w' := by
  obtain ⟨rfl, hle, hcm, hrb⟩ := hz
  obtain ⟨i0, hi0, hz0, hz1, hz2⟩ := info_parts info_u8
  have HK := Lib.hid (byt_wf hk')
  have HN := Lib.hid (byt8_wf hn')
  obtain ⟨h0, h1⟩ := two_new w (.cells (tabV .u8 16 key) 22) (.cells (tabV .u8 8 nonce) 23)
  have hx := (Ext.alloc w (.cells (tabV .u8 16 key) 22)).tr (Ext.alloc _ (.cells (tabV .u8 8 nonce) 23))
  have HX := Lib.hid hx
  have HH := Lib.hid (show HeldC w.heap.size (w.heap.size + 1) key nonce _ from ⟨h0, h1⟩)
  have HR := Lib.hid (hrb.ext hx)
  have HBD := Lib.hid hbd
  clear h0 h1 hk' hn' hx hrb hbd
  by_cases hlt : 20 < ls.length
  · have t1 : (20 : Int) < (ls.length : Int) := by omega
    go_enter Try.func5, Try.ntmps5
    go_wp2_with fail
    refine (awake_c _).mono ?_
    rintro e w1 ⟨rfl, hx1⟩
    have HX1 := Lib.hid (HX.out.tr hx1)
    clear hx1
    go_wp2_with fail
    refine (awake_c _).mono ?_
    rintro e w2 ⟨rfl, hx2⟩
    have HX2 := Lib.hid (HX1.out.tr hx2)
    clear hx2
    go_wp2_with fail
    go_ret
    exact ⟨rfl, HX2.out⟩
  have t1 : ¬ (20 : Int) < (ls.length : Int) := by omega
  have HLT := Lib.hid hlt
  clear hlt
  go_enter Try.func5, Try.ntmps5
  go_wp2_with fail
  refine (awake_c _).mono ?_
  rintro e w1 ⟨rfl, hx1⟩
  have HX1 := Lib.hid (HX.out.tr hx1)
  have HH1 := Lib.hid (HH.out.ext hx1)
  have HR1 := Lib.hid (HR.out.ext hx1)
  clear hx1 HX HH HR
  go_wp2_with fail
  obtain ⟨al, hal⟩ : ∃ al, al = fla ls := ⟨_, rfl⟩
  have hjn := rjoin_c B cap ls _ _ w1 HR1.out.rbs (by have := HBD.out; omega) (by have := HLT.out; omega)
  rw [← hal] at hjn
  refine hjn.mono ?_
  rintro e w2 ⟨A2, c2, rfl, ho2, hx2⟩
  have HAL := Lib.hid hal
  have HO2 := Lib.hid ho2.rb.inside
  have HX2 := Lib.hid (HX1.out.tr hx2)
  have HH2 := Lib.hid (HH1.out.ext hx2)
  have HR2 := Lib.hid (HR1.out.ext hx2)
  clear hx2 ho2 hjn hal HX1 HH1 HR1
  by_cases hlt : 1000 < al.length
  · have t2 : (1000 : Int) < (al.length : Int) := by omega
    go_wp2_with fail
    go_ret
    exact ⟨rfl, HX2.out⟩
  have t2 : ¬ (1000 : Int) < (al.length : Int) := by omega
  have HLA := Lib.hid hlt
  clear hlt
  go_wp2_with (first
    | refine wpList_load_arr rfl 22 (.tmp 3) rfl w.heap.size rfl 22 .u8 16 key _ HH2.out.1 Try.underlying22 size_bk ?_
    | refine wpList_load_arr rfl 23 (.tmp 4) rfl (w.heap.size + 1) rfl 23 .u8 8 nonce _ HH2.out.2 Try.underlying23 size_nc ?_)
  refine (new_c key nonce w2).mono ?_
  rintro e w3 ⟨rfl, hc3, hx3⟩
  obtain ⟨g, hg⟩ : ∃ g, g = w2.heap.size + 2 := ⟨_, rfl⟩
  rw [← hg] at hc3 ⊢
  have hgw : w2.heap.size ≤ g := by omega
  obtain ⟨n2, hn2⟩ : ∃ n2, n2 = w2.heap.size := ⟨_, rfl⟩
  have HN2 := Lib.hid (show w.heap.size + 1 < n2 by rw [hn2]; exact HH2.out.2.lt)
  rw [← hn2] at hgw
  have HO3 := Lib.hid (show RB w3 (fun g' _ => g' < n2) A2 al by rw [hn2]; exact (HO2.out.ext hx3).more (fun _ _ h => h.2))
  have HX3 := Lib.hid (HX2.out.tr hx3)
  have HH3 := Lib.hid (HH2.out.ext hx3)
  have HR3 := Lib.hid (HR2.out.ext hx3)
  have HC3 := Lib.hid hc3
  have HGW := Lib.hid hgw
  have HG3 := Lib.hid (show n2 ≤ w3.heap.size by rw [hn2]; exact hx3.size)
  clear hx3 hc3 hg hgw HX2 HH2 HR2 HO2 hn2
  go_wp2_with fail
  go_loopw [9, 10, 11] (fun x y v wr => ∃ (i : Nat) (G : Option Addr) (d : Nat), i ≤ ls.length ∧ v = .int .i64 i ∧ y = .int .i64 (flt ls i).length ∧ x = .slice G (flt ls i).length d ∧ OwnB wr 5 w3.heap.size G d (gt_ key nonce (flt ls i)) ∧ Cph wr g key nonce (flt ls i).length ∧
    RBC wr (fun g' _ => g' < w.heap.size) (fun g' _ => g' < w.heap.size) B ls ∧ RB wr (fun g' _ => g' < n2) A2 al ∧ HeldC w.heap.size (w.heap.size + 1) key nonce wr ∧ Ext w wr ∧ w3.heap.size ≤ wr.heap.size) (fun _ _ v _ => ls.length - (intOf v).toNat)
  case atStart => exact ⟨0, none, 0, Nat.zero_le _, rfl, by rw [flt_zero]; rfl, by rw [flt_zero]; rfl, by rw [flt_zero]; exact OwnB.nil _ _ _, by rw [flt_zero]; exact HC3.out, HR3.out, HO3.out, HH3.out, HX3.out, Nat.le_refl _⟩
  case round =>
    obtain ⟨i, G, d, hi, rfl, rfl, rfl, hO, hC, hR, hA, hH, hx, hsz⟩ := hrel
    by_cases hlt : i < ls.length
    · obtain ⟨gp, off, cs, tt, fr, rfl, hh, hgp, hcs⟩ := hR (by omega)
      obtain ⟨C, d', hc1, hr, _⟩ := hcs i ls[i] (List.getElem?_eq_getElem hlt)
      have hc : wr.cell? ⟨gp, off + i, none⟩ = some (.slice C (ls[i]).length d') := by rw [cells_of hh]; exact hc1
      obtain ⟨b, hb⟩ : ∃ b, b = ls[i] := ⟨_, rfl⟩
      obtain ⟨x, hxe⟩ : ∃ x, x = flt ls i := ⟨_, rfl⟩
      have hst : x ++ b = flt ls (i + 1) := by rw [hxe, hb]; exact flt_step ls i hlt
      have hbl : x.length + b.length ≤ 1000 := by
        have h1 := flt_le ls (i + 1)
        rw [← hst, List.length_append, ← HAL.out] at h1
        have := HLA.out
        omega
      rw [← hb] at hc hr hc1
      have hgp' : gp < w.heap.size := hgp
      have HC1 := Lib.hid hc1
      have HHP := Lib.hid hh
      clear hcs hc1 hgp hh
      rw [← hxe] at hO hC ⊢
      have i1 : (i : Int) < (ls.length : Int) := by omega
      have q1 : IntKind.i64.wrap ((x.length : Int) + (b.length : Int)) = (x.length : Int) + (b.length : Int) := IntWalk.i64_in _ (by omega)
      have q2 : IntKind.i64.wrap ((i : Int) + 1) = (i : Int) + 1 := IntWalk.i64_in _ (by omega)
      have HST := Lib.hid hst
      have HBL := Lib.hid hbl
      have HO := Lib.hid hO
      have HC := Lib.hid hC
      have HR := Lib.hid hR
      have HA := Lib.hid hA
      have HH := Lib.hid hH
      have HX := Lib.hid hx
      have HSZ := Lib.hid hsz
      clear hst hbl hO hC hR hA hH hx hsz hb hxe HO3 HC3 HR3 HH3 HX3
      go_wp2_with fail
      refine (cnext_c g x.length d' key nonce HK.out HN.out C b _ wr (by have := HBL.out; omega) (by have := HBL.out; omega) HC.out hr (fun t h => by have h1 := HGW.out; have h2 := HN2.out; have h3 : g < w.heap.size := h; omega)).mono ?_
      rintro e w4 ⟨A4, c4, rfl, ho4, hg4, hc4⟩
      have hgx : w.heap.size + 1 < g := by have h1 := HGW.out; have h2 := HN2.out; omega
      have HR4 := Lib.hid (HR.out.grown hg4 (fun g' t h => by rintro e; injection e with e; have h1 : g' < w.heap.size := Or.elim h id id; omega))
      have HA4 := Lib.hid (HA.out.grown hg4 (fun g' t h => by rintro e; injection e with e; have h1 := HGW.out; have h2 : g' < n2 := h; omega))
      have HH4 := Lib.hid (show HeldC w.heap.size (w.heap.size + 1) key nonce w4 from ⟨grown_get hg4 HH.out.1 (by simp; omega), grown_get hg4 HH.out.2 (by simp; omega)⟩)
      have hO4 := HO.out.far hg4 HC.out (by decide)
      have HX4 := Lib.hid (grown_new HX.out hg4 (fun k e => by cases e; omega))
      have HSZ4 := Lib.hid (Nat.le_trans HSZ.out hg4.size)
      have HO4 := Lib.hid hO4
      have HRB4 := Lib.hid ho4.rb
      have HC4 := Lib.hid hc4
      have hxl : (xl (strm key nonce x.length b.length) b).length = b.length := xl_len (strm_len _ _ _ _)
      have HXL := Lib.hid hxl
      have HL1 := Lib.hid (show (gt_ key nonce x).length + (xl (strm key nonce x.length b.length) b).length ≤ 140737488355328 by rw [gt_len, hxl]; have := HBL.out; omega)
      have hh4 := grown_get hg4 HHP.out (show (some g : Option Nat) ≠ some gp by simp; omega)
      have HH5 := Lib.hid hh4
      clear ho4 hg4 hO4 hc4 hxl hc hr hh4
      go_wp2_with (at_builtin
                   refine wpList_append_bytes _ rfl (.tmp 36) (.tmp 42) 27 rfl w3.heap.size 5 i0 Try.underlying27 hi0 hz0 hz1 hz2 G d (gt_ key nonce x) (by rw [gt_len]; rfl) HO4.out _ A4 c4 (xl (strm key nonce x.length b.length) b) (by rw [HXL.out]; rfl) HRB4.out HL1.out HSZ4.out ?_
                   intro A5 c5 w5 ho5 hg5 hb5
                   have hg5' := hg5
                   rw [gt_len] at hg5'
                   have hge := HO4.out.ge
                   rw [gt_len] at hge
                   have hap := HO4.out.apart HC4.out (by decide)
                   rw [gt_len] at hap
                   have HO5 := Lib.hid ho5
                   have HX5 := Lib.hid (grown_new HX4.out hg5' (fun k e => by have h1 := hge k e; have h2 := HG3.out; have h3 := HN2.out; omega))
                   have HSZ5 := Lib.hid (Nat.le_trans HSZ4.out hg5'.size)
                   have HR5 := Lib.hid (HR4.out.grown hg5' (fun g' t h e => by have h1 : g' < w.heap.size := Or.elim h id id; have h2 := hge g' e; have h3 := HG3.out; have h4 := HN2.out; omega))
                   have HA5 := Lib.hid (HA4.out.grown hg5' (fun g' t h e => by have h1 : g' < n2 := h; have h2 := hge g' e; have h3 := HG3.out; omega))
                   have HH6 := Lib.hid (show HeldC w.heap.size (w.heap.size + 1) key nonce w5 from ⟨grown_get hg5' HH4.out.1 (fun e => by have h2 := hge _ e; have h3 := HG3.out; have h4 := HN2.out; omega), grown_get hg5' HH4.out.2 (fun e => by have h2 := hge _ e; have h3 := HG3.out; have h4 := HN2.out; omega)⟩)
                   have HC5 := Lib.hid (show Cph w5 g key nonce (x.length + b.length) from grown_get hg5' HC4.out hap)
                   have hh5 := grown_get hg5' HH5.out (fun e => by have h2 := hge _ e; have h3 := HG3.out; have h4 := HN2.out; omega)
                   have hc5 : w5.cell? ⟨gp, off + i, none⟩ = some (.slice C b.length d') := by rw [cells_of hh5]; exact HC1.out
                   clear ho5 hg5 hb5 hg5' hge hap hh5)
      have hus := used_c g (x.length + b.length) key nonce w5 HC5.out
      refine hus.mono ?_
      rintro e v ⟨rfl, rfl⟩
      have bn := bne_f (a := ((x.length + b.length : Nat) : Int)) (b := (x.length : Int) + (b.length : Int)) (by omega)
      clear hus
      go_wp2_with fail
      refine ⟨⟨i + 1, A5, c5, by omega, by go_num, ?_, ?_, ?_, ?_, HR5.out, HA5.out, HH6.out, HX5.out, HSZ5.out⟩, by simp only [intOf]; omega⟩
      · rw [← HST.out, List.length_append, Int.natCast_add]
      · rw [← HST.out, List.length_append, gt_len, HXL.out]
      · rw [← HST.out, ← gt_add]
        exact HO5.out
      · rw [← HST.out, List.length_append]
        exact HC5.out
    · have e : i = ls.length := by omega
      subst e
      rw [flt_all ls (Nat.le_refl _), ← HAL.out] at hO ⊢
      have hlg := gt_len key nonce al
      have i1 : ¬ (ls.length : Int) < (ls.length : Int) := by omega
      have HO := Lib.hid hO
      have HA := Lib.hid hA
      have HH := Lib.hid hH
      have HX := Lib.hid hx
      clear hO hC hR hA hH hx hsz HO3 HC3 HR3 HH3 HX3
      go_wp2_with (first
        | refine wpList_load_arr rfl 22 (.tmp 3) rfl w.heap.size rfl 22 .u8 16 key _ HH.out.1 Try.underlying22 size_bk ?_
        | refine wpList_load_arr rfl 23 (.tmp 4) rfl (w.heap.size + 1) rfl 23 .u8 8 nonce _ HH.out.2 Try.underlying23 size_nc ?_)
      refine (rcrypt_c c2 key nonce HK.out HN.out A2 al _ _ (by have := HLA.out; omega) HA.out).mono ?_
      rintro e w6 ⟨A6, c6, rfl, ho6, hx6⟩
      have HO6 := Lib.hid (show OwnB w6 5 _ A6 c6 (gt_ key nonce al) from ho6)
      have HO := Lib.hid (HO.out.ext hx6)
      have HX6 := Lib.hid (HX.out.tr hx6)
      clear ho6 hx6
      go_wp2_with fail
      have hsm := same_x G A6 (gt_ key nonce al) (gt_ key nonce al) d c6 _ _ _ HO.out.rb HO6.out.rb (by rw [hlg]; have := HLA.out; omega) rfl
      rw [hlg] at hsm
      refine hsm.mono ?_
      rintro e w7 ⟨rfl, hx7⟩
      have HX7 := Lib.hid (HX6.out.tr hx7)
      clear hx7
      go_wp2_with fail
      go_ret
      exact ⟨rfl, HX7.out⟩
end Go.Proofs.Ytdmfajcbbolfiaa
