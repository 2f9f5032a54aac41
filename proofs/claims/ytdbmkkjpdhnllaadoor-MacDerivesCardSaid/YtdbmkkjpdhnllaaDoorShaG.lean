/-
  The reference's digest of bytes.
-/
import Derived.Test.YtdbmkkjpdhnllaaDoorShaI
import Derived.Test.YtdbmkkjpdhnllaaDoorShaO
namespace Go.Proofs.YtdbmkkjpdhnllaaDoor
open Go.RowKit

/-- in a region whose last operations alone write: a whole array is read -/
theorem wpStill_load_arr {P : Program} {ops : Array Oper} {w : World} {Q : Act → Prop} {a : Act} {o : Oper} {rest : List Oper} (hw : Region.wanted o (yielded ops a.tmps) = true) (ty : TypeId) (x : Operand) (ho : o.op = .load ty x) (g off : Nat) (hx : a.eval x = .pointer (some ⟨g, off, none⟩)) (k : IntKind) (n : Nat) (f : Nat → Nat) (e : TypeId)
    (hS : w.rangeAt g off (tabV k n f).toList) (hu : P.underlying ty = some (.array n e)) (hz : (P.info? ty).map (·.size) = some n) (h : wpStill P ops w Q rest (a.put o.dst (.agg (tabV k n f)))) : wpStill P ops w Q (o :: rest) a := by
  refine wpStill_step (fun K hK => ?_)
  rw [if_pos hw]
  have hl := run_loadVar_mid (P := P) w g off ty (tabV k n f).toList _ hS hu rfl (by rw [Array.length_toList, tabV_size]; exact hz)
  rw [Array.toArray_toList] at hl
  unfold Oper.still execOp
  simp only [ho, hx, Instr.loadAt, Instr.sureAddr, Sem.run_bind, Sem.run_pure, Result.andThen_ok, hl, Oper.stillUpon_value]
  exact hK _ h
/-- a part of a slice -/
theorem run_slice_row {P : Program} {t e : TypeId} (hu : P.underlying t = some (.slice e)) (hs : (P.info? e).map (·.size) = some 1) (g off len cap lo n : Nat) (h1 : lo + n ≤ cap) (h2 : 0 < n) (i j : Int) (hi : i = lo) (hj : j = ((lo + n : Nat) : Int)) (W : World) :
    (Instr.sliceAt t (.slice (some ⟨g, off, none⟩) len cap) (some (.int .i64 i)) (some (.int .i64 j)) none).run P W = .ok (.slice (some ⟨g, off + lo, none⟩) n (cap - lo)) W := by
  subst hi hj
  cases hq : P.info? e with
  | none => simp [hq] at hs
  | some ie =>
    have hsz : ie.size = 1 := by simpa [hq] using hs
    have a1 : ¬ cap = lo := by omega
    have a2 : (((lo + n : Nat) : Int)) ≤ (cap : Int) := by omega
    have a3 : (lo : Int) ≤ ((lo + n : Nat) : Int) := by omega
    have a4 : (⟨g, off, none⟩ : Addr).add lo = ⟨g, off + lo, none⟩ := (addr_add _ _).2 rfl
    have a5 : lo + n - lo = n := by omega
    rw [show (Instr.sliceAt t (.slice (some ⟨g, off, none⟩) len cap) (some (.int .i64 (lo : Int))) (some (.int .i64 ((lo + n : Nat) : Int))) none).run P W = (Instr.slice t (.slice (some ⟨g, off, none⟩) len cap) (some (.int .i64 (lo : Int))) (some (.int .i64 ((lo + n : Nat) : Int))) none).run P W by simp [Instr.sliceAt, run_underlying hu]]
    simp only [Instr.slice, Sem.run_bind, run_underlying hu, Result.andThen_ok, Instr.sliceBounds, Sem.run_pure, run_sliceBound W .i64 _ cap _ (Int.natCast_nonneg _) a2, Int.toNat_natCast]
    simp [run_sliceBound W .i64 (lo : Int) (lo + n) _ (Int.natCast_nonneg _) a3, sizeOf, typeInfo, hq, hsz, a1, a4]

theorem own_empty (w : World) (X : Obj) : OwnB ((w.alloc X).alloc (.cells #[] 5)) 5 w.heap.size (some ⟨w.heap.size + 1, 0, none⟩) 0 [] := by
  have h := OwnB.lit (w := w.alloc X) (E := 5) (base := w.heap.size) [] #[] rfl (by simp) (by simp [maxLen])
  rw [show (w.alloc X).heap.size = w.heap.size + 1 by simp] at h
  exact h
/-- the digest's blocks: the state and the table; the padded bytes; the result -/
def HeldS (w : World) (g4 g5 : Nat) (A : Option Addr) (c : Nat) (l : List UInt8) (st : St) (V : World) : Prop :=
  Arr V g4 49 .u32 8 st.get ∧ Arr V g5 51 .u32 64 kc ∧ OwnB V 5 w.heap.size A c l ∧ Arr V w.heap.size 26 .u8 32 (fun _ => 0) ∧ Ext w V
theorem HeldS.ext {w : World} {g4 g5 : Nat} {A : Option Addr} {c : Nat} {l : List UInt8} {st : St} {V V' : World} (h : HeldS w g4 g5 A c l st V) (hx : Ext V V') : HeldS w g4 g5 A c l st V' :=
  ⟨h.1.ext hx, h.2.1.ext hx, h.2.2.1.ext hx, h.2.2.2.1.ext hx, h.2.2.2.2.tr hx⟩
theorem HeldS.store {w : World} {g4 g5 : Nat} {A : Option Addr} {c : Nat} {l : List UInt8} {st st' : St} {V V' : World} (h : HeldS w g4 g5 A c l st V) (h1 : g4 < g5) (h2 : w.heap.size < g4) (hA : Arr V' g4 49 .u32 8 st'.get) (hG : V.grownBy V' (some g4)) : HeldS w g4 g5 A c l st' V' :=
  ⟨hA, grown_get hG h.2.1 (by simp; omega), h.2.2.1.far hG h.1 (by decide), grown_get hG h.2.2.2.1 (by simp; omega), grown_new h.2.2.2.2 hG (fun g hg => by simp at hg; omega)⟩
set_option maxRecDepth 100000 in
set_option maxHeartbeats 4000000 in
theorem rsum_c (A : Option Addr) (c : Nat) (l : List UInt8) (S : Nat → TypeId → Prop) (w : World) (h : RB w S A l) (hl : l.length ≤ 140737488355200) :
    Calls Tryd.prog 21 #[.slice A l.length c] w fun e w' => e = .returned (.agg (tabV .u8 32 (sum kc l))) ∧ Ext w w' := by
  obtain ⟨i0, hi0, hz0, hz1, hz2⟩ := info_parts info_u8
  have HR := Lib.hid h
  clear h
  have hb0 := new_of w (.cells (tabV .u8 32 (fun _ => 0)) 26)
  have HB0 := Lib.hid hb0
  clear hb0
  go_enter Tryd.func21, Tryd.ntmps21
  go_wp2_with (at_builtin; refine wpList_append_bytes _ rfl (.tmp 9) (.tmp 10) 22 rfl w.heap.size 5 i0 Tryd.underlying22 hi0 hz0 hz1 hz2 (some ⟨w.heap.size + 1, 0, none⟩) 0 [] rfl (own_empty w _) S A c l rfl ((HR.out.ext (Ext.alloc _ _)).ext (Ext.alloc _ _)) (by simp; omega) (by simp; omega) ?_; intro A1 c1 w1 ho1 hg1 hb1)
  have hx1 : Ext w w1 := grown_new ((Ext.alloc _ _).tr (Ext.alloc _ _)) hg1 (fun g hg => by simp [Value.ownBlock] at hg; omega)
  have hb1 : Arr w1 w.heap.size 26 .u8 32 (fun _ => 0) := grown_get hg1 ((Ext.alloc _ _).get HB0.out) (by simp [Value.ownBlock])
  rw [List.nil_append] at ho1
  have HX1 := Lib.hid hx1
  have HO1 := Lib.hid ho1
  have HB1 := Lib.hid hb1
  clear hx1 ho1 hg1 hb1 HB0
  refine (rpad_c l.length (by omega) _).mono ?_
  rintro e w2 ⟨A2, c2, rfl, ho2, hx2⟩
  have hpl : (pad l.length).length ≤ 72 := by rw [pad_len]; have := zeros_lt l.length; omega
  have HO2 := Lib.hid ho2
  have HO1' := Lib.hid (HO1.out.ext hx2)
  have HB2 := Lib.hid (HB1.out.ext hx2)
  have HX2 := Lib.hid (HX1.out.tr hx2)
  clear ho2 hx2 HO1 HB1 HX1
  have hsz2 := HX2.out.size
  go_wp2_with (at_builtin; refine wpList_append_bytes _ rfl (.tmp 11) (.tmp 14) 22 rfl w.heap.size 5 i0 Tryd.underlying22 hi0 hz0 hz1 hz2 A1 c1 l rfl HO1'.out _ A2 c2 (pad l.length) rfl HO2.out.rb (by omega) hsz2 ?_; intro A3 c3 w3 ho3 hg3 hb3)
  have hx3 : Ext w w3 := grown_new HX2.out hg3 HO1'.out.ge
  have hB3 : Arr w3 w.heap.size 26 .u8 32 (fun _ => 0) := grown_get hg3 HB2.out (fun e => by
    rcases HO1'.out.block with ⟨rfl, _, _⟩ | ⟨g, cs, rfl, hge, hh, _⟩
    · simp [Value.ownBlock] at e
    · simp [Value.ownBlock] at e
      subst e
      have hh2 := HB2.out
      unfold Arr at hh2
      rw [hh] at hh2
      injection hh2 with hh2
      injection hh2 with _ ht _
      exact absurd ht (by decide))
  have hfill := pad_fill l.length
  have hpl1 : 9 ≤ (pad l.length).length := by rw [pad_len]; omega
  obtain ⟨q, hq⟩ : ∃ q, q = l ++ pad l.length := ⟨_, rfl⟩
  have hql : l.length + (pad l.length).length = q.length := by rw [hq, List.length_append]
  rw [← hq] at ho3
  rw [hql]
  obtain ⟨N, hN⟩ : ∃ N, q.length = 64 * N := ⟨q.length / 64, by omega⟩
  have hNb : 64 * N ≤ 140737488355328 := by omega
  have hN0 : 0 < N := by omega
  obtain ⟨g3, rfl⟩ : ∃ g3, A3 = some ⟨g3, 0, none⟩ := by
    rcases ho3.block with ⟨_, _, h⟩ | ⟨g, _, h, _⟩
    · rw [h] at hN; simp at hN; omega
    · exact ⟨g, h⟩
  have hc3 := ho3.le
  rw [hN] at hc3 ⊢
  unfold maxLen at hc3
  obtain ⟨hc3a, hc3b⟩ := hc3
  have HQ := Lib.hid hq
  have HN := Lib.hid hN
  have HO3 := Lib.hid ho3
  have HX3 := Lib.hid hx3
  have HB3 := Lib.hid hB3
  clear hq hN ho3 hx3 hB3 hql hfill hpl1 hpl hg3 hb3 hb1 HO1' HO2 HB2 HX2 hsz2
  refine (rstart_c _).mono ?_
  rintro e w4 ⟨rfl, hx4⟩
  have HO4 := Lib.hid (HO3.out.ext hx4)
  have HB4 := Lib.hid (HB3.out.ext hx4)
  have HX4 := Lib.hid (HX3.out.tr hx4)
  clear hx4 HO3 HB3 HX3
  go_wp2_with (refine wpList_store_arr rfl 49 (.tmp 4) (.tmp 16) rfl w4.heap.size .u32 8 st0.get rfl rfl 49 _ (new_of _ _) size_st rfl ?_; intro V4 hA4 hG4)
  have hv4 : Ext w4 V4 := grown_new (Ext.alloc _ _) hG4 (fun g hg => by simp at hg; omega)
  refine (table_c _).mono ?_
  rintro e w5 ⟨rfl, hx5⟩
  have HA5 := Lib.hid (Arr.ext hA4 hx5)
  have HO5 := Lib.hid (HO4.out.ext (hv4.tr hx5))
  have HB5 := Lib.hid (HB4.out.ext (hv4.tr hx5))
  have HX5 := Lib.hid (HX4.out.tr (hv4.tr hx5))
  have hlt4 : w.heap.size < w4.heap.size := HB4.out.lt
  clear hA4 hG4 hv4 hx5 HO4 HB4 HX4
  go_wp2_with (refine wpList_store_arr rfl 51 (.tmp 5) (.tmp 17) rfl w5.heap.size .u32 64 kc rfl rfl 51 _ (new_of _ _) size_wds rfl ?_; intro V5 hA5 hG5)
  have hv5 : Ext w5 V5 := grown_new (Ext.alloc _ _) hG5 (fun g hg => by simp at hg; omega)
  obtain ⟨g4, hg4⟩ : ∃ g4, g4 = w4.heap.size := ⟨_, rfl⟩
  obtain ⟨g5, hg5⟩ : ∃ g5, g5 = w5.heap.size := ⟨_, rfl⟩
  have hle4 : g4 < g5 := by rw [hg4, hg5]; exact HA5.out.lt
  rw [← hg4] at HA5 ⊢
  rw [← hg5] at hA5 ⊢
  have hle0 : w.heap.size < g4 := by rw [hg4]; exact hlt4
  have H5 : HeldS w g4 g5 (some ⟨g3, 0, none⟩) c3 q st0 V5 := ⟨HA5.out.ext hv5, hA5, HO5.out.ext hv5, HB5.out.ext hv5, HX5.out.tr hv5⟩
  have HH5 := Lib.hid H5
  clear hA5 hG5 hv5 hg4 hg5 H5 HA5 HO5 HB5 HX5
  go_loopw [6] (fun v wr => ∃ m i : Nat, m ≤ N ∧ i = 64 * m ∧ v = .int .i64 i ∧ HeldS w g4 g5 (some ⟨g3, 0, none⟩) c3 q (run kc st0 q m) wr) (fun v _ => 64 * N - (intOf v).toNat)
  case atStart => exact ⟨0, 0, by omega, by omega, rfl, by rw [run]; exact HH5.out⟩
  case round =>
    obtain ⟨m, i, hm, hi, rfl, hH⟩ := hrel
    by_cases hlt : m < N
    · have t1 : (i : Int) < 64 * (N : Int) := by omega
      have q1 : IntKind.i64.wrap ((i : Int) + 64) = (i : Int) + 64 := IntWalk.i64_in _ (by omega)
      have hsl := fun W => run_slice_row (P := Tryd.prog) (t := 22) Tryd.underlying22 size_u8 g3 0 (64 * N) c3 i 64 (by omega) (by decide) (i : Int) ((i : Int) + 64) rfl (by omega) W
      have harr := fun (a : Option Addr) (c : Nat) => run_arrayAt (P := Tryd.prog) (t := 41) Tryd.underlying41 a 64 c (by decide)
      rw [Nat.zero_add] at hsl
      have hok := run_ok kc st0_ok q m
      obtain ⟨st, hst⟩ : ∃ st, st = run kc st0 q m := ⟨_, rfl⟩
      rw [← hst] at hok hH
      have hrb := hH.2.2.1.rb
      have hrd : RB wr (fun _ _ => True) (some ⟨g3, i, none⟩) (q.drop i) := by
        have h := hrb.drop (k := i) (cap := c3) (by rw [HN.out]; exact hc3a)
        rw [if_neg (by omega)] at h
        simp only [Option.map_some, (addr_add _ _).2, Nat.zero_add] at h
        exact h.more (fun _ _ _ => trivial)
      have hrg := rangeAt_rb hrd (n := 64) (by rw [List.length_drop, HN.out]; omega) (byt (q.drop i)) (fun j _ => rfl) (by decide)
      have HRG := Lib.hid hrg
      have HST := Lib.hid hst
      have HOK := Lib.hid hok
      have HHm := Lib.hid hH
      have HI := Lib.hid hi
      clear hst hok hH hrb hrd hrg hi
      go_wp2_with fail
      refine wp_region_still_tail 9 (by kernel_rfl) (by kernel_rfl) ?_
      simp only [List.take_succ_cons, List.take_zero, List.drop_succ_cons, List.drop_zero]
      refine wpStill_load_arr (by kernel_rfl) 49 (.tmp 4) rfl g4 0 rfl .u32 8 st.get _ (rangeAt_arr HHm.out.1) Tryd.underlying49 size_st ?_
      iterate 6 (refine wpStill_step (fun K hK => ?_); go_simp; refine hK _ ?_; clear hK K)
      refine wpStill_load_arr (by kernel_rfl) 41 (.tmp 30) rfl g3 i rfl .u8 64 (byt (q.drop i)) _ HRG.out Tryd.underlying41 size_blk ?_
      refine wpStill_load_arr (by kernel_rfl) 51 (.tmp 5) rfl g5 0 rfl .u32 64 kc _ (rangeAt_arr HHm.out.2.1) Tryd.underlying51 size_wds ?_
      refine wpStill_nil ?_
      change wpList _ _ _ _ _ wr.drew
      try simp only [Act.put, List.setIfInBounds_toArray, List.set_cons_zero, List.set_cons_succ]
      clear q1 hsl harr
      have hHd := HHm.out.ext (Ext.drew wr)
      obtain ⟨wd, hwd⟩ : ∃ wd, wd = wr.drew := ⟨_, rfl⟩
      rw [← hwd] at hHd ⊢
      have HHd := Lib.hid hHd
      clear hwd hHd HRG HHm
      go_wp2_with fail
      (with_reducible refine (rblock_c st HOK.out (byt (q.drop i)) (byt_lt _) kc _).mono ?_)
      rintro e W2 ⟨rfl, hx2⟩
      have HH2 := Lib.hid (HHd.out.ext hx2)
      clear hx2
      go_wp2_with (refine wpList_store_arr' rfl rfl 49 (.tmp 4) (.tmp 33) rfl g4 .u32 8 (blk kc st (byt (q.drop i))).get rfl rfl 49 _ HH2.out.1 size_st tabV_size ?_; intro W6 hA6 hG6)
      have hH6 := HH2.out.store hle4 hle0 hA6 hG6
      rw [HST.out, HI.out, ← run_succ] at hH6
      go_roundw
      case rel => exact ⟨m + 1, i + 64, by omega, by have := HI.out; omega, by go_num, hH6⟩
      case measure => simp [intOf]; omega
    · have em : m = N := by omega
      have ei : i = 64 * N := by rw [hi, em]
      have t1 : (64 * (N : Int)) ≤ (i : Int) := by omega
      rw [em] at hH
      have HHm := Lib.hid hH
      clear hH hi em
      go_wp2_with fail
      clear ei
      have hdg : sum kc l = dig (run kc st0 q N) := by
        unfold sum
        rw [← HQ.out, HN.out, Nat.mul_div_cancel_left N (by decide)]
      obtain ⟨st, hst⟩ : ∃ st, st = run kc st0 q N := ⟨_, rfl⟩
      rw [← hst] at HHm hdg
      have HDG := Lib.hid hdg
      obtain ⟨g7, hg7⟩ : ∃ g7, g7 = wr.heap.size := ⟨_, rfl⟩
      have hz7 : Arr (wr.alloc (.cells (tabV .u8 32 (fun _ => 0)) 26)) wr.heap.size 26 .u8 32 (fun _ => 0) := Arr.new _ _ _ _ _
      have hH7 := HHm.out.ext (Ext.alloc wr (.cells (tabV .u8 32 (fun _ => 0)) 26))
      have hlt7 : g4 < g7 ∧ w.heap.size < g7 := by rw [hg7]; exact ⟨HHm.out.1.lt, HHm.out.2.2.2.1.lt⟩
      obtain ⟨hl7, hl7'⟩ := hlt7
      rw [← hg7] at hz7 ⊢
      have HZ7 := Lib.hid hz7
      have HH7 := Lib.hid hH7
      clear hst hdg hg7 hz7 hH7
      go_loopw [8] (fun v wv => ∃ n : Nat, n ≤ 32 ∧ v = .int .i64 n ∧ Arr wv g4 49 .u32 8 st.get ∧ Arr wv w.heap.size 26 .u8 32 (fun _ => 0) ∧ Arr wv g7 26 .u8 32 (fun i => if i < n then dig st i else 0) ∧ Ext w wv) (fun v _ => 32 - (intOf v).toNat)
      case atStart => exact ⟨0, by omega, rfl, HH7.out.1, HH7.out.2.2.2.1, HZ7.out, HH7.out.2.2.2.2⟩
      case round =>
        obtain ⟨n, hn, rfl, hS, hR, hA, hx⟩ := hrel
        by_cases hln : n < 32
        · have hc := hS.cell (i := n / 4) (by omega)
          have hcn := hA.cell (i := n) hln
          have hf := hA.free n
          have HS := Lib.hid hS
          have HRR := Lib.hid hR
          have HA := Lib.hid hA
          have HX := Lib.hid hx
          have m1 : 0 ≤ 24 - 8 * ((n : Int) % 4) := by omega
          have m2 : 8 * ((n : Int) % 4) ≤ 24 := by omega
          clear hS hR hA hx
          go_wp2_with fail
          go_roundw
          case rel =>
            refine ⟨n + 1, by omega, by go_num, HS.out.other (by omega) _ _, HRR.out.other (by omega) _ _, ?_, Below.setCell HX.out (Nat.le_of_lt hl7') _⟩
            refine Arr.to (f := fun i => if i < n then dig st i else 0) HA.out hln ?_ (fun i _ hne => ?_)
            · rw [if_pos (by omega), dig, show 8 * (n % 4) = n % 4 * 8 by omega, Int.natCast_emod, Int.natCast_ediv, Int.natCast_pow]
              rfl
            · by_cases hi : i < n
              · rw [if_pos hi, if_pos (by omega)]
              · rw [if_neg hi, if_neg (by omega)]
          case measure => simp [intOf]; omega
        · have en : n = 32 := by omega
          rw [en] at hA
          clear en
          have HA := Lib.hid (hA.congr (f' := dig st) (fun i hi => if_pos hi))
          have HRR := Lib.hid hR
          have HX := Lib.hid hx
          clear hS hR hA hx
          go_wp2_with (first | (refine wpList_load_arr rfl 26 (.tmp 7) rfl g7 rfl 26 .u8 32 (dig st) _ HA.out Tryd.underlying26 size_dig ?_) | (refine wpList_store_arr rfl 26 (.tmp 2) (.tmp 51) rfl w.heap.size .u8 32 (dig st) rfl rfl 26 _ HRR.out size_dig tabV_size ?_; intro W3 hA3 hG3))
          refine bodyPost_ret (v := .agg (tabV .u8 32 (dig st))) ?_ rfl ⟨by rw [HDG.out], grown_new HX.out hG3 (fun g hg => by simp at hg; omega)⟩
          exact results_cell_row rfl _ _ _ _ _ _ _ rfl hA3 Tryd.underlying26 rfl (by rw [tabV_size]; exact size_dig)

/-- what a law is told of a slice of slices of bytes that came in, the capacities with it -/
def IsRowsC (w : World) (a : Option Addr) (len cap : Nat) (ls : List (List UInt8)) : Prop :=
  ls.length = len ∧ len ≤ cap ∧ cap ≤ maxLen ∧ RBC w (fun g _ => g < w.heap.size) (fun g _ => g < w.heap.size) a ls

end Go.Proofs.YtdbmkkjpdhnllaaDoor
