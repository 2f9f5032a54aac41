/-
  The reference's derived strings; package mac: Key.
-/
import Derived.Test.YtdbmkkjpdhnllaaDoorMacD
import Derived.Test.YtdbmkkjpdhnllaaDoorMacG
import Derived.Lib.AppendStr
namespace Go.Proofs.YtdbmkkjpdhnllaaDoor
open Go.RowKit
set_option linter.unusedVariables false

/-- 'append(bytes, label...)' at a string -/
theorem wpList_append_str {P : Program} (w : World) {ops : Array Oper} {rest : List Oper} {o : Oper} {a : Act} {Q : Exit → Act → World → Prop} (hgd : o.guard = none) (s x : Operand) (t u : TypeId)
    (ho : o.op = .call { callee := .builtin .append, args := #[s, x], argTypes := #[t, u] })
    (base : Nat) (E : TypeId) (i : TypeInfo) (ht : P.underlying t = some (.slice E)) (hu : P.underlying u = some .string) (hi : P.info? E = some i) (hz : i.zero = some (.int .u8 0)) (hsz : i.size = 1) (hy : i.bytes = 1)
    (A : Option Addr) (c : Nat) (l : List UInt8) (n : Nat) (hs : a.eval s = .slice A n c) (hn : l.length = n) (hown : OwnB w E base A c l) (st : ByteArray) (lab : List UInt8) (hx : a.eval x = .string st) (hlab : st.data.toList = lab)
    (hlen : n + lab.length ≤ 140737488355328) (hbase : base ≤ w.heap.size)
    (h : ∀ A' c' w', OwnB w' E base A' c' (l ++ lab) → w.grownBy w' (Value.slice A n c).ownBlock → wpList P ops Q rest (a.put o.dst (.slice A' (n + lab.length) c')) w') : wpList P ops Q (o :: rest) a w := by
  subst hlab hn
  have hsz2 : st.data.toList.length = st.size := Array.length_toList
  refine Lib.wpList_append_own_string w hgd s x t u ho base E i ht hu hi hz hsz hy (.slice A l.length c) l.length (l.map u8) hs hown st hx (by rw [hsz2] at hlen; unfold maxLen; omega) (by rw [hsz2] at hlen; omega) hbase ?_
  intro v' w' h2 h3 _
  have e : l.map u8 ++ Lib.strCells st = (l ++ st.data.toList).map u8 := by rw [List.map_append]; rfl
  rw [e] at h2
  have h' : w'.ownsRow base E 1 v' (l ++ st.data.toList).length ((l ++ st.data.toList).map u8) := by rw [List.length_append, hsz2]; exact h2
  have shape : ∃ A' c', v' = .slice A' (l ++ st.data.toList).length c' := by
    rcases h'.2 with ⟨rfl, hn⟩ | ⟨g, cap, cs, rfl, _⟩
    · exact ⟨none, 0, by rw [hn]⟩
    · exact ⟨_, _, rfl⟩
  obtain ⟨A', c', rfl⟩ := shape
  rw [List.length_append]
  exact h A' c' w' h' h3
theorem wpList_load_range {P : Program} {w : World} {ops : Array Oper} {rest : List Oper} {o : Oper} {a : Act} {Q : Exit → Act → World → Prop} (hgd : o.guard = none) (ty : TypeId) (x : Operand) (ho : o.op = .load ty x) (g off : Nat) (hx : a.eval x = .pointer (some ⟨g, off, none⟩)) (k : IntKind) (n : Nat) (f : Nat → Nat) (e : TypeId)
    (hS : w.rangeAt g off (tabV k n f).toList) (hu : P.underlying ty = some (.array n e)) (hz : (P.info? ty).map (·.size) = some n) (h : wpList P ops Q rest (a.put o.dst (.agg (tabV k n f))) w) : wpList P ops Q (o :: rest) a w := by
  have hl := run_loadVar_mid (P := P) w g off ty (tabV k n f).toList _ hS hu rfl (by rw [Array.length_toList, tabV_size]; exact hz)
  rw [Array.toArray_toList] at hl
  refine wpList_plain hgd fun K hK => ?_
  unfold Oper.wp execOp
  simp only [ho, hx, Instr.loadAt, Instr.sureAddr, Sem.run_bind, Sem.run_pure, Result.andThen_ok, hl]
  exact hK _ _ h
theorem run_slice_hi0 {P : Program} {t e : TypeId} (hu : P.underlying t = some (.slice e)) (hs : (P.info? e).map (·.size) = some 1) (g off len cap n : Nat) (h1 : n ≤ cap) (h2 : 0 < cap) (j : Int) (hj : j = (n : Int)) (W : World) :
    (Instr.sliceAt t (.slice (some ⟨g, off, none⟩) len cap) none (some (.int .i64 j)) none).run P W = .ok (.slice (some ⟨g, off, none⟩) n cap) W := by
  subst hj
  cases hq : P.info? e with
  | none => simp [hq] at hs
  | some ie =>
    have hsz : ie.size = 1 := by simpa [hq] using hs
    have a1 : ¬ cap = 0 := by omega
    have a2 : (n : Int) ≤ (cap : Int) := by omega
    have a4 : (⟨g, off, none⟩ : Addr).add 0 = ⟨g, off, none⟩ := (addr_add _ _).2 rfl
    rw [show (Instr.sliceAt t (.slice (some ⟨g, off, none⟩) len cap) none (some (.int .i64 (n : Int))) none).run P W = (Instr.slice t (.slice (some ⟨g, off, none⟩) len cap) none (some (.int .i64 (n : Int))) none).run P W by simp [Instr.sliceAt, run_underlying hu]]
    simp [Instr.slice, Sem.run_bind, run_underlying hu, Instr.sliceBounds, run_sliceBound, sizeOf, typeInfo, hq, hsz, a1, a2, a4]
theorem run_slice_zero {P : Program} {t e : TypeId} (hu : P.underlying t = some (.slice e)) (hs : (P.info? e).map (·.size) = some 1) (A : Option Addr) (W : World) :
    (Instr.sliceAt t (.slice A 0 0) none (some (.int .i64 0)) none).run P W = .ok (.slice A 0 0) W := by
  cases hq : P.info? e with
  | none => simp [hq] at hs
  | some ie =>
    have hsz : ie.size = 1 := by simpa [hq] using hs
    rw [show (Instr.sliceAt t (.slice A 0 0) none (some (.int .i64 0)) none).run P W = (Instr.slice t (.slice A 0 0) none (some (.int .i64 0)) none).run P W by simp [Instr.sliceAt, run_underlying hu]]
    cases A <;> simp [Instr.slice, Sem.run_bind, run_underlying hu, Instr.sliceBounds, run_sliceBound, sizeOf, typeInfo, hq, hsz]
theorem size_k16 : (Tryd.prog.info? 32).map (·.size) = some 16 := by kernel_rfl

set_option maxRecDepth 100000 in
set_option maxHeartbeats 2000000 in
theorem key_c (ka : Option Addr) (ck : Nat) (key : List UInt8) (SK : Nat → TypeId → Prop) (s : ByteArray) (lab : List UInt8) (hlab : s.data.toList = lab) (w : World) (ht : Tab w)
    (hk : RB w SK ka key) (hkl : key.length ≤ 140737488355000) (hkc : key.length ≤ ck) (hkm : ck ≤ 9223372036854775807) (hll : lab.length ≤ 100000) :
    Calls Tryd.prog 15 #[.slice ka key.length ck, .string s] w fun e w' => e = .returned (.agg (tabV .u8 16 (byt (drv (byt (kb key)) lab 16)))) ∧ Ext w w' := by
  have hx0 := Ext.alloc w (.cells (tabV .u8 16 (fun _ => 0)) 32)
  have hb0 : Arr (w.alloc (.cells (tabV .u8 16 (fun _ => 0)) 32)) w.heap.size 32 .u8 16 (fun _ => 0) := new_of w _
  have hd := derive_c ka ck key SK s lab hlab 16 (by decide) _ (ht.ext hx0) (hk.ext hx0) hkl hkc hkm hll
  have hdl := drv_len (byt (kb key)) lab 16
  obtain ⟨D, hD⟩ : ∃ D, D = drv (byt (kb key)) lab 16 := ⟨_, rfl⟩
  rw [← hD] at hd hdl ⊢
  have HD := Lib.hid hd
  have HDL := Lib.hid hdl
  have HB0 := Lib.hid hb0
  have HX0 := Lib.hid hx0
  have harr := fun (a : Option Addr) (c : Nat) => run_arrayAt (P := Tryd.prog) (t := 32) Tryd.underlying32 a 16 c (by decide)
  clear ht hk hkl hkc hll hx0 hb0 hd hdl hlab hD
  go_enter Tryd.func15, Tryd.ntmps15
  go_wp2_with fail
  refine HD.out.mono ?_
  rintro e w1 ⟨A, c, rfl, ho, hx1⟩
  have hpos : 0 < D.length := by rw [HDL.out]; decide
  obtain ⟨g, rfl⟩ : ∃ g, A = some ⟨g, 0, none⟩ := by
    rcases ho.block with ⟨_, _, h⟩ | ⟨g, _, h, _⟩
    · rw [h] at hpos; simp at hpos
    · exact ⟨g, h⟩
  have hrg := rangeAt_rb ho.rb (n := 16) (by rw [HDL.out]; decide) (byt D) (fun j _ => rfl) (by decide)
  have HRG := Lib.hid hrg
  have HX1 := Lib.hid (HX0.out.tr hx1)
  have HB1 := Lib.hid (HB0.out.ext hx1)
  clear ho hx1 hpos hrg HB0 HX0
  go_wp2_with (first
    | (refine wpList_load_range rfl 32 (.tmp 8) rfl g 0 rfl .u8 16 (byt D) _ HRG.out Tryd.underlying32 size_k16 ?_)
    | (refine wpList_store_arr' rfl rfl 32 (.tmp 4) (.tmp 9) rfl w.heap.size .u8 16 (byt D) rfl rfl 32 _ HB1.out size_k16 tabV_size ?_; intro w5 hA5 hG5))
  refine bodyPost_ret (v := .agg (tabV .u8 16 (byt D))) ?_ rfl ⟨rfl, grown_new HX1.out hG5 (fun g hg => by simp at hg; omega)⟩
  exact results_cell_row rfl _ _ _ _ _ _ _ rfl hA5 Tryd.underlying32 rfl (by rw [tabV_size]; exact size_k16)
theorem rderive_neg (ka : Option Addr) (ck kl : Nat) (s : ByteArray) (i : Int) (hi : i < 0) (w : World) :
    Calls Tryd.prog 14 #[.slice ka kl ck, .string s, .int .i64 i] w fun e w' => e = .returned (.slice none 0 0) ∧ w = w' := by
  have t1 : decide (i < 0) = true := decide_eq_true hi
  go_enter Tryd.func14, Tryd.ntmps14
  go_wp2_with fail
  go_ret
  exact ⟨rfl, rfl⟩
set_option maxRecDepth 100000 in
set_option maxHeartbeats 4000000 in
theorem rderive_c (ka : Option Addr) (ck : Nat) (key : List UInt8) (SK : Nat → TypeId → Prop) (s : ByteArray) (lab : List UInt8) (hlab : s.data.toList = lab) (n : Nat) (hn : n ≤ 4000) (w : World)
    (hk : RB w SK ka key) (hkl : key.length ≤ 140737488355000) (hll : lab.length ≤ 100000) :
    Calls Tryd.prog 14 #[.slice ka key.length ck, .string s, .int .i64 n] w fun e w' => ∃ A c, e = .returned (.slice A n c) ∧ RB w' (fun _ _ => True) A (drv (byt (kb key)) lab n) ∧ Ext w w' := by
  obtain ⟨i0, hi0, hz0, hz1, hz2⟩ := info_parts info_u8
  have HK := Lib.hid hk
  have HKL := Lib.hid hkl
  have HLL := Lib.hid hll
  have HLAB := Lib.hid hlab
  have t1 : decide ((n : Int) < 0) = false := decide_eq_false (by omega)
  have t2 : decide ((8160 : Int) < (n : Int)) = false := decide_eq_false (by omega)
  obtain ⟨F, hF⟩ : ∃ F, F = byt (kb key) := ⟨_, rfl⟩
  rw [← hF]
  have HF := Lib.hid hF
  have hd0 : dv F lab 0 = [] := by rw [dv]
  clear hk hkl hll hlab hF
  go_enter Tryd.func14, Tryd.ntmps14
  go_wp2_with fail
  go_loopw [7, 8] (fun v j wr => ∃ (i : Nat) (A : Option Addr) (c k : Nat), i ≤ n ∧ j = .int .i64 i ∧ k = 32 * ((i + 31) / 32) ∧ v = .slice A k c ∧ OwnB wr 5 w.heap.size A c (dv F lab ((i + 31) / 32)) ∧ Ext w wr) (fun _ j _ => n - (intOf j).toNat)
  case atStart => exact ⟨0, none, 0, 0, by omega, rfl, rfl, rfl, by rw [show (0 + 31) / 32 = 0 from rfl, hd0]; exact OwnB.nil _ _ _, Ext.refl _⟩
  case round =>
    obtain ⟨i, A, c, k, hi, rfl, hk, rfl, ho, hx⟩ := hrel
    have hol := dv_len F lab ((i + 31) / 32)
    rw [← hk] at hol
    by_cases hlt : i < n
    · by_cases h0 : i % 32 = 0
      · obtain ⟨m, hm⟩ : ∃ m, m = i / 32 := ⟨_, rfl⟩
        have em : (i + 31) / 32 = m := by omega
        have em2 : (i + 1 + 31) / 32 = m + 1 := by omega
        have f1 : (i : Int) % 32 = 0 := by omega
        have f2 : (i : Int) / 32 = (m : Int) := by omega
        have hk2 : k = 32 * m := by rw [hk, em]
        rw [em] at ho hol
        have hm125 : m ≤ 125 := by omega
        have HO := Lib.hid ho
        have HX := Lib.hid hx
        have HOL := Lib.hid hol
        have HEM := Lib.hid em2
        have HK2 := Lib.hid hk2
        clear ho hx hol em em2 hk hk2 hm h0
        obtain ⟨b, hb1, hb2⟩ := byte_of (x := m + 1) (by omega)
        have hcs : (#[Value.int .u8 ((m : Int) + 1)] : Array Value).toList = [b].map u8 := by simp [u8, hb1]
        have hlit := OwnB.lit (w := wr) (E := 5) (base := wr.heap.size) [b] #[Value.int .u8 ((m : Int) + 1)] hcs (Nat.le_refl _) (by simp [maxLen])
        have hstep : dv F lab (m + 1) = dv F lab m ++ btl 32 (hm key (b :: lab)) := by rw [dv_succ, ← hb2, cdl, HF.out]; rfl
        obtain ⟨P0, hP0⟩ : ∃ P, P = dv F lab m := ⟨_, rfl⟩
        obtain ⟨C, hC⟩ : ∃ C, C = hm key (b :: lab) := ⟨_, rfl⟩
        have hCl : ∀ i, i < 32 → C i < 256 := fun i _ => by rw [hC]; exact hm_lt _ _ _
        rw [← hP0] at HO HOL hstep
        rw [← hC] at hstep
        have hql := btl_len 32 C
        obtain ⟨Q0, hQ0⟩ : ∃ Q, Q = btl 32 C := ⟨_, rfl⟩
        rw [← hQ0] at hstep hql
        have HLIT := Lib.hid hlit
        have HSTEP := Lib.hid hstep
        have HC := Lib.hid hC
        have HCL := Lib.hid hCl
        have HQL := Lib.hid hql
        have HQ0 := Lib.hid hQ0
        clear hcs hlit hstep hP0 hC hCl hb1 hb2 hql hQ0
        go_wp2_with (at_builtin; refine wpList_append_str _ rfl (.tmp 29) (.tmp 30) 22 9 rfl wr.heap.size 5 i0 Tryd.underlying22 Tryd.underlying9 hi0 hz0 hz1 hz2 (some ⟨wr.heap.size, 0, none⟩) 1 [b] 1 rfl rfl HLIT.out s lab rfl HLAB.out (by have := HLL.out; omega) (by simp) ?_
                     intro A4 c4 w4 ho4 hg4)
        have hx4 : Ext wr w4 := grown_new (Ext.alloc _ _) hg4 (fun g hg => by simp [Value.ownBlock] at hg; omega)
        have hmac := rmac_c ka ck key SK A4 c4 (b :: lab) _ w4 (HK.out.ext (HX.out.tr hx4)) HKL.out ho4.rb (by have := HLL.out; simp; omega)
        rw [List.length_cons, Nat.add_comm lab.length 1, ← HC.out] at hmac
        have HMAC := Lib.hid hmac
        have HX4 := Lib.hid (HX.out.tr hx4)
        have HO4 := Lib.hid (HO.out.ext hx4)
        clear ho4 hg4 hx4 hmac
        refine HMAC.out.mono ?_
        rintro e w5 ⟨rfl, hx5⟩
        have HX5 := Lib.hid (HX4.out.tr hx5)
        have HO5 := Lib.hid (HO4.out.ext hx5)
        clear hx5 HMAC
        go_wp2_with (first
          | (refine wpList_store_arr rfl 26 (.tmp 9) (.tmp 32) rfl w5.heap.size .u8 32 C rfl rfl 26 _ (new_of _ _) size_dig rfl ?_
             intro w6 hA6 hG6
             have hx6 : Ext w5 w6 := grown_new (Ext.alloc _ _) hG6 (fun g hg => by simp at hg; omega)
             have HX6 := Lib.hid (HX5.out.tr hx6)
             have HO6 := Lib.hid (HO5.out.ext hx6)
             have hrb6 : RB w6 (fun g' t' => g' = w5.heap.size ∧ t' = 26) (some ⟨w5.heap.size, 0, none⟩) Q0 := by rw [HQ0.out]; exact hA6.rb HCL.out
             have HRB6 := Lib.hid hrb6
             have hle6 := HX6.out.size
             clear hA6 hG6 hx6 hrb6)
          | (at_builtin; refine wpList_append_bytes _ rfl (.tmp 33) (.tmp 34) 22 rfl w.heap.size 5 i0 Tryd.underlying22 hi0 hz0 hz1 hz2 A c P0 (by rw [HOL.out]; rfl) HO6.out _ (some ⟨w5.heap.size, 0, none⟩) 32 Q0 (by rw [HQL.out]; rfl) HRB6.out (by rw [HOL.out, HQL.out]; have := HK2.out; omega) hle6 ?_
             intro A7 c7 w7 ho7 hg7 hb7))
        have hx7 : Ext w w7 := grown_new HX6.out hg7 HO6.out.ge
        rw [← HSTEP.out] at ho7
        clear hg7 hb7
        go_roundw
        case rel => exact ⟨i + 1, A7, c7, k + 32, by omega, by go_num, by rw [HEM.out]; have := HK2.out; omega, by rw [HOL.out, HQL.out], by rw [HEM.out]; exact ho7, hx7⟩
        case measure => simp [intOf]; omega
      · have em : (i + 1 + 31) / 32 = (i + 31) / 32 := by omega
        obtain ⟨r, hr⟩ : ∃ r, r = i % 32 := ⟨_, rfl⟩
        have f1 : (i : Int) % 32 = (r : Int) := by omega
        have f2 : ((r : Int) == 0) = false := beq_f (by omega)
        have HO := Lib.hid ho
        have HX := Lib.hid hx
        have HEM := Lib.hid em
        have HK2 := Lib.hid hk
        clear ho hx hol em hk hr h0
        go_wp2_with fail
        go_roundw
        case rel => exact ⟨i + 1, A, c, k, by omega, by go_num, by rw [HEM.out]; exact HK2.out, rfl, by rw [HEM.out]; exact HO.out, HX.out⟩
        case measure => simp [intOf]; omega
    · have en : i = n := by omega
      have hcap := ho.le
      rw [hol] at hcap
      have hge : n ≤ 32 * ((i + 31) / 32) := by omega
      have hdr := drv_at F lab n ((i + 31) / 32) hge
      have hrb := (ho.rb.take n).more (S' := fun _ _ => True) (fun _ _ _ => trivial)
      rw [hdr] at hrb
      have HRB := Lib.hid hrb
      have HX := Lib.hid hx
      have HEN := Lib.hid en
      have hnk : n ≤ k := by rw [hk]; exact hge
      have hnc : n ≤ c := by have := hcap.1; omega
      by_cases hc0 : 0 < c
      · obtain ⟨g, hg⟩ : ∃ g, A = some ⟨g, 0, none⟩ := by
          rcases ho.block with ⟨_, h, _⟩ | ⟨g, _, h, _⟩
          · omega
          · exact ⟨g, h⟩
        subst hg
        have hsl := fun W => run_slice_hi0 (P := Tryd.prog) (t := 22) Tryd.underlying22 size_u8 g 0 k c n hnc hc0 (n : Int) rfl W
        clear ho hx hol hk hcap hge hdr hrb
        subst en
        go_wp2_with fail
        go_ret
        exact ⟨_, ⟨c, rfl⟩, HRB.out, HX.out⟩
      · have hc1 : c = 0 := by omega
        have hk1 : k = 0 := by have := hcap.1; omega
        have hn1 : n = 0 := by omega
        have hi1 : i = 0 := by omega
        have hd1 : drv F lab 0 = [] := List.eq_nil_of_length_eq_zero (drv_len F lab 0)
        have hsl := fun W => run_slice_zero (P := Tryd.prog) (t := 22) Tryd.underlying22 size_u8 A W
        clear ho hx hol hk hcap hge hdr hrb en hnk hnc hc0 HRB HEN t1 t2 hd0 hlt
        subst hc1 hk1 hn1 hi1
        have HD1 := Lib.hid hd1
        clear hd1
        go_wp2_with fail
        go_ret
        exact ⟨_, 0, rfl, by rw [HD1.out]; exact RB.nil _ _ _, HX.out⟩
end Go.Proofs.YtdbmkkjpdhnllaaDoor
