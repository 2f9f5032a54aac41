/-
  Names compared by the reference; the first word of a text, by the package.
-/
import Derived.Test.YtgbdckiojjmncaaNamD
namespace Go.Proofs.Ytgbdckiojjmncaa
open Go.RowKit

theorem strs_take {ss tt : List ByteArray} {k : Nat} (h : ss.take k = tt.take k) (hl : k < ss.length) (hm : k < tt.length) : (ss.take (k + 1) = tt.take (k + 1)) ↔ ss[k] = tt[k] := take_succ_eq h hl hm
set_option maxRecDepth 100000 in
set_option maxHeartbeats 1000000 in
theorem rnsame_c (s t : ByteArray) (A B : Option Addr) (c d : Nat) (ss tt : List ByteArray) (S T : Nat → TypeId → Prop) (w : World) (ha : SR w S A ss) (hb : SR w T B tt) (hn : ss.length ≤ 9223372036854775807) (hm : tt.length ≤ 9223372036854775807) :
    Calls Try.prog 19 #[.agg #[.string s, .slice A ss.length c], .agg #[.string t, .slice B tt.length d]] w fun e w' => e = .returned (.bool (sm s ss t tt)) ∧ Ext w w' := by
  obtain ⟨wo, hwo⟩ : ∃ wo : World, wo = (w.alloc (.cells #[.string s, .slice A ss.length c] 24)).alloc (.cells #[.string t, .slice B tt.length d] 24) := ⟨_, rfl⟩
  have hx0 : Ext w wo := by rw [hwo]; exact (Ext.alloc _ _).tr (Ext.alloc _ _)
  have hd1 : wo.heap[w.heap.size]? = some (.cells #[.string s, .slice A ss.length c] 24 (0, 0)) := by rw [hwo]; exact (two_new _ _ _).1
  have hd2 : wo.heap[w.heap.size + 1]? = some (.cells #[.string t, .slice B tt.length d] 24 (0, 0)) := by rw [hwo]; exact (two_new _ _ _).2
  have HA := Lib.hid (ha.ext hx0)
  have HB := Lib.hid (hb.ext hx0)
  have HX0 := Lib.hid hx0
  have HW := Lib.hid hwo
  have k1 : wo.cell? ⟨w.heap.size, 1, none⟩ = some (.slice A ss.length c) := cells_of hd1 1
  have k2 : wo.cell? ⟨w.heap.size + 1, 1, none⟩ = some (.slice B tt.length d) := cells_of hd2 1
  clear ha hb hx0
  by_cases h1 : s = t
  · have t1 := beq_str_t h1
    by_cases hl : ss.length = tt.length
    · have e : sm s ss t tt = decide (ss = tt) := by rw [sm, decide_eq_true h1, Bool.true_and]
      rw [e]
      have hb0 := bne_f (a := (ss.length : Int)) (b := (tt.length : Int)) (by omega)
      have hl1 : ss.length ≤ tt.length := by omega
      have hl2 : tt.length ≤ ss.length := by omega
      have K1 := Lib.hid k1
      have K2 := Lib.hid k2
      clear e h1 hl hwo hd1 hd2 k1 k2
      go_enter Try.func19, Try.ntmps19
      go_wp2_with fail
      rw [← HW.out]
      go_loopw [5] (fun i wr => ∃ (k n : Nat), k ≤ ss.length ∧ i = .int .i64 k ∧ ss.take k = tt.take k ∧ wr = wo.drewN n) (fun i _ => ss.length - (intOf i).toNat)
      case atStart => exact ⟨0, 0, Nat.zero_le _, rfl, by simp, rfl⟩
      case round =>
        obtain ⟨k, n, hk, rfl, htk, rfl⟩ := hrel
        have HTK := Lib.hid htk
        have c1 := K1.out
        have c2 := K2.out
        clear htk
        by_cases hlt : k < ss.length
        · have hlt' : k < tt.length := by omega
          obtain ⟨g1, o1, rfl, hc1⟩ := HA.out.cell hlt
          obtain ⟨g2, o2, rfl, hc2⟩ := HB.out.cell hlt'
          have HS := Lib.hid (strs_take HTK.out hlt hlt')
          by_cases he : ss[k] = tt[k]
          · have t2 := beq_str_t he
            have HE := Lib.hid he
            clear he
            go_wp2_with fail
            go_quiet (fail)
            go_wp2_with fail
            go_roundw
            case rel => exact ⟨k + 1, _, by omega, by go_num, HS.out.2 HE.out, rfl⟩
            case measure => simp [intOf]; omega
          · have t2 := beq_str_f he
            have HE := Lib.hid he
            clear he
            go_wp2_with fail
            go_quiet (fail)
            go_wp2_with fail
            go_ret
            exact ⟨by rw [decide_eq_false (fun h => HE.out (by subst h; rfl))]; rfl, HX0.out.tr ((Ext.drewN _ _).tr (Ext.drewN _ _))⟩
        · have hall : ss = tt := by
            have := HTK.out
            rw [List.take_of_length_le (by omega), List.take_of_length_le (by omega)] at this
            exact this
          have HL := Lib.hid hall
          clear hall
          go_wp2_with fail
          go_ret
          exact ⟨by rw [decide_eq_true HL.out]; rfl, HX0.out.tr (Ext.drewN _ _)⟩
    · have e : sm s ss t tt = false := by rw [sm, decide_eq_false (p := ss = tt) (fun h => hl (by rw [h])), Bool.and_false]
      rw [e]
      have hb0 := bne_t (a := (ss.length : Int)) (b := (tt.length : Int)) (by omega)
      clear e h1 hl hwo hd1 hd2 k1 k2
      go_enter Try.func19, Try.ntmps19
      go_wp2_with fail
      go_ret
      exact ⟨rfl, (Ext.alloc _ _).tr (Ext.alloc _ _)⟩
  · have t1 := beq_str_f h1
    have e : sm s ss t tt = false := by rw [sm, decide_eq_false h1, Bool.false_and]
    rw [e]
    clear e h1 hwo hd1 hd2 k1 k2
    go_enter Try.func19, Try.ntmps19
    go_wp2_with fail
    go_ret
    exact ⟨rfl, (Ext.alloc _ _).tr (Ext.alloc _ _)⟩

/-! ## the first word -/
theorem nx_drop_sg {l : List UInt8} {k : Nat} (h : k < l.length) (hc : l[k] = 47 ∨ l[k] = 64) : nx (l.drop k) = some ([], l[k], l.drop (k + 1)) := by
  rw [List.drop_eq_getElem_cons h, nx_sg hc]
theorem nx_drop_b0 {l : List UInt8} {k : Nat} (h : k + 1 = l.length) (hc : l[k] = 92) : nx (l.drop k) = none := by
  rw [List.drop_eq_getElem_cons (by omega), hc, List.drop_of_length_le (by omega), nx_b0]
theorem nx_drop_b {l : List UInt8} {k : Nat} (h : k + 1 < l.length) (hc : l[k] = 92) : nx (l.drop k) = if mk l[k + 1] then (nx (l.drop (k + 2))).map fun x => (l[k + 1] :: x.1, x.2.1, x.2.2) else none := by
  rw [List.drop_eq_getElem_cons (by omega), hc, List.drop_eq_getElem_cons h, nx_b]
theorem nx_drop_pl {l : List UInt8} {k : Nat} (h : k < l.length) (h1 : l[k] ≠ 47) (h2 : l[k] ≠ 64) (h3 : l[k] ≠ 92) : nx (l.drop k) = (nx (l.drop (k + 1))).map fun x => (l[k] :: x.1, x.2.1, x.2.2) := by
  rw [List.drop_eq_getElem_cons h, nx_pl h1 h2 h3]
/-- what 'next' returns -/
def nxr (l : List UInt8) : List UInt8 × UInt8 × List UInt8 := (nx l).getD ([], 0, [])
/-- bytes ahead of the word -/
def nxa (acc : List UInt8) (o : Option (List UInt8 × UInt8 × List UInt8)) : Option (List UInt8 × UInt8 × List UInt8) := o.map fun x => (acc ++ x.1, x.2.1, x.2.2)
theorem nxa_map (acc : List UInt8) (b : UInt8) (o : Option (List UInt8 × UInt8 × List UInt8)) : nxa acc (o.map fun x => (b :: x.1, x.2.1, x.2.2)) = nxa (acc ++ [b]) o := by
  unfold nxa
  rw [Option.map_map]
  congr 1
  funext x
  simp
theorem nxa_nil (o : Option (List UInt8 × UInt8 × List UInt8)) : nxa [] o = o := by
  unfold nxa
  cases o with
  | none => rfl
  | some x => simp
theorem drop_all {s : ByteArray} {k : Nat} : bl (s.extract k s.size) = (bl s).drop k := by
  rw [bl_ex, List.take_of_length_le (by rw [List.length_drop, bl_len]; omega)]

set_option maxRecDepth 100000 in
set_option maxHeartbeats 4000000 in
theorem next_c (s : ByteArray) (w : World) (hs : s.size ≤ 1000000) : Calls Try.prog 33 #[.string s] w fun e w' => ∃ t u : ByteArray, e = .returned (.tuple #[.string t, .int .u8 ((nxr (bl s)).2.1.toNat : Int), .string u]) ∧ bl t = (nxr (bl s)).1 ∧ bl u = (nxr (bl s)).2.2 ∧ Ext w w' := by
  obtain ⟨i0, hi0, hz0, hz1, hz2⟩ := info_parts info_u8
  go_enter Try.func33, Try.ntmps33
  go_wp2_with fail
  go_loopw [5, 6] (fun v i wr => ∃ (k : Nat) (B : Option Addr) (d n : Nat) (acc : List UInt8), k ≤ s.size ∧ i = .int .i64 k ∧ v = .slice B n d ∧ n ≤ k ∧ acc.length = n ∧ OwnB wr 5 w.heap.size B d acc ∧ Ext w wr ∧ nx (bl s) = nxa acc (nx ((bl s).drop k))) (fun _ i _ => s.size - (intOf i).toNat)
  case atStart => exact ⟨0, none, 0, 0, [], Nat.zero_le _, rfl, rfl, Nat.le_refl _, rfl, OwnB.nil _ _ _, Ext.refl _, by rw [nxa_nil]; rfl⟩
  case round =>
    obtain ⟨k, B, d, n, acc, hk, rfl, rfl, hnk, hn, hor, hx, hnx⟩ := hrel
    have HX := Lib.hid hx
    have HNX := Lib.hid hnx
    have hsz := hx.size
    clear hx hnx
    by_cases hlt : k < s.size
    · have hp' : k < (bl s).length := by rw [bl_len]; exact hlt
      have hg := bl_get hlt
      obtain ⟨b, hb⟩ : ∃ b, s[k]'hlt = b := ⟨_, rfl⟩
      rw [hb] at hg
      by_cases q1 : b = 47 ∨ b = 64
      · have hsg := nx_drop_sg hp' (by rw [hg]; exact q1)
        rw [hg] at hsg
        have hres : nxr (bl s) = (acc, b, (bl s).drop (k + 1)) := by
          unfold nxr
          rw [HNX.out, hsg]
          simp [nxa]
        have hcv := fun m => conv_back d n (hor.rb.ext (Ext.drewN wr m)) hn
        obtain ⟨t, ht⟩ : ∃ t : ByteArray, t = ⟨acc.toArray⟩ := ⟨_, rfl⟩
        rw [← ht] at hcv
        have HT := Lib.hid ht
        have HRES := Lib.hid hres
        clear hsg hres ht hg
        have t12 : ((b.toNat : Int) == 47) = true ∨ (((b.toNat : Int) == 47) = false ∧ ((b.toNat : Int) == 64) = true) := by
          rcases q1 with q | q
          · exact .inl (beq_t (by rw [q]; rfl))
          · exact .inr ⟨beq_f (by rw [q]; decide), beq_t (by rw [q]; rfl)⟩
        clear q1
        rcases t12 with t1 | ⟨t1, t2⟩
        all_goals
          go_wp2_with fail
          go_quiet (fail)
          go_wp2_with fail
          refine bodyPost_ret (v := .tuple #[.string t, .int .u8 (b.toNat : Int), .string (s.extract (k + 1) s.size)]) (by simp [results, Try.results33, go_sem]) rfl ?_
          exact ⟨t, s.extract (k + 1) s.size, by rw [HRES.out], by rw [HRES.out, HT.out, bl_mk], by rw [HRES.out, drop_all], HX.out.tr (Ext.drewN _ _)⟩
      · simp only [not_or] at q1
        obtain ⟨q1, q2⟩ := q1
        have t1 := beq_f (a := (b.toNat : Int)) (b := 47) (u8_ne q1)
        have t2 := beq_f (a := (b.toNat : Int)) (b := 64) (u8_ne q2)
        by_cases q3 : b = 92
        · have t3 := beq_t (a := (b.toNat : Int)) (b := 92) (by rw [q3]; rfl)
          by_cases h1 : k + 1 < s.size
          · have hp2 : k + 1 < (bl s).length := by rw [bl_len]; exact h1
            have hg2 := bl_get h1
            have hst := nx_drop_b (l := bl s) hp2 (by rw [hg, q3])
            have t4 := beq_f (a := (k : Int) + 1) (b := (s.size : Int)) (by omega)
            obtain ⟨e, he⟩ : ∃ e, s[k + 1]'h1 = e := ⟨_, rfl⟩
            rw [hg2, he] at hst
            have hcm := isMark_c e wr
            clear q1 q2 q3 hg hg2
            by_cases hmk : mk e = true
            · rw [if_pos hmk] at hst
              rw [hmk] at hcm
              have hnx2 : nx (bl s) = nxa (acc ++ [e]) (nx ((bl s).drop (k + 2))) := by rw [HNX.out, hst, nxa_map]
              have hlit := RB.lit wr [e] #[.int .u8 (e.toNat : Int)] 5 rfl
              have hor1 := hor.ext (Ext.alloc wr (.cells #[.int .u8 (e.toNat : Int)] 5))
              have HLIT := Lib.hid hlit
              have HOR1 := Lib.hid hor1
              have HCM := Lib.hid hcm
              have HN2 := Lib.hid hnx2
              clear hst hcm hnx2 hlit hor1 hor hmk
              go_wp2_with fail
              refine HCM.out.mono ?_
              rintro e' w' ⟨rfl, rfl⟩
              go_wp2_with (at_builtin; refine wpList_append_bytes _ rfl _ _ 28 rfl w.heap.size 5 i0 Try.underlying28 hi0 hz0 hz1 hz2 B d acc (by rw [hn]; rfl) HOR1.out _ (some ⟨wr.heap.size, 0, none⟩) 1 [e] rfl HLIT.out (by simp; omega) (by simp; omega) ?_
                           intro A2 c2 w2 ho2 hg2' hb2)
              have hx2 : Ext w w2 := grown_new (HX.out.tr (Ext.alloc _ _)) hg2' HOR1.out.ge
              have hn2 : (acc ++ [e]).length = n + 1 := by rw [List.length_append, hn]; rfl
              go_roundw
              case rel => exact ⟨k + 2, A2, c2, n + 1, acc ++ [e], by omega, by go_num, rfl, by omega, hn2, ho2, hx2, HN2.out⟩
              case measure => simp [intOf]; omega
            · have hmk' : mk e = false := by simpa using hmk
              rw [if_neg hmk] at hst
              rw [hmk'] at hcm
              have hres : nxr (bl s) = ([], 0, []) := by
                unfold nxr
                rw [HNX.out, hst]
                rfl
              have HCM := Lib.hid hcm
              have HRES := Lib.hid hres
              clear hst hcm hres hor hmk hmk'
              go_wp2_with fail
              refine HCM.out.mono ?_
              rintro e' w' ⟨rfl, rfl⟩
              go_wp2_with fail
              refine bodyPost_ret (v := .tuple #[.string ⟨#[]⟩, .int .u8 0, .string ⟨#[]⟩]) (by simp [results, Try.results33, go_sem]) rfl ?_
              exact ⟨⟨#[]⟩, ⟨#[]⟩, by rw [HRES.out]; rfl, by rw [HRES.out]; rfl, by rw [HRES.out]; rfl, HX.out⟩
          · have hst := nx_drop_b0 (l := bl s) (k := k) (by rw [bl_len]; omega) (by rw [hg, q3])
            have t4 := beq_t (a := (k : Int) + 1) (b := (s.size : Int)) (by omega)
            have hres : nxr (bl s) = ([], 0, []) := by
              unfold nxr
              rw [HNX.out, hst]
              rfl
            have HRES := Lib.hid hres
            clear hst hres hor q1 q2 q3 hg
            go_wp2_with fail
            refine bodyPost_ret (v := .tuple #[.string ⟨#[]⟩, .int .u8 0, .string ⟨#[]⟩]) (by simp [results, Try.results33, go_sem]) rfl ?_
            exact ⟨⟨#[]⟩, ⟨#[]⟩, by rw [HRES.out]; rfl, by rw [HRES.out]; rfl, by rw [HRES.out]; rfl, HX.out⟩
        · have t3 := beq_f (a := (b.toNat : Int)) (b := 92) (u8_ne q3)
          have hst := nx_drop_pl hp' (by rw [hg]; exact q1) (by rw [hg]; exact q2) (by rw [hg]; exact q3)
          rw [hg] at hst
          have hnx2 : nx (bl s) = nxa (acc ++ [b]) (nx ((bl s).drop (k + 1))) := by rw [HNX.out, hst, nxa_map]
          have hlit := RB.lit wr [b] #[.int .u8 (b.toNat : Int)] 5 rfl
          have hor1 := hor.ext (Ext.alloc wr (.cells #[.int .u8 (b.toNat : Int)] 5))
          have HLIT := Lib.hid hlit
          have HOR1 := Lib.hid hor1
          have HN2 := Lib.hid hnx2
          clear hst hnx2 hlit hor1 hor q1 q2 q3 hg
          go_wp2_with (at_builtin; refine wpList_append_bytes _ rfl _ _ 28 rfl w.heap.size 5 i0 Try.underlying28 hi0 hz0 hz1 hz2 B d acc (by rw [hn]; rfl) HOR1.out _ (some ⟨wr.heap.size, 0, none⟩) 1 [b] rfl HLIT.out (by simp; omega) (by simp; omega) ?_
                       intro A2 c2 w2 ho2 hg2' hb2)
          have hx2 : Ext w w2 := grown_new (HX.out.tr (Ext.alloc _ _)) hg2' HOR1.out.ge
          have hn2 : (acc ++ [b]).length = n + 1 := by rw [List.length_append, hn]; rfl
          go_roundw
          case rel => exact ⟨k + 1, A2, c2, n + 1, acc ++ [b], by omega, by go_num, rfl, by omega, hn2, ho2, hx2, HN2.out⟩
          case measure => simp [intOf]; omega
    · have hend : nx ((bl s).drop k) = some ([], 0, []) := by rw [List.drop_of_length_le (by rw [bl_len]; omega), nx_nil]
      have hres : nxr (bl s) = (acc, 0, []) := by
        unfold nxr
        rw [HNX.out, hend]
        simp [nxa]
      have hcv := conv_back d n hor.rb hn
      obtain ⟨t, ht⟩ : ∃ t : ByteArray, t = ⟨acc.toArray⟩ := ⟨_, rfl⟩
      rw [← ht] at hcv
      have HT := Lib.hid ht
      have HRES := Lib.hid hres
      clear hend hres ht hor
      go_wp2_with fail
      refine bodyPost_ret (v := .tuple #[.string t, .int .u8 0, .string ⟨#[]⟩]) (by simp [results, Try.results33, go_sem]) rfl ?_
      exact ⟨t, ⟨#[]⟩, by rw [HRES.out]; rfl, by rw [HRES.out, HT.out, bl_mk], by rw [HRES.out]; rfl, HX.out⟩
end Go.Proofs.Ytgbdckiojjmncaa
