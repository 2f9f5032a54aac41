/-
  ShaConstants: the reference's Root.
-/
import Derived.Test.YtphifnknbaebkaaDoorRootC
namespace Go.Proofs.YtphifnknbaebkaaDoor
open Go.RowKit

theorem u64s_get {l : List Nat} {j : Nat} (hj : j < l.length) : (u64s l)[j]? = some (.int .u64 (l.getD j 0 : Nat)) := by
  rw [u64s, List.getElem?_map, List.getElem?_eq_getElem hj, List.getD_eq_getElem?_getD, List.getElem?_eq_getElem hj]
  rfl
/-- 'append([]uint64{0}, l...)' -/
theorem wpList_append_head {P : Program} (w : World) {ops : Array Oper} {rest : List Oper} {o : Oper} {a : Act} {Q : Exit → Act → World → Prop} (hgd : o.guard = none) (s x : Operand) (t : TypeId)
    (ho : o.op = .call { callee := .builtin .append, args := #[s, x], argTypes := #[t, t] })
    (E : TypeId) (i : TypeInfo) (ht : P.underlying t = some (.slice E)) (hi : P.info? E = some i) (hz : i.zero = some (.int .u64 0)) (hsz : i.size = 1) (hy : i.bytes = 8)
    (gz : Nat) (hs : a.eval s = .slice (some ⟨gz, 0, none⟩) 1 1) (h0 : w.cell? ⟨gz, 0, none⟩ = some (.int .u64 0)) (g c : Nat) (l : List Nat) (hx : a.eval x = .slice (some ⟨g, 0, none⟩) l.length c) (hr : RD w g l) (hpos : 0 < l.length) (hlen : l.length ≤ 1000)
    (h : ∀ g' c' w', RD w' g' (0 :: l) → Ext w w' → wpList P ops Q rest (a.put o.dst (.slice (some ⟨g', 0, none⟩) (1 + l.length) c')) w') : wpList P ops Q (o :: rest) a w := by
  have hrun := run_append_grow (P := P) (w := w) t o.type E i (.int .u64 0) ht hi hz ⟨gz, 0, none⟩ 1 1 [.int .u64 0] (by rw [hsz]; rfl)
    (by
      intro j v hj
      rcases j with _ | j
      · simp at hj; subst hj; exact h0
      · simp at hj)
    ⟨g, 0, none⟩ l.length c (u64s l) (by rw [hsz, u64s, List.length_map, Nat.mul_one])
    (by
      intro j v hj
      have hjl : j < l.length := by have := (List.getElem?_eq_some_iff.1 hj).1; rwa [u64s, List.length_map] at this
      rw [u64s_get hjl] at hj
      rw [(addr_add _ _).2 rfl, ← Option.some.inj hj, Nat.zero_add]
      exact hr.cell hjl)
    (by omega) (by omega) (growslice_fits (by omega) (by rw [hy]; omega))
  refine wpList_plain hgd fun K hK => ?_
  unfold Oper.wp execOp
  simp only [ho, resolve, invoke, builtin, Sem.run_bind, Sem.run_pure, Result.andThen_ok, List.map_toArray, List.map_cons, List.map_nil, hs, hx, hrun]
  refine hK _ _ (h _ _ _ ?_ ((Ext.drew w).tr (Ext.alloc _ _)))
  refine ⟨_, _, _, new_of _ _, fun j hj => ?_⟩
  have e : [Value.int .u64 0].toArray ++ (u64s l).toArray = (u64s (0 :: l)).toArray := by simp [u64s]
  have hj2 : j < (u64s (0 :: l)).length := by rw [u64s, List.length_map]; exact hj
  rw [e, Array.getElem?_append_left (by simpa using hj2), List.getElem?_toArray]
  exact u64s_get hj

theorem rootd_step {lim : List Nat} {d k x r : Nat} (h : rootd lim d (k + 1) x = some r) :
    ∃ p, powd (digs 4 (x + 2 ^ k)) (d - 1) (digs 4 (x + 2 ^ k)) = some p ∧ rootd lim d k (if above p lim (max p.length lim.length) then x else x + 2 ^ k) = some r := by
  rw [rootd] at h
  simp only [nowL_eq, now_eq] at h
  cases hq : powd (digs 4 (x + 2 ^ k)) (d - 1) (digs 4 (x + 2 ^ k)) with
  | none => rw [hq] at h; cases h
  | some p => rw [hq] at h; exact ⟨p, rfl, h⟩
theorem powd_step {y p r : List Nat} {k : Nat} (h : powd y (k + 1) p = some r) : ∃ p', prod p y = some p' ∧ powd y k p' = some r := by
  rw [powd] at h
  cases hq : prod p y with
  | none => rw [hq] at h; cases h
  | some p' => rw [hq] at h; exact ⟨p', rfl, h⟩

set_option maxRecDepth 100000 in
set_option maxHeartbeats 8000000 in
theorem root_c (n d r : Nat) (hd : 1 ≤ d ∧ d ≤ 3) (hn : 0 < n ∧ n ≤ 1000) (h : rootn n d = some r) (w : World) :
    Calls Tryd.prog 17 #[.int .i64 n, .int .i64 d] w fun e w' => e = .returned (.int .u32 ((r % 4294967296 : Nat) : Int)) ∧ Ext w w' := by
  obtain ⟨i0, hi0, hz0, hz1, hz2⟩ := info_of info_u64
  have H := Lib.hid h
  clear h
  obtain ⟨hd1, hd3⟩ := hd
  obtain ⟨hn1, hn2⟩ := hn
  have wn : IntKind.u64.wrap (n : Int) = (n : Int) := by rw [IntKind.wrap_u64]; omega
  go_enter Tryd.func17, Tryd.ntmps17
  go_wp2_with fail
  refine (digits_c n hn1 (by omega) w).mono ?_
  rintro e w1 ⟨g1, c1, rfl, hr1, hx1⟩
  have HR1 := Lib.hid hr1
  have HX1 := Lib.hid hx1
  have hdl := digs_len 4 n
  have hdp : 0 < (digs 4 n).length := digs_pos 3 n hn1
  clear hr1 hx1
  go_wp2_with fail
  go_loopw [5, 6] (fun vl vi wr => ∃ (i g c : Nat) (l : List Nat), i ≤ 2 * d ∧ vi = .int .i64 i ∧ vl = .slice (some ⟨g, 0, none⟩) l.length c ∧ l = List.replicate i 0 ++ digs 4 n ∧ l.length = i + (digs 4 n).length ∧ RD wr g l ∧ Ext w wr) (fun _ vi _ => 2 * d - (intOf vi).toNat)
  case atStart => exact ⟨0, g1, c1, digs 4 n, Nat.zero_le _, rfl, rfl, rfl, (Nat.zero_add _).symm, HR1.out, HX1.out⟩
  case round =>
    obtain ⟨i, g, c, l, hi, rfl, rfl, hl, hll, hrd, hxr⟩ := hrel
    by_cases hlt : i < 2 * d
    · have HL := Lib.hid hl
      have HX := Lib.hid hxr
      have hr' := hrd.ext (Ext.alloc wr (.cells #[.int .u64 0] 30))
      have h0 : (wr.alloc (.cells #[.int .u64 0] 30)).cell? ⟨wr.heap.size, 0, none⟩ = some (.int .u64 0) := by
        rw [cells_of (new_of wr _)]; rfl
      clear hl hxr hrd
      go_wp2_with (at_builtin; refine wpList_append_head _ rfl _ _ 56 rfl 30 i0 Tryd.underlying56 hi0 hz0 hz1 hz2 wr.heap.size rfl h0 g c l rfl hr' (by omega) (by omega) ?_; intro g2 c2 w2 ho2 hx2)
      have hx3 : Ext w w2 := (HX.out.tr (Ext.alloc _ _)).tr hx2
      go_roundw
      case rel => exact ⟨i + 1, g2, c2, 0 :: l, by omega, by go_num, by rw [show (0 :: l).length = 1 + (i + (digs 4 n).length) from by rw [List.length_cons]; omega], by rw [HL.out, List.replicate_succ, List.cons_append], by rw [List.length_cons]; omega, ho2, hx3⟩
      case measure => simp [intOf] <;> omega
    · have ei : i = 2 * d := by omega
      rw [ei] at hl hll
      obtain ⟨dn, hdn⟩ : ∃ dn, dn = (digs 4 n).length := ⟨_, rfl⟩
      rw [← hdn] at hll hdl
      have hr0 := H.out
      unfold rootn at hr0
      rw [← hl] at hr0
      have hll2 : l.length ≤ 20 := by omega
      have HR := Lib.hid hrd
      have HX := Lib.hid hxr
      have HT := Lib.hid hr0
      have HLL := Lib.hid hll2
      clear hl hll hrd hxr hr0 hll2 hdl hdp hdn ei
      go_wp2_with fail
      obtain ⟨wo, hwo⟩ : ∃ wo : World, wo = wr := ⟨_, rfl⟩
      rw [← hwo] at HR HX ⊢
      clear hwo
      go_loopw [7, 8] (fun vx vb wi => ∃ (k x : Nat), k ≤ 37 ∧ vb = .int .i64 ((k : Int) - 1) ∧ vx = .int .u64 x ∧ x + 2 ^ k ≤ 137438953472 ∧ rootd l d k x = some r ∧ Ext wo wi) (fun _ vb _ => (intOf vb + 1).toNat)
      case atStart => exact ⟨37, 0, Nat.le_refl _, rfl, rfl, by decide, HT.out, Ext.refl _⟩
      case round =>
        obtain ⟨k, x, hk, rfl, rfl, hxk, hrt, hxr⟩ := hrel
        rcases k with _ | k
        · rw [rootd] at hrt
          obtain rfl := Option.some.inj hrt
          have HX2 := Lib.hid (HX.out.tr hxr)
          clear hrt hxr
          go_wp2_with fail
          go_ret
          exact ⟨by rw [Int.natCast_emod]; rfl, HX2.out⟩
        · rw [show (((k + 1 : Nat) : Int) - 1) = (k : Int) by omega]
          obtain ⟨p, hpw, hrt2⟩ := rootd_step hrt
          obtain ⟨t, ht⟩ : ∃ t, t = 2 ^ k := ⟨_, rfl⟩
          have hti : (2 : Int) ^ k = (t : Int) := by rw [ht, Int.natCast_pow]; rfl
          have ht0 : 0 < t := by rw [ht]; exact Nat.pow_pos (by decide)
          rw [Nat.pow_succ, ← ht] at hxk
          rw [← ht] at hpw hrt2
          obtain ⟨y, hy⟩ : ∃ y, y = x + t := ⟨_, rfl⟩
          rw [← hy] at hpw hrt2
          have wy : IntKind.u64.wrap ((x : Int) + IntKind.u64.wrap ((2 : Int) ^ k)) = (y : Int) := by
            rw [hti, IntKind.wrap_u64, IntKind.wrap_u64]
            omega
          have hyk : x + 2 ^ k ≤ 137438953472 ∧ y + 2 ^ k ≤ 137438953472 := by rw [← ht]; omega
          have hy2 : 0 < y ∧ y < 18446744073709551616 := by omega
          have HPW := Lib.hid hpw
          have HRT := Lib.hid hrt2
          have HX2 := Lib.hid hxr
          have HYK := Lib.hid hyk
          have HY2 := Lib.hid hy2
          have WY := Lib.hid wy
          clear hrt hxr hpw hrt2 ht hti ht0 hxk hy wy hyk hy2
          go_wp2_with fail
          rw [WY.out]
          refine (digits_c y HY2.out.1 HY2.out.2 _).mono ?_
          rintro e w2 ⟨g2, c2, rfl, hr2, hx2⟩
          obtain ⟨dy, hdy⟩ : ∃ dy, dy = digs 4 y := ⟨_, rfl⟩
          have hdyl := digs_len 4 y
          rw [← hdy] at hr2 hdyl ⊢
          have HPD := HPW.out
          rw [← hdy] at HPD
          have HP2 := Lib.hid HPD
          have HDY := Lib.hid hdy
          have HDL := Lib.hid hdyl
          have HR2 := Lib.hid hr2
          have HX3 := Lib.hid (HX2.out.tr hx2)
          clear hr2 hx2 hdy hdyl HPD
          go_wp2_with fail
          obtain ⟨wp, hwp⟩ : ∃ wp : World, wp = w2 := ⟨_, rfl⟩
          rw [← hwp] at HR2 HX3 ⊢
          clear hwp
          go_loopw [10, 11] (fun vq ve wi => ∃ (e g c : Nat) (q : List Nat), e + 1 ≤ d ∧ ve = .int .i64 ((e : Int) + 1) ∧ vq = .slice (some ⟨g, 0, none⟩) q.length c ∧ powd dy (d - 1 - e) q = some p ∧ q.length ≤ 5 * e + 4 ∧ RD wi g q ∧ Ext wp wi) (fun _ ve _ => d - (intOf ve).toNat)
          case atStart => exact ⟨0, g2, c2, dy, hd1, rfl, rfl, HP2.out, by have := HDL.out; omega, HR2.out, Ext.refl _⟩
          case round =>
            obtain ⟨e, g3, c3, q, he, rfl, rfl, hq, hql, hrq, hxr⟩ := hrel
            by_cases hle : e + 1 < d
            · obtain ⟨m, hm⟩ : ∃ m, d - 1 - e = m + 1 := ⟨d - 2 - e, by omega⟩
              rw [hm] at hq
              obtain ⟨q2, hp2, hq2⟩ := powd_step hq
              have HRQ := Lib.hid hrq
              have HX4 := Lib.hid hxr
              have HQP := Lib.hid hp2
              have HQ2 := Lib.hid hq2
              have HM := Lib.hid (show m = d - 1 - (e + 1) by omega)
              have HQL := Lib.hid hql
              clear hq hrq hxr hp2 hq2 hm hql
              go_wp2_with fail
              refine (digits_c y HY2.out.1 HY2.out.2 _).mono ?_
              rintro e4 w4 ⟨g4, c4, rfl, hr4, hx4⟩
              rw [← HDY.out] at hr4 ⊢
              have HR4 := Lib.hid hr4
              have HX5 := Lib.hid (HX4.out.tr hx4)
              have HRQ4 := Lib.hid (HRQ.out.ext hx4)
              clear hr4 hx4
              go_wp2_with fail
              refine (product_c q dy q2 HQP.out g3 g4 c3 c4 _ HRQ4.out HR4.out (by have := HQL.out; omega) (by have := HDL.out; omega)).mono ?_
              rintro e5 w5 ⟨g5, c5, rfl, hr5, hx5, hl5⟩
              have HR5 := Lib.hid hr5
              have HX6 := Lib.hid (HX5.out.tr hx5)
              have HL5 := Lib.hid (show q2.length ≤ 5 * (e + 1) + 4 by have := HQL.out; have := HDL.out; omega)
              clear hr5 hx5 hl5
              go_wp2_with fail
              go_roundw
              case rel => exact ⟨e + 1, g5, c5, q2, by omega, by go_num, rfl, by rw [← HM.out]; exact HQ2.out, HL5.out, HR5.out, HX6.out⟩
              case measure => simp [intOf] <;> omega
            · have e0 : d - 1 - e = 0 := by omega
              rw [e0, powd] at hq
              have hqp : p = q := (Option.some.inj hq).symm
              have hrt3 := HRT.out
              rw [hqp] at hrt3
              have HRQ := Lib.hid hrq
              have HX4 := Lib.hid (HX3.out.tr hxr)
              have HRL := Lib.hid (HR.out.ext HX4.out)
              have HQL := Lib.hid hql
              have HRT3 := Lib.hid hrt3
              clear hq hqp hrt3 hrq hxr hql e0
              go_wp2_with fail
              refine (greater_c q l g3 g c3 c _ HRQ.out HRL.out (by have := HQL.out; omega) (by have := HLL.out; omega)).mono ?_
              rintro e6 w6 ⟨rfl, hx6⟩
              obtain ⟨bb, hbb⟩ : ∃ bb, bb = above q l (max q.length l.length) := ⟨_, rfl⟩
              have hrt4 := HRT3.out
              rw [← hbb] at hrt4 ⊢
              have HX7 := Lib.hid (HX4.out.tr hx6)
              clear hx6 hbb
              rcases bb with _ | _
              · rw [if_neg (by decide)] at hrt4
                have HRT4 := Lib.hid hrt4
                clear hrt4
                go_wp2_with fail
                go_roundw
                case rel => exact ⟨k, y, by omega, rfl, rfl, HYK.out.2, HRT4.out, HX7.out⟩
                case measure => simp [intOf] <;> omega
              · rw [if_pos rfl] at hrt4
                have HRT4 := Lib.hid hrt4
                clear hrt4
                go_wp2_with fail
                go_roundw
                case rel => exact ⟨k, x, by omega, rfl, rfl, HYK.out.1, HRT4.out, HX7.out⟩
                case measure => simp [intOf] <;> omega
end Go.Proofs.YtphifnknbaebkaaDoor
