/-
  ShaConstants: the reference's product.
-/
import Derived.Test.YtphifnknbaebkaaDoorRootB
namespace Go.Proofs.YtphifnknbaebkaaDoor
open Go.RowKit

/-- the block g holds the list l of numbers, and nothing else -/
def AL (w : World) (g n : Nat) (l : List Nat) : Prop := Arr w g 30 .u64 n (fun i => l.getD i 0) ∧ l.length = n
theorem AL.ext {w w' : World} {g n : Nat} {l : List Nat} (h : AL w g n l) (hx : Ext w w') : AL w' g n l := ⟨h.1.ext hx, h.2⟩
theorem AL.rd {w : World} {g n : Nat} {l : List Nat} (h : AL w g n l) : RD w g l := by
  refine ⟨_, _, _, h.1, fun j hj => ?_⟩
  have h2 := h.1.cell (i := j) (by have := h.2; omega)
  have h3 := h.1
  unfold Arr at h3
  rw [cells_of h3] at h2
  exact h2
theorem AL.put {w : World} {g n : Nat} {l : List Nat} (h : AL w g n l) {i v : Nat} (hi : i < n) : AL (w.setCell ⟨g, i, none⟩ (.int .u64 (v : Nat))) g n (l.set i v) := by
  refine ⟨h.1.to hi ?_ ?_, by rw [List.length_set]; exact h.2⟩
  · rw [List.getD_eq_getElem?_getD, List.getElem?_set_self (by rw [h.2]; exact hi)]
    rfl
  · intro j hj hne
    rw [List.getD_eq_getElem?_getD, List.getD_eq_getElem?_getD, List.getElem?_set_ne (by omega)]

theorem AL.made {w : World} {base g n : Nat} (h : w.ownsRow base 30 1 (.slice (some ⟨g, 0, none⟩) n n) n (madeCells #[.int .u64 0] (n * 1)).toList) : AL w g n (List.replicate n 0) := by
  have hl : (madeCells #[Value.int .u64 0] (n * 1)).toList.length = n := by rw [Array.length_toList, size_madeCells, Nat.mul_one]
  have ho : OwnV w 30 base (some ⟨g, 0, none⟩) n (madeCells #[Value.int .u64 0] (n * 1)).toList := by
    unfold OwnV
    rw [hl]
    exact h
  rcases ho.block with ⟨h, _⟩ | ⟨g', cs, h, _, hh, h1, h2, h3, h4⟩
  · cases h
  · injection h with h
    injection h with h
    subst h
    rw [hl] at h4
    have hcs : cs = tabV .u64 n (fun i => (List.replicate n 0).getD i 0) := by
      refine tabV_ext h3 fun i hi => ?_
      have h5 : (madeCells #[Value.int .u64 0] (n * 1)).toList[i]? = some (.int .u64 0) := by simp [madeCells, hi, Nat.mod_one]
      rw [← h4, List.getElem?_take_of_lt hi, Array.getElem?_toList] at h5
      rw [h5]
      simp [hi]
    refine ⟨?_, by simp⟩
    unfold Arr
    rw [← hcs]
    exact hh

theorem inner_step {x y p : Nat} {bs m l : List Nat} (h : inner x (y :: bs) p m = some l) :
    p < m.length ∧ m.getD p 0 + x * y < 18446744073709551616 ∧ ∃ m', carry 20 (m.set p (m.getD p 0 + x * y)) p = some m' ∧ inner x bs (p + 1) m' = some l := by
  rw [inner] at h
  cases hq : m[p]? with
  | none => rw [hq] at h; cases h
  | some v =>
    have hp : p < m.length := (List.getElem?_eq_some_iff.1 hq).1
    have hv : m.getD p 0 = v := by rw [List.getD_eq_getElem?_getD, hq]; rfl
    rw [hq] at h
    simp only [nowL_eq] at h
    rw [hv]
    split at h
    · next hlt =>
      refine ⟨hp, hlt, ?_⟩
      cases hc : carry 20 (m.set p (v + x * y)) p with
      | none => rw [hc] at h; cases h
      | some m' => rw [hc] at h; exact ⟨m', rfl, h⟩
    · cases h
theorem outer_step {x p : Nat} {bs xs m l : List Nat} (h : outer bs (x :: xs) p m = some l) : ∃ m', inner x bs p m = some m' ∧ outer bs xs (p + 1) m' = some l := by
  rw [outer] at h
  cases hq : inner x bs p m with
  | none => rw [hq] at h; cases h
  | some m' => rw [hq] at h; exact ⟨m', rfl, h⟩
theorem carry_step {n j : Nat} {m l : List Nat} (h : carry (n + 1) m j = some l) :
    j < m.length ∧ ((m.getD j 0 < 65536 ∧ m = l) ∨ (65536 ≤ m.getD j 0 ∧ j + 1 < m.length ∧ m.getD (j + 1) 0 + m.getD j 0 / 65536 < 18446744073709551616 ∧
      carry n ((m.set (j + 1) (m.getD (j + 1) 0 + m.getD j 0 / 65536)).set j (m.getD j 0 % 65536)) (j + 1) = some l)) := by
  rw [carry] at h
  cases hq : m[j]? with
  | none => rw [hq] at h; cases h
  | some v =>
    have hj : j < m.length := (List.getElem?_eq_some_iff.1 hq).1
    have hv : m.getD j 0 = v := by rw [List.getD_eq_getElem?_getD, hq]; rfl
    rw [hq] at h
    simp only [nowL_eq] at h
    rw [hv]
    refine ⟨hj, ?_⟩
    split at h
    · next hlt => exact .inl ⟨hlt, Option.some.inj h⟩
    · next hlt =>
      cases hu : m[j + 1]? with
      | none => rw [hu] at h; cases h
      | some u =>
        have hj2 : j + 1 < m.length := (List.getElem?_eq_some_iff.1 hu).1
        have hv2 : m.getD (j + 1) 0 = u := by rw [List.getD_eq_getElem?_getD, hu]; rfl
        rw [hu] at h
        simp only at h
        rw [hv2]
        split at h
        · next h3 => exact .inr ⟨by omega, hj2, h3, h⟩
        · cases h

set_option maxRecDepth 100000 in
set_option maxHeartbeats 8000000 in
theorem product_c (a b l : List Nat) (h : prod a b = some l) (ga gb ca cb : Nat) (w : World) (ha : RD w ga a) (hb : RD w gb b) (hla : a.length ≤ 1000) (hlb : b.length ≤ 1000) :
    Calls Tryd.prog 30 #[.slice (some ⟨ga, 0, none⟩) a.length ca, .slice (some ⟨gb, 0, none⟩) b.length cb] w fun e w' => ∃ g c, e = .returned (.slice (some ⟨g, 0, none⟩) l.length c) ∧ RD w' g l ∧ Ext w w' ∧ l.length = a.length + b.length + 1 := by
  have HA := Lib.hid ha
  have HB := Lib.hid hb
  have H := Lib.hid h
  clear ha hb h
  go_enter Tryd.func30, Tryd.ntmps30
  obtain ⟨i0, hi0, hz0, hz1, hz2⟩ := info_of info_u64
  obtain ⟨n, hn⟩ : ∃ n, n = a.length + b.length + 1 := ⟨_, rfl⟩
  go_wp2_with (at_make; refine wpList_make_full _ rfl _ _ 56 rfl w.heap.size 30 i0 (.int .u64 0) 1 Tryd.underlying56 hi0 hz0 hz1 .i64 .i64 ((a.length : Int) + b.length + 1) ((a.length : Int) + b.length + 1) n rfl rfl (by omega) (by omega) (by rw [hz2]; omega) (by unfold maxLen; omega) (Nat.le_refl _) ?_; intro w1 ho1 hg1)
  have hal := AL.made ho1
  have hx1 : Ext w w1 := grown_ext hg1
  have H1 := Lib.hid hal
  have HX1 := Lib.hid hx1
  have HL := Lib.hid hn
  have hp := H.out
  unfold prod at hp
  rw [← hn] at hp
  have HP := Lib.hid hp
  obtain ⟨g, hg⟩ : ∃ g, g = w.heap.size := ⟨_, rfl⟩
  have HG := Lib.hid hg
  rw [← hg] at H1 ⊢
  clear hal hx1 ho1 hg1 hn hp hg
  go_loopw [6] (fun vi wr => ∃ (i : Nat) (m : List Nat), i ≤ a.length ∧ vi = .int .i64 i ∧ outer b (a.drop i) i m = some l ∧ AL wr g n m ∧ Ext w wr) (fun vi _ => a.length - (intOf vi).toNat)
  case atStart => exact ⟨0, List.replicate n 0, Nat.zero_le _, rfl, HP.out, H1.out, HX1.out⟩
  case round =>
    obtain ⟨i, m, hi, rfl, hou, hal, hxr⟩ := hrel
    by_cases hlt : i < a.length
    · obtain ⟨x, hx⟩ : ∃ x, x = a[i] := ⟨_, rfl⟩
      rw [List.drop_eq_getElem_cons hlt, ← hx] at hou
      obtain ⟨m', hin, hou2⟩ := outer_step hou
      have hxd : a.getD i 0 = x := by rw [List.getD_eq_getElem?_getD, List.getElem?_eq_getElem hlt, hx]; rfl
      have HIN := Lib.hid hin
      have HOU := Lib.hid hou2
      have HAL := Lib.hid hal
      have HX := Lib.hid hxr
      have HXD := Lib.hid hxd
      clear hx hou hin hou2 hal hxr hxd
      go_wp2_with fail
      obtain ⟨wo, hwo⟩ : ∃ wo : World, wo = wr := ⟨_, rfl⟩
      rw [← hwo] at HAL HX ⊢
      clear hwo
      go_loopw [7] (fun vk wi => ∃ (k : Nat) (q : List Nat), k ≤ b.length ∧ vk = .int .i64 k ∧ inner x (b.drop k) (i + k) q = some m' ∧ AL wi g n q ∧ Ext w wi) (fun vk _ => b.length - (intOf vk).toNat)
      case atStart => exact ⟨0, m, Nat.zero_le _, rfl, HIN.out, HAL.out, HX.out⟩
      case round =>
        obtain ⟨k, q, hk, rfl, hin, hal, hxr⟩ := hrel
        by_cases hlk : k < b.length
        · obtain ⟨y, hy⟩ : ∃ y, y = b[k] := ⟨_, rfl⟩
          rw [List.drop_eq_getElem_cons hlk, ← hy] at hin
          obtain ⟨hpl, hov, q2, hca, hin2⟩ := inner_step hin
          have hyd : b.getD k 0 = y := by rw [List.getD_eq_getElem?_getD, List.getElem?_eq_getElem hlk, hy]; rfl
          have hln := hal.2
          have hnn := HL.out
          have hik : i + k < n := by omega
          have c1 : wr.cell? ⟨g, i + k, none⟩ = some (.int .u64 ((q.getD (i + k) 0 : Nat) : Int)) := hal.1.cell hik
          have f1 := hal.1.free (i + k)
          have c2 := (HA.out.ext hxr).cell hlt
          have c3 := (HB.out.ext hxr).cell hlk
          rw [HXD.out] at c2
          rw [hyd] at c3
          obtain ⟨v, hv⟩ : ∃ v, v = q.getD (i + k) 0 := ⟨_, rfl⟩
          obtain ⟨p, hp⟩ : ∃ p, p = x * y := ⟨_, rfl⟩
          rw [← hv] at c1 hov hca
          rw [← hp] at hov hca
          have wp : IntKind.u64.wrap ((x : Int) * (y : Int)) = (p : Int) := by
            rw [IntKind.wrap_u64, ← Int.natCast_mul, ← hp]
            omega
          have wa : IntKind.u64.wrap ((v : Int) + (p : Int)) = ((v + p : Nat) : Int) := by
            rw [IntKind.wrap_u64]
            omega
          have i1 : (i : Int) + (k : Int) < (a.length : Int) + (b.length : Int) + 1 := by omega
          have HCA := Lib.hid hca
          have HI2 := Lib.hid hin2
          have HA2 := Lib.hid hal
          have HX2 := Lib.hid hxr
          have HIK := Lib.hid hik
          clear hy hin hpl hca hin2 hyd hln hnn hal hxr hv hp hik
          go_wp2_with fail
          go_region
          go_wp2_with fail
          obtain ⟨wc, hwc⟩ : ∃ wc, wc = (wr.setCell ⟨g, i + k, none⟩ (.int .u64 ((v : Int) + (p : Int)))).drew := ⟨_, rfl⟩
          have ha1 := HA2.out.put (v := v + p) HIK.out
          rw [Int.natCast_add] at ha1
          have ha2 : AL wc g n (q.set (i + k) (v + p)) := by rw [hwc]; exact ha1.ext (Ext.drew _)
          have hb2 : Ext w (wr.setCell ⟨g, i + k, none⟩ (.int .u64 ((v : Int) + (p : Int)))) := Below.setCell HX2.out (by have := HG.out; simp; omega) _
          have hx2 : Ext w wc := by rw [hwc]; exact Ext.tr hb2 (Ext.drew _)
          have HA3 := Lib.hid ha2
          have HX3 := Lib.hid hx2
          rw [← hwc]
          clear ha1 ha2 hx2 hwc hb2
          go_loopw [8] (fun vj wd => ∃ (j fu : Nat) (s : List Nat), vj = .int .i64 j ∧ j ≤ n ∧ carry fu s j = some q2 ∧ AL wd g n s ∧ Ext w wd) (fun vj _ => n + 1 - (intOf vj).toNat)
          case atStart => exact ⟨i + k, 20, _, by rw [Int.natCast_add], Nat.le_of_lt HIK.out, HCA.out, HA3.out, HX3.out⟩
          case round =>
            obtain ⟨j, fu, s, rfl, hjn, hca, hal, hxr⟩ := hrel
            rcases fu with _ | fu
            · rw [carry] at hca; cases hca
            · obtain ⟨hjs, hcs⟩ := carry_step hca
              have hln := hal.2
              have hnn := HL.out
              have hj : j < n := by omega
              have c4 : wr.cell? ⟨g, j, none⟩ = some (.int .u64 ((s.getD j 0 : Nat) : Int)) := hal.1.cell hj
              have f4 := hal.1.free j
              obtain ⟨z, hz⟩ : ∃ z, z = s.getD j 0 := ⟨_, rfl⟩
              rw [← hz] at c4 hcs
              have i4 : (j : Int) < (a.length : Int) + (b.length : Int) + 1 := by omega
              rcases hcs with ⟨hlow, rfl⟩ | ⟨hhi, hj1, hov2, hca2⟩
              · have t4 : ¬ (65536 : Int) ≤ (z : Int) := by omega
                have HA4 := Lib.hid hal
                have HX4 := Lib.hid hxr
                clear hz hjs hca hln hnn hal hxr
                go_wp2_with fail
                go_roundw
                case rel => exact ⟨k + 1, s, by omega, by go_num, by rw [← Nat.add_assoc]; exact HI2.out, HA4.out, HX4.out⟩
                case measure => simp [intOf] <;> omega
              · have t4 : (65536 : Int) ≤ (z : Int) := by omega
                have hj1n : j + 1 < n := by omega
                have c5 : wr.cell? ⟨g, j + 1, none⟩ = some (.int .u64 ((s.getD (j + 1) 0 : Nat) : Int)) := hal.1.cell hj1n
                have f5 := hal.1.free (j + 1)
                obtain ⟨u, hu⟩ : ∃ u, u = s.getD (j + 1) 0 := ⟨_, rfl⟩
                rw [← hu] at c5 hov2 hca2
                have wq : IntKind.u64.wrap ((u : Int) + (z : Int) / 65536) = ((u + z / 65536 : Nat) : Int) := by
                  rw [IntKind.wrap_u64]
                  omega
                have i5 : (j : Int) + 1 < (a.length : Int) + (b.length : Int) + 1 := by omega
                have HA4 := Lib.hid hal
                have HX4 := Lib.hid hxr
                have HC2 := Lib.hid hca2
                have HJ1 := Lib.hid hj1n
                clear hz hu hjs hca hln hnn hal hxr hca2 hj1n hj1
                go_wp2_with fail
                go_region
                go_wp2_with fail
                have e1 : ((u + z / 65536 : Nat) : Int) = (u : Int) + (z : Int) / 65536 := by omega
                have e2 : ((z % 65536 : Nat) : Int) = (z : Int) % 65536 := by omega
                have a2 := (HA4.out.put (v := u + z / 65536) HJ1.out).put (v := z % 65536) hj
                rw [e1, e2] at a2
                have b1 : Ext w (wr.setCell ⟨g, j + 1, none⟩ (.int .u64 ((u : Int) + (z : Int) / 65536))) := Below.setCell HX4.out (by have := HG.out; simp; omega) _
                have b2 : Ext w ((wr.setCell ⟨g, j + 1, none⟩ (.int .u64 ((u : Int) + (z : Int) / 65536))).setCell ⟨g, j, none⟩ (.int .u64 ((z : Int) % 65536))) := Below.setCell b1 (by have := HG.out; simp; omega) _
                go_roundw
                case rel => exact ⟨j + 1, fu, _, by go_num, Nat.le_of_lt HJ1.out, HC2.out, a2.ext (Ext.drew _), Ext.tr b2 (Ext.drew _)⟩
                case measure => simp [intOf] <;> omega
        · rw [List.drop_eq_nil_of_le (by omega), inner] at hin
          obtain rfl := Option.some.inj hin
          have HA2 := Lib.hid hal
          have HX2 := Lib.hid hxr
          clear hin hal hxr
          go_wp2_with fail
          go_roundw
          case rel => exact ⟨i + 1, q, by omega, by go_num, HOU.out, HA2.out, HX2.out⟩
          case measure => simp [intOf] <;> omega
    · have hal2 := hal.rd
      rw [List.drop_eq_nil_of_le (by omega), outer] at hou
      obtain rfl := Option.some.inj hou
      have hln := hal.2
      have HR := Lib.hid hal2
      have HX := Lib.hid hxr
      clear hal hal2 hxr hou
      go_wp2_with fail
      go_ret
      exact ⟨g, _, by rw [hln, HL.out]; rfl, HR.out, HX.out, by rw [hln, HL.out]⟩
end Go.Proofs.YtphifnknbaebkaaDoor
