/-
  Package tollref10 (the reference): Check.
-/
import Derived.Test.YtpfognoabboheaaDoorCrcR
namespace Go.Proofs.YtpfognoabboheaaDoor
open Go.RowKit

theorem drop_four {l : List UInt8} {n : Nat} (h : l.length = n + 4) : ∃ d0 d1 d2 d3, l.drop n = [d0, d1, d2, d3] ∧ l[n]? = some d0 ∧ l[n + 1]? = some d1 ∧ l[n + 2]? = some d2 ∧ l[n + 3]? = some d3 := by
  have h4 : (l.drop n).length = 4 := by rw [List.length_drop]; omega
  rcases hd : l.drop n with _ | ⟨d0, _ | ⟨d1, _ | ⟨d2, _ | ⟨d3, _ | ⟨d4, r⟩⟩⟩⟩⟩
  all_goals rw [hd] at h4
  all_goals try (simp at h4; done)
  have hg : ∀ i, l[n + i]? = [d0, d1, d2, d3][i]? := fun i => by rw [← hd, List.getElem?_drop]
  exact ⟨d0, d1, d2, d3, rfl, by simpa using hg 0, by simpa using hg 1, by simpa using hg 2, by simpa using hg 3⟩
theorem be_eq {d0 d1 d2 d3 b0 b1 b2 b3 : UInt8} : be [d0, d1, d2, d3] = be [b0, b1, b2, b3] ↔ d0 = b0 ∧ d1 = b1 ∧ d2 = b2 ∧ d3 = b3 := by
  constructor
  · intro e
    rw [be4, be4] at e
    have h1 := UInt8.toNat_lt d1
    have h2 := UInt8.toNat_lt d2
    have h3 := UInt8.toNat_lt d3
    have k1 := UInt8.toNat_lt b1
    have k2 := UInt8.toNat_lt b2
    have k3 := UInt8.toNat_lt b3
    exact ⟨UInt8.toNat_inj.1 (by omega), UInt8.toNat_inj.1 (by omega), UInt8.toNat_inj.1 (by omega), UInt8.toNat_inj.1 (by omega)⟩
  · rintro ⟨rfl, rfl, rfl, rfl⟩
    rfl
theorem RB.cell? {w : World} {S : Nat → TypeId → Prop} {A : Option Addr} {l : List UInt8} (h : RB w S A l) {k : Nat} {b : UInt8} (hk : l[k]? = some b) :
    ∃ g off, A = some ⟨g, off, none⟩ ∧ w.cell? ⟨g, off + k, none⟩ = some (.int .u8 (b.toNat : Int)) := by
  obtain ⟨hlt, e⟩ := List.getElem?_eq_some_iff.1 hk
  obtain ⟨g, off, hA, hc⟩ := h.cell hlt
  exact ⟨g, off, hA, by rw [hc, e]⟩

set_option maxHeartbeats 1000000 in
theorem rcheck_c (A : Option Addr) (c : Nat) (l : List UInt8) (S : Nat → TypeId → Prop) (w : World) (h : RB w S A l) (hl : l.length ≤ c) (hc : c ≤ 9223372036854775807) (hl2 : l.length ≤ 140737488355328) :
    Calls Tryd.prog 12 #[.slice A l.length c] w fun e w' => e = .returned (.bool (chk l)) ∧ w = w' := by
  by_cases h4 : 4 ≤ l.length
  · obtain ⟨n, hn⟩ : ∃ n, n = l.length - 4 := ⟨_, rfl⟩
    obtain ⟨d0, d1, d2, d3, hd, g0, g1, g2, g3⟩ := drop_four (l := l) (n := n) (by omega)
    obtain ⟨g, off, rfl, c0⟩ := h.cell? g0
    obtain ⟨g', off', hA, c1⟩ := h.cell? g1
    injection hA with hA
    injection hA with hA1 hA2
    subst hA1 hA2
    obtain ⟨g', off', hA, c2⟩ := h.cell? g2
    injection hA with hA
    injection hA with hA1 hA2
    subst hA1 hA2
    obtain ⟨g', off', hA, c3⟩ := h.cell? g3
    injection hA with hA
    injection hA with hA1 hA2
    subst hA1 hA2
    have hln : (l.take n).length = n := by rw [List.length_take]; omega
    have hs := rcs_c (some ⟨g, off, none⟩) c (l.take n) S w (h.take n) (by omega)
    rw [hln] at hs
    have hk : chk l = decide (be [d0, d1, d2, d3] = cs (l.take n)) := by
      unfold chk
      rw [← hn, hd]
      simp [h4]
    have hcs := cs_lt (l.take n)
    obtain ⟨x, hx⟩ : ∃ x, x = cs (l.take n) := ⟨_, rfl⟩
    rw [← hx] at hs hcs hk
    obtain ⟨b0, b1, b2, b3, hb, e0, e1, e2, e3⟩ := nb4 x
    have hxb : be [b0, b1, b2, b3] = x := by rw [← hb]; exact be_nb 4 x (by omega)
    have hk2 : chk l = decide (d0 = b0 ∧ d1 = b1 ∧ d2 = b2 ∧ d3 = b3) := by
      rw [hk, ← hxb]
      exact decide_eq_decide.2 be_eq
    have e0' : (x : Int) / 16777216 = (b0.toNat : Int) := by omega
    have en : (l.length : Int) - 4 = (n : Int) := by omega
    have hn1 : n + 4 ≤ l.length := by omega
    have HK := Lib.hid hk2
    have HS := Lib.hid hs
    have o1 : off + n + 1 = off + (n + 1) := by omega
    have o2 : off + n + 2 = off + (n + 2) := by omega
    have o3 : off + n + 3 = off + (n + 3) := by omega
    clear h hd hln hs hk hk2 hx hxb hb hn g0 g1 g2 g3 o1 o2 o3
    by_cases q0 : d0 = b0
    · have t0 := beq_t (a := (d0.toNat : Int)) (b := (b0.toNat : Int)) (by rw [q0])
      by_cases q1 : d1 = b1
      · have t1 := beq_t (a := (d1.toNat : Int)) (b := (b1.toNat : Int)) (by rw [q1])
        by_cases q2 : d2 = b2
        · have t2 := beq_t (a := (d2.toNat : Int)) (b := (b2.toNat : Int)) (by rw [q2])
          have t3 : ((d3.toNat : Int) == (b3.toNat : Int)) = decide (d3 = b3) := by
            by_cases q3 : d3 = b3
            · rw [beq_t (by rw [q3]), decide_eq_true q3]
            · rw [beq_f (u8_ne q3), decide_eq_false q3]
          have hq : chk l = decide (d3 = b3) := by rw [HK.out]; simp [q0, q1, q2]
          have HQ := Lib.hid hq
          clear hq HK
          have Q0 := Lib.hid q0
          have Q1 := Lib.hid q1
          have Q2 := Lib.hid q2
          clear q0 q1 q2
          go_enter Tryd.func12, Tryd.ntmps12
          go_wp2_with fail
          refine HS.out.mono ?_
          rintro e w' ⟨rfl, rfl⟩
          go_wp2_with fail
          go_ret
          exact ⟨by rw [HQ.out]; rfl, rfl⟩
        · have t2 := beq_f (u8_ne q2)
          have hq : chk l = false := by rw [HK.out]; simp [q2]
          have HQ := Lib.hid hq
          have Q0 := Lib.hid q0
          have Q1 := Lib.hid q1
          clear hq HK q0 q1 q2
          go_enter Tryd.func12, Tryd.ntmps12
          go_wp2_with fail
          refine HS.out.mono ?_
          rintro e w' ⟨rfl, rfl⟩
          go_wp2_with fail
          go_ret
          exact ⟨by rw [HQ.out]; rfl, rfl⟩
      · have t1 := beq_f (u8_ne q1)
        have hq : chk l = false := by rw [HK.out]; simp [q1]
        have HQ := Lib.hid hq
        have Q0 := Lib.hid q0
        clear hq HK q0 q1
        go_enter Tryd.func12, Tryd.ntmps12
        go_wp2_with fail
        refine HS.out.mono ?_
        rintro e w' ⟨rfl, rfl⟩
        go_wp2_with fail
        go_ret
        exact ⟨by rw [HQ.out]; rfl, rfl⟩
    · have t0 := beq_f (u8_ne q0)
      have hq : chk l = false := by rw [HK.out]; simp [q0]
      have HQ := Lib.hid hq
      clear hq HK q0
      go_enter Tryd.func12, Tryd.ntmps12
      go_wp2_with fail
      refine HS.out.mono ?_
      rintro e w' ⟨rfl, rfl⟩
      go_wp2_with fail
      go_ret
      exact ⟨by rw [HQ.out]; rfl, rfl⟩
  · have hk : chk l = false := by unfold chk; simp; omega
    have hneg : (l.length : Int) - 4 < 0 := by omega
    have HK := Lib.hid hk
    clear hk h
    go_enter Tryd.func12, Tryd.ntmps12
    go_wp2_with fail
    go_ret
    exact ⟨by rw [HK.out]; rfl, rfl⟩
end Go.Proofs.YtpfognoabboheaaDoor
