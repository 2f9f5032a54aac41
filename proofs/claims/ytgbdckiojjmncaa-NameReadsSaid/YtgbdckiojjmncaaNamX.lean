/-
  NameReads: the walk.
-/
import Derived.Test.YtgbdckiojjmncaaNamV
namespace Go.Proofs.Ytgbdckiojjmncaa
open Go.RowKit

set_option maxRecDepth 100000 in
set_option maxHeartbeats 4000000 in
theorem nameReads_walk (A : Option Addr) (len cap : Nat) (z : List Int) (w : World) (h : IsRow .u8 w A len cap z) :
    Calls Try.prog 5 #[.slice A len cap] w fun e w' => e = .returned (.bool true) ∧ Ext w w' := by
  obtain ⟨l, rfl, hl1, hl2, hr⟩ := row_bytes h
  have HR := Lib.hid hr
  clear h hr
  by_cases h2 : 500 < l.length
  · have t2 : decide ((500 : Int) < (l.length : Int)) = true := decide_eq_true (by omega)
    go_enter Try.func5, Try.ntmps5
    go_wp2_with fail
    refine (awake_c _).mono ?_
    rintro e w1 ⟨rfl, hx1⟩
    have HX1 := Lib.hid hx1
    clear hx1
    go_wp2_with fail
    refine (awake_c _).mono ?_
    rintro e w2 ⟨rfl, hx2⟩
    go_wp2_with fail
    go_ret
    exact ⟨rfl, HX1.out.tr hx2⟩
  · have t2 : decide ((500 : Int) < (l.length : Int)) = false := decide_eq_false (by omega)
    obtain ⟨hrn1, hrn2⟩ := rnm_rrnm l false
    have hrr := fun W (hx : Ext w W) => rread_c A cap l false _ W (HR.out.ext hx) (fun g t (hs : g < w.heap.size) => Nat.lt_of_lt_of_le hs hx.size) hl1 hl2 (by omega)
    rw [hrn1] at hrr
    have hrl := (rdn_len (rn l false).left (rn l false).bad (rn l false).num).1
    obtain ⟨o, ho⟩ : ∃ o, o = rnm l false := ⟨_, rfl⟩
    obtain ⟨p, hp⟩ : ∃ p, p = rp l false := ⟨_, rfl⟩
    obtain ⟨q, hq⟩ : ∃ q, q = rq l false := ⟨_, rfl⟩
    rw [← ho, ← hq] at hrr
    rw [← ho, ← hp, ← hq] at hrn2
    have HO := Lib.hid ho
    have HP := Lib.hid hp
    have HQ := Lib.hid hrn2
    have HRR := Lib.hid hrr
    have HL1 := Lib.hid hl1
    have HL2 := Lib.hid hl2
    clear hrr hrn1 hrn2 ho hp hq hrl hl1 hl2
    go_enter Try.func5, Try.ntmps5
    go_wp2_with fail
    refine (awake_c _).mono ?_
    rintro e w1 ⟨rfl, hx1⟩
    have HX1 := Lib.hid hx1
    clear hx1
    go_wp2_with fail
    refine (rdnew_c A cap l _ _ (HR.out.ext HX1.out) (by omega)).mono ?_
    rintro e w2 ⟨g, B, rfl, hg, hrd, hx2⟩
    have hsz1 := HX1.out.size
    have hrc := read_c w2 hrd (by rintro k ⟨_, h, _⟩; exact absurd h (by decide)) (by omega)
    rw [← HO.out, ← HP.out] at hrc
    have RC := Lib.hid hrc
    have X2 := Lib.hid (HX1.out.tr hx2)
    have hgl := hrd.lt
    clear hrc hrd hx2
    go_wp2_with fail
    refine RC.out.mono ?_
    rintro e w3 ⟨v3, rfl, ⟨t, C, c, ss, rfl, hsr, _, hm, hbt, hbs⟩, hrd, hgr⟩
    have hxa := Ext.alloc w3 (.cells #[.string t, .slice C ss.length c] 24)
    have X3 := Lib.hid ((grown_new X2.out hgr (fun q h => by injection h with h; omega)).tr hxa)
    have D3 := Lib.hid (new_of w3 (.cells #[.string t, .slice C ss.length c] 24))
    have S3 := Lib.hid (hsr.ext hxa)
    have RD3 := Lib.hid (hrd.ext hxa)
    have BT := Lib.hid hbt
    have BS := Lib.hid hbs
    clear hgr hsr hrd hbt hbs hxa RC
    go_wp2_with fail
    refine (HRR.out _ X3.out).mono ?_
    rintro e w4 ⟨A1, c1, v4, rfl, ⟨t', C', c', ss', rfl, hsr', _, hm', hbt', hbs'⟩, hx4⟩
    have hsm : sm t ss t' ss' = true := sm_t (BT.out.trans hbt'.symm) (BS.out.trans hbs'.symm)
    have hxb := (Ext.alloc w4 (.cells #[.slice A1 q.2.1.length c1, .bool q.2.2] 41)).tr (Ext.alloc _ (.cells #[.string t', .slice C' ss'.length c'] 24))
    obtain ⟨n1, n2⟩ := two_new w4 (.cells #[.slice A1 q.2.1.length c1, .bool q.2.2] 41) (.cells #[.string t', .slice C' ss'.length c'] 24)
    have X4 := Lib.hid (X3.out.tr (hx4.tr hxb))
    have D4 := Lib.hid ((hx4.tr hxb).get D3.out)
    have N1 := Lib.hid n1
    have N2 := Lib.hid n2
    have S4 := Lib.hid (S3.out.ext (hx4.tr hxb))
    have R4 := Lib.hid (hsr'.ext hxb)
    have RD4 := Lib.hid (RD3.out.ext (hx4.tr hxb))
    have SM := Lib.hid hsm
    have hln : ss.length ≤ 9223372036854775807 ∧ ss'.length ≤ 9223372036854775807 := by unfold maxLen at hm hm'; omega
    have a0 : ((w4.alloc (.cells #[.slice A1 q.2.1.length c1, .bool q.2.2] 41)).alloc (.cells #[.string t', .slice C' ss'.length c'] 24)).cell? ⟨w3.heap.size, 0, none⟩ = some (.string t) := cells_of D4.out 0
    have a1 : ((w4.alloc (.cells #[.slice A1 q.2.1.length c1, .bool q.2.2] 41)).alloc (.cells #[.string t', .slice C' ss'.length c'] 24)).cell? ⟨w3.heap.size, 1, none⟩ = some (.slice C ss.length c) := cells_of D4.out 1
    have a2 : ((w4.alloc (.cells #[.slice A1 q.2.1.length c1, .bool q.2.2] 41)).alloc (.cells #[.string t', .slice C' ss'.length c'] 24)).cell? ⟨w4.heap.size + 1, 0, none⟩ = some (.string t') := cells_of N2.out 0
    have a3 : ((w4.alloc (.cells #[.slice A1 q.2.1.length c1, .bool q.2.2] 41)).alloc (.cells #[.string t', .slice C' ss'.length c'] 24)).cell? ⟨w4.heap.size + 1, 1, none⟩ = some (.slice C' ss'.length c') := cells_of N2.out 1
    clear hx4 hxb hsr' hbt' hbs' hsm n1 n2 X3 D3 S3 RD3 hm hm' BT BS
    go_wp2_with fail
    refine (rnsame_c t t' C C' c c' ss ss' _ _ _ S4.out R4.out hln.1 hln.2).mono ?_
    rintro e w5 ⟨rfl, hx5⟩
    rw [SM.out]
    have X5 := Lib.hid (X4.out.tr hx5)
    have RD5 := Lib.hid (RD4.out.ext hx5)
    have b0 : w5.cell? ⟨w4.heap.size, 0, none⟩ = some (.slice A1 q.2.1.length c1) := cells_of (hx5.get N1.out) 0
    have b1 : w5.cell? ⟨w4.heap.size, 1, none⟩ = some (.bool q.2.2) := cells_of (hx5.get N1.out) 1
    clear hx5 a0 a1 a2 a3 X4 D4 N1 N2 S4 R4 RD4
    obtain _ | ⟨r, ps⟩ := o
    · go_wp2_with fail
      go_quiet (fail)
      go_wp2_with fail
      go_ret
      exact ⟨rfl, X5.out.tr (Ext.drewN _ _)⟩
    · have heq : q.2.1 = p.2.1 := HQ.out rfl
      rw [heq] at b0
      have tl := beq_t (a := (p.2.1.length : Int)) (b := (p.2.1.length : Int)) rfl
      clear heq b1
      go_wp2_with fail
      go_quiet ((go_at_call 23; exact quiet_eq (left_c _ (RD5.out.ext (Ext.drewN _ _)))))
      go_wp2_with fail
      go_ret
      exact ⟨rfl, X5.out.tr (Ext.drewN _ _)⟩
end Go.Proofs.Ytgbdckiojjmncaa
