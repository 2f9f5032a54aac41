/-
  WireMatchesReference: what the law's call does.
-/
import Derived.Test.YtbjclahjcjpfoaaRefD
import Derived.Test.YtbjclahjcjpfoaaAwake01
import Derived.Deep.DeepCutAuto
import Derived.Deep.LoopGhost
import Derived.Deep.CutBlock
namespace Go.Proofs.Ytbjclahjcjpfoaa
open Go.RowKit

set_option maxRecDepth 100000 in
set_option maxHeartbeats 1000000 in
theorem wmatch_out (A B : Option Addr) (c d : Nat) (b : List UInt8) (ps : List (Int × Int)) (w : World) (hl : b.length ≤ 9223372036854775807) (hp : ps.length ≤ 9223372036854775807) (h : 300 < b.length ∨ 100 < ps.length) :
    Calls Try.prog 3 #[.slice A b.length c, .slice B ps.length d] w fun e w' => e = .returned (.bool true) ∧ Ext w w' := by
  have h' : 300 < b.length ∨ (b.length ≤ 300 ∧ 100 < ps.length) := by omega
  clear h
  rcases h' with h1 | ⟨h1, h2⟩
  all_goals
    go_enter Try.func3, Try.ntmps3
    go_wp2_with fail
    refine (awake_c _).mono ?_
    rintro e w1 ⟨rfl, hx1⟩
    go_wp2_with fail
    refine (awake_c _).mono ?_
    rintro e w2 ⟨rfl, hx2⟩
    go_wp2_with fail
    go_ret
    exact ⟨rfl, hx1.tr hx2⟩

/-- the reader of the reference, in block g -/
def Rr (w : World) (S : Nat → TypeId → Prop) (g : Nat) (l : List UInt8) (bad : Bool) : Prop :=
  ∃ A c, w.heap[g]? = some (.cells #[.slice A l.length c, .bool bad] 28 (0, 0)) ∧ RB w S A l ∧ l.length ≤ c ∧ c ≤ maxLen

theorem inc_byte (x : UInt8) : ((x.toNat : Int) + 1) % 256 = ((UInt8.ofNat ((x.toNat + 1) % 256)).toNat : Int) := by
  have e : (UInt8.ofNat ((x.toNat + 1) % 256)).toNat = (x.toNat + 1) % 256 := by rw [UInt8.toNat_ofNat']; omega
  rw [e]
  omega

set_option maxRecDepth 100000 in
set_option maxHeartbeats 4000000 in
theorem wmatch_in (A B : Option Addr) (c d : Nat) (b : List UInt8) (ps : List (Int × Int)) (w : World) (h : RB w (fun g _ => g < w.heap.size) A b) (hl : b.length ≤ 300) (hc : b.length ≤ c) (hm : c ≤ maxLen) (hpl : ps.length ≤ 100) (hp : RP w B ps)
    (hpb : ∀ p ∈ ps, (-9223372036854775808 ≤ p.1 ∧ p.1 ≤ 9223372036854775807) ∧ (-9223372036854775808 ≤ p.2 ∧ p.2 ≤ 9223372036854775807)) :
    Calls Try.prog 3 #[.slice A b.length c, .slice B ps.length d] w fun e w' => e = .returned (.bool true) ∧ Ext w w' := by
  obtain ⟨i0, hi0, hz0, hz1, hz2⟩ := info_parts info_u8
  have H := Lib.hid h
  have HP := Lib.hid hp
  have HPB := Lib.hid hpb
  have HM := Lib.hid hm
  clear h hp hpb hm
  go_enter Try.func3, Try.ntmps3
  go_wp2_with fail
  refine (awake_c _).mono ?_
  rintro e w1 ⟨rfl, hx1⟩
  have h0 : OwnB (w1.alloc (.cells #[] 5)) 5 w.heap.size (some ⟨w1.heap.size, 0, none⟩) 0 [] := OwnB.lit (w := w1) [] #[] rfl hx1.size (by simp [maxLen])
  have hsrc := (H.out.ext hx1).ext (Ext.alloc w1 (.cells #[] 5))
  have hbound : ([] : List UInt8).length + b.length ≤ 140737488355328 := by simp; omega
  have hsz : w.heap.size ≤ (w1.alloc (.cells #[] 5)).heap.size := (hx1.tr (Ext.alloc _ _)).size
  go_wp2_with (at_builtin; refine wpList_append_bytes _ rfl _ _ 22 rfl w.heap.size 5 i0 Try.underlying22 hi0 hz0 hz1 hz2 (some ⟨w1.heap.size, 0, none⟩) 0 [] rfl h0 _ A c b rfl hsrc hbound hsz ?_; intro A2 c2 w2 ho2 hg2 hb2)
  have x2 : Ext w w2 := grown_new (hx1.tr (Ext.alloc _ _)) hg2 (fun g hg => by simp [Value.ownBlock] at hg; have := hx1.size; omega)
  rw [List.nil_append] at ho2
  have HO2 := Lib.hid ho2
  clear hsrc hbound hsz h0 hg2 hb2 ho2
  refine (new_c A2 c2 b _ _ HO2.out.rb (by omega)).mono ?_
  rintro e w3 ⟨g, _, rfl, hg3, hr3, hx3⟩
  have hr3' : Rd w3 (fun k t => w2.heap.size ≤ k ∧ t = 5 ∧ k < w3.heap.size) g b false := by
    obtain ⟨A', c', h1, h2, h3⟩ := hr3
    exact ⟨A', c', h1, h2.inside.more (fun k t h => ⟨h.1.1, h.1.2.1, h.2⟩), h3⟩
  have HR3 := Lib.hid hr3'
  have HO3 := Lib.hid (HO2.out.ext hx3)
  have x3 := x2.tr hx3
  have hgs := x2.size
  have HOG := Lib.hid HO2.out
  clear hr3 hr3'
  go_wp2_with fail
  go_loopw [7] (fun i wr => ∃ (j : Nat) (m : List UInt8), j ≤ b.length ∧ i = .int .i64 j ∧ m.length = b.length ∧ Hid (OwnB wr 5 w.heap.size A2 c2 m) ∧ Hid (Rd wr (fun k t => w2.heap.size ≤ k ∧ t = 5 ∧ k < w3.heap.size) g b false) ∧ Ext w wr ∧ w3.heap.size ≤ wr.heap.size) (fun i _ => b.length - (intOf i).toNat)
  case atStart => exact ⟨0, b, Nat.zero_le _, rfl, rfl, HO3, HR3, x3, Nat.le_refl _⟩
  case round =>
    obtain ⟨j, m, hj, rfl, hml, HO, HR, hxr, hz3⟩ := hrel
    by_cases hlt : j < b.length
    · have hjm : j < m.length := by omega
      have hob : ∃ ob, A2 = some ⟨ob, 0, none⟩ ∧ w.heap.size ≤ ob ∧ ob < w2.heap.size := by
        rcases HOG.out.block with ⟨_, _, rfl⟩ | ⟨ob, cs, hA, hge, hh, _⟩
        · simp at hlt
        · exact ⟨ob, hA, hge, lt_of_some hh⟩
      obtain ⟨ob, rfl, hob1, hob2⟩ := hob
      have ho' : OwnB wr 5 w.heap.size (some ⟨ob, 0, none⟩) c2 m := HO.out
      have c0 := ho'.cellAt hjm
      have f0 := ho'.freeAt j
      have hst := ho'.set_ j (UInt8.ofNat (((m[j]).toNat + 1) % 256))
      rw [← inc_byte] at hst
      have HST := Lib.hid hst
      have hb0 := u8_lt m[j]
      have hgs' : wr.grownBy (wr.setCell ⟨ob, j, none⟩ (.int .u8 ((((m[j]).toNat : Int) + 1) % 256))) (some ob) := grown_set _ rfl _
      have hRN := Lib.hid (HR.out.grown hgs' (by simp; omega) (fun g' t hs hg => by simp at hg; omega))
      have hxn := grown_new hxr hgs' (fun g hg => by simp at hg; omega)
      clear ho' hst
      go_wp2_with fail
      go_roundw
      case rel => exact ⟨j + 1, _, by omega, by go_num, by rw [List.length_set]; exact hml, HST, hRN, hxn, Nat.le_trans hz3 hgs'.size⟩
      case measure => simp [intOf]; omega
    · go_wp2_with fail
      obtain ⟨W, hW⟩ : ∃ W, W = wr.alloc (.cells #[.slice A b.length c, .bool false] 28) := ⟨_, rfl⟩
      have d8 : W.heap[wr.heap.size]? = some (.cells #[.slice A b.length c, .bool false] 28 (0, 0)) := by rw [hW]; exact new_of _ _
      have hxW : Ext wr W := by rw [hW]; exact Ext.alloc _ _
      rw [← hW]
      have hRr : Rr W (fun g _ => g < w.heap.size) wr.heap.size b false := ⟨A, c, d8, (H.out.ext hxr).ext hxW, hc, HM.out⟩
      have HRr := Lib.hid hRr
      have HRW := Lib.hid (HR.out.ext hxW)
      have hxw := hxr.tr hxW
      replace hz3 := Nat.le_trans hz3 hxW.size
      have hg8 := hxr.size
      have hgw : w.heap.size ≤ g := by omega
      obtain ⟨g8, hg80⟩ : ∃ g8, g8 = wr.heap.size := ⟨_, rfl⟩
      rw [← hg80] at HRr hg8 ⊢
      have hne : g ≠ g8 := by
        obtain ⟨cs, hh⟩ := HR.out.at_
        have := lt_of_some hh
        omega
      clear hW d8 hxW hRr hg80 HR HO hml hxr m
      go_loopg [9] ps.length (fun k i wr => ∃ (j : Nat) (l : List UInt8) (bad : Bool), j ≤ ps.length ∧ k = ps.length - j ∧ i = .int .i64 j ∧ l.length ≤ 300 ∧ Hid (Rd wr (fun k t => w2.heap.size ≤ k ∧ t = 5 ∧ k < w3.heap.size) g l bad) ∧ Hid (Rr wr (fun g _ => g < w.heap.size) g8 l bad) ∧ Ext w wr ∧ w3.heap.size ≤ wr.heap.size)
      case atStart => exact ⟨0, b, false, Nat.zero_le _, rfl, rfl, hl, HRW, HRr, hxw, hz3⟩
      case round =>
        obtain ⟨j, l, bad, hj, rfl, rfl, hll, HR, HQ, hxr, hz3⟩ := hrel
        by_cases hlt : j < ps.length
        · obtain ⟨go, off, rfl, hcs⟩ := HP.out.cell hlt
          obtain ⟨⟨bk1, bk2⟩, hb1, hb2⟩ := HPB.out ps[j] (List.getElem_mem _)
          obtain ⟨kind, hkind⟩ : ∃ k, k = (ps[j]).1 := ⟨_, rfl⟩
          obtain ⟨n, hn⟩ : ∃ k, k = (ps[j]).2 := ⟨_, rfl⟩
          rw [← hkind, ← hn] at hcs
          rw [← hkind] at bk1 bk2
          rw [← hn] at hb1 hb2
          have HC := Lib.hid hcs
          have HK := Lib.hid hkind
          have HN := Lib.hid hn
          clear hkind hn hcs
          obtain ⟨k0, k1⟩ := HC.out _ hxr
          go_upto_block 4 with fail
          obtain ⟨A1, c1, d1, r1, l1, m1⟩ := HQ.out
          have D1 := Lib.hid d1
          have R1 := Lib.hid r1
          have M1 := Lib.hid m1
          clear d1 r1 m1
          go_cut [10, 11, 12, 13] (fun s10 s11 s12 s13 wc => ∃ (G : List UInt8) (A10 A11 : Option Addr) (c10 c11 N : Nat) (l' : List UInt8) (bad' : Bool), s10 = .slice A10 G.length c10 ∧ s11 = .slice A11 G.length c11 ∧ s12 = .int .u64 N ∧ s13 = .int .u64 N ∧
            G.length ≤ 300 ∧ l'.length ≤ 300 ∧ Hid (OwnB wc 5 wr.heap.size A10 c10 G) ∧ Hid (RB wc (fun _ _ => True) A11 G) ∧ Hid (Rd wc (fun k t => w2.heap.size ≤ k ∧ t = 5 ∧ k < w3.heap.size) g l' bad') ∧ Hid (Rr wc (fun g _ => g < w.heap.size) g8 l' bad') ∧ Ext w wc ∧ wr.heap.size ≤ wc.heap.size)
          case first =>
            by_cases hk0 : kind = 0
            · have HK0 := Lib.hid hk0
              have hkt := beq_t hk0
              clear hk0
              have htl := tk_len n l bad
              go_wp2_with fail
              refine (take_any n _ HR.out (fun k h => absurd h.2.1 (by decide)) (by omega) ⟨hb1, hb2⟩).mono ?_
              rintro e w4 ⟨A4, c4, rfl, ho4, hr4, hg4⟩
              obtain ⟨t, ht⟩ : ∃ t, t = tk n l bad := ⟨_, rfl⟩
              rw [← ht] at ho4 hr4 htl ⊢
              have HT := Lib.hid ht
              have HO4 := Lib.hid ho4
              have HR4 := Lib.hid hr4
              have x4 := grown_new hxr hg4 (fun k hk => by simp at hk; omega)
              have d4 := grown_get hg4 D1.out (by simpa using hne)
              have k4 := (HC.out _ x4).2
              have e0 := cells_of d4 0
              have e1 := cells_of d4 1
              have f0 := free_of d4 0
              have f1 := free_of d4 1
              simp at e0 e1
              have D4 := Lib.hid d4
              have hs4 := hg4.size
              have q4 : RB w4 (fun g _ => g < w.heap.size) A1 l := R1.out.grown hg4 (fun k t hs hg => by simp at hg; omega)
              have Q4 := Lib.hid q4
              clear ht ho4 hr4 hg4 d4 q4 k0 k1
              go_wp2_with fail
              go_region_with (go_at_call 11; refine (rtake_any A1 c1 l bad _ n w4.drew (Q4.out.ext (Ext.drew _)) l1 M1.out (by omega) ⟨hb1, hb2⟩).mono ?_; rintro e w5 ⟨A5, c5, A6, c6, rfl, hr5, h51, h52, ho5, hx5⟩; rw [← HT.out] at hr5 h51 ho5 ⊢; have d5 := ((Ext.drew w4).tr hx5).get D4.out; have g0 := cells_of d5 0; have g1 := cells_of d5 1; have g2 := free_of d5 0; have g3 := free_of d5 1; simp at g0 g1; have D5 := Lib.hid d5; have R5 := Lib.hid hr5; have O5 := Lib.hid ho5; have M5 := Lib.hid h52; have X5 := Lib.hid ((Ext.drew w4).tr hx5); clear d5 hr5 ho5 h52 hx5)
              all_goals
                go_wp2_with fail
                have q1 := set_of D5.out 0 (.slice A5 t.left.length c5)
                have q2 := set_of q1 1 (.bool t.bad)
                have hgg : w5.grownBy ((w5.setCell ⟨g8, 0, none⟩ (.slice A5 t.left.length c5)).setCell ⟨g8, 1, none⟩ (.bool t.bad)) (some g8) := grown_tr (grown_set _ rfl _) (grown_set _ rfl _)
                have o1 := ((HO4.out.ext X5.out).far hgg D5.out (by decide))
                have o2 : RB ((w5.setCell ⟨g8, 0, none⟩ (.slice A5 t.left.length c5)).setCell ⟨g8, 1, none⟩ (.bool t.bad)) (fun _ _ => True) A6 t.got := (O5.out.far hgg D5.out (by decide)).rb.more (fun _ _ _ => trivial)
                have o3 := (HR4.out.ext X5.out).far hgg D5.out (Ne.symm hne) (fun k h => absurd h.2.1 (by decide))
                have o4 : Rr ((w5.setCell ⟨g8, 0, none⟩ (.slice A5 t.left.length c5)).setCell ⟨g8, 1, none⟩ (.bool t.bad)) (fun g _ => g < w.heap.size) g8 t.left t.bad :=
                  ⟨A5, c5, by simpa using q2, R5.out.grown hgg (fun k t hs hg => by simp at hg; omega), h51, M5.out⟩
                have o5 := grown_new (x4.tr X5.out) hgg (fun k hk => by simp at hk; omega)
                go_meet
                exact ⟨t.got, A4, A6, c4, c6, 0, t.left, t.bad, rfl, rfl, rfl, rfl, by omega, by omega, o1, o2, o3, o4, o5, Nat.le_trans hs4 (Nat.le_trans X5.out.size hgg.size)⟩
            · have hkf := beq_f hk0
              by_cases hk1 : kind = 1
              · have HK1 := Lib.hid hk1
                have hk1t := beq_t hk1
                clear hk1 hk0
                have htl := nm_len n l bad
                have hnl := nm_lt n l bad
                go_wp2_with fail
                refine (num_any n _ HR.out (fun k h => absurd h.2.1 (by decide))).mono ?_
                rintro e w4 ⟨rfl, hr4, hg4⟩
                obtain ⟨t, ht⟩ : ∃ t, t = nm n l bad := ⟨_, rfl⟩
                rw [← ht] at hr4 htl hnl ⊢
                have HT := Lib.hid ht
                have HR4 := Lib.hid hr4
                have x4 := grown_new hxr hg4 (fun k hk => by simp at hk; omega)
                have d4 := grown_get hg4 D1.out (by simpa using hne)
                have k4 := (HC.out _ x4).2
                have e0 := cells_of d4 0
                have e1 := cells_of d4 1
                have f0 := free_of d4 0
                have f1 := free_of d4 1
                simp at e0 e1
                have D4 := Lib.hid d4
                have hs4 := hg4.size
                have q4 : RB w4 (fun g _ => g < w.heap.size) A1 l := R1.out.grown hg4 (fun k t hs hg => by simp at hg; omega)
                have Q4 := Lib.hid q4
                clear ht hr4 hg4 d4 q4 k0 k1
                go_wp2_with fail
                go_region_with (go_at_call 13; refine (rnum_any A1 c1 l bad _ n w4.drew (Q4.out.ext (Ext.drew _)) (fun g t hs => Nat.lt_of_lt_of_le hs (x4.tr (Ext.drew _)).size) l1 M1.out (by omega) ⟨hb1, hb2⟩).mono ?_; rintro e w5 ⟨A5, c5, rfl, hr5, h51, h52, hx5⟩; rw [← HT.out] at hr5 h51 ⊢; have d5 := ((Ext.drew w4).tr hx5).get D4.out; have g0 := cells_of d5 0; have g1 := cells_of d5 1; have g2 := free_of d5 0; have g3 := free_of d5 1; simp at g0 g1; have D5 := Lib.hid d5; have R5 := Lib.hid hr5; have M5 := Lib.hid h52; have X5 := Lib.hid ((Ext.drew w4).tr hx5); clear d5 hr5 h52 hx5)
                all_goals
                  go_wp2_with fail
                  have q1 := set_of D5.out 0 (.slice A5 t.left.length c5)
                  have q2 := set_of q1 1 (.bool t.bad)
                  have hgg : w5.grownBy ((w5.setCell ⟨g8, 0, none⟩ (.slice A5 t.left.length c5)).setCell ⟨g8, 1, none⟩ (.bool t.bad)) (some g8) := grown_tr (grown_set _ rfl _) (grown_set _ rfl _)
                  have o3 := (HR4.out.ext X5.out).far hgg D5.out (Ne.symm hne) (fun k h => absurd h.2.1 (by decide))
                  have o4 : Rr ((w5.setCell ⟨g8, 0, none⟩ (.slice A5 t.left.length c5)).setCell ⟨g8, 1, none⟩ (.bool t.bad)) (fun g _ => g < w.heap.size) g8 t.left t.bad :=
                    ⟨A5, c5, by simpa using q2, R5.out.grown hgg (fun k t hs hg => by simp at hg; omega), h51, M5.out⟩
                  have o5 := grown_new (x4.tr X5.out) hgg (fun k hk => by simp at hk; omega)
                  go_meet
                  exact ⟨[], none, none, 0, 0, t.num, t.left, t.bad, rfl, rfl, rfl, rfl, by simp, by omega, OwnB.nil _ _ _, RB.nil _ _ _, o3, o4, o5, Nat.le_trans hs4 (Nat.le_trans X5.out.size hgg.size)⟩
              · have hk1f := beq_f hk1
                clear hk1 hk0
                have htl := st_len n l bad
                go_wp2_with fail
                refine (str_any n _ HR.out (fun k h => absurd h.2.1 (by decide)) (by omega)).mono ?_
                rintro e w4 ⟨A4, c4, rfl, ho4, hr4, hg4⟩
                obtain ⟨t, ht⟩ : ∃ t, t = st n l bad := ⟨_, rfl⟩
                rw [← ht] at ho4 hr4 htl ⊢
                have HT := Lib.hid ht
                have HO4 := Lib.hid ho4
                have HR4 := Lib.hid hr4
                have x4 := grown_new hxr hg4 (fun k hk => by simp at hk; omega)
                have d4 := grown_get hg4 D1.out (by simpa using hne)
                have k4 := (HC.out _ x4).2
                have e0 := cells_of d4 0
                have e1 := cells_of d4 1
                have f0 := free_of d4 0
                have f1 := free_of d4 1
                simp at e0 e1
                have D4 := Lib.hid d4
                have hs4 := hg4.size
                have q4 : RB w4 (fun g _ => g < w.heap.size) A1 l := R1.out.grown hg4 (fun k t hs hg => by simp at hg; omega)
                have Q4 := Lib.hid q4
                clear ht ho4 hr4 hg4 d4 q4 k0 k1
                go_wp2_with fail
                go_region_with (go_at_call 15; refine (rstr_any A1 c1 l bad _ n w4.drew (Q4.out.ext (Ext.drew _)) (fun g t hs => Nat.lt_of_lt_of_le hs (x4.tr (Ext.drew _)).size) l1 M1.out (by omega) ⟨hb1, hb2⟩).mono ?_; rintro e w5 ⟨A5, c5, A6, c6, rfl, hr5, h51, h52, ho5, hx5⟩; rw [← HT.out] at hr5 h51 ho5 ⊢; have d5 := ((Ext.drew w4).tr hx5).get D4.out; have g0 := cells_of d5 0; have g1 := cells_of d5 1; have g2 := free_of d5 0; have g3 := free_of d5 1; simp at g0 g1; have D5 := Lib.hid d5; have R5 := Lib.hid hr5; have O5 := Lib.hid ho5; have M5 := Lib.hid h52; have X5 := Lib.hid ((Ext.drew w4).tr hx5); clear d5 hr5 ho5 h52 hx5)
                all_goals
                  go_wp2_with fail
                  have q1 := set_of D5.out 0 (.slice A5 t.left.length c5)
                  have q2 := set_of q1 1 (.bool t.bad)
                  have hgg : w5.grownBy ((w5.setCell ⟨g8, 0, none⟩ (.slice A5 t.left.length c5)).setCell ⟨g8, 1, none⟩ (.bool t.bad)) (some g8) := grown_tr (grown_set _ rfl _) (grown_set _ rfl _)
                  have o1 := ((HO4.out.ext X5.out).far hgg D5.out (by decide))
                  have o2 : RB ((w5.setCell ⟨g8, 0, none⟩ (.slice A5 t.left.length c5)).setCell ⟨g8, 1, none⟩ (.bool t.bad)) (fun _ _ => True) A6 t.got := (O5.out.far hgg D5.out (by decide)).rb.more (fun _ _ _ => trivial)
                  have o3 := (HR4.out.ext X5.out).far hgg D5.out (Ne.symm hne) (fun k h => absurd h.2.1 (by decide))
                  have o4 : Rr ((w5.setCell ⟨g8, 0, none⟩ (.slice A5 t.left.length c5)).setCell ⟨g8, 1, none⟩ (.bool t.bad)) (fun g _ => g < w.heap.size) g8 t.left t.bad :=
                    ⟨A5, c5, by simpa using q2, R5.out.grown hgg (fun k t hs hg => by simp at hg; omega), h51, M5.out⟩
                  have o5 := grown_new (x4.tr X5.out) hgg (fun k hk => by simp at hk; omega)
                  go_meet
                  exact ⟨t.got, A4, A6, c4, c6, 0, t.left, t.bad, rfl, rfl, rfl, rfl, by omega, by omega, o1, o2, o3, o4, o5, Nat.le_trans hs4 (Nat.le_trans X5.out.size hgg.size)⟩
          case rest =>
            obtain ⟨G, A10, A11, c10, c11, N, l', bad', rfl, rfl, rfl, rfl, hG, hl', HO, HW, HR', HQ', hx', hzc⟩ := hcut
            obtain ⟨A1', c1', d1', r1', l1', m1'⟩ := HQ'.out
            have e0 := cells_of d1' 0
            have e1 := cells_of d1' 1
            simp at e0 e1
            have hN : ((N : Int) != (N : Int)) = false := bne_f rfl
            have hL : ((l'.length : Int) != (l'.length : Int)) = false := bne_f rfl
            have D1' := Lib.hid d1'
            have R1' := Lib.hid r1'
            have M1' := Lib.hid m1'
            clear d1' r1' m1' k0 k1
            have hq : ∀ n, Calls Try.prog 16 #[.slice A10 G.length c10, .slice A11 G.length c11] (wc.drewN n) fun e w'' => e = .returned (.bool true) ∧ ∃ m, w'' = wc.drewN m := fun n =>
              Calls.quiet_of (same_t A10 A11 G G c10 c11 _ _ _ (HO.out.rb.ext (Ext.drewN _ _)) (HW.out.ext (Ext.drewN _ _)) (by omega) rfl)
            have HQS := Lib.hid hq
            clear hq
            obtain ⟨wo, rfl⟩ : ∃ wo : World, wo = wr := ⟨_, rfl⟩
            cases bad' with
            | true =>
              go_wp2_with fail
              go_quiet ((first | (go_at_call 16; exact HQS.out _) | (go_at_call 17; exact quiet_eq (bad_c _ (HR'.out.ext (Ext.drewN _ _)))) | (go_at_call 18; exact quiet_eq (left_c _ (HR'.out.ext (Ext.drewN _ _)))) | (go_at_call 19; exact quiet_eq (done_c _ (HR'.out.ext (Ext.drewN _ _))))))
              go_wp2_with fail
              go_loopw [14] (fun i wr => ∃ (k : Nat) (m : List UInt8), k ≤ G.length ∧ i = .int .i64 k ∧ m.length = G.length ∧ Hid (OwnB wr 5 wo.heap.size A10 c10 m) ∧ Hid (Rd wr (fun k t => w2.heap.size ≤ k ∧ t = 5 ∧ k < w3.heap.size) g l' true) ∧ Hid (Rr wr (fun g _ => g < w.heap.size) g8 l' true) ∧ Ext w wr ∧ wo.heap.size ≤ wr.heap.size) (fun i _ => G.length - (intOf i).toNat)
              case atStart => exact ⟨0, G, Nat.zero_le _, rfl, rfl, HO.out.ext (Ext.drewN _ _), HR'.out.ext (Ext.drewN _ _), ⟨A1', c1', D1'.out, R1'.out.ext (Ext.drewN _ _), l1', M1'.out⟩, hx'.tr (Ext.drewN _ _), hzc⟩
              case round =>
                obtain ⟨k, m, hk, rfl, hml, HOk, HRk, HQk, hxk, hzk⟩ := hrel
                by_cases hltk : k < G.length
                · have hkm : k < m.length := by omega
                  have hob : ∃ ob, A10 = some ⟨ob, 0, none⟩ ∧ wo.heap.size ≤ ob := by
                    rcases HOk.out.block with ⟨_, _, rfl⟩ | ⟨ob, cs, hA, hge, hh, _⟩
                    · simp at hkm
                    · exact ⟨ob, hA, hge⟩
                  obtain ⟨ob, rfl, hob1⟩ := hob
                  have ho' : OwnB wr 5 wo.heap.size (some ⟨ob, 0, none⟩) c10 m := HOk.out
                  have v0 := ho'.cellAt hkm
                  have f0 := ho'.freeAt k
                  have hst := ho'.set_ k (UInt8.ofNat (((m[k]).toNat + 1) % 256))
                  rw [← inc_byte] at hst
                  have HST := Lib.hid hst
                  have hb0 := u8_lt m[k]
                  have hgk : wr.grownBy (wr.setCell ⟨ob, k, none⟩ (.int .u8 ((((m[k]).toNat : Int) + 1) % 256))) (some ob) := grown_set _ rfl _
                  have hglt : g < wo.heap.size := by
                    obtain ⟨cs, hh⟩ := HR.out.at_
                    exact lt_of_some hh
                  have hg8lt : g8 < wo.heap.size := lt_of_some D1.out
                  have hRN := Lib.hid (HRk.out.grown hgk (by simp; omega) (fun g' t hs hg => by simp at hg; omega))
                  have hQN : Hid (Rr (wr.setCell ⟨ob, k, none⟩ (.int .u8 ((((m[k]).toNat : Int) + 1) % 256))) (fun g _ => g < w.heap.size) g8 l' true) := by
                    obtain ⟨A, c, q1, q2, q3, q4⟩ := HQk.out
                    exact ⟨A, c, grown_get hgk q1 (by simp; omega), q2.grown hgk (fun g' t hs hg => by simp at hg; have := hxr.size; omega), q3, q4⟩
                  have hxn := grown_new hxk hgk (fun g hg => by simp at hg; have := hxr.size; omega)
                  have hzn := Nat.le_trans hzk hgk.size
                  clear ho' hst
                  go_wp2_with fail
                  go_roundw
                  case rel => exact ⟨k + 1, _, by omega, by go_num, by rw [List.length_set]; exact hml, HST, hRN, hQN, hxn, hzn⟩
                  case measure => simp [intOf]; omega
                · go_wp2_with fail
                  go_roundg (ps.length - (j + 1))
                  case measure => omega
                  case rel => exact ⟨j + 1, l', true, by omega, rfl, by go_num, hl', HRk, HQk, hxk, by omega⟩
            | false =>
              have hdd : ∀ n, Calls Try.prog 19 #[.pointer (some ⟨g, 0, none⟩)] (wc.drewN n) fun e w' => e = .returned (.bool ((l'.length : Int) == 0)) ∧ wc.drewN n = w' := fun n =>
                (done_c _ (HR'.out.ext (Ext.drewN _ _))).mono fun e w' ⟨he, hw⟩ => ⟨by rw [he]; congr 2; cases l' <;> simp; omega, hw⟩
              have HDD := Lib.hid hdd
              have hxx : (((l'.length : Int) == 0) != ((l'.length : Int) == 0)) = false := by simp
              clear hdd
              go_wp2_with fail
              go_quiet ((first | (go_at_call 16; exact HQS.out _) | (go_at_call 17; exact quiet_eq (bad_c _ (HR'.out.ext (Ext.drewN _ _)))) | (go_at_call 18; exact quiet_eq (left_c _ (HR'.out.ext (Ext.drewN _ _)))) | (go_at_call 19; exact quiet_eq (HDD.out _))))
              go_wp2_with fail
              go_loopw [14] (fun i wr => ∃ (k : Nat) (m : List UInt8), k ≤ G.length ∧ i = .int .i64 k ∧ m.length = G.length ∧ Hid (OwnB wr 5 wo.heap.size A10 c10 m) ∧ Hid (Rd wr (fun k t => w2.heap.size ≤ k ∧ t = 5 ∧ k < w3.heap.size) g l' false) ∧ Hid (Rr wr (fun g _ => g < w.heap.size) g8 l' false) ∧ Ext w wr ∧ wo.heap.size ≤ wr.heap.size) (fun i _ => G.length - (intOf i).toNat)
              case atStart => exact ⟨0, G, Nat.zero_le _, rfl, rfl, HO.out.ext (Ext.drewN _ _), HR'.out.ext (Ext.drewN _ _), ⟨A1', c1', D1'.out, R1'.out.ext (Ext.drewN _ _), l1', M1'.out⟩, hx'.tr (Ext.drewN _ _), hzc⟩
              case round =>
                obtain ⟨k, m, hk, rfl, hml, HOk, HRk, HQk, hxk, hzk⟩ := hrel
                by_cases hltk : k < G.length
                · have hkm : k < m.length := by omega
                  have hob : ∃ ob, A10 = some ⟨ob, 0, none⟩ ∧ wo.heap.size ≤ ob := by
                    rcases HOk.out.block with ⟨_, _, rfl⟩ | ⟨ob, cs, hA, hge, hh, _⟩
                    · simp at hkm
                    · exact ⟨ob, hA, hge⟩
                  obtain ⟨ob, rfl, hob1⟩ := hob
                  have ho' : OwnB wr 5 wo.heap.size (some ⟨ob, 0, none⟩) c10 m := HOk.out
                  have v0 := ho'.cellAt hkm
                  have f0 := ho'.freeAt k
                  have hst := ho'.set_ k (UInt8.ofNat (((m[k]).toNat + 1) % 256))
                  rw [← inc_byte] at hst
                  have HST := Lib.hid hst
                  have hb0 := u8_lt m[k]
                  have hgk : wr.grownBy (wr.setCell ⟨ob, k, none⟩ (.int .u8 ((((m[k]).toNat : Int) + 1) % 256))) (some ob) := grown_set _ rfl _
                  have hglt : g < wo.heap.size := by
                    obtain ⟨cs, hh⟩ := HR.out.at_
                    exact lt_of_some hh
                  have hg8lt : g8 < wo.heap.size := lt_of_some D1.out
                  have hRN := Lib.hid (HRk.out.grown hgk (by simp; omega) (fun g' t hs hg => by simp at hg; omega))
                  have hQN : Hid (Rr (wr.setCell ⟨ob, k, none⟩ (.int .u8 ((((m[k]).toNat : Int) + 1) % 256))) (fun g _ => g < w.heap.size) g8 l' false) := by
                    obtain ⟨A, c, q1, q2, q3, q4⟩ := HQk.out
                    exact ⟨A, c, grown_get hgk q1 (by simp; omega), q2.grown hgk (fun g' t hs hg => by simp at hg; have := hxr.size; omega), q3, q4⟩
                  have hxn := grown_new hxk hgk (fun g hg => by simp at hg; have := hxr.size; omega)
                  have hzn := Nat.le_trans hzk hgk.size
                  clear ho' hst
                  go_wp2_with fail
                  go_roundw
                  case rel => exact ⟨k + 1, _, by omega, by go_num, by rw [List.length_set]; exact hml, HST, hRN, hQN, hxn, hzn⟩
                  case measure => simp [intOf]; omega
                · go_wp2_with fail
                  go_roundg (ps.length - (j + 1))
                  case measure => omega
                  case rel => exact ⟨j + 1, l', false, by omega, rfl, by go_num, hl', HRk, HQk, hxk, by omega⟩
        · go_wp2_with fail
          go_ret
          exact ⟨rfl, hxr⟩

theorem wireMatchesReference_walk (a0 : Option Addr) (len0 cap0 : Nat) (z0 : List Int) (a1 : Option Addr) (len1 cap1 : Nat) (z1 : List (Int × Int)) (w : World) (w0 : IsRow .u8 w a0 len0 cap0 z0) (w1 : IsPairs w a1 len1 cap1 z1) :
    Calls Try.prog 3 #[.slice a0 len0 cap0, .slice a1 len1 cap1] w fun e w' => e = .returned (.bool true) ∧ Below w.heap.size w w' := by
  obtain ⟨b, rfl, hl, hm, hb⟩ := row_bytes w0
  obtain ⟨rfl, hl2, hm2, hp, hpb⟩ := w1
  have hm' := hm
  unfold maxLen at hm' hm2
  by_cases h : 300 < b.length ∨ 100 < z1.length
  · exact wmatch_out a0 a1 cap0 cap1 b z1 w (by omega) (by omega) h
  · exact wmatch_in a0 a1 cap0 cap1 b z1 w hb (by omega) hl hm (by omega) hp hpb
end Go.Proofs.Ytbjclahjcjpfoaa
