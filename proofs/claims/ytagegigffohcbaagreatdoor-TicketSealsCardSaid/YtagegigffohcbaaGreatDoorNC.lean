/-
  Names read from bytes, by the reference.
  What is read: the package and the reference read the same; a name's bytes are read back, and no name's bytes begin with another's.
  A name among the arguments, opened.
-/
import Derived.Test.YtagegigffohcbaaGreatDoorNB
import Derived.SliceStrings
import Derived.ChangeSame
import Derived.ChangeMaps5
set_option linter.unusedVariables false
set_option linter.unusedSimpArgs false
namespace Go.Proofs.YtagegigffohcbaaGreatDoor
open Go.RowKit
set_option linter.unusedSimpArgs false
set_option linter.unnecessarySimpa false

theorem OwnS.neq {w : World} {E : TypeId} {base c g : Nat} {A : Option Addr} {ss : List ByteArray} {cs : Array Value} {t : TypeId} {fr : Nat × Nat} (h : OwnS w E base A c ss) (hg : w.heap[g]? = some (.cells cs t fr)) (ht : t ≠ E) : (Value.slice A ss.length c).ownBlock ≠ some g := by
  rcases h.v.block with ⟨rfl, _, _⟩ | ⟨g', cs', rfl, _, hh, _⟩
  · simp [Value.ownBlock]
  · intro e
    simp [Value.ownBlock] at e
    have e2 : g' = g := by omega
    subst e2
    rw [hg] at hh
    injection hh with hh
    injection hh with _ h2 _
    exact ht h2
/-- the parts that the reference reads, and the reader then -/
def rq (l : List UInt8) (bad : Bool) : List (List UInt8) × List UInt8 × Bool := rdn (rn l bad).left (rn l bad).bad (min (rn l bad).num 9)
/-- the name that the reference reads -/
def rrnm (l : List UInt8) (bad : Bool) : Option (List UInt8 × List (List UInt8)) := if (rq l bad).2.2 = false ∧ vl (rrl l bad).got (rq l bad).1 = true then some ((rrl l bad).got, (rq l bad).1) else none

theorem TB.notR (g : Nat) : ¬ TB g 80 := by unfold TB; decide
/-- the reference's variables while it reads: the reader, the two results -/
structure RSt (w W : World) (a b : Value) : Prop where
  r : W.heap[w.heap.size]? = some (.cells #[a, b] 80 (0, 0))
  z : W.heap[w.heap.size + 1]? = some (.cells #[.slice none 0 0, .bool false] 80 (0, 0))
  n : W.heap[w.heap.size + 2]? = some (.cells #[.string ⟨#[]⟩, .slice none 0 0] 26 (0, 0))
  x : Ext w W
theorem RSt.ext {w W W' : World} {a b : Value} (h : RSt w W a b) (hx : Ext W W') : RSt w W' a b := ⟨hx.get h.r, hx.get h.z, hx.get h.n, h.x.tr hx⟩
theorem RSt.set {w W : World} {a b : Value} (h : RSt w W a b) (x y : Value) : RSt w ((W.setCell ⟨w.heap.size, 0, none⟩ x).setCell ⟨w.heap.size, 1, none⟩ y) x y := by
  refine ⟨two_stored h.r, ?_, ?_, (h.x.setCell (p := ⟨w.heap.size, 0, none⟩) (Nat.le_refl _) x).setCell (p := ⟨w.heap.size, 1, none⟩) (Nat.le_refl _) y⟩
  · rw [Below.heap_setCell _ _ _ _ (by show w.heap.size + 1 ≠ w.heap.size; omega), Below.heap_setCell _ _ _ _ (by show w.heap.size + 1 ≠ w.heap.size; omega)]
    exact h.z
  · rw [Below.heap_setCell _ _ _ _ (by show w.heap.size + 2 ≠ w.heap.size; omega), Below.heap_setCell _ _ _ _ (by show w.heap.size + 2 ≠ w.heap.size; omega)]
    exact h.n
theorem RSt.grown {w W W' : World} {a b : Value} {row : Option Nat} (h : RSt w W a b) (hg : W.grownBy W' row) (hr : ∀ q, row = some q → w.heap.size + 3 ≤ q) : RSt w W' a b :=
  ⟨grown_get hg h.r (fun e => by have := hr _ e; omega), grown_get hg h.z (fun e => by have := hr _ e; omega), grown_get hg h.n (fun e => by have := hr _ e; omega), grown_new h.x hg (fun q e => by have := hr q e; omega)⟩

/-- the two results are stored -/
theorem RSt.out {w W : World} {a b : Value} (h : RSt w W a b) (p q x y : Value) :
    ((((W.setCell ⟨w.heap.size + 1, 0, none⟩ p).setCell ⟨w.heap.size + 1, 1, none⟩ q).setCell ⟨w.heap.size + 2, 0, none⟩ x).setCell ⟨w.heap.size + 2, 1, none⟩ y).heap[w.heap.size + 1]? = some (.cells #[p, q] 80 (0, 0)) ∧
    ((((W.setCell ⟨w.heap.size + 1, 0, none⟩ p).setCell ⟨w.heap.size + 1, 1, none⟩ q).setCell ⟨w.heap.size + 2, 0, none⟩ x).setCell ⟨w.heap.size + 2, 1, none⟩ y).heap[w.heap.size + 2]? = some (.cells #[x, y] 26 (0, 0)) ∧
    Ext w ((((W.setCell ⟨w.heap.size + 1, 0, none⟩ p).setCell ⟨w.heap.size + 1, 1, none⟩ q).setCell ⟨w.heap.size + 2, 0, none⟩ x).setCell ⟨w.heap.size + 2, 1, none⟩ y) := by
  refine ⟨?_, ?_, ?_⟩
  · rw [Below.heap_setCell _ _ _ _ (by show w.heap.size + 1 ≠ w.heap.size + 2; omega), Below.heap_setCell _ _ _ _ (by show w.heap.size + 1 ≠ w.heap.size + 2; omega)]
    exact two_stored h.z
  · refine two_stored (a := .string ⟨#[]⟩) (b := .slice none 0 0) ?_
    rw [Below.heap_setCell _ _ _ _ (by show w.heap.size + 2 ≠ w.heap.size + 1; omega), Below.heap_setCell _ _ _ _ (by show w.heap.size + 2 ≠ w.heap.size + 1; omega)]
    exact h.n
  · exact (((h.x.setCell (by show w.heap.size ≤ w.heap.size + 1; omega) p).setCell (by show w.heap.size ≤ w.heap.size + 1; omega) q).setCell (by show w.heap.size ≤ w.heap.size + 2; omega) x).setCell (by show w.heap.size ≤ w.heap.size + 2; omega) y
set_option maxRecDepth 100000 in
set_option maxHeartbeats 4000000 in
theorem rread_c (A : Option Addr) (c : Nat) (l : List UInt8) (bad : Bool) (S : Nat → TypeId → Prop) (w : World) (h : RB w S A l) (hS : ∀ g t, S g t → g < w.heap.size) (hc : l.length ≤ c) (hm : c ≤ maxLen) (hl : l.length ≤ 140737488355328) :
    Calls Tryz.prog 52 #[.agg #[.slice A l.length c, .bool bad]] w fun e w' => ∃ A1 c1 v, e = .returned (.tuple #[.agg #[.slice A1 (rq l bad).2.1.length c1, .bool (rq l bad).2.2], v, .bool (rrnm l bad).isSome]) ∧ NmR w' v (rrnm l bad) ∧ Ext w w' := by
  obtain ⟨i0, hi0, hz0, hz1, hz2⟩ := info_parts' info_str
  obtain ⟨wo, hwo⟩ : ∃ wo : World, wo = ((w.alloc (.cells #[.slice A l.length c, .bool bad] 80)).alloc (.cells #[.slice none 0 0, .bool false] 80)).alloc (.cells #[.string ⟨#[]⟩, .slice none 0 0] 26) := ⟨_, rfl⟩
  obtain ⟨n1, n2, n3⟩ := new3 w (.cells #[.slice A l.length c, .bool bad] 80) (.cells #[.slice none 0 0, .bool false] 80) (.cells #[.string ⟨#[]⟩, .slice none 0 0] 26)
  rw [← hwo] at n1 n2 n3
  have hx0 : Ext w wo := by rw [hwo]; exact ((Ext.alloc _ _).tr (Ext.alloc _ _)).tr (Ext.alloc _ _)
  have H := Lib.hid h
  have HS := Lib.hid hS
  have HX0 := Lib.hid hx0
  have N1 := Lib.hid n1
  have N2 := Lib.hid n2
  have N3 := Lib.hid n3
  have HW := Lib.hid hwo
  clear h hS hx0 n1 n2 n3 hwo
  go_enter Tryz.func52, Tryz.ntmps52
  go_wp2_with fail
  rw [← HW.out]
  refine (rstr_any A c l bad S 1 wo (H.out.ext HX0.out) (fun g t hs => Nat.lt_of_lt_of_le (HS.out g t hs) HX0.out.size) hc hm hl ⟨by omega, by omega⟩).mono ?_
  rintro e w1 ⟨A1, c1, B1, d1, rfl, hr1, hc1, hm1, hB1, hx1⟩
  have hst2 := st_len 1 l bad
  obtain ⟨t, ht⟩ : ∃ t, t = st 1 l bad := ⟨_, rfl⟩
  rw [← ht] at hr1 hc1 hB1 hst2 ⊢
  have hst0 : RSt w w1 (.slice A l.length c) (.bool bad) := ⟨hx1.get N1.out, hx1.get N2.out, hx1.get N3.out, HX0.out.tr hx1⟩
  have hl3 := lt_of_some hst0.n
  have p0 : w1.cell? ⟨w.heap.size, 0, none⟩ = some (.slice A l.length c) := cells_of hst0.r 0
  have p1 : w1.cell? ⟨w.heap.size, 1, none⟩ = some (.bool bad) := cells_of hst0.r 1
  have f0 : w1.frozen? ⟨w.heap.size, 0, none⟩ = false := free_of hst0.r 0
  have f1 : w1.frozen? ⟨w.heap.size, 1, none⟩ = false := free_of hst0.r 1
  have hst1 := hst0.set (.slice A1 t.left.length c1) (.bool t.bad)
  have hg1 : w1.grownBy ((w1.setCell ⟨w.heap.size, 0, none⟩ (.slice A1 t.left.length c1)).setCell ⟨w.heap.size, 1, none⟩ (.bool t.bad)) (some w.heap.size) := grown_tr (grown_set _ rfl _) (grown_set _ rfl _)
  obtain ⟨W1, hW1⟩ : ∃ W, W = (w1.setCell ⟨w.heap.size, 0, none⟩ (.slice A1 t.left.length c1)).setCell ⟨w.heap.size, 1, none⟩ (.bool t.bad) := ⟨_, rfl⟩
  rw [← hW1] at hst1 hg1
  have hr1' : RB W1 S A1 t.left := hr1.grown hg1 (fun g t' hs e => by have := HS.out g t' hs; injection e with e; omega)
  have hB1' : RB W1 TB B1 t.got := hB1.tb.far hg1 hst0.r TB.notR
  have q0 : W1.cell? ⟨w.heap.size, 0, none⟩ = some (.slice A1 t.left.length c1) := cells_of hst1.r 0
  have q1 : W1.cell? ⟨w.heap.size, 1, none⟩ = some (.bool t.bad) := cells_of hst1.r 1
  have HT := Lib.hid ht
  have ST1 := Lib.hid hst1
  have HR1 := Lib.hid hr1'
  have HB1 := Lib.hid hB1'
  have HWW1 := Lib.hid hW1
  have hszw1 : w1.heap.size ≤ W1.heap.size := hg1.size
  clear ht hst0 hst1 hr1 hr1' hB1 hB1' hg1 hx1
  go_wp2_with fail
  rw [← hW1]
  clear hW1
  refine (rnum_any A1 c1 t.left t.bad S 1 W1 HR1.out (fun g t hs => Nat.lt_of_lt_of_le (HS.out g t hs) ST1.out.x.size) hc1 hm1 (by omega) ⟨by omega, by omega⟩).mono ?_
  rintro e w2 ⟨A2, c2, rfl, hr2, hc2, hm2, hx2⟩
  have hnl := nm_len 1 t.left t.bad
  have hnt := nm1_lt t.left t.bad
  obtain ⟨m, hmm⟩ : ∃ m, m = nm 1 t.left t.bad := ⟨_, rfl⟩
  rw [← hmm] at hr2 hc2 hnl hnt ⊢
  have hst2b := ST1.out.ext hx2
  have p0 : w2.cell? ⟨w.heap.size, 0, none⟩ = some (.slice A1 t.left.length c1) := cells_of hst2b.r 0
  have p1 : w2.cell? ⟨w.heap.size, 1, none⟩ = some (.bool t.bad) := cells_of hst2b.r 1
  have f0 : w2.frozen? ⟨w.heap.size, 0, none⟩ = false := free_of hst2b.r 0
  have f1 : w2.frozen? ⟨w.heap.size, 1, none⟩ = false := free_of hst2b.r 1
  have hst3 := hst2b.set (.slice A2 m.left.length c2) (.bool m.bad)
  have hg2 : w2.grownBy ((w2.setCell ⟨w.heap.size, 0, none⟩ (.slice A2 m.left.length c2)).setCell ⟨w.heap.size, 1, none⟩ (.bool m.bad)) (some w.heap.size) := grown_tr (grown_set _ rfl _) (grown_set _ rfl _)
  obtain ⟨W2, hW2⟩ : ∃ W, W = (w2.setCell ⟨w.heap.size, 0, none⟩ (.slice A2 m.left.length c2)).setCell ⟨w.heap.size, 1, none⟩ (.bool m.bad) := ⟨_, rfl⟩
  rw [← hW2] at hst3 hg2
  have hr2' : RB W2 S A2 m.left := hr2.grown hg2 (fun g t' hs e => by have := HS.out g t' hs; injection e with e; omega)
  have hB2' : RB W2 TB B1 t.got := (HB1.out.ext hx2).far hg2 hst2b.r TB.notR
  have hcv := conv_back d1 t.got.length hB2' rfl
  obtain ⟨r, hr⟩ : ∃ r : ByteArray, r = ⟨t.got.toArray⟩ := ⟨_, rfl⟩
  rw [← hr] at hcv
  have hbr : bl r = t.got := by rw [hr, bl_mk]
  have hrs : r.size = t.got.length := by rw [← bl_len, hbr]
  have q0 : W2.cell? ⟨w.heap.size, 0, none⟩ = some (.slice A2 m.left.length c2) := cells_of hst3.r 0
  have q1 : W2.cell? ⟨w.heap.size, 1, none⟩ = some (.bool m.bad) := cells_of hst3.r 1
  have hxn := Ext.alloc W2 (.cells #[.string r, .slice none 0 0] 26)
  have hst4 := hst3.ext hxn
  have hn4 := new_of W2 (.cells #[.string r, .slice none 0 0] 26)
  have hs22 : W2.heap.size = w2.heap.size := by rw [hW2]; simp [World.setCell]
  have hr4 := hr2'.ext hxn
  obtain ⟨w3, hw3⟩ : ∃ W, W = W2.alloc (.cells #[.string r, .slice none 0 0] 26) := ⟨_, rfl⟩
  have hsz2 := hx2.size
  have hsz3 : w3.heap.size = w2.heap.size + 1 := by rw [hw3, ← hs22]; simp
  rw [hs22] at hn4
  clear hs22
  have HM := Lib.hid hmm
  have HBR := Lib.hid hbr
  rw [← hw3] at hst4 hn4 hr4
  have ST4 := Lib.hid hst4
  have HN4 := Lib.hid hn4
  have HR4 := Lib.hid hr4
  have HW3 := Lib.hid hw3
  clear hmm hr hbr hst2b hst3 hr2 hr2' hB2' hg2 hx2 hxn hst4 hn4 hr4
  have HW2 := Lib.hid hW2
  rw [hW2] at hcv q0 q1
  clear hW2 hw3
  go_wp2_with fail
  rw [← HW2.out, ← HW3.out]
  clear hcv q0 q1
  go_loopw [8] (fun i wr => ∃ (k : Nat) (N : Option Addr) (d : Nat) (ws : List ByteArray) (A3 : Option Addr) (c3 : Nat), k ≤ min m.num 9 ∧ i = .int .u64 k ∧ ws.length = k ∧ bls ws = (rdn m.left m.bad k).1 ∧ wr.heap[w2.heap.size]? = some (.cells #[.string r, .slice N k d] 26 (0, 0)) ∧
    RSt w wr (.slice A3 (rdn m.left m.bad k).2.1.length c3) (.bool (rdn m.left m.bad k).2.2) ∧ RB wr S A3 (rdn m.left m.bad k).2.1 ∧ (rdn m.left m.bad k).2.1.length ≤ c3 ∧ c3 ≤ maxLen ∧ OwnS wr 9 w3.heap.size N d ws ∧ w3.heap.size ≤ wr.heap.size ∧ ∀ t ∈ ws, t.size ≤ l.length) (fun i _ => min m.num 9 - (intOf i).toNat)
  case atStart => exact ⟨0, none, 0, [], A2, c2, Nat.zero_le _, rfl, rfl, rfl, HN4.out, ST4.out, HR4.out, hc2, hm2, OwnS.nil _ _ _, Nat.le_refl _, by simp⟩
  case round =>
    obtain ⟨k, N, d, ws, A3, c3, hk, rfl, hwk, hbw, hdn, hst, hrb, hc3, hm3, hor, hszr, hzs⟩ := hrel
    have q0 : wr.cell? ⟨w.heap.size, 0, none⟩ = some (.slice A3 (rdn m.left m.bad k).2.1.length c3) := cells_of hst.r 0
    have q1 : wr.cell? ⟨w.heap.size, 1, none⟩ = some (.bool (rdn m.left m.bad k).2.2) := cells_of hst.r 1
    have g0 : wr.cell? ⟨w2.heap.size, 0, none⟩ = some (.string r) := cells_of hdn 0
    have g1 : wr.cell? ⟨w2.heap.size, 1, none⟩ = some (.slice N k d) := cells_of hdn 1
    have hql := (rdn_len m.left m.bad k).1
    have hsq := rdn_succ m.left m.bad k
    obtain ⟨q, hqq⟩ : ∃ q, q = rdn m.left m.bad k := ⟨_, rfl⟩
    rw [← hqq] at q0 q1 hql hsq hrb hc3 hst hbw
    have HQ := Lib.hid hqq
    have HBW := Lib.hid hbw
    have HDN := Lib.hid hdn
    have ST := Lib.hid hst
    have HRB := Lib.hid hrb
    have HOR := Lib.hid hor
    have HZS := Lib.hid hzs
    clear hqq hbw hdn hst hrb hor hzs
    by_cases hlt : k < min m.num 9
    · have hk1 : k < m.num := by omega
      have hk9 : k < 9 := by omega
      have hrs := rstr_any A3 c3 q.2.1 q.2.2 S 1 wr HRB.out (fun g t hs => Nat.lt_of_lt_of_le (HS.out g t hs) ST.out.x.size) hc3 hm3 (by omega) ⟨by omega, by omega⟩
      have hsl := (st_len 1 q.2.1 q.2.2).1
      obtain ⟨x, hx⟩ : ∃ x, x = st 1 q.2.1 q.2.2 := ⟨_, rfl⟩
      rw [← hx] at hsq hsl hrs
      have HSQ := Lib.hid hsq
      have HRS := Lib.hid hrs
      have hne := HOR.out.ge
      rw [hwk] at hne
      have HNE := Lib.hid hne
      clear hsq hx hrs hne
      go_wp2_with fail
      refine HRS.out.mono ?_
      rintro e w4 ⟨A4, c4, B4, d4, rfl, hr4, hc4, hm4, hB4, hx4⟩
      have hxR := Ext.alloc w4 (.cells #[.slice A4 x.left.length c4, .bool x.bad] 80)
      have hcv := conv_back d4 x.got.length (hB4.tb.ext hxR) rfl
      obtain ⟨s6, hs6⟩ : ∃ s6 : ByteArray, s6 = ⟨x.got.toArray⟩ := ⟨_, rfl⟩
      rw [← hs6] at hcv
      have hbs6 : bl s6 = x.got := by rw [hs6, bl_mk]
      have hd4 := hx4.get HDN.out
      have g4 : w4.cell? ⟨w2.heap.size, 1, none⟩ = some (.slice N k d) := cells_of hd4 1
      have g4a : ∀ o, (w4.alloc o).cell? ⟨w2.heap.size, 1, none⟩ = some (.slice N k d) := fun o => by rw [World.cell?_alloc_some _ _ _ (by rw [g4]; rfl)]; exact g4
      have hxS := Ext.alloc (w4.alloc (.cells #[.slice A4 x.left.length c4, .bool x.bad] 80)) (.cells #[.string s6] 9)
      have hnewS := new_of (w4.alloc (.cells #[.slice A4 x.left.length c4, .bool x.bad] 80)) (.cells #[.string s6] 9)
      have HNS := Lib.hid (cells_of hnewS 0)
      have HXS := Lib.hid (hxR.tr hxS)
      have HD6 := Lib.hid ((hxR.tr hxS).get hd4)
      have HO6 := Lib.hid ((HOR.out.ext hx4).ext (hxR.tr hxS))
      have H9 := Lib.hid (hxS.get (new_of w4 (.cells #[.slice A4 x.left.length c4, .bool x.bad] 80)))
      have ST6 := Lib.hid ((ST.out.ext hx4).ext (hxR.tr hxS))
      have HR6 := Lib.hid (hr4.ext (hxR.tr hxS))
      have HBS6 := Lib.hid hbs6
      have hsz4 := hx4.size
      have hn9 := HO6.out.neq H9.out (by decide)
      rw [hwk] at hn9
      have HN9 := Lib.hid hn9
      clear hs6 hbs6 hd4 hx4 hxR hxS hnewS hr4 hB4 HRS hn9
      go_wp2_with (at_builtin; refine wpList_append_str1 _ rfl _ _ 24 rfl w3.heap.size 9 i0 Tryz.underlying24 hi0 hz0 hz1 hz2 N d ws k rfl hwk HO6.out (w4.heap.size + 1) s6 rfl (by have := HNS.out; simpa using this) (by omega) (by simp; omega) ?_
                   intro N7 d7 w7 ho7 hg7
                   have d7' := grown_get hg7 HD6.out (fun e => by have := HNE.out _ e; omega)
                   have n7 := grown_get hg7 H9.out HN9.out
                   have s7 := ST6.out.grown hg7 (fun q h => by have := HNE.out q h; omega)
                   have r7 := HR6.out.grown hg7 (fun g' t hs e => by have := HS.out g' t hs; have := HNE.out _ e; omega)
                   have e7 : w7.cell? ⟨w2.heap.size, 1, none⟩ = some (.slice N k d) := cells_of d7' 1
                   have f7 : w7.frozen? ⟨w2.heap.size, 1, none⟩ = false := free_of d7' 1
                   have g7 : w7.grownBy (w7.setCell ⟨w2.heap.size, 1, none⟩ (.slice N7 (k + 1) d7)) (some w2.heap.size) := grown_set (g := w2.heap.size) _ rfl _
                   have s8 := s7.grown g7 (fun q h => by injection h with h; omega)
                   have n8 := grown_get g7 n7 (fun e => by injection e with e; omega)
                   have r8 := r7.grown g7 (fun g' t hs e => by have := HS.out g' t hs; injection e with e; omega)
                   have d8 := set_of d7' 1 (.slice N7 (k + 1) d7)
                   have o8 := ho7.set1 (g := w2.heap.size) (i := 1) (x := .slice N7 (k + 1) d7) (by omega)
                   have a0 : (w7.setCell ⟨w2.heap.size, 1, none⟩ (.slice N7 (k + 1) d7)).cell? ⟨w4.heap.size, 0, none⟩ = some (.slice A4 x.left.length c4) := cells_of n8 0
                   have a1 : (w7.setCell ⟨w2.heap.size, 1, none⟩ (.slice N7 (k + 1) d7)).cell? ⟨w4.heap.size, 1, none⟩ = some (.bool x.bad) := cells_of n8 1
                   have b0 : (w7.setCell ⟨w2.heap.size, 1, none⟩ (.slice N7 (k + 1) d7)).cell? ⟨w.heap.size, 0, none⟩ = some (.slice A3 q.2.1.length c3) := cells_of s8.r 0
                   have b1 : (w7.setCell ⟨w2.heap.size, 1, none⟩ (.slice N7 (k + 1) d7)).cell? ⟨w.heap.size, 1, none⟩ = some (.bool q.2.2) := cells_of s8.r 1
                   have y0 : (w7.setCell ⟨w2.heap.size, 1, none⟩ (.slice N7 (k + 1) d7)).frozen? ⟨w.heap.size, 0, none⟩ = false := free_of s8.r 0
                   have y1 : (w7.setCell ⟨w2.heap.size, 1, none⟩ (.slice N7 (k + 1) d7)).frozen? ⟨w.heap.size, 1, none⟩ = false := free_of s8.r 1
                   have sz7 := hg7.size
                   have S8 := Lib.hid s8
                   have R8 := Lib.hid r8
                   have D8 := Lib.hid d8
                   have O8 := Lib.hid o8
                   clear d7' n7 s7 r7 g7 s8 n8 r8 d8 o8 ho7 hg7)
      have hts : s6.size ≤ l.length := by rw [← bl_len, HBS6.out]; omega
      go_roundw
      case rel =>
        have hg8 : (w7.setCell ⟨w2.heap.size, 1, none⟩ (.slice N7 (k + 1) d7)).grownBy (((w7.setCell ⟨w2.heap.size, 1, none⟩ (.slice N7 (k + 1) d7)).setCell ⟨w.heap.size, 0, none⟩ (.slice A4 x.left.length c4)).setCell ⟨w.heap.size, 1, none⟩ (.bool x.bad)) (some w.heap.size) := grown_tr (grown_set _ rfl _) (grown_set _ rfl _)
        refine ⟨k + 1, N7, d7, ws ++ [s6], A4, c4, by omega, by go_num, by rw [List.length_append, hwk]; rfl, by rw [bls_snoc, HBW.out, HBS6.out, HSQ.out], ?_, ?_, ?_, ?_, hm4, O8.out.set2 (by omega), ?_, fun t' ht' => by rcases List.mem_append.1 ht' with h | h; exact HZS.out t' h; simp at h; rw [h]; exact hts⟩
        · rw [Below.heap_setCell _ _ _ _ (by show w2.heap.size ≠ w.heap.size; omega), Below.heap_setCell _ _ _ _ (by show w2.heap.size ≠ w.heap.size; omega), D8.out]
          simp
        · rw [HSQ.out]
          exact S8.out.set _ _
        · rw [HSQ.out]
          exact R8.out.grown hg8 (fun g' t hs e => by have := HS.out g' t hs; injection e with e; omega)
        · rw [HSQ.out]
          exact hc4
        · have e1 : (((w7.setCell ⟨w2.heap.size, 1, none⟩ (.slice N7 (k + 1) d7)).setCell ⟨w.heap.size, 0, none⟩ (.slice A4 x.left.length c4)).setCell ⟨w.heap.size, 1, none⟩ (.bool x.bad)).heap.size = w7.heap.size := by simp [World.setCell]
          have e2 : ((w4.alloc (.cells #[.slice A4 x.left.length c4, .bool x.bad] 80)).alloc (.cells #[.string s6] 9)).heap.size = w4.heap.size + 2 := by simp
          omega
      case measure => simp [intOf]; omega
    · have ek : k = min m.num 9 := by omega
      have hrq : q = rq l bad := by
        unfold rq rn rrl
        rw [← HT.out, ← HM.out, ← ek, HQ.out]
      have hrrnm : rrnm l bad = if q.2.2 = false ∧ vl (bl r) (bls ws) = true then some (bl r, bls ws) else none := by
        unfold rrnm
        rw [← hrq, HBW.out, HBR.out]
        unfold rrl
        rw [← HT.out]
      have hv2 : ∀ t ∈ ws, t.size ≤ 9223372036854775807 := fun t ht => by have := HZS.out t ht; omega
      have hval := rvalid_c r N d ws _ wr HOR.out.sr (by omega) hv2 (by omega)
      rw [hwk] at hval
      have HRQ := Lib.hid hrq
      have HRR := Lib.hid hrrnm
      have hor' : m.num ≤ k ∨ (k < m.num ∧ 9 ≤ k) := by omega
      clear hv2 hrq hrrnm ek hlt
      cases hqb : q.2.2 with
      | true =>
        have hres : rrnm l bad = none := by rw [HRR.out, if_neg (fun h => by rw [hqb] at h; exact absurd h.1 (by decide))]
        have HRES := Lib.hid hres
        have HQB := Lib.hid hqb
        clear hres hval
        rw [hqb] at q1
        have hout := ST.out.out (.slice A3 q.2.1.length c3) (.bool q.2.2) (.string ⟨#[]⟩) (.slice none 0 0)
        have z0 : wr.cell? ⟨w.heap.size + 1, 0, none⟩ = some (.slice none 0 0) := cells_of ST.out.z 0
        have z1 : wr.cell? ⟨w.heap.size + 1, 1, none⟩ = some (.bool false) := cells_of ST.out.z 1
        have y0 : wr.frozen? ⟨w.heap.size + 1, 0, none⟩ = false := free_of ST.out.z 0
        have y1 : wr.frozen? ⟨w.heap.size + 1, 1, none⟩ = false := free_of ST.out.z 1
        have z2 : wr.cell? ⟨w.heap.size + 1 + 1, 0, none⟩ = some (.string ⟨#[]⟩) := cells_of ST.out.n 0
        have z3 : wr.cell? ⟨w.heap.size + 1 + 1, 1, none⟩ = some (.slice none 0 0) := cells_of ST.out.n 1
        have y2 : wr.frozen? ⟨w.heap.size + 1 + 1, 0, none⟩ = false := free_of ST.out.n 0
        have y3 : wr.frozen? ⟨w.heap.size + 1 + 1, 1, none⟩ = false := free_of ST.out.n 1
        have HOUT := Lib.hid hout
        clear hout
        rw [hqb] at HOUT
        clear hqb
        rcases hor' with ho | ⟨ho1, ho2⟩
        all_goals
          go_wp2_with fail
          have e0 := cells_of HOUT.out.1 0
          have e1 := cells_of HOUT.out.1 1
          have e2 := cells_of HOUT.out.2.1 0
          have e3 := cells_of HOUT.out.2.1 1
          refine bodyPost_ret (v := .tuple #[.agg #[.slice A3 q.2.1.length c3, .bool true], .agg #[.string ⟨#[]⟩, .slice none 0 0], .bool false]) (by simp [results, Tryz.results52, go_sem, e0, e1, e2, e3]) rfl ⟨A3, c3, _, ?_, by rw [HRES.out]; exact NmR.none _, HOUT.out.2.2⟩
          rw [HRES.out, ← HRQ.out, HQB.out]
          rfl
      | false =>
        by_cases hv : vl (bl r) (bls ws) = true
        · rw [hv] at hval
          have hres : rrnm l bad = some (bl r, bls ws) := by rw [HRR.out, if_pos ⟨hqb, hv⟩]
          have HRES := Lib.hid hres
          have HVAL := Lib.hid hval
          have HQB := Lib.hid hqb
          have HOL := Lib.hid HOR.out.le
          rw [hqb] at q1
          clear hres hval hv hqb
          rcases hor' with ho | ⟨ho1, ho2⟩
          all_goals
            go_wp2_with fail
            refine HVAL.out.mono ?_
            rintro e w5 ⟨rfl, hx5⟩
            have STv := Lib.hid (ST.out.ext hx5)
            have hd5 := hx5.get HDN.out
            have i0' : w5.cell? ⟨w.heap.size, 0, none⟩ = some (.slice A3 q.2.1.length c3) := cells_of STv.out.r 0
            have i1' : w5.cell? ⟨w.heap.size, 1, none⟩ = some (.bool false) := by have := cells_of STv.out.r 1; rw [HQB.out] at this; exact this
            have i2' : w5.cell? ⟨w2.heap.size, 0, none⟩ = some (.string r) := cells_of hd5 0
            have i3' : w5.cell? ⟨w2.heap.size, 1, none⟩ = some (.slice N k d) := cells_of hd5 1
            have j1 : w.heap.size + 1 ≠ w2.heap.size := by omega
            have j2 : w.heap.size + 1 + 1 ≠ w2.heap.size := by omega
            have j3 : w.heap.size + 1 ≠ w.heap.size := by omega
            have j4 : w.heap.size + 1 + 1 ≠ w.heap.size := by omega
            have hout := STv.out.out (.slice A3 q.2.1.length c3) (.bool q.2.2) (.string r) (.slice N k d)
            have z0 : w5.cell? ⟨w.heap.size + 1, 0, none⟩ = some (.slice none 0 0) := cells_of STv.out.z 0
            have z1 : w5.cell? ⟨w.heap.size + 1, 1, none⟩ = some (.bool false) := cells_of STv.out.z 1
            have y0 : w5.frozen? ⟨w.heap.size + 1, 0, none⟩ = false := free_of STv.out.z 0
            have y1 : w5.frozen? ⟨w.heap.size + 1, 1, none⟩ = false := free_of STv.out.z 1
            have z2 : w5.cell? ⟨w.heap.size + 1 + 1, 0, none⟩ = some (.string ⟨#[]⟩) := cells_of STv.out.n 0
            have z3 : w5.cell? ⟨w.heap.size + 1 + 1, 1, none⟩ = some (.slice none 0 0) := cells_of STv.out.n 1
            have y2 : w5.frozen? ⟨w.heap.size + 1 + 1, 0, none⟩ = false := free_of STv.out.n 0
            have y3 : w5.frozen? ⟨w.heap.size + 1 + 1, 1, none⟩ = false := free_of STv.out.n 1
            have HOUT := Lib.hid hout
            clear hout
            have hoz : OwnS ((((w5.setCell ⟨w.heap.size + 1, 0, none⟩ (.slice A3 q.2.1.length c3)).setCell ⟨w.heap.size + 1, 1, none⟩ (.bool q.2.2)).setCell ⟨w.heap.size + 2, 0, none⟩ (.string r)).setCell ⟨w.heap.size + 2, 1, none⟩ (.slice N k d)) 9 w3.heap.size N d ws := ((HOR.out.ext hx5).set2 (g := w.heap.size + 1) (by omega)).set2 (g := w.heap.size + 2) (by omega)
            rw [HQB.out] at HOUT hoz
            have HOZ := Lib.hid hoz
            clear hx5 hd5 hoz HVAL
            go_wp2_with fail
            go_region_held3 (fun W => W.cell? ⟨w.heap.size, 0, none⟩ = some (.slice A3 q.2.1.length c3) ∧ W.cell? ⟨w.heap.size, 1, none⟩ = some (.bool false) ∧ W.cell? ⟨w2.heap.size, 0, none⟩ = some (.string r) ∧ W.cell? ⟨w2.heap.size, 1, none⟩ = some (.slice N k d)) (go_keep) (fail)
            all_goals
              go_wp2_with fail
              have e0 := cells_of HOUT.out.1 0
              have e1 := cells_of HOUT.out.1 1
              have e2 := cells_of HOUT.out.2.1 0
              have e3 := cells_of HOUT.out.2.1 1
              refine bodyPost_ret (v := .tuple #[.agg #[.slice A3 q.2.1.length c3, .bool false], .agg #[.string r, .slice N k d], .bool true]) (by simp [results, Tryz.results52, go_sem, e0, e1, e2, e3]) rfl ⟨A3, c3, _, ?_, ⟨r, N, d, ws, by rw [hwk], (HOZ.out.ext (Ext.drew _)).sr.more (fun _ _ h => h.2.1), HOL.out.1, HOL.out.2, by rw [HRES.out]; rfl, by rw [HRES.out]; rfl⟩, HOUT.out.2.2.tr (Ext.drew _)⟩
              rw [HRES.out, ← HRQ.out, HQB.out]
              rfl
        · have hv' : vl (bl r) (bls ws) = false := by simpa using hv
          rw [hv'] at hval
          have hres : rrnm l bad = none := by rw [HRR.out, if_neg (fun h => hv h.2)]
          have HRES := Lib.hid hres
          have HVAL := Lib.hid hval
          have HQB := Lib.hid hqb
          rw [hqb] at q1
          clear hres hval hv hv' hqb
          rcases hor' with ho | ⟨ho1, ho2⟩
          all_goals
            go_wp2_with fail
            refine HVAL.out.mono ?_
            rintro e w5 ⟨rfl, hx5⟩
            have STv := Lib.hid (ST.out.ext hx5)
            have i0' : w5.cell? ⟨w.heap.size, 0, none⟩ = some (.slice A3 q.2.1.length c3) := cells_of STv.out.r 0
            have i1' : w5.cell? ⟨w.heap.size, 1, none⟩ = some (.bool false) := by have := cells_of STv.out.r 1; rw [HQB.out] at this; exact this
            have hout := STv.out.out (.slice A3 q.2.1.length c3) (.bool q.2.2) (.string ⟨#[]⟩) (.slice none 0 0)
            have z0 : w5.cell? ⟨w.heap.size + 1, 0, none⟩ = some (.slice none 0 0) := cells_of STv.out.z 0
            have z1 : w5.cell? ⟨w.heap.size + 1, 1, none⟩ = some (.bool false) := cells_of STv.out.z 1
            have y0 : w5.frozen? ⟨w.heap.size + 1, 0, none⟩ = false := free_of STv.out.z 0
            have y1 : w5.frozen? ⟨w.heap.size + 1, 1, none⟩ = false := free_of STv.out.z 1
            have z2 : w5.cell? ⟨w.heap.size + 1 + 1, 0, none⟩ = some (.string ⟨#[]⟩) := cells_of STv.out.n 0
            have z3 : w5.cell? ⟨w.heap.size + 1 + 1, 1, none⟩ = some (.slice none 0 0) := cells_of STv.out.n 1
            have y2 : w5.frozen? ⟨w.heap.size + 1 + 1, 0, none⟩ = false := free_of STv.out.n 0
            have y3 : w5.frozen? ⟨w.heap.size + 1 + 1, 1, none⟩ = false := free_of STv.out.n 1
            have HOUT := Lib.hid hout
            clear hout
            rw [HQB.out] at HOUT
            clear hx5 HVAL
            go_wp2_with fail
            have e0 := cells_of HOUT.out.1 0
            have e1 := cells_of HOUT.out.1 1
            have e2 := cells_of HOUT.out.2.1 0
            have e3 := cells_of HOUT.out.2.1 1
            refine bodyPost_ret (v := .tuple #[.agg #[.slice A3 q.2.1.length c3, .bool false], .agg #[.string ⟨#[]⟩, .slice none 0 0], .bool false]) (by simp [results, Tryz.results52, go_sem, e0, e1, e2, e3]) rfl ⟨A3, c3, _, ?_, by rw [HRES.out]; exact NmR.none _, HOUT.out.2.2⟩
            rw [HRES.out, ← HRQ.out, HQB.out]
            rfl
end Go.Proofs.YtagegigffohcbaaGreatDoor

namespace Go.Proofs.YtagegigffohcbaaGreatDoor
open Go.RowKit

theorem st_bad {k : Int} {l : List UInt8} {bad : Bool} (h : (st k l bad).bad = true) : st k l bad = .no := by
  unfold st at h ⊢
  split
  · rfl
  · rename_i hn
    rw [if_neg hn] at h
    cases h
theorem wd_nil : wd [] = false := rfl
theorem rdn_bad {l : List UInt8} {bad : Bool} {r : List UInt8} : ∀ n, vl r (rdn l bad n).1 = true → (rdn l bad n).2.2 = false := by
  intro n hv
  obtain ⟨h1, _, h3, _⟩ := vl_parts hv
  cases n with
  | zero => rw [rdn_zero] at h1; simp at h1
  | succ k =>
    rw [rdn_succ] at h3 ⊢
    cases hb : (st 1 (rdn l bad k).2.1 (rdn l bad k).2.2).bad with
    | false => rfl
    | true =>
      have h4 := h3 (st 1 (rdn l bad k).2.1 (rdn l bad k).2.2).got (by simp)
      rw [st_bad hb] at h4
      exact absurd h4 (by decide)
theorem vl_long {r : List UInt8} {ps : List (List UInt8)} (h : 8 < ps.length) : vl r ps = false := by
  cases hv : vl r ps with
  | false => rfl
  | true => have := (vl_parts hv).2.1; omega
/-- both read the same -/
theorem rnm_rrnm (l : List UInt8) (bad : Bool) : rrnm l bad = rnm l bad ∧ ((rnm l bad).isSome = true → (rq l bad).2.1 = (rp l bad).2.1) := by
  by_cases h9 : (rn l bad).num ≤ 9
  · have e : rq l bad = rp l bad := by
      unfold rq rp
      rw [Nat.min_eq_left h9]
    refine ⟨?_, fun _ => by rw [e]⟩
    unfold rrnm rnm
    rw [e]
    by_cases hv : vl (rrl l bad).got (rp l bad).1 = true
    · rw [if_pos ⟨rdn_bad _ hv, hv⟩, if_pos hv]
    · rw [if_neg (fun h => hv h.2), if_neg hv]
  · have l1 : (rp l bad).1.length = (rn l bad).num := (rdn_len _ _ _).2
    have l2 : (rq l bad).1.length = min (rn l bad).num 9 := (rdn_len _ _ _).2
    have v1 : vl (rrl l bad).got (rp l bad).1 = false := vl_long (by omega)
    have v2 : vl (rrl l bad).got (rq l bad).1 = false := vl_long (by omega)
    unfold rrnm rnm
    rw [v1, v2]
    simp

theorem nb1_len {x : Nat} (h : x < 256) (z : List UInt8) : be ((nb 1 x ++ z).take 1) = x ∧ (nb 1 x ++ z).drop 1 = z := by
  have hl := nb_length 1 x
  refine ⟨?_, ?_⟩
  · rw [List.take_append_of_le_length (by omega), List.take_of_length_le (by omega)]
    exact be_nb 1 x (by simpa using h)
  · rw [List.drop_append_of_le_length (by omega), List.drop_of_length_le (by omega)]
    rfl
theorem st_fl {p : List UInt8} (h : p.length < 256) (z : List UInt8) : st 1 (fl p ++ z) false = ⟨p, 0, z, false⟩ := by
  have hl := nb_length 1 p.length
  have e : fl p ++ z = nb 1 p.length ++ (p ++ z) := by simp [fl]
  obtain ⟨h1, h2⟩ := nb1_len h (p ++ z)
  rw [e]
  unfold st
  rw [show (1 : Int).toNat = 1 from rfl, h1, h2, if_neg]
  · simp
  · simp only [List.length_append]
    intro hh
    rcases hh with hh | hh | hh | hh
    · cases hh
    · exact hh ⟨by decide, by decide⟩
    · omega
    · omega
theorem nm_nb {x : Nat} (h : x < 256) (z : List UInt8) : nm 1 (nb 1 x ++ z) false = ⟨[], x, z, false⟩ := by
  have hl := nb_length 1 x
  obtain ⟨h1, h2⟩ := nb1_len h z
  unfold nm
  rw [show (1 : Int).toNat = 1 from rfl, h1, h2, if_neg]
  simp only [List.length_append]
  intro hh
  rcases hh with hh | hh | hh
  · cases hh
  · exact hh ⟨by decide, by decide⟩
  · omega
theorem rdn_fl (ps : List (List UInt8)) (hp : ∀ p ∈ ps, p.length < 256) (z : List UInt8) : ∀ k, k ≤ ps.length → rdn (ps.flatMap fl ++ z) false k = (ps.take k, (ps.drop k).flatMap fl ++ z, false) := by
  intro k
  induction k with
  | zero => intro _; simp [rdn_zero]
  | succ k ih =>
    intro hk
    rw [rdn_succ, ih (by omega)]
    simp only
    have e : (ps.drop k).flatMap fl ++ z = fl ps[k] ++ ((ps.drop (k + 1)).flatMap fl ++ z) := by
      rw [List.drop_eq_getElem_cons (show k < ps.length by omega), List.flatMap_cons, List.append_assoc]
    rw [e, st_fl (hp _ (List.getElem_mem _))]
    simp only
    rw [List.take_succ_eq_append_getElem (show k < ps.length by omega)]
/-- a name's bytes are read back -/
theorem rnm_nbs {r : List UInt8} {ps : List (List UInt8)} (h : vl r ps = true) (z : List UInt8) : rnm (nbs r ps ++ z) false = some (r, ps) ∧ (rp (nbs r ps ++ z) false).2 = (z, false) := by
  obtain ⟨h1, h2, h3, h4⟩ := vl_parts h
  have e : nbs r ps ++ z = fl r ++ (nb 1 ps.length ++ (ps.flatMap fl ++ z)) := by simp [nbs]
  have er : rrl (nbs r ps ++ z) false = ⟨r, 0, nb 1 ps.length ++ (ps.flatMap fl ++ z), false⟩ := by
    rw [e, rrl, st_fl (by have := (wd_len h4).2; omega)]
  have en : rn (nbs r ps ++ z) false = ⟨[], ps.length, ps.flatMap fl ++ z, false⟩ := by
    rw [rn, er]
    exact nm_nb (by omega) _
  have ep : rp (nbs r ps ++ z) false = (ps, z, false) := by
    rw [rp, en]
    simp only
    rw [rdn_fl ps (fun p hp => by have := (wd_len (h3 p hp)).2; omega) z ps.length (Nat.le_refl _)]
    simp
  refine ⟨?_, by rw [ep]⟩
  unfold rnm
  rw [er, ep, if_pos h]
theorem rnm_nil : rnm [] false = none := rfl
theorem prs_nil : prs [] = none := by
  unfold prs
  rw [show pp (([] : List UInt8).length + 1) [] = none by rw [pp, nx_nil]; simp]
theorem txt_vl {r : List UInt8} {ps : List (List UInt8)} (h : vl r ps = true) : prs (txt r ps) = some (r, ps) := by
  rw [txt, if_pos h]
  exact prs_full h
theorem txt_no {r : List UInt8} {ps : List (List UInt8)} (h : vl r ps = false) : txt r ps = [] := by
  rw [txt, if_neg (by rw [h]; decide)]

theorem bls_ext {ss tt : List ByteArray} (h : bls ss = bls tt) : ss = tt := by
  induction ss generalizing tt with
  | nil =>
    cases tt with
    | nil => rfl
    | cons t tt => cases h
  | cons s ss ih =>
    cases tt with
    | nil => cases h
    | cons t tt =>
      simp only [bls, List.map_cons, List.cons.injEq] at h
      rw [bl_ext h.1, ih (tt := tt) h.2]
theorem sm_t {s t : ByteArray} {ss tt : List ByteArray} (h1 : bl s = bl t) (h2 : bls ss = bls tt) : sm s ss t tt = true := by
  rw [bl_ext h1, bls_ext h2]
  simp [sm]
theorem sm_eq {s t : ByteArray} {ss tt : List ByteArray} (h : sm s ss t tt = true) : s = t ∧ ss = tt := by simpa [sm] using h
/-- no name's bytes begin with another's -/
theorem nbs_apart {r r' : List UInt8} {ps ps' : List (List UInt8)} (h : vl r ps = true) (h' : vl r' ps' = true) {n : Nat} (hn : n = min (nbs r ps).length (nbs r' ps').length) (e : (nbs r ps).take n = (nbs r' ps').take n) : r = r' ∧ ps = ps' := by
  have k1 := (rnm_nbs h []).1
  have k2 := (rnm_nbs h' []).1
  rw [List.append_nil] at k1 k2
  by_cases hl : (nbs r ps).length ≤ (nbs r' ps').length
  · rw [Nat.min_eq_left hl] at hn
    subst hn
    rw [List.take_length] at e
    have k3 := (rnm_nbs h ((nbs r' ps').drop (nbs r ps).length)).1
    have e2 : nbs r ps ++ (nbs r' ps').drop (nbs r ps).length = nbs r' ps' := by
      conv => lhs; arg 1; rw [e]
      exact List.take_append_drop _ _
    rw [e2] at k3
    rw [k2] at k3
    simp only [Option.some.injEq, Prod.mk.injEq] at k3
    exact ⟨k3.1.symm, k3.2.symm⟩
  · rw [Nat.min_eq_right (by omega)] at hn
    subst hn
    rw [List.take_length] at e
    have k3 := (rnm_nbs h' ((nbs r ps).drop (nbs r' ps').length)).1
    have e2 : nbs r' ps' ++ (nbs r ps).drop (nbs r' ps').length = nbs r ps := by
      conv => lhs; arg 1; rw [← e]
      exact List.take_append_drop _ _
    rw [e2] at k3
    rw [k1] at k3
    simp only [Option.some.injEq, Prod.mk.injEq] at k3
    exact k3
end Go.Proofs.YtagegigffohcbaaGreatDoor

namespace Go.Proofs.YtagegigffohcbaaGreatDoor
open Go.ChangeShapes Go.WideShapes Go.RowKit Go.ChangeShapes

/-- a value that is a name, as it came in -/
def IsName (w : World) (v : Value) (s : ByteArray) (A : Option Addr) (c : Nat) (ss : List ByteArray) : Prop :=
  v = .agg #[.string s, .slice A ss.length c] ∧ SR w (fun g _ => g < w.heap.size) A ss ∧ ss.length ≤ c ∧ c ≤ maxLen ∧ s.size ≤ maxLen ∧ ∀ t ∈ ss, t.size ≤ maxLen

theorem strs_sr {w : World} {a : Addr} {len : Nat} {ss : List ByteArray} (hl : len ≤ ss.length) (hc : ∀ i, i < ss.length → w.cell? (a.add i) = some (.string (ss.getD i ByteArray.empty))) : SR w (fun g _ => g < w.heap.size) (some a) (ss.take len) := by
  intro hp
  rw [List.length_take] at hp
  have h0 := hc 0 (by omega)
  rw [addr_add0] at h0
  cases hs : a.spot with
  | some q =>
    have : a.spot.isSome := by simp [hs]
    unfold World.cell? at h0
    split at h0
    · rw [if_pos this] at h0; cases h0
    · cases h0
  | none =>
    cases hh : w.heap[a.block]? with
    | none => simp [World.cell?, hh] at h0
    | some o =>
      cases o with
      | cells cs t fr =>
        refine ⟨a.block, a.off, cs, t, fr, ?_, hh, lt_of_some hh, fun j s hj => ?_⟩
        · cases a; simp_all
        · have hjl : j < len := by
            have := (List.getElem?_eq_some_iff.1 hj).1
            rw [List.length_take] at this
            omega
          rw [List.getElem?_take, if_pos hjl] at hj
          have hcj := hc j (by omega)
          rw [(addr_add a j).2 hs, cells_of hh] at hcj
          rw [hcj]
          have e : ss.getD j ByteArray.empty = s := by rw [List.getD_eq_getElem?_getD, hj]; rfl
          rw [e]
      | _ => simp [World.cell?, hh] at h0

theorem open_name {H : Type} {enc : TypeId × Value → H} {P : Program} {w : World} {base : Nat} {held : Bool} {r : Reach} {b0 : Nat} {t e : TypeId} {f0 f1 : Field} {v : Value} {d : DataW H} {p : List MemPlace}
    (ht : P.underlying t = some (.struct #[f0, f1])) (h0 : P.underlying f0.type = some .string) (h1 : P.underlying f1.type = some (.slice e)) (he : P.underlying e = some .string) (hce : P.cellsOf e = 1)
    (o0 : f0.offset = 0) (o1 : f1.offset = 1) (c0 : P.cellsOf f0.type = 1) (c1 : P.cellsOf f1.type = 1) (ct : P.cellsOf t = 2)
    (hval : Value.okWide P w r b0 t v) (h : DataW.Trod enc P w base (fun _ => true) held t v d p) : ∃ s A c ss, IsName w v s A c ss := by
  unfold Value.okWide at hval
  rw [ht] at hval
  obtain ⟨cs, rfl, hsz, _⟩ := hval
  obtain ⟨fuel, hf⟩ := h
  obtain ⟨y0, y1, n, _, _, hy0, hy1⟩ := trod_struct2 ht hf
  rw [ct] at hsz
  obtain ⟨l, hcl⟩ : ∃ l, cs = l.toArray := ⟨cs.toList, by simp⟩
  subst hcl
  have hl2 : l.length = 2 := by simpa using hsz
  match l, hl2 with
  | [a, b], _ =>
    rw [o0, c0] at hy0
    rw [o1, c1] at hy1
    have ea : ((Value.agg [a, b].toArray).cells.toList.drop 0).take 1 = [a] := rfl
    have eb : ((Value.agg [a, b].toArray).cells.toList.drop 1).take 1 = [b] := rfl
    rw [ea] at hy0
    rw [eb] at hy1
    obtain ⟨s, hs, _, hsm⟩ := DataW.trod_string h0 hy0
    simp only [List.cons.injEq, and_true] at hs
    subst hs
    rcases open_strings h1 he hce hy1 with ⟨hcs, _⟩ | ⟨x, len, cap, ss, hcs, _, hl, hm, hz, _, hcell, hws⟩
    · simp only [List.cons.injEq, and_true] at hcs
      subst hcs
      exact ⟨s, none, 0, [], rfl, SR.nil _ _ _, Nat.le_refl _, by simp [maxLen], hsm, by simp⟩
    · simp only [List.cons.injEq, and_true] at hcs
      subst hcs
      have hz' : ss.length = cap := by simpa using hz
      have hln : (ss.take len).length = len := by rw [List.length_take]; omega
      exact ⟨s, some x, cap, ss.take len, by rw [hln], strs_sr (by omega) hcell, by omega, hm, hsm, fun t ht => hws t (List.mem_of_mem_take ht)⟩
end Go.Proofs.YtagegigffohcbaaGreatDoor
