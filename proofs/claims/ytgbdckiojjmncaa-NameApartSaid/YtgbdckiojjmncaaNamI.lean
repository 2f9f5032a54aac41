/-
  Names read from bytes, by the package.
-/
import Derived.Test.YtgbdckiojjmncaaNamG
import Derived.Test.YtgbdckiojjmncaaNamH
namespace Go.Proofs.Ytgbdckiojjmncaa
open Go.RowKit
set_option linter.unusedSimpArgs false
set_option linter.unnecessarySimpa false

/-- so many strings read one after another -/
def rdn (l : List UInt8) (bad : Bool) : Nat → List (List UInt8) × List UInt8 × Bool
  | 0 => ([], l, bad)
  | k + 1 => ((rdn l bad k).1 ++ [(st 1 (rdn l bad k).2.1 (rdn l bad k).2.2).got], (st 1 (rdn l bad k).2.1 (rdn l bad k).2.2).left, (st 1 (rdn l bad k).2.1 (rdn l bad k).2.2).bad)
theorem rdn_zero (l : List UInt8) (bad : Bool) : rdn l bad 0 = ([], l, bad) := rfl
theorem rdn_succ (l : List UInt8) (bad : Bool) (k : Nat) : rdn l bad (k + 1) = ((rdn l bad k).1 ++ [(st 1 (rdn l bad k).2.1 (rdn l bad k).2.2).got], (st 1 (rdn l bad k).2.1 (rdn l bad k).2.2).left, (st 1 (rdn l bad k).2.1 (rdn l bad k).2.2).bad) := rfl
theorem rdn_len (l : List UInt8) (bad : Bool) (k : Nat) : (rdn l bad k).2.1.length ≤ l.length ∧ (rdn l bad k).1.length = k := by
  induction k with
  | zero => exact ⟨Nat.le_refl _, rfl⟩
  | succ k ih =>
    rw [rdn_succ]
    have := (st_len 1 (rdn l bad k).2.1 (rdn l bad k).2.2).2
    exact ⟨by show (st 1 _ _).left.length ≤ _; omega, by show ((rdn l bad k).1 ++ [_]).length = _; rw [List.length_append, ih.2]; rfl⟩
theorem nm1_lt (l : List UInt8) (bad : Bool) : (nm 1 l bad).num < 256 := by
  unfold nm Tk.no
  split
  · simp
  · have h1 := be_lt (l.take (1 : Int).toNat)
    have h2 : 256 ^ (l.take (1 : Int).toNat).length ≤ 256 ^ 1 := Nat.pow_le_pow_right (by omega) (by rw [List.length_take]; exact Nat.min_le_left _ _)
    show be (l.take (1 : Int).toNat) < 256
    omega
/-- the realm that is read, and the reader then -/
def rr (l : List UInt8) (bad : Bool) : Tk := st 1 l bad
/-- the number of parts that is read, and the reader then -/
def rn (l : List UInt8) (bad : Bool) : Tk := nm 1 (rr l bad).left (rr l bad).bad
/-- the parts that are read, and the reader then -/
def rp (l : List UInt8) (bad : Bool) : List (List UInt8) × List UInt8 × Bool := rdn (rn l bad).left (rn l bad).bad (rn l bad).num
/-- the name that is read -/
def rnm (l : List UInt8) (bad : Bool) : Option (List UInt8 × List (List UInt8)) := if vl (rr l bad).got (rp l bad).1 = true then some ((rr l bad).got, (rp l bad).1) else none

theorem Rd.inside {w : World} {S : Nat → TypeId → Prop} {g : Nat} {l : List UInt8} {bad : Bool} (h : Rd w S g l bad) : Rd w (fun k t => S k t ∧ k < w.heap.size) g l bad := by
  obtain ⟨A, c, hg, hr, hc, hm⟩ := h
  exact ⟨A, c, hg, hr.inside, hc, hm⟩
theorem Rd.more {w : World} {S T : Nat → TypeId → Prop} {g : Nat} {l : List UInt8} {bad : Bool} (h : Rd w S g l bad) (hS : ∀ k t, S k t → T k t) : Rd w T g l bad := by
  obtain ⟨A, c, hg, hr, hc, hm⟩ := h
  exact ⟨A, c, hg, hr.more hS, hc, hm⟩
theorem Rd.lt {w : World} {S : Nat → TypeId → Prop} {g : Nat} {l : List UInt8} {bad : Bool} (h : Rd w S g l bad) : g < w.heap.size := by
  obtain ⟨cs, hg⟩ := h.at_
  exact lt_of_some hg

set_option maxRecDepth 100000 in
set_option maxHeartbeats 4000000 in
theorem read_c0 {S : Nat → TypeId → Prop} {g : Nat} {l : List UInt8} {bad : Bool} (w : World) (h : Rd w S g l bad) (hS : NoRd S) (hS2 : ∀ k t, S k t → k < w.heap.size) (hl : l.length ≤ 140737488355328) :
    Calls Try.prog 16 #[.pointer (some ⟨g, 0, none⟩)] w fun e w' => ∃ v, e = .returned (.tuple #[v, .bool (rnm l bad).isSome]) ∧ NmR w' v (rnm l bad) ∧ Rd w' S g (rp l bad).2.1 (rp l bad).2.2 ∧ w.grownBy w' (some g) := by
  obtain ⟨i0, hi0, hz0, hz1, hz2⟩ := info_parts' info_str
  have hgl := h.lt
  have H := Lib.hid (h.ext (Ext.alloc w (.cells #[.string ⟨#[]⟩, .slice none 0 0] 24)))
  have HS2 := Lib.hid hS2
  clear h hS2
  go_enter Try.func16, Try.ntmps16
  go_wp2_with fail
  refine (str_any 1 _ H.out hS hl).mono ?_
  rintro e w1 ⟨A, c, rfl, hoA, hrd1, hg1⟩
  have hst := (st_len 1 l bad).1
  have hst2 := (st_len 1 l bad).2
  obtain ⟨t, ht⟩ : ∃ t, t = st 1 l bad := ⟨_, rfl⟩
  rw [← ht] at hoA hrd1 hst hst2 ⊢
  have hcv := conv_back c t.got.length hoA.rb rfl
  obtain ⟨r, hr⟩ : ∃ r : ByteArray, r = ⟨t.got.toArray⟩ := ⟨_, rfl⟩
  rw [← hr] at hcv
  have hbr : bl r = t.got := by rw [hr, bl_mk]
  have hrs : r.size = t.got.length := by rw [← bl_len, hbr]
  have hd1 := grown_get hg1 (new_of w (.cells #[.string ⟨#[]⟩, .slice none 0 0] 24)) (fun e => by injection e with e; omega)
  have hgw1 : w.grownBy w1 (some g) := grown_tr ((Ext.alloc _ _).grown _) hg1
  have HT := Lib.hid ht
  have HBR := Lib.hid hbr
  have HD1 := Lib.hid hd1
  have HG1 := Lib.hid hgw1
  have HRD1 := Lib.hid (hrd1.ext (Ext.alloc w1 (.cells #[.string r, .slice none 0 0] 24)))
  have hl4 := lt_of_some hd1
  clear ht hr hbr hoA hrd1 hg1 hd1 hgw1
  go_wp2_with fail
  refine (num_any 1 _ HRD1.out hS).mono ?_
  rintro e w2 ⟨rfl, hrd2, hg2⟩
  have hnl := nm_len 1 t.left t.bad
  have hnt := nm1_lt t.left t.bad
  obtain ⟨m, hm⟩ : ∃ m, m = nm 1 t.left t.bad := ⟨_, rfl⟩
  rw [← hm] at hrd2 hnl hnt ⊢
  have hdn := grown_get hg2 (new_of w1 (.cells #[.string r, .slice none 0 0] 24)) (fun e => by injection e with e; omega)
  have hd2 := grown_get hg2 ((Ext.alloc w1 (.cells #[.string r, .slice none 0 0] 24)).get HD1.out) (fun e => by injection e with e; omega)
  have hgw2 : w.grownBy w2 (some g) := grown_tr HG1.out (grown_tr ((Ext.alloc _ _).grown _) hg2)
  have hl5 := lt_of_some hdn
  have HM := Lib.hid hm
  have HDN := Lib.hid hdn
  have HD2 := Lib.hid hd2
  have HG2 := Lib.hid hgw2
  have HRD2 := Lib.hid hrd2
  clear hm hrd2 hg2 hdn hd2 hgw2
  go_wp2_with fail
  go_loopw [11] (fun i wr => ∃ (k : Nat) (N : Option Addr) (d : Nat) (ws : List ByteArray), k ≤ m.num ∧ i = .int .u64 k ∧ ws.length = k ∧ bls ws = (rdn m.left m.bad k).1 ∧ wr.heap[w1.heap.size]? = some (.cells #[.string r, .slice N k d] 24 (0, 0)) ∧
    wr.heap[w.heap.size]? = some (.cells #[.string ⟨#[]⟩, .slice none 0 0] 24 (0, 0)) ∧ OwnS wr 9 w2.heap.size N d ws ∧ Rd wr S g (rdn m.left m.bad k).2.1 (rdn m.left m.bad k).2.2 ∧ w.grownBy wr (some g) ∧ w2.heap.size ≤ wr.heap.size ∧ ∀ t ∈ ws, t.size ≤ l.length) (fun i _ => m.num - (intOf i).toNat)
  case atStart => exact ⟨0, none, 0, [], Nat.zero_le _, rfl, rfl, rfl, HDN.out, HD2.out, OwnS.nil _ _ _, HRD2.out, HG2.out, Nat.le_refl _, by simp⟩
  case round =>
    obtain ⟨k, N, d, ws, hk, rfl, hwk, hbw, hdn, hd2, hor, hrd, hgw, hszr, hzs⟩ := hrel
    have c0 : wr.cell? ⟨w1.heap.size, 0, none⟩ = some (.string r) := cells_of hdn 0
    have c1 : wr.cell? ⟨w1.heap.size, 1, none⟩ = some (.slice N k d) := cells_of hdn 1
    have HBW := Lib.hid hbw
    have HDR := Lib.hid hdn
    have HD2R := Lib.hid hd2
    have HOR := Lib.hid hor
    have HRD := Lib.hid hrd
    have HGW := Lib.hid hgw
    have HZS := Lib.hid hzs
    clear hbw hdn hd2 hor hrd hgw hzs
    by_cases hlt : k < m.num
    · have hq := (rdn_len m.left m.bad k).1
      have hsq := rdn_succ m.left m.bad k
      obtain ⟨q, hqq⟩ : ∃ q, q = rdn m.left m.bad k := ⟨_, rfl⟩
      rw [← hqq] at hq hsq
      have HQ := Lib.hid hqq
      have hrdq : Rd wr.drew S g q.2.1 q.2.2 := by rw [hqq]; exact HRD.out.ext (Ext.drew _)
      have hsl := (st_len 1 q.2.1 q.2.2).1
      obtain ⟨x, hx⟩ : ∃ x, x = st 1 q.2.1 q.2.2 := ⟨_, rfl⟩
      rw [← hx] at hsq hsl
      have HX := Lib.hid hx
      have HSQ := Lib.hid hsq
      have HRDQ := Lib.hid hrdq
      have hne := HOR.out.ge
      rw [hwk] at hne
      have HNE := Lib.hid hne
      clear hqq hsq hrdq hx hne
      go_wp2_with fail
      refine wp_region_held_drew (S := fun _ => True) (by kernel_rfl) trivial (fun _ => ?_)
      refine wpAnyH_take (i := 0) (v := ?_) rfl (by kernel_rfl) (by kernel_rfl) (by kernel_rfl) (fun _ _ _ h => h) (Or.inl ⟨by rfl, ?_⟩) trivial ?_
      rotate_left 1
      · intro w hSw
        go_simp
        all_goals with_reducible rfl
      try simp only [Act.put, List.setIfInBounds_toArray, List.set_cons_zero, List.set_cons_succ]
      refine wpAnyH_take (i := 2) (v := ?_) rfl (by kernel_rfl) (by kernel_rfl) (by kernel_rfl) (fun _ _ _ h => h) (Or.inl ⟨by rfl, ?_⟩) trivial ?_
      rotate_left 1
      · intro w hSw
        go_simp
        all_goals with_reducible rfl
      try simp only [Act.put, List.setIfInBounds_toArray, List.set_cons_zero, List.set_cons_succ]
      refine wpAnyH_ready (rs := [1, 3]) (by kernel_rfl) (by simp) ?_
      refine AllReadyH.cons rfl (fun K hK => ?_) ?_
      · go_simp
        refine hK.out _ _ trivial (fun _ => ?_)
        clear hK K
        try simp only [Act.put, List.setIfInBounds_toArray, List.set_cons_zero, List.set_cons_succ]
        refine wpAnyH_ready (rs := [3]) (by kernel_rfl) (by simp) ?_
        refine AllReadyH.cons rfl (fun K hK => ?_) ?_
        · go_simp
          refine (str_any 1 wr.drew HRDQ.out hS (by omega)).mono ?_
          rintro e w6 ⟨B, b, rfl, hoB, hrd6, hg6⟩
          rw [← HX.out] at hoB hrd6 ⊢
          have hcv6 := conv_back b x.got.length hoB.rb rfl
          obtain ⟨s6, hs6⟩ : ∃ s6 : ByteArray, s6 = ⟨x.got.toArray⟩ := ⟨_, rfl⟩
          rw [← hs6] at hcv6
          have hbs6 : bl s6 = x.got := by rw [hs6, bl_mk]
          have hg6' : wr.grownBy w6 (some g) := grown_tr ((Ext.drew _).grown _) hg6
          have d6 := grown_get hg6' HDR.out (fun e => by injection e with e; omega)
          have z6 := grown_get hg6' HD2R.out (fun e => by injection e with e; omega)
          have c6 : w6.cell? ⟨w1.heap.size, 1, none⟩ = some (.slice N k d) := cells_of d6 1
          have c6a : ∀ o, (w6.alloc o).cell? ⟨w1.heap.size, 1, none⟩ = some (.slice N k d) := fun o => by rw [World.cell?_alloc_some _ _ _ (by rw [c6]; rfl)]; exact c6
          have o6 : OwnS w6 9 w2.heap.size N d ws := HOR.out.keep fun q' o _ hb hh => grown_get hg6' hh (fun e => by injection e with e; omega)
          have sz6 := hg6'.size
          have HBS6 := Lib.hid hbs6
          have HRD6 := Lib.hid (hrd6.ext (Ext.alloc w6 (.cells #[.string s6] 9)))
          have HG6 := Lib.hid (grown_tr HGW.out (grown_tr hg6' ((Ext.alloc w6 (.cells #[.string s6] 9)).grown _)))
          have D6 := Lib.hid ((Ext.alloc w6 (.cells #[.string s6] 9)).get d6)
          have Z6 := Lib.hid ((Ext.alloc w6 (.cells #[.string s6] 9)).get z6)
          have O6 := Lib.hid (o6.ext (Ext.alloc w6 (.cells #[.string s6] 9)))
          clear hs6 hbs6 hg6 hg6' d6 z6 o6 hoB hrd6
          go_wp2_with fail
          refine hK.out _ _ trivial (fun _ => ?_)
          clear hK K
          try simp only [Act.put, List.setIfInBounds_toArray, List.set_cons_zero, List.set_cons_succ]
          refine wpAnyH_ready (rs := [4]) (by kernel_rfl) (by simp) ?_
          refine AllReadyH.cons rfl (fun K hK => ?_) ?_
          · go_simp
            refine hK.out _ _ trivial (fun _ => ?_)
            clear hK K
            try simp only [Act.put, List.setIfInBounds_toArray, List.set_cons_zero, List.set_cons_succ]
            refine wpAnyH_ready (rs := [5]) (by kernel_rfl) (by simp) ?_
            refine AllReadyH.cons rfl (fun K hK => ?_) ?_
            · go_simp
              refine hK.out _ _ trivial (fun _ => ?_)
              clear hK K
              try simp only [Act.put, List.setIfInBounds_toArray, List.set_cons_zero, List.set_cons_succ]
              refine wpAnyH_ready (rs := [6]) (by kernel_rfl) (by simp) ?_
              refine AllReadyH.cons rfl (fun K hK => ?_) ?_
              · refine step_append_str1 _ (by rfl) _ _ _ (by rfl) w2.heap.size 9 i0 Try.underlying22 hi0 hz0 hz1 hz2 N d ws k (by rfl) hwk O6.out w6.heap.size s6 (by rfl) (cells_of (new_of _ _) 0) (by omega) (by simp; omega) ?_
                intro N7 d7 w7 ho7 hg7
                have d7' := grown_get hg7 D6.out (fun e => by have := HNE.out _ e; omega)
                have z7 := grown_get hg7 Z6.out (fun e => by have := HNE.out _ e; omega)
                have e7 : w7.cell? ⟨w1.heap.size, 1, none⟩ = some (.slice N k d) := cells_of d7' 1
                have f7 : w7.frozen? ⟨w1.heap.size, 1, none⟩ = false := free_of d7' 1
                have r7 := HRD6.out.grown hg7 (fun e => by have := HNE.out _ e; omega) (fun g' t hs e => by have := HS2.out g' t hs; have := HNE.out _ e; omega)
                have sz7 := hg7.size
                have D7 := Lib.hid d7'
                have Z7 := Lib.hid z7
                have R7 := Lib.hid r7
                have O7 := Lib.hid ho7
                have G7 := Lib.hid hg7
                clear d7' z7 r7 ho7 hg7
                refine hK.out _ _ trivial (fun _ => ?_)
                clear hK K
                try simp only [Act.put, List.setIfInBounds_toArray, List.set_cons_zero, List.set_cons_succ]
                refine wpAnyH_take (i := 7) (v := ?_) rfl (by kernel_rfl) (by kernel_rfl) (by kernel_rfl) (fun _ _ _ h => h) (Or.inl ⟨by rfl, ?_⟩) trivial ?_
                rotate_left 1
                · intro w hSw
                  go_simp
                  all_goals with_reducible rfl
                try simp only [Act.put, List.setIfInBounds_toArray, List.set_cons_zero, List.set_cons_succ]
                refine wpAnyH_ready (rs := [8]) (by kernel_rfl) (by simp) ?_
                refine AllReadyH.cons rfl (fun K hK => ?_) ?_
                · go_simp
                  refine hK.out _ _ trivial (fun _ => ?_)
                  clear hK K
                  try simp only [Act.put, List.setIfInBounds_toArray, List.set_cons_zero, List.set_cons_succ]
                  refine wpAnyH_done (by kernel_rfl) ?_ _
                  go_wp2_with fail
                  go_roundw
                  case rel =>
                    have hts : s6.size ≤ l.length := by rw [← bl_len, HBS6.out]; omega
                    refine ⟨k + 1, N7, d7, ws ++ [s6], by omega, by go_num, by rw [List.length_append, hwk]; rfl, by rw [bls_snoc, HBW.out, HBS6.out, HSQ.out, HQ.out], by rw [set_of D7.out 1 _]; simp, by rw [Below.heap_setCell _ _ _ _ (by show w.heap.size ≠ w1.heap.size; omega)]; exact Z7.out, O7.out.set1 (by omega), ?_, ?_, ?_, fun t' ht' => by rcases List.mem_append.1 ht' with h | h; exact HZS.out t' h; simp at h; rw [h]; exact hts⟩
                    · rw [HSQ.out]
                      exact R7.out.grown (grown_set (g := w1.heap.size) _ rfl _) (fun e => by injection e with e; omega) (fun g' t hs e => by have := HS2.out g' t hs; injection e with e; omega)
                    · exact grown_more (grown_more HG6.out G7.out (fun q h => .inl (by have := HNE.out q h; omega))) (grown_set (g := w1.heap.size) _ rfl _) (fun q h => .inl (by injection h with h; omega))
                    · have e1 : (w7.setCell ⟨w1.heap.size, 1, none⟩ (.slice N7 (k + 1) d7)).heap.size = w7.heap.size := by simp [World.setCell]
                      have e2 : (w6.alloc (.cells #[.string s6] 9)).heap.size = w6.heap.size + 1 := by simp
                      omega
                  case measure => simp [intOf]; omega
                exact AllReadyH.nil
              exact AllReadyH.nil
            exact AllReadyH.nil
          exact AllReadyH.nil
        exact AllReadyH.nil
      refine AllReadyH.cons rfl (fun K hK => ?_) ?_
      · go_simp
        refine (str_any 1 wr.drew HRDQ.out hS (by omega)).mono ?_
        rintro e w6 ⟨B, b, rfl, hoB, hrd6, hg6⟩
        rw [← HX.out] at hoB hrd6 ⊢
        have hcv6 := conv_back b x.got.length hoB.rb rfl
        obtain ⟨s6, hs6⟩ : ∃ s6 : ByteArray, s6 = ⟨x.got.toArray⟩ := ⟨_, rfl⟩
        rw [← hs6] at hcv6
        have hbs6 : bl s6 = x.got := by rw [hs6, bl_mk]
        have hg6' : wr.grownBy w6 (some g) := grown_tr ((Ext.drew _).grown _) hg6
        have d6 := grown_get hg6' HDR.out (fun e => by injection e with e; omega)
        have z6 := grown_get hg6' HD2R.out (fun e => by injection e with e; omega)
        have c6 : w6.cell? ⟨w1.heap.size, 1, none⟩ = some (.slice N k d) := cells_of d6 1
        have c6a : ∀ o, (w6.alloc o).cell? ⟨w1.heap.size, 1, none⟩ = some (.slice N k d) := fun o => by rw [World.cell?_alloc_some _ _ _ (by rw [c6]; rfl)]; exact c6
        have o6 : OwnS w6 9 w2.heap.size N d ws := HOR.out.keep fun q' o _ hb hh => grown_get hg6' hh (fun e => by injection e with e; omega)
        have sz6 := hg6'.size
        have HBS6 := Lib.hid hbs6
        have HRD6 := Lib.hid (hrd6.ext (Ext.alloc w6 (.cells #[.string s6] 9)))
        have HG6 := Lib.hid (grown_tr HGW.out (grown_tr hg6' ((Ext.alloc w6 (.cells #[.string s6] 9)).grown _)))
        have D6 := Lib.hid ((Ext.alloc w6 (.cells #[.string s6] 9)).get d6)
        have Z6 := Lib.hid ((Ext.alloc w6 (.cells #[.string s6] 9)).get z6)
        have O6 := Lib.hid (o6.ext (Ext.alloc w6 (.cells #[.string s6] 9)))
        clear hs6 hbs6 hg6 hg6' d6 z6 o6 hoB hrd6
        go_wp2_with fail
        refine hK.out _ _ trivial (fun _ => ?_)
        clear hK K
        try simp only [Act.put, List.setIfInBounds_toArray, List.set_cons_zero, List.set_cons_succ]
        refine wpAnyH_ready (rs := [1, 4]) (by kernel_rfl) (by simp) ?_
        refine AllReadyH.cons rfl (fun K hK => ?_) ?_
        · go_simp
          refine hK.out _ _ trivial (fun _ => ?_)
          clear hK K
          try simp only [Act.put, List.setIfInBounds_toArray, List.set_cons_zero, List.set_cons_succ]
          refine wpAnyH_ready (rs := [4]) (by kernel_rfl) (by simp) ?_
          refine AllReadyH.cons rfl (fun K hK => ?_) ?_
          · go_simp
            refine hK.out _ _ trivial (fun _ => ?_)
            clear hK K
            try simp only [Act.put, List.setIfInBounds_toArray, List.set_cons_zero, List.set_cons_succ]
            refine wpAnyH_ready (rs := [5]) (by kernel_rfl) (by simp) ?_
            refine AllReadyH.cons rfl (fun K hK => ?_) ?_
            · go_simp
              refine hK.out _ _ trivial (fun _ => ?_)
              clear hK K
              try simp only [Act.put, List.setIfInBounds_toArray, List.set_cons_zero, List.set_cons_succ]
              refine wpAnyH_ready (rs := [6]) (by kernel_rfl) (by simp) ?_
              refine AllReadyH.cons rfl (fun K hK => ?_) ?_
              · refine step_append_str1 _ (by rfl) _ _ _ (by rfl) w2.heap.size 9 i0 Try.underlying22 hi0 hz0 hz1 hz2 N d ws k (by rfl) hwk O6.out w6.heap.size s6 (by rfl) (cells_of (new_of _ _) 0) (by omega) (by simp; omega) ?_
                intro N7 d7 w7 ho7 hg7
                have d7' := grown_get hg7 D6.out (fun e => by have := HNE.out _ e; omega)
                have z7 := grown_get hg7 Z6.out (fun e => by have := HNE.out _ e; omega)
                have e7 : w7.cell? ⟨w1.heap.size, 1, none⟩ = some (.slice N k d) := cells_of d7' 1
                have f7 : w7.frozen? ⟨w1.heap.size, 1, none⟩ = false := free_of d7' 1
                have r7 := HRD6.out.grown hg7 (fun e => by have := HNE.out _ e; omega) (fun g' t hs e => by have := HS2.out g' t hs; have := HNE.out _ e; omega)
                have sz7 := hg7.size
                have D7 := Lib.hid d7'
                have Z7 := Lib.hid z7
                have R7 := Lib.hid r7
                have O7 := Lib.hid ho7
                have G7 := Lib.hid hg7
                clear d7' z7 r7 ho7 hg7
                refine hK.out _ _ trivial (fun _ => ?_)
                clear hK K
                try simp only [Act.put, List.setIfInBounds_toArray, List.set_cons_zero, List.set_cons_succ]
                refine wpAnyH_take (i := 7) (v := ?_) rfl (by kernel_rfl) (by kernel_rfl) (by kernel_rfl) (fun _ _ _ h => h) (Or.inl ⟨by rfl, ?_⟩) trivial ?_
                rotate_left 1
                · intro w hSw
                  go_simp
                  all_goals with_reducible rfl
                try simp only [Act.put, List.setIfInBounds_toArray, List.set_cons_zero, List.set_cons_succ]
                refine wpAnyH_ready (rs := [8]) (by kernel_rfl) (by simp) ?_
                refine AllReadyH.cons rfl (fun K hK => ?_) ?_
                · go_simp
                  refine hK.out _ _ trivial (fun _ => ?_)
                  clear hK K
                  try simp only [Act.put, List.setIfInBounds_toArray, List.set_cons_zero, List.set_cons_succ]
                  refine wpAnyH_done (by kernel_rfl) ?_ _
                  go_wp2_with fail
                  go_roundw
                  case rel =>
                    have hts : s6.size ≤ l.length := by rw [← bl_len, HBS6.out]; omega
                    refine ⟨k + 1, N7, d7, ws ++ [s6], by omega, by go_num, by rw [List.length_append, hwk]; rfl, by rw [bls_snoc, HBW.out, HBS6.out, HSQ.out, HQ.out], by rw [set_of D7.out 1 _]; simp, by rw [Below.heap_setCell _ _ _ _ (by show w.heap.size ≠ w1.heap.size; omega)]; exact Z7.out, O7.out.set1 (by omega), ?_, ?_, ?_, fun t' ht' => by rcases List.mem_append.1 ht' with h | h; exact HZS.out t' h; simp at h; rw [h]; exact hts⟩
                    · rw [HSQ.out]
                      exact R7.out.grown (grown_set (g := w1.heap.size) _ rfl _) (fun e => by injection e with e; omega) (fun g' t hs e => by have := HS2.out g' t hs; injection e with e; omega)
                    · exact grown_more (grown_more HG6.out G7.out (fun q h => .inl (by have := HNE.out q h; omega))) (grown_set (g := w1.heap.size) _ rfl _) (fun q h => .inl (by injection h with h; omega))
                    · have e1 : (w7.setCell ⟨w1.heap.size, 1, none⟩ (.slice N7 (k + 1) d7)).heap.size = w7.heap.size := by simp [World.setCell]
                      have e2 : (w6.alloc (.cells #[.string s6] 9)).heap.size = w6.heap.size + 1 := by simp
                      omega
                  case measure => simp [intOf]; omega
                exact AllReadyH.nil
              exact AllReadyH.nil
            exact AllReadyH.nil
          exact AllReadyH.nil
        refine AllReadyH.cons rfl (fun K hK => ?_) ?_
        · go_simp
          refine hK.out _ _ trivial (fun _ => ?_)
          clear hK K
          try simp only [Act.put, List.setIfInBounds_toArray, List.set_cons_zero, List.set_cons_succ]
          refine wpAnyH_ready (rs := [1, 5]) (by kernel_rfl) (by simp) ?_
          refine AllReadyH.cons rfl (fun K hK => ?_) ?_
          · go_simp
            refine hK.out _ _ trivial (fun _ => ?_)
            clear hK K
            try simp only [Act.put, List.setIfInBounds_toArray, List.set_cons_zero, List.set_cons_succ]
            refine wpAnyH_ready (rs := [5]) (by kernel_rfl) (by simp) ?_
            refine AllReadyH.cons rfl (fun K hK => ?_) ?_
            · go_simp
              refine hK.out _ _ trivial (fun _ => ?_)
              clear hK K
              try simp only [Act.put, List.setIfInBounds_toArray, List.set_cons_zero, List.set_cons_succ]
              refine wpAnyH_ready (rs := [6]) (by kernel_rfl) (by simp) ?_
              refine AllReadyH.cons rfl (fun K hK => ?_) ?_
              · refine step_append_str1 _ (by rfl) _ _ _ (by rfl) w2.heap.size 9 i0 Try.underlying22 hi0 hz0 hz1 hz2 N d ws k (by rfl) hwk O6.out w6.heap.size s6 (by rfl) (cells_of (new_of _ _) 0) (by omega) (by simp; omega) ?_
                intro N7 d7 w7 ho7 hg7
                have d7' := grown_get hg7 D6.out (fun e => by have := HNE.out _ e; omega)
                have z7 := grown_get hg7 Z6.out (fun e => by have := HNE.out _ e; omega)
                have e7 : w7.cell? ⟨w1.heap.size, 1, none⟩ = some (.slice N k d) := cells_of d7' 1
                have f7 : w7.frozen? ⟨w1.heap.size, 1, none⟩ = false := free_of d7' 1
                have r7 := HRD6.out.grown hg7 (fun e => by have := HNE.out _ e; omega) (fun g' t hs e => by have := HS2.out g' t hs; have := HNE.out _ e; omega)
                have sz7 := hg7.size
                have D7 := Lib.hid d7'
                have Z7 := Lib.hid z7
                have R7 := Lib.hid r7
                have O7 := Lib.hid ho7
                have G7 := Lib.hid hg7
                clear d7' z7 r7 ho7 hg7
                refine hK.out _ _ trivial (fun _ => ?_)
                clear hK K
                try simp only [Act.put, List.setIfInBounds_toArray, List.set_cons_zero, List.set_cons_succ]
                refine wpAnyH_take (i := 7) (v := ?_) rfl (by kernel_rfl) (by kernel_rfl) (by kernel_rfl) (fun _ _ _ h => h) (Or.inl ⟨by rfl, ?_⟩) trivial ?_
                rotate_left 1
                · intro w hSw
                  go_simp
                  all_goals with_reducible rfl
                try simp only [Act.put, List.setIfInBounds_toArray, List.set_cons_zero, List.set_cons_succ]
                refine wpAnyH_ready (rs := [8]) (by kernel_rfl) (by simp) ?_
                refine AllReadyH.cons rfl (fun K hK => ?_) ?_
                · go_simp
                  refine hK.out _ _ trivial (fun _ => ?_)
                  clear hK K
                  try simp only [Act.put, List.setIfInBounds_toArray, List.set_cons_zero, List.set_cons_succ]
                  refine wpAnyH_done (by kernel_rfl) ?_ _
                  go_wp2_with fail
                  go_roundw
                  case rel =>
                    have hts : s6.size ≤ l.length := by rw [← bl_len, HBS6.out]; omega
                    refine ⟨k + 1, N7, d7, ws ++ [s6], by omega, by go_num, by rw [List.length_append, hwk]; rfl, by rw [bls_snoc, HBW.out, HBS6.out, HSQ.out, HQ.out], by rw [set_of D7.out 1 _]; simp, by rw [Below.heap_setCell _ _ _ _ (by show w.heap.size ≠ w1.heap.size; omega)]; exact Z7.out, O7.out.set1 (by omega), ?_, ?_, ?_, fun t' ht' => by rcases List.mem_append.1 ht' with h | h; exact HZS.out t' h; simp at h; rw [h]; exact hts⟩
                    · rw [HSQ.out]
                      exact R7.out.grown (grown_set (g := w1.heap.size) _ rfl _) (fun e => by injection e with e; omega) (fun g' t hs e => by have := HS2.out g' t hs; injection e with e; omega)
                    · exact grown_more (grown_more HG6.out G7.out (fun q h => .inl (by have := HNE.out q h; omega))) (grown_set (g := w1.heap.size) _ rfl _) (fun q h => .inl (by injection h with h; omega))
                    · have e1 : (w7.setCell ⟨w1.heap.size, 1, none⟩ (.slice N7 (k + 1) d7)).heap.size = w7.heap.size := by simp [World.setCell]
                      have e2 : (w6.alloc (.cells #[.string s6] 9)).heap.size = w6.heap.size + 1 := by simp
                      omega
                  case measure => simp [intOf]; omega
                exact AllReadyH.nil
              exact AllReadyH.nil
            exact AllReadyH.nil
          refine AllReadyH.cons rfl (fun K hK => ?_) ?_
          · go_simp
            refine hK.out _ _ trivial (fun _ => ?_)
            clear hK K
            try simp only [Act.put, List.setIfInBounds_toArray, List.set_cons_zero, List.set_cons_succ]
            refine wpAnyH_ready (rs := [1]) (by kernel_rfl) (by simp) ?_
            refine AllReadyH.cons rfl (fun K hK => ?_) ?_
            · go_simp
              refine hK.out _ _ trivial (fun _ => ?_)
              clear hK K
              try simp only [Act.put, List.setIfInBounds_toArray, List.set_cons_zero, List.set_cons_succ]
              refine wpAnyH_ready (rs := [6]) (by kernel_rfl) (by simp) ?_
              refine AllReadyH.cons rfl (fun K hK => ?_) ?_
              · refine step_append_str1 _ (by rfl) _ _ _ (by rfl) w2.heap.size 9 i0 Try.underlying22 hi0 hz0 hz1 hz2 N d ws k (by rfl) hwk O6.out w6.heap.size s6 (by rfl) (cells_of (new_of _ _) 0) (by omega) (by simp; omega) ?_
                intro N7 d7 w7 ho7 hg7
                have d7' := grown_get hg7 D6.out (fun e => by have := HNE.out _ e; omega)
                have z7 := grown_get hg7 Z6.out (fun e => by have := HNE.out _ e; omega)
                have e7 : w7.cell? ⟨w1.heap.size, 1, none⟩ = some (.slice N k d) := cells_of d7' 1
                have f7 : w7.frozen? ⟨w1.heap.size, 1, none⟩ = false := free_of d7' 1
                have r7 := HRD6.out.grown hg7 (fun e => by have := HNE.out _ e; omega) (fun g' t hs e => by have := HS2.out g' t hs; have := HNE.out _ e; omega)
                have sz7 := hg7.size
                have D7 := Lib.hid d7'
                have Z7 := Lib.hid z7
                have R7 := Lib.hid r7
                have O7 := Lib.hid ho7
                have G7 := Lib.hid hg7
                clear d7' z7 r7 ho7 hg7
                refine hK.out _ _ trivial (fun _ => ?_)
                clear hK K
                try simp only [Act.put, List.setIfInBounds_toArray, List.set_cons_zero, List.set_cons_succ]
                refine wpAnyH_take (i := 7) (v := ?_) rfl (by kernel_rfl) (by kernel_rfl) (by kernel_rfl) (fun _ _ _ h => h) (Or.inl ⟨by rfl, ?_⟩) trivial ?_
                rotate_left 1
                · intro w hSw
                  go_simp
                  all_goals with_reducible rfl
                try simp only [Act.put, List.setIfInBounds_toArray, List.set_cons_zero, List.set_cons_succ]
                refine wpAnyH_ready (rs := [8]) (by kernel_rfl) (by simp) ?_
                refine AllReadyH.cons rfl (fun K hK => ?_) ?_
                · go_simp
                  refine hK.out _ _ trivial (fun _ => ?_)
                  clear hK K
                  try simp only [Act.put, List.setIfInBounds_toArray, List.set_cons_zero, List.set_cons_succ]
                  refine wpAnyH_done (by kernel_rfl) ?_ _
                  go_wp2_with fail
                  go_roundw
                  case rel =>
                    have hts : s6.size ≤ l.length := by rw [← bl_len, HBS6.out]; omega
                    refine ⟨k + 1, N7, d7, ws ++ [s6], by omega, by go_num, by rw [List.length_append, hwk]; rfl, by rw [bls_snoc, HBW.out, HBS6.out, HSQ.out, HQ.out], by rw [set_of D7.out 1 _]; simp, by rw [Below.heap_setCell _ _ _ _ (by show w.heap.size ≠ w1.heap.size; omega)]; exact Z7.out, O7.out.set1 (by omega), ?_, ?_, ?_, fun t' ht' => by rcases List.mem_append.1 ht' with h | h; exact HZS.out t' h; simp at h; rw [h]; exact hts⟩
                    · rw [HSQ.out]
                      exact R7.out.grown (grown_set (g := w1.heap.size) _ rfl _) (fun e => by injection e with e; omega) (fun g' t hs e => by have := HS2.out g' t hs; injection e with e; omega)
                    · exact grown_more (grown_more HG6.out G7.out (fun q h => .inl (by have := HNE.out q h; omega))) (grown_set (g := w1.heap.size) _ rfl _) (fun q h => .inl (by injection h with h; omega))
                    · have e1 : (w7.setCell ⟨w1.heap.size, 1, none⟩ (.slice N7 (k + 1) d7)).heap.size = w7.heap.size := by simp [World.setCell]
                      have e2 : (w6.alloc (.cells #[.string s6] 9)).heap.size = w6.heap.size + 1 := by simp
                      omega
                  case measure => simp [intOf]; omega
                exact AllReadyH.nil
              exact AllReadyH.nil
            exact AllReadyH.nil
          exact AllReadyH.nil
        exact AllReadyH.nil
      exact AllReadyH.nil
    · have ek : k = m.num := by omega
      have hv2 : ∀ t ∈ ws, t.size ≤ 9223372036854775807 := fun t ht => by have := HZS.out t ht; omega
      have hval := valid_c r N d ws _ wr HOR.out.sr (by omega) hv2 (by omega)
      rw [hwk] at hval
      have hrnm : rnm l bad = if vl (bl r) (bls ws) = true then some (bl r, bls ws) else none := by
        unfold rnm rp rn rr
        rw [← HT.out, ← HM.out, ← ek, ← HBW.out, HBR.out]
      have hrp : (rdn m.left m.bad k).2 = (rp l bad).2 := by
        unfold rp rn rr
        rw [← HT.out, ← HM.out, ← ek]
      have hrd2 := HRD.out
      rw [hrp] at hrd2
      have HRD := Lib.hid hrd2
      have HRNM := Lib.hid hrnm
      have HOL := Lib.hid HOR.out.le
      have hkm : m.num ≤ k := by omega
      clear hv2 hrnm hrp hrd2 ek
      by_cases hv : vl (bl r) (bls ws) = true
      · rw [hv] at hval
        have hres : rnm l bad = some (bl r, bls ws) := by rw [HRNM.out, if_pos hv]
        have HRES := Lib.hid hres
        have HVAL := Lib.hid hval
        clear hval hres hv
        go_wp2_with fail
        refine HVAL.out.mono ?_
        rintro e w4 ⟨rfl, hx4⟩
        have hd4 := hx4.get HDR.out
        have hz4 := hx4.get HD2R.out
        have v4 : w4.cell? ⟨w1.heap.size, 0, none⟩ = some (.string r) := cells_of hd4 0
        have v5 : w4.cell? ⟨w1.heap.size, 1, none⟩ = some (.slice N k d) := cells_of hd4 1
        have x0 : w4.cell? ⟨w.heap.size, 0, none⟩ = some (.string ⟨#[]⟩) := cells_of hz4 0
        have x1 : w4.cell? ⟨w.heap.size, 1, none⟩ = some (.slice none 0 0) := cells_of hz4 1
        have b0 : w4.frozen? ⟨w.heap.size, 0, none⟩ = false := free_of hz4 0
        have b1 : w4.frozen? ⟨w.heap.size, 1, none⟩ = false := free_of hz4 1
        have HGZ := Lib.hid (two_stored (x := .string r) (y := (.slice N k d)) hz4)
        have HOZ := Lib.hid ((HOR.out.ext hx4).set2 (g := w.heap.size) (x := .string r) (y := (.slice N k d)) (by omega))
        have hgz : w4.grownBy ((w4.setCell ⟨w.heap.size, 0, none⟩ (.string r)).setCell ⟨w.heap.size, 1, none⟩ (.slice N k d)) (some w.heap.size) := grown_tr (grown_set _ rfl _) (grown_set _ rfl _)
        have HRZ := Lib.hid ((HRD.out.ext hx4).grown hgz (fun e => by injection e with e; omega) (fun g' t hs e => by have := HS2.out g' t hs; injection e with e; omega))
        have HGG := Lib.hid (grown_more (grown_tr HGW.out (hx4.grown _)) hgz (fun q h => .inl (by injection h with h; omega)))
        clear hx4 hd4 hz4 hgz HVAL
        go_wp2_with fail
        have e0 := cells_of HGZ.out 0
        have e1 := cells_of HGZ.out 1
        refine bodyPost_ret (v := .tuple #[.agg #[.string r, .slice N k d], .bool true]) (by simp [results, Try.results16, go_sem, e0, e1]) rfl ⟨_, ?_, ⟨r, N, d, ws, by rw [hwk], HOZ.out.sr.more (fun _ _ _ => trivial), HOL.out.1, HOL.out.2, by rw [HRES.out]; rfl, by rw [HRES.out]; rfl⟩, HRZ.out, HGG.out⟩
        rw [HRES.out]
        rfl
      · have hv' : vl (bl r) (bls ws) = false := by simpa using hv
        rw [hv'] at hval
        have hres : rnm l bad = none := by rw [HRNM.out, if_neg hv]
        have HRES := Lib.hid hres
        have HVAL := Lib.hid hval
        clear hval hres hv hv'
        go_wp2_with fail
        refine HVAL.out.mono ?_
        rintro e w4 ⟨rfl, hx4⟩
        have hd4 := hx4.get HDR.out
        have hz4 := hx4.get HD2R.out
        have v4 : w4.cell? ⟨w1.heap.size, 0, none⟩ = some (.string r) := cells_of hd4 0
        have v5 : w4.cell? ⟨w1.heap.size, 1, none⟩ = some (.slice N k d) := cells_of hd4 1
        have x0 : w4.cell? ⟨w.heap.size, 0, none⟩ = some (.string ⟨#[]⟩) := cells_of hz4 0
        have x1 : w4.cell? ⟨w.heap.size, 1, none⟩ = some (.slice none 0 0) := cells_of hz4 1
        have b0 : w4.frozen? ⟨w.heap.size, 0, none⟩ = false := free_of hz4 0
        have b1 : w4.frozen? ⟨w.heap.size, 1, none⟩ = false := free_of hz4 1
        have HGZ := Lib.hid (two_stored (x := .string ⟨#[]⟩) (y := (.slice none 0 0)) hz4)
        have HOZ := Lib.hid ((HOR.out.ext hx4).set2 (g := w.heap.size) (x := .string ⟨#[]⟩) (y := (.slice none 0 0)) (by omega))
        have hgz : w4.grownBy ((w4.setCell ⟨w.heap.size, 0, none⟩ (.string ⟨#[]⟩)).setCell ⟨w.heap.size, 1, none⟩ (.slice none 0 0)) (some w.heap.size) := grown_tr (grown_set _ rfl _) (grown_set _ rfl _)
        have HRZ := Lib.hid ((HRD.out.ext hx4).grown hgz (fun e => by injection e with e; omega) (fun g' t hs e => by have := HS2.out g' t hs; injection e with e; omega))
        have HGG := Lib.hid (grown_more (grown_tr HGW.out (hx4.grown _)) hgz (fun q h => .inl (by injection h with h; omega)))
        clear hx4 hd4 hz4 hgz HVAL
        go_wp2_with fail
        have e0 := cells_of HGZ.out 0
        have e1 := cells_of HGZ.out 1
        refine bodyPost_ret (v := .tuple #[.agg #[.string ⟨#[]⟩, .slice none 0 0], .bool false]) (by simp [results, Try.results16, go_sem, e0, e1]) rfl ⟨_, ?_, by rw [HRES.out]; exact NmR.none _, HRZ.out, HGG.out⟩
        rw [HRES.out]
        rfl
theorem read_c {S : Nat → TypeId → Prop} {g : Nat} {l : List UInt8} {bad : Bool} (w : World) (h : Rd w S g l bad) (hS : NoRd S) (hl : l.length ≤ 140737488355328) :
    Calls Try.prog 16 #[.pointer (some ⟨g, 0, none⟩)] w fun e w' => ∃ v, e = .returned (.tuple #[v, .bool (rnm l bad).isSome]) ∧ NmR w' v (rnm l bad) ∧ Rd w' S g (rp l bad).2.1 (rp l bad).2.2 ∧ w.grownBy w' (some g) :=
  (read_c0 w h.inside (fun k hk => hS k hk.1) (fun _ _ hk => hk.2) hl).mono fun _ _ ⟨v, h1, h2, h3, h4⟩ => ⟨v, h1, h2, h3.more (fun _ _ hk => hk.1), h4⟩
end Go.Proofs.Ytgbdckiojjmncaa
