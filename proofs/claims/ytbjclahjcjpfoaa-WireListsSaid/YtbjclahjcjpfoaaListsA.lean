/-
  WireLists: what the law's call does.
-/
import Derived.Test.YtbjclahjcjpfoaaRefB
import Derived.Test.YtbjclahjcjpfoaaAwake01
import Derived.Deep.RegionHeld3
namespace Go.Proofs.Ytbjclahjcjpfoaa
open Go.RowKit

theorem info_bs : (Try.prog.info? 22).map (fun i => (i.zero, i.size, i.bytes)) = some (some (.slice none 0 0), 1, 24) := by kernel_rfl

set_option maxHeartbeats 1000000 in
theorem wlists_out (A : Option Addr) (c : Nat) (ls : List (List UInt8)) (w : World) (hl : ls.length ≤ 9223372036854775807) (h : 50 < ls.length) :
    Calls Try.prog 5 #[.slice A ls.length c] w fun e w' => e = .returned (.bool true) ∧ Ext w w' := by
  go_enter Try.func5, Try.ntmps5
  go_wp2_with fail
  refine (awake_c _).mono ?_
  rintro e w1 ⟨rfl, hx1⟩
  go_wp2_with fail
  refine (awake_c _).mono ?_
  rintro e w2 ⟨rfl, hx2⟩
  go_wp2_with fail
  go_ret
  exact ⟨rfl, hx1.tr hx2⟩

/-- a string with a length of two bytes -/
def en (l : List UInt8) : List UInt8 := nb 2 l.length ++ l
def ens (ls : List (List UInt8)) (k : Nat) : List (List UInt8) := (ls.take k).map en
theorem ens_step (ls : List (List UInt8)) (k : Nat) (h : k < ls.length) : ens ls k ++ [en ls[k]] = ens ls (k + 1) := by
  rw [ens, ens, List.take_succ_eq_append_getElem h, List.map_append, List.map_singleton]
theorem ens_len (ls : List (List UInt8)) (k : Nat) (h : k ≤ ls.length) : (ens ls k).length = k := by rw [ens, List.length_map, List.length_take]; omega
theorem ens_all (ls : List (List UInt8)) : ens ls ls.length = ls.map en := by rw [ens, List.take_length]
theorem en_len (l : List UInt8) : (en l).length = 2 + l.length := by rw [en, List.length_append, nb_length]
theorem sum_le (ls : List (List UInt8)) : ∀ k, (∀ l ∈ ls.take k, l.length ≤ 300) → (ens ls k).flatten.length ≤ 302 * k := by
  intro k
  induction k with
  | zero => intro _; simp [ens]
  | succ k ih =>
    intro h
    by_cases hk : k < ls.length
    · rw [← ens_step ls k hk]
      rw [List.flatten_append, List.length_append]
      have h1 := ih (fun l hl => h l (by rw [List.take_succ_eq_append_getElem hk]; exact List.mem_append_left _ hl))
      have h2 := h ls[k] (by rw [List.take_succ_eq_append_getElem hk]; exact List.mem_append_right _ (List.mem_singleton_self _))
      have h3 : [en ls[k]].flatten.length = 2 + (ls[k]).length := by simp [en_len]
      omega
    · have e : ens ls (k + 1) = ens ls k := by rw [ens, ens, List.take_of_length_le (by omega), List.take_of_length_le (by omega)]
      rw [e]
      have := ih (fun l hl => h l (by rw [List.take_of_length_le (by omega)] at hl ⊢; exact hl))
      omega

/-- what is left when k strings are read -/
def rest (ls : List (List UInt8)) (k : Nat) : List UInt8 := ((ls.drop k).map en).flatten
theorem rest_step (ls : List (List UInt8)) (k : Nat) (h : k < ls.length) : rest ls k = nb 2 (ls[k]).length ++ (ls[k] ++ rest ls (k + 1)) := by
  rw [rest, List.drop_eq_getElem_cons h, List.map_cons, List.flatten_cons, en, List.append_assoc, rest]
theorem rest_zero (ls : List (List UInt8)) : rest ls 0 = (ens ls ls.length).flatten := by rw [rest, ens_all]; rfl
theorem rest_all (ls : List (List UInt8)) : rest ls ls.length = [] := by rw [rest, List.drop_length]; rfl
theorem rest_le (ls : List (List UInt8)) : ∀ k, (rest ls k).length ≤ (rest ls 0).length := by
  intro k
  have : rest ls 0 = ((ls.take k).map en).flatten ++ rest ls k := by
    rw [rest, rest, List.drop_zero, ← List.flatten_append, ← List.map_append, List.take_append_drop]
  rw [this, List.length_append]
  omega
/-- reading the next of the strings -/
theorem rest_read (ls : List (List UInt8)) (k : Nat) (h : k < ls.length) (hl : (ls[k]).length ≤ 300) :
    2 ≤ (rest ls k).length ∧ be ((rest ls k).take 2) = (ls[k]).length ∧ (ls[k]).length ≤ (rest ls k).length - 2 ∧ ((rest ls k).drop 2).take (ls[k]).length = ls[k] ∧ ((rest ls k).drop 2).drop (ls[k]).length = rest ls (k + 1) := by
  rw [rest_step ls k h]
  have e1 : (nb 2 (ls[k]).length ++ (ls[k] ++ rest ls (k + 1))).take 2 = nb 2 (ls[k]).length := List.take_left' (nb_length _ _)
  have e2 : (nb 2 (ls[k]).length ++ (ls[k] ++ rest ls (k + 1))).drop 2 = ls[k] ++ rest ls (k + 1) := List.drop_left' (nb_length _ _)
  rw [e1, e2]
  refine ⟨by rw [List.length_append, nb_length]; omega, be_nb _ _ (by omega), by rw [List.length_append, nb_length, List.length_append]; omega, List.take_left' rfl, List.drop_left' rfl⟩

set_option maxHeartbeats 1000000 in
theorem wlists_in (A : Option Addr) (c : Nat) (ls : List (List UInt8)) (S T : Nat → TypeId → Prop) (w : World) (h : RBs w S T A ls) (hl : ls.length ≤ 50) (hm : ∀ l ∈ ls, l.length ≤ 9223372036854775807) :
    Calls Try.prog 5 #[.slice A ls.length c] w fun e w' => e = .returned (.bool true) ∧ Ext w w' := by
  have H := Lib.hid h
  have HM := Lib.hid hm
  obtain ⟨i0, hi0, hz0, hz1, hz2⟩ := info_parts info_bs
  clear h hm
  go_enter Try.func5, Try.ntmps5
  go_wp2_with fail
  refine (awake_c _).mono ?_
  rintro e w1 ⟨rfl, hx1⟩
  go_wp2_with fail
  go_loopw [3, 4, 5, 6] (fun v i _ _ wr => ∃ (k : Nat) (B : Option Addr) (d : Nat) (vs : List Value), k ≤ ls.length ∧ i = .int .i64 k ∧ v = .slice B vs.length d ∧ Hid (OwnV wr 22 w.heap.size B d vs) ∧
      Hid (AsRows wr (fun _ t => t = 5) vs (ens ls k)) ∧ Ext w wr ∧ Hid (∀ l ∈ ls.take k, l.length ≤ 300)) (fun _ i _ _ _ => ls.length - (intOf i).toNat)
  case atStart => exact ⟨0, none, 0, [], Nat.zero_le _, rfl, rfl, OwnV.nil _ _ _, AsRows.nil _ _, hx1, by intro l hl; simp at hl⟩
  case round =>
    obtain ⟨k, B, d, vs, hk, rfl, rfl, HO, HR, hxr, HS⟩ := hrel
    by_cases hlt : k < ls.length
    · obtain ⟨g, off, C, d', rfl, hc, hr⟩ := (H.out.ext hxr).cell hlt
      have hm1 := HM.out ls[k] (List.getElem_mem _)
      have HRB := Lib.hid hr
      by_cases hbig : 300 < (ls[k]).length
      · clear hr
        go_wp2_with fail
        go_ret
        exact ⟨rfl, hxr⟩
      · clear hr
        go_wp2_with fail
        refine (rputs_c 2 C d' ls[k] T _ HRB.out (by omega) (by omega) (by omega)).mono ?_
        rintro e w2 ⟨A2, c2, rfl, ho2, hx2⟩
        have HO2 := Lib.hid ho2
        have hvl : vs.length = k := by rw [HR.out.1, ens_len _ _ hk]
        have hvl1 : vs.length ≤ 50 := by omega
        have HVL := Lib.hid hvl
        clear ho2 hvl
        obtain ⟨u, hu⟩ : ∃ u, u = nb 2 (ls[k]).length ++ ls[k] := ⟨_, rfl⟩
        rw [← hu]
        have HU := Lib.hid hu
        clear hu
        have hown : OwnV (w2.alloc (.cells #[.slice A2 u.length c2] 22)) 22 w.heap.size B d vs := (HO.out.ext hx2).ext (Ext.alloc _ _)
        have hcell : (w2.alloc (.cells #[.slice A2 u.length c2] 22)).cell? ⟨w2.heap.size, 0, none⟩ = some (.slice A2 u.length c2) := cells_of (new_of _ _) 0
        have hsz : w.heap.size ≤ (w2.alloc (.cells #[.slice A2 u.length c2] 22)).heap.size := ((hxr.tr hx2).tr (Ext.alloc _ _)).size
        have HOWN := Lib.hid hown
        go_wp2_with (at_builtin; refine wpList_append_one _ rfl _ _ 46 rfl w.heap.size 22 i0 (.slice none 0 0) 24 Try.underlying46 hi0 hz0 hz1 hz2 rfl B d vs rfl hown w2.heap.size (.slice A2 u.length c2) rfl hcell rfl (by unfold maxLen; omega) (by omega) hsz ?_; intro A3 c3 w3 ho3 hg3)
        have x3 : Ext w w3 := grown_new ((hxr.tr hx2).tr (Ext.alloc _ _)) hg3 HOWN.out.ge
        have hrows : AsRows w3 (fun _ t => t = 5) (vs ++ [.slice A2 u.length c2]) (ens ls (k + 1)) := by
          rw [← ens_step ls k hlt]
          have h1 : AsRows (w2.alloc (.cells #[.slice A2 u.length c2] 22)) (fun _ t => t = 5) vs (ens ls k) := (HR.out.ext hx2).ext (Ext.alloc _ _)
          have h2 : RB (w2.alloc (.cells #[.slice A2 u.length c2] 22)) (fun _ t => t = 5) A2 u := by
            have := (HO2.out.rb.ext (Ext.alloc _ (.cells #[.slice A2 u.length c2] 22))).more (S' := fun _ t => t = 5) (fun _ _ h => h.2.1)
            rw [HU.out] at this ⊢
            exact this
          have h3 := (h1.snoc (d := c2) h2).ownV HOWN.out hg3 (by intro g; decide)
          rw [en, ← HU.out]
          exact h3
        have hsm : ∀ l ∈ ls.take (k + 1), l.length ≤ 300 := by
          rw [List.take_succ_eq_append_getElem hlt]
          intro l hl
          rcases List.mem_append.1 hl with h | h
          · exact HS.out l h
          · simp at h; subst h; omega
        have HN := Lib.hid hrows
        have HNS := Lib.hid hsm
        clear hrows hsm
        go_roundw
        case rel => exact ⟨k + 1, A3, c3, _, by omega, by go_num, by simp, ho3, HN, x3, HNS⟩
        case measure => simp [intOf]; omega
    · obtain rfl : k = ls.length := by omega
      have hfl := sum_le ls ls.length HS.out
      have hel := ens_len ls ls.length (Nat.le_refl _)
      have hvl : vs.length = (ens ls ls.length).length := HR.out.1
      obtain ⟨es, hes⟩ : ∃ es, es = ens ls ls.length := ⟨_, rfl⟩
      rw [← hes] at hfl hel hvl HR
      rw [hvl]
      have HV := Lib.hid hvl
      have HES := Lib.hid hes
      have HEL := Lib.hid hel
      have hel1 : es.length ≤ 50 := by omega
      clear hvl hes hel
      have hR0 := Lib.hid (HO.out.rbs HR.out)
      go_wp2_with fail
      refine (join_c B d es _ _ _ hR0.out (by omega) (by omega)).mono ?_
      rintro e w2 ⟨A2, c2, rfl, ho2, hx2⟩
      obtain ⟨f, hf⟩ : ∃ f, f = es.flatten := ⟨_, rfl⟩
      rw [← hf] at ho2 hfl ⊢
      have HF := Lib.hid hf
      have HO2 := Lib.hid ho2
      clear hf ho2
      go_wp2_with fail
      refine (new_c A2 c2 f _ _ HO2.out.rb (by omega)).mono ?_
      rintro e w3 ⟨g, R, rfl, hg3, hr3, hx3⟩
      have HR3 := Lib.hid hr3
      clear hr3
      go_wp2_with fail
      have hj := rjoin_c B d es _ _ w3 (hR0.out.ext (hx2.tr hx3)) (by rw [← HF.out]; omega) (by omega)
      rw [← HF.out] at hj
      have HJ := Lib.hid hj
      clear hj
      refine HJ.out.mono ?_
      rintro e w4 ⟨A4, c4, rfl, ho4, hx4⟩
      have HO4 := Lib.hid ho4
      clear ho4
      go_wp2_with fail
      refine (same_x A2 A4 f f c2 c4 _ _ _ (HO2.out.rb.ext (hx3.tr hx4)) HO4.out.rb (by omega) rfl).mono ?_
      rintro e w5 ⟨rfl, hx5⟩
      have x5 : Ext w w5 := (((hxr.tr hx2).tr hx3).tr hx4).tr hx5
      have hge : w.heap.size ≤ g := by have := (hxr.tr hx2).size; omega
      go_wp2_with fail
      have hr0 : f = rest ls 0 := by rw [HF.out, HES.out, rest_zero]
      have hrl : (rest ls 0).length ≤ 302 * ls.length := by rw [← hr0]; exact hfl
      rw [hr0] at HR3
      have HR0 := Lib.hid hr0
      have HRL := Lib.hid hrl
      have HR5 := Lib.hid (HR3.out.ext (hx4.tr hx5))
      have HHS : Hid (∀ k, k < ls.length → (ls[k]!).length ≤ 300) := by
        intro k hk
        rw [getElem!_pos ls k hk]
        exact HS.out _ (by rw [List.take_length]; exact List.getElem_mem _)
      clear hr0 hrl
      go_loopw [9] (fun i wr => ∃ j : Nat, j ≤ ls.length ∧ i = .int .i64 j ∧ Hid (Rd wr (fun k t => w2.heap.size ≤ k ∧ t = 5 ∧ R = some k) g (rest ls j) false) ∧ Ext w wr) (fun i _ => ls.length - (intOf i).toNat)
      case atStart => exact ⟨0, Nat.zero_le _, rfl, HR5, x5⟩
      case round =>
        obtain ⟨j, hj, rfl, HR, hxr⟩ := hrel
        by_cases hlt : j < ls.length
        · obtain ⟨g', off, C, d', rfl, hcx, hrx⟩ := H.out.cellx hlt
          have hl3 := HHS.out j hlt
          rw [getElem!_pos ls j hlt] at hl3
          obtain ⟨q1, q2, q3, q4, q5⟩ := rest_read ls j hlt hl3
          have hcr := hcx wr hxr
          have HC := Lib.hid hcx
          have HX := Lib.hid hrx
          have hq := rest_le ls j
          have hq2 := HRL.out
          have hs := fun W h => str_c (S := fun k t => w2.heap.size ≤ k ∧ t = 5 ∧ R = some k) (g := g) (l := rest ls j) 2 W h (NoRd.u8 _ _) (by omega) (by omega) q1 (by rw [q2]; exact q3)
          simp only [q2, q4, q5] at hs
          have HSTR := fun W h => Lib.hid (hs W h)
          obtain ⟨y, hy⟩ : ∃ y, y = ls[j] := ⟨_, rfl⟩
          rw [← hy] at hcr hl3
          have HY := Lib.hid hy
          clear q1 q2 q3 q4 q5 hcx hrx hq hq2 hs hy
          go_wp2_with fail
          go_region_held3 (fun W => W.cell? ⟨g', off + j, none⟩ = some (.slice C y.length d')) (first | (exact c6) | (exact c7) | go_keep)
            (first
              | (go_at_call 14
                 refine (HSTR wr.drew (HR.out.ext (Ext.drew _))).out.mono ?_
                 rintro e w6 ⟨A6, c6', rfl, ho6, hr6, hg6⟩
                 have x6 : Ext w w6 := grown_new (hxr.tr (Ext.drew _)) hg6 (fun k hk => by simp at hk; omega)
                 have c6 : w6.cell? ⟨g', off + j, none⟩ = some (.slice C y.length d') := by rw [HY.out]; exact HC.out w6 x6
                 have HO6 := Lib.hid ho6
                 have HR6 := Lib.hid hr6
                 clear ho6 hr6)
              | (go_at_call 16
                 refine (same_x A6 C ls[j] y c6' d' _ T w6 HO6.out.rb (by rw [HY.out]; exact HX.out w6 x6) (by have := HM.out ls[j] (List.getElem_mem _); omega) HY.out.symm).mono ?_
                 rintro e w7 ⟨rfl, hx7⟩
                 have x7 : Ext w w7 := x6.tr hx7
                 have c7 : w7.cell? ⟨g', off + j, none⟩ = some (.slice C y.length d') := by rw [HY.out]; exact HC.out w7 x7
                 have HR7 := Lib.hid (HR6.out.ext hx7)))
          go_wp2_with fail
          go_roundw
          case rel => exact ⟨j + 1, by omega, by go_num, HR7, x7⟩
          case measure => simp [intOf]; omega
        · obtain rfl : j = ls.length := by omega
          rw [rest_all] at HR
          go_wp2_with fail
          refine (done_c _ HR.out).mono ?_
          rintro e w' ⟨rfl, rfl⟩
          go_wp2_with fail
          go_ret
          exact ⟨rfl, hxr⟩

theorem wireLists_walk (a0 : Option Addr) (len0 cap0 : Nat) (z0 : List (List UInt8)) (w : World) (w0 : IsRows w a0 len0 cap0 z0) :
    Calls Try.prog 5 #[.slice a0 len0 cap0] w fun e w' => e = .returned (.bool true) ∧ Below w.heap.size w w' := by
  obtain ⟨rfl, hl, hm, hr, hb⟩ := w0
  unfold maxLen at hm hb
  by_cases h : 50 < z0.length
  · exact wlists_out a0 cap0 z0 w (by omega) h
  · exact wlists_in a0 cap0 z0 _ _ w hr (by omega) (fun l hl => by have := hb l hl; omega)
end Go.Proofs.Ytbjclahjcjpfoaa
