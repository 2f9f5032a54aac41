/-
  ShaConstants: the reference's digits and their order.
-/
import Derived.Test.YtphifnknbaebkaaDoorRootA
namespace Go.Proofs.YtphifnknbaebkaaDoor
open Go.RowKit

def u64s (l : List Nat) : List Value := l.map fun x => .int .u64 (x : Nat)
/-- the block g holds the digits -/
def RD (w : World) (g : Nat) (l : List Nat) : Prop := ∃ cs t fr, w.heap[g]? = some (.cells cs t fr) ∧ ∀ j, j < l.length → cs[j]? = some (.int .u64 (l.getD j 0 : Nat))
theorem RD.ext {w w' : World} {g : Nat} {l : List Nat} (h : RD w g l) (hx : Ext w w') : RD w' g l := by
  obtain ⟨cs, t, fr, h1, h2⟩ := h
  exact ⟨cs, t, fr, hx.get h1, h2⟩
theorem RD.cell {w : World} {g : Nat} {l : List Nat} (h : RD w g l) {j : Nat} (hj : j < l.length) : w.cell? ⟨g, j, none⟩ = some (.int .u64 (l.getD j 0 : Nat)) := by
  obtain ⟨cs, t, fr, h1, h2⟩ := h
  rw [cells_of h1]
  exact h2 j hj
theorem RD.lt {w : World} {g : Nat} {l : List Nat} (h : RD w g l) : g < w.heap.size := by
  obtain ⟨cs, t, fr, h1, h2⟩ := h
  exact lt_of_some h1
theorem RD.ofOwn {w : World} {E : TypeId} {base c g : Nat} {l : List Nat} (h : OwnV w E base (some ⟨g, 0, none⟩) c (u64s l)) : RD w g l := by
  rcases h.block with ⟨h, _⟩ | ⟨g', cs, h, hg, hh, h1, h2, h3, h4⟩
  · cases h
  · injection h with h
    injection h with h
    subst h
    refine ⟨cs, E, (0, 0), hh, fun j hj => ?_⟩
    have hj' : j < (u64s l).length := by rw [u64s, List.length_map]; exact hj
    have h5 : (u64s l)[j]? = some (.int .u64 (l.getD j 0 : Nat)) := by
      rw [u64s, List.getElem?_map, List.getElem?_eq_getElem hj, List.getD_eq_getElem?_getD, List.getElem?_eq_getElem hj]
      rfl
    rw [← h4, List.getElem?_take_of_lt hj', Array.getElem?_toList] at h5
    exact h5
theorem info_u64 : (Tryd.prog.info? 30).map (fun i => (i.zero, i.size, i.bytes)) = some (some (.int .u64 0), 1, 8) := by kernel_rfl
theorem info_of {P : Program} {t : TypeId} {z : Value} {s b : Nat} (h : (P.info? t).map (fun i => (i.zero, i.size, i.bytes)) = some (some z, s, b)) : ∃ i, P.info? t = some i ∧ i.zero = some z ∧ i.size = s ∧ i.bytes = b := by
  cases hi : P.info? t with
  | none => simp [hi] at h
  | some i => simp [hi] at h; exact ⟨i, rfl, h⟩

theorem digs_len (m x : Nat) : (digs m x).length ≤ m := by
  induction m generalizing x with
  | zero => simp [digs]
  | succ m ih =>
    rw [digs]
    split
    · simp
    · have := ih (x / 65536); simp; omega
theorem digs_pos (m x : Nat) (h : 0 < x) : 0 < (digs (m + 1) x).length := by
  rw [digs, if_neg (by omega)]
  simp
theorem digs_lt (m x : Nat) : ∀ v ∈ digs m x, v < 65536 := by
  induction m generalizing x with
  | zero => simp [digs]
  | succ m ih =>
    rw [digs]
    split
    · simp
    · intro v hv
      rcases List.mem_cons.1 hv with rfl | hv
      · exact Nat.mod_lt _ (by decide)
      · exact ih _ v hv

set_option maxHeartbeats 4000000 in
theorem digits_c (x : Nat) (hx0 : 0 < x) (hx : x < 18446744073709551616) (w : World) :
    Calls Tryd.prog 29 #[.int .u64 x] w fun e w' => ∃ g c, e = .returned (.slice (some ⟨g, 0, none⟩) (digs 4 x).length c) ∧ RD w' g (digs 4 x) ∧ Ext w w' := by
  obtain ⟨i0, hi0, hz0, hz1, hz2⟩ := info_of info_u64
  go_enter Tryd.func29, Tryd.ntmps29
  go_wp2_with fail
  go_loopw [0, 3] (fun vx vo wr => ∃ (l : List Nat) (m r c : Nat) (A : Option Addr), l ++ digs m r = digs 4 x ∧ l.length + m = 4 ∧ r < 65536 ^ m ∧ r < 18446744073709551616 ∧ vx = .int .u64 r ∧ vo = .slice A l.length c ∧ OwnV wr 30 w.heap.size A c (u64s l) ∧ Ext w wr) (fun vx _ _ => (intOf vx).toNat)
  case atStart => exact ⟨[], 4, x, 0, none, rfl, rfl, hx, hx, rfl, rfl, OwnV.nil _ _ _, Ext.refl _⟩
  case round =>
    obtain ⟨l, m, r, c, A, hl, hm, hr, hr2, rfl, rfl, hown, hxr⟩ := hrel
    by_cases hr0 : r = 0
    · subst hr0
      have hd : digs m 0 = [] := by cases m <;> simp [digs]
      rw [hd, List.append_nil] at hl
      subst hl
      obtain ⟨g, rfl⟩ : ∃ g, A = some ⟨g, 0, none⟩ := by
        rcases hown.block with ⟨_, _, h⟩ | ⟨g, cs, h, _⟩
        · have h1 := digs_pos 3 x hx0
          rw [u64s, List.map_eq_nil_iff] at h
          rw [h] at h1
          simp at h1
        · exact ⟨g, h⟩
      have HO := Lib.hid hown
      have HX := Lib.hid hxr
      clear hown hxr
      go_wp2_with fail
      go_ret
      exact ⟨g, c, rfl, RD.ofOwn HO.out, HX.out⟩
    · obtain ⟨m, rfl⟩ : ∃ k, m = k + 1 := by
        rcases m with _ | m
        · simp at hr; omega
        · exact ⟨m, rfl⟩
      have t1 : (0 : Int) < (r : Int) := by omega
      have hs : l ++ [r % 65536] ++ digs m (r / 65536) = digs 4 x := by
        rw [← hl, digs, if_neg hr0, List.append_assoc]
        rfl
      have hr3 : r / 65536 < 65536 ^ m := by
        rw [Nat.div_lt_iff_lt_mul (by decide), ← Nat.pow_succ]
        exact hr
      have HS := Lib.hid hs
      have HR3 := Lib.hid hr3
      have HX := Lib.hid hxr
      have hown' := hown.ext (Ext.alloc wr (.cells #[.int .u64 ((r : Int) % 65536)] 30))
      have hlit : (wr.alloc (.cells #[.int .u64 ((r : Int) % 65536)] 30)).cell? ⟨wr.heap.size, 0, none⟩ = some (.int .u64 ((r : Int) % 65536)) := by
        rw [cells_of (new_of wr _)]; rfl
      have hsz := hxr.size
      have HUL := Lib.hid (show (u64s l).length = l.length by rw [u64s, List.length_map])
      clear hl hs hr3 hr hxr
      go_wp2_with (at_builtin; refine wpList_append_one _ rfl _ _ 56 rfl w.heap.size 30 i0 (.int .u64 0) 8 Tryd.underlying56 hi0 hz0 hz1 hz2 rfl A c (u64s l) (by rw [HUL.out]; rfl) hown' wr.heap.size (.int .u64 ((r : Int) % 65536)) rfl hlit rfl (by rw [HUL.out]; unfold maxLen; omega) (by rw [HUL.out]; omega) (by simp; omega) ?_; intro A3 c3 w3 ho3 hg3)
      have hxn := grown_new (HX.out.tr (Ext.alloc _ _)) hg3 hown'.ge
      have e3 : u64s l ++ [.int .u64 ((r : Int) % 65536)] = u64s (l ++ [r % 65536]) := by
        rw [u64s, u64s, List.map_append]
        rfl
      rw [e3] at ho3
      go_roundw
      case rel => exact ⟨l ++ [r % 65536], m, r / 65536, c3, A3, HS.out, by simp; omega, HR3.out, by omega, by rw [Int.natCast_ediv]; rfl, by simp [u64s], ho3, hxn⟩
      case measure => simp [intOf]; omega

set_option maxHeartbeats 4000000 in
theorem greater_c (a b : List Nat) (ga gb ca cb : Nat) (w : World) (ha : RD w ga a) (hb : RD w gb b) (hla : a.length ≤ 1000) (hlb : b.length ≤ 1000) :
    Calls Tryd.prog 31 #[.slice (some ⟨ga, 0, none⟩) a.length ca, .slice (some ⟨gb, 0, none⟩) b.length cb] w fun e w' => e = .returned (.bool (above a b (max a.length b.length))) ∧ Ext w w' := by
  have HA := Lib.hid ha
  have HB := Lib.hid hb
  clear ha hb
  obtain ⟨m, hm⟩ : ∃ m, m = max a.length b.length := ⟨_, rfl⟩
  have hm2 : m ≤ 1000 := by omega
  have hmi : max (a.length : Int) (b.length : Int) = (m : Int) := by omega
  rw [← hm]
  go_enter Tryd.func31, Tryd.ntmps31
  go_wp2_with fail
  · have hml : (m : Int) = (b.length : Int) := by omega
    have hm3 : a.length ≤ m ∧ b.length ≤ m := by omega
    clear hm hmi
    go_loopw [5] (fun vi wr => ∃ n : Nat, vi = .int .i64 ((n : Int) - 1) ∧ n ≤ m ∧ above a b m = above a b n ∧ Ext w wr) (fun vi _ => (intOf vi + 1).toNat)
    case atStart => exact ⟨m, by rw [hml], Nat.le_refl _, rfl, Ext.refl _⟩
    case round =>
      obtain ⟨n, rfl, hn, hab, hxr⟩ := hrel
      have HX := Lib.hid hxr
      clear hxr
      rcases n with _ | n
      · go_wp2_with fail
        go_ret
        exact ⟨by rw [hab, above]; rfl, HX.out⟩
      · rw [show (((n + 1 : Nat) : Int) - 1) = (n : Int) by omega]
        have HCA := fun (hh : n < a.length) => (HA.out.ext HX.out).cell hh
        have HCB := fun (hh : n < b.length) => (HB.out.ext HX.out).cell hh
        obtain ⟨x, hx⟩ : ∃ x, x = a.getD n 0 := ⟨_, rfl⟩
        obtain ⟨y, hy⟩ : ∃ y, y = b.getD n 0 := ⟨_, rfl⟩
        have hab2 : above a b (n + 1) = if x = y then above a b n else decide (y < x) := by rw [above, hx, hy]
        rw [hab2] at hab
        rw [← hx] at HCA
        rw [← hy] at HCB
        have hxa : ¬ n < a.length → x = 0 := fun hh => by rw [hx, List.getD_eq_getElem?_getD, List.getElem?_eq_none (by omega)]; rfl
        have hyb : ¬ n < b.length → y = 0 := fun hh => by rw [hy, List.getD_eq_getElem?_getD, List.getElem?_eq_none (by omega)]; rfl
        have HAB := Lib.hid hab
        have HXA := Lib.hid hxa
        have HYB := Lib.hid hyb
        have FA := Lib.hid HCA
        have FB := Lib.hid HCB
        clear hx hy hab hab2 hxa hyb HCA HCB
        by_cases h1 : n < a.length
        · have c1 := FA.out h1
          by_cases h2 : n < b.length
          · have c2 := FB.out h2
            by_cases h3 : x = y
            · have t3 : ((x : Int) != (y : Int)) = false := by rw [bne_eq_false_iff_eq]; omega
              go_wp2_with fail
              go_roundw
              case rel => exact ⟨n, rfl, by omega, by rw [HAB.out, if_pos h3], HX.out⟩
              case measure => simp [intOf] <;> omega
            · have t3 : ((x : Int) != (y : Int)) = true := by rw [bne_iff_ne]; omega
              go_wp2_with fail
              go_ret
              have e := HAB.out
              rw [if_neg h3] at e
              refine ⟨?_, HX.out⟩
              rw [e]
              first | done | rfl | (simp; done)
          · obtain rfl := HYB.out h2
            by_cases h3 : x = 0
            · have t3 : ((x : Int) != (0 : Int)) = false := by rw [bne_eq_false_iff_eq]; omega
              go_wp2_with fail
              go_roundw
              case rel => exact ⟨n, rfl, by omega, by rw [HAB.out, if_pos h3], HX.out⟩
              case measure => simp [intOf] <;> omega
            · have t3 : ((x : Int) != (0 : Int)) = true := by rw [bne_iff_ne]; omega
              go_wp2_with fail
              go_ret
              have e := HAB.out
              rw [if_neg h3] at e
              refine ⟨?_, HX.out⟩
              rw [e]
              first | done | rfl | (simp; done)
        · obtain rfl := HXA.out h1
          by_cases h2 : n < b.length
          · have c2 := FB.out h2
            by_cases h3 : y = 0
            · have t3 : ((0 : Int) != (y : Int)) = false := by rw [bne_eq_false_iff_eq]; omega
              go_wp2_with fail
              go_roundw
              case rel => exact ⟨n, rfl, by omega, by rw [HAB.out, if_pos h3.symm], HX.out⟩
              case measure => simp [intOf] <;> omega
            · have t3 : ((0 : Int) != (y : Int)) = true := by rw [bne_iff_ne]; omega
              go_wp2_with fail
              go_ret
              have e := HAB.out
              rw [if_neg (fun h => h3 h.symm)] at e
              refine ⟨?_, HX.out⟩
              rw [e]
              first | done | rfl | (simp; done)
          · omega
  · have hml : (m : Int) = (a.length : Int) := by omega
    have hm3 : a.length ≤ m ∧ b.length ≤ m := by omega
    clear hm hmi
    go_loopw [5] (fun vi wr => ∃ n : Nat, vi = .int .i64 ((n : Int) - 1) ∧ n ≤ m ∧ above a b m = above a b n ∧ Ext w wr) (fun vi _ => (intOf vi + 1).toNat)
    case atStart => exact ⟨m, by rw [hml], Nat.le_refl _, rfl, Ext.refl _⟩
    case round =>
      obtain ⟨n, rfl, hn, hab, hxr⟩ := hrel
      have HX := Lib.hid hxr
      clear hxr
      rcases n with _ | n
      · go_wp2_with fail
        go_ret
        exact ⟨by rw [hab, above]; rfl, HX.out⟩
      · rw [show (((n + 1 : Nat) : Int) - 1) = (n : Int) by omega]
        have HCA := fun (hh : n < a.length) => (HA.out.ext HX.out).cell hh
        have HCB := fun (hh : n < b.length) => (HB.out.ext HX.out).cell hh
        obtain ⟨x, hx⟩ : ∃ x, x = a.getD n 0 := ⟨_, rfl⟩
        obtain ⟨y, hy⟩ : ∃ y, y = b.getD n 0 := ⟨_, rfl⟩
        have hab2 : above a b (n + 1) = if x = y then above a b n else decide (y < x) := by rw [above, hx, hy]
        rw [hab2] at hab
        rw [← hx] at HCA
        rw [← hy] at HCB
        have hxa : ¬ n < a.length → x = 0 := fun hh => by rw [hx, List.getD_eq_getElem?_getD, List.getElem?_eq_none (by omega)]; rfl
        have hyb : ¬ n < b.length → y = 0 := fun hh => by rw [hy, List.getD_eq_getElem?_getD, List.getElem?_eq_none (by omega)]; rfl
        have HAB := Lib.hid hab
        have HXA := Lib.hid hxa
        have HYB := Lib.hid hyb
        have FA := Lib.hid HCA
        have FB := Lib.hid HCB
        clear hx hy hab hab2 hxa hyb HCA HCB
        by_cases h1 : n < a.length
        · have c1 := FA.out h1
          by_cases h2 : n < b.length
          · have c2 := FB.out h2
            by_cases h3 : x = y
            · have t3 : ((x : Int) != (y : Int)) = false := by rw [bne_eq_false_iff_eq]; omega
              go_wp2_with fail
              go_roundw
              case rel => exact ⟨n, rfl, by omega, by rw [HAB.out, if_pos h3], HX.out⟩
              case measure => simp [intOf] <;> omega
            · have t3 : ((x : Int) != (y : Int)) = true := by rw [bne_iff_ne]; omega
              go_wp2_with fail
              go_ret
              have e := HAB.out
              rw [if_neg h3] at e
              refine ⟨?_, HX.out⟩
              rw [e]
              first | done | rfl | (simp; done)
          · obtain rfl := HYB.out h2
            by_cases h3 : x = 0
            · have t3 : ((x : Int) != (0 : Int)) = false := by rw [bne_eq_false_iff_eq]; omega
              go_wp2_with fail
              go_roundw
              case rel => exact ⟨n, rfl, by omega, by rw [HAB.out, if_pos h3], HX.out⟩
              case measure => simp [intOf] <;> omega
            · have t3 : ((x : Int) != (0 : Int)) = true := by rw [bne_iff_ne]; omega
              go_wp2_with fail
              go_ret
              have e := HAB.out
              rw [if_neg h3] at e
              refine ⟨?_, HX.out⟩
              rw [e]
              first | done | rfl | (simp; done)
        · obtain rfl := HXA.out h1
          by_cases h2 : n < b.length
          · have c2 := FB.out h2
            by_cases h3 : y = 0
            · have t3 : ((0 : Int) != (y : Int)) = false := by rw [bne_eq_false_iff_eq]; omega
              go_wp2_with fail
              go_roundw
              case rel => exact ⟨n, rfl, by omega, by rw [HAB.out, if_pos h3.symm], HX.out⟩
              case measure => simp [intOf] <;> omega
            · have t3 : ((0 : Int) != (y : Int)) = true := by rw [bne_iff_ne]; omega
              go_wp2_with fail
              go_ret
              have e := HAB.out
              rw [if_neg (fun h => h3 h.symm)] at e
              refine ⟨?_, HX.out⟩
              rw [e]
              first | done | rfl | (simp; done)
          · omega
end Go.Proofs.YtphifnknbaebkaaDoor
