/-
  Names read from texts, by the package.
-/
import Derived.Test.YtgbdckiojjmncaaNamE
import Derived.WalkMore
namespace Go.Proofs.Ytgbdckiojjmncaa
open Go.RowKit

/-- the size of a value that is a string -/
def strSz : Value → Nat
  | .string s => s.size
  | _ => 0
theorem OwnS.keep {w w' : World} {E : TypeId} {base c : Nat} {A : Option Addr} {ss : List ByteArray} (h : OwnS w E base A c ss) (hk : ∀ g o, A = some ⟨g, 0, none⟩ → base ≤ g → w.heap[g]? = some o → w'.heap[g]? = some o) : OwnS w' E base A c ss := by
  refine ⟨h.1, ?_⟩
  rcases h.2 with h' | ⟨g, cap, cs, hv, hg, hh, r⟩
  · exact .inl h'
  · refine .inr ⟨g, cap, cs, hv, hg, hk g _ ?_ hg hh, r⟩
    injection hv
/-- a value is a name, or the zero name -/
def NmR (w : World) (v : Value) (o : Option (List UInt8 × List (List UInt8))) : Prop :=
  ∃ (t : ByteArray) (A : Option Addr) (c : Nat) (ss : List ByteArray), v = .agg #[.string t, .slice A ss.length c] ∧ SR w (fun _ _ => True) A ss ∧ ss.length ≤ c ∧ c ≤ maxLen ∧ bl t = (o.getD ([], [])).1 ∧ bls ss = (o.getD ([], [])).2
theorem NmR.none (w : World) : NmR w (.agg #[.string ⟨#[]⟩, .slice none 0 0]) none := ⟨⟨#[]⟩, _, 0, [], rfl, SR.nil _ _ _, Nat.le_refl _, by simp [maxLen], rfl, rfl⟩
theorem NmR.ext {w w' : World} {v : Value} {o : Option (List UInt8 × List (List UInt8))} (h : NmR w v o) (hb : Ext w w') : NmR w' v o := by
  obtain ⟨t, A, c, ss, h1, h2, h3⟩ := h
  exact ⟨t, A, c, ss, h1, h2.ext hb, h3⟩
theorem pp_step (f : Nat) (l : List UInt8) : pp (f + 1) l = match nx l with
    | none => none
    | some (w, m, rest) => if m = 47 then (pp f rest).map fun x => (w :: x.1, x.2) else if m = 64 then some ([w], rest) else none := rfl
/-- parts ahead of what is read -/
def ppa (acc : List (List UInt8)) (o : Option (List (List UInt8) × List UInt8)) : Option (List (List UInt8) × List UInt8) := o.map fun x => (acc ++ x.1, x.2)
theorem ppa_nil (o : Option (List (List UInt8) × List UInt8)) : ppa [] o = o := by
  unfold ppa
  cases o with
  | none => rfl
  | some x => simp
theorem ppa_47 {acc : List (List UInt8)} {f : Nat} {l w rest : List UInt8} {m : UInt8} (h : nxr l = (w, m, rest)) (hm : m = 47) : ppa acc (pp (f + 1) l) = ppa (acc ++ [w]) (pp f rest) := by
  unfold nxr at h
  cases hn : nx l with
  | none =>
    rw [hn] at h
    simp only [Option.getD_none, Prod.mk.injEq] at h
    rw [hm] at h
    exact absurd h.2.1 (by decide)
  | some x =>
    rw [hn] at h
    simp only [Option.getD_some] at h
    subst h
    rw [pp_step, hn]
    simp only
    rw [if_pos hm]
    unfold ppa
    rw [Option.map_map]
    congr 1
    funext y
    simp
theorem ppa_64 {acc : List (List UInt8)} {f : Nat} {l w rest : List UInt8} {m : UInt8} (h : nxr l = (w, m, rest)) (hm : m = 64) : ppa acc (pp (f + 1) l) = some (acc ++ [w], rest) := by
  unfold nxr at h
  cases hn : nx l with
  | none =>
    rw [hn] at h
    simp only [Option.getD_none, Prod.mk.injEq] at h
    rw [hm] at h
    exact absurd h.2.1 (by decide)
  | some x =>
    rw [hn] at h
    simp only [Option.getD_some] at h
    subst h
    rw [pp_step, hn]
    simp only
    rw [if_neg (by rw [hm]; decide), if_pos hm]
    rfl
theorem ppa_no {acc : List (List UInt8)} {f : Nat} {l w rest : List UInt8} {m : UInt8} (h : nxr l = (w, m, rest)) (h1 : m ≠ 47) (h2 : m ≠ 64) : ppa acc (pp (f + 1) l) = none := by
  unfold nxr at h
  cases hn : nx l with
  | none =>
    rw [pp_step, hn]
    rfl
  | some x =>
    rw [hn] at h
    simp only [Option.getD_some] at h
    subst h
    rw [pp_step, hn]
    simp only
    rw [if_neg h1, if_neg h2]
    rfl
theorem nxr_rest {l w rest : List UInt8} {m : UInt8} (h : nxr l = (w, m, rest)) (hm : m = 47 ∨ m = 64) : rest.length + 1 ≤ l.length := by
  unfold nxr at h
  cases hn : nx l with
  | none =>
    rw [hn] at h
    simp only [Option.getD_none, Prod.mk.injEq] at h
    rw [← h.2.1] at hm
    rcases hm with h | h <;> exact absurd h (by decide)
  | some x =>
    rw [hn] at h
    simp only [Option.getD_some] at h
    subst h
    rcases nx_sound _ l (Nat.le_refl _) _ _ _ hn with ⟨e, _⟩ | ⟨_, e⟩
    · rw [e] at hm
      rcases hm with h | h <;> exact absurd h (by decide)
    · have := congrArg List.length e
      rw [List.length_append, List.length_cons] at this
      omega
theorem esc_ge (l : List UInt8) : l.length ≤ (esc l).length := by
  induction l with
  | nil => simp [esc]
  | cons c l ih =>
    rw [esc_cons, List.length_append, List.length_cons]
    have : 1 ≤ (es c).length := by unfold es; split <;> simp
    omega
theorem nxr_word {l w rest : List UInt8} {m : UInt8} (h : nxr l = (w, m, rest)) : w.length ≤ l.length := by
  unfold nxr at h
  cases hn : nx l with
  | none =>
    rw [hn] at h
    simp only [Option.getD_none, Prod.mk.injEq] at h
    rw [← h.1]
    simp
  | some x =>
    rw [hn] at h
    simp only [Option.getD_some] at h
    subst h
    have he := esc_ge w
    rcases nx_sound _ l (Nat.le_refl _) _ _ _ hn with ⟨_, _, e⟩ | ⟨_, e⟩
    · rw [e]; exact he
    · rw [e, List.length_append]; omega
/-- what is made of the parts and of what follows the at sign -/
theorem prs_of {l : List UInt8} {ps : List (List UInt8)} {rest r x : List UInt8} {m : UInt8} (hp : pp (l.length + 1) l = some (ps, rest)) (h : nxr rest = (r, m, x)) : prs l = if m = 0 ∧ vl r ps = true then some (r, ps) else none := by
  unfold nxr at h
  unfold prs
  rw [hp]
  simp only
  cases hn : nx rest with
  | none =>
    rw [hn] at h
    simp only [Option.getD_none, Prod.mk.injEq] at h
    have hv : vl r ps = false := by
      rw [← h.1]
      unfold vl
      rw [show wd [] = false from rfl, Bool.and_false]
    simp [hv]
  | some y =>
    rw [hn] at h
    simp only [Option.getD_some] at h
    subst h
    rfl
theorem prs_none {l : List UInt8} (hp : pp (l.length + 1) l = none) : prs l = none := by
  unfold prs
  rw [hp]

theorem parse_store {w w2 : World} {E : TypeId} {A A2 : Option Addr} {d c2 : Nat} {ws : List ByteArray} {t : ByteArray} (hg2 : w2.heap[w.heap.size]? = some (.cells #[.string ⟨#[]⟩, .slice none 0 0] 24 (0, 0)))
    (hg4 : w2.heap[w.heap.size + 1]? = some (.cells #[.string ⟨#[]⟩, .slice A ws.length d] 24 (0, 0))) (ho : OwnV w2 E (w.heap.size + 2) A2 c2 (ws.map Value.string ++ [Value.string t])) (hx : Ext w w2) :
    ∃ W, W = w2.setCell ⟨w.heap.size + 1, 1, none⟩ (.slice A2 (ws.length + 1) c2) ∧ W.heap[w.heap.size]? = some (.cells #[.string ⟨#[]⟩, .slice none 0 0] 24 (0, 0)) ∧
      W.heap[w.heap.size + 1]? = some (.cells #[.string ⟨#[]⟩, .slice A2 (ws ++ [t]).length c2] 24 (0, 0)) ∧ OwnS W E (w.heap.size + 2) A2 c2 (ws ++ [t]) ∧ Ext w W := by
  refine ⟨_, rfl, ?_, ?_, ?_, hx.setCell (by show w.heap.size ≤ w.heap.size + 1; omega) _⟩
  · rw [Below.heap_setCell _ _ _ _ (by show w.heap.size ≠ w.heap.size + 1; omega)]
    exact hg2
  · rw [set_of hg4 1 _]
    simp
  · have ho' : OwnV w2 E (w.heap.size + 2) A2 c2 ((ws ++ [t]).map Value.string) := by
      rw [List.map_append]
      exact ho
    refine ho'.s.keep fun g o _ hb hh => ?_
    rw [Below.heap_setCell _ _ _ _ (by show g ≠ w.heap.size + 1; omega)]
    exact hh
/-- a struct of two cells is stored -/
theorem two_stored {W : World} {g : Nat} {a b x y : Value} {T : TypeId} (h : W.heap[g]? = some (.cells #[a, b] T (0, 0))) : ((W.setCell ⟨g, 0, none⟩ x).setCell ⟨g, 1, none⟩ y).heap[g]? = some (.cells #[x, y] T (0, 0)) := by
  have h1 := set_of h 0 x
  have h2 := set_of h1 1 y
  simpa using h2
theorem OwnS.set2 {W : World} {E : TypeId} {base c g : Nat} {A : Option Addr} {ss : List ByteArray} {x y : Value} (h : OwnS W E base A c ss) (hg : g < base) : OwnS ((W.setCell ⟨g, 0, none⟩ x).setCell ⟨g, 1, none⟩ y) E base A c ss := by
  refine h.keep fun g' o _ hb hh => ?_
  rw [Below.heap_setCell _ _ _ _ (by show g' ≠ g; omega), Below.heap_setCell _ _ _ _ (by show g' ≠ g; omega)]
  exact hh
theorem OwnS.set1 {W : World} {E : TypeId} {base c g i : Nat} {A : Option Addr} {ss : List ByteArray} {x : Value} (h : OwnS W E base A c ss) (hg : g < base) : OwnS (W.setCell ⟨g, i, none⟩ x) E base A c ss := by
  refine h.keep fun g' o _ hb hh => ?_
  rw [Below.heap_setCell _ _ _ _ (by show g' ≠ g; omega)]
  exact hh
theorem bne_u8_t {c : UInt8} (h : c ≠ 0) : ((c.toNat : Int) != 0) = true := bne_t (u8_ne (y := 0) h)
theorem bne_u8_f {c : UInt8} (h : c = 0) : ((c.toNat : Int) != 0) = false := bne_f (by rw [h]; rfl)

set_option maxRecDepth 100000 in
set_option maxHeartbeats 4000000 in
theorem parse_c (s : ByteArray) (w : World) (hs : s.size ≤ 9223372036854775807) : Calls Try.prog 14 #[.string s] w fun e w' => ∃ v, e = .returned (.tuple #[v, .bool (prs (bl s)).isSome]) ∧ NmR w' v (prs (bl s)) ∧ Ext w w' := by
  by_cases h1 : 1808 < s.size
  · have hl := prs_long (l := bl s) (by rw [bl_len]; exact h1)
    rw [hl]
    have t1 : (1808 : Int) < (s.size : Int) := by omega
    clear hl h1
    go_enter Try.func14, Try.ntmps14
    go_wp2_with fail
    go_step3
    go_wp2_with fail
    rw [Exit.noGoto_ret]
    refine bodyPost_ret (v := .tuple #[.agg #[.string ⟨#[]⟩, .slice none 0 0], .bool false]) ?_ rfl ⟨_, rfl, NmR.none _, Ext.alloc _ _⟩
    have e0 := cells_of (new_of w (.cells #[.string ⟨#[]⟩, .slice none 0 0] 24)) 0
    have e1 := cells_of (new_of w (.cells #[.string ⟨#[]⟩, .slice none 0 0] 24)) 1
    simp [results, Try.results14, go_sem, e0, e1]
  · obtain ⟨i0, hi0, hz0, hz1, hz2⟩ := info_parts' info_str
    have t1 : (s.size : Int) ≤ 1808 := by omega
    go_enter Try.func14, Try.ntmps14
    go_wp2_with fail
    go_step3
    go_wp2_with fail
    go_step3
    go_wp2_with fail
    go_loopw [0] (fun c0 wr => ∃ (cur : ByteArray) (ws : List ByteArray) (A : Option Addr) (d f : Nat), c0 = .string cur ∧ ws.length + cur.size ≤ s.size ∧ cur.size < f ∧ pp ((bl s).length + 1) (bl s) = ppa (bls ws) (pp f (bl cur)) ∧ wr.heap[w.heap.size]? = some (.cells #[.string ⟨#[]⟩, .slice none 0 0] 24 (0, 0)) ∧
      wr.heap[w.heap.size + 1]? = some (.cells #[.string ⟨#[]⟩, .slice A ws.length d] 24 (0, 0)) ∧ OwnS wr 9 (w.heap.size + 2) A d ws ∧ Ext w wr ∧ ∀ t ∈ ws, t.size ≤ 1808) (fun c0 _ => strSz c0)
    case atStart => exact ⟨s, [], none, 0, s.size + 1, rfl, by simp, by omega, by rw [bl_len]; exact (ppa_nil _).symm, (two_new _ _ _).1, (two_new _ _ _).2, OwnS.nil _ _ _, (Ext.alloc _ _).tr (Ext.alloc _ _), by simp⟩
    case round =>
      obtain ⟨cur, ws, A, d, f, rfl, hwc, hcf, hpp, hg2, hg4, hor, hx, hzs⟩ := hrel
      obtain ⟨f, rfl⟩ : ∃ f', f = f' + 1 := ⟨f - 1, by omega⟩
      have hnext := next_c cur wr (by omega)
      obtain ⟨⟨x, m, y⟩, hxy⟩ : ∃ p, nxr (bl cur) = p := ⟨_, rfl⟩
      rw [hxy] at hnext
      have hcl := bl_len cur
      have hwx := nxr_word hxy
      have HZS := Lib.hid hzs
      clear hzs
      have HG2 := Lib.hid hg2
      have HG4 := Lib.hid hg4
      have HOR := Lib.hid hor
      have HX := Lib.hid hx
      have HNEXT := Lib.hid hnext
      clear hg2 hg4 hor hx hnext
      by_cases q1 : m = 47
      · have t47 := beq_t (a := (m.toNat : Int)) (b := 47) (by rw [q1]; rfl)
        have hst := hpp.trans (ppa_47 hxy q1)
        have hrest := nxr_rest hxy (.inl q1)
        have HST := Lib.hid hst
        clear hpp hst hxy q1
        have hnx1 := HOR.out.ge
        go_wp2_with fail
        refine HNEXT.out.mono ?_
        rintro e w1 ⟨t, u, rfl, ht, hu, hx1⟩
        have hg4' := hx1.get HG4.out
        have k1 : w1.cell? ⟨w.heap.size + 1, 1, none⟩ = some (.slice A ws.length d) := cells_of hg4' 1
        have hxa := hx1.tr (Ext.alloc w1 (.cells #[.string t] 9))
        have HOR1 := Lib.hid (HOR.out.ext hxa).v
        have hg2a := hxa.get HG2.out
        have hg4a := hxa.get HG4.out
        have HXA := Lib.hid (HX.out.tr hxa)
        have HG2A := Lib.hid hg2a
        have HG4A := Lib.hid hg4a
        have hsz := (HX.out.tr hx1).size
        have hlen := lt_of_some (hx1.get HG4.out)
        have HT := Lib.hid ht
        have HU := Lib.hid hu
        have HGE := Lib.hid hnx1
        clear ht hu hxa hx1 hg4' hg2a hg4a HNEXT hnx1
        have hml : (ws.map Value.string).length = ws.length := List.length_map _
        go_wp2_with (at_builtin; refine wpList_append_one _ rfl _ _ 22 rfl (w.heap.size + 2) 9 i0 (.string ByteArray.empty) 16 Try.underlying22 hi0 hz0 hz1 hz2 rfl A d (ws.map Value.string) (by rw [hml]; rfl) HOR1.out w1.heap.size (.string t) rfl (cells_of (new_of _ _) 0) rfl (by rw [hml]; unfold maxLen; omega) (by rw [hml]; omega) (by simp; omega) ?_
                     intro A2 c2 w2 ho2 hgr2
                     have hne : ∀ g, (Value.slice A (ws.map Value.string).length d).ownBlock = some g → w.heap.size + 2 ≤ g := by rw [hml]; exact HGE.out
                     have hg2b := grown_get hgr2 HG2A.out (fun e => by have := hne _ e; omega)
                     have hg4b := grown_get hgr2 HG4A.out (fun e => by have := hne _ e; omega)
                     have hxb : Ext w w2 := grown_new HXA.out hgr2 (fun g hg => by have := hne g hg; omega)
                     obtain ⟨W, hW, hg2c, hg4c, hoc, hxc⟩ := parse_store hg2b hg4b ho2 hxb
                     have c4 : w2.cell? ⟨w.heap.size + 1, 1, none⟩ = some (.slice A ws.length d) := cells_of hg4b 1
                     have f4 : w2.frozen? ⟨w.heap.size + 1, 1, none⟩ = false := free_of hg4b 1
                     have HWW := Lib.hid hW
                     have HG2C := Lib.hid hg2c
                     have HG4C := Lib.hid hg4c
                     have HOC := Lib.hid hoc
                     have HXC := Lib.hid hxc
                     have G2B := Lib.hid hg2b
                     clear ho2 hgr2 hne hg4b hxb hW hg2c hg4c hoc hxc hg2b )
        rw [← HWW.out]
        have hus : u.size = y.length := by rw [← bl_len, HU.out]
        go_roundw
        case rel => exact ⟨u, ws ++ [t], A2, c2, f, rfl, by rw [List.length_append, hus]; simp; omega, by omega, by rw [HST.out, bls_snoc, HT.out, HU.out], HG2C.out, HG4C.out, HOC.out, HXC.out, fun t' ht' => by rcases List.mem_append.1 ht' with h | h; exact HZS.out t' h; simp at h; rw [h, ← bl_len, HT.out]; omega⟩
        case measure => simp only [strSz]; omega
      · have t47 := beq_f (a := (m.toNat : Int)) (b := 47) (u8_ne q1)
        by_cases q2 : m = 64
        · have t64 := beq_t (a := (m.toNat : Int)) (b := 64) (by rw [q2]; rfl)
          have hst := hpp.trans (ppa_64 hxy q2)
          have hrest := nxr_rest hxy (.inr q2)
          have HST := Lib.hid hst
          clear hpp hst hxy q1 q2
          have hnx1 := HOR.out.ge
          go_wp2_with fail
          refine HNEXT.out.mono ?_
          rintro e w1 ⟨t, u, rfl, ht, hu, hx1⟩
          have hg4' := hx1.get HG4.out
          have k1 : w1.cell? ⟨w.heap.size + 1, 1, none⟩ = some (.slice A ws.length d) := cells_of hg4' 1
          have hxa := hx1.tr (Ext.alloc w1 (.cells #[.string t] 9))
          have HOR1 := Lib.hid (HOR.out.ext hxa).v
          have hg2a := hxa.get HG2.out
          have hg4a := hxa.get HG4.out
          have HXA := Lib.hid (HX.out.tr hxa)
          have HG2A := Lib.hid hg2a
          have HG4A := Lib.hid hg4a
          have hsz := (HX.out.tr hx1).size
          have hlen := lt_of_some (hx1.get HG4.out)
          have HT := Lib.hid ht
          have HU := Lib.hid hu
          have HGE := Lib.hid hnx1
          clear ht hu hxa hx1 hg4' hg2a hg4a HNEXT hnx1
          have hml : (ws.map Value.string).length = ws.length := List.length_map _
          go_wp2_with (at_builtin; refine wpList_append_one _ rfl _ _ 22 rfl (w.heap.size + 2) 9 i0 (.string ByteArray.empty) 16 Try.underlying22 hi0 hz0 hz1 hz2 rfl A d (ws.map Value.string) (by rw [hml]; rfl) HOR1.out w1.heap.size (.string t) rfl (cells_of (new_of _ _) 0) rfl (by rw [hml]; unfold maxLen; omega) (by rw [hml]; omega) (by simp; omega) ?_
                       intro A2 c2 w2 ho2 hgr2
                       have hne : ∀ g, (Value.slice A (ws.map Value.string).length d).ownBlock = some g → w.heap.size + 2 ≤ g := by rw [hml]; exact HGE.out
                       have hg2b := grown_get hgr2 HG2A.out (fun e => by have := hne _ e; omega)
                       have hg4b := grown_get hgr2 HG4A.out (fun e => by have := hne _ e; omega)
                       have hxb : Ext w w2 := grown_new HXA.out hgr2 (fun g hg => by have := hne g hg; omega)
                       obtain ⟨W, hW, hg2c, hg4c, hoc, hxc⟩ := parse_store hg2b hg4b ho2 hxb
                       have c4 : w2.cell? ⟨w.heap.size + 1, 1, none⟩ = some (.slice A ws.length d) := cells_of hg4b 1
                       have f4 : w2.frozen? ⟨w.heap.size + 1, 1, none⟩ = false := free_of hg4b 1
                       have HWW := Lib.hid hW
                       have HG2C := Lib.hid hg2c
                       have HG4C := Lib.hid hg4c
                       have HOC := Lib.hid hoc
                       have HXC := Lib.hid hxc
                       have G2B := Lib.hid hg2b
                       clear ho2 hgr2 hne hg4b hxb hW hg2c hg4c hoc hxc hg2b )
          rw [← HWW.out]
          have hup := HU.out
          have hns := next_c u W (by rw [← bl_len, HU.out]; omega)
          obtain ⟨⟨r, m2, x2⟩, hry⟩ : ∃ p, nxr y = p := ⟨_, rfl⟩
          rw [hup, hry] at hns
          have hpr := prs_of HST.out hry
          rw [HT.out.symm, ← bls_snoc] at hpr
          have HPR := Lib.hid hpr
          have HNS := Lib.hid hns
          have HRY := Lib.hid hry
          clear hup hns hry hpr
          refine HNS.out.mono ?_
          rintro e w3 ⟨t3, u3', rfl, ht3, hu3, hx3⟩
          have hg4d := hx3.get HG4C.out
          have hg2d := hx3.get HG2C.out
          have r4 : w3.cell? ⟨w.heap.size + 1, 0, none⟩ = some (.string ⟨#[]⟩) := cells_of hg4d 0
          have r5 : w3.cell? ⟨w.heap.size + 1, 1, none⟩ = some (.slice A2 (ws ++ [t]).length c2) := cells_of hg4d 1
          have p4 : w3.frozen? ⟨w.heap.size + 1, 0, none⟩ = false := free_of hg4d 0
          have p40 : w3.frozen? ⟨w.heap.size + 1, 1, none⟩ = false := free_of hg4d 1
          have z0 : w3.cell? ⟨w.heap.size, 0, none⟩ = some (.string ⟨#[]⟩) := cells_of hg2d 0
          have z1 : w3.cell? ⟨w.heap.size, 1, none⟩ = some (.slice none 0 0) := cells_of hg2d 1
          have y0 : w3.frozen? ⟨w.heap.size, 0, none⟩ = false := free_of hg2d 0
          have y1 : w3.frozen? ⟨w.heap.size, 1, none⟩ = false := free_of hg2d 1
          have hoc3 := HOC.out.ext hx3
          have hg4e := set_of hg4d 0 (.string t3)
          have hg2e : (w3.setCell ⟨w.heap.size + 1, 0, none⟩ (.string t3)).heap[w.heap.size]? = some (.cells #[.string ⟨#[]⟩, .slice none 0 0] 24 (0, 0)) := by
            rw [Below.heap_setCell _ _ _ _ (by show w.heap.size ≠ w.heap.size + 1; omega)]
            exact hg2d
          have hoe := hoc3.set1 (g := w.heap.size + 1) (i := 0) (x := .string t3) (by omega)
          have hxe : Ext w (w3.setCell ⟨w.heap.size + 1, 0, none⟩ (.string t3)) := (HXC.out.tr hx3).setCell (p := ⟨w.heap.size + 1, 0, none⟩) (by show w.heap.size ≤ w.heap.size + 1; omega) (.string t3)
          have HT3 := Lib.hid ht3
          have HG2E := Lib.hid hg2e
          have hg4g : (w3.setCell ⟨w.heap.size + 1, 0, none⟩ (.string t3)).heap[w.heap.size + 1]? = some (.cells #[.string t3, .slice A2 (ws.length + 1) c2] 24 (0, 0)) := by rw [hg4e]; simp
          have HG4E := Lib.hid hg4g
          clear hg4g
          have HOE := Lib.hid hoe
          have HXE := Lib.hid hxe
          clear hx3 hg4d hg2d hoc3 ht3 hu3 HNS hg4e hg2e hoe hxe
          obtain ⟨ws2, hws2⟩ : ∃ ws2, ws2 = ws ++ [t] := ⟨_, rfl⟩
          have hz2 : ∀ t' ∈ ws2, t'.size ≤ 9223372036854775807 := fun t' ht' => by
            rw [hws2] at ht'
            rcases List.mem_append.1 ht' with h | h
            · have := HZS.out t' h; omega
            · simp at h; rw [h, ← bl_len, HT.out]; omega
          have HZ2 := Lib.hid hz2
          have hwr := nxr_word HRY.out
          rw [← hws2] at r5 HOE HPR
          have hwl : ws2.length = ws.length + 1 := by rw [hws2, List.length_append]; rfl
          clear hws2 HOC HG4C
          by_cases q3 : m2 = 0
          · have tm := bne_u8_f q3
            have hvl := valid_c t3 A2 c2 ws2 _ (w3.setCell ⟨w.heap.size + 1, 0, none⟩ (.string t3)) HOE.out.sr (by rw [← bl_len, HT3.out]; show r.length ≤ _; omega) HZ2.out (by omega)
            rw [HT3.out, hwl] at hvl
            have HVL := Lib.hid hvl
            have hws3 := HOE.out.le
            have HW3 := Lib.hid hws3
            clear hvl hz2 hws3
            by_cases hv : vl r (bls ws2) = true
            · have hres : prs (bl s) = some (r, bls ws2) := by rw [HPR.out, if_pos ⟨q3, hv⟩]
              rw [hv] at HVL
              have HRES := Lib.hid hres
              clear hres hv q3
              go_wp2_with fail
              refine HVL.out.mono ?_
              rintro e w4 ⟨rfl, hx4⟩
              have hg2f := hx4.get HG2E.out
              have hg4f := hx4.get HG4E.out
              have v4 : w4.cell? ⟨w.heap.size + 1, 0, none⟩ = some (.string t3) := cells_of hg4f 0
              have v5 : w4.cell? ⟨w.heap.size + 1, 1, none⟩ = some (.slice A2 (ws.length + 1) c2) := cells_of hg4f 1
              have x0 : w4.cell? ⟨w.heap.size, 0, none⟩ = some (.string ⟨#[]⟩) := cells_of hg2f 0
              have x1 : w4.cell? ⟨w.heap.size, 1, none⟩ = some (.slice none 0 0) := cells_of hg2f 1
              have b0 : w4.frozen? ⟨w.heap.size, 0, none⟩ = false := free_of hg2f 0
              have b1 : w4.frozen? ⟨w.heap.size, 1, none⟩ = false := free_of hg2f 1
              have hgz := two_stored (x := .string t3) (y := .slice A2 (ws.length + 1) c2) hg2f
              have hoz := (HOE.out.ext hx4).set2 (g := w.heap.size) (x := .string t3) (y := .slice A2 (ws.length + 1) c2) (by omega)
              have HGZ := Lib.hid hgz
              have HOZ := Lib.hid hoz
              have HXZ := Lib.hid (((HXE.out.tr hx4).setCell (p := ⟨w.heap.size, 0, none⟩) (Nat.le_refl _) (.string t3)).setCell (p := ⟨w.heap.size, 1, none⟩) (Nat.le_refl _) (.slice A2 (ws.length + 1) c2))
              clear hx4 hg2f hg4f hgz hoz HVL
              go_wp2_with fail
              rw [Exit.noGoto_ret]
              have e0 := cells_of HGZ.out 0
              have e1 := cells_of HGZ.out 1
              refine bodyPost_ret (v := .tuple #[.agg #[.string t3, .slice A2 (ws.length + 1) c2], .bool true]) (by simp [results, Try.results14, go_sem, e0, e1]) rfl ⟨_, ?_, ⟨t3, A2, c2, ws2, by rw [hwl], HOZ.out.sr.more (fun _ _ _ => trivial), HW3.out.1, HW3.out.2, by rw [HRES.out]; exact HT3.out, by rw [HRES.out]; rfl⟩, HXZ.out⟩
              rw [HRES.out]
              rfl
            · have hv' : vl r (bls ws2) = false := by simpa using hv
              have hres : prs (bl s) = none := by rw [HPR.out, if_neg (fun h => hv h.2)]
              rw [hv'] at HVL
              have HRES := Lib.hid hres
              clear hres hv hv' q3
              go_wp2_with fail
              refine HVL.out.mono ?_
              rintro e w4 ⟨rfl, hx4⟩
              have hg2f := hx4.get HG2E.out
              have x0 : w4.cell? ⟨w.heap.size, 0, none⟩ = some (.string ⟨#[]⟩) := cells_of hg2f 0
              have x1 : w4.cell? ⟨w.heap.size, 1, none⟩ = some (.slice none 0 0) := cells_of hg2f 1
              have b0 : w4.frozen? ⟨w.heap.size, 0, none⟩ = false := free_of hg2f 0
              have b1 : w4.frozen? ⟨w.heap.size, 1, none⟩ = false := free_of hg2f 1
              have hgz := two_stored (x := .string ⟨#[]⟩) (y := .slice none 0 0) hg2f
              have HGZ := Lib.hid hgz
              have HXZ := Lib.hid (((HXE.out.tr hx4).setCell (p := ⟨w.heap.size, 0, none⟩) (Nat.le_refl _) (.string ⟨#[]⟩)).setCell (p := ⟨w.heap.size, 1, none⟩) (Nat.le_refl _) (.slice none 0 0))
              clear hx4 hg2f hgz HVL
              go_wp2_with fail
              rw [Exit.noGoto_ret]
              have e0 := cells_of HGZ.out 0
              have e1 := cells_of HGZ.out 1
              refine bodyPost_ret (v := .tuple #[.agg #[.string ⟨#[]⟩, .slice none 0 0], .bool false]) (by simp [results, Try.results14, go_sem, e0, e1]) rfl ⟨_, ?_, by rw [HRES.out]; exact NmR.none _, HXZ.out⟩
              rw [HRES.out]
              rfl
          · have tm := bne_u8_t q3
            have hres : prs (bl s) = none := by rw [HPR.out, if_neg (fun h => q3 h.1)]
            have HRES := Lib.hid hres
            have hgz := two_stored (x := .string ⟨#[]⟩) (y := .slice none 0 0) HG2E.out
            have HGZ := Lib.hid hgz
            have HXZ := Lib.hid ((HXE.out.setCell (p := ⟨w.heap.size, 0, none⟩) (Nat.le_refl _) (.string ⟨#[]⟩)).setCell (p := ⟨w.heap.size, 1, none⟩) (Nat.le_refl _) (.slice none 0 0))
            clear hres q3 hgz hz2
            go_wp2_with fail
            rw [Exit.noGoto_ret]
            have e0 := cells_of HGZ.out 0
            have e1 := cells_of HGZ.out 1
            refine bodyPost_ret (v := .tuple #[.agg #[.string ⟨#[]⟩, .slice none 0 0], .bool false]) (by simp [results, Try.results14, go_sem, e0, e1]) rfl ⟨_, ?_, by rw [HRES.out]; exact NmR.none _, HXZ.out⟩
            rw [HRES.out]
            rfl
        · have t64 := beq_f (a := (m.toNat : Int)) (b := 64) (u8_ne q2)
          have hst := hpp.trans (ppa_no hxy q1 q2)
          have hres := prs_none hst
          have HRES := Lib.hid hres
          clear hpp hst hxy q1 q2 hres
          have hnx1 := HOR.out.ge
          go_wp2_with fail
          refine HNEXT.out.mono ?_
          rintro e w1 ⟨t, u, rfl, ht, hu, hx1⟩
          have hg4' := hx1.get HG4.out
          have k1 : w1.cell? ⟨w.heap.size + 1, 1, none⟩ = some (.slice A ws.length d) := cells_of hg4' 1
          have hxa := hx1.tr (Ext.alloc w1 (.cells #[.string t] 9))
          have HOR1 := Lib.hid (HOR.out.ext hxa).v
          have hg2a := hxa.get HG2.out
          have hg4a := hxa.get HG4.out
          have HXA := Lib.hid (HX.out.tr hxa)
          have HG2A := Lib.hid hg2a
          have HG4A := Lib.hid hg4a
          have hsz := (HX.out.tr hx1).size
          have hlen := lt_of_some (hx1.get HG4.out)
          have HT := Lib.hid ht
          have HU := Lib.hid hu
          have HGE := Lib.hid hnx1
          clear ht hu hxa hx1 hg4' hg2a hg4a HNEXT hnx1
          have hml : (ws.map Value.string).length = ws.length := List.length_map _
          go_wp2_with (at_builtin; refine wpList_append_one _ rfl _ _ 22 rfl (w.heap.size + 2) 9 i0 (.string ByteArray.empty) 16 Try.underlying22 hi0 hz0 hz1 hz2 rfl A d (ws.map Value.string) (by rw [hml]; rfl) HOR1.out w1.heap.size (.string t) rfl (cells_of (new_of _ _) 0) rfl (by rw [hml]; unfold maxLen; omega) (by rw [hml]; omega) (by simp; omega) ?_
                       intro A2 c2 w2 ho2 hgr2
                       have hne : ∀ g, (Value.slice A (ws.map Value.string).length d).ownBlock = some g → w.heap.size + 2 ≤ g := by rw [hml]; exact HGE.out
                       have hg2b := grown_get hgr2 HG2A.out (fun e => by have := hne _ e; omega)
                       have hg4b := grown_get hgr2 HG4A.out (fun e => by have := hne _ e; omega)
                       have hxb : Ext w w2 := grown_new HXA.out hgr2 (fun g hg => by have := hne g hg; omega)
                       obtain ⟨W, hW, hg2c, hg4c, hoc, hxc⟩ := parse_store hg2b hg4b ho2 hxb
                       have c4 : w2.cell? ⟨w.heap.size + 1, 1, none⟩ = some (.slice A ws.length d) := cells_of hg4b 1
                       have f4 : w2.frozen? ⟨w.heap.size + 1, 1, none⟩ = false := free_of hg4b 1
                       have HWW := Lib.hid hW
                       have HG2C := Lib.hid hg2c
                       have HG4C := Lib.hid hg4c
                       have HOC := Lib.hid hoc
                       have HXC := Lib.hid hxc
                       have G2B := Lib.hid hg2b
                       clear ho2 hgr2 hne hg4b hxb hW hg2c hg4c hoc hxc hg2b 
                       have z0 : w2.cell? ⟨w.heap.size, 0, none⟩ = some (.string ⟨#[]⟩) := cells_of G2B.out 0
                       have z1 : w2.cell? ⟨w.heap.size, 1, none⟩ = some (.slice none 0 0) := cells_of G2B.out 1
                       have y0 : w2.frozen? ⟨w.heap.size, 0, none⟩ = false := free_of G2B.out 0
                       have y1 : w2.frozen? ⟨w.heap.size, 1, none⟩ = false := free_of G2B.out 1)
          rw [← HWW.out, Exit.noGoto_ret]
          have hgz := two_stored (x := .string ⟨#[]⟩) (y := .slice none 0 0) HG2C.out
          have e0 := cells_of hgz 0
          have e1 := cells_of hgz 1
          refine bodyPost_ret (v := .tuple #[.agg #[.string ⟨#[]⟩, .slice none 0 0], .bool false]) (by simp [results, Try.results14, go_sem, e0, e1]) rfl ⟨_, ?_, by rw [HRES.out]; exact NmR.none _, (HXC.out.setCell (Nat.le_refl _) _).setCell (Nat.le_refl _) _⟩
          rw [HRES.out]
          rfl
end Go.Proofs.Ytgbdckiojjmncaa
