/-
  Strings and slices of strings in memory; words and names, checked by the package and by the reference.
-/
import Derived.Test.YtgbdckiojjmncaaNamM
import Derived.Test.YtgbdckiojjmncaaBase
import Derived.Laws.RangeAny
namespace Go.Proofs.Ytgbdckiojjmncaa
open Go.RowKit

/-- the bytes of a string -/
def bl (s : ByteArray) : List UInt8 := s.data.toList
/-- the bytes of strings -/
def bls (ss : List ByteArray) : List (List UInt8) := ss.map bl
theorem bl_len (s : ByteArray) : (bl s).length = s.size := by simp [bl]
theorem bl_get {s : ByteArray} {k : Nat} (h : k < s.size) : (bl s)[k]'(by rw [bl_len]; exact h) = s[k] := by simp [bl]; rfl
theorem bl_toList (s : ByteArray) : s.toList = bl s := ByteArray.toList_eq s
theorem bl_mk (l : List UInt8) : bl ⟨l.toArray⟩ = l := by simp [bl]
theorem bl_ext {s t : ByteArray} (h : bl s = bl t) : s = t := by
  cases s
  cases t
  simp [bl] at h
  rw [h]
theorem bls_len (ss : List ByteArray) : (bls ss).length = ss.length := by simp [bls]
theorem bls_get {ss : List ByteArray} {k : Nat} (h : k < ss.length) : (bls ss)[k]'(by rw [bls_len]; exact h) = bl ss[k] := by simp [bls]
theorem bls_take (ss : List ByteArray) (k : Nat) : bls (ss.take k) = (bls ss).take k := by simp [bls, List.map_take]
theorem bls_snoc (ss : List ByteArray) (s : ByteArray) : bls (ss ++ [s]) = bls ss ++ [bl s] := by simp [bls]

/-- a slice of strings reads as the list ss; its block and the block's type meet S -/
def SR (w : World) (S : Nat → TypeId → Prop) (A : Option Addr) (ss : List ByteArray) : Prop :=
  0 < ss.length → ∃ g off cs t fr, A = some ⟨g, off, none⟩ ∧ w.heap[g]? = some (.cells cs t fr) ∧ S g t ∧ ∀ j s, ss[j]? = some s → cs[off + j]? = some (.string s)
section
variable {w w' : World} {S T : Nat → TypeId → Prop} {A : Option Addr} {ss : List ByteArray}
theorem SR.nil (w : World) (S : Nat → TypeId → Prop) (A : Option Addr) : SR w S A [] := fun h => absurd h (by simp)
theorem SR.cell (h : SR w S A ss) {k : Nat} (hk : k < ss.length) : ∃ g off, A = some ⟨g, off, none⟩ ∧ w.cell? ⟨g, off + k, none⟩ = some (.string ss[k]) := by
  obtain ⟨g, off, cs, t, fr, rfl, hh, _, hc⟩ := h (by omega)
  exact ⟨g, off, rfl, by rw [cells_of hh]; exact hc k _ (List.getElem?_eq_getElem hk)⟩
theorem SR.keep (h : SR w S A ss) (hk : ∀ g o, w.heap[g]? = some o → (∃ cs t fr, o = .cells cs t fr ∧ S g t) → w'.heap[g]? = some o) : SR w' S A ss := by
  intro hl
  obtain ⟨g, off, cs, t, fr, rfl, hh, hs, hc⟩ := h hl
  exact ⟨g, off, cs, t, fr, rfl, hk g _ hh ⟨cs, t, fr, rfl, hs⟩, hs, hc⟩
theorem SR.ext (h : SR w S A ss) (hb : Ext w w') : SR w' S A ss := h.keep fun _ _ hh _ => hb.get hh
theorem SR.grown (h : SR w S A ss) {row : Option Nat} (hb : w.grownBy w' row) (hne : ∀ g t, S g t → row ≠ some g) : SR w' S A ss := h.keep fun _ _ hh ⟨_, _, _, _, hs⟩ => grown_get hb hh (hne _ _ hs)
theorem SR.far (h : SR w S A ss) {g : Nat} {cs : Array Value} {t : TypeId} {fr : Nat × Nat} (hb : w.grownBy w' (some g)) (hg : w.heap[g]? = some (.cells cs t fr)) (hne : ∀ g', ¬ S g' t) : SR w' S A ss :=
  h.keep fun g' o hh ⟨cs', t', fr', he, hs⟩ => grown_get hb hh (by
    rintro e
    injection e with e
    subst e
    rw [hg] at hh
    injection hh with hh
    rw [he] at hh
    injection hh with _ ht _
    subst ht
    exact hne _ hs)
theorem SR.more (h : SR w S A ss) (hS : ∀ g t, S g t → T g t) : SR w T A ss := by
  intro hl
  obtain ⟨g, off, cs, t, fr, rfl, hh, hs, hc⟩ := h hl
  exact ⟨g, off, cs, t, fr, rfl, hh, hS g t hs, hc⟩
theorem SR.inside (h : SR w S A ss) : SR w (fun g t => S g t ∧ g < w.heap.size) A ss := by
  intro hl
  obtain ⟨g, off, cs, t, fr, rfl, hh, hs, hc⟩ := h hl
  exact ⟨g, off, cs, t, fr, rfl, hh, ⟨hs, lt_of_some hh⟩, hc⟩
end
/-- the strings of a row of the call's own -/
theorem OwnV.sr {w : World} {E : TypeId} {base c : Nat} {A : Option Addr} {ss : List ByteArray} (h : OwnV w E base A c (ss.map Value.string)) : SR w (fun g t => base ≤ g ∧ t = E ∧ (Value.slice A ss.length c).ownBlock = some g) A ss := by
  intro hl
  rcases h.block with ⟨_, _, h0⟩ | ⟨g, cs, rfl, hb, hh, _, _, _, h4⟩
  · have := congrArg List.length h0
    simp at this
    rw [this] at hl
    simp at hl
  · refine ⟨g, 0, cs, E, (0, 0), rfl, hh, ⟨hb, rfl, rfl⟩, fun j s hj => ?_⟩
    have hjl : j < ss.length := (List.getElem?_eq_some_iff.1 hj).1
    have : (cs.toList.take (ss.map Value.string).length)[j]? = (ss.map Value.string)[j]? := by rw [h4]
    rw [List.getElem?_take, if_pos (by rw [List.length_map]; exact hjl), List.getElem?_map, hj] at this
    simpa using this
/-- a string of one byte more -/
theorem mk_append (l m : List UInt8) : (⟨l.toArray⟩ : ByteArray) ++ ⟨m.toArray⟩ = ⟨(l ++ m).toArray⟩ := ByteArray.mk_append_mk l m

theorem all_take {p : UInt8 → Bool} (l : List UInt8) {k : Nat} (hk : k < l.length) (h : (l.take k).all p = true) : (l.take (k + 1)).all p = p l[k] := by
  rw [List.take_succ_eq_append_getElem hk, List.all_append, h]
  simp
theorem all_not {p : UInt8 → Bool} (l : List UInt8) {k : Nat} (hk : k < l.length) (h : p l[k] = false) : l.all p = false := by
  rw [List.all_eq_false]
  exact ⟨l[k], List.getElem_mem _, by rw [h]; decide⟩
theorem wb_t {c : UInt8} (h1 : 33 ≤ c.toNat) (h2 : c.toNat ≤ 126) : wb c = true := by simp [wb, h1, h2]
theorem wb_f {c : UInt8} (h : c.toNat < 33 ∨ 126 < c.toNat) : wb c = false := by
  unfold wb
  rcases h with h | h
  · rw [decide_eq_false (by omega), Bool.false_and]
  · rw [decide_eq_false (show ¬ c.toNat ≤ 126 by omega), Bool.and_false]

set_option maxHeartbeats 400000 in
theorem isMark_c (c : UInt8) (w : World) : Calls Try.prog 43 #[.int .u8 (c.toNat : Int)] w fun e w' => e = .returned (.bool (mk c)) ∧ w = w' := by
  by_cases h1 : c = 47
  · have e : mk c = true := by simp [mk, h1]
    have t1 := beq_t (a := (c.toNat : Int)) (b := 47) (by rw [h1]; rfl)
    rw [e]
    clear e h1
    go_enter Try.func43, Try.ntmps43
    go_wp2_with fail
    go_ret
    exact ⟨rfl, rfl⟩
  · have t1 := beq_f (a := (c.toNat : Int)) (b := 47) (u8_ne h1)
    by_cases h2 : c = 64
    · have e : mk c = true := by simp [mk, h2]
      have t2 := beq_t (a := (c.toNat : Int)) (b := 64) (by rw [h2]; rfl)
      rw [e]
      clear e h1 h2
      go_enter Try.func43, Try.ntmps43
      go_wp2_with fail
      go_ret
      exact ⟨rfl, rfl⟩
    · have t2 := beq_f (a := (c.toNat : Int)) (b := 64) (u8_ne h2)
      have e : mk c = ((c.toNat : Int) == 92) := by
        by_cases h3 : c = 92
        · rw [beq_t (a := (c.toNat : Int)) (b := 92) (by rw [h3]; rfl)]
          simp [mk, h3]
        · rw [beq_f (a := (c.toNat : Int)) (b := 92) (u8_ne h3), mk_not h1 h2 h3]
      rw [e]
      clear e h1 h2
      go_enter Try.func43, Try.ntmps43
      go_wp2_with fail
      go_ret
      exact ⟨rfl, rfl⟩

set_option maxRecDepth 100000 in
set_option maxHeartbeats 1000000 in
theorem isWord_c (s : ByteArray) (w : World) (hs : s.size ≤ 9223372036854775807) : Calls Try.prog 30 #[.string s] w fun e w' => e = .returned (.bool (wd (bl s))) ∧ Ext w w' := by
  by_cases h1 : s.size < 1
  · have e : wd (bl s) = false := by
      unfold wd
      rw [bl_len, decide_eq_false (by omega), Bool.false_and, Bool.false_and]
    rw [e]
    have t1 : (s.size : Int) < 1 := by omega
    clear e
    go_enter Try.func30, Try.ntmps30
    go_wp2_with fail
    go_ret
    exact ⟨rfl, Ext.refl _⟩
  · have t1 : (1 : Int) ≤ (s.size : Int) := by omega
    by_cases h2 : 100 < s.size
    · have e : wd (bl s) = false := by
        unfold wd
        rw [bl_len, decide_eq_false (show ¬ s.size ≤ 100 by omega), Bool.and_false, Bool.false_and]
      rw [e]
      have t2 : (100 : Int) < (s.size : Int) := by omega
      clear e
      go_enter Try.func30, Try.ntmps30
      go_wp2_with fail
      go_ret
      exact ⟨rfl, Ext.refl _⟩
    · have t2 : (s.size : Int) ≤ 100 := by omega
      have e : wd (bl s) = (bl s).all wb := by
        unfold wd
        rw [bl_len, decide_eq_true (show 1 ≤ s.size by omega), decide_eq_true (show s.size ≤ 100 by omega), Bool.true_and, Bool.true_and]
      rw [e]
      clear e
      go_enter Try.func30, Try.ntmps30
      go_wp2_with fail
      go_loopw [4] (fun _ wr => ∃ pos : Nat, pos ≤ s.size ∧ wr = w.iter s pos ∧ ((bl s).take pos).all wb = true) (fun _ wr => s.size - wr.iterPos w.heap.size)
      case atStart => exact ⟨0, Nat.zero_le _, rfl, by simp⟩
      case round =>
        obtain ⟨pos, hpos, rfl, hall⟩ := hrel
        have HA := Lib.hid hall
        clear hall
        by_cases hp : pos < s.size
        · have hp' : pos < (bl s).length := by rw [bl_len]; exact hp
          by_cases hh : (s[pos]'hp).toNat < 128
          · have hnx := fun ty => run_next_ascii (P := Try.prog) w s pos ty hp hh
            have hg := bl_get hp
            obtain ⟨b, hb⟩ : ∃ b, b = s[pos]'hp := ⟨_, rfl⟩
            rw [← hb] at hnx hg
            have HG := Lib.hid hg
            clear hg hb hh
            by_cases q1 : b.toNat < 33
            · have t3 : (b.toNat : Int) < 33 := by omega
              have hw : (bl s).all wb = false := all_not _ hp' (by rw [HG.out]; exact wb_f (.inl q1))
              have HW := Lib.hid hw
              clear hw q1
              go_wp2_with fail
              go_ret
              exact ⟨by rw [HW.out]; rfl, Ext.alloc _ _⟩
            · have t3 : (33 : Int) ≤ (b.toNat : Int) := by omega
              by_cases q2 : 126 < b.toNat
              · have t4 : (126 : Int) < (b.toNat : Int) := by omega
                have hw : (bl s).all wb = false := all_not _ hp' (by rw [HG.out]; exact wb_f (.inr q2))
                have HW := Lib.hid hw
                clear hw q1 q2
                go_wp2_with fail
                go_ret
                exact ⟨by rw [HW.out]; rfl, Ext.alloc _ _⟩
              · have t4 : (b.toNat : Int) ≤ 126 := by omega
                have hw : ((bl s).take (pos + 1)).all wb = true := by rw [all_take _ hp' HA.out, HG.out]; exact wb_t (by omega) (by omega)
                have HW := Lib.hid hw
                clear hw q1 q2
                go_wp2_with fail
                go_roundw
                case rel => exact ⟨pos + 1, by omega, rfl, HW.out⟩
                case measure => simp; omega
          · have hdh := (decode_high s pos hp (by omega)).1
            have hnx : ∀ ty, (Instr.next (.pointer (some ⟨w.heap.size, 0, none⟩)) true ty).run Try.prog (w.iter s pos) = _ := fun ty => run_next_any w s pos ty hp
            have hw : (bl s).all wb = false := all_not _ hp' (by rw [bl_get hp]; exact wb_f (.inr (by omega)))
            have HW := Lib.hid hw
            obtain ⟨x, hx⟩ : ∃ x, x = Utf8.decode s pos := ⟨_, rfl⟩
            rw [← hx] at hnx hdh
            have t3 : ¬ (x.1 : Int) < 33 := by omega
            have t4 : (126 : Int) < (x.1 : Int) := by omega
            clear hw hdh hx hh
            go_wp2_with fail
            go_ret
            exact ⟨by rw [HW.out]; rfl, Ext.alloc _ _⟩
        · have hnx := fun ty => run_next_end (P := Try.prog) w s pos ty hp
          have hw : (bl s).all wb = true := by
            have := HA.out
            rw [List.take_of_length_le (by rw [bl_len]; omega)] at this
            exact this
          have HW := Lib.hid hw
          clear hw
          go_wp2_with fail
          go_ret
          exact ⟨by rw [HW.out]; rfl, Ext.alloc _ _⟩
end Go.Proofs.Ytgbdckiojjmncaa
