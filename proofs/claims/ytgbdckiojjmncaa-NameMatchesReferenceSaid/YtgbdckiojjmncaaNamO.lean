/-
  A name among the arguments, opened.
-/
import Derived.Test.YtgbdckiojjmncaaNamN
import Derived.SliceStrings
import Derived.ChangeSame
import Derived.ChangeMaps5
namespace Go.Proofs.Ytgbdckiojjmncaa
open Go.ChangeShapes Go.WideShapes Go.RowKit Go.ChangeShapes

/-- a value that is a name, as it came in -/
def IsName (w : World) (v : Value) (s : ByteArray) (A : Option Addr) (c : Nat) (ss : List ByteArray) : Prop :=
  v = .agg #[.string s, .slice A ss.length c] ∧ SR w (fun g _ => g < w.heap.size) A ss ∧ ss.length ≤ c ∧ c ≤ maxLen ∧ s.size ≤ maxLen ∧ ∀ t ∈ ss, t.size ≤ maxLen

theorem strs_sr {w : World} {a : Addr} {len : Nat} {ss : List ByteArray} (hl : len ≤ ss.length) (hc : ∀ i, i < ss.length → w.cell? (a.add i) = some (.string (ss.getD i ByteArray.empty))) : SR w (fun g _ => g < w.heap.size) (some a) (ss.take len) := by
  intro hp
  rw [List.length_take] at hp
  have h0 := hc 0 (by omega)
  rw [addr_add0] at h0
  cases hs : a.spot with
  | some q =>
    have : a.spot.isSome := by simp [hs]
    unfold World.cell? at h0
    split at h0
    · rw [if_pos this] at h0; cases h0
    · cases h0
  | none =>
    cases hh : w.heap[a.block]? with
    | none => simp [World.cell?, hh] at h0
    | some o =>
      cases o with
      | cells cs t fr =>
        refine ⟨a.block, a.off, cs, t, fr, ?_, hh, lt_of_some hh, fun j s hj => ?_⟩
        · cases a; simp_all
        · have hjl : j < len := by
            have := (List.getElem?_eq_some_iff.1 hj).1
            rw [List.length_take] at this
            omega
          rw [List.getElem?_take, if_pos hjl] at hj
          have hcj := hc j (by omega)
          rw [(addr_add a j).2 hs, cells_of hh] at hcj
          rw [hcj]
          have e : ss.getD j ByteArray.empty = s := by rw [List.getD_eq_getElem?_getD, hj]; rfl
          rw [e]
      | _ => simp [World.cell?, hh] at h0

theorem open_name {H : Type} {enc : TypeId × Value → H} {P : Program} {w : World} {base : Nat} {held : Bool} {r : Reach} {b0 : Nat} {t e : TypeId} {f0 f1 : Field} {v : Value} {d : DataW H} {p : List MemPlace}
    (ht : P.underlying t = some (.struct #[f0, f1])) (h0 : P.underlying f0.type = some .string) (h1 : P.underlying f1.type = some (.slice e)) (he : P.underlying e = some .string) (hce : P.cellsOf e = 1)
    (o0 : f0.offset = 0) (o1 : f1.offset = 1) (c0 : P.cellsOf f0.type = 1) (c1 : P.cellsOf f1.type = 1) (ct : P.cellsOf t = 2)
    (hval : Value.okWide P w r b0 t v) (h : DataW.Trod enc P w base (fun _ => true) held t v d p) : ∃ s A c ss, IsName w v s A c ss := by
  unfold Value.okWide at hval
  rw [ht] at hval
  obtain ⟨cs, rfl, hsz, _⟩ := hval
  obtain ⟨fuel, hf⟩ := h
  obtain ⟨y0, y1, n, _, _, hy0, hy1⟩ := trod_struct2 ht hf
  rw [ct] at hsz
  obtain ⟨l, hcl⟩ : ∃ l, cs = l.toArray := ⟨cs.toList, by simp⟩
  subst hcl
  have hl2 : l.length = 2 := by simpa using hsz
  match l, hl2 with
  | [a, b], _ =>
    rw [o0, c0] at hy0
    rw [o1, c1] at hy1
    have ea : ((Value.agg [a, b].toArray).cells.toList.drop 0).take 1 = [a] := rfl
    have eb : ((Value.agg [a, b].toArray).cells.toList.drop 1).take 1 = [b] := rfl
    rw [ea] at hy0
    rw [eb] at hy1
    obtain ⟨s, hs, _, hsm⟩ := DataW.trod_string h0 hy0
    simp only [List.cons.injEq, and_true] at hs
    subst hs
    rcases open_strings h1 he hce hy1 with ⟨hcs, _⟩ | ⟨x, len, cap, ss, hcs, _, hl, hm, hz, _, hcell, hws⟩
    · simp only [List.cons.injEq, and_true] at hcs
      subst hcs
      exact ⟨s, none, 0, [], rfl, SR.nil _ _ _, Nat.le_refl _, by simp [maxLen], hsm, by simp⟩
    · simp only [List.cons.injEq, and_true] at hcs
      subst hcs
      have hz' : ss.length = cap := by simpa using hz
      have hln : (ss.take len).length = len := by rw [List.length_take]; omega
      exact ⟨s, some x, cap, ss.take len, by rw [hln], strs_sr (by omega) hcell, by omega, hm, hsm, fun t ht => hws t (List.mem_of_mem_take ht)⟩
end Go.Proofs.Ytgbdckiojjmncaa
