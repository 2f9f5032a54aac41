/-
  What a law is told of an array of integers that came in by value.
-/
import Derived.Test.YtdmfajcbbolfiaaArrQ
import Derived.ProofKit
import Derived.OpenShut
namespace Go.Proofs.Ytdmfajcbbolfiaa
open Go.ChangeShapes Go.WideShapes Go.ChangeAt Go.RowKit

/-- an array of integers that came in by value -/
theorem open_arr {H : Type} {enc : TypeId × Value → H} {P : Program} {w : World} {base : Nat} {spare : Nat → Bool} {held : Bool} {r : Reach} {b0 : Nat} {t e : TypeId} {n : Nat} {k : IntKind} {v : Value} {d : DataW H} {p : List MemPlace}
    (hu : P.underlying t = some (.array n e)) (he : P.underlying e = some (.int k)) (hce : P.cellsOf e = 1) (hct : P.cellsOf t = n) (hk : ∀ z : Int, (Lit.int k z).wf = true → 0 ≤ z)
    (hval : Value.okWide P w r b0 t v) (h : DataW.Trod enc P w base spare held t v d p) : ∃ f : Nat → Nat, v = .agg (tabV k n f) ∧ ∀ i, i < n → (Lit.int k (f i : Nat)).wf = true := by
  unfold Value.okWide at hval
  rw [hu] at hval
  obtain ⟨cs, rfl, hsz, _⟩ := hval
  obtain ⟨fuel, hf⟩ := h
  obtain ⟨xs, m, rfl, _, hlen, hn, hel⟩ := DataW.trod_array hu hf
  have hV : ∀ i, i < n → ∃ q : Nat, cs[i]? = some (.int k (q : Nat)) ∧ (Lit.int k (q : Nat)).wf = true := by
    intro i hi
    have hi2 := hel i hi
    rw [List.getElem?_eq_getElem (by omega)] at hi2
    obtain ⟨q, hq, _, hw⟩ := DataW.trod_int he hi2
    rw [hce, Nat.mul_one] at hq
    have h0 := hk q hw
    refine ⟨q.toNat, ?_, by rw [Int.toNat_of_nonneg h0]; exact hw⟩
    rw [Int.toNat_of_nonneg h0]
    have hc : (((Value.agg cs).cells.toList.drop i).take 1)[0]? = some (.int k q) := by rw [hq]; rfl
    rw [List.getElem?_take, if_pos (by decide), List.getElem?_drop, Nat.add_zero] at hc
    rw [← Array.getElem?_toList]
    exact hc
  obtain ⟨f, hf2⟩ := Go.Deep.choose_lt hV
  exact ⟨f, congrArg Value.agg (tabV_ext (by rw [hsz, hct]) (fun i hi => (hf2 i hi).1)), fun i hi => (hf2 i hi).2⟩
end Go.Proofs.Ytdmfajcbbolfiaa
