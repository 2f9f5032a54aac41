/-
  Operations inside a region that draws its order: bytes of a string, room for bytes, an array stored.
-/
import Derived.Test.YtdbmkkjpdhnllaaDoorMacB
import Derived.Lib.ConvBytes
import Derived.Laws.AppendOwn
namespace Go.Proofs.YtdbmkkjpdhnllaaDoor
open Go.RowKit

theorem bytesWorld_ext (w : World) (E : TypeId) (s : ByteArray) : Ext w (Lib.bytesWorld w E s) :=
  ⟨rfl, rfl, rfl, by rw [Lib.bytesWorld_size]; omega, fun k hk => Lib.bytesWorld_at_old w E s k hk⟩
theorem bytesWorld_rb (w : World) (E : TypeId) (s : ByteArray) : RB (Lib.bytesWorld w E s) (fun g t => g = w.heap.size ∧ t = E) (some ⟨w.heap.size, 0, none⟩) s.data.toList := by
  intro _
  refine ⟨_, 0, _, _, _, rfl, Lib.bytesWorld_at_new w E s, ⟨rfl, rfl⟩, fun j b hj => ?_⟩
  have hjl : j < s.data.size := by have := (List.getElem?_eq_some_iff.1 hj).1; simpa using this
  rw [Array.getElem?_toList] at hj
  unfold Lib.bytesCells
  rw [Nat.zero_add, Array.getElem?_append_left (by simpa using hjl), Array.getElem?_map, hj]
  rfl
theorem step_convert_str {P : Program} (w : World) {ops : Array Oper} {o : Oper} {a : Act} {K : Act → World → Prop} {Q : Exit → Act → World → Prop} {G : Prop} (hgd : o.guard = none) (src dst : TypeId) (x : Operand) (ho : o.op = .convert src dst x)
    (E : TypeId) (hs : P.underlying src = some .string) (hd : P.underlying dst = some (.slice E)) (he : P.underlying E = some (.int .u8)) (s : ByteArray) (n : Nat) (hx : a.eval x = .string s) (hsz : s.data.toList.length = n) (hm : n ≤ maxLen)
    (h : ∀ g c w', RB w' (fun g' t => g' = g ∧ t = E) (some ⟨g, 0, none⟩) s.data.toList → n ≤ c → c ≤ maxLen → w.heap.size ≤ g → g < w'.heap.size → Ext w w' → K (a.put o.dst (.slice (some ⟨g, 0, none⟩) n c)) w') :
    if Region.wanted o (yielded ops a.tmps) = true then Oper.wp P o a w K Q else G := by
  have hsn : s.size = n := by rw [← hsz]; exact (Array.length_toList (xs := s.data)).symm
  have hrun := Lib.run_convert_string_bytes (P := P) w src dst E s hs hd he
  rw [hsn] at hrun
  rw [if_pos (by simp [Region.wanted, hgd])]
  unfold Oper.wp execOp
  simp only [ho, hx, Sem.run_bind, Sem.run_pure, Result.andThen_ok, hrun]
  exact h _ _ _ (bytesWorld_rb w E s) (grownCap_ge _ _ _ _) (grownCap_le_maxLen _ _ _ _ hm) (Nat.le_refl _) (by rw [Lib.bytesWorld_size]; omega) (bytesWorld_ext w E s)
theorem step_make0 {P : Program} (w : World) {ops : Array Oper} {o : Oper} {a : Act} {K : Act → World → Prop} {Q : Exit → Act → World → Prop} {G : Prop} (hgd : o.guard = none) (l c : Operand) (t : TypeId) (ho : o.op = .makeSlice t l c)
    (E : TypeId) (i : TypeInfo) (ht : P.underlying t = some (.slice E)) (hi : P.info? E = some i) (hz : i.zero = some (.int .u8 0)) (hs : i.size = 1) (hy : i.bytes = 1) (kl kc : IntKind) (n : Nat) (hl : a.eval l = .int kl 0) (hc : a.eval c = .int kc (n : Int)) (hn : n ≤ 100000) (base : Nat) (hb : base ≤ w.heap.size)
    (h : ∀ g w', OwnB w' E base (some ⟨g, 0, none⟩) n [] → w.heap.size ≤ g → Ext w w' → K (a.put o.dst (.slice (some ⟨g, 0, none⟩) 0 n)) w') :
    if Region.wanted o (yielded ops a.tmps) = true then Oper.wp P o a w K Q else G := by
  obtain ⟨w', hrun, r1, r2⟩ := run_make_own (P := P) w base t E i (.int .u8 0) 1 ht hi hz hs kl kc n (by rw [hy]; omega) (by unfold maxLen; omega) hb
  rw [if_pos (by simp [Region.wanted, hgd])]
  unfold Oper.wp execOp
  simp only [ho, hl, hc, Sem.run_bind, Sem.run_pure, Result.andThen_ok, hrun]
  exact h _ _ r1 (Nat.le_refl _) (grown_ext r2)
theorem step_store_arr {P : Program} (w : World) {ops : Array Oper} {o : Oper} {a : Act} {K : Act → World → Prop} {Q : Exit → Act → World → Prop} {G : Prop} (hgd : o.guard = none) (ty : TypeId) (x y : Operand) (ho : o.op = .store ty x y)
    (g : Nat) (k : IntKind) (n : Nat) (f f0 : Nat → Nat) (hx : a.eval x = .pointer (some ⟨g, 0, none⟩)) (hy : a.eval y = .agg (tabV k n f)) (t : TypeId) (hg : Arr w g t k n f0)
    (hi : (P.info? ty).map (·.size) = some n) (h : ∀ w', Arr w' g t k n f → w.grownBy w' (some g) → K (a.put o.dst undef) w') :
    if Region.wanted o (yielded ops a.tmps) = true then Oper.wp P o a w K Q else G := by
  rw [if_pos (by simp [Region.wanted, hgd])]
  exact wp_store_row ty x y ho g (tabV k n f) hx hy t _ hg (by rw [tabV_size]; exact hi) (by rw [tabV_size, tabV_size]) tabV_one (h _ (setRow_heap w g _ _ t _ hg) (grown_setRow g _))
/-- the beginning of an array, as a slice -/
theorem run_slice_arr_hi {P : Program} {t e : TypeId} {n : Nat} (hu : P.underlying t = some (.array n e)) (hs : (P.info? e).map (·.size) = some 1) (g r : Nat) (hr : r ≤ n) (hn : 0 < n) (i : Int) (hi : i = r) (W : World) :
    (Instr.sliceAt t (.pointer (some ⟨g, 0, none⟩)) none (some (.int .i64 i)) none).run P W = .ok (.slice (some ⟨g, 0, none⟩) r n) W := by
  subst hi
  cases hq : P.info? e with
  | none => simp [hq] at hs
  | some ie =>
    have hsz : ie.size = 1 := by simpa [hq] using hs
    have h1 : ¬ n = 0 := by omega
    have h2 : (r : Int) ≤ (n : Int) := by omega
    have h3 : (⟨g, 0, none⟩ : Addr).add 0 = ⟨g, 0, none⟩ := by rw [(addr_add _ _).2 rfl]
    simp [Instr.sliceAt, Instr.sureAddr, Sem.run_bind, run_underlying hu, Instr.sliceBounds, run_sliceBound, sizeOf, typeInfo, hq, hsz, h1, h2, h3]
end Go.Proofs.YtdbmkkjpdhnllaaDoor
