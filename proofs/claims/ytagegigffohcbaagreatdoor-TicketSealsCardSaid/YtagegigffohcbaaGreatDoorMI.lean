/-
  What the row's list of variables gives: the constants lie where the program reads them.
  Sealed strings, plain: the keys, the front, the code, what is opened.
  Package seal: Keys and Nonce.
  Package seal: Nonce.
  The reference of layer 9: Seal and Open.
  Package seal: Seal.
  Package seal: Open.
-/
import Derived.Test.YtagegigffohcbaaGreatDoorMA
import Derived.Test.YtagegigffohcbaaGreatDoorME
import Derived.ProofKit
import Derived.OpenShut
import Derived.Deep.DeepHandedRow
import Derived.Lib.LaidTab
import Derived.Test.YtagegigffohcbaaGreatDoorMC
import Derived.Test.YtagegigffohcbaaGreatDoorMF
import Derived.Test.YtagegigffohcbaaGreatDoorMH
import Derived.Laws.ResultCell
import Derived.Test.YtagegigffohcbaaGreatDoorMD
set_option linter.unusedVariables false
set_option linter.unusedSimpArgs false
namespace Go.Proofs.YtagegigffohcbaaGreatDoor
open Go.ChangeShapes Go.WideShapes Go.ChangeAt Go.RowKit

theorem gTab : Tryz.prog.globalNamed "toll/sha.constants" = some 0 := by kernel_rfl
theorem gTabType : (Tryz.prog.globals[0]?).map (·.type) = some 106 := by kernel_rfl
theorem cellsTab : Tryz.prog.cellsOf 106 = 64 := by kernel_rfl
theorem cellsU32 : Tryz.prog.cellsOf 103 = 1 := by kernel_rfl
def kLI : List Int := kL.map Int.ofNat
theorem kLI_at (i : Nat) : kLI.getD i 0 = (kc i : Nat) := by
  unfold kLI kc
  rw [List.getD_eq_getElem?_getD, List.getD_eq_getElem?_getD, List.getElem?_map]
  cases kL[i]? <;> rfl
theorem table {W : World} (h : laidMetH Tryz.prog [("toll/sha.constants", Rows.laid_toll_sha_constants)] W) : Lib.TabIs Tryz.prog W "toll/sha.constants" .u32 kLI :=
  Lib.tabIs_of_head (rest := []) gTab gTabType Tryz.underlying106 Tryz.underlying103 cellsU32 cellsTab h
theorem tab_of_laid {W : World} (h : laidMetH Tryz.prog [("toll/sha.constants", Rows.laid_toll_sha_constants)] W) : Tab W := by
  have ht := fun (i : Nat) (hi : i < 64) => (table h).cell gTab i (by simpa [kLI, kL] using hi)
  obtain ⟨_, cs, t, fr, hh⟩ := addr_at (ht 0 (by decide))
  refine ⟨cs, t, fr, hh, fun i hi => ?_⟩
  have := ht i hi
  rw [cells_of hh] at this
  rw [this, kLI_at]
/-- a world for the witness: the settled one, the constants in their block -/
noncomputable def laidWorld (os : Os) : World :=
  { World.holding Tryz.prog os ⟨#[], #[], []⟩ with heap := (World.holding Tryz.prog os ⟨#[], #[], []⟩).heap.modify 0 fun
      | .cells _ t frozen => .cells (tabV .u32 64 kc) t frozen
      | o => o }
end Go.Proofs.YtagegigffohcbaaGreatDoor

namespace Go.Proofs.YtagegigffohcbaaGreatDoor
open Go.RowKit
set_option linter.unusedVariables false
set_option linter.unusedSimpArgs false

def labE : List UInt8 := [101, 110, 99, 114, 121, 112, 116]
def labM : List UInt8 := [112, 114, 111, 116, 101, 99, 116]
theorem xl_twice {s b : List UInt8} (h : s.length = b.length) : xl s (xl s b) = b := by
  apply List.ext_getElem?
  intro j
  unfold xl
  rw [List.getElem?_zipWith, List.getElem?_zipWith]
  by_cases hj : j < b.length
  · rw [List.getElem?_eq_getElem (show j < s.length by omega), List.getElem?_eq_getElem hj]
    show some (s[j] ^^^ (s[j] ^^^ b[j])) = some b[j]
    rw [← UInt8.xor_assoc, UInt8.xor_self, UInt8.zero_xor]
  · rw [List.getElem?_eq_none (show s.length ≤ j by omega), List.getElem?_eq_none (show b.length ≤ j by omega)]
theorem btl_take {n : Nat} {s : List UInt8} (h : n ≤ s.length) : btl n (byt s) = s.take n := by
  apply byt_inj (by rw [btl_len, List.length_take]; omega)
  intro i hi
  rw [btl_len] at hi
  rw [btl_byt (fun i _ => byt_lt _ _) hi, byt_take _ hi]
theorem btl_all (s : List UInt8) : btl s.length (byt s) = s := by rw [btl_take (Nat.le_refl _), List.take_length]
theorem btl_eq {n : Nat} {f g : Nat → Nat} (hf : ∀ i, i < n → f i < 256) (hg : ∀ i, i < n → g i < 256) (h : btl n f = btl n g) : ∀ i, i < n → f i = g i := fun i hi => by
  rw [← btl_byt hf hi, ← btl_byt hg hi, h]
theorem rb_block {w : World} {S : Nat → TypeId → Prop} {A : Option Addr} {l : List UInt8} (h : RB w S A l) (hl : 0 < l.length) : ∃ g off, A = some ⟨g, off, none⟩ := by
  obtain ⟨g, off, _, _, _, rfl, _⟩ := h hl
  exact ⟨g, off, rfl⟩
theorem btl_cut {n m : Nat} (f : Nat → Nat) (h : n ≤ m) : (btl m f).take n = btl n f := by
  unfold btl
  rw [← List.map_take, List.take_range, Nat.min_eq_left h]
/-- the keys -/
def ekl (k : List UInt8) : List UInt8 := drv (byt (kb k)) labE 16
def mkl (k : List UInt8) : List UInt8 := drv (byt (kb k)) labM 32
theorem ekl_len (k : List UInt8) : (ekl k).length = 16 := drv_len _ _ _
theorem mkl_len (k : List UInt8) : (mkl k).length = 32 := drv_len _ _ _
theorem cin_congr {n m : Nat → Nat} (h : ∀ i, i < 8 → n i = m i) (i : Nat) : cin n i = cin m i := by
  funext j
  unfold cin
  by_cases hj : j < 8
  · rw [if_pos hj, if_pos hj, h j hj]
  · rw [if_neg hj, if_neg hj]
theorem strm_congr {n m : Nat → Nat} (h : ∀ i, i < 8 → n i = m i) (key : Nat → Nat) (a l : Nat) : strm key n a l = strm key m a l := by
  have hc : strb key n = strb key m := by
    funext p
    unfold strb cblk
    rw [cin_congr h]
  unfold strm
  rw [hc]
/-- the bytes, combined with the stream -/
def ecr (k : List UInt8) (n : Nat → Nat) (b : List UInt8) : List UInt8 := xl (strm (byt (ekl k)) n 0 b.length) b
theorem ecr_len (k : List UInt8) (n : Nat → Nat) (b : List UInt8) : (ecr k n b).length = b.length := xl_len (strm_len _ _ _ _)
theorem ecr_ecr (k : List UInt8) (n : Nat → Nat) (b : List UInt8) : ecr k n (ecr k n b) = b := by
  show xl (strm _ n 0 (ecr k n b).length) (ecr k n b) = b
  rw [ecr_len]
  exact xl_twice (strm_len _ _ _ _)
theorem ecr_congr {n m : Nat → Nat} (h : ∀ i, i < 8 → n i = m i) (k b : List UInt8) : ecr k n b = ecr k m b := by unfold ecr; rw [strm_congr h]
/-- what is in front of the code -/
def frt (k : List UInt8) (n : Nat → Nat) (b : List UInt8) : List UInt8 := btl 8 n ++ ecr k n b
theorem frt_len (k : List UInt8) (n : Nat → Nat) (b : List UInt8) : (frt k n b).length = b.length + 8 := by
  unfold frt
  rw [List.length_append, btl_len, ecr_len]
  omega
/-- the code of a front -/
def tag (k : List UInt8) (u : UInt8) (f : List UInt8) : List UInt8 := btl 16 (hm (mkl k) (u :: f))
theorem tag_len (k : List UInt8) (u : UInt8) (f : List UInt8) : (tag k u f).length = 16 := btl_len _ _
/-- the sealed string -/
def sld (k : List UInt8) (u : UInt8) (n : Nat → Nat) (b : List UInt8) : List UInt8 := frt k n b ++ tag k u (frt k n b)
theorem sld_len (k : List UInt8) (u : UInt8) (n : Nat → Nat) (b : List UInt8) : (sld k u n b).length = b.length + 24 := by
  unfold sld
  rw [List.length_append, frt_len, tag_len]
theorem frt_congr {n m : Nat → Nat} (h : ∀ i, i < 8 → n i = m i) (k b : List UInt8) : frt k n b = frt k m b := by
  unfold frt
  rw [ecr_congr h, btl_congr h]
theorem sld_congr {n m : Nat → Nat} (h : ∀ i, i < 8 → n i = m i) (k : List UInt8) (u : UInt8) (b : List UInt8) : sld k u n b = sld k u m b := by
  unfold sld
  rw [frt_congr h]
/-- the front and the middle of a string -/
def hd_ (s : List UInt8) : List UInt8 := s.take (s.length - 16)
def mid (s : List UInt8) : List UInt8 := (hd_ s).drop 8
def tl_ (s : List UInt8) : List UInt8 := s.drop (s.length - 16)
theorem hd_len (s : List UInt8) : (hd_ s).length = s.length - 16 := by unfold hd_; rw [List.length_take]; omega
theorem mid_len (s : List UInt8) : (mid s).length = s.length - 24 := by unfold mid; rw [List.length_drop, hd_len]; omega
theorem tl_len {s : List UInt8} (h : 16 ≤ s.length) : (tl_ s).length = 16 := by unfold tl_; rw [List.length_drop]; omega
theorem hd_tl (s : List UInt8) : hd_ s ++ tl_ s = s := List.take_append_drop _ _
theorem sld_hd (k : List UInt8) (u : UInt8) (n : Nat → Nat) (b : List UInt8) : hd_ (sld k u n b) = frt k n b := by
  have h := sld_len k u n b
  have hf := frt_len k n b
  unfold hd_
  rw [h]
  unfold sld
  rw [List.take_append_of_le_length (by omega), List.take_of_length_le (by omega)]
theorem sld_tl (k : List UInt8) (u : UInt8) (n : Nat → Nat) (b : List UInt8) : tl_ (sld k u n b) = tag k u (frt k n b) := by
  have h := hd_tl (sld k u n b)
  rw [sld_hd] at h
  exact List.append_cancel_left (h.trans rfl)
theorem sld_byt {k : List UInt8} {u : UInt8} {n : Nat → Nat} {b : List UInt8} (hn : Byt8 n) {i : Nat} (hi : i < 8) : byt (sld k u n b) i = n i := by
  unfold sld frt
  rw [List.append_assoc, byt_left _ _ (by rw [btl_len]; exact hi)]
  exact btl_byt hn hi
theorem frt_mid (k : List UInt8) (n : Nat → Nat) (b : List UInt8) : (frt k n b).drop 8 = ecr k n b := by
  unfold frt
  rw [List.drop_append_of_le_length (by rw [btl_len]; exact Nat.le_refl _), List.drop_of_length_le (by rw [btl_len]; exact Nat.le_refl _), List.nil_append]
theorem frt_back {k s : List UInt8} (h : 24 ≤ s.length) : frt k (byt s) (ecr k (byt s) (mid s)) = hd_ s := by
  unfold frt
  rw [ecr_ecr, btl_take (by omega)]
  unfold mid
  have h8 : s.take 8 = (hd_ s).take 8 := by
    unfold hd_
    rw [List.take_take, Nat.min_eq_left (by omega)]
  rw [h8, List.take_append_drop]
/-- the reference's test is a test of the code -/
theorem sld_iff {k s : List UInt8} (h : 24 ≤ s.length) (u : UInt8) : sld k u (byt s) (ecr k (byt s) (mid s)) = s ↔ tag k u (hd_ s) = tl_ s := by
  unfold sld
  rw [frt_back h]
  constructor
  · intro hs
    exact List.append_cancel_left (hs.trans (hd_tl s).symm)
  · intro hs
    rw [hs, hd_tl]
/-- what is opened -/
def opn (k : List UInt8) (u : UInt8) (s : List UInt8) : Option (List UInt8) :=
  if 24 ≤ s.length ∧ tag k u (hd_ s) = tl_ s then some (ecr k (byt s) (mid s)) else none
theorem opn_short {k s : List UInt8} {u : UInt8} (h : s.length < 24) : opn k u s = none := by unfold opn; rw [if_neg (by omega)]
theorem opn_yes {k s : List UInt8} {u : UInt8} (h : 24 ≤ s.length) (ht : tag k u (hd_ s) = tl_ s) : opn k u s = some (ecr k (byt s) (mid s)) := by unfold opn; rw [if_pos ⟨h, ht⟩]
theorem opn_no {k s : List UInt8} {u : UInt8} (ht : tag k u (hd_ s) ≠ tl_ s) : opn k u s = none := by unfold opn; rw [if_neg (fun h => ht h.2)]
theorem opn_sld {n : Nat → Nat} (hn : Byt8 n) (k : List UInt8) (u : UInt8) (b : List UInt8) : opn k u (sld k u n b) = some b := by
  have hl := sld_len k u n b
  rw [opn_yes (by omega) (by rw [sld_hd, sld_tl])]
  unfold mid
  rw [sld_hd, frt_mid, ecr_congr (fun i hi => sld_byt hn hi), ecr_ecr]
theorem opn_some {k s b : List UInt8} {u : UInt8} (h : opn k u s = some b) : 24 ≤ s.length ∧ sld k u (byt s) b = s := by
  unfold opn at h
  split at h
  · rename_i hc
    have hb := Option.some.inj h
    exact ⟨hc.1, by rw [← hb]; exact (sld_iff hc.1 u).2 hc.2⟩
  · exact absurd h (by simp)
/-- a changed code is not opened -/
theorem opn_code {k s t : List UInt8} {u : UInt8} (hl : t.length = s.length) (hh : hd_ t = hd_ s) (hne : t ≠ s) (ho : tag k u (hd_ s) = tl_ s) : opn k u t = none := by
  apply opn_no
  rw [hh, ho]
  intro h
  exact hne (by rw [← hd_tl t, ← hd_tl s, hh, h])
theorem sld_nonce {a b : Nat → Nat} (ha : Byt8 a) (hb : Byt8 b) (k : List UInt8) (u : UInt8) (s : List UInt8) : sld k u a s = sld k u b s ↔ ∀ i, i < 8 → a i = b i :=
  ⟨fun h i hi => by rw [← sld_byt (k := k) (u := u) (b := s) ha hi, h, sld_byt hb hi], fun h => sld_congr h k u s⟩
end Go.Proofs.YtagegigffohcbaaGreatDoor

namespace Go.Proofs.YtagegigffohcbaaGreatDoor
open Go.RowKit
set_option linter.unusedVariables false
set_option linter.unusedSimpArgs false

theorem results_two_cells {P : Program} {fn : Func} {p q : Tmp} {ty tz : TypeId} (h : fn.results = #[.cell p ty, .cell q tz]) (tmps : Array Value) (w : World) (g g' : Nat) (t t' : TypeId) (cs cs' : Array Value) (fr fr' : Nat × Nat) (d d' : TypeDesc)
    (hp : tmps.getD p undef = .pointer (some ⟨g, 0, none⟩)) (hg : w.heap[g]? = some (.cells cs t fr)) (hu : P.underlying ty = some d) (hd : (match d with | .struct _ | .array _ _ => true | _ => false) = true) (hi : (P.info? ty).map (·.size) = some cs.size)
    (hp2 : tmps.getD q undef = .pointer (some ⟨g', 0, none⟩)) (hg2 : w.heap[g']? = some (.cells cs' t' fr')) (hu2 : P.underlying tz = some d') (hd2 : (match d' with | .struct _ | .array _ _ => true | _ => false) = true) (hi2 : (P.info? tz).map (·.size) = some cs'.size) :
    (results fn tmps).run P w = .ok (.tuple #[.agg cs, .agg cs']) w := by
  have hp' : tmps[p]?.getD undef = .pointer (some ⟨g, 0, none⟩) := by simpa using hp
  have hp2' : tmps[q]?.getD undef = .pointer (some ⟨g', 0, none⟩) := by simpa using hp2
  simp [results, h, hp', hp2', asAddr, run_loadVar_row w g t ty cs fr d hg hu hd hi, run_loadVar_row w g' t' tz cs' fr' d' hg2 hu2 hd2 hi2]
theorem results_cell_slot {P : Program} {fn : Func} {p u : Tmp} {ty : TypeId} (h : fn.results = #[.cell p ty, .tmp u]) (tmps : Array Value) (w : World) (g : Nat) (t : TypeId) (cs : Array Value) (fr : Nat × Nat) (d : TypeDesc)
    (hp : tmps.getD p undef = .pointer (some ⟨g, 0, none⟩)) (hg : w.heap[g]? = some (.cells cs t fr)) (hu : P.underlying ty = some d) (hd : (match d with | .struct _ | .array _ _ => true | _ => false) = true) (hi : (P.info? ty).map (·.size) = some cs.size)
    (v : Value) (hv : tmps.getD u undef = v) : (results fn tmps).run P w = .ok (.tuple #[.agg cs, v]) w := by
  have hp' : tmps[p]?.getD undef = .pointer (some ⟨g, 0, none⟩) := by simpa using hp
  have hv' : tmps[u]?.getD undef = v := by simpa using hv
  simp [results, h, hp', hv', asAddr, run_loadVar_row w g t ty cs fr d hg hu hd hi]
theorem step_load_range {P : Program} {w : World} {ops : Array Oper} {o : Oper} {a : Act} {K : Act → World → Prop} {Q : Exit → Act → World → Prop} {G : Prop} (hgd : o.guard = none) (ty : TypeId) (x : Operand) (ho : o.op = .load ty x) (g off : Nat) (hx : a.eval x = .pointer (some ⟨g, off, none⟩)) (k : IntKind) (n : Nat) (f : Nat → Nat) (e : TypeId)
    (hr : w.rangeAt g off (tabV k n f).toList) (hu : P.underlying ty = some (.array n e)) (hz : (P.info? ty).map (·.size) = some n) (h : K (a.put o.dst (.agg (tabV k n f))) w) :
    if Region.wanted o (yielded ops a.tmps) = true then Oper.wp P o a w K Q else G := by
  rw [if_pos (by simp [Region.wanted, hgd])]
  refine wp_load_mid ty x ho g off hx (tabV k n f).toList _ hr hu rfl (by rw [Array.length_toList, tabV_size]; exact hz) ?_
  rw [Array.toArray_toList]
  exact h
theorem run_slice3 {P : Program} {t e : TypeId} (hu : P.underlying t = some (.slice e)) (hs : (P.info? e).map (·.size) = some 1) (A : Option Addr) (len cap lo hi : Nat) (h1 : lo ≤ hi) (h2 : hi ≤ cap) (i j : Int) (hi' : i = (lo : Int)) (hj : j = (hi : Int)) (W : World) :
    (Instr.sliceAt t (.slice A len cap) (some (.int .i64 i)) (some (.int .i64 j)) (some (.int .i64 j))).run P W = .ok (.slice (if hi = lo then A else A.map (·.add lo)) (hi - lo) (hi - lo)) W := by
  subst hi' hj
  cases hq : P.info? e with
  | none => simp [hq] at hs
  | some ie =>
    have hsz : ie.size = 1 := by simpa [hq] using hs
    have a1 : ((hi : Int)) ≤ (cap : Int) := by omega
    have a2 : (lo : Int) ≤ (hi : Int) := by omega
    rw [show (Instr.sliceAt t (.slice A len cap) (some (.int .i64 (lo : Int))) (some (.int .i64 (hi : Int))) (some (.int .i64 (hi : Int)))).run P W = (Instr.slice t (.slice A len cap) (some (.int .i64 (lo : Int))) (some (.int .i64 (hi : Int))) (some (.int .i64 (hi : Int)))).run P W by simp [Instr.sliceAt, run_underlying hu]]
    simp only [Instr.slice, Sem.run_bind, run_underlying hu, Result.andThen_ok, Instr.sliceBounds, Sem.run_pure, run_sliceBound W .i64 _ cap _ (Int.natCast_nonneg _) a1, Int.toNat_natCast]
    simp only [run_sliceBound W .i64 (hi : Int) hi _ (Int.natCast_nonneg _) (Int.le_refl _), Sem.run_bind, Result.andThen_ok, Int.toNat_natCast, run_sliceBound W .i64 (lo : Int) hi _ (Int.natCast_nonneg _) a2]
    simp [sizeOf, typeInfo, hq, hsz]
theorem run_slice30 {P : Program} {t e : TypeId} (hu : P.underlying t = some (.slice e)) (hs : (P.info? e).map (·.size) = some 1) (g off len cap hi : Nat) (h0 : 0 < hi) (h2 : hi ≤ cap) (j : Int) (hj : j = (hi : Int)) (W : World) :
    (Instr.sliceAt t (.slice (some ⟨g, off, none⟩) len cap) none (some (.int .i64 j)) (some (.int .i64 j))).run P W = .ok (.slice (some ⟨g, off, none⟩) hi hi) W := by
  subst hj
  cases hq : P.info? e with
  | none => simp [hq] at hs
  | some ie =>
    have hsz : ie.size = 1 := by simpa [hq] using hs
    have a1 : ((hi : Int)) ≤ (cap : Int) := by omega
    have a3 : ¬ hi = 0 := by omega
    rw [show (Instr.sliceAt t (.slice (some ⟨g, off, none⟩) len cap) none (some (.int .i64 (hi : Int))) (some (.int .i64 (hi : Int)))).run P W = (Instr.slice t (.slice (some ⟨g, off, none⟩) len cap) none (some (.int .i64 (hi : Int))) (some (.int .i64 (hi : Int)))).run P W by simp [Instr.sliceAt, run_underlying hu]]
    simp only [Instr.slice, Sem.run_bind, run_underlying hu, Result.andThen_ok, Instr.sliceBounds, Sem.run_pure, run_sliceBound W .i64 _ cap _ (Int.natCast_nonneg _) a1, Int.toNat_natCast]
    simp only [run_sliceBound W .i64 (hi : Int) hi _ (Int.natCast_nonneg _) (Int.le_refl _), Sem.run_bind, Result.andThen_ok, Int.toNat_natCast]
    have a4 : (⟨g, off, none⟩ : Addr).add 0 = ⟨g, off, none⟩ := by rw [(addr_add _ _).2 rfl]; rfl
    simp [sizeOf, typeInfo, hq, hsz, a3, a4]
theorem arr_far {w w' : World} {g g' : Nat} {t : TypeId} {k : IntKind} {n : Nat} {f : Nat → Nat} (h : Arr w g t k n f) (hg : w.grownBy w' (some g')) (hne : g ≠ g') : Arr w' g t k n f := by
  have hl := h.lt
  unfold Arr at *
  exact (hg.block g hl (by simpa using hne)).trans h
/-- a key and a string of 32 bytes, derived from a key of 16 bytes -/
theorem pkey_c (k : List UInt8) (hkl : k.length = 16) (lab : List UInt8) (s : ByteArray) (hs : s.data.toList = lab) (hl : lab.length ≤ 100000) (SK : Nat → TypeId → Prop) (A : Option Addr) (w : World) (ht : Tab w) (hk : RB w SK A k) :
    Calls Tryz.prog 65 #[.slice A 16 16, .string s] w fun e w' => e = .returned (.agg (tabV .u8 16 (byt (drv (byt (kb k)) lab 16)))) ∧ Ext w w' := by
  have := key_c A 16 k SK s lab hs w ht hk (by omega) (by omega) (by decide) hl
  rw [hkl] at this
  exact this
theorem pder_c (k : List UInt8) (hkl : k.length = 16) (lab : List UInt8) (s : ByteArray) (hs : s.data.toList = lab) (hl : lab.length ≤ 100000) (SK : Nat → TypeId → Prop) (A : Option Addr) (w : World) (ht : Tab w) (hk : RB w SK A k) :
    Calls Tryz.prog 66 #[.slice A 16 16, .string s, .int .i64 32] w fun e w' => ∃ g c, e = .returned (.slice (some ⟨g, 0, none⟩) 32 c) ∧ w.heap.size ≤ g ∧ OwnB w' 5 w.heap.size (some ⟨g, 0, none⟩) c (drv (byt (kb k)) lab 32) ∧ Ext w w' := by
  have := derive_c A 16 k SK s lab hs 32 (by decide) w ht hk (by omega) (by omega) (by decide) hl
  rw [hkl] at this
  refine this.mono ?_
  rintro e w' ⟨B, c, he, ho, hx⟩
  have hdl : (drv (byt (kb k)) lab 32).length = 32 := drv_len _ _ _
  rcases ho.block with ⟨_, _, h⟩ | ⟨g, _, h, hg, _⟩
  · rw [h] at hdl; simp at hdl
  · subst h
    exact ⟨g, c, he, hg, ho, hx⟩
set_option maxRecDepth 100000 in
set_option maxHeartbeats 4000000 in
theorem skeys_c (key : Nat → Nat) (hk : Byt key) (w : World) (ht : Tab w) :
    Calls Tryz.prog 43 #[.agg (tabV .u8 16 key)] w fun e w' =>
      e = .returned (.tuple #[.agg (tabV .u8 16 (byt (ekl (btl 16 key)))), .agg (tabV .u8 32 (byt (mkl (btl 16 key))))]) ∧ Ext w w' := by
  obtain ⟨h0, h1, h2⟩ := new3 w (.cells (tabV .u8 16 key) 22) (.cells (tabV .u8 16 (fun _ => 0)) 22) (.cells (tabV .u8 32 (fun _ => 0)) 53)
  obtain ⟨k, hke⟩ : ∃ k, k = btl 16 key := ⟨_, rfl⟩
  have hkl : k.length = 16 := by rw [hke, btl_len]
  have h0' : Arr _ w.heap.size 22 .u8 16 key := h0
  have hkr := h0'.rb hk
  rw [← hke] at hkr ⊢
  have hx := ((Ext.alloc w (.cells (tabV .u8 16 key) 22)).tr (Ext.alloc _ (.cells (tabV .u8 16 (fun _ => 0)) 22))).tr (Ext.alloc _ (.cells (tabV .u8 32 (fun _ => 0)) 53))
  have HT := Lib.hid ht
  have HKL := Lib.hid hkl
  have HKR := Lib.hid hkr
  have HX := Lib.hid hx
  have HE := Lib.hid (show Arr _ (w.heap.size + 1) 22 .u8 16 (fun _ => 0) from h1)
  have HM := Lib.hid (show Arr _ (w.heap.size + 1 + 1) 53 .u8 32 (fun _ => 0) from h2)
  have harr := fun (a : Option Addr) (c : Nat) => run_arrayAt (P := Tryz.prog) (t := 53) Tryz.underlying53 a 32 c (by decide)
  clear ht hkl hkr hx h0 h0' h1 h2 hke hk
  go_enter Tryz.func43, Tryz.ntmps43
  go_wp2_with fail
  change Code.wp _ _ _ _ (((w.alloc (.cells (tabV .u8 16 key) 22)).alloc (.cells (tabV .u8 16 (fun _ => 0)) 22)).alloc (.cells (tabV .u8 32 (fun _ => 0)) 53))
  obtain ⟨w1, hw1⟩ : ∃ w1, w1 = ((w.alloc (.cells (tabV .u8 16 key) 22)).alloc (.cells (tabV .u8 16 (fun _ => 0)) 22)).alloc (.cells (tabV .u8 32 (fun _ => 0)) 53) := ⟨_, rfl⟩
  rw [← hw1] at HX HE HM HKR ⊢
  clear hw1
  refine wp_region_held_drew (S := fun _ => True) (by kernel_rfl) trivial (fun _ => ?_)
  have x0 : Ext w1 w1.drew := Ext.drew _
  obtain ⟨v0, hv0⟩ : ∃ v, v = w1.drew := ⟨_, rfl⟩
  rw [← hv0] at x0 ⊢
  clear hv0
  refine wpAnyH_take (i := 0) (v := .slice (some ⟨w.heap.size, 0, none⟩) 16 16) rfl (by kernel_rfl) (by kernel_rfl) (by kernel_rfl) (fun _ _ _ h => h) (Or.inl ⟨by kernel_rfl, ?_⟩) trivial ?_
  · intro W hW
    go_simp
  try simp only [List.getElem_toArray, List.getElem_cons_succ, List.getElem_cons_zero, Act.put, List.setIfInBounds_toArray, List.set_cons_zero, List.set_cons_succ]
  refine wpAnyH_take (i := 2) (v := .slice (some ⟨w.heap.size, 0, none⟩) 16 16) rfl (by kernel_rfl) (by kernel_rfl) (by kernel_rfl) (fun _ _ _ h => h) (Or.inl ⟨by kernel_rfl, ?_⟩) trivial ?_
  · intro W hW
    go_simp
  try simp only [List.getElem_toArray, List.getElem_cons_succ, List.getElem_cons_zero, Act.put, List.setIfInBounds_toArray, List.set_cons_zero, List.set_cons_succ]
  refine wpAnyH_ready (rs := [1]) (by kernel_rfl) (by simp) ?_
  refine AllReadyH.cons rfl (fun K hK => ?_) AllReadyH.nil
  go_simp
  refine (pkey_c k HKL.out labE _ rfl (by decide) _ _ v0 (HT.out.ext (HX.out.tr x0)) (HKR.out.ext x0)).mono ?_
  rintro e v1 ⟨rfl, hx1⟩
  have x1 := x0.tr hx1
  clear hx1 x0
  refine hK.out _ _ trivial (fun _ => ?_)
  clear hK K
  try simp only [List.getElem_toArray, List.getElem_cons_succ, List.getElem_cons_zero, Act.put, List.setIfInBounds_toArray, List.set_cons_zero, List.set_cons_succ]
  refine wpAnyH_ready (rs := [3]) (by kernel_rfl) (by simp) ?_
  refine AllReadyH.cons rfl (fun K hK => ?_) AllReadyH.nil
  go_simp
  refine (pder_c k HKL.out labM _ rfl (by decide) _ _ v1 (HT.out.ext (HX.out.tr x1)) (HKR.out.ext x1)).mono ?_
  rintro e v2 ⟨g, c, rfl, hg, ho, hx2⟩
  have x2 := x1.tr hx2
  change OwnB v2 _ _ _ c (mkl k) at ho
  have hgs : w.heap.size + 1 + 1 + 1 ≤ g := by
    have h1 := x1.size
    have h2 := lt_of_some (show w1.heap[w.heap.size + 1 + 1]? = some _ from HM.out)
    omega
  have HO := Lib.hid ho
  have HE2 := Lib.hid (HE.out.ext x2)
  have HM2 := Lib.hid (HM.out.ext x2)
  have HX2 := Lib.hid (HX.out.tr x2)
  clear hx2 x1 ho x2 HE HM HX HKR hg
  refine hK.out _ _ trivial (fun _ => ?_)
  clear hK K
  try simp only [List.getElem_toArray, List.getElem_cons_succ, List.getElem_cons_zero, Act.put, List.setIfInBounds_toArray, List.set_cons_zero, List.set_cons_succ]
  refine wpAnyH_take (i := 4) (v := .pointer (some ⟨g, 0, none⟩)) rfl (by kernel_rfl) (by kernel_rfl) (by kernel_rfl) (fun _ _ _ h => h) (Or.inl ⟨by kernel_rfl, ?_⟩) trivial ?_
  · intro W hW
    go_simp
  try simp only [List.getElem_toArray, List.getElem_cons_succ, List.getElem_cons_zero, Act.put, List.setIfInBounds_toArray, List.set_cons_zero, List.set_cons_succ]
  have hdl : (mkl k).length = 32 := mkl_len k
  have hrg := fun (V : World) (T : Nat → TypeId → Prop) (hr : RB V T (some ⟨g, 0, none⟩) (mkl k)) => rangeAt_rb hr (n := 32) (by rw [hdl]; decide) (byt (mkl k)) (fun j _ => rfl) (by decide)
  refine wpAnyH_ready (rs := [5, 6]) (by kernel_rfl) (by simp) ?_
  refine AllReadyH.cons rfl (fun K hK => ?_) (AllReadyH.cons rfl (fun K hK => ?_) AllReadyH.nil)
  · refine step_load_range rfl 53 (.tmp 8) rfl g 0 rfl .u8 32 (byt (mkl k)) _ (hrg _ _ HO.out.rb) Tryz.underlying53 size_dig ?_
    refine hK.out _ _ trivial (fun _ => ?_)
    clear hK K
    try simp only [List.getElem_toArray, List.getElem_cons_succ, List.getElem_cons_zero, Act.put, List.setIfInBounds_toArray, List.set_cons_zero, List.set_cons_succ]
    refine wpAnyH_ready (rs := [6]) (by kernel_rfl) (by simp) ?_
    refine AllReadyH.cons rfl (fun K hK => ?_) AllReadyH.nil
    refine step_store_arr _ rfl 22 (.tmp 2) (.tmp 5) rfl (w.heap.size + 1) .u8 16 (byt (ekl k)) (fun _ => 0) rfl rfl 22 HE2.out size_k16 ?_
    intro v3 hE3 hG3
    refine hK.out _ _ trivial (fun _ => ?_)
    clear hK K
    try simp only [List.getElem_toArray, List.getElem_cons_succ, List.getElem_cons_zero, Act.put, List.setIfInBounds_toArray, List.set_cons_zero, List.set_cons_succ]
    refine wpAnyH_ready (rs := [7]) (by kernel_rfl) (by simp) ?_
    refine AllReadyH.cons rfl (fun K hK => ?_) AllReadyH.nil
    refine step_store_arr _ rfl 53 (.tmp 3) (.tmp 9) rfl (w.heap.size + 1 + 1) .u8 32 (byt (mkl k)) (fun _ => 0) rfl rfl 53 (arr_far HM2.out hG3 (by omega)) size_dig ?_
    intro v4 hM4 hG4
    refine hK.out _ _ trivial (fun _ => ?_)
    clear hK K
    try simp only [List.getElem_toArray, List.getElem_cons_succ, List.getElem_cons_zero, Act.put, List.setIfInBounds_toArray, List.set_cons_zero, List.set_cons_succ]
    refine wpAnyH_done (by kernel_rfl) ?_ _
    go_wp2_with fail
    refine bodyPost_ret (v := .tuple #[.agg (tabV .u8 16 (byt (ekl k))), .agg (tabV .u8 32 (byt (mkl k)))]) ?_ rfl ⟨rfl, grown_new (grown_new HX2.out hG3 (fun g hg => by simp at hg; omega)) hG4 (fun g hg => by simp at hg; omega)⟩
    exact results_two_cells rfl _ _ (w.heap.size + 1) (w.heap.size + 1 + 1) _ _ _ _ _ _ _ _ (by simp) (arr_far hE3 hG4 (by omega)) Tryz.underlying22 rfl (by rw [tabV_size]; exact size_k16) (by simp) hM4 Tryz.underlying53 rfl (by rw [tabV_size]; exact size_dig)
  · refine step_store_arr _ rfl 22 (.tmp 2) (.tmp 5) rfl (w.heap.size + 1) .u8 16 (byt (ekl k)) (fun _ => 0) rfl rfl 22 HE2.out size_k16 ?_
    intro v3 hE3 hG3
    refine hK.out _ _ trivial (fun _ => ?_)
    clear hK K
    try simp only [List.getElem_toArray, List.getElem_cons_succ, List.getElem_cons_zero, Act.put, List.setIfInBounds_toArray, List.set_cons_zero, List.set_cons_succ]
    refine wpAnyH_ready (rs := [5]) (by kernel_rfl) (by simp) ?_
    refine AllReadyH.cons rfl (fun K hK => ?_) AllReadyH.nil
    refine step_load_range rfl 53 (.tmp 8) rfl g 0 rfl .u8 32 (byt (mkl k)) _ (hrg _ _ (HO.out.far hG3 HE2.out (by decide)).rb) Tryz.underlying53 size_dig ?_
    refine hK.out _ _ trivial (fun _ => ?_)
    clear hK K
    try simp only [List.getElem_toArray, List.getElem_cons_succ, List.getElem_cons_zero, Act.put, List.setIfInBounds_toArray, List.set_cons_zero, List.set_cons_succ]
    refine wpAnyH_ready (rs := [7]) (by kernel_rfl) (by simp) ?_
    refine AllReadyH.cons rfl (fun K hK => ?_) AllReadyH.nil
    refine step_store_arr _ rfl 53 (.tmp 3) (.tmp 9) rfl (w.heap.size + 1 + 1) .u8 32 (byt (mkl k)) (fun _ => 0) rfl rfl 53 (arr_far HM2.out hG3 (by omega)) size_dig ?_
    intro v4 hM4 hG4
    refine hK.out _ _ trivial (fun _ => ?_)
    clear hK K
    try simp only [List.getElem_toArray, List.getElem_cons_succ, List.getElem_cons_zero, Act.put, List.setIfInBounds_toArray, List.set_cons_zero, List.set_cons_succ]
    refine wpAnyH_done (by kernel_rfl) ?_ _
    go_wp2_with fail
    refine bodyPost_ret (v := .tuple #[.agg (tabV .u8 16 (byt (ekl k))), .agg (tabV .u8 32 (byt (mkl k)))]) ?_ rfl ⟨rfl, grown_new (grown_new HX2.out hG3 (fun g hg => by simp at hg; omega)) hG4 (fun g hg => by simp at hg; omega)⟩
    exact results_two_cells rfl _ _ (w.heap.size + 1) (w.heap.size + 1 + 1) _ _ _ _ _ _ _ _ (by simp) (arr_far hE3 hG4 (by omega)) Tryz.underlying22 rfl (by rw [tabV_size]; exact size_k16) (by simp) hM4 Tryz.underlying53 rfl (by rw [tabV_size]; exact size_dig)
end Go.Proofs.YtagegigffohcbaaGreatDoor

namespace Go.Proofs.YtagegigffohcbaaGreatDoor
open Go.RowKit
set_option linter.unusedVariables false
set_option linter.unusedSimpArgs false

set_option maxRecDepth 100000 in
set_option maxHeartbeats 2000000 in
theorem nonce_c (d : Nat) (B : Option Addr) (s : List UInt8) (S : Nat → TypeId → Prop) (w : World) (hb : s.length ≤ 1048576) (hd : s.length ≤ d) (hr : RB w S B s) :
    Calls Tryz.prog 47 #[.slice B s.length d] w fun e w' =>
      e = .returned (.tuple #[.agg (tabV .u8 8 (if 24 ≤ s.length then byt s else fun _ => 0)), .bool (decide (24 ≤ s.length))]) ∧ Ext w w' := by
  have h0 : Arr (w.alloc (.cells (tabV .u8 8 (fun _ => 0)) 23)) w.heap.size 23 .u8 8 (fun _ => 0) := new_of w _
  have HX := Lib.hid (Ext.alloc w (.cells (tabV .u8 8 (fun _ => 0)) 23))
  have H0 := Lib.hid h0
  by_cases hlt : s.length < 24
  · have t1 : decide ((s.length : Int) < 24) = true := decide_eq_true (by omega)
    rw [if_neg (by omega), decide_eq_false (show ¬ 24 ≤ s.length by omega)]
    clear h0 hr
    go_enter Tryz.func47, Tryz.ntmps47
    go_wp2_with (first
      | (refine wpList_build_tab rfl 23 #[] rfl .u8 8 (fun _ => 0) (by kernel_rfl) ?_)
      | (refine wpList_store_arr' rfl rfl 23 (.tmp 2) (.tmp 7) rfl w.heap.size .u8 8 (fun _ => 0) rfl rfl 23 _ H0.out size_nc tabV_size ?_; intro w5 hA5 hG5))
    refine bodyPost_ret (v := .tuple #[.agg (tabV .u8 8 (fun _ => 0)), .bool false]) ?_ rfl ⟨rfl, grown_new HX.out hG5 (fun g hg => by simp at hg; omega)⟩
    exact results_cell_slot rfl _ _ w.heap.size _ _ _ _ (by simp) hA5 Tryz.underlying23 rfl (by rw [tabV_size]; exact size_nc) _ rfl
  have t1 : decide ((s.length : Int) < 24) = false := decide_eq_false (by omega)
  obtain ⟨g, off, rfl⟩ := rb_block hr (by omega)
  rw [if_pos (by omega), decide_eq_true (show 24 ≤ s.length by omega)]
  have HRG := Lib.hid (rangeAt_rb (hr.ext HX.out) (n := 8) (by omega) (byt s) (fun j _ => rfl) (by decide))
  have harr8 := fun (a : Option Addr) (c : Nat) => run_arrayAt (P := Tryz.prog) (t := 23) Tryz.underlying23 a 8 c (by decide)
  have hsl := fun W => run_slice30 (P := Tryz.prog) Tryz.underlying31 size_u8 g off s.length d 8 (by omega) (by omega) 8 rfl W
  clear h0 hr
  go_enter Tryz.func47, Tryz.ntmps47
  go_wp2_with (first
    | (refine wpList_load_range rfl 23 (.tmp 10) rfl g off rfl .u8 8 (byt s) _ HRG.out Tryz.underlying23 size_nc ?_)
    | (refine wpList_store_arr' rfl rfl 23 (.tmp 2) (.tmp 11) rfl w.heap.size .u8 8 (byt s) rfl rfl 23 _ H0.out size_nc tabV_size ?_; intro w5 hA5 hG5))
  refine bodyPost_ret (v := .tuple #[.agg (tabV .u8 8 (byt s)), .bool true]) ?_ rfl ⟨rfl, grown_new HX.out hG5 (fun g hg => by simp at hg; omega)⟩
  exact results_cell_slot rfl _ _ w.heap.size _ _ _ _ (by simp) hA5 Tryz.underlying23 rfl (by rw [tabV_size]; exact size_nc) _ rfl
end Go.Proofs.YtagegigffohcbaaGreatDoor

namespace Go.Proofs.YtagegigffohcbaaGreatDoor
open Go.RowKit
set_option linter.unusedVariables false
set_option linter.unusedSimpArgs false

/-- a derived key of the reference -/
theorem rkey_c (k : List UInt8) (hkl : k.length = 16) (lab : List UInt8) (s : ByteArray) (hs : s.data.toList = lab) (hl : lab.length ≤ 100000) (n : Nat) (hn : n ≤ 4000) (SK : Nat → TypeId → Prop) (A : Option Addr) (w : World) (hk : RB w SK A k) :
    Calls Tryz.prog 24 #[.slice A 16 16, .string s, .int .i64 n] w fun e w' => ∃ A c, e = .returned (.slice A n c) ∧ RB w' (fun _ _ => True) A (drv (byt (kb k)) lab n) ∧ Ext w w' := by
  have := rderive_c A 16 k SK s lab hs n hn w hk (by omega) hl
  rw [hkl] at this
  exact this
set_option maxRecDepth 100000 in
set_option maxHeartbeats 4000000 in
theorem rseal_c (d : Nat) (key nonce : Nat → Nat) (hk : Byt key) (hn : Byt8 nonce) (u : UInt8) (B : Option Addr) (b : List UInt8) (S : Nat → TypeId → Prop) (w : World) (hb : b.length ≤ 1048576) (hr : RB w S B b) :
    Calls Tryz.prog 11 #[.agg (tabV .u8 16 key), .int .u8 (u.toNat : Int), .agg (tabV .u8 8 nonce), .slice B b.length d] w fun e w' =>
      ∃ A c, e = .returned (.slice A (b.length + 24) c) ∧ OwnB w' 5 w.heap.size A c (sld (btl 16 key) u nonce b) ∧ Ext w w' := by
  obtain ⟨i0, hi0, hz0, hz1, hz2⟩ := info_parts info_u8
  obtain ⟨h0, h1⟩ := two_new w (.cells (tabV .u8 16 key) 22) (.cells (tabV .u8 8 nonce) 23)
  obtain ⟨k, hke⟩ : ∃ k, k = btl 16 key := ⟨_, rfl⟩
  have hkl : k.length = 16 := by rw [hke, btl_len]
  have H0 := Lib.hid (show Arr _ w.heap.size 22 .u8 16 key from h0)
  have H1 := Lib.hid (show Arr _ (w.heap.size + 1) 23 .u8 8 nonce from h1)
  have hkr := H0.out.rb hk
  rw [← hke] at hkr ⊢
  have hw1 : ((w.alloc (.cells (tabV .u8 16 key) 22)).alloc (.cells (tabV .u8 8 nonce) 23)).heap.size = w.heap.size + 1 + 1 := by simp
  have HX := Lib.hid ((Ext.alloc w (.cells (tabV .u8 16 key) 22)).tr (Ext.alloc _ (.cells (tabV .u8 8 nonce) 23)))
  have HR := Lib.hid (hr.inside)
  have HN := Lib.hid hn
  have HKL := Lib.hid hkl
  have HKR := Lib.hid hkr
  have HW := Lib.hid hw1
  have harr := fun (a : Option Addr) (c : Nat) => run_arrayAt (P := Tryz.prog) (t := 22) Tryz.underlying22 a 16 c (by decide)
  clear h0 h1 hr hk hn hkl hkr hke hw1
  go_enter Tryz.func11, Tryz.ntmps11
  go_wp2_with fail
  obtain ⟨w1, hw1⟩ : ∃ w1, w1 = (w.alloc (.cells (tabV .u8 16 key) 22)).alloc (.cells (tabV .u8 8 nonce) 23) := ⟨_, rfl⟩
  rw [← hw1] at HX H0 H1 HKR HW ⊢
  clear hw1
  refine (rkey_c k HKL.out labE _ rfl (by decide) 16 (by decide) _ _ w1 HKR.out).mono ?_
  rintro e w2 ⟨A, c, rfl, hra, hx2⟩
  have hdl : (drv (byt (kb k)) labE 16).length = 16 := drv_len _ _ _
  obtain ⟨g, off, rfl⟩ := rb_block hra (by rw [hdl]; decide)
  have HRG := Lib.hid (rangeAt_rb hra (n := 16) (by rw [hdl]; decide) (byt (ekl k)) (fun j _ => rfl) (by decide))
  have HX2 := Lib.hid (HX.out.tr hx2)
  have H02 := Lib.hid (H0.out.ext hx2)
  have H12 := Lib.hid (H1.out.ext hx2)
  have HKR2 := Lib.hid (HKR.out.ext hx2)
  have hs2 := hx2.size
  have HW2 := Lib.hid (show w.heap.size + 1 + 1 ≤ w2.heap.size by have := HW.out; omega)
  clear hra hx2 hdl HX H0 H1 HKR HW hs2
  go_wp2_with (first
    | (refine wpList_load_range rfl 22 (.tmp 15) rfl g off rfl .u8 16 (byt (ekl k)) _ HRG.out Tryz.underlying22 size_bk ?_)
    | (refine wpList_store_arr rfl 22 (.tmp 9) (.tmp 16) rfl w2.heap.size .u8 16 (byt (ekl k)) rfl rfl 22 _ (new_of _ _) size_bk rfl ?_
       intro w3 hA3 hG3
       have hx3 : Ext w2 w3 := grown_new (Ext.alloc _ _) hG3 (fun g hg => by simp at hg; omega)
       have HE3 := Lib.hid hA3
       have HX3 := Lib.hid (HX2.out.tr hx3)
       have H03 := Lib.hid (H02.out.ext hx3)
       have H13 := Lib.hid (H12.out.ext hx3)
       have HKR3 := Lib.hid (HKR2.out.ext hx3)
       have hs3 := hx3.size
       clear hA3 hG3 hx3 HX2 H02 H12 HKR2))
  obtain ⟨ge, hge⟩ : ∃ ge, ge = w2.heap.size := ⟨_, rfl⟩
  rw [← hge] at HE3 ⊢
  refine (rkey_c k HKL.out labM _ rfl (by decide) 32 (by decide) _ _ w3 HKR3.out).mono ?_
  rintro e w4 ⟨M, cM, rfl, hrm, hx4⟩
  have HM4 := Lib.hid (show RB w4 _ M (mkl k) from hrm)
  have HX4 := Lib.hid (HX3.out.tr hx4)
  have HE4 := Lib.hid (HE3.out.ext hx4)
  have H14 := Lib.hid (H13.out.ext hx4)
  have hs4 := hx4.size
  have HW4 := Lib.hid (show w.heap.size + 1 + 1 ≤ w4.heap.size by have := HW2.out; omega)
  clear hrm hx4 HX3 HE3 H03 H13 HKR3 hs3 hs4 HRG hge HW2
  go_wp2_with fail
  refine wp_region_held_drew (S := fun V => Ext w4 V) (by kernel_rfl) (Ext.drew _) (fun x0 => ?_)
  obtain ⟨v0, hv0⟩ : ∃ v, v = w4.drew := ⟨_, rfl⟩
  rw [← hv0] at x0 ⊢
  clear hv0
  refine wpAnyH_take (i := 1) (v := .slice (some ⟨w.heap.size + 1, 0, none⟩) 8 8) rfl (by kernel_rfl) (by kernel_rfl) (by kernel_rfl) (fun _ _ _ h => h) (Or.inl ⟨by kernel_rfl, ?_⟩) x0 ?_
  · intro W hW
    go_simp
  try simp only [Act.put, List.setIfInBounds_toArray, List.set_cons_zero, List.set_cons_succ]
  refine wpAnyH_take_arr 3 rfl (by kernel_rfl) (by kernel_rfl) (by kernel_rfl) (fun _ _ _ _ h => h) (by kernel_rfl) 22 (.tmp 9) rfl ge 0 rfl .u8 16 (byt (ekl k)) _ (fun _ hw => rangeAt_arr (HE4.out.ext hw)) Tryz.underlying22 size_bk x0 ?_
  try simp only [Act.put, List.setIfInBounds_toArray, List.set_cons_zero, List.set_cons_succ]
  refine wpAnyH_take_arr 4 rfl (by kernel_rfl) (by kernel_rfl) (by kernel_rfl) (fun _ _ _ _ h => h) (by kernel_rfl) 23 (.tmp 6) rfl (w.heap.size + 1) 0 rfl .u8 8 nonce _ (fun _ hw => rangeAt_arr (H14.out.ext hw)) Tryz.underlying23 size_nc x0 ?_
  try simp only [Act.put, List.setIfInBounds_toArray, List.set_cons_zero, List.set_cons_succ]
  refine wpAnyH_take_move 5 rfl (by kernel_rfl) (by kernel_rfl) (by kernel_rfl) (fun _ _ _ _ h => h) (by kernel_rfl) (.tmp 3) rfl (.slice B b.length d) rfl x0 ?_
  try simp only [Act.put, List.setIfInBounds_toArray, List.set_cons_zero, List.set_cons_succ]
  refine wpAnyH_ready (rs := [0]) (by kernel_rfl) (by simp) ?_
  refine AllReadyH.cons rfl (fun K hK => ?_) AllReadyH.nil
  go_simp
  change K _ (World.alloc v0 (.cells #[] 5))
  have N : OwnB (World.alloc v0 (.cells #[] 5)) 5 w4.heap.size (some ⟨v0.heap.size, 0, none⟩) 0 [] := OwnB.lit (w := v0) [] #[] rfl x0.size (by simp [maxLen])
  have x1 : Ext w4 (World.alloc v0 (.cells #[] 5)) := x0.tr (Ext.alloc _ _)
  obtain ⟨g1, hg1⟩ : ∃ g, g = v0.heap.size := ⟨_, rfl⟩
  obtain ⟨v1, hv1⟩ : ∃ v, v = World.alloc v0 (.cells #[] 5) := ⟨_, rfl⟩
  rw [← hg1] at N ⊢
  rw [← hv1] at N x1 ⊢
  clear hg1 hv1 x0
  refine hK.out _ _ x1 (fun _ => ?_)
  clear hK K
  try simp only [Act.put, List.setIfInBounds_toArray, List.set_cons_zero, List.set_cons_succ]
  refine wpAnyH_ready (rs := [2]) (by kernel_rfl) (by simp) ?_
  refine AllReadyH.cons rfl (fun K hK => ?_) AllReadyH.nil
  refine step_append_bytes _ rfl (.tmp 19) (.tmp 20) 31 rfl w4.heap.size 5 i0 Tryz.underlying31 hi0 hz0 hz1 hz2 (some ⟨g1, 0, none⟩) 0 [] rfl N _ (some ⟨w.heap.size + 1, 0, none⟩) 8 8 (btl 8 nonce) rfl (btl_len _ _) ((H14.out.ext x1).rb HN.out) (by decide) x1.size ?_
  intro A2 c2 v2 F2 hG2 _
  have x2 := grown_new x1 hG2 N.ge
  rw [List.nil_append] at F2 ⊢
  have hl8 : (btl 8 nonce).length = 8 := btl_len _ _
  rw [hl8]
  clear hG2 N x1
  refine hK.out _ _ x2 (fun _ => ?_)
  clear hK K
  try simp only [Act.put, List.setIfInBounds_toArray, List.set_cons_zero, List.set_cons_succ]
  refine wpAnyH_ready (rs := [6]) (by kernel_rfl) (by simp) ?_
  refine AllReadyH.cons rfl (fun K hK => ?_) AllReadyH.nil
  go_simp
  refine (rcrypt_c d (byt (ekl k)) nonce (fun i _ => byt_lt _ _) HN.out B b _ v2 hb (HR.out.ext (HX4.out.tr x2))).mono ?_
  rintro e v3 ⟨A3, c3, rfl, ho3, hx3⟩
  have x3 := x2.tr hx3
  have F3 := F2.ext hx3
  have hel : (ecr k nonce b).length = b.length := ecr_len _ _ _
  have HO3 := Lib.hid (show OwnB v3 _ v2.heap.size A3 c3 (ecr k nonce b) from ho3)
  clear ho3 hx3 x2 F2
  refine hK.out _ _ x3 (fun _ => ?_)
  clear hK K
  try simp only [Act.put, List.setIfInBounds_toArray, List.set_cons_zero, List.set_cons_succ]
  refine wpAnyH_ready (rs := [7]) (by kernel_rfl) (by simp) ?_
  refine AllReadyH.cons rfl (fun K hK => ?_) AllReadyH.nil
  refine step_append_bytes _ rfl (.tmp 21) (.tmp 25) 31 rfl w4.heap.size 5 i0 Tryz.underlying31 hi0 hz0 hz1 hz2 A2 c2 (btl 8 nonce) (by rw [hl8]; rfl) F3 _ A3 b.length c3 (ecr k nonce b) rfl hel HO3.out.rb (by rw [hl8]; omega) x3.size ?_
  intro A5 c5 v5 F5 hG5 _
  have x5 := grown_new x3 hG5 F3.ge
  change OwnB v5 _ w4.heap.size A5 c5 (frt k nonce b) at F5
  change K (Act.put _ _ (.slice A5 (frt k nonce b).length c5)) _
  have hfl := frt_len k nonce b
  rw [hfl]
  clear hG5 F3 x3 HO3
  refine hK.out _ _ x5 (fun _ => ?_)
  clear hK K
  try simp only [Act.put, List.setIfInBounds_toArray, List.set_cons_zero, List.set_cons_succ]
  refine wpAnyH_ready (rs := [8]) (by kernel_rfl) (by simp) ?_
  refine AllReadyH.cons rfl (fun K hK => ?_) AllReadyH.nil
  go_simp
  refine hK.out _ _ x5 (fun _ => ?_)
  clear hK K
  try simp only [Act.put, List.setIfInBounds_toArray, List.set_cons_zero, List.set_cons_succ]
  refine wpAnyH_done (by kernel_rfl) ?_ _
  have HF := Lib.hid F5
  have HX5 := Lib.hid x5
  have HFL := Lib.hid hfl
  clear F5 x5 hfl hel hl8 HE4 H14
  go_wp2_with (at_builtin; first
    | (refine wpList_append_bytes _ rfl (.tmp 29) (.tmp 30) 31 rfl v5.heap.size 5 i0 Tryz.underlying31 hi0 hz0 hz1 hz2 (some ⟨v5.heap.size, 0, none⟩) 1 [u] rfl (OwnB.lit [u] #[.int .u8 (u.toNat : Int)] rfl (Nat.le_refl _) (by simp [maxLen])) _ A5 c5 (frt k nonce b) (by rw [HFL.out]; rfl) (HF.out.rb.ext (Ext.alloc _ _)) (by rw [HFL.out]; simp; omega) (by simp) ?_
       intro A6 c6 v6 F6 hG6 _
       have x6 : Ext v5 v6 := grown_new (Ext.alloc _ _) hG6 (fun g hg => by simp [Value.ownBlock] at hg; omega)
       have hl9 : ([u] ++ frt k nonce b).length = b.length + 9 := by rw [List.length_append, HFL.out]; simp; omega
       rw [hl9]
       have HL9 := Lib.hid hl9
       have HF6 := Lib.hid F6.rb
       have HX6 := Lib.hid (HX5.out.tr x6)
       have HO6 := Lib.hid (HF.out.ext x6)
       clear hl9 F6 x6 hG6 HF HX5))
  have hmc := rmac_c M cM (mkl k) _ A6 c6 ([u] ++ frt k nonce b) _ v6 (HM4.out.ext HX6.out) (by rw [mkl_len]; decide) HF6.out (by rw [HL9.out]; omega)
  rw [mkl_len, HL9.out] at hmc
  refine hmc.mono ?_
  rintro e v7 ⟨rfl, hx7⟩
  obtain ⟨C, hC⟩ : ∃ C, C = hm (mkl k) ([u] ++ frt k nonce b) := ⟨_, rfl⟩
  have htag : btl 16 C = tag k u (frt k nonce b) := by rw [hC]; rfl
  have hCl : ∀ i, i < 32 → C i < 256 := fun i _ => by rw [hC]; exact hm_lt _ _ _
  rw [← hC]
  have HX7 := Lib.hid (HX6.out.tr hx7)
  have HO7 := Lib.hid (HO6.out.ext hx7)
  have HCL := Lib.hid hCl
  have HTG := Lib.hid htag
  clear hmc hx7 HX6 HO6 HF6 HL9 hC hCl htag HM4
  go_wp2_with (first
    | (refine wpList_store_arr rfl 53 (.tmp 12) (.tmp 32) rfl v7.heap.size .u8 32 C rfl rfl 53 _ (new_of _ _) size_dig rfl ?_
       intro v8 hA8 hG8
       have x8 : Ext v7 v8 := grown_new (Ext.alloc _ _) hG8 (fun g hg => by simp at hg; omega)
       have HX8 := Lib.hid (HX7.out.tr x8)
       have HO8 := Lib.hid (HO7.out.ext x8)
       have htk := (hA8.rb HCL.out).take 16
       rw [btl_cut C (by decide), HTG.out] at htk
       have HTK := Lib.hid htk
       have HS8 := Lib.hid x8.size
       clear hA8 hG8 x8 htk)
    | (at_builtin
       refine wpList_append_bytes _ rfl (.tmp 33) (.tmp 34) 31 rfl w4.heap.size 5 i0 Tryz.underlying31 hi0 hz0 hz1 hz2 A5 c5 (frt k nonce b) (by rw [HFL.out]; rfl) HO8.out _ (some ⟨v7.heap.size, 0, none⟩) 32 (tag k u (frt k nonce b)) (by rw [tag_len]; rfl) HTK.out (by rw [HFL.out, tag_len]; omega) HX8.out.size ?_
       intro A9 c9 v9 F9 hG9 _
       have HX9 := Lib.hid (grown_new HX8.out hG9 HO8.out.ge)
       change OwnB v9 _ w4.heap.size A9 c9 (sld k u nonce b) at F9
       change wpList _ _ _ _ (Act.put _ _ (.slice A9 (sld k u nonce b).length c9)) _
       rw [sld_len]
       have HF9 := Lib.hid F9
       clear F9 hG9))
  go_ret
  exact ⟨A9, c9, rfl, HF9.out.less HX4.out.size, HX4.out.tr HX9.out⟩
theorem run_slice_mid {P : Program} {t e : TypeId} (hu : P.underlying t = some (.slice e)) (hs : (P.info? e).map (·.size) = some 1) (g off len cap lo n : Nat) (h1 : lo + n ≤ cap) (h2 : lo < cap) (i j : Int) (hi : i = lo) (hj : j = ((lo + n : Nat) : Int)) (W : World) :
    (Instr.sliceAt t (.slice (some ⟨g, off, none⟩) len cap) (some (.int .i64 i)) (some (.int .i64 j)) none).run P W = .ok (.slice (some ⟨g, off + lo, none⟩) n (cap - lo)) W := by
  subst hi hj
  cases hq : P.info? e with
  | none => simp [hq] at hs
  | some ie =>
    have hsz : ie.size = 1 := by simpa [hq] using hs
    have a1 : ¬ cap = lo := by omega
    have a2 : (((lo + n : Nat) : Int)) ≤ (cap : Int) := by omega
    have a3 : (lo : Int) ≤ ((lo + n : Nat) : Int) := by omega
    have a4 : (⟨g, off, none⟩ : Addr).add lo = ⟨g, off + lo, none⟩ := (addr_add _ _).2 rfl
    have a5 : lo + n - lo = n := by omega
    rw [show (Instr.sliceAt t (.slice (some ⟨g, off, none⟩) len cap) (some (.int .i64 (lo : Int))) (some (.int .i64 ((lo + n : Nat) : Int))) none).run P W = (Instr.slice t (.slice (some ⟨g, off, none⟩) len cap) (some (.int .i64 (lo : Int))) (some (.int .i64 ((lo + n : Nat) : Int))) none).run P W by simp [Instr.sliceAt, run_underlying hu]]
    simp only [Instr.slice, Sem.run_bind, run_underlying hu, Result.andThen_ok, Instr.sliceBounds, Sem.run_pure, run_sliceBound W .i64 _ cap _ (Int.natCast_nonneg _) a2, Int.toNat_natCast]
    simp [run_sliceBound W .i64 (lo : Int) (lo + n) _ (Int.natCast_nonneg _) a3, sizeOf, typeInfo, hq, hsz, a1, a4]
theorem rb_mid {w : World} {S : Nat → TypeId → Prop} {g off : Nat} {s : List UInt8} (h : RB w S (some ⟨g, off, none⟩) s) : RB w S (some ⟨g, off + 8, none⟩) (mid s) := by
  have := (h.take (s.length - 16)).drop (k := 8) (cap := s.length + 9) (by rw [List.length_take]; omega)
  rw [if_neg (by omega)] at this
  have e : (some ⟨g, off, none⟩ : Option Addr).map (·.add 8) = some ⟨g, off + 8, none⟩ := by rw [Option.map_some, (addr_add _ _).2 rfl]
  rw [e] at this
  exact this
/-- what Open of the reference answers -/
def oans (k : List UInt8) (u : UInt8) (s : List UInt8) : List UInt8 := (opn k u s).getD []
set_option maxRecDepth 100000 in
set_option maxHeartbeats 4000000 in
theorem ropen_cap (d : Nat) (key : Nat → Nat) (hk : Byt key) (u : UInt8) (B : Option Addr) (s : List UInt8) (S : Nat → TypeId → Prop) (w : World) (hb : s.length ≤ 1048576) (hd : s.length ≤ d) (hr : RB w S B s) :
    Calls Tryz.prog 31 #[.agg (tabV .u8 16 key), .int .u8 (u.toNat : Int), .slice B s.length d] w fun e w' =>
      ∃ A c, e = .returned (.tuple #[.slice A (oans (btl 16 key) u s).length c, .bool (opn (btl 16 key) u s).isSome]) ∧ RB w' (fun _ _ => True) A (oans (btl 16 key) u s) ∧ (oans (btl 16 key) u s).length ≤ c ∧ c ≤ 9223372036854775807 ∧ Ext w w' := by
  have h0 : Arr (w.alloc (.cells (tabV .u8 16 key) 22)) w.heap.size 22 .u8 16 key := new_of w _
  obtain ⟨k, hke⟩ : ∃ k, k = btl 16 key := ⟨_, rfl⟩
  have hkl : k.length = 16 := by rw [hke, btl_len]
  have hkr := h0.rb hk
  rw [← hke] at hkr ⊢
  have HX := Lib.hid (Ext.alloc w (.cells (tabV .u8 16 key) 22))
  by_cases hlt : s.length < 24
  · have t1 : decide ((s.length : Int) < 24) = true := decide_eq_true (by omega)
    have ho : opn k u s = none := opn_short hlt
    have ho2 : oans k u s = [] := by unfold oans; rw [ho]; rfl
    rw [ho, ho2]
    clear h0 hkr hr hk
    go_enter Tryz.func31, Tryz.ntmps31
    go_wp2_with fail
    refine bodyPost_ret (v := .tuple #[.slice none 0 0, .bool false]) (by simp [results, Tryz.results31, go_sem]) rfl ⟨none, 0, rfl, RB.nil _ _ _, Nat.le_refl _, by decide, HX.out⟩
  have t1 : decide ((s.length : Int) < 24) = false := decide_eq_false (by omega)
  obtain ⟨g, off, rfl⟩ := rb_block hr (by omega)
  have hml := mid_len s
  have hmr := rb_mid hr
  have hrg := fun (V : World) (hx : Ext w V) => rangeAt_rb (hr.ext hx) (n := 8) (by omega) (byt s) (fun j _ => rfl) (by decide)
  have harr := fun (a : Option Addr) (c : Nat) => run_arrayAt (P := Tryz.prog) (t := 22) Tryz.underlying22 a 16 c (by decide)
  have harr8 := fun (a : Option Addr) (c : Nat) => run_arrayAt (P := Tryz.prog) (t := 23) Tryz.underlying23 a 8 c (by decide)
  have hhi := fun W => run_slice_hi0 (P := Tryz.prog) Tryz.underlying31 size_u8 g off s.length d 8 (by omega) (by omega) 8 rfl W
  obtain ⟨en, hen⟩ : ∃ en : Nat, en = 8 + (s.length - 24) := ⟨_, rfl⟩
  have hsub : IntKind.i64.wrap ((s.length : Int) - 16) = (en : Int) := by
    rw [show (s.length : Int) - 16 = (en : Int) by omega]
    exact IntWalk.i64_in _ (by omega)
  have hsl := fun W => run_slice_mid (P := Tryz.prog) Tryz.underlying31 size_u8 g off s.length d 8 (s.length - 24) (by omega) (by omega) 8 (en : Int) rfl (by rw [hen]) W
  have H0 := Lib.hid h0
  have HKL := Lib.hid hkl
  have HKR := Lib.hid hkr
  have HR := Lib.hid hr
  have HMR := Lib.hid hmr
  have HML := Lib.hid hml
  have HRG := Lib.hid hrg
  have HK := Lib.hid hk
  have HKE := Lib.hid hke
  have HB := Lib.hid hb
  have HLT := Lib.hid hlt
  clear hen
  clear h0 hkl hkr hr hmr hml hrg hk hke hb hlt
  go_enter Tryz.func31, Tryz.ntmps31
  go_wp2_with (first
    | (refine wpList_load_range rfl 23 (.tmp 16) rfl g off rfl .u8 8 (byt s) _ (HRG.out _ HX.out) Tryz.underlying23 size_nc ?_)
    | (refine wpList_store_arr rfl 23 (.tmp 8) (.tmp 17) rfl (w.heap.size + 1) .u8 8 (byt s) rfl rfl 23 _ (by simpa using new_of (w.alloc (.cells (tabV .u8 16 key) 22)) _) size_nc rfl ?_
       intro w1 hA1 hG1
       have hx1 : Ext (w.alloc (.cells (tabV .u8 16 key) 22)) w1 := grown_new (Ext.alloc _ _) hG1 (fun g hg => by simp at hg ⊢; omega)
       have HN1 := Lib.hid hA1
       have HX1 := Lib.hid (HX.out.tr hx1)
       have H01 := Lib.hid (H0.out.ext hx1)
       have HKR1 := Lib.hid (HKR.out.ext hx1)
       clear hA1 hG1 hx1 HX H0 HKR))
  refine (rkey_c k HKL.out labE _ rfl (by decide) 16 (by decide) _ _ w1 HKR1.out).mono ?_
  rintro e w2 ⟨A, c, rfl, hra, hx2⟩
  have hdl : (drv (byt (kb k)) labE 16).length = 16 := drv_len _ _ _
  obtain ⟨ga, oa, rfl⟩ := rb_block hra (by rw [hdl]; decide)
  have HRE := Lib.hid (rangeAt_rb hra (n := 16) (by rw [hdl]; decide) (byt (ekl k)) (fun j _ => rfl) (by decide))
  have HX2 := Lib.hid (HX1.out.tr hx2)
  have H02 := Lib.hid (H01.out.ext hx2)
  have HN2 := Lib.hid (HN1.out.ext hx2)
  clear hra hx2 hdl HX1 H01 HN1 HKR1
  go_wp2_with (first
    | (refine wpList_load_range rfl 22 (.tmp 20) rfl ga oa rfl .u8 16 (byt (ekl k)) _ HRE.out Tryz.underlying22 size_bk ?_)
    | (refine wpList_store_arr rfl 22 (.tmp 9) (.tmp 21) rfl w2.heap.size .u8 16 (byt (ekl k)) rfl rfl 22 _ (new_of _ _) size_bk rfl ?_
       intro w3 hA3 hG3
       have hx3 : Ext w2 w3 := grown_new (Ext.alloc _ _) hG3 (fun g hg => by simp at hg; omega)
       have HE3 := Lib.hid hA3
       have HX3 := Lib.hid (HX2.out.tr hx3)
       have H03 := Lib.hid (H02.out.ext hx3)
       have HN3 := Lib.hid (HN2.out.ext hx3)
       clear hA3 hG3 hx3 HX2 H02 HN2))
  refine wp_region_held_drew (S := fun V => Ext w3 V) (by kernel_rfl) (Ext.drew _) (fun x0 => ?_)
  obtain ⟨v0, hv0⟩ : ∃ v, v = w3.drew := ⟨_, rfl⟩
  rw [← hv0] at x0 ⊢
  clear hv0
  refine wpAnyH_take_arr 0 rfl (by kernel_rfl) (by kernel_rfl) (by kernel_rfl) (fun _ _ _ _ h => h) (by kernel_rfl) 22 (.tmp 9) rfl w2.heap.size 0 rfl .u8 16 (byt (ekl k)) _ (fun _ hw => rangeAt_arr (HE3.out.ext hw)) Tryz.underlying22 size_bk x0 ?_
  try simp only [Act.put, List.setIfInBounds_toArray, List.set_cons_zero, List.set_cons_succ]
  refine wpAnyH_take_arr 1 rfl (by kernel_rfl) (by kernel_rfl) (by kernel_rfl) (fun _ _ _ _ h => h) (by kernel_rfl) 23 (.tmp 8) rfl (w.heap.size + 1) 0 rfl .u8 8 (byt s) _ (fun _ hw => rangeAt_arr (HN3.out.ext hw)) Tryz.underlying23 size_nc x0 ?_
  try simp only [Act.put, List.setIfInBounds_toArray, List.set_cons_zero, List.set_cons_succ]
  refine wpAnyH_take_move 2 rfl (by kernel_rfl) (by kernel_rfl) (by kernel_rfl) (fun _ _ _ _ h => h) (by kernel_rfl) (.tmp 2) rfl (.slice (some ⟨g, off, none⟩) s.length d) rfl x0 ?_
  try simp only [Act.put, List.setIfInBounds_toArray, List.set_cons_zero, List.set_cons_succ]
  refine wpAnyH_take_move 3 rfl (by kernel_rfl) (by kernel_rfl) (by kernel_rfl) (fun _ _ _ _ h => h) (by kernel_rfl) (.tmp 2) rfl (.slice (some ⟨g, off, none⟩) s.length d) rfl x0 ?_
  try simp only [Act.put, List.setIfInBounds_toArray, List.set_cons_zero, List.set_cons_succ]
  refine wpAnyH_take (i := 4) (v := .int .i64 (s.length : Nat)) rfl (by kernel_rfl) (by kernel_rfl) (by kernel_rfl) (fun _ _ _ h => h) (Or.inl ⟨by kernel_rfl, ?_⟩) x0 ?_
  · intro W hW
    go_simp
  try simp only [Act.put, List.setIfInBounds_toArray, List.set_cons_zero, List.set_cons_succ]
  refine wpAnyH_take (i := 5) (v := .int .i64 (en : Int)) rfl (by kernel_rfl) (by kernel_rfl) (by kernel_rfl) (fun _ _ _ h => h) (Or.inl ⟨by kernel_rfl, ?_⟩) x0 ?_
  · intro W hW
    go_simp
  try simp only [Act.put, List.setIfInBounds_toArray, List.set_cons_zero, List.set_cons_succ]
  refine wpAnyH_take (i := 6) (v := .slice (some ⟨g, off + 8, none⟩) (s.length - 24) (d - 8)) rfl (by kernel_rfl) (by kernel_rfl) (by kernel_rfl) (fun _ _ _ h => h) (Or.inl ⟨by kernel_rfl, ?_⟩) x0 ?_
  · intro W hW
    go_simp
  try simp only [Act.put, List.setIfInBounds_toArray, List.set_cons_zero, List.set_cons_succ]
  refine wpAnyH_ready (rs := [7]) (by kernel_rfl) (by simp) ?_
  refine AllReadyH.cons rfl (fun K hK => ?_) AllReadyH.nil
  go_simp
  have hcr := rcrypt_c (d - 8) (byt (ekl k)) (byt s) (fun i _ => byt_lt _ _) (fun i _ => byt_lt _ _) (some ⟨g, off + 8, none⟩) (mid s) _ v0 (by rw [HML.out]; have := HB.out; omega) (HMR.out.ext (HX3.out.tr x0))
  rw [HML.out] at hcr
  refine hcr.mono ?_
  rintro e v3 ⟨A3, c3, rfl, ho3, hx3⟩
  have x3 := x0.tr hx3
  rw [← HML.out] at ho3
  have HLE3 := Lib.hid (show (ecr k (byt s) (mid s)).length ≤ c3 ∧ c3 ≤ 9223372036854775807 from ho3.le)
  have HO3 := Lib.hid (show OwnB v3 _ v0.heap.size A3 c3 (ecr k (byt s) (mid s)) from ho3)
  clear ho3 hx3 x0 hcr
  refine hK.out _ _ x3 (fun _ => ?_)
  clear hK K
  try simp only [Act.put, List.setIfInBounds_toArray, List.set_cons_zero, List.set_cons_succ]
  refine wpAnyH_ready (rs := [8]) (by kernel_rfl) (by simp) ?_
  refine AllReadyH.cons rfl (fun K hK => ?_) AllReadyH.nil
  go_simp
  refine hK.out _ _ x3 (fun _ => ?_)
  clear hK K
  try simp only [Act.put, List.setIfInBounds_toArray, List.set_cons_zero, List.set_cons_succ]
  refine wpAnyH_done (by kernel_rfl) ?_ _
  have HX4 := Lib.hid (HX3.out.tr x3)
  have H04 := Lib.hid (H03.out.ext x3)
  have HN4 := Lib.hid (HN3.out.ext x3)
  clear x3 HX3 H03 HN3 HE3
  go_wp2_with (first
    | refine wpList_load_arr rfl 22 (.tmp 3) rfl w.heap.size rfl 22 .u8 16 key _ H04.out Tryz.underlying22 size_bk ?_
    | refine wpList_load_arr rfl 23 (.tmp 8) rfl (w.heap.size + 1) rfl 23 .u8 8 (byt s) _ HN4.out Tryz.underlying23 size_nc ?_)
  have hel : (ecr k (byt s) (mid s)).length = s.length - 24 := by rw [ecr_len, HML.out]
  have hse := rseal_c c3 key (byt s) HK.out (fun i _ => byt_lt _ _) u A3 (ecr k (byt s) (mid s)) _ v3 (by rw [hel]; have := HB.out; omega) HO3.out.rb
  rw [← HKE.out, hel] at hse
  refine hse.mono ?_
  rintro e v4 ⟨A4, c4, rfl, ho4, hx4⟩
  have hsl4 : (sld k u (byt s) (ecr k (byt s) (mid s))).length = s.length - 24 + 24 := by rw [sld_len, hel]
  have HX5 := Lib.hid (HX4.out.tr hx4)
  have HO5 := Lib.hid (HO3.out.rb.ext hx4)
  have hsm := same_c A4 (some ⟨g, off, none⟩) (sld k u (byt s) (ecr k (byt s) (mid s))) s c4 d _ _ v4 ho4.rb (HR.out.ext HX5.out) (by rw [hsl4]; have := HB.out; omega)
  rw [hsl4] at hsm
  have HSM := Lib.hid hsm
  have HEL := Lib.hid hel
  clear hse hx4 ho4 hsl4 hsm hel
  go_wp2_with fail
  refine HSM.out.mono ?_
  rintro e v5 ⟨rfl, n, rfl⟩
  have HX6 := Lib.hid (HX5.out.tr (Ext.drewN v4 n))
  have HO6 := Lib.hid (HO5.out.ext (Ext.drewN v4 n))
  obtain ⟨v6, hv6⟩ : ∃ v, v = v4.drewN n := ⟨_, rfl⟩
  rw [← hv6] at HX6 HO6 ⊢
  have hiff := sld_iff (k := k) (s := s) (by have := HLT.out; omega) u
  by_cases hq : tag k u (hd_ s) = tl_ s
  · have t2 : decide (sld k u (byt s) (ecr k (byt s) (mid s)) = s) = true := decide_eq_true (hiff.2 hq)
    have ho := opn_yes (k := k) (u := u) (by have := HLT.out; omega) hq
    have ho2 : oans k u s = ecr k (byt s) (mid s) := by unfold oans; rw [ho]; rfl
    rw [t2]
    clear t2 hiff hq hv6 HSM
    have HOP := Lib.hid (And.intro ho ho2)
    clear ho ho2
    go_wp2_with fail
    refine bodyPost_ret (v := .tuple #[.slice A3 (s.length - 24) c3, .bool true]) (by simp [results, Tryz.results31, go_sem]) rfl ⟨A3, c3, by rw [HOP.out.1, HOP.out.2, HEL.out]; rfl, by rw [HOP.out.2]; exact HO6.out.more (fun _ _ _ => trivial), by rw [HOP.out.2]; exact HLE3.out.1, HLE3.out.2, HX6.out⟩
  · have t2 : decide (sld k u (byt s) (ecr k (byt s) (mid s)) = s) = false := decide_eq_false (fun h => hq (hiff.1 h))
    have ho : opn k u s = none := opn_no hq
    have ho2 : oans k u s = [] := by unfold oans; rw [ho]; rfl
    rw [t2]
    clear t2 hiff hq hv6 HSM
    have HOP := Lib.hid (And.intro ho ho2)
    clear ho ho2
    go_wp2_with fail
    refine bodyPost_ret (v := .tuple #[.slice none 0 0, .bool false]) (by simp [results, Tryz.results31, go_sem]) rfl ⟨none, 0, by rw [HOP.out.1, HOP.out.2]; rfl, by rw [HOP.out.2]; exact RB.nil _ _ _, by rw [HOP.out.2]; exact Nat.le_refl _, by decide, HX6.out⟩
theorem ropen_c (d : Nat) (key : Nat → Nat) (hk : Byt key) (u : UInt8) (B : Option Addr) (s : List UInt8) (S : Nat → TypeId → Prop) (w : World) (hb : s.length ≤ 1048576) (hd : s.length ≤ d) (hr : RB w S B s) :
    Calls Tryz.prog 31 #[.agg (tabV .u8 16 key), .int .u8 (u.toNat : Int), .slice B s.length d] w fun e w' =>
      ∃ A c, e = .returned (.tuple #[.slice A (oans (btl 16 key) u s).length c, .bool (opn (btl 16 key) u s).isSome]) ∧ RB w' (fun _ _ => True) A (oans (btl 16 key) u s) ∧ Ext w w' :=
  (ropen_cap d key hk u B s S w hb hd hr).mono fun _ _ ⟨A, c, h1, h2, _, _, h3⟩ => ⟨A, c, h1, h2, h3⟩
end Go.Proofs.YtagegigffohcbaaGreatDoor

namespace Go.Proofs.YtagegigffohcbaaGreatDoor
open Go.RowKit
set_option linter.unusedVariables false
set_option linter.unusedSimpArgs false

/-- the whole code of a usage and a front -/
def hm_ (k : List UInt8) (u : UInt8) (f : List UInt8) : Nat → Nat := hm (mkl k) ([u] ++ f)
theorem hm_tag (k : List UInt8) (u : UInt8) (f : List UInt8) : btl 16 (hm_ k u f) = tag k u f := rfl
theorem hm_byt (k : List UInt8) (u : UInt8) (f : List UInt8) : ∀ i, i < 32 → hm_ k u f i < 256 := fun i _ => hm_lt _ _ _
/-- two strings are joined -/
theorem join2_c (A C : Option Addr) (a b : List UInt8) (ca cb la lb g n : Nat) (t : TypeId) (fr : Nat × Nat) (S T : Nat → TypeId → Prop) (W : World) (hla : a.length = la) (hlb : b.length = lb) (hg : W.heap[g]? = some (.cells #[.slice A la ca, .slice C lb cb] t fr))
    (ra : RB W S A a) (rb : RB W T C b) (hn : la + lb = n) (hm : n ≤ 140737488355328) :
    Calls Tryz.prog 34 #[.slice (some ⟨g, 0, none⟩) 2 2] W fun e w' => ∃ A' c', e = .returned (.slice A' n c') ∧ OwnB w' 5 W.heap.size A' c' (a ++ b) ∧ Ext W w' := by
  subst hla hlb
  have hf : [a, b].flatten = a ++ b := by simp
  have hfl : [a, b].flatten.length = n := by rw [hf, List.length_append]; exact hn
  have hrs : RBs W (fun _ _ => True) (fun _ _ => True) (some ⟨g, 0, none⟩) [a, b] := fun _ => ⟨g, 0, _, t, fr, rfl, hg, trivial, fun j l hj => by
    rcases j with _ | _ | j
    · simp at hj
      subst hj
      exact ⟨A, ca, rfl, ra.more (fun _ _ _ => trivial)⟩
    · simp at hj
      subst hj
      exact ⟨C, cb, rfl, rb.more (fun _ _ _ => trivial)⟩
    · simp at hj⟩
  have h := join_c (some ⟨g, 0, none⟩) 2 [a, b] _ _ W hrs (by rw [hfl]; exact hm) (by simp)
  rw [hfl, hf] at h
  exact h
theorem rbc_pair {W : World} {A C : Option Addr} {a b : List UInt8} {ca cb la lb g : Nat} {t : TypeId} {fr : Nat × Nat} {S T : Nat → TypeId → Prop} (hla : a.length = la) (hlb : b.length = lb) (hg : W.heap[g]? = some (.cells #[.slice A la ca, .slice C lb cb] t fr))
    (ra : RB W S A a) (rb : RB W T C b) (h1 : la ≤ ca) (h2 : ca ≤ 9223372036854775807) (h3 : lb ≤ cb) (h4 : cb ≤ 9223372036854775807) : RBC W (fun _ _ => True) (fun _ _ => True) (some ⟨g, 0, none⟩) [a, b] := by
  subst hla hlb
  exact rbc_two hg rfl rfl (ra.more (fun _ _ _ => trivial)) h1 h2 (rb.more (fun _ _ _ => trivial)) h3 h4
theorem btl_mkl (k : List UInt8) : btl 32 (byt (mkl k)) = mkl k := by
  have := btl_all (mkl k)
  rwa [mkl_len] at this
/-- the code of two strings under the key of codes -/
theorem msum2_c (k f : List UInt8) (u : UInt8) (gm gu g lf cf : Nat) (F : Option Addr) (t : TypeId) (fr : Nat × Nat) (T : Nat → TypeId → Prop) (W : World) (ht : Tab W) (hm : Arr W gm 53 .u8 32 (byt (mkl k))) (hu : W.heap[gu]? = some (.cells #[.int .u8 (u.toNat : Int)] 5 (0, 0)))
    (hlf : f.length = lf) (hf : RB W T F f) (hc : lf ≤ cf) (hc' : cf ≤ 9223372036854775807) (hl : lf ≤ 140737488355000) (hg : W.heap[g]? = some (.cells #[.slice (some ⟨gu, 0, none⟩) 1 1, .slice F lf cf] t fr)) :
    Calls Tryz.prog 45 #[.slice (some ⟨gm, 0, none⟩) 32 32, .slice (some ⟨g, 0, none⟩) 2 2] W fun e w' => e = .returned (.agg (tabV .u8 32 (hm_ k u f))) ∧ Ext W w' := by
  have hk := hm.rb (fun i _ => byt_lt _ _)
  rw [btl_mkl] at hk
  have hur : RB W (fun _ _ => True) (some ⟨gu, 0, none⟩) [u] := fun _ => ⟨gu, 0, _, _, _, rfl, hu, trivial, fun j x hj => by
    rcases j with _ | j
    · simp at hj
      subst hj
      rfl
    · simp at hj⟩
  have hp := rbc_pair (a := [u]) (b := f) rfl hlf hg hur hf (Nat.le_refl _) (by simp) hc hc'
  have h := macSum_c (some ⟨gm, 0, none⟩) 32 (mkl k) _ (some ⟨g, 0, none⟩) 2 [[u], f] _ _ W ht hk (by rw [mkl_len]; decide) (by rw [mkl_len]; decide) (by decide) hp (by rw [fla_two]; simp; omega) (by simp)
  rw [mkl_len, fla_two] at h
  exact h
set_option maxRecDepth 100000 in
set_option maxHeartbeats 4000000 in
theorem seal_c (d : Nat) (key nonce : Nat → Nat) (hk : Byt key) (hn : Byt8 nonce) (u : UInt8) (B : Option Addr) (b : List UInt8) (S : Nat → TypeId → Prop) (w : World) (ht : Tab w) (hb : b.length ≤ 1048576) (hd : b.length ≤ d) (hr : RB w S B b) :
    Calls Tryz.prog 21 #[.agg (tabV .u8 16 key), .int .u8 (u.toNat : Int), .agg (tabV .u8 8 nonce), .slice B b.length d] w fun e w' =>
      ∃ A c, e = .returned (.slice A (b.length + 24) c) ∧ OwnB w' 5 w.heap.size A c (sld (btl 16 key) u nonce b) ∧ Ext w w' := by
  obtain ⟨h0, h1⟩ := two_new w (.cells (tabV .u8 16 key) 22) (.cells (tabV .u8 8 nonce) 23)
  obtain ⟨k, hke⟩ : ∃ k, k = btl 16 key := ⟨_, rfl⟩
  have H0 := Lib.hid (show Arr _ w.heap.size 22 .u8 16 key from h0)
  have H1 := Lib.hid (show Arr _ (w.heap.size + 1) 23 .u8 8 nonce from h1)
  have HX := Lib.hid ((Ext.alloc w (.cells (tabV .u8 16 key) 22)).tr (Ext.alloc _ (.cells (tabV .u8 8 nonce) 23)))
  have HS := fun V => skeys_c key hk V
  rw [← hke] at HS ⊢
  have HSK := Lib.hid HS
  have HR := Lib.hid hr.inside
  have HN := Lib.hid hn
  have HB := Lib.hid hb
  have HT := Lib.hid ht
  clear h0 h1 hr hk hn hke hb HS ht
  go_enter Tryz.func21, Tryz.ntmps21
  go_wp2_with (refine wpList_load_arr rfl 22 (.tmp 4) rfl w.heap.size rfl 22 .u8 16 key _ H0.out Tryz.underlying22 size_bk ?_)
  obtain ⟨w1, hw1⟩ : ∃ w1, w1 = (w.alloc (.cells (tabV .u8 16 key) 22)).alloc (.cells (tabV .u8 8 nonce) 23) := ⟨_, rfl⟩
  rw [← hw1] at HX H0 H1 ⊢
  clear hw1
  refine (HSK.out w1 (HT.out.ext HX.out)).mono ?_
  rintro e w2 ⟨rfl, hx2⟩
  have HX2 := Lib.hid (HX.out.tr hx2)
  have H12 := Lib.hid (H1.out.ext hx2)
  obtain ⟨he0, hm0⟩ := two_new w2 (.cells (tabV .u8 16 (fun _ => 0)) 22) (.cells (tabV .u8 32 (fun _ => 0)) 53)
  have HE0 := Lib.hid (show Arr _ w2.heap.size 22 .u8 16 (fun _ => 0) from he0)
  have HM0 := Lib.hid (show Arr _ (w2.heap.size + 1) 53 .u8 32 (fun _ => 0) from hm0)
  clear hx2 HX H1 H0 he0 hm0
  go_wp2_with (first
    | (refine wpList_store_arr' rfl rfl 22 (.tmp 9) (.tmp 16) rfl w2.heap.size .u8 16 (byt (ekl k)) rfl rfl 22 _ HE0.out size_bk tabV_size ?_
       intro w3 hA3 hG3
       have HM3 := Lib.hid (arr_far HM0.out hG3 (by omega))
       have x3 := grown_new ((Ext.alloc w2 _).tr (Ext.alloc _ _)) hG3 (fun g hg => by simp at hg; omega)
       have HX3 := Lib.hid (HX2.out.tr x3)
       have HQ3 := Lib.hid x3
       have H13 := Lib.hid (H12.out.ext x3)
       have HA3 := Lib.hid hA3
       clear hA3 x3 hG3)
    | (refine wpList_store_arr' rfl rfl 53 (.tmp 10) (.tmp 17) rfl (w2.heap.size + 1) .u8 32 (byt (mkl k)) rfl rfl 53 _ HM3.out size_dig tabV_size ?_
       intro w4 hA4 hG4
       have x4 := grown_new HQ3.out hG4 (fun g hg => by simp at hg; omega)
       have HX4 := Lib.hid (HX2.out.tr x4)
       have H14 := Lib.hid (H12.out.ext x4)
       have HE4 := Lib.hid (arr_far HA3.out hG4 (by omega))
       have HM4 := Lib.hid hA4
       clear hA4 x4 hG4))
  have hk0 : w2.heap.size = w2.heap.size := rfl
  obtain ⟨ge, hge⟩ : ∃ ge, ge = w2.heap.size := ⟨_, rfl⟩
  rw [← hge] at HE4 HM4 ⊢
  clear hge HX2 H12 HE0 HM0 HM3 HX3 HQ3 H13 HA3 hk0
  refine wp_region_held_drew (S := fun V => Ext w4 V) (by kernel_rfl) (Ext.drew _) (fun x0 => ?_)
  obtain ⟨v0, hv0⟩ : ∃ v, v = w4.drew := ⟨_, rfl⟩
  rw [← hv0] at x0 ⊢
  clear hv0
  refine wpAnyH_take (i := 0) (v := .slice (some ⟨w.heap.size + 1, 0, none⟩) 8 8) rfl (by kernel_rfl) (by kernel_rfl) (by kernel_rfl) (fun _ _ _ h => h) (Or.inl ⟨by kernel_rfl, ?_⟩) x0 ?_
  · intro W hW
    go_simp
  try simp only [List.getElem_toArray, List.getElem_cons_succ, List.getElem_cons_zero, Act.put, List.setIfInBounds_toArray, List.set_cons_zero, List.set_cons_succ]
  refine wpAnyH_take_arr 1 rfl (by kernel_rfl) (by kernel_rfl) (by kernel_rfl) (fun _ _ _ _ h => h) (by kernel_rfl) 22 (.tmp 9) rfl ge 0 rfl .u8 16 (byt (ekl k)) _ (fun _ hw => rangeAt_arr (HE4.out.ext hw)) Tryz.underlying22 size_bk x0 ?_
  try simp only [List.getElem_toArray, List.getElem_cons_succ, List.getElem_cons_zero, Act.put, List.setIfInBounds_toArray, List.set_cons_zero, List.set_cons_succ]
  refine wpAnyH_take_arr 2 rfl (by kernel_rfl) (by kernel_rfl) (by kernel_rfl) (fun _ _ _ _ h => h) (by kernel_rfl) 23 (.tmp 6) rfl (w.heap.size + 1) 0 rfl .u8 8 nonce _ (fun _ hw => rangeAt_arr (H14.out.ext hw)) Tryz.underlying23 size_nc x0 ?_
  try simp only [List.getElem_toArray, List.getElem_cons_succ, List.getElem_cons_zero, Act.put, List.setIfInBounds_toArray, List.set_cons_zero, List.set_cons_succ]
  refine wpAnyH_take_move 3 rfl (by kernel_rfl) (by kernel_rfl) (by kernel_rfl) (fun _ _ _ _ h => h) (by kernel_rfl) (.tmp 3) rfl (.slice B b.length d) rfl x0 ?_
  try simp only [List.getElem_toArray, List.getElem_cons_succ, List.getElem_cons_zero, Act.put, List.setIfInBounds_toArray, List.set_cons_zero, List.set_cons_succ]
  refine wpAnyH_ready (rs := [4]) (by kernel_rfl) (by simp) ?_
  refine AllReadyH.cons rfl (fun K hK => ?_) AllReadyH.nil
  go_simp
  refine (crypt_c d (byt (ekl k)) nonce (fun i _ => byt_lt _ _) HN.out B b _ v0 HB.out (HR.out.ext (HX4.out.tr x0))).mono ?_
  rintro e v1 ⟨A1, c1, rfl, ho1, hx1⟩
  have x1 := x0.tr hx1
  have hel : (ecr k nonce b).length = b.length := ecr_len _ _ _
  have HO1 := Lib.hid (show OwnB v1 _ v0.heap.size A1 c1 (ecr k nonce b) from ho1)
  clear ho1 hx1 x0
  refine hK.out _ _ x1 (fun _ => ?_)
  clear hK K
  try simp only [List.getElem_toArray, List.getElem_cons_succ, List.getElem_cons_zero, Act.put, List.setIfInBounds_toArray, List.set_cons_zero, List.set_cons_succ]
  refine wpAnyH_ready (rs := [5]) (by kernel_rfl) (by simp) ?_
  refine AllReadyH.cons rfl (fun K hK => ?_) AllReadyH.nil
  go_simp
  change K _ (World.alloc v1 (.cells #[.slice (some ⟨w.heap.size + 1, 0, none⟩) 8 8, .slice A1 b.length c1] 31))
  have x2 : Ext w4 (World.alloc v1 (.cells #[.slice (some ⟨w.heap.size + 1, 0, none⟩) 8 8, .slice A1 b.length c1] 31)) := x1.tr (Ext.alloc _ _)
  have HO2 := Lib.hid (HO1.out.ext (Ext.alloc v1 (.cells #[.slice (some ⟨w.heap.size + 1, 0, none⟩) 8 8, .slice A1 b.length c1] 31)))
  have hg2 := new_of v1 (.cells #[.slice (some ⟨w.heap.size + 1, 0, none⟩) 8 8, .slice A1 b.length c1] 31)
  obtain ⟨g2, hg2'⟩ : ∃ g, g = v1.heap.size := ⟨_, rfl⟩
  obtain ⟨v2, hv2⟩ : ∃ v, v = World.alloc v1 (.cells #[.slice (some ⟨w.heap.size + 1, 0, none⟩) 8 8, .slice A1 b.length c1] 31) := ⟨_, rfl⟩
  rw [← hg2'] at hg2 ⊢
  rw [← hv2] at hg2 x2 HO2 ⊢
  have HG2 := Lib.hid hg2
  clear hv2 hg2' hg2 HO1 x1
  refine hK.out _ _ x2 (fun _ => ?_)
  clear hK K
  try simp only [List.getElem_toArray, List.getElem_cons_succ, List.getElem_cons_zero, Act.put, List.setIfInBounds_toArray, List.set_cons_zero, List.set_cons_succ]
  refine wpAnyH_ready (rs := [6]) (by kernel_rfl) (by simp) ?_
  refine AllReadyH.cons rfl (fun K hK => ?_) AllReadyH.nil
  go_simp
  refine (join2_c _ A1 (btl 8 nonce) (ecr k nonce b) 8 c1 8 b.length g2 (b.length + 8) _ _ _ _ v2 (btl_len _ _) hel HG2.out ((H14.out.ext x2).rb HN.out) HO2.out.rb (by omega) (by have := HB.out; omega)).mono ?_
  rintro e v3 ⟨A3, c3, rfl, ho3, hx3⟩
  have x3 := x2.tr hx3
  have HF3 := Lib.hid ((show OwnB v3 _ v2.heap.size A3 c3 (frt k nonce b) from ho3).less x2.size)
  clear ho3 hx3 HG2 HO2 hel
  refine hK.out _ _ x3 (fun _ => ?_)
  clear hK K
  try simp only [List.getElem_toArray, List.getElem_cons_succ, List.getElem_cons_zero, Act.put, List.setIfInBounds_toArray, List.set_cons_zero, List.set_cons_succ]
  refine wpAnyH_ready (rs := [7]) (by kernel_rfl) (by simp) ?_
  refine AllReadyH.cons rfl (fun K hK => ?_) AllReadyH.nil
  go_simp
  refine hK.out _ _ x3 (fun _ => ?_)
  clear hK K
  try simp only [List.getElem_toArray, List.getElem_cons_succ, List.getElem_cons_zero, Act.put, List.setIfInBounds_toArray, List.set_cons_zero, List.set_cons_succ]
  refine wpAnyH_done (by kernel_rfl) ?_ _
  have hfl := frt_len k nonce b
  have HX5 := Lib.hid (HX4.out.tr x3)
  have HM5 := Lib.hid (HM4.out.ext x3)
  have hsz : w.heap.size + 1 + 1 ≤ w4.heap.size := by have := H14.out.lt; omega
  have HSZ := Lib.hid (Nat.le_trans hsz x3.size)
  have hca := HF3.out.le
  rw [hfl] at hca
  unfold maxLen at hca
  have HCA := Lib.hid hca
  have HFL := Lib.hid hfl
  clear HM4 HE4 H14 x2 x3 hfl hsz hca
  go_wp2_with fail
  obtain ⟨hu6, hg6⟩ := two_new v3 (.cells #[.int .u8 (u.toNat : Int)] 5) (.cells #[.slice (some ⟨v3.heap.size, 0, none⟩) 1 1, .slice A3 (b.length + 8) c3] 31)
  have x6 := (Ext.alloc v3 (.cells #[.int .u8 (u.toNat : Int)] 5)).tr (Ext.alloc _ (.cells #[.slice (some ⟨v3.heap.size, 0, none⟩) 1 1, .slice A3 (b.length + 8) c3] 31))
  obtain ⟨g6, hg6'⟩ : ∃ g, g = v3.heap.size := ⟨_, rfl⟩
  obtain ⟨w6, hw6⟩ : ∃ v, v = (v3.alloc (.cells #[.int .u8 (u.toNat : Int)] 5)).alloc (.cells #[.slice (some ⟨v3.heap.size, 0, none⟩) 1 1, .slice A3 (b.length + 8) c3] 31) := ⟨_, rfl⟩
  rw [← hw6] at hu6 hg6 x6 ⊢
  rw [← hg6'] at hu6 hg6 ⊢
  have HX6 := Lib.hid (HX5.out.tr x6)
  have HF6 := Lib.hid (HF3.out.ext x6)
  refine (msum2_c k (frt k nonce b) u (ge + 1) g6 (g6 + 1) (b.length + 8) c3 A3 _ _ _ w6 (HT.out.ext HX6.out) (HM5.out.ext x6) hu6 HFL.out HF6.out.rb HCA.out.1 (by have := HCA.out.2; omega) (by have := HB.out; omega) hg6).mono ?_
  rintro e w7 ⟨rfl, hx7⟩
  obtain ⟨C, hC⟩ : ∃ C, C = hm_ k u (frt k nonce b) := ⟨_, rfl⟩
  have htag : btl 16 C = tag k u (frt k nonce b) := by rw [hC]; rfl
  have hCl : ∀ i, i < 32 → C i < 256 := fun i hi => by rw [hC]; exact hm_byt _ _ _ i hi
  rw [← hC]
  have HX7 := Lib.hid (HX6.out.tr hx7)
  have HF7 := Lib.hid (HF6.out.ext hx7)
  have HCL := Lib.hid hCl
  have HTG := Lib.hid htag
  clear hx7 HX6 HF6 hC hCl htag HM5 hu6 hg6 x6 hg6' hw6 HX5 HF3
  go_wp2_with (first
    | (refine wpList_store_arr' rfl rfl 53 (.tmp 12) (.tmp 30) rfl w7.heap.size .u8 32 C rfl rfl 53 _ (new_of w7 (.cells (tabV .u8 32 (fun _ => 0)) 53)) size_dig tabV_size ?_
       intro w8 hA8 hG8
       have x8 : Ext w7 w8 := grown_new (Ext.alloc _ _) hG8 (fun g hg => by simp at hg; omega)
       have HX8 := Lib.hid (HX7.out.tr x8)
       have HF8 := Lib.hid (HF7.out.ext x8)
       have htk := (hA8.rb HCL.out).take 16
       rw [btl_cut C (by decide), HTG.out] at htk
       have HTK := Lib.hid htk
       clear hA8 hG8 x8 htk))
  have hg9 := new_of w8 (.cells #[.slice A3 (b.length + 8) c3, .slice (some ⟨w7.heap.size, 0, none⟩) 16 16] 31)
  have x9 := Ext.alloc w8 (.cells #[.slice A3 (b.length + 8) c3, .slice (some ⟨w7.heap.size, 0, none⟩) 16 16] 31)
  refine (join2_c A3 _ (frt k nonce b) (tag k u (frt k nonce b)) c3 16 (b.length + 8) 16 w8.heap.size (b.length + 24) _ _ _ _ _ HFL.out (tag_len _ _ _) hg9 (HF8.out.rb.ext x9) (HTK.out.ext x9) rfl (by have := HB.out; omega)).mono ?_
  rintro e w9 ⟨A9, c9, rfl, ho9, hx9⟩
  have HX9 := Lib.hid ((HX8.out.tr x9).tr hx9)
  have HO9 := Lib.hid ((show OwnB w9 _ _ A9 c9 (sld k u nonce b) from ho9).less (HX8.out.tr x9).size)
  clear ho9 hx9 x9 hg9 HF8 HTK
  go_wp2_with fail
  go_ret
  exact ⟨A9, c9, rfl, HO9.out, HX9.out⟩
end Go.Proofs.YtagegigffohcbaaGreatDoor

namespace Go.Proofs.YtagegigffohcbaaGreatDoor
open Go.RowKit
set_option linter.unusedVariables false
set_option linter.unusedSimpArgs false

theorem right_tag (k s : List UInt8) (u : UInt8) (h : 16 ≤ s.length) : right (mkl k) (tl_ s) ([u] ++ hd_ s) = decide (tag k u (hd_ s) = tl_ s) := by
  have hl := tl_len h
  have ht : (cdl (byt (kb (mkl k))) ([u] ++ hd_ s)).take 16 = tag k u (hd_ s) := btl_cut _ (by decide)
  unfold right
  rw [hl, ht, decide_eq_decide]
  exact ⟨fun h => h.2.2.symm, fun h => ⟨by decide, by decide, h.symm⟩⟩
/-- the test of a code -/
theorem chk2_c (k s : List UInt8) (hs : 24 ≤ s.length) (hb : s.length ≤ 1048576) (u : UInt8) (gm gu g lf cc : Nat) (F D : Option Addr) (t : TypeId) (fr : Nat × Nat) (S T : Nat → TypeId → Prop) (W : World) (ht : Tab W) (hm : Arr W gm 53 .u8 32 (byt (mkl k))) (hu : W.heap[gu]? = some (.cells #[.int .u8 (u.toNat : Int)] 5 (0, 0)))
    (hlf : s.length - 16 = lf) (hf : RB W T F (hd_ s)) (hd : RB W S D (tl_ s)) (hg : W.heap[g]? = some (.cells #[.slice (some ⟨gu, 0, none⟩) 1 1, .slice F lf lf] t fr)) :
    Calls Tryz.prog 48 #[.slice (some ⟨gm, 0, none⟩) 32 32, .slice D 16 cc, .slice (some ⟨g, 0, none⟩) 2 2] W fun e w' => e = .returned (.bool (decide (tag k u (hd_ s) = tl_ s))) ∧ Ext W w' := by
  have hk := hm.rb (fun i _ => byt_lt _ _)
  rw [btl_mkl] at hk
  have hur : RB W (fun _ _ => True) (some ⟨gu, 0, none⟩) [u] := fun _ => ⟨gu, 0, _, _, _, rfl, hu, trivial, fun j x hj => by
    rcases j with _ | j
    · simp at hj
      subst hj
      rfl
    · simp at hj⟩
  have hp := rbc_pair (a := [u]) (b := hd_ s) rfl ((hd_len s).trans hlf) hg hur hf (Nat.le_refl _) (by simp) (Nat.le_refl _) (by omega)
  have h := check_c (some ⟨gm, 0, none⟩) 32 (mkl k) _ D cc (tl_ s) _ (some ⟨g, 0, none⟩) 2 [[u], hd_ s] _ _ W ht hk (by rw [mkl_len]; decide) (by rw [mkl_len]; decide) (by decide) hd (by rw [tl_len (by omega)]; decide) hp (by rw [fla_two]; simp [hd_len]; omega) (by simp)
  rw [mkl_len, fla_two, tl_len (by omega), right_tag k s u (by omega)] at h
  exact h
set_option maxRecDepth 100000 in
set_option maxHeartbeats 4000000 in
theorem open_c (d : Nat) (key : Nat → Nat) (hk : Byt key) (u : UInt8) (B : Option Addr) (s : List UInt8) (S : Nat → TypeId → Prop) (w : World) (ht : Tab w) (hb : s.length ≤ 1048576) (hd : s.length ≤ d) (hm : d ≤ 9223372036854775807) (hr : RB w S B s) :
    Calls Tryz.prog 23 #[.agg (tabV .u8 16 key), .int .u8 (u.toNat : Int), .slice B s.length d] w fun e w' =>
      ∃ A c, e = .returned (.tuple #[.slice A (oans (btl 16 key) u s).length c, .bool (opn (btl 16 key) u s).isSome]) ∧ RB w' (fun _ _ => True) A (oans (btl 16 key) u s) ∧ (oans (btl 16 key) u s).length ≤ c ∧ c ≤ 9223372036854775807 ∧ Ext w w' := by
  have h0 : Arr (w.alloc (.cells (tabV .u8 16 key) 22)) w.heap.size 22 .u8 16 key := new_of w _
  have x0 := Ext.alloc w (.cells (tabV .u8 16 key) 22)
  obtain ⟨k, hke⟩ : ∃ k, k = btl 16 key := ⟨_, rfl⟩
  have HS := fun V => skeys_c key hk V
  rw [← hke] at HS ⊢
  have HSK := Lib.hid HS
  have HT := Lib.hid ht
  have hno := nonce_c d B s _ (w.alloc (.cells (tabV .u8 16 key) 22)) hb hd (hr.ext x0)
  have HNO := Lib.hid hno
  have HX0 := Lib.hid x0
  have H0 := Lib.hid h0
  clear h0 x0 hno hk hke HS ht
  by_cases hlt : s.length < 24
  · have ho : opn k u s = none := opn_short hlt
    have ho2 : oans k u s = [] := by unfold oans; rw [ho]; rfl
    have hf : decide (24 ≤ s.length) = false := decide_eq_false (by omega)
    rw [ho, ho2]
    clear hr hb hd
    rw [hf] at HNO
    go_enter Tryz.func23, Tryz.ntmps23
    go_wp2_with fail
    refine HNO.out.mono ?_
    rintro e w2 ⟨rfl, hx2⟩
    have HX2 := Lib.hid (HX0.out.tr hx2)
    obtain ⟨F, hF⟩ : ∃ F, F = (if 24 ≤ s.length then byt s else fun _ => 0) := ⟨_, rfl⟩
    rw [← hF]
    clear hx2 hF HNO HX0
    go_wp2_with (first
      | (refine wpList_store_arr' rfl rfl 23 (.tmp 8) (.tmp 18) rfl w2.heap.size .u8 8 F rfl rfl 23 _ (new_of w2 (.cells (tabV .u8 8 (fun _ => 0)) 23)) size_nc tabV_size ?_
         intro w3 hA3 hG3
         have HX3 := Lib.hid (HX2.out.tr (grown_new (Ext.alloc _ _) hG3 (fun g hg => by simp at hg; omega)))
         clear hA3 hG3))
    refine bodyPost_ret (v := .tuple #[.slice none 0 0, .bool false]) (by simp [results, Tryz.results23, go_sem]) rfl ⟨none, 0, rfl, RB.nil _ _ _, Nat.le_refl _, by decide, HX3.out⟩
  have hf : decide (24 ≤ s.length) = true := decide_eq_true (by omega)
  rw [hf, if_pos (by omega)] at HNO
  obtain ⟨g, off, rfl⟩ := rb_block hr (by omega)
  obtain ⟨en, hen⟩ : ∃ en : Nat, en = s.length - 16 := ⟨_, rfl⟩
  have hsub : IntKind.i64.wrap ((s.length : Int) - 16) = (en : Int) := by
    rw [show (s.length : Int) - 16 = (en : Int) by omega]
    exact IntWalk.i64_in _ (by omega)
  have hs1 := fun W => run_slice30 (P := Tryz.prog) Tryz.underlying31 size_u8 g off s.length d en (by omega) (by omega) (en : Int) rfl W
  have hs2 := fun W => run_slice3 (P := Tryz.prog) Tryz.underlying31 size_u8 (some ⟨g, off, none⟩) s.length d en s.length (by omega) (by omega) (en : Int) (s.length : Int) rfl rfl W
  rw [if_neg (by omega), show s.length - en = 16 by omega] at hs2
  have hs3 := fun W => run_slice3 (P := Tryz.prog) Tryz.underlying31 size_u8 (some ⟨g, off, none⟩) en en 8 en (by omega) (by omega) (8 : Int) (en : Int) rfl rfl W
  have hrt := hr.drop (k := en) (cap := d) hd
  have hrh := hr.take en
  have hrm := hrh.drop (k := 8) (cap := en) (by rw [List.length_take]; omega)
  by_cases hde : d = en
  · omega
  rw [if_neg hde] at hrt
  obtain ⟨M, hM⟩ : ∃ M, M = (if en = 8 then some (⟨g, off, none⟩ : Addr) else (some (⟨g, off, none⟩ : Addr)).map (·.add 8)) := ⟨_, rfl⟩
  obtain ⟨D, hD⟩ : ∃ D, D = (some (⟨g, off, none⟩ : Addr)).map (·.add en) := ⟨_, rfl⟩
  rw [← hM] at hrm hs3
  rw [← hD] at hrt hs2
  have hrt' : RB w S D (tl_ s) := by unfold tl_; rw [← hen]; exact hrt
  have hrh' : RB w S (some ⟨g, off, none⟩) (hd_ s) := by unfold hd_; rw [← hen]; exact hrh
  have hrm' : RB w S M (mid s) := by unfold mid hd_; rw [← hen]; exact hrm
  have HRT := Lib.hid hrt'
  have HRH := Lib.hid hrh'
  have HRM := Lib.hid hrm'
  have HB := Lib.hid hb
  have HD := Lib.hid (And.intro hd hm)
  have HLT := Lib.hid (show 24 ≤ s.length by omega)
  have HEN := Lib.hid hen
  have hml := mid_len s
  have HML := Lib.hid (show (mid s).length = en - 8 by omega)
  clear hr hrt hrh hrm hrt' hrh' hrm' hb hd hm hM hD hen hml hf hlt hde
  go_enter Tryz.func23, Tryz.ntmps23
  go_wp2_with fail
  refine HNO.out.mono ?_
  rintro e w2 ⟨rfl, hx2⟩
  have HX2 := Lib.hid (HX0.out.tr hx2)
  have H02 := Lib.hid (H0.out.ext hx2)
  clear hx2 HNO HX0 H0
  go_wp2_with (first
    | (refine wpList_store_arr' rfl rfl 23 (.tmp 8) (.tmp 18) rfl w2.heap.size .u8 8 (byt s) rfl rfl 23 _ (new_of w2 (.cells (tabV .u8 8 (fun _ => 0)) 23)) size_nc tabV_size ?_
       intro w3 hA3 hG3
       have x3 := grown_new (Ext.alloc w2 (.cells (tabV .u8 8 (fun _ => 0)) 23)) hG3 (fun g hg => by simp at hg; omega)
       have HX3 := Lib.hid (HX2.out.tr x3)
       have H03 := Lib.hid (H02.out.ext x3)
       have HN3 := Lib.hid hA3
       clear hA3 hG3 x3 HX2 H02))
  obtain ⟨gn, hgn⟩ : ∃ g, g = w2.heap.size := ⟨_, rfl⟩
  rw [← hgn] at HN3 ⊢
  clear hgn
  obtain ⟨wd, hwd⟩ : ∃ wd, wd = w3.drew := ⟨_, rfl⟩
  have HWD := Lib.hid hwd
  clear hwd
  refine wp_region_ord 13 (fun W => W = wd) (by kernel_rfl) (by kernel_rfl) (by decide) (by kernel_rfl) HWD.out.symm ?_
  simp only [List.take_succ_cons, List.take_zero, List.drop_succ_cons, List.drop_zero]
  repeat (refine wpTxt_stay ?_ (fun K hK => ?_) rfl ?_; rotate_left; (simp only [Act.put, List.setIfInBounds_toArray, List.set_cons_zero, List.set_cons_succ] at hK; go_simp; exact hK); simp only [Act.put, List.setIfInBounds_toArray, List.set_cons_zero, List.set_cons_succ])
  refine wpTxt_nil ?_
  rintro W hW
  have xd : Ext w3 W := by rw [hW, HWD.out]; exact Ext.drew _
  have HX4 := Lib.hid (HX3.out.tr xd)
  have H04 := Lib.hid (H03.out.ext xd)
  have HN4 := Lib.hid (HN3.out.ext xd)
  clear hW xd HWD HX3 H03 HN3
  go_wp2_with (refine wpList_load_arr rfl 22 (.tmp 3) rfl w.heap.size rfl 22 .u8 16 key _ H04.out Tryz.underlying22 size_bk ?_)
  refine (HSK.out W (HT.out.ext HX4.out)).mono ?_
  rintro e w5 ⟨rfl, hx5⟩
  have HX5 := Lib.hid (HX4.out.tr hx5)
  have HN5 := Lib.hid (HN4.out.ext hx5)
  obtain ⟨he0, hm0⟩ := two_new w5 (.cells (tabV .u8 16 (fun _ => 0)) 22) (.cells (tabV .u8 32 (fun _ => 0)) 53)
  have HE0 := Lib.hid (show Arr _ w5.heap.size 22 .u8 16 (fun _ => 0) from he0)
  have HM0 := Lib.hid (show Arr _ (w5.heap.size + 1) 53 .u8 32 (fun _ => 0) from hm0)
  clear hx5 HX4 HN4 H04 he0 hm0
  go_wp2_with (first
    | (refine wpList_store_arr' rfl rfl 22 (.tmp 13) (.tmp 39) rfl w5.heap.size .u8 16 (byt (ekl k)) rfl rfl 22 _ HE0.out size_bk tabV_size ?_
       intro w6 hA6 hG6
       have HM6 := Lib.hid (arr_far HM0.out hG6 (by omega))
       have x6 := grown_new ((Ext.alloc w5 _).tr (Ext.alloc _ _)) hG6 (fun g hg => by simp at hg; omega)
       have HQ6 := Lib.hid x6
       have HA6 := Lib.hid hA6
       clear hA6 x6 hG6)
    | (refine wpList_store_arr' rfl rfl 53 (.tmp 14) (.tmp 40) rfl (w5.heap.size + 1) .u8 32 (byt (mkl k)) rfl rfl 53 _ HM6.out size_dig tabV_size ?_
       intro w7 hA7 hG7
       have x7 := grown_new HQ6.out hG7 (fun g hg => by simp at hg; omega)
       have HX7 := Lib.hid (HX5.out.tr x7)
       have HN7 := Lib.hid (HN5.out.ext x7)
       have HE7 := Lib.hid (arr_far HA6.out hG7 (by omega))
       have HM7 := Lib.hid hA7
       clear hA7 x7 hG7))
  obtain ⟨ge, hge⟩ : ∃ ge, ge = w5.heap.size := ⟨_, rfl⟩
  rw [← hge] at HE7 HM7 ⊢
  clear hge HX5 HN5 HE0 HM0 HM6 HQ6 HA6
  obtain ⟨hu8, hg8⟩ := two_new w7 (.cells #[.int .u8 (u.toNat : Int)] 5) (.cells #[.slice (some ⟨w7.heap.size, 0, none⟩) 1 1, .slice (some ⟨g, off, none⟩) en en] 31)
  have x8 := (Ext.alloc w7 (.cells #[.int .u8 (u.toNat : Int)] 5)).tr (Ext.alloc _ (.cells #[.slice (some ⟨w7.heap.size, 0, none⟩) 1 1, .slice (some ⟨g, off, none⟩) en en] 31))
  obtain ⟨g8, hg8'⟩ : ∃ g, g = w7.heap.size := ⟨_, rfl⟩
  obtain ⟨w8, hw8⟩ : ∃ v, v = (w7.alloc (.cells #[.int .u8 (u.toNat : Int)] 5)).alloc (.cells #[.slice (some ⟨w7.heap.size, 0, none⟩) 1 1, .slice (some ⟨g, off, none⟩) en en] 31) := ⟨_, rfl⟩
  rw [← hw8] at hu8 hg8 x8 ⊢
  rw [← hg8'] at hu8 hg8 ⊢
  have HX8 := Lib.hid (HX7.out.tr x8)
  have HE8 := Lib.hid (HE7.out.ext x8)
  have HN8 := Lib.hid (HN7.out.ext x8)
  refine (chk2_c k s HLT.out HB.out u (ge + 1) g8 (g8 + 1) en 16 _ D _ _ _ _ w8 (HT.out.ext HX8.out) (HM7.out.ext x8) hu8 HEN.out.symm (HRH.out.ext HX8.out) (HRT.out.ext HX8.out) hg8).mono ?_
  rintro e w9 ⟨rfl, hx9⟩
  have HX9 := Lib.hid (HX8.out.tr hx9)
  have HE9 := Lib.hid (HE8.out.ext hx9)
  have HN9 := Lib.hid (HN8.out.ext hx9)
  clear hx9 HX8 HE8 HN8 hu8 hg8 hg8' hw8 x8 HX7 HE7 HN7 HM7
  by_cases hq : tag k u (hd_ s) = tl_ s
  · have t2 : decide (tag k u (hd_ s) = tl_ s) = true := decide_eq_true hq
    have ho := opn_yes (k := k) (u := u) HLT.out hq
    have ho2 : oans k u s = ecr k (byt s) (mid s) := by unfold oans; rw [ho]; rfl
    rw [t2]
    have HOP := Lib.hid (And.intro ho ho2)
    clear t2 hq ho ho2
    go_wp2_with fail
    refine wp_region_held_drew (S := fun V => Ext w9 V) (by kernel_rfl) (Ext.drew _) (fun x0 => ?_)
    obtain ⟨v0, hv0⟩ : ∃ v, v = w9.drew := ⟨_, rfl⟩
    rw [← hv0] at x0 ⊢
    clear hv0
    refine wpAnyH_take_arr 0 rfl (by kernel_rfl) (by kernel_rfl) (by kernel_rfl) (fun _ _ _ _ h => h) (by kernel_rfl) 22 (.tmp 13) rfl ge 0 rfl .u8 16 (byt (ekl k)) _ (fun _ hw => rangeAt_arr (HE9.out.ext hw)) Tryz.underlying22 size_bk x0 ?_
    try simp only [List.getElem_toArray, List.getElem_cons_succ, List.getElem_cons_zero, Act.put, List.setIfInBounds_toArray, List.set_cons_zero, List.set_cons_succ]
    refine wpAnyH_take_arr 1 rfl (by kernel_rfl) (by kernel_rfl) (by kernel_rfl) (fun _ _ _ _ h => h) (by kernel_rfl) 23 (.tmp 8) rfl gn 0 rfl .u8 8 (byt s) _ (fun _ hw => rangeAt_arr (HN9.out.ext hw)) Tryz.underlying23 size_nc x0 ?_
    try simp only [List.getElem_toArray, List.getElem_cons_succ, List.getElem_cons_zero, Act.put, List.setIfInBounds_toArray, List.set_cons_zero, List.set_cons_succ]
    refine wpAnyH_take_move 2 rfl (by kernel_rfl) (by kernel_rfl) (by kernel_rfl) (fun _ _ _ _ h => h) (by kernel_rfl) (.tmp 11) rfl (.slice (some ⟨g, off, none⟩) en en) rfl x0 ?_
    try simp only [List.getElem_toArray, List.getElem_cons_succ, List.getElem_cons_zero, Act.put, List.setIfInBounds_toArray, List.set_cons_zero, List.set_cons_succ]
    refine wpAnyH_take_move 3 rfl (by kernel_rfl) (by kernel_rfl) (by kernel_rfl) (fun _ _ _ _ h => h) (by kernel_rfl) (.tmp 10) rfl (.int .i64 (en : Int)) rfl x0 ?_
    try simp only [List.getElem_toArray, List.getElem_cons_succ, List.getElem_cons_zero, Act.put, List.setIfInBounds_toArray, List.set_cons_zero, List.set_cons_succ]
    refine wpAnyH_take_move 4 rfl (by kernel_rfl) (by kernel_rfl) (by kernel_rfl) (fun _ _ _ _ h => h) (by kernel_rfl) (.tmp 10) rfl (.int .i64 (en : Int)) rfl x0 ?_
    try simp only [List.getElem_toArray, List.getElem_cons_succ, List.getElem_cons_zero, Act.put, List.setIfInBounds_toArray, List.set_cons_zero, List.set_cons_succ]
    refine wpAnyH_take (i := 5) (v := .slice M (en - 8) (en - 8)) rfl (by kernel_rfl) (by kernel_rfl) (by kernel_rfl) (fun _ _ _ h => h) (Or.inl ⟨by kernel_rfl, ?_⟩) x0 ?_
    · intro W hW
      go_simp
    try simp only [List.getElem_toArray, List.getElem_cons_succ, List.getElem_cons_zero, Act.put, List.setIfInBounds_toArray, List.set_cons_zero, List.set_cons_succ]
    refine wpAnyH_ready (rs := [6]) (by kernel_rfl) (by simp) ?_
    refine AllReadyH.cons rfl (fun K hK => ?_) AllReadyH.nil
    go_simp
    have hcr := crypt_c (en - 8) (byt (ekl k)) (byt s) (fun i _ => byt_lt _ _) (fun i _ => byt_lt _ _) M (mid s) _ v0 (by rw [HML.out]; have := HB.out; have := HEN.out; omega) (HRM.out.ext (HX9.out.tr x0))
    rw [HML.out] at hcr
    refine hcr.mono ?_
    rintro e v1 ⟨A1, c1, rfl, ho1, hx1⟩
    have x1 := x0.tr hx1
    rw [← HML.out] at ho1
    have HO1 := Lib.hid (show OwnB v1 _ v0.heap.size A1 c1 (ecr k (byt s) (mid s)) from ho1)
    clear ho1 hx1 x0 hcr
    refine hK.out _ _ x1 (fun _ => ?_)
    clear hK K
    try simp only [List.getElem_toArray, List.getElem_cons_succ, List.getElem_cons_zero, Act.put, List.setIfInBounds_toArray, List.set_cons_zero, List.set_cons_succ]
    refine wpAnyH_ready (rs := [7]) (by kernel_rfl) (by simp) ?_
    refine AllReadyH.cons rfl (fun K hK => ?_) AllReadyH.nil
    go_simp
    refine hK.out _ _ x1 (fun _ => ?_)
    clear hK K
    try simp only [List.getElem_toArray, List.getElem_cons_succ, List.getElem_cons_zero, Act.put, List.setIfInBounds_toArray, List.set_cons_zero, List.set_cons_succ]
    refine wpAnyH_ready (rs := [8]) (by kernel_rfl) (by simp) ?_
    refine AllReadyH.cons rfl (fun K hK => ?_) AllReadyH.nil
    go_simp
    refine hK.out _ _ x1 (fun _ => ?_)
    clear hK K
    try simp only [List.getElem_toArray, List.getElem_cons_succ, List.getElem_cons_zero, Act.put, List.setIfInBounds_toArray, List.set_cons_zero, List.set_cons_succ]
    refine wpAnyH_done (by kernel_rfl) ?_ _
    have hel : (ecr k (byt s) (mid s)).length = en - 8 := by rw [ecr_len, HML.out]
    have hle := HO1.out.le
    unfold maxLen at hle
    have HLE := Lib.hid hle
    have HEL := Lib.hid hel
    have HXF := Lib.hid (HX9.out.tr x1)
    clear hle hel x1
    go_wp2_with fail
    refine bodyPost_ret (v := .tuple #[.slice A1 (en - 8) c1, .bool true]) (by simp [results, Tryz.results23, go_sem]) rfl ⟨A1, c1, by rw [HOP.out.1, HOP.out.2, HEL.out]; rfl, by rw [HOP.out.2]; exact HO1.out.rb.more (fun _ _ _ => trivial), by rw [HOP.out.2]; exact HLE.out.1, by have := HLE.out.2; omega, HXF.out⟩
  · have t2 : decide (tag k u (hd_ s) = tl_ s) = false := decide_eq_false hq
    have ho : opn k u s = none := opn_no hq
    have ho2 : oans k u s = [] := by unfold oans; rw [ho]; rfl
    rw [t2]
    have HOP := Lib.hid (And.intro ho ho2)
    clear t2 hq ho ho2
    go_wp2_with fail
    refine bodyPost_ret (v := .tuple #[.slice none 0 0, .bool false]) (by simp [results, Tryz.results23, go_sem]) rfl ⟨none, 0, by rw [HOP.out.1, HOP.out.2]; rfl, by rw [HOP.out.2]; exact RB.nil _ _ _, by rw [HOP.out.2]; exact Nat.le_refl _, by decide, HX9.out⟩
end Go.Proofs.YtagegigffohcbaaGreatDoor
