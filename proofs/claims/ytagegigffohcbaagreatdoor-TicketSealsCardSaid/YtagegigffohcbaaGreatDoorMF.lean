/-
  HMAC-SHA256 in plain numbers: the padded key, the code, the derived strings.
  A row of parts is made longer by the parts of another row.
  Package mac: the padded key, the code of parts under a padded key, Sum.
  Package mac: the code of parts under a padded key; Sum.
  Operations inside a region that draws its order: bytes of a string, room for bytes, an array stored.
  Package mac: Equal.
  Package mac: Check; Derive of a number below 0.
-/
import Derived.Test.YtagegigffohcbaaGreatDoorME
import Derived.Lib.ConvBytes
import Derived.Laws.AppendOwn
set_option linter.unusedVariables false
set_option linter.unusedSimpArgs false
namespace Go.Proofs.YtagegigffohcbaaGreatDoor
open Go.RowKit

theorem sum_lt (l : List UInt8) (i : Nat) : sum kc l i < 256 := by unfold sum; exact dig_lt _ _
/-- n numbers as bytes -/
def btl (n : Nat) (f : Nat → Nat) : List UInt8 := (List.range n).map fun i => UInt8.ofNat (f i)
theorem btl_len (n : Nat) (f : Nat → Nat) : (btl n f).length = n := by simp [btl]
theorem btl_get {n : Nat} {f : Nat → Nat} {i : Nat} (h : i < n) : (btl n f)[i]? = some (UInt8.ofNat (f i)) := by simp [btl, h]
theorem btl_byt {n : Nat} {f : Nat → Nat} (hf : ∀ i, i < n → f i < 256) {i : Nat} (h : i < n) : byt (btl n f) i = f i := by
  unfold byt
  rw [List.getD_eq_getElem?_getD, btl_get h, Option.getD_some, UInt8.toNat_ofNat']
  exact Nat.mod_eq_of_lt (hf i h)
theorem btl_congr {n : Nat} {f g : Nat → Nat} (h : ∀ i, i < n → f i = g i) : btl n f = btl n g := by
  unfold btl
  exact List.map_congr_left fun i hi => by rw [h i (List.mem_range.1 hi)]
/-- the digest as bytes -/
def dg (l : List UInt8) : List UInt8 := btl 32 (sum kc l)
theorem dg_len (l : List UInt8) : (dg l).length = 32 := btl_len _ _
theorem dg_byt (l : List UInt8) {i : Nat} (h : i < 32) : byt (dg l) i = sum kc l i := btl_byt (fun i _ => sum_lt l i) h
/-- the key, or its digest -/
def kb (key : List UInt8) : List UInt8 := if 64 < key.length then dg key else key
theorem kb_len (key : List UInt8) : (kb key).length ≤ 64 := by
  unfold kb
  split
  · rw [dg_len]; decide
  · omega
/-- the key's bytes, combined with a mask -/
def xk (f : Nat → Nat) (m : Nat) : List UInt8 := btl 64 fun i => f i ^^^ m
theorem xk_len (f : Nat → Nat) (m : Nat) : (xk f m).length = 64 := btl_len _ _
theorem xor256 {a b : Nat} (ha : a < 256) (hb : b < 256) : a ^^^ b < 256 := Nat.xor_lt_two_pow (n := 8) ha hb
/-- the code of bytes under a padded key -/
def ihash (f : Nat → Nat) (l : List UInt8) : List UInt8 := dg (xk f 54 ++ l)
def cd (f : Nat → Nat) (l : List UInt8) : Nat → Nat := sum kc (xk f 92 ++ ihash f l)
theorem cd_lt (f : Nat → Nat) (l : List UInt8) (i : Nat) : cd f l i < 256 := sum_lt _ _
/-- the code of bytes under a key -/
def hm (key l : List UInt8) : Nat → Nat := cd (byt (kb key)) l
theorem hm_lt (key l : List UInt8) (i : Nat) : hm key l i < 256 := cd_lt _ _ _
theorem xk_congr {f g : Nat → Nat} (h : ∀ i, i < 64 → f i = g i) (m : Nat) : xk f m = xk g m := btl_congr fun i hi => by rw [h i hi]
theorem cd_congr {f g : Nat → Nat} (h : ∀ i, i < 64 → f i = g i) (l : List UInt8) : cd f l = cd g l := by
  unfold cd ihash
  rw [xk_congr h, xk_congr h]
/-- a key with a zero byte more has the same codes -/
theorem byt_zero (l : List UInt8) (i : Nat) : byt (l ++ [0]) i = byt l i := by
  by_cases h : i < l.length
  · exact byt_left _ _ h
  · rw [byt_right l [0] (by omega)]
    unfold byt
    rw [List.getD_eq_getElem?_getD, List.getD_eq_getElem?_getD, List.getElem?_eq_none (l := l) (by omega)]
    rcases i - l.length with _ | n <;> rfl
theorem hm_zero {key : List UInt8} (h : key.length ≤ 63) (l : List UInt8) : hm (key ++ [0]) l = hm key l := by
  unfold hm kb
  rw [if_neg (by rw [List.length_append]; simp; omega), if_neg (by omega)]
  exact cd_congr (fun i _ => byt_zero key i) l

/-! ## derived strings -/
/-- the code's bytes -/
def cdl (f : Nat → Nat) (l : List UInt8) : List UInt8 := btl 32 (cd f l)
theorem cdl_len (f : Nat → Nat) (l : List UInt8) : (cdl f l).length = 32 := btl_len _ _
/-- m codes -/
def dv (f : Nat → Nat) (lab : List UInt8) : Nat → List UInt8
  | 0 => []
  | m + 1 => dv f lab m ++ cdl f (UInt8.ofNat (m + 1) :: lab)
theorem dv_succ (f : Nat → Nat) (lab : List UInt8) (m : Nat) : dv f lab (m + 1) = dv f lab m ++ cdl f (UInt8.ofNat (m + 1) :: lab) := by rw [dv]
theorem dv_len (f : Nat → Nat) (lab : List UInt8) (m : Nat) : (dv f lab m).length = 32 * m := by
  induction m with
  | zero => rw [dv]; rfl
  | succ m ih => rw [dv_succ, List.length_append, ih, cdl_len]; omega
theorem dv_more (f : Nat → Nat) (lab : List UInt8) (m d n : Nat) (h : n ≤ 32 * m) : (dv f lab (m + d)).take n = (dv f lab m).take n := by
  induction d with
  | zero => rfl
  | succ d ih => rw [← Nat.add_assoc, dv_succ, List.take_append_of_le_length (by rw [dv_len]; omega), ih]
/-- the derived string of n bytes -/
def drv (f : Nat → Nat) (lab : List UInt8) (n : Nat) : List UInt8 := (dv f lab ((n + 31) / 32)).take n
theorem drv_len (f : Nat → Nat) (lab : List UInt8) (n : Nat) : (drv f lab n).length = n := by
  unfold drv
  rw [List.length_take, dv_len]
  omega
theorem drv_at (f : Nat → Nat) (lab : List UInt8) (n m : Nat) (h : n ≤ 32 * m) : (dv f lab m).take n = drv f lab n := by
  unfold drv
  obtain ⟨d, rfl⟩ : ∃ d, m = (n + 31) / 32 + d := ⟨m - (n + 31) / 32, by omega⟩
  exact dv_more f lab _ d n (by omega)
theorem drv_take (f : Nat → Nat) (lab : List UInt8) {k n : Nat} (h : k ≤ n) : (drv f lab n).take k = drv f lab k := by
  unfold drv
  rw [List.take_take, Nat.min_eq_left h]
  exact drv_at f lab k ((n + 31) / 32) (by omega)
/-- a part of the next code -/
theorem dv_part (f : Nat → Nat) (lab : List UInt8) {m n : Nat} (h : 32 * m < n) :
    (dv f lab m).take n ++ (cdl f (UInt8.ofNat (m + 1) :: lab)).take (min 32 (n - 32 * m)) = (dv f lab (m + 1)).take n := by
  have hl := dv_len f lab m
  have hc := cdl_len f (UInt8.ofNat (m + 1) :: lab)
  rw [dv_succ, List.take_append, hl, List.take_of_length_le (l := dv f lab m) (by omega)]
  congr 1
  by_cases h2 : n - 32 * m ≤ 32
  · rw [Nat.min_eq_right h2]
  · rw [Nat.min_eq_left (by omega), List.take_of_length_le (by omega), List.take_of_length_le (by omega)]
theorem dv_take_len (f : Nat → Nat) (lab : List UInt8) (m n : Nat) : ((dv f lab m).take n).length = min n (32 * m) := by rw [List.length_take, dv_len]

/-! ## equal bytes: what the differences come to -/
/-- all differences of the first k bytes, together -/
def dif (a b : List UInt8) : Nat → Nat
  | 0 => 0
  | k + 1 => dif a b k ||| (byt a k ^^^ byt b k)
theorem dif_lt (a b : List UInt8) (k : Nat) : dif a b k < 256 := by
  induction k with
  | zero => rw [dif]; decide
  | succ k ih => rw [dif]; exact Nat.or_lt_two_pow (n := 8) ih (xor256 (byt_lt _ _) (byt_lt _ _))
theorem xor_zero {a b : Nat} : a ^^^ b = 0 ↔ a = b := by
  constructor
  · intro h
    have h2 : (a ^^^ b) ^^^ b = 0 ^^^ b := by rw [h]
    rw [Nat.xor_assoc, Nat.xor_self, Nat.xor_zero, Nat.zero_xor] at h2
    exact h2
  · rintro rfl; exact Nat.xor_self a
theorem or_zero {a b : Nat} : a ||| b = 0 ↔ a = 0 ∧ b = 0 := Nat.or_eq_zero_iff
theorem dif_zero (a b : List UInt8) (k : Nat) : dif a b k = 0 ↔ ∀ i, i < k → byt a i = byt b i := by
  induction k with
  | zero => rw [dif]; exact ⟨fun _ i hi => by omega, fun _ => rfl⟩
  | succ k ih =>
    rw [dif, or_zero, ih, xor_zero]
    constructor
    · rintro ⟨h1, h2⟩ i hi
      by_cases e : i = k
      · subst e; exact h2
      · exact h1 i (by omega)
    · intro h
      exact ⟨fun i hi => h i (by omega), h k (by omega)⟩
theorem byt_inj {a b : List UInt8} (hl : a.length = b.length) (h : ∀ i, i < a.length → byt a i = byt b i) : a = b := by
  apply List.ext_getElem hl
  intro i h1 h2
  have := h i h1
  unfold byt at this
  rw [List.getD_eq_getElem?_getD, List.getD_eq_getElem?_getD, List.getElem?_eq_getElem h1, List.getElem?_eq_getElem h2] at this
  exact UInt8.toNat_inj.1 this
theorem dif_all {a b : List UInt8} (hl : a.length = b.length) : dif a b a.length = 0 ↔ a = b := by
  rw [dif_zero]
  exact ⟨byt_inj hl, fun h => by rw [h]; exact fun _ _ => rfl⟩
theorem byt_getElem {a : List UInt8} {i : Nat} (h : i < a.length) : (a[i]).toNat = byt a i := by
  unfold byt
  rw [List.getD_eq_getElem?_getD, List.getElem?_eq_getElem h]
  rfl
theorem byt_some {a : List UInt8} {i : Nat} {b : UInt8} (h : a[i]? = some b) : b.toNat = byt a i := by
  unfold byt
  rw [List.getD_eq_getElem?_getD, h]
  rfl
/-- an array reads as its bytes -/
theorem Arr.rb {w : World} {g : Nat} {t : TypeId} {n : Nat} {f : Nat → Nat} (h : Arr w g t .u8 n f) (hf : ∀ i, i < n → f i < 256) : RB w (fun g' t' => g' = g ∧ t' = t) (some ⟨g, 0, none⟩) (btl n f) := by
  intro _
  refine ⟨g, 0, _, t, (0, 0), rfl, h, ⟨rfl, rfl⟩, fun j b hj => ?_⟩
  have hj' : j < n := by have := (List.getElem?_eq_some_iff.1 hj).1; rw [btl_len] at this; exact this
  have hb := byt_some hj
  rw [btl_byt hf hj'] at hb
  rw [Nat.zero_add, tabV_get hj', u8, hb]
end Go.Proofs.YtagegigffohcbaaGreatDoor

namespace Go.Proofs.YtagegigffohcbaaGreatDoor
open Go.RowKit

/-- values that are slices of bytes, the capacities no less than the lengths -/
def AsC (w : World) (T : Nat → TypeId → Prop) (vs : List Value) (ls : List (List UInt8)) : Prop :=
  vs.length = ls.length ∧ ∀ (j : Nat) (l : List UInt8), ls[j]? = some l → ∃ (B : Option Addr) (c : Nat), vs[j]? = some (Value.slice B l.length c) ∧ RB w T B l ∧ l.length ≤ c ∧ c ≤ 9223372036854775807
section
variable {w w' : World} {S T T' : Nat → TypeId → Prop} {A : Option Addr} {ls ms : List (List UInt8)} {vs us : List Value}
theorem AsC.nil : AsC w T [] [] := ⟨rfl, fun j l h => by simp at h⟩
theorem AsC.one (h : AsC w T vs ls) : ∀ u ∈ vs, u.oneCell' = true := by
  intro u hu
  obtain ⟨j, hj, rfl⟩ := List.getElem_of_mem hu
  obtain ⟨B, c, h1, _⟩ := h.2 j _ (List.getElem?_eq_getElem (by rw [← h.1]; exact hj))
  rw [List.getElem?_eq_getElem hj] at h1
  rw [Option.some.inj h1]
  rfl
theorem AsC.keep (h : AsC w T vs ls) (hk : ∀ B l, RB w T B l → RB w' T' B l) : AsC w' T' vs ls :=
  ⟨h.1, fun j l hj => (h.2 j l hj).imp fun _ ⟨c, h1, h2, h3⟩ => ⟨c, h1, hk _ _ h2, h3⟩⟩
theorem AsC.ext (h : AsC w T vs ls) (hx : Ext w w') : AsC w' T vs ls := h.keep fun _ _ h => h.ext hx
theorem AsC.more (h : AsC w T vs ls) (hS : ∀ g t, T g t → T' g t) : AsC w T' vs ls := h.keep fun _ _ h => h.more hS
theorem AsC.append (h : AsC w T vs ls) (k : AsC w T us ms) : AsC w T (vs ++ us) (ls ++ ms) := by
  refine ⟨by simp [h.1, k.1], fun j l hj => ?_⟩
  by_cases hlt : j < ls.length
  · rw [List.getElem?_append_left hlt] at hj
    rw [List.getElem?_append_left (by rw [h.1]; exact hlt)]
    exact h.2 j l hj
  · rw [List.getElem?_append_right (by omega)] at hj
    rw [List.getElem?_append_right (by rw [h.1]; omega), h.1]
    exact k.2 _ l hj
theorem AsC.single {B : Option Addr} {l : List UInt8} {c : Nat} (h : RB w T B l) (hc : l.length ≤ c) (hm : c ≤ 9223372036854775807) : AsC w T [.slice B l.length c] [l] := by
  refine ⟨rfl, fun j m hj => ?_⟩
  rcases j with _ | j
  · simp at hj
    subst hj
    exact ⟨B, c, rfl, h, hc, hm⟩
  · simp at hj
theorem RBC.vals (h : RBC w S T A ls) : ∃ us, AsC w T us ls ∧ (us ≠ [] → ∃ ad, A = some ad ∧ ∀ j u, us[j]? = some u → w.cell? (ad.add j) = some u) := by
  by_cases hl : 0 < ls.length
  · obtain ⟨g, off, cs, t, fr, rfl, hh, _, hc⟩ := h hl
    have hat : ∀ j, j < ls.length → ∃ B c, cs[off + j]? = some (.slice B (ls.getD j []).length c) ∧ RB w T B (ls.getD j []) ∧ (ls.getD j []).length ≤ c ∧ c ≤ 9223372036854775807 := by
      intro j hj
      have := hc j ls[j] (List.getElem?_eq_getElem hj)
      rw [List.getD_eq_getElem?_getD, List.getElem?_eq_getElem hj]
      exact this
    have hsz : off + ls.length ≤ cs.size := by
      obtain ⟨B, c, h1, _⟩ := hat (ls.length - 1) (by omega)
      have := (Array.getElem?_eq_some_iff.1 h1).1
      omega
    have hul : ((cs.toList.drop off).take ls.length).length = ls.length := by
      have e : cs.toList.length = cs.size := Array.length_toList
      rw [List.length_take, List.length_drop, e]; omega
    have hu : ∀ j, j < ls.length → ((cs.toList.drop off).take ls.length)[j]? = cs[off + j]? := by
      intro j hj
      rw [List.getElem?_take, if_pos hj, List.getElem?_drop, Array.getElem?_toList]
    refine ⟨(cs.toList.drop off).take ls.length, ⟨hul, fun j l hj => ?_⟩, fun _ => ⟨_, rfl, fun j u hj => ?_⟩⟩
    · rw [hu j (List.getElem?_eq_some_iff.1 hj).1]
      exact hc j l hj
    · have hjl : j < ls.length := by have := (List.getElem?_eq_some_iff.1 hj).1; rw [hul] at this; exact this
      rw [hu j hjl] at hj
      rw [(addr_add _ _).2 rfl, cells_of hh]
      exact hj
  · have : ls = [] := List.eq_nil_of_length_eq_zero (by omega)
    subst this
    exact ⟨[], AsC.nil, fun h => absurd rfl h⟩
theorem OwnV.rbc {E : TypeId} {base c : Nat} (h : OwnV w E base A c vs) (hr : AsC w T vs ls) : RBC w (fun _ _ => True) T A ls := by
  intro hl
  rcases h.block with ⟨_, _, rfl⟩ | ⟨g, cs, rfl, _, hh, _, _, _, h4⟩
  · have := hr.1; simp at this; omega
  · refine ⟨g, 0, cs, E, (0, 0), rfl, hh, trivial, fun j l hj => ?_⟩
    obtain ⟨B, d, h1, h2⟩ := hr.2 j l hj
    refine ⟨B, d, ?_, h2⟩
    have hjl : j < vs.length := (List.getElem?_eq_some_iff.1 h1).1
    have : (cs.toList.take vs.length)[j]? = vs[j]? := by rw [h4]
    rw [List.getElem?_take, if_pos hjl, h1] at this
    simpa using this
/-- a row that is written out in the text -/
theorem OwnV.lit {E : TypeId} {base : Nat} (hb : base ≤ w.heap.size) (hm : vs.length ≤ maxLen) : OwnV (w.alloc (.cells vs.toArray E)) E base (some ⟨w.heap.size, 0, none⟩) vs.length vs := by
  refine ⟨by simp, .inr ⟨w.heap.size, vs.length, vs.toArray, rfl, hb, new_of _ _, Nat.le_refl _, hm, by simp, ?_⟩⟩
  simp
end

theorem run_append_vals {P : Program} (w : World) (base : Nat) (t ty E : TypeId) (i : TypeInfo) (z : Value) (bytes : Nat) (ht : P.underlying t = some (.slice E)) (hi : P.info? E = some i) (hz : i.zero = some z) (hs : i.size = 1) (hy : i.bytes = bytes) (hzs : z.cells.size = 1)
    (A : Option Addr) (c : Nat) (vs : List Value) (hown : OwnV w E base A c vs) (B : Option Addr) (d : Nat) (us : List Value) (hB : us ≠ [] → ∃ ad, B = some ad ∧ ∀ j u, us[j]? = some u → w.cell? (ad.add j) = some u) (h1 : ∀ u ∈ us, u.oneCell' = true)
    (hlen : vs.length + us.length ≤ maxLen) (hbytes : (vs.length + us.length) * bytes ≤ 140737488355328) (hbase : base ≤ w.heap.size) :
    ∃ A' c' w', (Builtin.append_ #[t, t] ty #[.slice A vs.length c, .slice B us.length d]).run P w = .ok (.slice A' (vs ++ us).length c') w' ∧ OwnV w' E base A' c' (vs ++ us) ∧ w.grownBy w' (Value.slice A vs.length c).ownBlock := by
  rcases B with _ | ad
  · have hu : us = [] := by
      rcases us with _ | ⟨u, us⟩
      · rfl
      · obtain ⟨_, h, _⟩ := hB (by simp)
        cases h
    subst hu
    refine ⟨A, c, w, ?_, by simpa using hown, World.grownBy.refl w _⟩
    rcases hown.block with ⟨rfl, rfl, rfl⟩ | ⟨g, cs, rfl, hg, hh, h1, _⟩
    · simp [Builtin.append_, run_underlying ht, sizeOf, typeInfo, hi, Builtin.lenOf, Builtin.firstCells]
    · simp [Builtin.append_, run_underlying ht, sizeOf, typeInfo, hi, Builtin.lenOf, Builtin.firstCells, h1, storeCells]
  · obtain ⟨v', w', hrun, h2, h3, _, _⟩ := run_append_own_at (P := P) w base t ty E i z 1 bytes ht hi hz hs hy hzs (by omega) (.slice A vs.length c) vs.length vs hown ad us.length d us (by simp)
      (fun j u hj => by
        obtain ⟨ad', h, hc⟩ := hB (by rintro rfl; simp at hj)
        injection h with h
        subst h
        exact hc j u hj) h1 hlen hbytes hbase
    have h' : w'.ownsRow base E 1 v' (vs ++ us).length (vs ++ us) := by rw [List.length_append]; exact h2
    have shape : ∃ A' c', v' = .slice A' (vs ++ us).length c' := by
      rcases h'.2 with ⟨rfl, hn⟩ | ⟨g, cap, cs, rfl, _⟩
      · exact ⟨none, 0, by rw [hn]⟩
      · exact ⟨_, _, rfl⟩
    obtain ⟨A', c', rfl⟩ := shape
    exact ⟨A', c', w', hrun, h', h3⟩

/-- 'append(parts, more...)' at parts of bytes -/
theorem wpList_append_rows {P : Program} (w : World) {ops : Array Oper} {rest : List Oper} {o : Oper} {a : Act} {Q : Exit → Act → World → Prop} (hgd : o.guard = none) (s x : Operand) (t : TypeId)
    (ho : o.op = .call { callee := .builtin .append, args := #[s, x], argTypes := #[t, t] })
    (base : Nat) (E : TypeId) (i : TypeInfo) (z : Value) (ht : P.underlying t = some (.slice E)) (hi : P.info? E = some i) (hz : i.zero = some z) (hsz : i.size = 1) (hy : i.bytes = 24) (hzs : z.cells.size = 1)
    (A : Option Addr) (c n : Nat) (vs : List Value) (hs : a.eval s = .slice A n c) (hn : vs.length = n) (hown : OwnV w E base A c vs) (S T : Nat → TypeId → Prop) (B : Option Addr) (k d : Nat) (ls ms : List (List UInt8)) (hx : a.eval x = .slice B k d) (hk : ms.length = k) (hr : RBC w S T B ms)
    (hv : AsC w T vs ls) (hT : ∀ g t', T g t' → g < base) (hlen : n + k ≤ 1000000) (hbase : base ≤ w.heap.size)
    (h : ∀ A' c' w', RBC w' (fun _ _ => True) T A' (ls ++ ms) → w.grownBy w' (Value.slice A n c).ownBlock → wpList P ops Q rest (a.put o.dst (.slice A' (ls ++ ms).length c')) w') : wpList P ops Q (o :: rest) a w := by
  subst hk hn
  obtain ⟨us, hu, hB⟩ := hr.vals
  have hul := hu.1
  obtain ⟨A', c', w', hrun, h2, h3⟩ := run_append_vals (P := P) w base t o.type E i z 24 ht hi hz hsz hy hzs A c vs hown B d us hB hu.one (by rw [hul]; unfold maxLen; omega) (by rw [hul]; omega) hbase
  rw [hul] at hrun
  have hl : (vs ++ us).length = (ls ++ ms).length := by rw [List.length_append, List.length_append, hv.1, hul]
  rw [hl] at hrun
  have hge := hown.ge
  have hb : AsC w' T (vs ++ us) (ls ++ ms) := (hv.append hu).keep fun B l hr => hr.grown h3 (fun g t' hs e => by have h1 := hge g e; have h2 := hT g t' hs; omega)
  refine wpList_plain hgd fun K hK => ?_
  unfold Oper.wp execOp
  simp only [ho, resolve, invoke, builtin, Sem.run_bind, Sem.run_pure, Result.andThen_ok, List.map_toArray, List.map_cons, List.map_nil, hs, hx, hrun]
  exact hK _ _ (h A' c' w' (h2.rbc hb) h3)
end Go.Proofs.YtagegigffohcbaaGreatDoor

namespace Go.Proofs.YtagegigffohcbaaGreatDoor
open Go.RowKit

theorem size_key : (Tryz.prog.info? 98).map (·.size) = some 64 := by kernel_rfl
theorem info_row : (Tryz.prog.info? 31).map (fun i => (i.zero, i.size, i.bytes)) = some (some (.slice none 0 0), 1, 24) := by kernel_rfl
theorem rbc_one {w : World} {T : Nat → TypeId → Prop} {g : Nat} {A : Option Addr} {l : List UInt8} {c : Nat} {cs : Array Value} {t : TypeId} {fr : Nat × Nat} (hh : w.heap[g]? = some (.cells cs t fr)) (h0 : cs[0]? = some (.slice A l.length c)) (hr : RB w T A l) (hc : l.length ≤ c) (hm : c ≤ 9223372036854775807) :
    RBC w (fun _ _ => True) T (some ⟨g, 0, none⟩) [l] := by
  intro _
  refine ⟨g, 0, cs, t, fr, rfl, hh, trivial, fun j m hj => ?_⟩
  rcases j with _ | j
  · simp at hj
    subst hj
    exact ⟨A, c, h0, hr, hc, hm⟩
  · simp at hj
theorem fla_one (l : List UInt8) : fla [l] = l := by simp [fla]
theorem fla_cons (l : List UInt8) (ls : List (List UInt8)) : fla ([l] ++ ls) = l ++ fla ls := by simp [fla]

theorem byt_over {l : List UInt8} {i : Nat} (h : l.length ≤ i) : byt l i = 0 := by
  unfold byt
  rw [List.getD_eq_getElem?_getD, List.getElem?_eq_none h]
  rfl
/-- bytes are copied into an array of the call's own, none too -/
theorem wpList_copy_any {P : Program} {w : World} {ops : Array Oper} {rest : List Oper} {o : Oper} {a : Act} {Q : Exit → Act → World → Prop} (hgd : o.guard = none) (d s : Operand) (dT sT : TypeId)
    (ho : o.op = .call { callee := .builtin .copy, args := #[d, s], argTypes := #[dT, sT] }) (elem : TypeId) (hu : P.underlying dT = some (.slice elem)) (hsz : (P.info? elem).map (·.size) = some 1)
    (g dLen dCap : Nat) (hd : a.eval d = .slice (some ⟨g, 0, none⟩) dLen dCap) (A : Option Addr) (c : Nat) (l : List UInt8) (hs : a.eval s = .slice A l.length c)
    (t : TypeId) (n : Nat) (hg : Arr w g t .u8 n (fun _ => 0)) (S : Nat → TypeId → Prop) (hr : RB w S A l) (hfit : l.length ≤ dLen) (hn : dLen = n)
    (h : ∀ w', Arr w' g t .u8 n (byt l) → w.grownBy w' (some g) → wpList P ops Q rest (a.put o.dst (.int .i64 l.length)) w') :
    wpList P ops Q (o :: rest) a w := by
  by_cases hl : 0 < l.length
  · have hmin : min l.length dLen = l.length := by omega
    refine wpList_copy_arr hgd d s dT sT ho elem hu hsz g 0 dLen dCap hd A c l hs t n (fun _ => 0) hg S hr hl l.length hmin.symm (by omega) ?_
    intro w' hA hG
    refine h w' (hA.congr fun i _ => ?_) hG
    by_cases hi : i < l.length
    · rw [if_pos ⟨by omega, by omega⟩, Nat.sub_zero]
    · rw [if_neg (by omega), byt_over (by omega)]
  · have h0 : l = [] := List.eq_nil_of_length_eq_zero (by omega)
    subst h0
    exact wpList_copy_nothing hgd d s dT sT ho elem hu hsz _ A dLen dCap _ c hd hs (by simp) (h w (hg.congr fun i _ => (byt_over (by simp)).symm) (World.grownBy.refl _ _))

set_option maxRecDepth 100000 in
set_option maxHeartbeats 2000000 in
theorem padded_c (A : Option Addr) (c : Nat) (key : List UInt8) (S : Nat → TypeId → Prop) (w : World) (ht : Tab w) (h : RB w S A key) (hl : key.length ≤ 140737488355200) (hc : key.length ≤ c) (hm : c ≤ 9223372036854775807) :
    Calls Tryz.prog 70 #[.slice A key.length c] w fun e w' => e = .returned (.agg (tabV .u8 64 (byt (kb key)))) ∧ Ext w w' := by
  have HT := Lib.hid ht
  have HK := Lib.hid h
  have HL := Lib.hid hl
  have HC := Lib.hid hc
  clear ht h hl hc
  obtain ⟨o0, ho0⟩ : ∃ o0, o0 = Obj.cells (tabV .u8 64 (fun _ => 0)) 98 := ⟨_, rfl⟩
  have ha0 : Arr (w.alloc (.cells (tabV .u8 64 (fun _ => 0)) 98)) w.heap.size 98 .u8 64 (fun _ => 0) := new_of w _
  have HA0 := Lib.hid ha0
  clear ha0 ho0
  by_cases hlt : 64 < key.length
  · have t1 : decide ((64 : Int) < (key.length : Int)) = true := decide_eq_true (by omega)
    have HLT := Lib.hid hlt
    clear hlt
    go_enter Tryz.func70, Tryz.ntmps70
    go_wp2_with fail
    have hx1 := (Ext.alloc w (.cells (tabV .u8 64 (fun _ => 0)) 98)).tr (Ext.alloc _ (.cells #[.slice A key.length c] 31))
    have hr1 := rbc_one (two_new w (.cells (tabV .u8 64 (fun _ => 0)) 98) (.cells #[.slice A key.length c] 31)).2 rfl (HK.out.ext hx1) HC.out hm
    have hsum := sum_c (some ⟨w.heap.size + 1, 0, none⟩) 1 [key] _ _ _ (HT.out.ext hx1) hr1 (by rw [fla_one]; have := HL.out; omega) (by simp)
    rw [fla_one] at hsum
    have HX1 := Lib.hid hx1
    have HA1 := Lib.hid (HA0.out.ext (Ext.alloc _ (.cells #[.slice A key.length c] 31)))
    clear hx1 hr1
    refine hsum.mono ?_
    rintro e w2 ⟨rfl, hx2⟩
    have HX2 := Lib.hid (HX1.out.tr hx2)
    have HA2 := Lib.hid (HA1.out.ext hx2)
    clear hx2 hsum
    go_wp2_with (first
      | (refine wpList_store_arr rfl 53 (.tmp 3) (.tmp 9) rfl w2.heap.size .u8 32 (sum kc key) rfl rfl 53 _ (new_of _ _) size_dig rfl ?_
         intro w3 hA3 hG3
         have hx3 : Ext w2 w3 := grown_new (Ext.alloc _ _) hG3 (fun g hg => by simp at hg; omega)
         have HX3 := Lib.hid (HX2.out.tr hx3)
         have HA3 := Lib.hid (HA2.out.ext hx3)
         have HD3 := Lib.hid (hA3.rb (fun i _ => sum_lt key i))
         clear hA3 hG3 hx3)
      | (refine wpList_copy_any rfl (.tmp 11) (.tmp 12) 31 31 rfl 5 Tryz.underlying31 size_u8 w.heap.size 64 64 rfl (some ⟨w2.heap.size, 0, none⟩) 32 (dg key) rfl 98 64 HA3.out _ HD3.out (by rw [dg_len]; decide) rfl ?_
         intro w4 hA4 hG4
         have HX4 := Lib.hid (grown_new HX3.out hG4 (fun g hg => by simp at hg; omega))
         have HA4 := Lib.hid hA4
         clear hA4 hG4)
      | (refine wpList_load_arr rfl 98 (.tmp 2) rfl w.heap.size rfl 98 .u8 64 (byt (dg key)) _ HA4.out Tryz.underlying98 size_key ?_)
      | (refine wpList_store_arr' rfl rfl 98 (.tmp 2) (.tmp 14) rfl w.heap.size .u8 64 (byt (dg key)) rfl rfl 98 _ HA4.out size_key tabV_size ?_; intro w5 hA5 hG5))
    refine bodyPost_ret (v := .agg (tabV .u8 64 (byt (dg key)))) ?_ rfl ⟨by rw [kb, if_pos HLT.out], grown_new HX4.out hG5 (fun g hg => by simp at hg; omega)⟩
    exact results_cell_row rfl _ _ _ _ _ _ _ rfl hA5 Tryz.underlying98 rfl (by rw [tabV_size]; exact size_key)
  · have t1 : decide ((64 : Int) < (key.length : Int)) = false := decide_eq_false (by omega)
    have HLT := Lib.hid hlt
    clear hlt
    go_enter Tryz.func70, Tryz.ntmps70
    go_wp2_with (first
      | (refine wpList_copy_any rfl (.tmp 11) (.tmp 12) 31 31 rfl 5 Tryz.underlying31 size_u8 w.heap.size 64 64 rfl A c key rfl 98 64 HA0.out S (HK.out.ext (Ext.alloc _ _)) (by have := HLT.out; omega) rfl ?_
         intro w4 hA4 hG4
         have HX4 := Lib.hid (grown_new (Ext.alloc _ _) hG4 (fun g hg => by simp at hg; omega))
         have HA4 := Lib.hid hA4
         clear hA4 hG4)
      | (refine wpList_load_arr rfl 98 (.tmp 2) rfl w.heap.size rfl 98 .u8 64 (byt key) _ HA4.out Tryz.underlying98 size_key ?_)
      | (refine wpList_store_arr' rfl rfl 98 (.tmp 2) (.tmp 14) rfl w.heap.size .u8 64 (byt key) rfl rfl 98 _ HA4.out size_key tabV_size ?_; intro w5 hA5 hG5))
    refine bodyPost_ret (v := .agg (tabV .u8 64 (byt key))) ?_ rfl ⟨by rw [kb, if_neg HLT.out], grown_new HX4.out hG5 (fun g hg => by simp at hg; omega)⟩
    exact results_cell_row rfl _ _ _ _ _ _ _ rfl hA5 Tryz.underlying98 rfl (by rw [tabV_size]; exact size_key)
end Go.Proofs.YtagegigffohcbaaGreatDoor

namespace Go.Proofs.YtagegigffohcbaaGreatDoor
open Go.RowKit

set_option maxRecDepth 100000 in
set_option maxHeartbeats 2000000 in
theorem code1_c (mask : Nat) (hm : mask < 256) (gk : Nat) (f : Nat → Nat) (hf : ∀ i, f i < 256) (A : Option Addr) (c : Nat) (ls : List (List UInt8)) (S T : Nat → TypeId → Prop) (w : World) (ht : Tab w)
    (hk : Arr w gk 98 .u8 64 f) (h : RBC w S T A ls) (hl : (fla ls).length ≤ 140737488355200) (hn : ls.length ≤ 100000) :
    Calls Tryz.prog 83 #[.int .u8 mask, .slice A ls.length c, .pointer (some ⟨gk, 0, none⟩)] w fun e w' => e = .returned (.agg (tabV .u8 32 (sum kc (xk f mask ++ fla ls)))) ∧ Ext w w' := by
  obtain ⟨i0, hi0, hz0, hz1, hz2⟩ := info_parts info_row
  have HT := Lib.hid ht
  have HR := Lib.hid h
  have HL := Lib.hid hl
  have ha0 : Arr (w.alloc (.cells (tabV .u8 32 (fun _ => 0)) 53)) w.heap.size 53 .u8 32 (fun _ => 0) := new_of w _
  have HA0 := Lib.hid ha0
  have HK := Lib.hid (hk.ext (Ext.alloc w (.cells (tabV .u8 32 (fun _ => 0)) 53)))
  clear ht h hl ha0 hk
  go_enter Tryz.func83, Tryz.ntmps83
  go_wp2_with (first
    | (refine wpList_load_arr rfl 98 (.tmp 2) rfl gk rfl 98 .u8 64 f _ HK.out Tryz.underlying98 size_key ?_)
    | (refine wpList_store_arr rfl 98 (.tmp 6) (.tmp 8) rfl (w.heap.size + 1) .u8 64 f rfl rfl 98 _ (two_new _ _ _).2 size_key rfl ?_
       intro w1 hA1 hG1
       have hx1 : Ext (w.alloc (.cells (tabV .u8 32 (fun _ => 0)) 53)) w1 := grown_new (Ext.alloc _ _) hG1 (fun g hg => by simp at hg ⊢; omega)
       have HX1 := Lib.hid ((Ext.alloc _ _).tr hx1)
       have HB1 := Lib.hid (HA0.out.ext hx1)
       have HA1 := Lib.hid hA1
       clear hA1 hG1 hx1))
  go_loopw [9] (fun v wr => ∃ n : Nat, n ≤ 64 ∧ v = .int .i64 n ∧ Arr wr (w.heap.size + 1) 98 .u8 64 (fun i => if i < n then f i ^^^ mask else f i) ∧ Arr wr w.heap.size 53 .u8 32 (fun _ => 0) ∧ Ext w wr) (fun v _ => 64 - (intOf v).toNat)
  case atStart => exact ⟨0, by omega, rfl, HA1.out.congr (fun i _ => by rw [if_neg (by omega)]), HB1.out, HX1.out⟩
  case round =>
    obtain ⟨n, hn', rfl, hA, hB, hx⟩ := hrel
    by_cases hlt : n < 64
    · have hc := hA.cell (i := n) hlt
      rw [if_neg (by omega)] at hc
      have hfr := hA.free n
      obtain ⟨x, hx0⟩ : ∃ x, x = f n := ⟨_, rfl⟩
      have hxl : x < 256 := by rw [hx0]; exact hf n
      rw [← hx0] at hc
      have b1 := u8_xor_nat x mask hxl hm
      have HX0 := Lib.hid hx0
      have HA := Lib.hid hA
      have HB := Lib.hid hB
      have HX := Lib.hid hx
      clear hx0 hA hB hx
      go_wp2_with fail
      go_roundw
      case rel =>
        refine ⟨n + 1, by omega, by go_num, ?_, HB.out.other (by omega) _ _, Below.setCell HX.out (by simp) _⟩
        refine Arr.to (f := fun i => if i < n then f i ^^^ mask else f i) HA.out hlt ?_ (fun i _ hne => ?_)
        · rw [if_pos (by omega), ← HX0.out]
        · by_cases hi : i < n
          · rw [if_pos hi, if_pos (by omega)]
          · rw [if_neg hi, if_neg (by omega)]
      case measure => simp [intOf]; omega
    · have hA2 : Arr wr (w.heap.size + 1) 98 .u8 64 (fun i => f i ^^^ mask) := hA.congr (fun i hi => by rw [if_pos (by omega)])
      have hrb := hA2.rb (fun i _ => xor256 (hf i) hm)
      have hlt2 := hA2.lt
      have hv : AsC (wr.alloc (.cells #[.slice (some ⟨w.heap.size + 1, 0, none⟩) 64 64] 31)) (fun g _ => g < wr.heap.size) [.slice (some ⟨w.heap.size + 1, 0, none⟩) (xk f mask).length 64] [xk f mask] :=
        AsC.single ((hrb.ext (Ext.alloc _ _)).more (fun g t hg => by rw [hg.1]; exact hlt2)) (by rw [xk_len]; exact Nat.le_refl _) (by decide)
      rw [xk_len] at hv
      have hr2 := (HR.out.ext hx).inside.ext (Ext.alloc wr (.cells #[.slice (some ⟨w.heap.size + 1, 0, none⟩) 64 64] 31))
      have hown : OwnV (wr.alloc (.cells #[.slice (some ⟨w.heap.size + 1, 0, none⟩) 64 64] 31)) 31 wr.heap.size (some ⟨wr.heap.size, 0, none⟩) 1 [.slice (some ⟨w.heap.size + 1, 0, none⟩) 64 64] := OwnV.lit (vs := [.slice (some ⟨w.heap.size + 1, 0, none⟩) 64 64]) (Nat.le_refl _) (by simp [maxLen])
      have HV := Lib.hid hv
      have HR2 := Lib.hid hr2
      have HO := Lib.hid hown
      have HB := Lib.hid hB
      have HX := Lib.hid hx
      clear hA hA2 hrb hv hr2 hown hB hx
      go_wp2_with (at_builtin; refine wpList_append_rows _ rfl (.tmp 20) (.tmp 21) 58 rfl wr.heap.size 31 i0 _ Tryz.underlying58 hi0 hz0 hz1 hz2 rfl _ 1 1 _ rfl rfl HO.out _ _ A ls.length c [xk f mask] ls rfl rfl HR2.out HV.out (fun _ _ h => h) (by omega) (by simp) ?_
                   intro A2 c2 w2 hr3 hg3)
      have hx2 : Ext wr w2 := grown_new (Ext.alloc _ _) hg3 (fun g hg => by simp [Value.ownBlock] at hg; omega)
      have hsum := sum_c A2 c2 ([xk f mask] ++ ls) _ _ w2 (HT.out.ext (HX.out.tr hx2)) hr3 (by rw [fla_cons, List.length_append, xk_len]; have := HL.out; omega) (by simp; omega)
      rw [fla_cons] at hsum
      have HB2 := Lib.hid (HB.out.ext hx2)
      have HX2 := Lib.hid (HX.out.tr hx2)
      clear hr3 hg3 hx2
      refine hsum.mono ?_
      rintro e w3 ⟨rfl, hx3⟩
      have HB3 := Lib.hid (HB2.out.ext hx3)
      have HX3 := Lib.hid (HX2.out.tr hx3)
      clear hx3 hsum
      go_wp2_with (refine wpList_store_arr' rfl rfl 53 (.tmp 5) (.tmp 23) rfl w.heap.size .u8 32 (sum kc (xk f mask ++ fla ls)) rfl rfl 53 _ HB3.out size_dig tabV_size ?_; intro w5 hA5 hG5)
      refine bodyPost_ret (v := .agg (tabV .u8 32 (sum kc (xk f mask ++ fla ls)))) ?_ rfl ⟨rfl, grown_new HX3.out hG5 (fun g hg => by simp at hg; omega)⟩
      exact results_cell_row rfl _ _ _ _ _ _ _ rfl hA5 Tryz.underlying53 rfl (by rw [tabV_size]; exact size_dig)

set_option maxRecDepth 100000 in
set_option maxHeartbeats 2000000 in
theorem code_c (f : Nat → Nat) (hf : ∀ i, f i < 256) (A : Option Addr) (c : Nat) (ls : List (List UInt8)) (S T : Nat → TypeId → Prop) (w : World) (ht : Tab w)
    (h : RBC w S T A ls) (hl : (fla ls).length ≤ 140737488355200) (hn : ls.length ≤ 100000) :
    Calls Tryz.prog 69 #[.agg (tabV .u8 64 f), .slice A ls.length c] w fun e w' => e = .returned (.agg (tabV .u8 32 (cd f (fla ls)))) ∧ Ext w w' := by
  have hmf : ∀ (fn : Fn) (first cap : Array Value) (w : World), (Instr.makeFunc fn first cap).run Tryz.prog w = .ok (.func fn first cap) w := fun _ _ _ _ => rfl
  have hx0 := (Ext.alloc w (.cells (tabV .u8 64 f) 98)).tr (Ext.alloc _ (.cells (tabV .u8 32 (fun _ => 0)) 53))
  have hk0 : Arr ((w.alloc (.cells (tabV .u8 64 f) 98)).alloc (.cells (tabV .u8 32 (fun _ => 0)) 53)) w.heap.size 98 .u8 64 f := (two_new _ _ _).1
  have hb0 : Arr ((w.alloc (.cells (tabV .u8 64 f) 98)).alloc (.cells (tabV .u8 32 (fun _ => 0)) 53)) (w.heap.size + 1) 53 .u8 32 (fun _ => 0) := (two_new _ _ _).2
  have hcall := code1_c 54 (by decide) w.heap.size f hf A c ls S T _ (ht.ext hx0) hk0 (h.ext hx0) hl hn
  have HC1 := Lib.hid hcall
  have HT := Lib.hid ht
  have HK0 := Lib.hid hk0
  have HB0 := Lib.hid hb0
  have HX0 := Lib.hid hx0
  clear ht h hk0 hb0 hx0 hcall
  go_enter Tryz.func69, Tryz.ntmps69
  go_wp2_with fail
  refine HC1.out.mono ?_
  rintro e w1 ⟨rfl, hx1⟩
  have HK1 := Lib.hid (HK0.out.ext hx1)
  have HB1 := Lib.hid (HB0.out.ext hx1)
  have HX1 := Lib.hid (HX0.out.tr hx1)
  clear hx1 HC1 HK0 HB0 HX0
  go_wp2_with (refine wpList_store_arr rfl 53 (.tmp 6) (.tmp 10) rfl w1.heap.size .u8 32 (sum kc (xk f 54 ++ fla ls)) rfl rfl 53 _ (new_of _ _) size_dig rfl ?_
               intro w2 hA2 hG2)
  have hx2 : Ext w1 w2 := grown_new (Ext.alloc _ _) hG2 (fun g hg => by simp at hg; omega)
  have hrb : RB w2 _ (some ⟨w1.heap.size, 0, none⟩) (ihash f (fla ls)) := hA2.rb (fun i _ => sum_lt _ i)
  have hil : (ihash f (fla ls)).length = 32 := dg_len _
  have hrc := rbc_one (c := 32) (new_of w2 (.cells #[.slice (some ⟨w1.heap.size, 0, none⟩) (ihash f (fla ls)).length 32] 31)) rfl (hrb.ext (Ext.alloc _ _)) (by omega) (by decide)
  rw [hil] at hrc
  have hx3 := hx2.tr (Ext.alloc w2 (.cells #[.slice (some ⟨w1.heap.size, 0, none⟩) 32 32] 31))
  have hcall := code1_c 92 (by decide) w.heap.size f hf (some ⟨w2.heap.size, 0, none⟩) 1 [ihash f (fla ls)] _ _ _ (HT.out.ext (HX1.out.tr hx3)) (HK1.out.ext hx3) hrc (by rw [fla_one, hil]; decide) (by simp)
  rw [fla_one] at hcall
  have HC2 := Lib.hid hcall
  have HB2 := Lib.hid (HB1.out.ext hx3)
  have HX2 := Lib.hid (HX1.out.tr hx3)
  clear hA2 hG2 hx2 hrb hil hrc hx3 hcall HB1 HX1 HK1
  refine HC2.out.mono ?_
  rintro e w3 ⟨rfl, hx3⟩
  have HB3 := Lib.hid (HB2.out.ext hx3)
  have HX3 := Lib.hid (HX2.out.tr hx3)
  clear hx3 HC2 HB2 HX2
  go_wp2_with (refine wpList_store_arr' rfl rfl 53 (.tmp 4) (.tmp 14) rfl (w.heap.size + 1) .u8 32 (cd f (fla ls)) rfl rfl 53 _ HB3.out size_dig tabV_size ?_; intro w5 hA5 hG5)
  refine bodyPost_ret (v := .agg (tabV .u8 32 (cd f (fla ls)))) ?_ rfl ⟨rfl, grown_new HX3.out hG5 (fun g hg => by simp at hg; omega)⟩
  exact results_cell_row rfl _ _ _ _ _ _ _ rfl hA5 Tryz.underlying53 rfl (by rw [tabV_size]; exact size_dig)

set_option maxRecDepth 100000 in
set_option maxHeartbeats 2000000 in
theorem macSum_c (K : Option Addr) (ck : Nat) (key : List UInt8) (SK : Nat → TypeId → Prop) (A : Option Addr) (c : Nat) (ls : List (List UInt8)) (S T : Nat → TypeId → Prop) (w : World) (ht : Tab w)
    (hk : RB w SK K key) (hkl : key.length ≤ 140737488355200) (hkc : key.length ≤ ck) (hkm : ck ≤ 9223372036854775807) (h : RBC w S T A ls) (hl : (fla ls).length ≤ 140737488355200) (hn : ls.length ≤ 100000) :
    Calls Tryz.prog 45 #[.slice K key.length ck, .slice A ls.length c] w fun e w' => e = .returned (.agg (tabV .u8 32 (hm key (fla ls)))) ∧ Ext w w' := by
  have hx0 := Ext.alloc w (.cells (tabV .u8 32 (fun _ => 0)) 53)
  have hb0 : Arr (w.alloc (.cells (tabV .u8 32 (fun _ => 0)) 53)) w.heap.size 53 .u8 32 (fun _ => 0) := new_of w _
  have HC1 := Lib.hid (padded_c K ck key SK _ (ht.ext hx0) (hk.ext hx0) hkl hkc hkm)
  have HT := Lib.hid (ht.ext hx0)
  have HR := Lib.hid (h.ext hx0)
  have HB0 := Lib.hid hb0
  have HX0 := Lib.hid hx0
  have HL := Lib.hid hl
  clear ht hk hkl hkc h hb0 hx0 hl
  go_enter Tryz.func45, Tryz.ntmps45
  go_wp2_with fail
  refine HC1.out.mono ?_
  rintro e w1 ⟨rfl, hx1⟩
  have hcall := code_c (byt (kb key)) (byt_lt _) A c ls S T w1 (HT.out.ext hx1) (HR.out.ext hx1) HL.out hn
  have HC2 := Lib.hid hcall
  have HB1 := Lib.hid (HB0.out.ext hx1)
  have HX1 := Lib.hid (HX0.out.tr hx1)
  clear hx1 HC1 HB0 HX0 hcall
  go_wp2_with fail
  refine HC2.out.mono ?_
  rintro e w3 ⟨rfl, hx3⟩
  have HB3 := Lib.hid (HB1.out.ext hx3)
  have HX3 := Lib.hid (HX1.out.tr hx3)
  clear hx3 HC2
  go_wp2_with (refine wpList_store_arr' rfl rfl 53 (.tmp 4) (.tmp 8) rfl w.heap.size .u8 32 (cd (byt (kb key)) (fla ls)) rfl rfl 53 _ HB3.out size_dig tabV_size ?_; intro w5 hA5 hG5)
  refine bodyPost_ret (v := .agg (tabV .u8 32 (cd (byt (kb key)) (fla ls)))) ?_ rfl ⟨rfl, grown_new HX3.out hG5 (fun g hg => by simp at hg; omega)⟩
  exact results_cell_row rfl _ _ _ _ _ _ _ rfl hA5 Tryz.underlying53 rfl (by rw [tabV_size]; exact size_dig)
end Go.Proofs.YtagegigffohcbaaGreatDoor

namespace Go.Proofs.YtagegigffohcbaaGreatDoor
open Go.RowKit

theorem bytesWorld_ext (w : World) (E : TypeId) (s : ByteArray) : Ext w (Lib.bytesWorld w E s) :=
  ⟨rfl, rfl, rfl, by rw [Lib.bytesWorld_size]; omega, fun k hk => Lib.bytesWorld_at_old w E s k hk⟩
theorem bytesWorld_rb (w : World) (E : TypeId) (s : ByteArray) : RB (Lib.bytesWorld w E s) (fun g t => g = w.heap.size ∧ t = E) (some ⟨w.heap.size, 0, none⟩) s.data.toList := by
  intro _
  refine ⟨_, 0, _, _, _, rfl, Lib.bytesWorld_at_new w E s, ⟨rfl, rfl⟩, fun j b hj => ?_⟩
  have hjl : j < s.data.size := by have := (List.getElem?_eq_some_iff.1 hj).1; simpa using this
  rw [Array.getElem?_toList] at hj
  unfold Lib.bytesCells
  rw [Nat.zero_add, Array.getElem?_append_left (by simpa using hjl), Array.getElem?_map, hj]
  rfl
theorem step_convert_str {P : Program} (w : World) {ops : Array Oper} {o : Oper} {a : Act} {K : Act → World → Prop} {Q : Exit → Act → World → Prop} {G : Prop} (hgd : o.guard = none) (src dst : TypeId) (x : Operand) (ho : o.op = .convert src dst x)
    (E : TypeId) (hs : P.underlying src = some .string) (hd : P.underlying dst = some (.slice E)) (he : P.underlying E = some (.int .u8)) (s : ByteArray) (n : Nat) (hx : a.eval x = .string s) (hsz : s.data.toList.length = n) (hm : n ≤ maxLen)
    (h : ∀ g c w', RB w' (fun g' t => g' = g ∧ t = E) (some ⟨g, 0, none⟩) s.data.toList → n ≤ c → c ≤ maxLen → w.heap.size ≤ g → g < w'.heap.size → Ext w w' → K (a.put o.dst (.slice (some ⟨g, 0, none⟩) n c)) w') :
    if Region.wanted o (yielded ops a.tmps) = true then Oper.wp P o a w K Q else G := by
  have hsn : s.size = n := by rw [← hsz]; exact (Array.length_toList (xs := s.data)).symm
  have hrun := Lib.run_convert_string_bytes (P := P) w src dst E s hs hd he
  rw [hsn] at hrun
  rw [if_pos (by simp [Region.wanted, hgd])]
  unfold Oper.wp execOp
  simp only [ho, hx, Sem.run_bind, Sem.run_pure, Result.andThen_ok, hrun]
  exact h _ _ _ (bytesWorld_rb w E s) (grownCap_ge _ _ _ _) (grownCap_le_maxLen _ _ _ _ hm) (Nat.le_refl _) (by rw [Lib.bytesWorld_size]; omega) (bytesWorld_ext w E s)
theorem step_make0 {P : Program} (w : World) {ops : Array Oper} {o : Oper} {a : Act} {K : Act → World → Prop} {Q : Exit → Act → World → Prop} {G : Prop} (hgd : o.guard = none) (l c : Operand) (t : TypeId) (ho : o.op = .makeSlice t l c)
    (E : TypeId) (i : TypeInfo) (ht : P.underlying t = some (.slice E)) (hi : P.info? E = some i) (hz : i.zero = some (.int .u8 0)) (hs : i.size = 1) (hy : i.bytes = 1) (kl kc : IntKind) (n : Nat) (hl : a.eval l = .int kl 0) (hc : a.eval c = .int kc (n : Int)) (hn : n ≤ 100000) (base : Nat) (hb : base ≤ w.heap.size)
    (h : ∀ g w', OwnB w' E base (some ⟨g, 0, none⟩) n [] → w.heap.size ≤ g → Ext w w' → K (a.put o.dst (.slice (some ⟨g, 0, none⟩) 0 n)) w') :
    if Region.wanted o (yielded ops a.tmps) = true then Oper.wp P o a w K Q else G := by
  obtain ⟨w', hrun, r1, r2⟩ := run_make_own (P := P) w base t E i (.int .u8 0) 1 ht hi hz hs kl kc n (by rw [hy]; omega) (by unfold maxLen; omega) hb
  rw [if_pos (by simp [Region.wanted, hgd])]
  unfold Oper.wp execOp
  simp only [ho, hl, hc, Sem.run_bind, Sem.run_pure, Result.andThen_ok, hrun]
  exact h _ _ r1 (Nat.le_refl _) (grown_ext r2)
theorem step_store_arr {P : Program} (w : World) {ops : Array Oper} {o : Oper} {a : Act} {K : Act → World → Prop} {Q : Exit → Act → World → Prop} {G : Prop} (hgd : o.guard = none) (ty : TypeId) (x y : Operand) (ho : o.op = .store ty x y)
    (g : Nat) (k : IntKind) (n : Nat) (f f0 : Nat → Nat) (hx : a.eval x = .pointer (some ⟨g, 0, none⟩)) (hy : a.eval y = .agg (tabV k n f)) (t : TypeId) (hg : Arr w g t k n f0)
    (hi : (P.info? ty).map (·.size) = some n) (h : ∀ w', Arr w' g t k n f → w.grownBy w' (some g) → K (a.put o.dst undef) w') :
    if Region.wanted o (yielded ops a.tmps) = true then Oper.wp P o a w K Q else G := by
  rw [if_pos (by simp [Region.wanted, hgd])]
  exact wp_store_row ty x y ho g (tabV k n f) hx hy t _ hg (by rw [tabV_size]; exact hi) (by rw [tabV_size, tabV_size]) tabV_one (h _ (setRow_heap w g _ _ t _ hg) (grown_setRow g _))
/-- the beginning of an array, as a slice -/
theorem run_slice_arr_hi {P : Program} {t e : TypeId} {n : Nat} (hu : P.underlying t = some (.array n e)) (hs : (P.info? e).map (·.size) = some 1) (g r : Nat) (hr : r ≤ n) (hn : 0 < n) (i : Int) (hi : i = r) (W : World) :
    (Instr.sliceAt t (.pointer (some ⟨g, 0, none⟩)) none (some (.int .i64 i)) none).run P W = .ok (.slice (some ⟨g, 0, none⟩) r n) W := by
  subst hi
  cases hq : P.info? e with
  | none => simp [hq] at hs
  | some ie =>
    have hsz : ie.size = 1 := by simpa [hq] using hs
    have h1 : ¬ n = 0 := by omega
    have h2 : (r : Int) ≤ (n : Int) := by omega
    have h3 : (⟨g, 0, none⟩ : Addr).add 0 = ⟨g, 0, none⟩ := by rw [(addr_add _ _).2 rfl]
    simp [Instr.sliceAt, Instr.sureAddr, Sem.run_bind, run_underlying hu, Instr.sliceBounds, run_sliceBound, sizeOf, typeInfo, hq, hsz, h1, h2, h3]
end Go.Proofs.YtagegigffohcbaaGreatDoor

namespace Go.Proofs.YtagegigffohcbaaGreatDoor
open Go.RowKit

set_option maxHeartbeats 1000000 in
theorem equal_c (A B : Option Addr) (a b : List UInt8) (ca cb : Nat) (S T : Nat → TypeId → Prop) (w : World) (ha : RB w S A a) (hb : RB w T B b) (hla : a.length ≤ 9223372036854775807) :
    Calls Tryz.prog 71 #[.slice A a.length ca, .slice B b.length cb] w fun e w' => e = .returned (.bool (decide (a = b))) ∧ w = w' := by
  by_cases hlen : a.length = b.length
  · have H := Lib.hid hlen
    have hb0 := bne_f (a := (a.length : Int)) (b := (b.length : Int)) (by omega)
    have hlen' : b.length ≤ a.length ∧ a.length ≤ b.length := by omega
    obtain ⟨h1, h2⟩ := hlen'
    have HA := Lib.hid ha
    have HB := Lib.hid hb
    clear hlen ha hb
    go_enter Tryz.func71, Tryz.ntmps71
    go_wp2_with fail
    go_loopw [5, 15] (fun d i wr => ∃ k : Nat, k ≤ a.length ∧ i = .int .i64 k ∧ d = .int .u8 (dif a b k : Nat) ∧ w = wr) (fun _ i _ => a.length - (intOf i).toNat)
    case atStart => exact ⟨0, Nat.zero_le _, rfl, rfl, rfl⟩
    case round =>
      obtain ⟨k, hk, rfl, rfl, rfl⟩ := hrel
      by_cases hlt : k < a.length
      · have hlt' : k < b.length := by omega
        obtain ⟨g, off, rfl, hc⟩ := HA.out.cell hlt
        obtain ⟨g', off', rfl, hc'⟩ := HB.out.cell hlt'
        rw [byt_getElem hlt] at hc
        rw [byt_getElem hlt'] at hc'
        have hd : dif a b (k + 1) = dif a b k ||| (byt a k ^^^ byt b k) := by rw [dif]
        have l0 := dif_lt a b k
        have l1 := byt_lt a k
        have l2 := byt_lt b k
        obtain ⟨d, hd0⟩ : ∃ d, d = dif a b k := ⟨_, rfl⟩
        obtain ⟨x, hx⟩ : ∃ x, x = byt a k := ⟨_, rfl⟩
        obtain ⟨y, hy⟩ : ∃ y, y = byt b k := ⟨_, rfl⟩
        rw [← hd0, ← hx, ← hy] at hd
        rw [← hd0] at l0 ⊢
        rw [← hx] at hc l1
        rw [← hy] at hc' l2
        have b1 := u8_xor_nat x y l1 l2
        have b2 := u8_or_nat d (x ^^^ y) l0 (xor256 l1 l2)
        have HD := Lib.hid hd
        clear hd hd0 hx hy
        go_wp2_with fail
        go_roundw
        case rel => exact ⟨k + 1, by omega, by go_num, by rw [HD.out], trivial⟩
        case measure => simp [intOf]; omega
      · have hk' : k = a.length := by omega
        have hz := dif_all H.out
        obtain ⟨d, hd0⟩ : ∃ d, d = dif a b k := ⟨_, rfl⟩
        rw [← hd0]
        rw [← hk', ← hd0] at hz
        have HZ := Lib.hid hz
        clear hz hd0
        by_cases hd : d = 0
        · subst hd
          go_wp2_with fail
          go_ret
          exact ⟨by rw [decide_eq_true (HZ.out.1 trivial)]; rfl, rfl⟩
        · have hbe := beq_f (a := (d : Int)) (b := 0) (by omega)
          have HD := Lib.hid hd
          clear hd
          go_wp2_with fail
          go_ret
          exact ⟨by rw [decide_eq_false (fun h => HD.out (HZ.out.2 h))]; rfl, rfl⟩
  · have hb0 := bne_t (a := (a.length : Int)) (b := (b.length : Int)) (by omega)
    go_enter Tryz.func71, Tryz.ntmps71
    go_wp2_with fail
    go_ret
    exact ⟨by rw [decide_eq_false (fun h => hlen (by rw [h]))]; rfl, rfl⟩
end Go.Proofs.YtagegigffohcbaaGreatDoor

namespace Go.Proofs.YtagegigffohcbaaGreatDoor
open Go.RowKit

theorem derive_neg (ka : Option Addr) (ck kl : Nat) (s : ByteArray) (i : Int) (hi : i < 0) (w : World) :
    Calls Tryz.prog 66 #[.slice ka kl ck, .string s, .int .i64 i] w fun e w' => e = .returned (.slice none 0 0) ∧ w = w' := by
  have t1 : decide (i < 0) = true := decide_eq_true hi
  go_enter Tryz.func66, Tryz.ntmps66
  go_wp2_with fail
  go_ret
  exact ⟨rfl, rfl⟩

/-- whether a code is right -/
def right (key code b : List UInt8) : Bool := decide (16 ≤ code.length ∧ code.length ≤ 32 ∧ code = (cdl (byt (kb key)) b).take code.length)
set_option maxRecDepth 100000 in
set_option maxHeartbeats 2000000 in
theorem check_c (K : Option Addr) (ck : Nat) (key : List UInt8) (SK : Nat → TypeId → Prop) (D : Option Addr) (cd' : Nat) (code : List UInt8) (SD : Nat → TypeId → Prop) (A : Option Addr) (c : Nat) (ls : List (List UInt8)) (S T : Nat → TypeId → Prop) (w : World) (ht : Tab w)
    (hk : RB w SK K key) (hkl : key.length ≤ 140737488355200) (hkc : key.length ≤ ck) (hkm : ck ≤ 9223372036854775807) (hd : RB w SD D code) (hdl : code.length ≤ 9223372036854775807) (h : RBC w S T A ls) (hl : (fla ls).length ≤ 140737488355200) (hn : ls.length ≤ 100000) :
    Calls Tryz.prog 48 #[.slice K key.length ck, .slice D code.length cd', .slice A ls.length c] w fun e w' => e = .returned (.bool (right key code (fla ls))) ∧ Ext w w' := by
  have HS := Lib.hid (macSum_c K ck key SK A c ls S T w ht hk hkl hkc hkm h hl hn)
  have HD := Lib.hid hd
  obtain ⟨C, hC⟩ : ∃ C, C = hm key (fla ls) := ⟨_, rfl⟩
  have hCl : ∀ i, i < 32 → C i < 256 := fun i _ => by rw [hC]; exact hm_lt _ _ _
  have hR : right key code (fla ls) = decide (16 ≤ code.length ∧ code.length ≤ 32 ∧ code = (btl 32 C).take code.length) := by rw [hC]; rfl
  rw [← hC] at HS
  have HR := Lib.hid hR
  have HC := Lib.hid hCl
  clear ht hk hkl hkc hkm hd h hl hn hC hCl hR
  by_cases h16 : 16 ≤ code.length
  · have t1 : decide ((16 : Int) ≤ (code.length : Int)) = true := decide_eq_true (by omega)
    have t1' : (16 : Int) ≤ (code.length : Int) := by omega
    by_cases h32 : code.length ≤ 32
    · have t2 : decide ((code.length : Int) ≤ (32 : Int)) = true := decide_eq_true (by omega)
      have t2' : (code.length : Int) ≤ (32 : Int) := by omega
      go_enter Tryz.func48, Tryz.ntmps48
      go_wp2_with fail
      refine HS.out.mono ?_
      rintro e w1 ⟨rfl, hx1⟩
      have HX1 := Lib.hid hx1
      have HD1 := Lib.hid (HD.out.ext hx1)
      have hsl := fun W => run_slice_arr_hi (P := Tryz.prog) (t := 53) Tryz.underlying53 size_u8 w1.heap.size code.length h32 (by decide) (code.length : Int) rfl W
      clear hx1 HS HD
      go_wp2_with (refine wpList_store_arr rfl 53 (.tmp 7) (.tmp 10) rfl w1.heap.size .u8 32 C rfl rfl 53 _ (new_of _ _) size_dig rfl ?_
                   intro w2 hA2 hG2
                   have hx2 : Ext w1 w2 := grown_new (Ext.alloc _ _) hG2 (fun g hg => by simp at hg; omega)
                   have HX2 := Lib.hid (HX1.out.tr hx2)
                   have HD2 := Lib.hid (HD1.out.ext hx2)
                   have HA2 := Lib.hid (hA2.rb HC.out)
                   clear hx2 hA2 hG2)
      have htl : ((btl 32 C).take code.length).length = code.length := by rw [List.length_take, btl_len]; omega
      have heq := equal_c D (some ⟨w1.heap.size, 0, none⟩) code ((btl 32 C).take code.length) cd' 32 SD _ w2 HD2.out (HA2.out.take code.length) hdl
      rw [htl] at heq
      refine heq.mono ?_
      rintro e w3 ⟨rfl, rfl⟩
      clear heq htl hsl
      go_wp2_with fail
      go_ret
      refine ⟨?_, HX2.out⟩
      rw [HR.out]
      simp [h16, h32]
    · have t2 : decide ((code.length : Int) ≤ (32 : Int)) = false := decide_eq_false (by omega)
      go_enter Tryz.func48, Tryz.ntmps48
      go_wp2_with fail
      refine HS.out.mono ?_
      rintro e w1 ⟨rfl, hx1⟩
      have HX1 := Lib.hid hx1
      clear hx1 HS HD
      go_wp2_with (refine wpList_store_arr rfl 53 (.tmp 7) (.tmp 10) rfl w1.heap.size .u8 32 C rfl rfl 53 _ (new_of _ _) size_dig rfl ?_
                   intro w2 hA2 hG2
                   have hx2 : Ext w1 w2 := grown_new (Ext.alloc _ _) hG2 (fun g hg => by simp at hg; omega)
                   have HX2 := Lib.hid (HX1.out.tr hx2)
                   clear hx2 hA2 hG2)
      go_ret
      refine ⟨?_, HX2.out⟩
      rw [HR.out]
      simp [h32]
  · have t1 : decide ((16 : Int) ≤ (code.length : Int)) = false := decide_eq_false (by omega)
    go_enter Tryz.func48, Tryz.ntmps48
    go_wp2_with fail
    refine HS.out.mono ?_
    rintro e w1 ⟨rfl, hx1⟩
    have HX1 := Lib.hid hx1
    clear hx1 HS HD
    go_wp2_with (refine wpList_store_arr rfl 53 (.tmp 7) (.tmp 10) rfl w1.heap.size .u8 32 C rfl rfl 53 _ (new_of _ _) size_dig rfl ?_
                 intro w2 hA2 hG2
                 have hx2 : Ext w1 w2 := grown_new (Ext.alloc _ _) hG2 (fun g hg => by simp at hg; omega)
                 have HX2 := Lib.hid (HX1.out.tr hx2)
                 clear hx2 hA2 hG2)
    go_ret
    refine ⟨?_, HX2.out⟩
    rw [HR.out]
    simp [h16]
end Go.Proofs.YtagegigffohcbaaGreatDoor
