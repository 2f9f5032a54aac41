/-
  Our own words for memory and small facts, used by every text of this seat: bytes as values, a slice that reads as a list of bytes, what a call leaves as it was.
-/
import Derived.Test.YtgbdckiojjmncaaRows
import Derived.WalkKit
import Derived.WalkSpells
import Derived.WalkLawsBesides
import Derived.Deep.QuietTactic
import Derived.BigQuiet
import Derived.Lib.Hide
import Derived.Deep.Draws
import Derived.Maps.AppendAt
import Derived.Laws.OwnMore
import Derived.LaidEqlPtr
import Derived.Deep.RegionWith
import Derived.Deep.SlicePairs
import Derived.Deep.Matrix
namespace Go.Proofs.Ytgbdckiojjmncaa
open Go.RowKit

/-! ## numbers and tests -/
theorem bne_t {a b : Int} (h : a ≠ b) : (a != b) = true := by simp [h]
theorem bne_f {a b : Int} (h : a = b) : (a != b) = false := by simp [h]
theorem beq_t {a b : Int} (h : a = b) : (a == b) = true := by simp [h]
theorem beq_f {a b : Int} (h : a ≠ b) : (a == b) = false := by simp [h]
theorem u8_ne {x y : UInt8} (h : x ≠ y) : (x.toNat : Int) ≠ (y.toNat : Int) := fun e => h (UInt8.toNat_inj.1 (by omega))
theorem u8_lt (x : UInt8) : 0 ≤ (x.toNat : Int) ∧ (x.toNat : Int) ≤ 255 := ⟨by omega, by have := UInt8.toNat_lt x; omega⟩

/-- A byte as a value of the model. -/
def u8 (b : UInt8) : Value := .int .u8 (b.toNat : Int)
theorem u8_one (b : UInt8) : (u8 b).oneCell' = true := rfl
theorem u8s_one (l : List UInt8) : ∀ u ∈ l.map u8, u.oneCell' = true := by
  intro u hu
  obtain ⟨b, _, rfl⟩ := List.mem_map.1 hu
  rfl

theorem take_succ_eq {α : Type} {l m : List α} {k : Nat} (h : l.take k = m.take k) (hl : k < l.length) (hm : k < m.length) : (l.take (k + 1) = m.take (k + 1)) ↔ l[k] = m[k] := by
  rw [List.take_succ_eq_append_getElem hl, List.take_succ_eq_append_getElem hm, h]
  exact ⟨fun e => by simpa using List.append_cancel_left e, fun e => by rw [e]⟩

/-! ## blocks of the heap -/
theorem lt_of_some {w : World} {g : Nat} {o : Obj} (h : w.heap[g]? = some o) : g < w.heap.size := by
  rcases Nat.lt_or_ge g w.heap.size with hlt | hge
  · exact hlt
  · rw [Array.getElem?_eq_none hge] at h; cases h

/-- nothing that was there has turned -/
abbrev Ext (w w' : World) : Prop := Below w.heap.size w w'
theorem Ext.refl (w : World) : Ext w w := Below.refl _ _
theorem Ext.tr {a b c : World} (h : Ext a b) (k : Ext b c) : Ext a c := Below.trans h (Below.mono k h.size)
theorem Ext.drewN (w : World) (n : Nat) : Ext w (w.drewN n) := ⟨rfl, rfl, rfl, Nat.le_refl _, fun _ _ => rfl⟩
theorem Ext.drew (w : World) : Ext w w.drew := ⟨rfl, rfl, rfl, Nat.le_refl _, fun _ _ => rfl⟩
theorem Ext.alloc (w : World) (o : Obj) : Ext w (w.alloc o) := (Below.refl _ _).alloc (Nat.le_refl _) o
theorem Ext.get {w w' : World} (h : Ext w w') {g : Nat} {o : Obj} (hg : w.heap[g]? = some o) : w'.heap[g]? = some o := (h.block g (lt_of_some hg)).trans hg
theorem Ext.grown {w w' : World} (h : Ext w w') (row : Option Nat) : w.grownBy w' row := ⟨h.os, h.tape, h.output, h.size, fun k hk _ => h.block k hk⟩
theorem grown_get {w w' : World} {row : Option Nat} (h : w.grownBy w' row) {g : Nat} {o : Obj} (hg : w.heap[g]? = some o) (hne : row ≠ some g) : w'.heap[g]? = some o :=
  (h.block g (lt_of_some hg) (fun e => hne e.symm)).trans hg
theorem grown_tr {a b c : World} {row : Option Nat} (h : a.grownBy b row) (k : b.grownBy c row) : a.grownBy c row :=
  ⟨k.os.trans h.os, k.tape.trans h.tape, k.output.trans h.output, Nat.le_trans h.size k.size, fun i hi hne => (k.block i (Nat.lt_of_lt_of_le hi h.size) hne).trans (h.block i hi hne)⟩
theorem grown_ext {w w' : World} (h : w.grownBy w' none) : Ext w w' := ⟨h.os, h.tape, h.output, h.size, fun k hk => h.block k hk (by simp)⟩
theorem grown_new {a b c : World} {row : Option Nat} (h : Ext a b) (k : b.grownBy c row) (hr : ∀ g, row = some g → a.heap.size ≤ g) : Ext a c := Below.grown h k h.size hr
theorem grown_set {w : World} {g : Nat} (p : Addr) (hp : p.block = g) (u : Value) : w.grownBy (w.setCell p u) (some g) :=
  ⟨rfl, rfl, rfl, by simp [World.setCell], fun i _ hne => Below.heap_setCell w p u i (by rintro rfl; exact hne (by rw [hp]))⟩

/-- a block of two cells: the cells, not frozen -/
theorem cells_of {w : World} {g : Nat} {cs : Array Value} {t : TypeId} {fr : Nat × Nat} (h : w.heap[g]? = some (.cells cs t fr)) (i : Nat) : w.cell? ⟨g, i, none⟩ = cs[i]? := by simp [World.cell?, h]
theorem free_of {w : World} {g : Nat} {cs : Array Value} {t : TypeId} (h : w.heap[g]? = some (.cells cs t (0, 0))) (i : Nat) : w.frozen? ⟨g, i, none⟩ = false := by simp [World.frozen?, h]
theorem set_of {w : World} {g : Nat} {cs : Array Value} {t : TypeId} {fr : Nat × Nat} (h : w.heap[g]? = some (.cells cs t fr)) (i : Nat) (u : Value) :
    (w.setCell ⟨g, i, none⟩ u).heap[g]? = some (.cells (cs.setIfInBounds i u) t fr) := by simp [World.setCell, Array.getElem?_modify, h]
theorem new_of (w : World) (o : Obj) : (w.alloc o).heap[w.heap.size]? = some o := by show (w.heap.push o)[w.heap.size]? = _; simp

/-- a call that leaves the world as it was, inside a quiet region -/
theorem quiet_eq {P : Program} {f : FuncId} {args : Array Value} {w : World} {n : Nat} {v : Value}
    (h : Calls P f args (w.drewN n) fun e w' => e = .returned v ∧ w.drewN n = w') : Calls P f args (w.drewN n) fun e w'' => e = .returned v ∧ ∃ m, w'' = w.drewN m :=
  h.mono fun _ _ ⟨he, hm⟩ => ⟨he, n, hm.symm⟩

/-! ## a slice of bytes -/
/-- A slice of bytes, wherever it lies, reads as the list l; its block and the block's type meet S. -/
def RB (w : World) (S : Nat → TypeId → Prop) (A : Option Addr) (l : List UInt8) : Prop :=
  0 < l.length → ∃ g off cs t fr, A = some ⟨g, off, none⟩ ∧ w.heap[g]? = some (.cells cs t fr) ∧ S g t ∧
    ∀ j b, l[j]? = some b → cs[off + j]? = some (u8 b)

section
variable {w w' : World} {S S' : Nat → TypeId → Prop} {A : Option Addr} {l : List UInt8}
theorem RB.nil (w : World) (S : Nat → TypeId → Prop) (A : Option Addr) : RB w S A [] := fun h => absurd h (by simp)
theorem RB.cell (h : RB w S A l) {k : Nat} (hk : k < l.length) :
    ∃ g off, A = some ⟨g, off, none⟩ ∧ w.cell? ⟨g, off + k, none⟩ = some (.int .u8 ((l[k]).toNat : Int)) := by
  obtain ⟨g, off, cs, t, fr, rfl, hh, _, hc⟩ := h (by omega)
  exact ⟨g, off, rfl, by rw [cells_of hh]; exact hc k _ (List.getElem?_eq_getElem hk)⟩
/-- carried to a later world where the blocks that S allows are as they were -/
theorem RB.keep (h : RB w S A l) (hk : ∀ g o, w.heap[g]? = some o → (∃ cs t fr, o = .cells cs t fr ∧ S g t) → w'.heap[g]? = some o) : RB w' S A l := by
  intro hl
  obtain ⟨g, off, cs, t, fr, rfl, hh, hs, hc⟩ := h hl
  exact ⟨g, off, cs, t, fr, rfl, hk g _ hh ⟨cs, t, fr, rfl, hs⟩, hs, hc⟩
theorem RB.inside (h : RB w S A l) : RB w (fun g t => S g t ∧ g < w.heap.size) A l := by
  intro hl
  obtain ⟨g, off, cs, t, fr, rfl, hh, hs, hc⟩ := h hl
  exact ⟨g, off, cs, t, fr, rfl, hh, ⟨hs, lt_of_some hh⟩, hc⟩
theorem RB.more (h : RB w S A l) (hS : ∀ g t, S g t → S' g t) : RB w S' A l := by
  intro hl
  obtain ⟨g, off, cs, t, fr, rfl, hh, hs, hc⟩ := h hl
  exact ⟨g, off, cs, t, fr, rfl, hh, hS g t hs, hc⟩
theorem RB.ext (h : RB w S A l) (hb : Ext w w') : RB w' S A l := h.keep fun _ _ hh _ => hb.get hh
theorem RB.grown (h : RB w S A l) {row : Option Nat} (hb : w.grownBy w' row) (hne : ∀ g t, S g t → row ≠ some g) : RB w' S A l :=
  h.keep fun _ _ hh ⟨_, _, _, _, hs⟩ => grown_get hb hh (hne _ _ hs)
theorem RB.far (h : RB w S A l) {g : Nat} {cs : Array Value} {t : TypeId} {fr : Nat × Nat} (hb : w.grownBy w' (some g)) (hg : w.heap[g]? = some (.cells cs t fr)) (hne : ∀ g', ¬ S g' t) : RB w' S A l :=
  h.keep fun g' o hh ⟨cs', t', fr', he, hs⟩ => grown_get hb hh (by
    rintro e
    injection e with e
    subst e
    rw [hg] at hh
    injection hh with hh
    rw [he] at hh
    injection hh with _ ht _
    subst ht
    exact hne _ hs)
theorem RB.take (h : RB w S A l) (k : Nat) : RB w S A (l.take k) := by
  intro hl
  obtain ⟨g, off, cs, t, fr, rfl, hh, hs, hc⟩ := h (by rw [List.length_take] at hl; omega)
  refine ⟨g, off, cs, t, fr, rfl, hh, hs, fun j b hj => hc j b ?_⟩
  rw [List.getElem?_take] at hj
  split at hj
  · exact hj
  · cases hj
theorem RB.drop (h : RB w S A l) {k cap : Nat} (hc : l.length ≤ cap) : RB w S (if cap = k then A else A.map (·.add k)) (l.drop k) := by
  intro hl
  rw [List.length_drop] at hl
  obtain ⟨g, off, cs, t, fr, rfl, hh, hs, hc'⟩ := h (by omega)
  rw [if_neg (by omega)]
  refine ⟨g, off + k, cs, t, fr, ?_, hh, hs, fun j b hj => ?_⟩
  · simp only [Option.map_some, Addr.add]
    split
    · rename_i h0; subst h0; rfl
    · rfl
  · rw [List.getElem?_drop] at hj
    rw [Nat.add_assoc]
    exact hc' _ b hj
end

/-- bytes that are written out in the text -/
theorem RB.lit (w : World) (l : List UInt8) (cs : Array Value) (t : TypeId) (h : cs.toList = l.map u8) : RB (w.alloc (.cells cs t)) (fun g t' => w.heap.size ≤ g ∧ t' = t) (some ⟨w.heap.size, 0, none⟩) l := by
  intro _
  refine ⟨_, 0, _, _, _, rfl, new_of _ _, ⟨Nat.le_refl _, rfl⟩, fun j b hj => ?_⟩
  rw [Nat.zero_add, ← Array.getElem?_toList, h, List.getElem?_map, hj]
  rfl

/-- A slice of bytes that the call itself made, from block base on. -/
def OwnB (w : World) (E : TypeId) (base : Nat) (A : Option Addr) (c : Nat) (l : List UInt8) : Prop := w.ownsRow base E 1 (.slice A l.length c) l.length (l.map u8)

section
variable {w w' : World} {E : TypeId} {base c : Nat} {A : Option Addr} {l : List UInt8}
theorem OwnB.nil (w : World) (E : TypeId) (base : Nat) : OwnB w E base none 0 [] := World.ownsRow_nil _ _ _ _
theorem OwnB.block (h : OwnB w E base A c l) : (A = none ∧ c = 0 ∧ l = []) ∨ ∃ g cs, A = some ⟨g, 0, none⟩ ∧ base ≤ g ∧ w.heap[g]? = some (.cells cs E (0, 0)) ∧ l.length ≤ c ∧ c ≤ maxLen ∧ cs.size = c ∧
    cs.toList.take l.length = l.map u8 := by
  rcases h.2 with ⟨hv, hn⟩ | ⟨g, cap, cs, hv, hg, hh, h1, h2, h3, h4⟩
  · injection hv with ha _ hc
    exact .inl ⟨ha, hc, List.eq_nil_of_length_eq_zero hn⟩
  · injection hv with ha _ hc
    subst hc
    exact .inr ⟨g, cs, ha, hg, hh, h1, h2, by simpa using h3, by simpa using h4⟩
theorem OwnB.rb (h : OwnB w E base A c l) : RB w (fun g t => base ≤ g ∧ t = E ∧ (Value.slice A l.length c).ownBlock = some g) A l := by
  intro hl
  rcases h.block with ⟨_, _, rfl⟩ | ⟨g, cs, rfl, hg, hh, _, _, _, h4⟩
  · simp at hl
  · refine ⟨g, 0, cs, E, (0, 0), rfl, hh, ⟨hg, rfl, rfl⟩, fun j b hj => ?_⟩
    have hjl : j < l.length := (List.getElem?_eq_some_iff.1 hj).1
    have : (cs.toList.take l.length)[j]? = (l.map u8)[j]? := by rw [h4]
    rw [List.getElem?_take, if_pos hjl, List.getElem?_map, hj] at this
    simpa using this
theorem OwnB.le (h : OwnB w E base A c l) : l.length ≤ c ∧ c ≤ maxLen := by
  rcases h.block with ⟨_, rfl, rfl⟩ | ⟨_, _, _, _, _, h1, h2, _⟩
  · exact ⟨by simp, by simp [maxLen]⟩
  · exact ⟨h1, h2⟩
theorem OwnB.ge (h : OwnB w E base A c l) : ∀ g, (Value.slice A l.length c).ownBlock = some g → base ≤ g := by
  rcases h.block with ⟨rfl, _, _⟩ | ⟨g, cs, rfl, hg, _⟩
  · intro g hg; simp [Value.ownBlock] at hg
  · intro g' hg'; simp [Value.ownBlock] at hg'; omega
theorem OwnB.keep (h : OwnB w E base A c l) (hk : ∀ g o, A = some ⟨g, 0, none⟩ → base ≤ g → w.heap[g]? = some o → w'.heap[g]? = some o) : OwnB w' E base A c l := by
  refine ⟨h.1, ?_⟩
  rcases h.2 with h' | ⟨g, cap, cs, hv, hg, hh, r⟩
  · exact .inl h'
  · refine .inr ⟨g, cap, cs, hv, hg, hk g _ ?_ hg hh, r⟩
    injection hv
theorem OwnB.far (h : OwnB w E base A c l) {g : Nat} {cs : Array Value} {t : TypeId} {fr : Nat × Nat} (hb : w.grownBy w' (some g)) (hg : w.heap[g]? = some (.cells cs t fr)) (hne : t ≠ E) : OwnB w' E base A c l := by
  refine ⟨h.1, ?_⟩
  rcases h.2 with h' | ⟨g', cap, cs', hv, hg', hh, r⟩
  · exact .inl h'
  · refine .inr ⟨g', cap, cs', hv, hg', grown_get hb hh ?_, r⟩
    rintro e
    injection e with e
    subst e
    rw [hg] at hh
    injection hh with hh
    injection hh with _ ht _
    exact hne ht
theorem OwnB.ext (h : OwnB w E base A c l) (hb : Ext w w') : OwnB w' E base A c l := h.keep fun _ _ _ _ hh => hb.get hh
theorem OwnB.less {base' : Nat} (h : OwnB w E base A c l) (hb : base' ≤ base) : OwnB w E base' A c l := by
  refine ⟨h.1, ?_⟩
  rcases h.2 with h' | ⟨g, cap, cs, hv, hg, r⟩
  · exact .inl h'
  · exact .inr ⟨g, cap, cs, hv, Nat.le_trans hb hg, r⟩
end

theorem OwnB.lit {w : World} {E : TypeId} {base : Nat} (l : List UInt8) (cs : Array Value) (h : cs.toList = l.map u8) (hb : base ≤ w.heap.size) (hm : l.length ≤ maxLen) :
    OwnB (w.alloc (.cells cs E)) E base (some ⟨w.heap.size, 0, none⟩) l.length l := by
  have hs : cs.size = l.length := by rw [← Array.length_toList, h, List.length_map]
  refine ⟨by simp, .inr ⟨w.heap.size, l.length, cs, rfl, hb, new_of _ _, Nat.le_refl _, hm, by simpa using hs, ?_⟩⟩
  rw [h, List.take_of_length_le (by simp)]

/-! ## a byte is stored into a row of the call's own -/
section
variable {w w' : World} {E : TypeId} {base c g : Nat} {l : List UInt8}
theorem OwnB.cellAt (h : OwnB w E base (some ⟨g, 0, none⟩) c l) {j : Nat} (hj : j < l.length) : w.cell? ⟨g, j, none⟩ = some (.int .u8 ((l[j]).toNat : Int)) := by
  have := World.ownsRow.cellAt h j (by omega)
  rw [this, List.getElem?_map, List.getElem?_eq_getElem hj]
  rfl
theorem OwnB.freeAt (h : OwnB w E base (some ⟨g, 0, none⟩) c l) (j : Nat) : w.frozen? ⟨g, j, none⟩ = false := World.ownsRow.frozenAt h j
theorem OwnB.set_ (h : OwnB w E base (some ⟨g, 0, none⟩) c l) (j : Nat) (b : UInt8) : OwnB (w.setCell ⟨g, j, none⟩ (.int .u8 (b.toNat : Int))) E base (some ⟨g, 0, none⟩) c (l.set j b) := by
  have := (World.ownsRow.stored h j (u8 b)).1
  unfold OwnB
  rw [List.length_set, List.map_set]
  exact this
theorem OwnB.at_ (h : OwnB w E base (some ⟨g, 0, none⟩) c l) : base ≤ g ∧ g < w.heap.size := by
  rcases h.block with ⟨hA, _⟩ | ⟨g', cs, hA, hb, hh, _⟩
  · cases hA
  · injection hA with hA
    injection hA with hA
    subst hA
    exact ⟨hb, lt_of_some hh⟩
theorem made_bytes (n : Nat) : (madeCells (Value.int .u8 0).cells (n * 1)).toList = (List.replicate n (0 : UInt8)).map u8 := by
  rw [show (Value.int .u8 0).cells = #[.int .u8 0] from rfl, toList_madeCells_one, Nat.mul_one, List.map_replicate]
  rfl
end

/-! ## what a law is told of its arguments -/
/-- A slice of integers that came in: nil, or a row of 'cap' cells, of which the first 'len' are its elements. -/
def IsRow (k : IntKind) (w : World) (a : Option Addr) (len cap : Nat) (zs : List Int) : Prop :=
  (a = none ∧ len = 0 ∧ cap = 0 ∧ zs = []) ∨
  ∃ x, a = some x ∧ len ≤ cap ∧ cap ≤ maxLen ∧ zs.length = cap ∧ (∀ i, i < zs.length → w.cell? (x.add i) = some (.int k (zs.getD i 0))) ∧ ∀ n ∈ zs, (Lit.int k n).wf = true
theorem bd_i64 {n : Int} (h : (Lit.int .i64 n).wf = true) : -9223372036854775808 ≤ n ∧ n ≤ 9223372036854775807 := by simpa [Lit.wf, IntKind.min, IntKind.max, IntKind.signed, IntKind.bits] using h
theorem bd_u64 {n : Int} (h : (Lit.int .u64 n).wf = true) : 0 ≤ n ∧ n ≤ 18446744073709551615 := by simpa [Lit.wf, IntKind.min, IntKind.max, IntKind.signed, IntKind.bits] using h
theorem bd_u32 {n : Int} (h : (Lit.int .u32 n).wf = true) : 0 ≤ n ∧ n ≤ 4294967295 := by simpa [Lit.wf, IntKind.min, IntKind.max, IntKind.signed, IntKind.bits] using h
theorem bd_u8 {n : Int} (h : (Lit.int .u8 n).wf = true) : 0 ≤ n ∧ n ≤ 255 := by simpa [Lit.wf, IntKind.min, IntKind.max, IntKind.signed, IntKind.bits] using h
theorem addr_add (x : Addr) (i : Nat) : (x.add i).block = x.block ∧ (x.spot = none → x.add i = ⟨x.block, x.off + i, none⟩) := by
  unfold Addr.add
  split
  · rename_i h
    subst h
    exact ⟨rfl, fun h => by cases x; simp_all⟩
  · exact ⟨rfl, fun h => by cases x; simp_all⟩
theorem addr_add0 (x : Addr) : x.add 0 = x := by simp [Addr.add]
theorem row_bytes {w : World} {a : Option Addr} {len cap : Nat} {zs : List Int} (h : IsRow .u8 w a len cap zs) : ∃ l : List UInt8, l.length = len ∧ l.length ≤ cap ∧ cap ≤ maxLen ∧ RB w (fun g _ => g < w.heap.size) a l := by
  rcases h with ⟨rfl, rfl, rfl, rfl⟩ | ⟨x, rfl, hl, hm, hz, hc, hw⟩
  · exact ⟨[], rfl, by simp, by simp [maxLen], RB.nil _ _ _⟩
  · refine ⟨(zs.take len).map (fun z => UInt8.ofNat z.toNat), by simp; omega, by simp; omega, hm, fun hp => ?_⟩
    simp only [List.length_map, List.length_take] at hp
    have h0 := hc 0 (by omega)
    rw [addr_add0] at h0
    cases hs : x.spot with
    | some q =>
      have : x.spot.isSome := by simp [hs]
      unfold World.cell? at h0
      split at h0
      · rw [if_pos this] at h0; cases h0
      · cases h0
    | none =>
      cases hh : w.heap[x.block]? with
      | none => simp [World.cell?, hh] at h0
      | some o =>
        cases o with
        | cells cs t fr =>
          refine ⟨x.block, x.off, cs, t, fr, ?_, hh, lt_of_some hh, fun j b hj => ?_⟩
          · cases x; simp_all
          · rw [List.getElem?_map] at hj
            obtain ⟨z, hz1, rfl⟩ := Option.map_eq_some_iff.1 hj
            rw [List.getElem?_take] at hz1
            split at hz1
            · rename_i hjl
              have hjz : j < zs.length := by omega
              have hcj := hc j hjz
              rw [(addr_add x j).2 hs, cells_of hh] at hcj
              rw [hcj]
              have e : zs.getD j 0 = z := by rw [List.getD_eq_getElem?_getD, hz1]; rfl
              rw [e]
              have hb := bd_u8 (hw z (List.mem_of_getElem? hz1))
              unfold u8
              rw [UInt8.toNat_ofNat']
              congr 2
              omega
            · cases hz1
        | _ => simp [World.cell?, hh] at h0

/-- where a cell is there is a block -/
theorem addr_at {w : World} {x : Addr} {v : Value} (h : w.cell? x = some v) : x.spot = none ∧ ∃ cs t fr, w.heap[x.block]? = some (.cells cs t fr) := by
  cases hh : w.heap[x.block]? with
  | none => simp [World.cell?, hh] at h
  | some o =>
    cases o with
    | cells cs t fr =>
      refine ⟨?_, cs, t, fr, rfl⟩
      cases hs : x.spot with
      | none => rfl
      | some q => simp [World.cell?, hh, hs] at h
    | _ => simp [World.cell?, hh] at h
/-- A slice of structs of two numbers. -/
def RP (w : World) (A : Option Addr) (ps : List (Int × Int)) : Prop :=
  0 < ps.length → ∃ g off cs t fr, A = some ⟨g, off, none⟩ ∧ w.heap[g]? = some (.cells cs t fr) ∧
    ∀ j p, ps[j]? = some p → cs[off + j * 2]? = some (.int .i64 p.1) ∧ cs[off + (j * 2 + 1)]? = some (.int .i64 p.2)
theorem RP.ext {w w' : World} {A : Option Addr} {ps : List (Int × Int)} (h : RP w A ps) (hb : Ext w w') : RP w' A ps := by
  intro hl
  obtain ⟨g, off, cs, t, fr, rfl, hh, hc⟩ := h hl
  exact ⟨g, off, cs, t, fr, rfl, hb.get hh, hc⟩
theorem RP.cell {w : World} {A : Option Addr} {ps : List (Int × Int)} (h : RP w A ps) {k : Nat} (hk : k < ps.length) :
    ∃ g off, A = some ⟨g, off, none⟩ ∧ ∀ w', Ext w w' → w'.cell? ⟨g, off + k * 2, none⟩ = some (.int .i64 (ps[k]).1) ∧ w'.cell? ⟨g, off + k * 2 + 1, none⟩ = some (.int .i64 (ps[k]).2) := by
  obtain ⟨g, off, cs, t, fr, rfl, hh, hc⟩ := h (by omega)
  obtain ⟨h1, h2⟩ := hc k _ (List.getElem?_eq_getElem hk)
  exact ⟨g, off, rfl, fun w' hx => ⟨by rw [cells_of (hx.get hh)]; exact h1, by rw [cells_of (hx.get hh)]; exact h2⟩⟩
/-- What a law is told of a slice of pairs of numbers that came in. -/
def IsPairs (w : World) (a : Option Addr) (len cap : Nat) (ps : List (Int × Int)) : Prop :=
  ps.length = len ∧ len ≤ cap ∧ cap ≤ maxLen ∧ RP w a ps ∧ ∀ p ∈ ps, (-9223372036854775808 ≤ p.1 ∧ p.1 ≤ 9223372036854775807) ∧ (-9223372036854775808 ≤ p.2 ∧ p.2 ≤ 9223372036854775807)
open Go.Deep in
theorem open_pairs {H : Type} {enc : TypeId × Value → H} {P : Program} {w : World} {base : Nat} {held : Bool} {t e i : TypeId} {f0 f1 : Field} {fuel : Nat} {a : Option Addr} {len cap : Nat} {x : DataW H × List MemPlace}
    (ht : P.underlying t = some (.slice e)) (he : P.underlying e = some (.struct #[f0, f1])) (ce : P.cellsOf e = 2) (o0 : f0.offset = 0) (o1 : f1.offset = 1) (c0 : P.cellsOf f0.type = 1) (c1 : P.cellsOf f1.type = 1)
    (t0 : f0.type = i) (t1 : f1.type = i) (hi : P.underlying i = some (.int .i64))
    (h : DataW.trod enc P w base (fun _ => true) held fuel t [.slice a len cap] = some x) : ∃ ps, IsPairs w a len cap ps := by
  rcases open_slice_pairs ht he ce o0 o1 c0 c1 h with ⟨hcs, _⟩ | ⟨y, len', cap', m, n, V0, V1, D0, D1, P0, P1, hcs, _, hl, hm, hmm, _, hc⟩
  · simp at hcs
    obtain ⟨rfl, rfl, rfl⟩ := hcs
    exact ⟨[], rfl, by simp, by simp [maxLen], fun h => absurd h (by simp), by simp⟩
  · simp at hcs
    obtain ⟨rfl, rfl, rfl⟩ := hcs
    rw [if_pos rfl] at hmm
    subst hmm
    have hV : ∀ i, i < len → ∃ p : Int × Int, V0 i = .int .i64 p.1 ∧ V1 i = .int .i64 p.2 ∧ (Lit.int .i64 p.1).wf = true ∧ (Lit.int .i64 p.2).wf = true := by
      intro j hj
      obtain ⟨_, _, h0, h1⟩ := hc j (by omega)
      obtain ⟨q, hq, _, hw⟩ := DataW.trod_int (by rw [t0]; exact hi) h0
      obtain ⟨r, hr, _, hw'⟩ := DataW.trod_int (by rw [t1]; exact hi) h1
      simp at hq hr
      exact ⟨(q, r), hq, hr, hw, hw'⟩
    obtain ⟨f, hf⟩ := choose_lt hV
    refine ⟨(List.range len).map f, by simp, hl, hm, fun hp => ?_, fun p hp => ?_⟩
    · simp at hp
      have hc0 := (hc 0 (by omega)).1
      rw [Nat.zero_mul, addr_add0] at hc0
      obtain ⟨hs, cs, t', fr, hh⟩ := addr_at hc0
      refine ⟨y.block, y.off, cs, t', fr, by cases y; simp_all, hh, fun j p hj => ?_⟩
      rw [List.getElem?_map] at hj
      obtain ⟨j', hj1, rfl⟩ := Option.map_eq_some_iff.1 hj
      obtain ⟨hjl, e⟩ := List.getElem?_eq_some_iff.1 hj1
      simp only [List.length_range, List.getElem_range] at hjl e
      subst e
      obtain ⟨h1, h2, _⟩ := hc j (by omega)
      obtain ⟨e1, e2, _⟩ := hf j hjl
      rw [(addr_add y _).2 hs, cells_of hh] at h1 h2
      rw [h1, h2, e1, e2]
      exact ⟨rfl, rfl⟩
    · obtain ⟨j, hj, rfl⟩ := List.mem_map.1 hp
      obtain ⟨_, _, h1, h2⟩ := hf j (List.mem_range.1 hj)
      exact ⟨bd_i64 h1, bd_i64 h2⟩

/-- A slice of slices of bytes reads as a list of lists: each row a slice that reads as its bytes. -/
def RBs (w : World) (S T : Nat → TypeId → Prop) (A : Option Addr) (ls : List (List UInt8)) : Prop :=
  0 < ls.length → ∃ g off cs t fr, A = some ⟨g, off, none⟩ ∧ w.heap[g]? = some (.cells cs t fr) ∧ S g t ∧
    ∀ j l, ls[j]? = some l → ∃ B c, cs[off + j]? = some (.slice B l.length c) ∧ RB w T B l
theorem RBs.cell {w : World} {S T : Nat → TypeId → Prop} {A : Option Addr} {ls : List (List UInt8)} (h : RBs w S T A ls) {k : Nat} (hk : k < ls.length) :
    ∃ g off B c, A = some ⟨g, off, none⟩ ∧ w.cell? ⟨g, off + k, none⟩ = some (.slice B (ls[k]).length c) ∧ RB w T B ls[k] := by
  obtain ⟨g, off, cs, t, fr, rfl, hh, _, hc⟩ := h (by omega)
  obtain ⟨B, c, h1, h2⟩ := hc k _ (List.getElem?_eq_getElem hk)
  exact ⟨g, off, B, c, rfl, by rw [cells_of hh]; exact h1, h2⟩
theorem RBs.cellx {w : World} {S T : Nat → TypeId → Prop} {A : Option Addr} {ls : List (List UInt8)} (h : RBs w S T A ls) {k : Nat} (hk : k < ls.length) :
    ∃ g off B c, A = some ⟨g, off, none⟩ ∧ (∀ w', Ext w w' → w'.cell? ⟨g, off + k, none⟩ = some (.slice B (ls[k]).length c)) ∧ (∀ w', Ext w w' → RB w' T B ls[k]) := by
  obtain ⟨g, off, cs, t, fr, rfl, hh, _, hc⟩ := h (by omega)
  obtain ⟨B, c, h1, h2⟩ := hc k _ (List.getElem?_eq_getElem hk)
  exact ⟨g, off, B, c, rfl, fun w' hx => by rw [cells_of (hx.get hh)]; exact h1, fun w' hx => h2.ext hx⟩
theorem RBs.ext {w w' : World} {S T : Nat → TypeId → Prop} {A : Option Addr} {ls : List (List UInt8)} (h : RBs w S T A ls) (hb : Ext w w') : RBs w' S T A ls := by
  intro hl
  obtain ⟨g, off, cs, t, fr, rfl, hh, hs, hc⟩ := h hl
  exact ⟨g, off, cs, t, fr, rfl, hb.get hh, hs, fun j l hj => (hc j l hj).imp fun B ⟨c, h1, h2⟩ => ⟨c, h1, h2.ext hb⟩⟩

/-- What a law is told of a slice of slices of bytes that came in. -/
def IsRows (w : World) (a : Option Addr) (len cap : Nat) (ls : List (List UInt8)) : Prop :=
  ls.length = len ∧ len ≤ cap ∧ cap ≤ maxLen ∧ RBs w (fun g _ => g < w.heap.size) (fun g _ => g < w.heap.size) a ls ∧ ∀ l ∈ ls, l.length ≤ maxLen
open Go.Deep in
theorem open_rows {H : Type} {enc : TypeId × Value → H} {P : Program} {w : World} {base : Nat} {held : Bool} {t e q : TypeId} {fuel : Nat} {a : Option Addr} {len cap : Nat} {x : DataW H × List MemPlace}
    (ht : P.underlying t = some (.slice e)) (he : P.underlying e = some (.slice q)) (hq : P.underlying q = some (.int .u8)) (ce : P.cellsOf e = 1) (cq : P.cellsOf q = 1)
    (h : DataW.trod enc P w base (fun _ => true) held fuel t [.slice a len cap] = some x) : ∃ ls, IsRows w a len cap ls := by
  rcases open_int_rows ht he hq ce cq h with ⟨hcs, _⟩ | ⟨y, len', cap', A, L, C, Z, hcs, _, hl, hm, _, hc⟩
  · simp at hcs
    obtain ⟨rfl, rfl, rfl⟩ := hcs
    exact ⟨[], rfl, by simp, by simp [maxLen], fun h => absurd h (by simp), by simp⟩
  · simp at hcs
    obtain ⟨rfl, rfl, rfl⟩ := hcs
    have hV : ∀ i, i < len → ∃ l : List UInt8, l.length = L i ∧ w.cell? (y.add i) = some (.slice (A i) l.length (C i)) ∧ RB w (fun g _ => g < w.heap.size) (A i) l ∧ l.length ≤ maxLen := by
      intro j hj
      obtain ⟨h1, h2, h3, h4, h5, h6, h7⟩ := hc j (by omega)
      have hrow : IsRow .u8 w (A j) (L j) (C j) (Z j) := by
        rcases hA : A j with _ | a'
        · have := h6 hA
          refine .inl ⟨rfl, by omega, this, List.eq_nil_of_length_eq_zero (by omega)⟩
        · exact .inr ⟨a', rfl, h2, h3, h4, fun i hi => (h7 a' hA).2 i (by omega), h5⟩
      obtain ⟨l, e1, e2, e3, e4⟩ := row_bytes hrow
      exact ⟨l, e1, by rw [e1]; exact h1, e4, Nat.le_trans e2 e3⟩
    obtain ⟨f, hf⟩ := choose_lt hV
    refine ⟨(List.range len).map f, by simp, hl, hm, fun hp => ?_, fun l hlm => ?_⟩
    · simp at hp
      have hc0 := (hc 0 (by omega)).1
      rw [addr_add0] at hc0
      obtain ⟨hs, cs, t', fr, hh⟩ := addr_at hc0
      refine ⟨y.block, y.off, cs, t', fr, by cases y; simp_all, hh, lt_of_some hh, fun j l hj => ?_⟩
      rw [List.getElem?_map] at hj
      obtain ⟨j', hj1, rfl⟩ := Option.map_eq_some_iff.1 hj
      obtain ⟨hjl, e⟩ := List.getElem?_eq_some_iff.1 hj1
      simp only [List.length_range, List.getElem_range] at hjl e
      subst e
      obtain ⟨_, h1, h2, _⟩ := hf j hjl
      rw [(addr_add y _).2 hs, cells_of hh] at h1
      exact ⟨A j, C j, h1, h2⟩
    · obtain ⟨j, hj, rfl⟩ := List.mem_map.1 hlm
      exact (hf j (List.mem_range.1 hj)).2.2.2

/-! ## append onto a slice of bytes of the call's own -/
section
variable {P : Program} (w : World)
theorem run_append_bytes (base : Nat) (t ty E : TypeId) (i : TypeInfo) (ht : P.underlying t = some (.slice E)) (hi : P.info? E = some i) (hz : i.zero = some (.int .u8 0)) (hs : i.size = 1) (hy : i.bytes = 1)
    (A : Option Addr) (c : Nat) (l : List UInt8) (hown : OwnB w E base A c l) (S : Nat → TypeId → Prop) (B : Option Addr) (d : Nat) (m : List UInt8) (hr : RB w S B m)
    (hlen : l.length + m.length ≤ 140737488355328) (hbase : base ≤ w.heap.size) :
    ∃ A' c' w', (Builtin.append_ #[t, t] ty #[.slice A l.length c, .slice B m.length d]).run P w = .ok (.slice A' (l ++ m).length c') w' ∧ OwnB w' E base A' c' (l ++ m) ∧
      w.grownBy w' (Value.slice A l.length c).ownBlock ∧ ((Value.slice A' (l ++ m).length c').ownBlock = (Value.slice A l.length c).ownBlock ∨ (Value.slice A' (l ++ m).length c').ownBlock = some w.heap.size) := by
  have hmax : l.length + m.length ≤ maxLen := by simp only [maxLen]; omega
  have shape : ∀ (v : Value) (w2 : World), w2.ownsRow base E 1 v (l.length + m.length) (l.map u8 ++ m.map u8) → ∃ A' c', v = .slice A' (l ++ m).length c' ∧ OwnB w2 E base A' c' (l ++ m) := by
    intro v w2 h
    have h' : w2.ownsRow base E 1 v (l ++ m).length ((l ++ m).map u8) := by rw [List.length_append, List.map_append]; exact h
    rcases h'.2 with ⟨rfl, hn⟩ | ⟨g, cap, cs, rfl, _⟩
    · exact ⟨none, 0, by rw [hn], by unfold OwnB; rw [hn] at h' ⊢; exact h'⟩
    · exact ⟨_, _, rfl, h'⟩
  rcases B with _ | ad
  · have hm : m = [] := by
      rcases m with _ | ⟨x, m⟩
      · rfl
      · obtain ⟨_, _, _, _, _, h, _⟩ := hr (by simp)
        cases h
    subst hm
    refine ⟨A, c, w, ?_, by simpa using hown, World.grownBy.refl w _, by simp⟩
    rcases hown.block with ⟨rfl, rfl, rfl⟩ | ⟨g, cs, rfl, hg, hh, h1, _⟩
    · simp [Builtin.append_, run_underlying ht, sizeOf, typeInfo, hi, Builtin.lenOf, Builtin.firstCells]
    · simp [Builtin.append_, run_underlying ht, sizeOf, typeInfo, hi, Builtin.lenOf, Builtin.firstCells, h1, storeCells]
  · have hcells : ∀ j u, (m.map u8)[j]? = some u → w.cell? (ad.add j) = some u := by
      intro j u hu
      rw [List.getElem?_map] at hu
      obtain ⟨b, hb, rfl⟩ := Option.map_eq_some_iff.1 hu
      have hj : j < m.length := (List.getElem?_eq_some_iff.1 hb).1
      obtain ⟨g, off, cs, t', fr, hA, hh, _, hc⟩ := hr (by omega)
      injection hA with hA
      subst hA
      have : (⟨g, off, none⟩ : Addr).add j = ⟨g, off + j, none⟩ := by
        unfold Addr.add
        split
        · rename_i h0; subst h0; rfl
        · rfl
      rw [this, cells_of hh]
      exact hc j b hb
    obtain ⟨v', w', hrun, h2, h3, _, h5⟩ := run_append_own_at (P := P) w base t ty E i (.int .u8 0) 1 1 ht hi hz hs hy rfl (by omega) (.slice A l.length c) l.length (l.map u8) hown ad m.length d (m.map u8) (by simp) hcells (u8s_one m) hmax (by omega) hbase
    obtain ⟨A', c', rfl, ho⟩ := shape v' w' h2
    exact ⟨A', c', w', hrun, ho, h3, h5⟩

/-- 'out = append(out, xs...)' at bytes -/
theorem wpList_append_bytes {ops : Array Oper} {rest : List Oper} {o : Oper} {a : Act} {Q : Exit → Act → World → Prop} (hgd : o.guard = none) (s x : Operand) (t : TypeId)
    (ho : o.op = .call { callee := .builtin .append, args := #[s, x], argTypes := #[t, t] })
    (base : Nat) (E : TypeId) (i : TypeInfo) (ht : P.underlying t = some (.slice E)) (hi : P.info? E = some i) (hz : i.zero = some (.int .u8 0)) (hsz : i.size = 1) (hy : i.bytes = 1)
    (A : Option Addr) (c : Nat) (l : List UInt8) (hs : a.eval s = .slice A l.length c) (hown : OwnB w E base A c l) (S : Nat → TypeId → Prop) (B : Option Addr) (d : Nat) (m : List UInt8) (hx : a.eval x = .slice B m.length d) (hr : RB w S B m)
    (hlen : l.length + m.length ≤ 140737488355328) (hbase : base ≤ w.heap.size)
    (h : ∀ A' c' w', OwnB w' E base A' c' (l ++ m) → w.grownBy w' (Value.slice A l.length c).ownBlock →
      ((Value.slice A' (l ++ m).length c').ownBlock = (Value.slice A l.length c).ownBlock ∨ (Value.slice A' (l ++ m).length c').ownBlock = some w.heap.size) → wpList P ops Q rest (a.put o.dst (.slice A' (l ++ m).length c')) w') : wpList P ops Q (o :: rest) a w := by
  obtain ⟨A', c', w', hrun, h2, h3, h4⟩ := run_append_bytes (P := P) w base t o.type E i ht hi hz hsz hy A c l hown S B d m hr hlen hbase
  refine wpList_plain hgd fun K hK => ?_
  unfold Oper.wp execOp
  simp only [ho, resolve, invoke, builtin, Sem.run_bind, Sem.run_pure, Result.andThen_ok, List.map_toArray, List.map_cons, List.map_nil, hs, hx, hrun]
  exact hK _ _ (h A' c' w' h2 h3 h4)
end

/-- the same inside a region that draws its order -/
theorem step_append_bytes {P : Program} (w : World) {ops : Array Oper} {o : Oper} {a : Act} {K : Act → World → Prop} {Q : Exit → Act → World → Prop} {G : Prop} (hgd : o.guard = none) (s x : Operand) (t : TypeId)
    (ho : o.op = .call { callee := .builtin .append, args := #[s, x], argTypes := #[t, t] })
    (base : Nat) (E : TypeId) (i : TypeInfo) (ht : P.underlying t = some (.slice E)) (hi : P.info? E = some i) (hz : i.zero = some (.int .u8 0)) (hsz : i.size = 1) (hy : i.bytes = 1)
    (A : Option Addr) (c : Nat) (l : List UInt8) (hs : a.eval s = .slice A l.length c) (hown : OwnB w E base A c l) (S : Nat → TypeId → Prop) (B : Option Addr) (k d : Nat) (m : List UInt8) (hx : a.eval x = .slice B k d) (hk : m.length = k) (hr : RB w S B m)
    (hlen : l.length + k ≤ 140737488355328) (hbase : base ≤ w.heap.size)
    (h : ∀ A' c' w', OwnB w' E base A' c' (l ++ m) → w.grownBy w' (Value.slice A l.length c).ownBlock →
      ((Value.slice A' (l ++ m).length c').ownBlock = (Value.slice A l.length c).ownBlock ∨ (Value.slice A' (l ++ m).length c').ownBlock = some w.heap.size) → K (a.put o.dst (.slice A' (l ++ m).length c')) w') :
    if Region.wanted o (yielded ops a.tmps) = true then Oper.wp P o a w K Q else G := by
  subst hk
  obtain ⟨A', c', w', hrun, h2, h3, h4⟩ := run_append_bytes (P := P) w base t o.type E i ht hi hz hsz hy A c l hown S B d m hr hlen hbase
  rw [if_pos (by simp [Region.wanted, hgd])]
  unfold Oper.wp execOp
  simp only [ho, resolve, invoke, builtin, Sem.run_bind, Sem.run_pure, Result.andThen_ok, List.map_toArray, List.map_cons, List.map_nil, hs, hx, hrun]
  exact h A' c' w' h2 h3 h4

/-! ## rows of values (one cell each) of the call's own -/
def OwnV (w : World) (E : TypeId) (base : Nat) (A : Option Addr) (c : Nat) (vs : List Value) : Prop := w.ownsRow base E 1 (.slice A vs.length c) vs.length vs
section
variable {w w' : World} {E : TypeId} {base c : Nat} {A : Option Addr} {vs : List Value}
theorem OwnV.nil (w : World) (E : TypeId) (base : Nat) : OwnV w E base none 0 [] := World.ownsRow_nil _ _ _ _
theorem OwnV.block (h : OwnV w E base A c vs) : (A = none ∧ c = 0 ∧ vs = []) ∨ ∃ g cs, A = some ⟨g, 0, none⟩ ∧ base ≤ g ∧ w.heap[g]? = some (.cells cs E (0, 0)) ∧ vs.length ≤ c ∧ c ≤ maxLen ∧ cs.size = c ∧ cs.toList.take vs.length = vs := by
  rcases h.2 with ⟨hv, hn⟩ | ⟨g, cap, cs, hv, hg, hh, h1, h2, h3, h4⟩
  · injection hv with ha _ hc
    exact .inl ⟨ha, hc, List.eq_nil_of_length_eq_zero hn⟩
  · injection hv with ha _ hc
    subst hc
    exact .inr ⟨g, cs, ha, hg, hh, h1, h2, by simpa using h3, by simpa using h4⟩
theorem OwnV.ge (h : OwnV w E base A c vs) : ∀ g, (Value.slice A vs.length c).ownBlock = some g → base ≤ g := by
  rcases h.block with ⟨rfl, _, _⟩ | ⟨g, cs, rfl, hg, _⟩
  · intro g hg; simp [Value.ownBlock] at hg
  · intro g' hg'; simp [Value.ownBlock] at hg'; omega
theorem OwnV.ext (h : OwnV w E base A c vs) (hb : Ext w w') : OwnV w' E base A c vs := by
  refine ⟨h.1, ?_⟩
  rcases h.2 with h' | ⟨g, cap, cs, hv, hg, hh, r⟩
  · exact .inl h'
  · exact .inr ⟨g, cap, cs, hv, hg, hb.get hh, r⟩
/-- bytes outside rows of type E are not turned by a write into such a row -/
theorem RB.ownV {S : Nat → TypeId → Prop} {B : Option Addr} {l : List UInt8} (h : RB w S B l) (ho : OwnV w E base A c vs) (hb : w.grownBy w' (Value.slice A vs.length c).ownBlock) (hS : ∀ g, ¬ S g E) : RB w' S B l := by
  rcases ho.block with ⟨rfl, _, _⟩ | ⟨g, cs, rfl, _, hh, _⟩
  · exact h.grown hb (fun _ _ _ => by simp [Value.ownBlock])
  · exact h.far hb hh hS
/-- the values of a row as rows of bytes -/
def AsRows (w : World) (T : Nat → TypeId → Prop) (vs : List Value) (ls : List (List UInt8)) : Prop :=
  vs.length = ls.length ∧ ∀ (j : Nat) (l : List UInt8), ls[j]? = some l → ∃ (B : Option Addr) (c : Nat), vs[j]? = some (Value.slice B l.length c) ∧ RB w T B l
theorem OwnV.rbs {T : Nat → TypeId → Prop} {ls : List (List UInt8)} (h : OwnV w E base A c vs) (hr : AsRows w T vs ls) : RBs w (fun _ _ => True) T A ls := by
  intro hl
  rcases h.block with ⟨_, _, rfl⟩ | ⟨g, cs, rfl, hg, hh, _, _, _, h4⟩
  · have := hr.1; simp at this; omega
  · refine ⟨g, 0, cs, E, (0, 0), rfl, hh, trivial, fun j l hj => ?_⟩
    obtain ⟨B, d, h1, h2⟩ := hr.2 j l hj
    refine ⟨B, d, ?_, h2⟩
    have hjl : j < vs.length := (List.getElem?_eq_some_iff.1 h1).1
    have : (cs.toList.take vs.length)[j]? = vs[j]? := by rw [h4]
    rw [List.getElem?_take, if_pos hjl, h1] at this
    simpa using this
theorem AsRows.nil (w : World) (T : Nat → TypeId → Prop) : AsRows w T [] [] := ⟨rfl, fun j l h => by simp at h⟩
theorem AsRows.snoc {T : Nat → TypeId → Prop} {ls : List (List UInt8)} (h : AsRows w T vs ls) {B : Option Addr} {d : Nat} {l : List UInt8} (hl : RB w T B l) : AsRows w T (vs ++ [Value.slice B l.length d]) (ls ++ [l]) := by
  refine ⟨by simp [h.1], fun j m hj => ?_⟩
  rw [List.getElem?_append] at hj
  split at hj
  · rename_i hlt
    obtain ⟨B', d', h1, h2⟩ := h.2 j m hj
    exact ⟨B', d', by rw [List.getElem?_append, if_pos (by rw [h.1]; exact hlt)]; exact h1, h2⟩
  · rename_i hge
    have hj0 : j - ls.length = 0 := by
      have := (List.getElem?_eq_some_iff.1 hj).1
      simp at this
      omega
    rw [hj0] at hj
    simp at hj
    subst hj
    have : j = vs.length := by rw [h.1]; omega
    subst this
    exact ⟨B, d, by simp, hl⟩
theorem AsRows.ext {T : Nat → TypeId → Prop} {ls : List (List UInt8)} (h : AsRows w T vs ls) (hb : Ext w w') : AsRows w' T vs ls :=
  ⟨h.1, fun j l hj => (h.2 j l hj).imp fun _ ⟨c, h1, h2⟩ => ⟨c, h1, h2.ext hb⟩⟩
theorem AsRows.ownV {T : Nat → TypeId → Prop} {us : List Value} {ls : List (List UInt8)} (h : AsRows w T us ls) (ho : OwnV w E base A c vs) (hb : w.grownBy w' (Value.slice A vs.length c).ownBlock) (hS : ∀ g, ¬ T g E) : AsRows w' T us ls :=
  ⟨h.1, fun j l hj => (h.2 j l hj).imp fun _ ⟨c, h1, h2⟩ => ⟨c, h1, h2.ownV ho hb hS⟩⟩
end

/-- 'out = append(out, x)', x of one cell -/
theorem wpList_append_one {P : Program} (w : World) {ops : Array Oper} {rest : List Oper} {o : Oper} {a : Act} {Q : Exit → Act → World → Prop} (hgd : o.guard = none) (s x : Operand) (t : TypeId)
    (ho : o.op = .call { callee := .builtin .append, args := #[s, x], argTypes := #[t, t] })
    (base : Nat) (E : TypeId) (i : TypeInfo) (z : Value) (bytes : Nat) (ht : P.underlying t = some (.slice E)) (hi : P.info? E = some i) (hz : i.zero = some z) (hsz : i.size = 1) (hy : i.bytes = bytes) (hzs : z.cells.size = 1)
    (A : Option Addr) (c : Nat) (vs : List Value) (hs : a.eval s = .slice A vs.length c) (hown : OwnV w E base A c vs) (g : Nat) (v : Value) (hx : a.eval x = .slice (some ⟨g, 0, none⟩) 1 1) (hc : w.cell? ⟨g, 0, none⟩ = some v) (h1 : v.oneCell' = true)
    (hlen : vs.length + 1 ≤ maxLen) (hbytes : (vs.length + 1) * bytes ≤ 140737488355328) (hbase : base ≤ w.heap.size)
    (h : ∀ A' c' w', OwnV w' E base A' c' (vs ++ [v]) → w.grownBy w' (Value.slice A vs.length c).ownBlock → wpList P ops Q rest (a.put o.dst (.slice A' (vs ++ [v]).length c')) w') : wpList P ops Q (o :: rest) a w := by
  obtain ⟨v', w', hrun, h2, h3, _, _⟩ := run_append_own_at (P := P) w base t o.type E i z 1 bytes ht hi hz hsz hy hzs (by omega) (.slice A vs.length c) vs.length vs hown ⟨g, 0, none⟩ 1 1 [v] rfl
    (fun j u hj => by
      match j, hj with
      | 0, hj =>
        simp at hj
        subst hj
        exact hc) (fun u hu => by simp at hu; subst hu; exact h1) hlen hbytes hbase
  have h' : w'.ownsRow base E 1 v' (vs ++ [v]).length (vs ++ [v]) := by rw [List.length_append]; exact h2
  have shape : ∃ A' c', v' = .slice A' (vs ++ [v]).length c' := by
    rcases h'.2 with ⟨rfl, hn⟩ | ⟨g, cap, cs, rfl, _⟩
    · exact ⟨none, 0, by rw [hn]⟩
    · exact ⟨_, _, rfl⟩
  obtain ⟨A', c', rfl⟩ := shape
  refine wpList_plain hgd fun K hK => ?_
  unfold Oper.wp execOp
  simp only [ho, resolve, invoke, builtin, Sem.run_bind, Sem.run_pure, Result.andThen_ok, List.map_toArray, List.map_cons, List.map_nil, hs, hx, hrun]
  exact hK _ _ (h A' c' w' h' h3)

end Go.Proofs.Ytgbdckiojjmncaa
